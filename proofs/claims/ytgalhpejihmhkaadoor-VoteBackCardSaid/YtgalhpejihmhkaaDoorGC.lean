/-
  Texts of this claim, put together: KHash, VChk, KApp, KEq0, KObj0. What each one says, and under which conditions, stands ahead of it.
-/
import Derived.Deep.AppendLies
import Derived.ChangeKeysEq
import Derived.Test.YtgalhpejihmhkaaDoorGB
import Derived.Test.YtgalhpejihmhkaaDoorGA

section
/-
  What Sum answers in this program: the hash of bytes. Conditions: a slice of at most 10^9 bytes; the table of turns lies in its variable.
-/
namespace Go.Proofs.YtgalhpejihmhkaaDoor
open Go.RowKit Go.Shelf
set_option linter.unusedVariables false
namespace Kk

theorem size_zsp : Tryd.zeroCells78.size = 188 := by rfl
theorem by_zero136 : By zero136 := fun z hz => by rw [List.eq_of_mem_replicate hz]; exact ⟨by decide, by decide⟩
theorem hd_nil : Hd [] zero zero136 0 := Hd.nil (by simp) by_zero136
/-- Bytes that may be read. -/
structure Src (w : World) (P : Option Addr) (n c : Nat) (zs : List Int) : Prop where
  ints : Ints .u8 w P n zs
  cap : n ≤ c
  max : c ≤ maxLen
  by_ : By zs
theorem Src.bel {w w' : World} {P : Option Addr} {n c : Nat} {zs : List Int} (h : Src w P n c zs) (hb : Bel w w') : Src w' P n c zs := ⟨h.ints.bel hb, h.cap, h.max, h.by_⟩

set_option maxRecDepth 100000 in
set_option maxHeartbeats 2000000 in
theorem hashSum' (P : Option Addr) (sn sc : Nat) (zs : List Int) (w : World) (hz : Src w P sn sc zs) (hP : 0 < sn → ∀ x, P = some x → x.block < w.heap.size) (hl : sn ≤ 1000000000) (hT : Tn w) :
    Calls Tryd.prog 10 #[.slice P sn sc] w fun e w' => e = .returned (hsV (sumOf zs)) ∧ Bel w w' := by
  have h0 := hT.1
  have HZ := Lib.hid hz
  have HT := Lib.hid hT
  have HP := Lib.hid hP
  obtain ⟨h, hh⟩ : ∃ h, h = w.heap.size := ⟨_, rfl⟩
  have HH := Lib.hid hh
  clear hz hT hP hh
  go_enter Tryd.func10, Tryd.ntmps10
  go_wp2_with fail
  have B1 := Lib.hid ((Bel.refl w).alloc Z32h)
  have T1 := Lib.hid (show (w.alloc Z32h).there h 0 32 by rw [HH.out]; exact there_newK (by decide))
  refine (newSponge _).mono ?_
  rintro e w1 ⟨rfl, h1⟩
  have H1 := Lib.hid (B1.out.trans h1)
  have TH1 := Lib.hid (there_bel T1.out h1)
  clear h1 T1 B1
  obtain ⟨C, hC⟩ : ∃ C, C = spCells zero 0 zero136 0 0 := ⟨_, rfl⟩
  have HC := Lib.hid hC
  have HCl := Lib.hid (show C.length = 188 by rw [hC]; exact len_sp len_zero (by rfl) _ _ _)
  have HCs := Lib.hid (show C.toArray.size = 188 by rw [List.size_toArray]; exact HCl.out)
  have HCo := Lib.hid (all_oneCell_toArray (cs := C) (by rw [hC]; exact all_sp _ _ _ _ _))
  have HI := Lib.hid (show (Tryd.prog.info? 78).map (·.size) = some C.toArray.size by rw [HCs.out]; exact info_sp)
  rw [show spV zero 0 zero136 0 0 = .agg C.toArray by rw [hC]]
  have TS := Lib.hid (show (w1.alloc (.cells Tryd.zeroCells78 78)).there w1.heap.size 0 C.toArray.size by rw [HCs.out]; exact there_newK (by rw [size_zsp]; exact Nat.le_refl _))
  clear hC
  go_wp2_with (refine wpList_store_mid rfl 78 (.tmp 3) (.tmp 4) rfl w1.heap.size 0 C.toArray rfl rfl TS.out HI.out HCo.out ?_)
  obtain ⟨b, hb⟩ : ∃ b, b = w1.heap.size := ⟨_, rfl⟩
  have B2 : Bel w1 ((w1.alloc (.cells Tryd.zeroCells78 78)).setCells w1.heap.size 0 C) := Kep.bel ((Bel.refl w1).alloc _) (kep_setCellsK _ _ _ _) (fun i hi => by rw [hi]; exact Nat.le_refl _)
  have S2 : Sp ((w1.alloc (.cells Tryd.zeroCells78 78)).setCells w1.heap.size 0 C) b 78 [] zero 0 zero136 (0 : Nat) (([] : List Int).length : Nat) := by
    refine ⟨?_, len_zero, by simp⟩
    rw [hb, List.nil_append]
    have := Blk.whole (vs := C) (Blk.new w1 Tryd.zeroCells78 78) (by rw [HCl.out]; exact size_zsp)
    rw [HC.out] at this ⊢
    exact this
  obtain ⟨w2, hw2⟩ : ∃ w2, (w1.alloc (.cells Tryd.zeroCells78 78)).setCells w1.heap.size 0 C = w2 := ⟨_, rfl⟩
  rw [hw2] at B2 S2 ⊢
  rw [← hb]
  have H2 := Lib.hid (H1.out.trans B2)
  have hbw : w.heap.size ≤ b := by rw [hb]; exact Below.size H1.out
  have hbh : h < b := by
    have := H1.out
    have hs := Below.size this
    have := TH1.out 0 (by omega)
    obtain ⟨v, hv⟩ := Option.isSome_iff_exists.1 this.1
    have := World.block_lt_of_cell? w1 _ hv
    rw [hb]
    exact this
  have TH2 := Lib.hid (there_bel TH1.out B2)
  have HS2 := Lib.hid S2
  have TK := Lib.hid (take b 78 [] zero 0 zero136 0 [] P sn sc zs w2 S2 hd_nil (HZ.out.ints.bel H2.out) HZ.out.cap HZ.out.max HZ.out.by_ (fun h0 x hx => by have := HP.out h0 x hx; omega) (HT.out.bel H2.out) (by omega) (by simp; omega))
  clear hw2 B2 S2 TS HI HCo HCs HCl HC hb TH1 H1
  refine (TK.out).mono ?_
  rintro e w3 ⟨rfl, ⟨A', r', bs', c', hs, hh⟩, hk⟩
  rw [List.nil_append] at hs hh
  have HH3 := Lib.hid hh
  have H3 := Lib.hid (Kep.bel H2.out hk (fun i hi => by rw [hi]; exact hbw))
  have TH3 := Lib.hid (there_kep TH2.out hk (by omega))
  obtain ⟨D, hD⟩ : ∃ D, D = spCells A' r' bs' (c' : Nat) (zs.length : Nat) := ⟨_, rfl⟩
  have HDl := Lib.hid (show (Tryd.prog.info? 78).map (·.size) = some D.length by rw [hD, len_sp hs.la hs.lb]; exact info_sp)
  have RD := Lib.hid (show w3.rangeAt b 0 D by rw [hD]; exact hs.range)
  have hA' := hs.la
  have SM := Lib.hid (show Calls Tryd.prog 36 #[.agg D.toArray] w3 fun e w' => e = .returned (hsV (sumOf zs)) ∧ Bel w3 w' by
    rw [hD]; exact sum A' r' bs' c' zs (zs.length : Nat) w3 hA' hh (HT.out.bel H3.out))
  clear hs hh hk hD TK HS2 TH2 H2
  go_wp2_with (refine wpList_load_mid rfl 78 (.tmp 3) rfl b 0 rfl D _ RD.out Tryd.underlying78 rfl HDl.out ?_)
  refine (SM.out).mono ?_
  rintro e w4 ⟨rfl, h4⟩
  obtain ⟨Y, hY⟩ : ∃ Y, Y = (sumOf zs).map B8 := ⟨_, rfl⟩
  rw [show hsV (sumOf zs) = .agg Y.toArray by rw [hY]]
  have HYl := Lib.hid (show Y.length = 32 by rw [hY, List.length_map]; exact len_hashOf _)
  have HYs := Lib.hid (show Y.toArray.size = 32 by rw [List.size_toArray]; exact HYl.out)
  have HYo := Lib.hid (all_oneCell_toArray (cs := Y) (by rw [hY]; exact ints_b8 _))
  have HYi := Lib.hid (show (Tryd.prog.info? 23).map (·.size) = some Y.toArray.size by rw [HYs.out]; exact info_hash)
  have TH4 := Lib.hid (show w4.there h 0 Y.toArray.size by rw [HYs.out]; exact there_bel TH3.out h4)
  have H4 := Lib.hid (H3.out.trans h4)
  have HYY := Lib.hid hY
  clear h4 hY SM RD
  rw [← HH.out]
  go_wp2_with (refine wpList_store_mid rfl 23 (.tmp 2) (.tmp 8) rfl h 0 Y.toArray rfl rfl TH4.out HYi.out HYo.out ?_)
  have RE : (w4.setCells h 0 Y).rangeAt h 0 Y := World.rangeAt_setCells_same _ _ _ _ (by have := TH4.out; rw [HYs.out] at this; rw [HYl.out]; exact this)
  refine bodyPost_ret (results_c1 Tryd.results10 _ _ ⟨h, 0, none⟩ _ rfl (run_loadVar_mid (P := Tryd.prog) _ h 0 23 Y _ RE Tryd.underlying23 rfl (by rw [HYl.out]; exact info_hash))) rfl ⟨by rw [HYY.out], ?_⟩
  exact Kep.bel H4.out (kep_setCellsK h Y 0 w4) (fun i hi => by rw [hi, HH.out]; exact Nat.le_refl _)
theorem hashSum (P : Option Addr) (sn sc : Nat) (zs : List Int) (w : World) (hz : Src w P sn sc zs) (hP : ∀ x, P = some x → x.block < w.heap.size) (hl : sn ≤ 1000000000) (hT : Tn w) :
    Calls Tryd.prog 10 #[.slice P sn sc] w fun e w' => e = .returned (hsV (sumOf zs)) ∧ Bel w w' := hashSum' P sn sc zs w hz (fun _ => hP) hl hT
/-- A slice that may be read is enough. -/
theorem hashSumS (P : Option Addr) (sn sc : Nat) (zs : List Int) (w : World) (hz : Src w P sn sc zs) (hl : sn ≤ 1000000000) (hT : Tn w) :
    Calls Tryd.prog 10 #[.slice P sn sc] w fun e w' => e = .returned (hsV (sumOf zs)) ∧ Bel w w' := hashSum' P sn sc zs w hz (fun h0 x hx => by
      obtain ⟨b, o, e, hb, _⟩ := hz.ints.2 h0
      rw [e] at hx
      cases hx
      exact hb) hl hT
end Kk
end Go.Proofs.YtgalhpejihmhkaaDoor
end

section
/-
  What vote.within, Check and CheckBlock answer in this program. No condition.
-/
namespace Go.Proofs.YtgalhpejihmhkaaDoor
open Go.RowKit Go.Shelf
set_option linter.unusedVariables false
namespace Vt
open Kk

/-- Is a number within its bounds? -/
def okB (x : Int × Int × Int) : Bool := decide (x.2.1 ≤ x.1) && decide (x.1 ≤ x.2.2)
def wthE (bs : List (Int × Int × Int)) : Int := if bs.all okB = true then 0 else 3

set_option maxRecDepth 100000 in
set_option maxHeartbeats 2000000 in
theorem within (b o n c : Nat) (bs : List (Int × Int × Int)) (w : World) (hl : bs.length = n) (hn : n ≤ 1000)
    (hc : ∀ i, i < n → w.cell? ⟨b, o + i * 3, none⟩ = some (.int .i64 (bs.getD i (0, 0, 0)).1) ∧ w.cell? ⟨b, o + i * 3 + 1, none⟩ = some (.int .i64 (bs.getD i (0, 0, 0)).2.1) ∧ w.cell? ⟨b, o + i * 3 + 2, none⟩ = some (.int .i64 (bs.getD i (0, 0, 0)).2.2)) (hb : 0 < n → b < w.heap.size) :
    Calls Tryd.prog 38 #[.slice (some ⟨b, o, none⟩) n c] w fun e w' => e = .returned (.int .i64 (wthE bs)) ∧ Bel w w' := by
  have HC := Lib.hid hc
  have HL := Lib.hid hl
  clear hc hl
  go_enter Tryd.func38, Tryd.ntmps38
  go_wp2_with fail
  go_loopw [7] (fun i wr => ∃ k : Nat, i = .int .i64 k ∧ k ≤ n ∧ (∀ j, j < k → okB (bs.getD j (0, 0, 0)) = true) ∧ Bel w wr) (fun i _ => n - (intOf i).toNat)
  case atStart => exact ⟨0, rfl, Nat.zero_le _, fun j hj => absurd hj (by omega), Bel.refl _⟩
  case round =>
    obtain ⟨k, rfl, hk, hok, hbl⟩ := hrel
    by_cases hlt : k < n
    · obtain ⟨h1, h2, h3⟩ := HC.out k hlt
      have c1 : wr.cell? ⟨b, o + k * 3, none⟩ = _ := (Below.cell (p := ⟨b, o + k * 3, none⟩) hbl (hb (by omega))).trans h1
      have c2 : wr.cell? ⟨b, o + k * 3 + 1, none⟩ = _ := (Below.cell (p := ⟨b, o + k * 3 + 1, none⟩) hbl (hb (by omega))).trans h2
      have c3 : wr.cell? ⟨b, o + k * 3 + 2, none⟩ = _ := (Below.cell (p := ⟨b, o + k * 3 + 2, none⟩) hbl (hb (by omega))).trans h3
      have HB := Lib.hid hbl
      obtain ⟨x, hx⟩ : ∃ x, bs.getD k (0, 0, 0) = x := ⟨_, rfl⟩
      have hmem : x ∈ bs := by
        rw [← hx, List.getD_eq_getElem?_getD, List.getElem?_eq_getElem (by rw [HL.out]; exact hlt)]
        exact List.getElem_mem _
      rw [hx] at c1 c2 c3
      have HX := Lib.hid hx
      have HOK := Lib.hid hok
      obtain ⟨p, q, r⟩ := x
      simp only at c1 c2 c3
      clear h1 h2 h3 hbl hx hok
      by_cases hbad : okB (p, q, r) = true
      · have h12 : q ≤ p ∧ p ≤ r := by simpa [okB] using hbad
        have n1 : ¬ p < q := by omega
        have n2 : ¬ r < p := by omega
        have HK := Lib.hid (show ∀ j, j < k + 1 → okB (bs.getD j (0, 0, 0)) = true from fun j hj => by
          rcases Nat.lt_or_ge j k with h | h
          · exact HOK.out j h
          · obtain rfl : j = k := by omega
            rw [HX.out]; exact hbad)
        go_wp2
        go_roundw
        case rel => exact ⟨k + 1, by go_num, by omega, HK.out, HB.out.alloc _⟩
        case measure => simp [intOf] <;> omega
      · have HE := Lib.hid (show wthE bs = 3 by
          unfold wthE
          rw [if_neg (fun h => hbad (List.all_eq_true.1 h _ hmem))])
        by_cases h1 : p < q
        · go_wp2
          go_ret
          rw [HE.out]
          exact ⟨rfl, HB.out.alloc _⟩
        · have h2 : r < p := by
            rcases Int.lt_or_le r p with h | h
            · exact h
            · exact absurd (show okB (p, q, r) = true by simp [okB]; omega) hbad
          go_wp2
          go_ret
          rw [HE.out]
          exact ⟨rfl, HB.out.alloc _⟩
    · obtain rfl : k = n := by omega
      have HE := Lib.hid (show wthE bs = 0 by
        unfold wthE
        rw [if_pos (List.all_eq_true.2 fun x hx => by
          obtain ⟨i, hi, rfl⟩ := List.getElem_of_mem hx
          have h := hok i (by rw [← HL.out]; exact hi)
          rwa [List.getD_eq_getElem?_getD, List.getElem?_eq_getElem hi] at h)])
      have HB := Lib.hid hbl
      clear hok hbl
      go_wp2
      go_ret
      rw [HE.out]
      exact ⟨rfl, HB.out⟩

/-- The cells of an attestation, of a proposal. -/
def attC (v s t : Int) (hs : List Int) (tag : Int) : List Value := [.int .i64 v, .int .i64 s, .int .i64 t] ++ (hs.map B8 ++ [.int .u64 tag])
def propC (v h : Int) (hs : List Int) (tag : Int) : List Value := [.int .i64 v, .int .i64 h] ++ (hs.map B8 ++ [.int .u64 tag])
theorem len_attC {hs : List Int} (h : hs.length = 32) (v s t tag : Int) : (attC v s t hs tag).length = 36 := by simp [attC, h]
theorem len_propC {hs : List Int} (h : hs.length = 32) (v s tag : Int) : (propC v s hs tag).length = 35 := by simp [propC, h]
def chkE (v s t : Int) : Int := wthE [(v, 0, 31), (s, 0, 4294967296), (t, 0, 4294967296)]
def chkBE (v h : Int) : Int := wthE [(v, 0, 31), (h, 1, 4294967296)]

set_option maxRecDepth 100000 in
set_option maxHeartbeats 2000000 in
theorem check (v s t tag : Int) (hs : List Int) (w : World) (hl : hs.length = 32) :
    Calls Tryd.prog 16 #[.agg (attC v s t hs tag).toArray] w fun e w' => e = .returned (.int .i64 (chkE v s t)) ∧ Bel w w' := by
  obtain ⟨D, hD⟩ : ∃ D, D = attC v s t hs tag := ⟨_, rfl⟩
  rw [← hD]
  obtain ⟨w1, hw1⟩ : ∃ w1, w.alloc (.cells D.toArray 26) = w1 := ⟨_, rfl⟩
  have BD : Blk w1 w.heap.size D.toArray 26 := by rw [← hw1]; exact Blk.new w _ _
  have B1 := Lib.hid (show Bel w w1 by rw [← hw1]; exact (Bel.refl w).alloc _)
  have c0 : w1.cell? ⟨w.heap.size, 0, none⟩ = some (.int .i64 v) := BD.cell 0 (by rw [hD]; rfl)
  have c1 : w1.cell? ⟨w.heap.size, 1, none⟩ = some (.int .i64 s) := BD.cell 1 (by rw [hD]; rfl)
  have c2 : w1.cell? ⟨w.heap.size, 2, none⟩ = some (.int .i64 t) := BD.cell 2 (by rw [hD]; rfl)
  have HW1 := Lib.hid hw1
  clear hD BD hw1
  go_enter Tryd.func16, Tryd.ntmps16
  go_upto_region 1 with fail
  rw [HW1.out]
  go_wp2_with fail
  have N := Blk.new w1 #[.int .i64 v, .int .i64 0, .int .i64 31, .int .i64 s, .int .i64 0, .int .i64 4294967296, .int .i64 t, .int .i64 0, .int .i64 4294967296] 84
  refine (within w1.heap.size 0 3 3 [(v, 0, 31), (s, 0, 4294967296), (t, 0, 4294967296)] _ rfl (by decide) (fun i hi => ?_) (fun _ => N.lt)).mono ?_
  · match i, hi with
    | 0, _ => exact ⟨N.cell 0 rfl, N.cell 1 rfl, N.cell 2 rfl⟩
    | 1, _ => exact ⟨N.cell 3 rfl, N.cell 4 rfl, N.cell 5 rfl⟩
    | 2, _ => exact ⟨N.cell 6 rfl, N.cell 7 rfl, N.cell 8 rfl⟩
  rintro e w2 ⟨rfl, k2⟩
  have B2 := Lib.hid ((B1.out.alloc _).trans k2)
  clear k2 N
  go_wp2
  go_ret
  exact ⟨rfl, B2.out⟩

set_option maxRecDepth 100000 in
set_option maxHeartbeats 2000000 in
theorem checkBlock (v h tag : Int) (hs : List Int) (w : World) (hl : hs.length = 32) :
    Calls Tryd.prog 17 #[.agg (propC v h hs tag).toArray] w fun e w' => e = .returned (.int .i64 (chkBE v h)) ∧ Bel w w' := by
  obtain ⟨D, hD⟩ : ∃ D, D = propC v h hs tag := ⟨_, rfl⟩
  rw [← hD]
  obtain ⟨w1, hw1⟩ : ∃ w1, w.alloc (.cells D.toArray 28) = w1 := ⟨_, rfl⟩
  have BD : Blk w1 w.heap.size D.toArray 28 := by rw [← hw1]; exact Blk.new w _ _
  have B1 := Lib.hid (show Bel w w1 by rw [← hw1]; exact (Bel.refl w).alloc _)
  have c0 : w1.cell? ⟨w.heap.size, 0, none⟩ = some (.int .i64 v) := BD.cell 0 (by rw [hD]; rfl)
  have c1 : w1.cell? ⟨w.heap.size, 1, none⟩ = some (.int .i64 h) := BD.cell 1 (by rw [hD]; rfl)
  have HW1 := Lib.hid hw1
  clear hD BD hw1
  go_enter Tryd.func17, Tryd.ntmps17
  go_upto_region 1 with fail
  rw [HW1.out]
  go_wp2_with fail
  have N := Blk.new w1 #[.int .i64 v, .int .i64 0, .int .i64 31, .int .i64 h, .int .i64 1, .int .i64 4294967296] 84
  refine (within w1.heap.size 0 2 2 [(v, 0, 31), (h, 1, 4294967296)] _ rfl (by decide) (fun i hi => ?_) (fun _ => N.lt)).mono ?_
  · match i, hi with
    | 0, _ => exact ⟨N.cell 0 rfl, N.cell 1 rfl, N.cell 2 rfl⟩
    | 1, _ => exact ⟨N.cell 3 rfl, N.cell 4 rfl, N.cell 5 rfl⟩
  rintro e w2 ⟨rfl, k2⟩
  have B2 := Lib.hid ((B1.out.alloc _).trans k2)
  clear k2 N
  go_wp2
  go_ret
  exact ⟨rfl, B2.out⟩
end Vt
end Go.Proofs.YtgalhpejihmhkaaDoor
end

section
/-
  An append of bytes at a step of a region that draws its order. No condition.
-/
namespace Go.Proofs.YtgalhpejihmhkaaDoor
open Go.RowKit Go.Shelf
set_option linter.unusedVariables false
namespace Kk

theorem wp_append_sl {w : World} {o : Oper} {a : Act} {K : Act → World → Prop} {Q : Exit → Act → World → Prop} (s x : Operand)
    (ho : o.op = .call { callee := .builtin .append, args := #[s, x], argTypes := #[29, 29] })
    (base : Nat) (v : Value) (k : Nat) (xs : List Value) (hs : a.eval s = v) (hown : w.ownsRow base 5 1 v k xs) (A : Option Addr) (m c : Nat) (zs : List Int) (hx : a.eval x = .slice A m c) (hi : Sl w A m c zs)
    (hm : k + m ≤ 1000000000000) (hb : base ≤ w.heap.size)
    (h : ∀ v' w', w'.ownsRow base 5 1 v' (k + m) (xs ++ zs.map (Value.int .u8)) → w.grownBy w' v.ownBlock → K (a.put o.dst v') w') : o.wp Tryd.prog a w K Q := by
  obtain ⟨i0, h1, hz0, hz1, hz2⟩ := info_parts Tryd.info_u8
  cases A with
  | none =>
    obtain rfl : c = 0 := hi.nil rfl
    obtain rfl : m = 0 := by have := hi.cap; omega
    have hz : zs = [] := List.length_eq_zero_iff.1 hi.ints.1
    subst hz
    have hrun := run_append_owned_none (P := Tryd.prog) (w := w) base 29 o.type 5 i0 1 Tryd.underlying29 h1 v k xs hown
    unfold Oper.wp
    simp [execOp, ho, resolve, invoke, builtin, hs, hx, hrun, Result.andThen]
    exact h v w (by simpa using hown) ⟨rfl, rfl, rfl, Nat.le_refl _, fun _ _ _ => rfl⟩
  | some ad =>
    obtain ⟨v', w', hr, h2, h3, _, _⟩ := run_append_own_at (P := Tryd.prog) w base 29 o.type 5 i0 (.int .u8 0) 1 1 Tryd.underlying29 h1 hz0 hz1 hz2 rfl (by decide) v k xs hown ad m c (zs.map (Value.int .u8)) (by have := hi.ints.1; simp; omega) (Ints.news hi.ints) (ints_ok zs) (by unfold maxLen; omega) (by omega) hb
    unfold Oper.wp execOp
    simp only [ho, resolve, invoke, builtin, Sem.run_bind, Sem.run_pure, Result.andThen_ok, List.map_toArray, List.map_cons, List.map_nil, hs, hx, hr]
    exact h v' w' h2 h3

theorem step_append_sl {w : World} {ops : Array Oper} {o : Oper} {a : Act} {K : Act → World → Prop} {Q : Exit → Act → World → Prop} {E : Prop} (hgd : o.guard = none) (s x : Operand)
    (ho : o.op = .call { callee := .builtin .append, args := #[s, x], argTypes := #[29, 29] })
    (base : Nat) (v : Value) (k : Nat) (xs : List Value) (hs : a.eval s = v) (hown : w.ownsRow base 5 1 v k xs) (A : Option Addr) (m c : Nat) (zs : List Int) (hx : a.eval x = .slice A m c) (hi : Sl w A m c zs)
    (hm : k + m ≤ 1000000000000) (hb : base ≤ w.heap.size)
    (h : ∀ v' w', w'.ownsRow base 5 1 v' (k + m) (xs ++ zs.map (Value.int .u8)) → w.grownBy w' v.ownBlock → K (a.put o.dst v') w') :
    if Region.wanted o (yielded ops a.tmps) = true then Oper.wp Tryd.prog o a w K Q else E := by
  rw [if_pos (by simp [Region.wanted, hgd])]
  exact wp_append_sl s x ho base v k xs hs hown A m c zs hx hi hm hb h
end Kk
end Go.Proofs.YtgalhpejihmhkaaDoor
end

section
/-
  When two arrays of numbers are one: hashes.
-/
namespace Go.Proofs.YtgalhpejihmhkaaDoor
open Go.RowKit Go.Shelf
set_option linter.unusedVariables false
namespace Kk

theorem part_int {P : Program} {e : TypeId} {q : IntKind} (hu : P.underlying e = some (.int q)) {xs : Array Value} {i : Nat} {v : Value} (hx : xs[i]? = some v) (w : World) : (part e xs i).run P w = .ok v w := by
  simp [part, isAgg, run_underlying hu, hx]
theorem eqItems_ints {P : Program} (d : Nat) {e : TypeId} {q : IntKind} (hu : P.underlying e = some (.int q)) (A B : List Int) (w : World) : ∀ (is : List Nat), (∀ i ∈ is, i < A.length ∧ i < B.length) →
    (Op.eqItems (d + 1) e 1 (A.map (Value.int q)).toArray (B.map (Value.int q)).toArray is).run P w = .ok (is.all fun i => A.getD i 0 == B.getD i 0) w
  | [], _ => by simp [Op.eqItems]
  | i :: is, h => by
    obtain ⟨ha, hb⟩ := h i (by simp)
    have p1 : (part e (A.map (Value.int q)).toArray (i * 1)).run P w = .ok (.int q (A.getD i 0)) w := part_int hu (by rw [Nat.mul_one, List.getElem?_toArray, List.getElem?_map, List.getElem?_eq_getElem ha, getD_eq _ _ ha]; rfl) w
    have p2 : (part e (B.map (Value.int q)).toArray (i * 1)).run P w = .ok (.int q (B.getD i 0)) w := part_int hu (by rw [Nat.mul_one, List.getElem?_toArray, List.getElem?_map, List.getElem?_eq_getElem hb, getD_eq _ _ hb]; rfl) w
    have p3 := run_equalIn_int (P := P) w d e q q (A.getD i 0) (B.getD i 0) hu
    have ih := eqItems_ints d hu A B w is (fun j hj => h j (List.mem_cons_of_mem _ hj))
    simp only [Op.eqItems, Sem.run_bind, p1, p2, p3, Result.andThen_ok, List.all_cons]
    cases hc : (A.getD i 0 == B.getD i 0)
    · simp
    · simpa using ih
theorem all_eq {A B : List Int} {n : Nat} (ha : A.length = n) (hb : B.length = n) : ((List.range n).all fun i => A.getD i 0 == B.getD i 0) = (A == B) := by
  rw [Bool.eq_iff_iff, List.all_eq_true, beq_iff_eq]
  constructor
  · intro h
    apply List.ext_getElem (ha.trans hb.symm)
    intro i h1 h2
    have := h i (List.mem_range.2 (by omega))
    rw [beq_iff_eq, getD_eq _ _ h1, getD_eq _ _ h2] at this
    exact this
  · rintro rfl i _
    simp
theorem eqIn_ints {P : Program} (d : Nat) {t e : TypeId} {n : Nat} {q : IntKind} {i : TypeInfo} (ht : P.underlying t = some (.array n e)) (hu : P.underlying e = some (.int q)) (hi : P.info? e = some i) (h1 : P.cellsOf e = 1)
    (A B : List Int) (ha : A.length = n) (hb : B.length = n) (w : World) :
    (Op.equalIn (d + 2) t (.agg (A.map (Value.int q)).toArray) (.agg (B.map (Value.int q)).toArray)).run P w = .ok (A == B) w := by
  rw [run_equalIn_array w (d + 1) _ _ ht hi, h1, eqItems_ints d hu A B w _ (fun i hi => by have := List.mem_range.1 hi; omega), all_eq ha hb]
theorem eql_ints {P : Program} {t e : TypeId} {n : Nat} {q : IntKind} {i : TypeInfo} (ht : P.underlying t = some (.array n e)) (hu : P.underlying e = some (.int q)) (hi : P.info? e = some i) (h1 : P.cellsOf e = 1)
    (A B : List Int) (ha : A.length = n) (hb : B.length = n) (w : World) :
    (binOp .eql t (.agg (A.map (Value.int q)).toArray) (.agg (B.map (Value.int q)).toArray)).run P w = .ok (.bool (A == B)) w := by
  simp only [binOp]
  simp [Op.equal, Op.maxDepth, eqIn_ints 9998 ht hu hi h1 A B ha hb w]
theorem neq_ints {P : Program} {t e : TypeId} {n : Nat} {q : IntKind} {i : TypeInfo} (ht : P.underlying t = some (.array n e)) (hu : P.underlying e = some (.int q)) (hi : P.info? e = some i) (h1 : P.cellsOf e = 1)
    (A B : List Int) (ha : A.length = n) (hb : B.length = n) (w : World) :
    (binOp .neq t (.agg (A.map (Value.int q)).toArray) (.agg (B.map (Value.int q)).toArray)).run P w = .ok (.bool (!(A == B))) w := by
  simp only [binOp]
  simp [Op.equal, Op.maxDepth, eqIn_ints 9998 ht hu hi h1 A B ha hb w]

theorem eql_hs (A B : List Int) (ha : A.length = 32) (hb : B.length = 32) (w : World) : (binOp .eql 23 (hsV A) (hsV B)).run Tryd.prog w = .ok (.bool (A == B)) w := by
  obtain ⟨i, hi⟩ := info_of_underlying Tryd.underlying5
  exact eql_ints Tryd.underlying23 Tryd.underlying5 hi (by kernel_rfl) A B ha hb w
theorem neq_hs (A B : List Int) (ha : A.length = 32) (hb : B.length = 32) (w : World) : (binOp .neq 23 (hsV A) (hsV B)).run Tryd.prog w = .ok (.bool (!(A == B))) w := by
  obtain ⟨i, hi⟩ := info_of_underlying Tryd.underlying5
  exact neq_ints Tryd.underlying23 Tryd.underlying5 hi (by kernel_rfl) A B ha hb w
theorem v_cells (K : List Wd) : K.map V = (K.map U).map (Value.int .u64) := by rw [List.map_map]; rfl
end Kk
end Go.Proofs.YtgalhpejihmhkaaDoor
end

section
/-
  A result that lies in a cell beside one that does not; the hash of noughts. No condition.
-/
namespace Go.Proofs.YtgalhpejihmhkaaDoor
open Go.RowKit Go.Shelf
set_option linter.unusedVariables false
namespace Kk

theorem results_ct {fn : Func} {p q : Tmp} {tp : TypeId} (h : fn.results = #[.cell p tp, .tmp q]) (tmps : Array Value) (w : World) (a : Addr) (X U : Value)
    (hp : tmps.getD p undef = .pointer (some a)) (hq : tmps.getD q undef = U) (hX : (loadVar tp a).run Tryd.prog w = .ok X w) :
    (results fn tmps).run Tryd.prog w = .ok (.tuple #[X, U]) w := by
  have hp' : tmps[p]?.getD undef = .pointer (some a) := by simpa using hp
  have hq' : tmps[q]?.getD undef = U := by simpa using hq
  simp [results, h, hp', hq', asAddr, hX]
abbrev Z32l : List Value := [.int .u8 0, .int .u8 0, .int .u8 0, .int .u8 0, .int .u8 0, .int .u8 0, .int .u8 0, .int .u8 0, .int .u8 0, .int .u8 0, .int .u8 0, .int .u8 0, .int .u8 0, .int .u8 0, .int .u8 0, .int .u8 0, .int .u8 0, .int .u8 0, .int .u8 0, .int .u8 0, .int .u8 0, .int .u8 0, .int .u8 0, .int .u8 0, .int .u8 0, .int .u8 0, .int .u8 0, .int .u8 0, .int .u8 0, .int .u8 0, .int .u8 0, .int .u8 0]
theorem z32_hs : Value.agg Z32l.toArray = hsV (List.replicate 32 0) := rfl

end Kk
end Go.Proofs.YtgalhpejihmhkaaDoor
end
