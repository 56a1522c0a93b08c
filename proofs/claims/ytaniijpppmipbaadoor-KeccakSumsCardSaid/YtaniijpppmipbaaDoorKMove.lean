/-
  What moveWords of a state answers in this program. Condition: the table of turns lies in its variable.
-/
import Derived.Test.YtaniijpppmipbaaDoorKBend
namespace Go.Proofs.YtaniijpppmipbaaDoor
open Go.RowKit Go.Shelf
set_option linter.unusedVariables false
namespace Kk

/-- By how many bits a place's word is turned; where it goes. -/
def rr (i : Nat) : Nat := R.getD i 0
theorem rr63 (i : Nat) : rr i ≤ 63 := by
  rcases Nat.lt_or_ge i 25 with h | h
  · have : ∀ m : Fin 25, rr m.1 ≤ 63 := by decide
    exact this ⟨i, h⟩
  · unfold rr
    rw [List.getD_eq_getElem?_getD, List.getElem?_eq_none (by simpa [R] using h)]
    exact Nat.zero_le _
def dst (i : Nat) : Nat := ((2 * (i % 5) + 3 * (i / 5)) % 5) * 5 + i / 5
theorem src_dst {i j : Nat} (hi : i < 25) (hj : j < 25) : j = dst i ↔ src j = i := by
  have : ∀ m : Fin 25, ∀ k : Fin 25, k.1 = dst m.1 ↔ src k.1 = m.1 := by decide
  exact this ⟨i, hi⟩ ⟨j, hj⟩
theorem dst_lt {i : Nat} (hi : i < 25) : dst i < 25 := by
  have : ∀ m : Fin 25, dst m.1 < 25 := by decide
  exact this ⟨i, hi⟩
def movedW (A : List Wd) (i : Nat) : Wd := rot (g A i) (rr i)
def moved (A : List Wd) (n : Nat) : List Wd := (List.range 25).map fun j => if src j < n then movedW A (src j) else g A j
theorem moved0 {A : List Wd} (h : A.length = 25) : moved A 0 = A := by
  unfold moved
  simp only [Nat.not_lt_zero, if_false]
  exact map_g h
theorem src_lt {j : Nat} (hj : j < 25) : src j < 25 := by
  have : ∀ m : Fin 25, src m.1 < 25 := by decide
  exact this ⟨j, hj⟩
theorem moved25 (A : List Wd) : moved A 25 = rhoPi A := by
  unfold moved rhoPi
  apply List.map_congr_left
  intro i hi
  rw [if_pos (src_lt (by simpa using hi))]
  rfl
theorem moved_succ (A : List Wd) {n : Nat} (hn : n < 25) : (moved A n).set (dst n) (movedW A n) = moved A (n + 1) := by
  unfold moved
  rw [set_map]
  apply List.map_congr_left
  intro j hj
  have hj : j < 25 := by simpa using hj
  by_cases h : j = dst n
  · rw [if_pos h, if_pos (by rw [(src_dst hn hj).1 h]; omega), (src_dst hn hj).1 h]
  · have h3 : src j ≠ n := fun e => h ((src_dst hn hj).2 e)
    rw [if_neg h]
    by_cases h2 : src j < n
    · rw [if_pos h2, if_pos (by omega)]
    · rw [if_neg h2, if_neg (by omega)]

/-- A word of a row that is a value. -/
theorem idx_word (t : TypeId) (n : Nat) (h : Tryd.prog.underlying t = some (.array n 24)) (cs : Array Value) (i : Nat) (v : Value) (hi : i < n) (hv : cs[i]? = some v) (w : World) :
    (Instr.index t (.agg cs) (.int .i64 (i : Int))).run Tryd.prog w = .ok v w := by
  have hn : 0 ≤ (i : Int) ∧ (i : Int) < (n : Int) := by omega
  have ha : ∀ w, (isAgg 24).run Tryd.prog w = .ok false w := Tryd.isAgg24
  have hs : ∀ w, (sizeOf 24).run Tryd.prog w = .ok 1 w := Tryd.sizeOf24
  simp [Instr.index, run_underlying h, asIntOf, hn, part, ha, hs, hv]
  intro h; omega

/-- The table of turns lies in its variable. -/
def Tn (w : World) : Prop := 0 < w.heap.size ∧ ∀ i, i < 25 → w.cell? ⟨0, i, none⟩ = some (.int .i64 (rr i))
theorem Tn.kep {S : Nat → Prop} {w w' : World} (h : Tn w) (hk : Kep S w w') (hs : ¬ S 0) : Tn w' := ⟨Nat.lt_of_lt_of_le h.1 hk.size, fun i hi => hk.cell hs (h.2 i hi)⟩
theorem Tn.bel {w w' : World} (h : Tn w) (hb : Bel w w') : Tn w' := h.kep (S := fun _ => False) (Kep.of_bel hb) id

theorem sum5 (x y : Nat) (hx : x < 5) (hy : y < 5) : IntKind.i64.wrap (2 * (x : Int)) = 2 * x ∧ IntKind.i64.wrap (3 * (y : Int)) = 3 * y ∧ IntKind.i64.wrap (2 * (x : Int) + 3 * y) = 2 * x + 3 * y ∧ (2 * (x : Int) + 3 * y).tmod 5 = (((2 * x + 3 * y) % 5 : Nat) : Int) := by
  refine ⟨IntWalk.i64_in _ (by omega), IntWalk.i64_in _ (by omega), IntWalk.i64_in _ (by omega), ?_⟩
  rw [Int.tmod_eq_emod_of_nonneg (by omega)]
  omega

theorem ints1 (A : List Wd) : ∀ v ∈ A.map V, v.oneCell' = true := by
  intro v hv
  obtain ⟨z, _, rfl⟩ := List.mem_map.1 hv
  rfl
theorem kep_setCellsK (b : Nat) : ∀ (vs : List Value) (o : Nat) (w : World), Kep (fun i => i = b) w (w.setCells b o vs) := by
  intro vs
  induction vs with
  | nil => intro o w; exact Kep.refl _ _
  | cons v vs ih => intro o w; exact (Kep.set_self (Kep.refl _ w) o v).trans (ih (o + 1) _)
theorem there_newK {w : World} {C : Array Value} {t : TypeId} {n : Nat} (h : n ≤ C.size) : (w.alloc (.cells C t)).there w.heap.size 0 n := fun j hj => by
  rw [Nat.zero_add]
  refine ⟨?_, (Blk.new w C t).frozen j⟩
  rw [(Blk.new w C t).cell j (Array.getElem?_eq_getElem (by omega))]
  rfl
abbrev Z25 : Obj := .cells #[.int .u64 0, .int .u64 0, .int .u64 0, .int .u64 0, .int .u64 0, .int .u64 0, .int .u64 0, .int .u64 0, .int .u64 0, .int .u64 0, .int .u64 0, .int .u64 0, .int .u64 0, .int .u64 0, .int .u64 0, .int .u64 0, .int .u64 0, .int .u64 0, .int .u64 0, .int .u64 0, .int .u64 0, .int .u64 0, .int .u64 0, .int .u64 0, .int .u64 0] 51

set_option maxRecDepth 100000 in
set_option maxHeartbeats 2000000 in
theorem moveWords (b : Nat) (A : List Wd) (r : Int) (w : World) (h : St w b A r) (hT : Tn w) (hb0 : b ≠ 0) :
    Calls Tryd.prog 56 #[.pointer (some ⟨b, 0, none⟩)] w fun e w' => e = .returned (.tuple #[]) ∧ St w' b (rhoPi A) r ∧ Kep (fun i => i = b) w w' := by
  have H := Lib.hid h
  have HT := Lib.hid hT
  have hbl := h.2.lt
  have HI := Lib.hid (show (Tryd.prog.info? 51).map (·.size) = some 25 by kernel_rfl)
  obtain ⟨C, hC⟩ : ∃ C, C = A.map V := ⟨_, rfl⟩
  have HCl := Lib.hid (show C.length = 25 by rw [hC, List.length_map]; exact h.len)
  have HCe := Lib.hid (show ∀ i, i < 25 → C[i]? = some (.int .u64 (U (g A i))) from fun i hi => by
    rw [hC, List.getElem?_map]
    unfold g
    rw [List.getD_eq_getElem?_getD, List.getElem?_eq_getElem (by rw [h.len]; exact hi)]
    rfl)
  have RG := Lib.hid (show w.rangeAt b 0 C from fun j v hv => by
    have hj : j < 25 := by rw [← HCl.out]; exact (List.getElem?_eq_some_iff.1 hv).1
    rw [HCe.out j hj] at hv
    injection hv with hv
    subst hv
    rw [Nat.zero_add]
    exact h.word hj)
  have HI2 := Lib.hid (show (Tryd.prog.info? 51).map (·.size) = some C.length by rw [HCl.out]; exact HI.out)
  have HCd := Lib.hid hC.symm
  clear h hC hT
  go_enter Tryd.func56, Tryd.ntmps56
  have HCs := Lib.hid (show C.toArray.size = 25 by rw [List.size_toArray]; exact HCl.out)
  have HC1 := Lib.hid (all_oneCell_toArray (cs := C) (by rw [← HCd.out]; exact ints1 A))
  have TH := Lib.hid (show (w.alloc Z25).there w.heap.size 0 C.toArray.size by rw [HCs.out]; exact there_newK (by decide))
  have HI3 := Lib.hid (show (Tryd.prog.info? 51).map (·.size) = some C.toArray.size by rw [HCs.out]; exact HI.out)
  go_wp2_with (first | (refine wpList_load_mid rfl 51 (.tmp 8) rfl b 0 rfl C _ RG.out Tryd.underlying51 rfl HI2.out ?_) | (refine wpList_store_mid rfl 51 (.tmp 2) (.tmp 9) rfl w.heap.size 0 C.toArray rfl rfl TH.out HI3.out HC1.out ?_))
  obtain ⟨rb, hrb⟩ : ∃ rb, rb = w.heap.size := ⟨_, rfl⟩
  have B1 : Bel w ((w.alloc Z25).setCells w.heap.size 0 C) := Kep.bel ((Bel.refl w).alloc _) (kep_setCellsK w.heap.size C 0 _) (fun i hi => by rw [hi]; exact Nat.le_refl _)
  have R1 : ((w.alloc Z25).setCells w.heap.size 0 C).rangeAt w.heap.size 0 C := World.rangeAt_setCells_same _ _ _ _ (by have := TH.out; rw [HCs.out] at this; rw [HCl.out]; exact this)
  rw [← hrb] at B1 R1 hbl ⊢
  obtain ⟨w1, hw1⟩ : ∃ w1, w1 = (w.alloc Z25).setCells rb 0 C := ⟨_, rfl⟩
  rw [← hw1] at B1 R1
  have S1 := Lib.hid (H.out.bel B1)
  have T1 := Lib.hid (HT.out.bel B1)
  have C1 := Lib.hid (show ∀ i, i < 25 → w1.cell? ⟨rb, i, none⟩ = some (.int .u64 (U (g A i))) from fun i hi => by
    have := R1 i _ (HCe.out i hi)
    rwa [Nat.zero_add] at this)
  have HB1 := Lib.hid B1
  rw [← hw1]
  clear hw1 hrb R1 B1 TH HC1 HI3 HI2 HCl HCe RG HI HCd
  go_loopw [10] (fun i wr => ∃ y : Nat, i = .int .i64 y ∧ y ≤ 5 ∧ St wr b (moved A (5 * y)) r ∧ Kep (fun i => i = b) w1 wr) (fun i _ => 5 - (intOf i).toNat)
  case atStart => exact ⟨0, rfl, by omega, by rw [Nat.mul_zero, moved0 H.out.len]; exact S1.out, Kep.refl _ _⟩
  case round =>
    obtain ⟨y, rfl, hy, hs, hk⟩ := hrel
    have HS := Lib.hid hs
    have HK := Lib.hid hk
    by_cases hlt : y < 5
    · have c0 : wr.cell? ⟨rb, y * 5, none⟩ = _ := hk.cell (by omega) (C1.out (y * 5) (by omega))
      have c1 : wr.cell? ⟨rb, y * 5 + 1, none⟩ = _ := hk.cell (by omega) (C1.out (y * 5 + 1) (by omega))
      have c2 : wr.cell? ⟨rb, y * 5 + 2, none⟩ = _ := hk.cell (by omega) (C1.out (y * 5 + 2) (by omega))
      have c3 : wr.cell? ⟨rb, y * 5 + 3, none⟩ = _ := hk.cell (by omega) (C1.out (y * 5 + 3) (by omega))
      have c4 : wr.cell? ⟨rb, y * 5 + 4, none⟩ = _ := hk.cell (by omega) (C1.out (y * 5 + 4) (by omega))
      clear hs hk
      go_wp2
      obtain ⟨D, hD⟩ : ∃ D : Array Value, #[.int .u64 (U (g A (y * 5))), .int .u64 (U (g A (y * 5 + 1))), .int .u64 (U (g A (y * 5 + 2))), .int .u64 (U (g A (y * 5 + 3))), .int .u64 (U (g A (y * 5 + 4)))] = D := ⟨_, rfl⟩
      have HD := Lib.hid (show ∀ x, x < 5 → D[x]? = some (.int .u64 (U (g A (y * 5 + x)))) from fun x hx => by
        rw [← hD]
        match x, hx with
        | 0, _ => rfl
        | 1, _ => rfl
        | 2, _ => rfl
        | 3, _ => rfl
        | 4, _ => rfl)
      rw [hD, show decide ((y : Int) < 5) = true from decide_eq_true (by omega)]
      clear c0 c1 c2 c3 c4 hD
      go_loopw [16] (fun i wr => ∃ x : Nat, i = .int .i64 x ∧ x ≤ 5 ∧ St wr b (moved A (5 * y + x)) r ∧ Kep (fun i => i = b) w1 wr) (fun i _ => 5 - (intOf i).toNat)
      case atStart => exact ⟨0, rfl, by omega, HS.out, HK.out⟩
      case round =>
        obtain ⟨x, rfl, hx, hs, hk⟩ := hrel
        by_cases hlx : x < 5
        · have HS := Lib.hid hs
          have HK := Lib.hid hk
          have hi25 : 5 * y + x < 25 := by omega
          have ed : dst (5 * y + x) = (2 * x + 3 * y) % 5 * 5 + y := by
            unfold dst
            rw [show (5 * y + x) % 5 = x by omega, show (5 * y + x) / 5 = y by omega]
          have hl := dst_lt hi25
          have SB := Lib.hid (moved_succ A hi25)
          have k0 := hs.word hl
          have f0 := hs.frozen (dst (5 * y + x))
          have t0 := (T1.out.kep hk (by omega)).2 (5 * y + x) hi25
          have t63 := rr63 (y * 5 + x)
          have MW := Lib.hid (show movedW A (5 * y + x) = rot (g A (y * 5 + x)) (rr (y * 5 + x)) by rw [Nat.mul_comm y 5]; rfl)
          rw [ed] at k0 f0 hl
          have ED := Lib.hid ed
          rw [show 5 * y + x = y * 5 + x by omega] at t0
          have T63 := Lib.hid t63
          clear hs hk ed t63 SB
          obtain ⟨q1, q2, q3, q4⟩ := sum5 x y hlx hlt
          have hb2 : b < w1.heap.size := S1.out.2.lt
          have ix := idx_word 50 5 Tryd.underlying50 D x _ hlx (HD.out x hlx)
          go_wp2
          go_region_with ((go_at_call 66; (with_reducible refine (rotl _ _ _ T63.out).mono ?_); rintro e w' ⟨rfl, rfl⟩))
          all_goals
            try (exfalso; omega)
          all_goals
            go_wp2
            go_roundw
            case rel =>
              refine ⟨x + 1, by go_num, by omega, ?_, (HK.out.set_self _ _).drew⟩
              have h := (HS.out.set (dst_lt hi25) (movedW A (5 * y + x))).drew
              rw [moved_succ A hi25, ED.out, MW.out] at h
              exact h
            case measure => simp [intOf] <;> omega
        · obtain rfl : x = 5 := by omega
          go_wp2
          go_roundw
          case rel => exact ⟨y + 1, by go_num, by omega, hs, hk⟩
          case measure => simp [intOf]; omega
    · obtain rfl : y = 5 := by omega
      go_wp2
      go_end0
      refine ⟨rfl, ?_, (Kep.of_bel HB1.out).trans HK.out⟩
      have h := HS.out
      rwa [moved25] at h
end Kk
end Go.Proofs.YtaniijpppmipbaaDoor
