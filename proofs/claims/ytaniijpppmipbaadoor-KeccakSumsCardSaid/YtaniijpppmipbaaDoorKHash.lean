/-
  What Sum answers in this program: the hash of bytes. Conditions: a slice of at most 10^9 bytes; the table of turns lies in its variable.
-/
import Derived.Test.YtaniijpppmipbaaDoorKSum2
namespace Go.Proofs.YtaniijpppmipbaaDoor
open Go.RowKit Go.Shelf
set_option linter.unusedVariables false
namespace Kk

theorem size_zsp : Tryd.zeroCells59.size = 188 := by rfl
theorem by_zero136 : By zero136 := fun z hz => by rw [List.eq_of_mem_replicate hz]; exact ⟨by decide, by decide⟩
theorem hd_nil : Hd [] zero zero136 0 := Hd.nil (by simp) by_zero136
/-- Bytes that may be read. -/
structure Src (w : World) (P : Option Addr) (n c : Nat) (zs : List Int) : Prop where
  ints : Ints .u8 w P n zs
  cap : n ≤ c
  max : c ≤ maxLen
  by_ : By zs
theorem Src.bel {w w' : World} {P : Option Addr} {n c : Nat} {zs : List Int} (h : Src w P n c zs) (hb : Bel w w') : Src w' P n c zs := ⟨h.ints.bel hb, h.cap, h.max, h.by_⟩

set_option maxRecDepth 100000 in
set_option maxHeartbeats 2000000 in
theorem hashSum' (P : Option Addr) (sn sc : Nat) (zs : List Int) (w : World) (hz : Src w P sn sc zs) (hP : 0 < sn → ∀ x, P = some x → x.block < w.heap.size) (hl : sn ≤ 1000000000) (hT : Tn w) :
    Calls Tryd.prog 17 #[.slice P sn sc] w fun e w' => e = .returned (hsV (sumOf zs)) ∧ Bel w w' := by
  have h0 := hT.1
  have HZ := Lib.hid hz
  have HT := Lib.hid hT
  have HP := Lib.hid hP
  obtain ⟨h, hh⟩ : ∃ h, h = w.heap.size := ⟨_, rfl⟩
  have HH := Lib.hid hh
  clear hz hT hP hh
  go_enter Tryd.func17, Tryd.ntmps17
  go_wp2_with fail
  have B1 := Lib.hid ((Bel.refl w).alloc Z32h)
  have T1 := Lib.hid (show (w.alloc Z32h).there h 0 32 by rw [HH.out]; exact there_newK (by decide))
  refine (newSponge _).mono ?_
  rintro e w1 ⟨rfl, h1⟩
  have H1 := Lib.hid (B1.out.trans h1)
  have TH1 := Lib.hid (there_bel T1.out h1)
  clear h1 T1 B1
  obtain ⟨C, hC⟩ : ∃ C, C = spCells zero 0 zero136 0 0 := ⟨_, rfl⟩
  have HC := Lib.hid hC
  have HCl := Lib.hid (show C.length = 188 by rw [hC]; exact len_sp len_zero (by rfl) _ _ _)
  have HCs := Lib.hid (show C.toArray.size = 188 by rw [List.size_toArray]; exact HCl.out)
  have HCo := Lib.hid (all_oneCell_toArray (cs := C) (by rw [hC]; exact all_sp _ _ _ _ _))
  have HI := Lib.hid (show (Tryd.prog.info? 59).map (·.size) = some C.toArray.size by rw [HCs.out]; exact info_sp)
  rw [show spV zero 0 zero136 0 0 = .agg C.toArray by rw [hC]]
  have TS := Lib.hid (show (w1.alloc (.cells Tryd.zeroCells59 59)).there w1.heap.size 0 C.toArray.size by rw [HCs.out]; exact there_newK (by rw [size_zsp]; exact Nat.le_refl _))
  clear hC
  go_wp2_with (refine wpList_store_mid rfl 59 (.tmp 3) (.tmp 4) rfl w1.heap.size 0 C.toArray rfl rfl TS.out HI.out HCo.out ?_)
  obtain ⟨b, hb⟩ : ∃ b, b = w1.heap.size := ⟨_, rfl⟩
  have B2 : Bel w1 ((w1.alloc (.cells Tryd.zeroCells59 59)).setCells w1.heap.size 0 C) := Kep.bel ((Bel.refl w1).alloc _) (kep_setCellsK _ _ _ _) (fun i hi => by rw [hi]; exact Nat.le_refl _)
  have S2 : Sp ((w1.alloc (.cells Tryd.zeroCells59 59)).setCells w1.heap.size 0 C) b 59 [] zero 0 zero136 (0 : Nat) (([] : List Int).length : Nat) := by
    refine ⟨?_, len_zero, by simp⟩
    rw [hb, List.nil_append]
    have := Blk.whole (vs := C) (Blk.new w1 Tryd.zeroCells59 59) (by rw [HCl.out]; exact size_zsp)
    rw [HC.out] at this ⊢
    exact this
  obtain ⟨w2, hw2⟩ : ∃ w2, (w1.alloc (.cells Tryd.zeroCells59 59)).setCells w1.heap.size 0 C = w2 := ⟨_, rfl⟩
  rw [hw2] at B2 S2 ⊢
  rw [← hb]
  have H2 := Lib.hid (H1.out.trans B2)
  have hbw : w.heap.size ≤ b := by rw [hb]; exact Below.size H1.out
  have hbh : h < b := by
    have := H1.out
    have hs := Below.size this
    have := TH1.out 0 (by omega)
    obtain ⟨v, hv⟩ := Option.isSome_iff_exists.1 this.1
    have := World.block_lt_of_cell? w1 _ hv
    rw [hb]
    exact this
  have TH2 := Lib.hid (there_bel TH1.out B2)
  have HS2 := Lib.hid S2
  have TK := Lib.hid (take b 59 [] zero 0 zero136 0 [] P sn sc zs w2 S2 hd_nil (HZ.out.ints.bel H2.out) HZ.out.cap HZ.out.max HZ.out.by_ (fun h0 x hx => by have := HP.out h0 x hx; omega) (HT.out.bel H2.out) (by omega) (by simp; omega))
  clear hw2 B2 S2 TS HI HCo HCs HCl HC hb TH1 H1
  refine (TK.out).mono ?_
  rintro e w3 ⟨rfl, ⟨A', r', bs', c', hs, hh⟩, hk⟩
  rw [List.nil_append] at hs hh
  have HH3 := Lib.hid hh
  have H3 := Lib.hid (Kep.bel H2.out hk (fun i hi => by rw [hi]; exact hbw))
  have TH3 := Lib.hid (there_kep TH2.out hk (by omega))
  obtain ⟨D, hD⟩ : ∃ D, D = spCells A' r' bs' (c' : Nat) (zs.length : Nat) := ⟨_, rfl⟩
  have HDl := Lib.hid (show (Tryd.prog.info? 59).map (·.size) = some D.length by rw [hD, len_sp hs.la hs.lb]; exact info_sp)
  have RD := Lib.hid (show w3.rangeAt b 0 D by rw [hD]; exact hs.range)
  have hA' := hs.la
  have SM := Lib.hid (show Calls Tryd.prog 40 #[.agg D.toArray] w3 fun e w' => e = .returned (hsV (sumOf zs)) ∧ Bel w3 w' by
    rw [hD]; exact sum A' r' bs' c' zs (zs.length : Nat) w3 hA' hh (HT.out.bel H3.out))
  clear hs hh hk hD TK HS2 TH2 H2
  go_wp2_with (refine wpList_load_mid rfl 59 (.tmp 3) rfl b 0 rfl D _ RD.out Tryd.underlying59 rfl HDl.out ?_)
  refine (SM.out).mono ?_
  rintro e w4 ⟨rfl, h4⟩
  obtain ⟨Y, hY⟩ : ∃ Y, Y = (sumOf zs).map B8 := ⟨_, rfl⟩
  rw [show hsV (sumOf zs) = .agg Y.toArray by rw [hY]]
  have HYl := Lib.hid (show Y.length = 32 by rw [hY, List.length_map]; exact len_hashOf _)
  have HYs := Lib.hid (show Y.toArray.size = 32 by rw [List.size_toArray]; exact HYl.out)
  have HYo := Lib.hid (all_oneCell_toArray (cs := Y) (by rw [hY]; exact ints_b8 _))
  have HYi := Lib.hid (show (Tryd.prog.info? 31).map (·.size) = some Y.toArray.size by rw [HYs.out]; exact info_hash)
  have TH4 := Lib.hid (show w4.there h 0 Y.toArray.size by rw [HYs.out]; exact there_bel TH3.out h4)
  have H4 := Lib.hid (H3.out.trans h4)
  have HYY := Lib.hid hY
  clear h4 hY SM RD
  rw [← HH.out]
  go_wp2_with (refine wpList_store_mid rfl 31 (.tmp 2) (.tmp 8) rfl h 0 Y.toArray rfl rfl TH4.out HYi.out HYo.out ?_)
  have RE : (w4.setCells h 0 Y).rangeAt h 0 Y := World.rangeAt_setCells_same _ _ _ _ (by have := TH4.out; rw [HYs.out] at this; rw [HYl.out]; exact this)
  refine bodyPost_ret (results_c1 Tryd.results17 _ _ ⟨h, 0, none⟩ _ rfl (run_loadVar_mid (P := Tryd.prog) _ h 0 31 Y _ RE Tryd.underlying31 rfl (by rw [HYl.out]; exact info_hash))) rfl ⟨by rw [HYY.out], ?_⟩
  exact Kep.bel H4.out (kep_setCellsK h Y 0 w4) (fun i hi => by rw [hi, HH.out]; exact Nat.le_refl _)
theorem hashSum (P : Option Addr) (sn sc : Nat) (zs : List Int) (w : World) (hz : Src w P sn sc zs) (hP : ∀ x, P = some x → x.block < w.heap.size) (hl : sn ≤ 1000000000) (hT : Tn w) :
    Calls Tryd.prog 17 #[.slice P sn sc] w fun e w' => e = .returned (hsV (sumOf zs)) ∧ Bel w w' := hashSum' P sn sc zs w hz (fun _ => hP) hl hT
/-- A slice that may be read is enough. -/
theorem hashSumS (P : Option Addr) (sn sc : Nat) (zs : List Int) (w : World) (hz : Src w P sn sc zs) (hl : sn ≤ 1000000000) (hT : Tn w) :
    Calls Tryd.prog 17 #[.slice P sn sc] w fun e w' => e = .returned (hsV (sumOf zs)) ∧ Bel w w' := hashSum' P sn sc zs w hz (fun h0 x hx => by
      obtain ⟨b, o, e, hb, _⟩ := hz.ints.2 h0
      rw [e] at hx
      cases hx
      exact hb) hl hT
end Kk
end Go.Proofs.YtaniijpppmipbaaDoor
