/-
  The walk of the law KeccakNone: it returns true, and what was there is as it was. Conditions: a slice; the table of turns lies in its variable.
-/
import Derived.Test.YtaniijpppmipbaaDoorKObj
namespace Go.Proofs.YtaniijpppmipbaaDoor
open Go.RowKit Go.Shelf
set_option linter.unusedVariables false
namespace Kk

theorem wpList_load_guarded {ops : Array Oper} {rest : List Oper} {op : Oper} {a : Act} {w : World} {Q : Exit → Act → World → Prop} (hw : Region.wanted op (yielded ops a.tmps) = true) (ty : TypeId) (x : Operand) (ho : op.op = .load ty x)
    (b o : Nat) (hx : a.eval x = .pointer (some ⟨b, o, none⟩)) (cs : List Value) (d : TypeDesc) (hc : w.rangeAt b o cs)
    (hu : Tryd.prog.underlying ty = some d) (hd : d.isRow = true) (hi : (Tryd.prog.info? ty).map (·.size) = some cs.length)
    (h : wpList Tryd.prog ops Q rest (a.put op.dst (.agg cs.toArray)) w) : wpList Tryd.prog ops Q (op :: rest) a w :=
  wpList_step fun K hK => by
    rw [if_pos hw]
    exact wp_load_mid ty x ho b o hx cs d hc hu hd hi (hK _ _ h)
theorem neq_zero (w : World) : (binOp .neq 31 (.agg Z32l.toArray) (.agg Z32l.toArray)).run Tryd.prog w = .ok (.bool false) w := by
  kernel_rfl

set_option maxRecDepth 100000 in
set_option maxHeartbeats 4000000 in
theorem noneLaw (v : Value) (w : World) (hT : Tn w) :
    Calls Tryd.prog 5 #[v] w fun e w' => e = .returned (.bool true) ∧ Bel w w' := by
  have h0 := hT.1
  have HT := Lib.hid hT
  clear hT
  go_enter Tryd.func5, Tryd.ntmps5
  go_wp2_with fail
  obtain ⟨V, hV⟩ : ∃ V, ((w.alloc (.cells Tryd.zeroCells61 61)).alloc (.cells #[.pointer none, .pointer (some ⟨w.heap.size, 0, none⟩)] 43)) = V := ⟨_, rfl⟩
  rw [hV]
  have bV := Lib.hid (show Bel w V by rw [← hV]; exact ((Bel.refl w).alloc _).alloc _)
  have hZ : V.cell? ⟨w.heap.size, 0, none⟩ = some (.pointer none) := by rw [← hV]; exact ((Blk.new w _ _).alloc _).cell 0 rfl
  have hR : Blk V (w.heap.size + 1) #[.pointer none, .pointer (some ⟨w.heap.size, 0, none⟩)] 43 := by
    rw [← hV]
    have := Blk.new (w.alloc (.cells Tryd.zeroCells61 61)) #[.pointer none, .pointer (some ⟨w.heap.size, 0, none⟩)] 43
    rwa [World.size_alloc] at this
  have HE := Lib.hid (show ∀ (j : Nat), j < 2 → ∃ v, Null V v ∧ ∀ wr, Bel V wr → wr.cell? ⟨w.heap.size + 1, j, none⟩ = some v from fun j hj => by
    match j, hj with
    | 0, _ => exact ⟨_, .inl rfl, fun wr hb => (hR.bel hb).cell 0 rfl⟩
    | 1, _ => exact ⟨_, .inr ⟨_, rfl, hZ⟩, fun wr hb => (hR.bel hb).cell 1 rfl⟩)
  obtain ⟨Y, hY⟩ : ∃ Y, Y = Z32l := ⟨_, rfl⟩
  have HYl := Lib.hid (show Y.length = 32 by rw [hY]; rfl)
  have HYs := Lib.hid (show Y.toArray.size = 32 by rw [hY]; rfl)
  have HYo := Lib.hid (all_oneCell_toArray (cs := Y) (by rw [hY]; exact ints_b8 (List.replicate 32 0)))
  have HYi := Lib.hid (show (Tryd.prog.info? 31).map (·.size) = some Y.toArray.size by rw [HYs.out]; exact info_hash)
  have HYi2 := Lib.hid (show (Tryd.prog.info? 31).map (·.size) = some Y.length by rw [HYl.out]; exact info_hash)
  have HYY := Lib.hid hY
  have HSM := Lib.hid (show ∀ v w', Null w' v → Calls Tryd.prog 31 #[v] w' fun e w2 => e = .returned (.tuple #[.agg Y.toArray, .int .i64 1]) ∧ Bel w' w2 by rw [hY]; exact hSum0)
  have nz : ∀ w, (binOp .neq 31 (.agg Y.toArray) (.agg Z32l.toArray)).run Tryd.prog w = .ok (.bool false) w := by rw [hY]; exact neq_zero
  clear hV hZ hR hY
  go_loopw [4] (fun i wr => ∃ j : Nat, j ≤ 2 ∧ i = .int .i64 j ∧ Bel V wr) (fun i _ => 2 - (intOf i).toNat)
  case atStart => exact ⟨0, Nat.zero_le _, rfl, Bel.refl _⟩
  case round =>
    obtain ⟨j, hj, rfl, hb⟩ := hrel
    have HBV := Lib.hid hb
    by_cases hlt : j < 2
    · have g3 : (j : Int) < 2 := by omega
      obtain ⟨v0, hn, hx⟩ := HE.out j hlt
      have HX := Lib.hid hx
      have hx := hx wr hb
      have HN := Lib.hid (hn.bel hb)
      clear hn hb
      go_wp2_with fail
      refine (HSM.out v0 _ HN.out).mono ?_
      rintro e w4 ⟨rfl, h4⟩
      have h4 : Bel wr w4 := h4
      have TH := Lib.hid (show (w4.alloc (.cells Z32l.toArray 31)).there w4.heap.size 0 Y.toArray.size by rw [HYs.out]; exact there_newK (by decide))
      have B5 : Bel wr ((w4.alloc (.cells Z32l.toArray 31)).setCells w4.heap.size 0 Y) := Kep.bel (h4.alloc _) (kep_setCellsK _ _ _ _) (fun i hi => by rw [hi]; exact Below.size h4)
      have R5 := Lib.hid (show ((w4.alloc (.cells Z32l.toArray 31)).setCells w4.heap.size 0 Y).rangeAt w4.heap.size 0 Y from World.rangeAt_setCells_same _ _ _ _ (by have := TH.out; rw [HYs.out] at this; rw [HYl.out]; exact this))
      have hx5 := HX.out _ (HBV.out.trans B5)
      have H5 := Lib.hid (HBV.out.trans B5)
      have HN5 := Lib.hid (HN.out.bel B5)
      clear h4 hx B5
      go_wp2_with (refine wpList_store_mid rfl 31 (.tmp 5) (.tmp 20) rfl w4.heap.size 0 Y.toArray rfl rfl TH.out HYi.out HYo.out ?_)
      refine (hWrite0 v0 v _ HN5.out).mono ?_
      rintro e w' ⟨rfl, rfl⟩
      obtain ⟨yb, hyb⟩ : ∃ yb, yb = w4.heap.size := ⟨_, rfl⟩
      obtain ⟨w5, hw5⟩ : ∃ w5, (w4.alloc (.cells Z32l.toArray 31)).setCells w4.heap.size 0 Y = w5 := ⟨_, rfl⟩
      rw [hw5] at R5 hx5 H5 HN5 ⊢
      rw [← hyb] at R5 ⊢
      clear hw5 hyb TH
      go_wp2_with (refine wpList_load_guarded (by rfl) 31 (.tmp 5) rfl yb 0 rfl Y _ R5.out Tryd.underlying31 rfl HYi2.out ?_)
      refine (hLen0 v0 _ HN5.out).mono ?_
      rintro e w' ⟨rfl, rfl⟩
      go_wp2_with fail
      refine (hCopy0 v0 _ HN5.out).mono ?_
      rintro e w' ⟨rfl, rfl⟩
      go_wp2_with fail
      refine (hWrite0 (.pointer none) v _ (.inl rfl)).mono ?_
      rintro e w' ⟨rfl, rfl⟩
      go_wp2
      go_roundw
      case rel => exact ⟨j + 1, by omega, by go_num, H5.out⟩
      case measure => simp [intOf] <;> omega
    · obtain rfl : j = 2 := by omega
      have HB2 := Lib.hid (bV.out.trans HBV.out)
      clear hb HBV
      go_wp2_with fail
      refine (awake _ (HT.out.bel HB2.out)).mono ?_
      rintro e w5 ⟨rfl, h5⟩
      have HB5 := Lib.hid (HB2.out.trans h5)
      clear h5
      go_wp2
      go_ret
      exact ⟨rfl, HB5.out⟩
end Kk
end Go.Proofs.YtaniijpppmipbaaDoor
