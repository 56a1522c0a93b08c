/-
  What Hash of a reader answers in this program that is nil, or that nobody made: zeroes.
  Conditions: nil, or an object whose first cell is nil.
-/
import Derived.Test.YtejbhfcmhijfcaaNone0
namespace Go.Proofs.Ytejbhfcmhijfcaa
open Go.RowKit Go.Shelf
set_option linter.unusedVariables false
namespace Cd

set_option maxRecDepth 100000 in
set_option maxHeartbeats 1000000 in
theorem itemH0 (v fn : Value) (w : World) (h : Null w v) : Calls Try.prog 61 #[v, fn] w fun e w' => e = .returned (.agg Z32.toList.toArray) ∧ Bel w w' := by
  have TR := Lib.hid (fun w' (hb : Bel w w') => trouble0 v w' (h.bel hb))
  clear h
  go_enter Try.func61, Try.ntmps61
  go_wp2_with (go_at_call 54; refine (TR.out _ ((Bel.refl _).alloc _)).mono ?_; rintro e w' ⟨rfl, rfl⟩)
  refine bodyPost_ret (results_c1 Try.results61 _ _ ⟨w.heap.size, 0, none⟩ (.agg Z32.toList.toArray) rfl (run_loadVar_mid (P := Try.prog) _ _ _ 44 Z32.toList _ (World.rangeAt_alloc range_new _) Try.underlying44 rfl info_hash)) rfl ⟨rfl, ((Bel.refl _).alloc _).alloc _⟩

set_option maxRecDepth 100000 in
set_option maxHeartbeats 1000000 in
theorem rHash0 (v : Value) (w : World) (h : Null w v) : Calls Try.prog 36 #[v] w fun e w' => e = .returned (.agg Z32) ∧ Bel w w' := by
  have IT := Lib.hid (fun fn => itemH0 v fn (w.alloc ZO) (h.bel ((Bel.refl _).alloc _)))
  obtain ⟨Y, hY⟩ : ∃ Y, Z32.toList = Y := ⟨_, rfl⟩
  have HV := Lib.hid (show Value.agg Z32 = .agg Y.toArray by rw [← hY])
  have HYL := Lib.hid (show Y.length = 32 by rw [← hY]; rfl)
  have HYO := Lib.hid (show ∀ v ∈ Y, v.oneCell' = true by rw [← hY, show Z32.toList = (List.replicate 32 (0 : Int)).map (Value.int .u8) by rw [z32]]; exact ints_ok _)
  rw [hY] at IT
  rw [HV.out]
  clear h hY
  go_enter Try.func36, Try.ntmps36
  go_wp2_with fail
  refine (IT.out _).mono ?_
  rintro r w1 ⟨rfl, hb⟩
  have hz : Y.toArray.size = 32 := by simp [HYL.out]
  have T1 := Lib.hid (show w1.there w.heap.size 0 Y.toArray.size from by
    rw [hz]
    exact blk_there ((Blk.new w Z32 44).bel hb) (Nat.le_refl _))
  have HI2 := Lib.hid (show (Try.prog.info? 44).map (·.size) = some Y.toArray.size by rw [hz]; exact info_hash)
  have HI := Lib.hid (show (Try.prog.info? 44).map (·.size) = some Y.length by rw [HYL.out]; exact info_hash)
  have HO := Lib.hid (all_oneCell_toArray HYO.out)
  have HB := Lib.hid (show Bel w w1 from ((Bel.refl w).alloc _).trans hb)
  clear hz hb
  go_wp2_with (refine wpList_store_mid rfl 44 (.tmp 2) (.tmp 4) rfl w.heap.size 0 Y.toArray rfl rfl T1.out HI2.out HO.out ?_)
  refine bodyPost_ret (results_c1 Try.results36 _ _ ⟨w.heap.size, 0, none⟩ (.agg Y.toArray) rfl (run_loadVar_mid (P := Try.prog) _ _ _ 44 Y _ (World.rangeAt_setCells_same _ _ _ _ (by have := T1.out; simpa using this)) Try.underlying44 rfl HI.out)) rfl ⟨rfl, bel_setCells HB.out (Nat.le_refl _) _⟩

theorem neq_zero (w : World) : (binOp .neq 44 (.agg Z32) (.agg Z32)).run Try.prog w = .ok (.bool false) w := by
  kernel_rfl
end Cd
end Go.Proofs.Ytejbhfcmhijfcaa
