/-
  What newSponge answers in this program: a sponge of no bytes. No condition.
-/
import Derived.Test.YtaniijpppmipbaaDoorKFill
namespace Go.Proofs.YtaniijpppmipbaaDoor
open Go.RowKit Go.Shelf
set_option linter.unusedVariables false
namespace Kk

abbrev zero136 : List Int := List.replicate 136 0
/-- A sponge as a value. -/
abbrev spV (A : List Wd) (r : Int) (bs : List Int) (c n : Int) : Value := .agg (spCells A r bs c n).toArray
theorem info_sp : (Tryd.prog.info? 59).map (·.size) = some 188 := by kernel_rfl
abbrev Z188 : Obj := .cells #[.int .u64 0, .int .u64 0, .int .u64 0, .int .u64 0, .int .u64 0, .int .u64 0, .int .u64 0, .int .u64 0, .int .u64 0, .int .u64 0, .int .u64 0, .int .u64 0, .int .u64 0, .int .u64 0, .int .u64 0, .int .u64 0, .int .u64 0, .int .u64 0, .int .u64 0, .int .u64 0, .int .u64 0, .int .u64 0, .int .u64 0, .int .u64 0, .int .u64 0, .int .u64 0, .int .u64 0, .int .u64 0, .int .u64 0, .int .u64 0, .int .u64 0, .int .u64 0, .int .u64 0, .int .u64 0, .int .u64 0, .int .u64 0, .int .u64 0, .int .u64 0, .int .u64 0, .int .u64 0, .int .u64 0, .int .u64 0, .int .u64 0, .int .u64 0, .int .u64 0, .int .u64 0, .int .u64 0, .int .u64 0, .int .u64 0, .int .i64 0, .int .u8 0, .int .u8 0, .int .u8 0, .int .u8 0, .int .u8 0, .int .u8 0, .int .u8 0, .int .u8 0, .int .u8 0, .int .u8 0, .int .u8 0, .int .u8 0, .int .u8 0, .int .u8 0, .int .u8 0, .int .u8 0, .int .u8 0, .int .u8 0, .int .u8 0, .int .u8 0, .int .u8 0, .int .u8 0, .int .u8 0, .int .u8 0, .int .u8 0, .int .u8 0, .int .u8 0, .int .u8 0, .int .u8 0, .int .u8 0, .int .u8 0, .int .u8 0, .int .u8 0, .int .u8 0, .int .u8 0, .int .u8 0, .int .u8 0, .int .u8 0, .int .u8 0, .int .u8 0, .int .u8 0, .int .u8 0, .int .u8 0, .int .u8 0, .int .u8 0, .int .u8 0, .int .u8 0, .int .u8 0, .int .u8 0, .int .u8 0, .int .u8 0, .int .u8 0, .int .u8 0, .int .u8 0, .int .u8 0, .int .u8 0, .int .u8 0, .int .u8 0, .int .u8 0, .int .u8 0, .int .u8 0, .int .u8 0, .int .u8 0, .int .u8 0, .int .u8 0, .int .u8 0, .int .u8 0, .int .u8 0, .int .u8 0, .int .u8 0, .int .u8 0, .int .u8 0, .int .u8 0, .int .u8 0, .int .u8 0, .int .u8 0, .int .u8 0, .int .u8 0, .int .u8 0, .int .u8 0, .int .u8 0, .int .u8 0, .int .u8 0, .int .u8 0, .int .u8 0, .int .u8 0, .int .u8 0, .int .u8 0, .int .u8 0, .int .u8 0, .int .u8 0, .int .u8 0, .int .u8 0, .int .u8 0, .int .u8 0, .int .u8 0, .int .u8 0, .int .u8 0, .int .u8 0, .int .u8 0, .int .u8 0, .int .u8 0, .int .u8 0, .int .u8 0, .int .u8 0, .int .u8 0, .int .u8 0, .int .u8 0, .int .u8 0, .int .u8 0, .int .u8 0, .int .u8 0, .int .u8 0, .int .u8 0, .int .u8 0, .int .u8 0, .int .u8 0, .int .u8 0, .int .u8 0, .int .u8 0, .int .u8 0, .int .u8 0, .int .u8 0, .int .u8 0, .int .u8 0, .int .u8 0, .int .u8 0, .int .u8 0, .int .u8 0, .int .u8 0, .int .u8 0, .int .u8 0, .int .u8 0, .int .u8 0, .int .u8 0, .int .u8 0, .int .i64 0, .int .i64 0] 59
theorem build_sp : ∃ v, stV zero 0 = v ∧ ∀ w, (Instr.build 59 #[(0, v)]).run Tryd.prog w = .ok (spV zero 0 zero136 0 0) w := ⟨_, rfl, fun w => by kernel_rfl⟩

set_option maxRecDepth 100000 in
set_option maxHeartbeats 1000000 in
theorem newSponge (w : World) : Calls Tryd.prog 38 #[] w fun e w' => e = .returned (spV zero 0 zero136 0 0) ∧ Bel w w' := by
  obtain ⟨v, hv, hB⟩ := build_sp
  have HV := Lib.hid hv
  obtain ⟨C, hC⟩ : ∃ C, C = spCells zero 0 zero136 0 0 := ⟨_, rfl⟩
  have HCl := Lib.hid (show C.length = 188 by rw [hC]; exact len_sp len_zero (by rfl) _ _ _)
  have HCo := Lib.hid (all_oneCell_toArray (cs := C) (by rw [hC]; exact all_sp _ _ _ _ _))
  have HCs := Lib.hid (show C.toArray.size = 188 by rw [List.size_toArray]; exact HCl.out)
  have HI := Lib.hid (show (Tryd.prog.info? 59).map (·.size) = some C.toArray.size by rw [HCs.out]; exact info_sp)
  have HI2 := Lib.hid (show (Tryd.prog.info? 59).map (·.size) = some C.length by rw [HCl.out]; exact info_sp)
  rw [show spV zero 0 zero136 0 0 = .agg C.toArray by rw [hC]] at hB ⊢
  have HBB := Lib.hid hB
  clear hv hC hB
  go_enter Tryd.func38, Tryd.ntmps38
  go_wp2_with fail
  refine (newState _).mono ?_
  rintro e w1 ⟨rfl, h1⟩
  have TH0 : (w.alloc Z188).there w.heap.size 0 C.toArray.size := by rw [HCs.out]; exact there_new (by decide)
  have TH := Lib.hid (there_bel TH0 h1)
  have HB := Lib.hid (((Bel.refl w).alloc Z188).trans h1)
  clear h1 TH0
  rw [HV.out]
  go_wp2_with (first | (refine wpList_build rfl 59 0 (.tmp 1) rfl v _ rfl HBB.out ?_) | refine wpList_store_mid rfl 59 (.tmp 0) (.tmp 2) rfl w.heap.size 0 C.toArray rfl rfl TH.out HI.out HCo.out ?_)
  have RG : (w1.setCells w.heap.size 0 C).rangeAt w.heap.size 0 C := World.rangeAt_setCells_same _ _ _ _ (by have := TH.out; rw [HCs.out] at this; rw [HCl.out]; exact this)
  refine bodyPost_ret (results_c1 Tryd.results38 _ _ ⟨w.heap.size, 0, none⟩ _ rfl (run_loadVar_mid (P := Tryd.prog) _ w.heap.size 0 59 C _ RG Tryd.underlying59 rfl HI2.out)) rfl ⟨rfl, ?_⟩
  exact Kep.bel HB.out (kep_setCellsK w.heap.size C 0 w1) (fun i hi => by rw [hi]; exact Nat.le_refl _)
end Kk
end Go.Proofs.YtaniijpppmipbaaDoor
