/-
  What copyCheck and WriteByte of a strings.Builder answer in this program. Condition: a builder that the call made itself.
-/
import Derived.Test.YtaniijpppmipbaaDoorKSum2
import Derived.Test.YtaniijpppmipbaaDoorShelf
import Derived.Laws.Externs
namespace Go.Proofs.YtaniijpppmipbaaDoor
open Go.RowKit Go.Shelf
set_option linter.unusedVariables false
namespace Kk

/-- A builder of the call's own, from block B on, that holds bytes. -/
abbrev Bld (B b : Nat) (zs : List Int) (w : World) : Prop := Lib.IsBuilder 80 5 B b (zs.map B8) w
abbrev BldAt (B b : Nat) (p : Value) (zs : List Int) (w : World) : Prop := Lib.BuilderAt 80 5 B b p (zs.map B8) w
theorem Bld.low {B b : Nat} {zs : List Int} {w : World} (h : Bld B b zs w) : B ≤ b := h.elim (·.1) (·.1)
theorem size_bld : (Tryd.prog.info? 80).map (·.size) = some 2 := by kernel_rfl
theorem lies_bld : liesAt Tryd.prog Tryd.prog.depth 80 (2 / Tryd.prog.cellsOf 80) 0 80 1 = true := by kernel_rfl

set_option maxHeartbeats 1000000 in
set_option maxRecDepth 100000 in
theorem copyCheck (B b : Nat) (zs : List Int) (w : World) (h : Bld B b zs w) :
    Calls Tryd.prog 53 #[.pointer (some ⟨b, 0, none⟩)] w fun e w' => e = .returned (.tuple #[]) ∧ BldAt B b (.pointer (some ⟨b, 0, none⟩)) zs w' ∧ Below B w w' := by
  obtain ⟨j, hj, hjs⟩ := Option.map_eq_some_iff.1 size_bld
  rcases h with h | h
  · have c0 := h.cell0
    have f0 := h.frozen0
    have e1 := Lib.run_to_unsafe w ⟨b, 0, none⟩ Tryd.underlying78 Tryd.underlying96 hj (by rw [hjs]; decide) h.shape (Nat.zero_lt_succ 1)
    have e2 := Lib.run_from_unsafe w ⟨b, 0, none⟩ Tryd.underlying96 Tryd.underlying78 hj h.shape lies_bld
    have e0 : (callFunc 64 #[.pointer (some ⟨b, 0, none⟩)]).run Tryd.prog w = .ok (.value (.pointer (some ⟨b, 0, none⟩))) w := by
      rw [run_callFunc_extern Tryd.func64 (by kernel_rfl) (by kernel_rfl) (by kernel_rfl) (e := Extern.AbiNoEscape.same) (by kernel_rfl), Lib.run_noEscape]
      rfl
    have HB := Lib.hid (show BldAt B b (.pointer (some ⟨b, 0, none⟩)) zs (w.setCell ⟨b, 0, none⟩ (.pointer (some ⟨b, 0, none⟩))) from h.used _)
    have HL := Lib.hid ((Below.refl B w).setCell (p := ⟨b, 0, none⟩) h.1 (.pointer (some ⟨b, 0, none⟩)))
    clear h hj hjs
    go_enter Tryd.func53, Tryd.ntmps53
    go_wp2
    go_end0
    exact ⟨rfl, HB.out, HL.out⟩
  · have c0 := h.cell0
    have H := Lib.hid h
    clear h
    go_enter Tryd.func53, Tryd.ntmps53
    go_wp2
    rw [Lib.run_neq_ptr_same w _ Tryd.underlying78 hj]
    go_wp2
    go_end0
    exact ⟨rfl, H.out, Below.refl B _⟩

set_option maxHeartbeats 2000000 in
set_option maxRecDepth 100000 in
theorem writeByte (B b : Nat) (zs : List Int) (c : Int) (w : World) (h : Bld B b zs w) (hlen : zs.length ≤ 1000000) (hBw : B ≤ w.heap.size) :
    Calls Tryd.prog 42 #[.pointer (some ⟨b, 0, none⟩), .int .u8 c] w fun e w' => e = .returned .nilIface ∧ BldAt B b (.pointer (some ⟨b, 0, none⟩)) (zs ++ [c]) w' ∧ Below B w w' := by
  have H := Lib.hid h
  clear h
  go_enter Tryd.func42, Tryd.ntmps42
  go_wp2_with fail
  refine (copyCheck B b zs _ H.out).mono ?_
  rintro e w1 ⟨rfl, ⟨hB, v, hbk, hown, hne⟩, hb1⟩
  have hbk : Blk w1 b #[.pointer (some ⟨b, 0, none⟩), v] 80 := hbk
  rw [List.length_map] at hown
  have HK := Lib.hid hbk
  have HO := Lib.hid (hown.alloc (.cells #[.int .u8 c] 5))
  have HN := Lib.hid hne
  have HB1 := Lib.hid hb1
  have HLT := Lib.hid (fun k hk => (hown.lt k hk).1)
  have c1 := hbk.cell 1 (v := v) rfl
  have SL := Lib.hid (sl_lit w1 [c])
  have hs1 : B ≤ w1.heap.size := Nat.le_trans hBw (Below.size hb1)
  clear hbk hown hne hb1
  go_wp2_with (at_builtin; refine wpList_append_sl rfl _ _ rfl B _ zs.length _ rfl HO.out (some ⟨w1.heap.size, 0, none⟩) 1 1 [c] rfl SL.out (by omega) (by simp; omega) ?_; intro v' w2 hown' hgrow; have HO2 := Lib.hid hown'; have HG := Lib.hid hgrow; clear hown' hgrow; obtain ⟨g2, cap2, rfl⟩ := ownsRow_succ HO2.out; have HK2 := Lib.hid (show Blk w2 b #[.pointer (some ⟨b, 0, none⟩), v] 80 from (HG.out.block b (by have := HK.out.lt; simp; omega) (fun e => HN.out e.symm)).trans (HK.out.alloc _)); have d1 := HK2.out.cell 1 (v := v) rfl; have f1 := HK2.out.frozen 1)
  go_ret
  refine ⟨rfl, ?_, ?_⟩
  · refine Lib.BuilderAt.put (Bld.low H.out) HK2.out ?_ (by decide)
    have := HO2.out
    rw [List.map_append, List.length_append, List.length_map]
    exact this
  · exact ((HB1.out.alloc hs1 _).grown HG.out (by have := Below.size HB1.out; simp; omega) HLT.out).setCell (p := ⟨b, 1, none⟩) (Bld.low H.out) _
end Kk
end Go.Proofs.YtaniijpppmipbaaDoor
