/-
  Texts of this claim, put together: VClo, VLst, VEnc, VPart, VMade, VBytes, VDig. What each one says, and under which conditions, stands ahead of it.
-/
import Derived.Test.YtgalhpejihmhkaaDoorGC
import Derived.Test.YtgalhpejihmhkaaDoorGF

section
/-
  What the steps answer that vote.encode calls: the closures of attested, of proposed and of tagged.
  Conditions: the boxes hold the words, the writer; the writer is without an error.
-/
namespace Go.Proofs.YtgalhpejihmhkaaDoor
open Go.RowKit Go.Shelf
set_option linter.unusedVariables false
namespace Vt
open Cd

theorem info_att : (Tryd.prog.info? 26).map (·.size) = some 36 := by kernel_rfl
theorem info_prop : (Tryd.prog.info? 28).map (·.size) = some 35 := by kernel_rfl

set_option maxRecDepth 100000 in
set_option maxHeartbeats 1000000 in
theorem att1 (ca : Nat) (v s t tag : Int) (hs : List Int) (w : World) (hl : hs.length = 32) (hr : w.rangeAt ca 0 (attC v s t hs tag)) :
    Calls Tryd.prog 44 #[.pointer (some ⟨ca, 0, none⟩)] w fun e w' => e = .returned (.int .i64 (chkE v s t)) ∧ Bel w w' := by
  have CK := Lib.hid (fun w' => check v s t tag hs w' hl)
  obtain ⟨D, hD⟩ : ∃ D, D = attC v s t hs tag := ⟨_, rfl⟩
  have HDl := Lib.hid (show D.length = 36 by rw [hD]; exact len_attC hl v s t tag)
  rw [← hD] at CK hr
  have RD := Lib.hid hr
  clear hr hD
  go_enter Tryd.func44, Tryd.ntmps44
  go_wp2_with (refine wpList_load_mid rfl 26 (.tmp 0) rfl ca 0 rfl D _ RD.out Tryd.underlying26 rfl (by rw [HDl.out]; exact info_att) ?_)
  refine (CK.out _).mono ?_
  rintro e w1 ⟨rfl, k1⟩
  have B1 := Lib.hid (show Bel w w1 from k1)
  clear k1
  go_wp2
  go_ret
  exact ⟨rfl, B1.out⟩

set_option maxRecDepth 100000 in
set_option maxHeartbeats 1000000 in
theorem att2 (cw b : Nat) (L : Int) (v : Value) (out : List Int) (base : Nat) (w : World) (hc : w.cell? ⟨cw, 0, none⟩ = some (.pointer (some ⟨b, 0, none⟩))) (h : WS w b L v 0 out base) :
    Calls Tryd.prog 45 #[.pointer (some ⟨cw, 0, none⟩)] w fun e w' => ∃ r, e = .returned (.int .i64 r) ∧ After w' b L r out (enc 1) base ∧ Kep (Own2 b v) w w' := by
  have WN := Lib.hid (wN b L v out base 1 w h (by omega) (by omega))
  clear h
  go_enter Tryd.func45, Tryd.ntmps45
  go_wp2_with fail
  refine WN.out.mono ?_
  rintro e w1 ⟨r, rfl, ha, hk⟩
  have HA := Lib.hid ha
  have HK := Lib.hid hk
  clear ha hk
  go_wp2
  go_ret
  exact ⟨r, rfl, HA.out, HK.out⟩

set_option maxRecDepth 100000 in
set_option maxHeartbeats 1000000 in
theorem att3 (cw ca b : Nat) (x : Int) (L : Int) (v : Value) (out : List Int) (base : Nat) (w : World) (hc : w.cell? ⟨cw, 0, none⟩ = some (.pointer (some ⟨b, 0, none⟩))) (ha : w.cell? ⟨ca, 0, none⟩ = some (.int .i64 x)) (h : WS w b L v 0 out base) (x0 : 0 ≤ x) (x1 : x ≤ 9223372036854775807) :
    Calls Tryd.prog 47 #[.pointer (some ⟨cw, 0, none⟩), .pointer (some ⟨ca, 0, none⟩)] w fun e w' => ∃ r, e = .returned (.int .i64 r) ∧ After w' b L r out (enc x) base ∧ Kep (Own2 b v) w w' := by
  have WN := Lib.hid (wN b L v out base x w h x0 x1)
  clear h x0 x1
  go_enter Tryd.func47, Tryd.ntmps47
  go_wp2_with fail
  refine WN.out.mono ?_
  rintro e w1 ⟨r, rfl, ha, hk⟩
  have HA := Lib.hid ha
  have HK := Lib.hid hk
  clear ha hk
  go_wp2
  go_ret
  exact ⟨r, rfl, HA.out, HK.out⟩

set_option maxRecDepth 100000 in
set_option maxHeartbeats 1000000 in
theorem att4 (cw ca b : Nat) (x : Int) (L : Int) (v : Value) (out : List Int) (base : Nat) (w : World) (hc : w.cell? ⟨cw, 0, none⟩ = some (.pointer (some ⟨b, 0, none⟩))) (ha : w.cell? ⟨ca, 1, none⟩ = some (.int .i64 x)) (h : WS w b L v 0 out base) (x0 : 0 ≤ x) (x1 : x ≤ 9223372036854775807) :
    Calls Tryd.prog 48 #[.pointer (some ⟨cw, 0, none⟩), .pointer (some ⟨ca, 0, none⟩)] w fun e w' => ∃ r, e = .returned (.int .i64 r) ∧ After w' b L r out (enc x) base ∧ Kep (Own2 b v) w w' := by
  have WN := Lib.hid (wN b L v out base x w h x0 x1)
  clear h x0 x1
  go_enter Tryd.func48, Tryd.ntmps48
  go_wp2_with fail
  refine WN.out.mono ?_
  rintro e w1 ⟨r, rfl, ha, hk⟩
  have HA := Lib.hid ha
  have HK := Lib.hid hk
  clear ha hk
  go_wp2
  go_ret
  exact ⟨r, rfl, HA.out, HK.out⟩

set_option maxRecDepth 100000 in
set_option maxHeartbeats 1000000 in
theorem att5 (cw ca b : Nat) (x : Int) (L : Int) (v : Value) (out : List Int) (base : Nat) (w : World) (hc : w.cell? ⟨cw, 0, none⟩ = some (.pointer (some ⟨b, 0, none⟩))) (ha : w.cell? ⟨ca, 2, none⟩ = some (.int .i64 x)) (h : WS w b L v 0 out base) (x0 : 0 ≤ x) (x1 : x ≤ 9223372036854775807) :
    Calls Tryd.prog 49 #[.pointer (some ⟨cw, 0, none⟩), .pointer (some ⟨ca, 0, none⟩)] w fun e w' => ∃ r, e = .returned (.int .i64 r) ∧ After w' b L r out (enc x) base ∧ Kep (Own2 b v) w w' := by
  have WN := Lib.hid (wN b L v out base x w h x0 x1)
  clear h x0 x1
  go_enter Tryd.func49, Tryd.ntmps49
  go_wp2_with fail
  refine WN.out.mono ?_
  rintro e w1 ⟨r, rfl, ha, hk⟩
  have HA := Lib.hid ha
  have HK := Lib.hid hk
  clear ha hk
  go_wp2
  go_ret
  exact ⟨r, rfl, HA.out, HK.out⟩

set_option maxRecDepth 100000 in
set_option maxHeartbeats 1000000 in
theorem att6 (cw ca b : Nat) (hs : List Int) (L : Int) (v : Value) (out : List Int) (base : Nat) (w : World) (hc : w.cell? ⟨cw, 0, none⟩ = some (.pointer (some ⟨b, 0, none⟩))) (hr : w.rangeAt ca 3 (hs.map (Value.int .u8))) (h : WS w b L v 0 out base) (hl : hs.length = 32) :
    Calls Tryd.prog 50 #[.pointer (some ⟨cw, 0, none⟩), .pointer (some ⟨ca, 0, none⟩)] w fun e w' => ∃ r, e = .returned (.int .i64 r) ∧ After w' b L r out hs base ∧ Kep (Own2 b v) w w' := by
  have WH := wHash b L v out base hs w h hl
  clear h
  obtain ⟨D, hD⟩ : ∃ D, D = hs.map (Value.int .u8) := ⟨_, rfl⟩
  have HDl := Lib.hid (show D.length = 32 by rw [hD]; simpa using hl)
  have HD := Lib.hid hD
  rw [← hD] at hr
  rw [show Cd.hash hs = .agg (hs.map (Value.int .u8)).toArray from rfl, ← hD] at WH
  have WH := Lib.hid WH
  have RD := Lib.hid hr
  clear hr hD
  go_enter Tryd.func50, Tryd.ntmps50
  go_wp2_with (refine wpList_load_mid rfl 23 (.tmp 4) rfl ca 3 rfl D _ RD.out Tryd.underlying23 rfl (by rw [HDl.out]; exact info_hash) ?_)
  refine WH.out.mono ?_
  rintro e w1 ⟨r, rfl, ha, hk⟩
  have HA := Lib.hid ha
  have HK := Lib.hid hk
  clear ha hk
  go_wp2
  go_ret
  exact ⟨r, rfl, HA.out, HK.out⟩
set_option maxRecDepth 100000 in
set_option maxHeartbeats 1000000 in
theorem prop1 (ca : Nat) (v s tag : Int) (hs : List Int) (w : World) (hl : hs.length = 32) (hr : w.rangeAt ca 0 (propC v s hs tag)) :
    Calls Tryd.prog 70 #[.pointer (some ⟨ca, 0, none⟩)] w fun e w' => e = .returned (.int .i64 (chkBE v s)) ∧ Bel w w' := by
  have CK := Lib.hid (fun w' => checkBlock v s tag hs w' hl)
  obtain ⟨D, hD⟩ : ∃ D, D = propC v s hs tag := ⟨_, rfl⟩
  have HDl := Lib.hid (show D.length = 35 by rw [hD]; exact len_propC hl v s tag)
  rw [← hD] at CK hr
  have RD := Lib.hid hr
  clear hr hD
  go_enter Tryd.func70, Tryd.ntmps70
  go_wp2_with (refine wpList_load_mid rfl 28 (.tmp 0) rfl ca 0 rfl D _ RD.out Tryd.underlying28 rfl (by rw [HDl.out]; exact info_prop) ?_)
  refine (CK.out _).mono ?_
  rintro e w1 ⟨rfl, k1⟩
  have B1 := Lib.hid (show Bel w w1 from k1)
  clear k1
  go_wp2
  go_ret
  exact ⟨rfl, B1.out⟩

set_option maxRecDepth 100000 in
set_option maxHeartbeats 1000000 in
theorem prop2 (cw b : Nat) (L : Int) (v : Value) (out : List Int) (base : Nat) (w : World) (hc : w.cell? ⟨cw, 0, none⟩ = some (.pointer (some ⟨b, 0, none⟩))) (h : WS w b L v 0 out base) :
    Calls Tryd.prog 71 #[.pointer (some ⟨cw, 0, none⟩)] w fun e w' => ∃ r, e = .returned (.int .i64 r) ∧ After w' b L r out (enc 2) base ∧ Kep (Own2 b v) w w' := by
  have WN := Lib.hid (wN b L v out base 2 w h (by omega) (by omega))
  clear h
  go_enter Tryd.func71, Tryd.ntmps71
  go_wp2_with fail
  refine WN.out.mono ?_
  rintro e w1 ⟨r, rfl, ha, hk⟩
  have HA := Lib.hid ha
  have HK := Lib.hid hk
  clear ha hk
  go_wp2
  go_ret
  exact ⟨r, rfl, HA.out, HK.out⟩

set_option maxRecDepth 100000 in
set_option maxHeartbeats 1000000 in
theorem prop3 (cw ca b : Nat) (x : Int) (L : Int) (v : Value) (out : List Int) (base : Nat) (w : World) (hc : w.cell? ⟨cw, 0, none⟩ = some (.pointer (some ⟨b, 0, none⟩))) (ha : w.cell? ⟨ca, 0, none⟩ = some (.int .i64 x)) (h : WS w b L v 0 out base) (x0 : 0 ≤ x) (x1 : x ≤ 9223372036854775807) :
    Calls Tryd.prog 72 #[.pointer (some ⟨cw, 0, none⟩), .pointer (some ⟨ca, 0, none⟩)] w fun e w' => ∃ r, e = .returned (.int .i64 r) ∧ After w' b L r out (enc x) base ∧ Kep (Own2 b v) w w' := by
  have WN := Lib.hid (wN b L v out base x w h x0 x1)
  clear h x0 x1
  go_enter Tryd.func72, Tryd.ntmps72
  go_wp2_with fail
  refine WN.out.mono ?_
  rintro e w1 ⟨r, rfl, ha, hk⟩
  have HA := Lib.hid ha
  have HK := Lib.hid hk
  clear ha hk
  go_wp2
  go_ret
  exact ⟨r, rfl, HA.out, HK.out⟩

set_option maxRecDepth 100000 in
set_option maxHeartbeats 1000000 in
theorem prop4 (cw ca b : Nat) (x : Int) (L : Int) (v : Value) (out : List Int) (base : Nat) (w : World) (hc : w.cell? ⟨cw, 0, none⟩ = some (.pointer (some ⟨b, 0, none⟩))) (ha : w.cell? ⟨ca, 1, none⟩ = some (.int .i64 x)) (h : WS w b L v 0 out base) (x0 : 0 ≤ x) (x1 : x ≤ 9223372036854775807) :
    Calls Tryd.prog 73 #[.pointer (some ⟨cw, 0, none⟩), .pointer (some ⟨ca, 0, none⟩)] w fun e w' => ∃ r, e = .returned (.int .i64 r) ∧ After w' b L r out (enc x) base ∧ Kep (Own2 b v) w w' := by
  have WN := Lib.hid (wN b L v out base x w h x0 x1)
  clear h x0 x1
  go_enter Tryd.func73, Tryd.ntmps73
  go_wp2_with fail
  refine WN.out.mono ?_
  rintro e w1 ⟨r, rfl, ha, hk⟩
  have HA := Lib.hid ha
  have HK := Lib.hid hk
  clear ha hk
  go_wp2
  go_ret
  exact ⟨r, rfl, HA.out, HK.out⟩

set_option maxRecDepth 100000 in
set_option maxHeartbeats 1000000 in
theorem prop5 (cw ca b : Nat) (hs : List Int) (L : Int) (v : Value) (out : List Int) (base : Nat) (w : World) (hc : w.cell? ⟨cw, 0, none⟩ = some (.pointer (some ⟨b, 0, none⟩))) (hr : w.rangeAt ca 2 (hs.map (Value.int .u8))) (h : WS w b L v 0 out base) (hl : hs.length = 32) :
    Calls Tryd.prog 74 #[.pointer (some ⟨cw, 0, none⟩), .pointer (some ⟨ca, 0, none⟩)] w fun e w' => ∃ r, e = .returned (.int .i64 r) ∧ After w' b L r out hs base ∧ Kep (Own2 b v) w w' := by
  have WH := wHash b L v out base hs w h hl
  clear h
  obtain ⟨D, hD⟩ : ∃ D, D = hs.map (Value.int .u8) := ⟨_, rfl⟩
  have HDl := Lib.hid (show D.length = 32 by rw [hD]; simpa using hl)
  have HD := Lib.hid hD
  rw [← hD] at hr
  rw [show Cd.hash hs = .agg (hs.map (Value.int .u8)).toArray from rfl, ← hD] at WH
  have WH := Lib.hid WH
  have RD := Lib.hid hr
  clear hr hD
  go_enter Tryd.func74, Tryd.ntmps74
  go_wp2_with (refine wpList_load_mid rfl 23 (.tmp 4) rfl ca 2 rfl D _ RD.out Tryd.underlying23 rfl (by rw [HDl.out]; exact info_hash) ?_)
  refine WH.out.mono ?_
  rintro e w1 ⟨r, rfl, ha, hk⟩
  have HA := Lib.hid ha
  have HK := Lib.hid hk
  clear ha hk
  go_wp2
  go_ret
  exact ⟨r, rfl, HA.out, HK.out⟩
set_option maxRecDepth 100000 in
set_option maxHeartbeats 1000000 in
theorem tag1 (cw ca b : Nat) (x : Int) (L : Int) (v : Value) (out : List Int) (base : Nat) (w : World) (hc : w.cell? ⟨cw, 0, none⟩ = some (.pointer (some ⟨b, 0, none⟩))) (ha : w.cell? ⟨ca, 0, none⟩ = some (.int .u64 x)) (h : WS w b L v 0 out base) (x0 : 0 ≤ x) (x1 : x ≤ 18446744073709551615) :
    Calls Tryd.prog 53 #[.pointer (some ⟨cw, 0, none⟩), .pointer (some ⟨ca, 0, none⟩)] w fun e w' => ∃ r, e = .returned (.int .i64 r) ∧ After w' b L r out (enc x) base ∧ Kep (Own2 b v) w w' := by
  have WN := Lib.hid (wU b L v out base x w h x0 x1)
  clear h x0 x1
  go_enter Tryd.func53, Tryd.ntmps53
  go_wp2_with fail
  refine WN.out.mono ?_
  rintro e w1 ⟨r, rfl, ha, hk⟩
  have HA := Lib.hid ha
  have HK := Lib.hid hk
  clear ha hk
  go_wp2
  go_ret
  exact ⟨r, rfl, HA.out, HK.out⟩

end Vt
end Go.Proofs.YtgalhpejihmhkaaDoor
end

section
/-
  What tagged$1, attested$1 and proposed$1 answer: the list of steps of a part. No condition.
-/
namespace Go.Proofs.YtgalhpejihmhkaaDoor
open Go.RowKit Go.Shelf
set_option linter.unusedVariables false
namespace Vt
open Cd

abbrev cap (f : Nat) (ps : List Nat) : Value := .func (.func f) #[] (ps.map fun p => Value.pointer (some ⟨p, 0, none⟩)).toArray
abbrev tagS (cw ct : Nat) : List Value := [cap 53 [cw, ct]]
abbrev attS (cw ca : Nat) : List Value := [cap 44 [ca], cap 45 [cw], cap 47 [cw, ca], cap 48 [cw, ca], cap 49 [cw, ca], cap 50 [cw, ca]]
abbrev propS (cw ca : Nat) : List Value := [cap 70 [ca], cap 71 [cw], cap 72 [cw, ca], cap 73 [cw, ca], cap 74 [cw, ca]]
/-- What a part hands out: a new box with the writer, a new row of steps. -/
def Handed (b n : Nat) (S : Nat → List Value) (w : World) (e : Ending) (w' : World) : Prop :=
  ∃ cw g, w.heap.size ≤ cw ∧ w.heap.size ≤ g ∧ cw < w'.heap.size ∧ g < w'.heap.size ∧ e = .returned (.slice (some ⟨g, 0, none⟩) n n) ∧ Blk w' cw #[.pointer (some ⟨b, 0, none⟩)] 88 ∧ Blk w' g (S cw).toArray 93 ∧ Bel w w'

set_option maxRecDepth 100000 in
set_option maxHeartbeats 1000000 in
theorem tagL (b ca : Nat) (w : World) :
    Calls Tryd.prog 52 #[.pointer (some ⟨b, 0, none⟩), .pointer (some ⟨ca, 0, none⟩)] w fun e w' => Handed b 1 (fun cw => tagS cw ca) w e w' := by
  obtain ⟨W, hW⟩ : ∃ W, w.alloc (.cells #[.pointer (some ⟨b, 0, none⟩)] 88) = W := ⟨_, rfl⟩
  have k1 : W.cell? ⟨w.heap.size, 0, none⟩ = some (.pointer (some ⟨b, 0, none⟩)) := by rw [← hW]; exact (Blk.new w _ _).cell 0 rfl
  have B1 := Lib.hid (show Bel w W by rw [← hW]; exact (Bel.refl w).alloc _)
  have z1 : W.heap.size = w.heap.size + 1 := by rw [← hW]; simp
  have Z1 := Lib.hid z1
  have K1 := Lib.hid k1
  have HW := Lib.hid hW
  clear k1 hW z1
  go_enter Tryd.func52, Tryd.ntmps52
  go_upto_region 1 with fail
  rw [HW.out]
  go_wp2
  go_ret
  refine ⟨w.heap.size, W.heap.size, Nat.le_refl _, by rw [Z1.out]; omega, ?_, ?_, rfl, ?_, ?_, B1.out.alloc _⟩
  · have := Z1.out; simp; omega
  · simp
  · exact ((Blk.new w #[.pointer (some ⟨b, 0, none⟩)] 88).bel (show Bel _ _ by rw [HW.out]; exact (Bel.refl W).alloc _))
  · exact Blk.new W (tagS w.heap.size ca).toArray 93

set_option maxRecDepth 100000 in
set_option maxHeartbeats 1000000 in
theorem attL (b ca : Nat) (w : World) :
    Calls Tryd.prog 43 #[.pointer (some ⟨b, 0, none⟩), .pointer (some ⟨ca, 0, none⟩)] w fun e w' => Handed b 6 (fun cw => attS cw ca) w e w' := by
  obtain ⟨W, hW⟩ : ∃ W, w.alloc (.cells #[.pointer (some ⟨b, 0, none⟩)] 88) = W := ⟨_, rfl⟩
  have k1 : W.cell? ⟨w.heap.size, 0, none⟩ = some (.pointer (some ⟨b, 0, none⟩)) := by rw [← hW]; exact (Blk.new w _ _).cell 0 rfl
  have B1 := Lib.hid (show Bel w W by rw [← hW]; exact (Bel.refl w).alloc _)
  have z1 : W.heap.size = w.heap.size + 1 := by rw [← hW]; simp
  have Z1 := Lib.hid z1
  have K1 := Lib.hid k1
  have HW := Lib.hid hW
  clear k1 hW z1
  go_enter Tryd.func43, Tryd.ntmps43
  go_upto_region 1 with fail
  rw [HW.out]
  go_wp2
  go_ret
  refine ⟨w.heap.size, W.heap.size, Nat.le_refl _, by rw [Z1.out]; omega, ?_, ?_, rfl, ?_, ?_, B1.out.alloc _⟩
  · have := Z1.out; simp; omega
  · simp
  · exact ((Blk.new w #[.pointer (some ⟨b, 0, none⟩)] 88).bel (show Bel _ _ by rw [HW.out]; exact (Bel.refl W).alloc _))
  · exact Blk.new W (attS w.heap.size ca).toArray 93

set_option maxRecDepth 100000 in
set_option maxHeartbeats 1000000 in
theorem propL (b ca : Nat) (w : World) :
    Calls Tryd.prog 69 #[.pointer (some ⟨b, 0, none⟩), .pointer (some ⟨ca, 0, none⟩)] w fun e w' => Handed b 5 (fun cw => propS cw ca) w e w' := by
  obtain ⟨W, hW⟩ : ∃ W, w.alloc (.cells #[.pointer (some ⟨b, 0, none⟩)] 88) = W := ⟨_, rfl⟩
  have k1 : W.cell? ⟨w.heap.size, 0, none⟩ = some (.pointer (some ⟨b, 0, none⟩)) := by rw [← hW]; exact (Blk.new w _ _).cell 0 rfl
  have B1 := Lib.hid (show Bel w W by rw [← hW]; exact (Bel.refl w).alloc _)
  have z1 : W.heap.size = w.heap.size + 1 := by rw [← hW]; simp
  have Z1 := Lib.hid z1
  have K1 := Lib.hid k1
  have HW := Lib.hid hW
  clear k1 hW z1
  go_enter Tryd.func69, Tryd.ntmps69
  go_upto_region 1 with fail
  rw [HW.out]
  go_wp2
  go_ret
  refine ⟨w.heap.size, W.heap.size, Nat.le_refl _, by rw [Z1.out]; omega, ?_, ?_, rfl, ?_, ?_, B1.out.alloc _⟩
  · have := Z1.out; simp; omega
  · simp
  · exact ((Blk.new w #[.pointer (some ⟨b, 0, none⟩)] 88).bel (show Bel _ _ by rw [HW.out]; exact (Bel.refl W).alloc _))
  · exact Blk.new W (propS w.heap.size ca).toArray 93
end Vt
end Go.Proofs.YtgalhpejihmhkaaDoor
end

section
/-
  What vote.encode answers, over parts whose steps keep what they say. Condition: all that they write together fits.
-/
namespace Go.Proofs.YtgalhpejihmhkaaDoor
open Go.RowKit Go.Shelf
set_option linter.unusedVariables false
namespace Vt
open Cd

/-- What the first k of steps write; the first error of them. -/
def bytesOf (its : List (Int × List Int)) : List Int := its.flatMap (·.2)
def errOf : List (Int × List Int) → Int
  | [] => 0
  | it :: r => if it.1 ≠ 0 then it.1 else errOf r
/-- A step that was called: its own error and nothing turned, or its bytes behind the others. -/
def Stepped (b : Nat) (L : Int) (v : Value) (out : List Int) (base : Nat) (it : Int × List Int) (w : World) (e : Ending) (w' : World) : Prop :=
  ∃ r, e = .returned (.int .i64 r) ∧ (it.1 ≠ 0 → r = it.1) ∧ (it.1 = 0 → After w' b L r out it.2 base) ∧ Kep (Own2 b v) w w'
def Enters (F : Nat) : Prop := ∀ (C : Array Value) (w : World), (callFunc F C).run Tryd.prog w = .ok (.enter F C) w
def StepOK (w : World) (cw : Nat) (sv : Value) (it : Int × List Int) : Prop :=
  ∃ f C, sv = .func (.func f) #[] C ∧ Enters f ∧ ∀ b L v out base w1, Bel w w1 → w1.cell? ⟨cw, 0, none⟩ = some (.pointer (some ⟨b, 0, none⟩)) → WS w1 b L v 0 out base → Calls Tryd.prog f C w1 fun e w' => Stepped b L v out base it w1 e w'
def PartOK (w : World) (fv : Value) (its : List (Int × List Int)) : Prop :=
  ∃ (F ca : Nat) (S : Nat → List Value), fv = .func (.func F) #[] #[.pointer (some ⟨ca, 0, none⟩)] ∧ Enters F ∧ its.length ≤ 100 ∧ (∀ b w1, Calls Tryd.prog F #[.pointer (some ⟨b, 0, none⟩), .pointer (some ⟨ca, 0, none⟩)] w1 fun e w' => Handed b its.length S w1 e w') ∧
    ∀ (cw i : Nat) (it : Int × List Int), its[i]? = some it → errOf (its.take i) = 0 → ∃ sv, (S cw)[i]? = some sv ∧ StepOK w cw sv it

theorem errOf_append (a c : List (Int × List Int)) (h : errOf a = 0) : errOf (a ++ c) = errOf c := by
  induction a with
  | nil => rfl
  | cons x r ih =>
    simp only [errOf] at h
    by_cases hx : x.1 ≠ 0
    · rw [if_pos hx] at h; exact absurd h hx
    · rw [if_neg hx] at h
      rw [List.cons_append, errOf, if_neg hx]
      exact ih h
theorem bytesOf_append (a c : List (Int × List Int)) : bytesOf (a ++ c) = bytesOf a ++ bytesOf c := by simp [bytesOf]
theorem take_succ' {α : Type} {l : List α} {k : Nat} {x : α} (h : l[k]? = some x) : l.take (k + 1) = l.take k ++ [x] := by
  rw [List.take_add_one, h]; rfl
theorem ws_ne {w : World} {b : Nat} {L : Int} {v : Value} {err : Int} {out : List Int} {base cw : Nat} {C : Array Value} {t : TypeId} (h : WS w b L v err out base) (hb : Blk w cw C t) (h1 : t ≠ 5) (h2 : t ≠ 119) : ¬ Own2 b v cw := by
  rintro (rfl | e)
  · have := h.blk.symm.trans hb
    simp at this
    exact h2 this.2.symm
  · rcases h.row.2 with ⟨rfl, _⟩ | ⟨g, cap, cur, rfl, _, hg, _⟩
    · cases e
    · obtain rfl : g = cw := by simpa [Value.ownBlock] using e
      have := hg.symm.trans hb
      simp at this
      exact h1 this.2.symm

theorem kbel {w w1 w2 : World} {b : Nat} {L : Int} {v : Value} {err : Int} {out : List Int} {base : Nat} (hb : Bel w w1) (h : WS w1 b L v err out base) (h1 : w.heap.size ≤ b) (h2 : w.heap.size ≤ base) (hk : Kep (Own2 b v) w1 w2) : Bel w w2 :=
  Kep.bel hb hk (fun k hs => by
    rcases hs with rfl | hs
    · exact h1
    · exact Nat.le_trans h2 (h.row.lt k hs).1)
theorem aok {w : World} {b : Nat} {L r : Int} {out more : List Int} {base : Nat} (h : After w b L r out more base) (hf : ((out ++ more).length : Int) ≤ L) : r = 0 ∧ ∃ v, WS w b L v 0 (out ++ more) base := by
  rcases h with ⟨h1, _, h3⟩ | ⟨h1, h2, _⟩
  · exact ⟨h1, h3⟩
  · omega
theorem split_at' {α : Type} {l : List α} {k : Nat} {x : α} (h : l[k]? = some x) : l = l.take k ++ x :: l.drop (k + 1) := by
  obtain ⟨hk, rfl⟩ := List.getElem?_eq_some_iff.1 h
  rw [← List.drop_eq_getElem_cons hk, List.take_append_drop]
theorem flat_at {ps : List (List (Int × List Int))} {its : List (Int × List Int)} {it : Int × List Int} {k j : Nat} (h : ps[k]? = some its) (hi : its[j]? = some it) : ∃ more, ps.flatten = (ps.take k).flatten ++ (its.take j ++ it :: more) := by
  refine ⟨its.drop (j + 1) ++ (ps.drop (k + 1)).flatten, ?_⟩
  conv => lhs; rw [split_at' h, List.flatten_append, List.flatten_cons, split_at' hi]
  simp
theorem pre_le {ps : List (List (Int × List Int))} {its : List (Int × List Int)} {it : Int × List Int} {k j : Nat} (h : ps[k]? = some its) (hi : its[j]? = some it) : ((bytesOf (ps.take k).flatten ++ bytesOf (its.take j)) ++ it.2).length ≤ (bytesOf ps.flatten).length := by
  obtain ⟨more, e⟩ := flat_at h hi
  rw [e, bytesOf_append, bytesOf_append, show bytesOf (it :: more) = it.2 ++ bytesOf more by simp [bytesOf]]
  simp only [List.length_append]
  omega
theorem err_at {ps : List (List (Int × List Int))} {its : List (Int × List Int)} {it : Int × List Int} {k j : Nat} (h : ps[k]? = some its) (hi : its[j]? = some it) (h1 : errOf (ps.take k).flatten = 0) (h2 : errOf (its.take j) = 0) (h3 : it.1 ≠ 0) : errOf ps.flatten = it.1 := by
  obtain ⟨more, e⟩ := flat_at h hi
  rw [e, errOf_append _ _ h1, errOf_append _ _ h2, errOf, if_pos h3]
theorem err_next {its : List (Int × List Int)} {it : Int × List Int} {j : Nat} (hi : its[j]? = some it) (h2 : errOf (its.take j) = 0) (h3 : it.1 = 0) : errOf (its.take (j + 1)) = 0 := by
  rw [take_succ' hi, errOf_append _ _ h2, errOf, if_neg (by simp [h3])]; rfl
theorem bytes_next {its : List (Int × List Int)} {it : Int × List Int} {j : Nat} (hi : its[j]? = some it) : bytesOf (its.take (j + 1)) = bytesOf (its.take j) ++ it.2 := by
  rw [take_succ' hi, bytesOf_append]; simp [bytesOf]
theorem row_low {w : World} {b1 b2 : Nat} {e : TypeId} {size : Nat} {v : Value} {n : Nat} {xs : List Value} (h : w.ownsRow b1 e size v n xs) (hb : b2 ≤ b1) : w.ownsRow b2 e size v n xs := by
  refine ⟨h.1, ?_⟩
  rcases h.2 with h | ⟨g, cap, cur, hv, hg, r⟩
  · exact .inl h
  · exact .inr ⟨g, cap, cur, hv, Nat.le_trans hb hg, r⟩

/-- What encode answers. -/
def Encoded (all : List (Int × List Int)) (w : World) (e : Ending) (w' : World) : Prop :=
  Bel w w' ∧ ((errOf all ≠ 0 ∧ e = .returned (.tuple #[.slice none 0 0, .int .i64 (errOf all)])) ∨ (errOf all = 0 ∧ ∃ u, e = .returned (.tuple #[u, .int .i64 0]) ∧ w'.ownsRow w.heap.size 5 1 u (bytesOf all).length ((bytesOf all).map (Value.int .u8))))

set_option maxRecDepth 100000 in
set_option maxHeartbeats 4000000 in
theorem encode (p n : Nat) (fs : List Value) (ps : List (List (Int × List Int))) (w : World) (hf : fs.length = n) (hp : ps.length = n) (hn : n ≤ 100) (hc : ∀ (i : Nat) (v : Value), fs[i]? = some v → w.cell? ⟨p, i, none⟩ = some v) (hpl : p < w.heap.size)
    (hok : ∀ (i : Nat) (v : Value) (its : List (Int × List Int)), fs[i]? = some v → ps[i]? = some its → PartOK w v its) (hl : (bytesOf ps.flatten).length ≤ 1048576) :
    Calls Tryd.prog 22 #[.slice (some ⟨p, 0, none⟩) n n] w fun e w' => Encoded ps.flatten w e w' := by
  have HC := Lib.hid hc
  have HOK := Lib.hid hok
  have HL := Lib.hid hl
  have HF := Lib.hid hf
  have HP := Lib.hid hp
  have HPL := Lib.hid hpl
  clear hc hok hl hf hp hpl
  go_enter Tryd.func22, Tryd.ntmps22
  go_wp2_with fail
  refine (newWriter 1048576 w (by omega) (by omega)).mono ?_
  rintro e w1 ⟨rfl, h1, b1⟩
  have W1 := Lib.hid h1
  have B1 := Lib.hid (show Bel w w1 from b1)
  clear h1 b1
  obtain ⟨b, hb⟩ : ∃ b, b = w.heap.size := ⟨_, rfl⟩
  rw [← hb] at W1 ⊢
  have HB := Lib.hid hb
  clear hb
  go_wp2_with fail
  go_loopw [20] (fun i wr => ∃ k : Nat, i = .int .i64 k ∧ k ≤ n ∧ errOf (ps.take k).flatten = 0 ∧ (∃ v, WS wr b 1048576 v 0 (bytesOf (ps.take k).flatten) b) ∧ Bel w wr) (fun i _ => n - (intOf i).toNat)
  case atStart => exact ⟨0, rfl, Nat.zero_le _, rfl, ⟨_, W1.out⟩, B1.out⟩
  case round =>
    obtain ⟨k, rfl, hk, he, ⟨v, hws⟩, hbl⟩ := hrel
    by_cases hlt : k < n
    · have hkf : fs[k]? = some (fs[k]'(by rw [HF.out]; exact hlt)) := List.getElem?_eq_getElem _
      have hkp : ps[k]? = some (ps[k]'(by rw [HP.out]; exact hlt)) := List.getElem?_eq_getElem _
      obtain ⟨fv, hfv⟩ : ∃ x, x = fs[k]'(by rw [HF.out]; exact hlt) := ⟨_, rfl⟩
      obtain ⟨its, hits⟩ : ∃ x, x = ps[k]'(by rw [HP.out]; exact hlt) := ⟨_, rfl⟩
      rw [← hfv] at hkf
      rw [← hits] at hkp
      obtain ⟨F, ca, S, rfl, hen, hm, hcall, hst⟩ := HOK.out k fv its hkf hkp
      have c0 : wr.cell? ⟨p, k, none⟩ = _ := (Below.cell (p := ⟨p, k, none⟩) hbl HPL.out).trans (HC.out k _ hkf)
      have TK := Lib.hid (show (ps.take (k + 1)).flatten = (ps.take k).flatten ++ its by rw [take_succ' hkp, List.flatten_append]; simp)
      have HE := Lib.hid he
      have HWS := Lib.hid hws
      have HBL := Lib.hid hbl
      have HM := Lib.hid hm
      have HST := Lib.hid hst
      have HCALL := Lib.hid (hcall b)
      have HKP := Lib.hid hkp
      have hen : ∀ (C : Array Value) (w : World), (callFunc F C).run Tryd.prog w = .ok (.enter F C) w := hen
      clear hkf hfv hits he hws hbl hm hst hcall hkp
      go_wp2_with fail
      refine (HCALL.out wr).mono ?_
      rintro e w2 ⟨cw, g, l1, l2, l3, l4, rfl, bc, bg, k2⟩
      have WS2 := Lib.hid (HWS.out.bel k2)
      have BL2 := Lib.hid (HBL.out.trans k2)
      have BC := Lib.hid bc
      have BG := Lib.hid bg
      clear c0 bc bg k2 l1 l2 l3 l4 hen
      have := HM.out
      go_wp2_with fail
      go_loopw [28] (fun i wr => ∃ j : Nat, i = .int .i64 j ∧ j ≤ its.length ∧ errOf (its.take j) = 0 ∧ (∃ v, WS wr b 1048576 v 0 (bytesOf (ps.take k).flatten ++ bytesOf (its.take j)) b) ∧ Blk wr cw #[.pointer (some ⟨b, 0, none⟩)] 88 ∧ Blk wr g (S cw).toArray 93 ∧ Bel w wr) (fun i _ => its.length - (intOf i).toNat)
      case atStart => exact ⟨0, rfl, Nat.zero_le _, rfl, ⟨v, by simpa [bytesOf] using WS2.out⟩, BC.out, BG.out, BL2.out⟩
      case round =>
        obtain ⟨j, rfl, hj, hej, ⟨v, hws⟩, hbc, hbg, hbl⟩ := hrel
        by_cases hltj : j < its.length
        · have hit : its[j]? = some (its[j]'hltj) := List.getElem?_eq_getElem _
          obtain ⟨it, hi⟩ : ∃ x, x = its[j]'hltj := ⟨_, rfl⟩
          rw [← hi] at hit
          obtain ⟨sv, hsv, f, C, rfl, hen, hstep⟩ := HST.out cw j it hit hej
          have c1 : wr.cell? ⟨g, j, none⟩ = some (.func (.func f) #[] C) := hbg.cell j (by rw [List.getElem?_toArray]; exact hsv)
          have STEP := Lib.hid (hstep b 1048576 v _ b wr hbl (hbc.cell 0 rfl) hws)
          have n1 := ws_ne hws hbc (by decide) (by decide)
          have n2 := ws_ne hws hbg (by decide) (by decide)
          have N1 := Lib.hid n1
          have N2 := Lib.hid n2
          have HWS := Lib.hid hws
          have HBC := Lib.hid hbc
          have HBG := Lib.hid hbg
          have HBL := Lib.hid hbl
          have HIT := Lib.hid hit
          have HEJ := Lib.hid hej
          have hen : ∀ (C : Array Value) (w : World), (callFunc f C).run Tryd.prog w = .ok (.enter f C) w := hen
          clear hit hi hsv hstep n1 n2 hws hbc hbg hbl hej
          have HX := Lib.hid (show w.heap.size ≤ b by rw [HB.out]; exact Nat.le_refl _)
          go_wp2_with fail
          refine STEP.out.mono ?_
          rintro e w3 ⟨r, rfl, r1, r0, k3⟩
          have BL3 := Lib.hid (kbel HBL.out HWS.out HX.out HX.out k3)
          have BC3 := Lib.hid (HBC.out.kep k3 N1.out)
          have BG3 := Lib.hid (HBG.out.kep k3 N2.out)
          clear k3
          by_cases hz : it.1 = 0
          · obtain ⟨rfl, v3, hws3⟩ := aok (r0 hz) (by have := pre_le HKP.out HIT.out; have := HL.out; omega)
            have WS3 := Lib.hid (show WS w3 b 1048576 v3 0 (bytesOf (ps.take k).flatten ++ bytesOf (its.take (j + 1))) b by rw [bytes_next HIT.out, ← List.append_assoc]; exact hws3)
            have HZ := Lib.hid hz
            clear r1 r0 hws3 hz c1 hen
            go_wp2
            go_roundw
            case rel => exact ⟨j + 1, by go_num, by omega, err_next HIT.out HEJ.out HZ.out, ⟨v3, WS3.out⟩, BC3.out, BG3.out, BL3.out⟩
            case measure => simp [intOf] <;> omega
          · obtain rfl := r1 hz
            have f : (it.1 != 0) = true := by rw [bne_iff_ne]; exact hz
            have ER := Lib.hid (err_at HKP.out HIT.out HE.out HEJ.out hz)
            have HZ := Lib.hid hz
            clear r1 r0 hz c1 hen
            go_wp2
            go_ret2
            exact ⟨BL3.out, .inl ⟨by rw [ER.out]; exact HZ.out, by rw [ER.out]; rfl⟩⟩
        · obtain rfl : j = its.length := by omega
          have WS3 := Lib.hid (show WS wr b 1048576 v 0 (bytesOf (ps.take (k + 1)).flatten) b by rw [TK.out, bytesOf_append]; rw [List.take_length] at hws; exact hws)
          have E3 := Lib.hid (show errOf (ps.take (k + 1)).flatten = 0 by rw [TK.out, errOf_append _ _ HE.out]; rw [List.take_length] at hej; exact hej)
          have BL3 := Lib.hid hbl
          clear hws hej hbc hbg hbl
          go_wp2
          go_roundw
          case rel => exact ⟨k + 1, by go_num, by omega, E3.out, ⟨v, WS3.out⟩, BL3.out⟩
          case measure => simp [intOf] <;> omega
    · obtain rfl : k = n := by omega
      have hall : ps.take k = ps := by rw [← HP.out]; exact List.take_length
      rw [hall] at he hws
      have WD := Lib.hid (wdone b 1048576 v _ b wr hws)
      have HE := Lib.hid he
      have HBL := Lib.hid hbl
      clear he hws hbl hall
      go_wp2_with fail
      refine WD.out.mono ?_
      rintro e w2 ⟨u, rfl, h1, b2⟩
      have H1 := Lib.hid h1
      have B2 := Lib.hid (show Bel wr w2 from b2)
      clear h1 b2
      go_wp2
      go_ret2
      exact ⟨HBL.out.trans B2.out, .inr ⟨HE.out, u, rfl, row_low H1.out (Below.size HBL.out)⟩⟩
end Vt
end Go.Proofs.YtgalhpejihmhkaaDoor
end

section
/-
  The parts of a vote as vote.encode takes them: attested, proposed, tagged. Condition: the box holds the words.
-/
namespace Go.Proofs.YtgalhpejihmhkaaDoor
open Go.RowKit Go.Shelf
set_option linter.unusedVariables false
namespace Vt
open Cd

theorem stepped_w {b : Nat} {L : Int} {v : Value} {out : List Int} {base : Nat} {zs : List Int} {w w' : World} {e : Ending} (h : ∃ r, e = .returned (.int .i64 r) ∧ After w' b L r out zs base ∧ Kep (Own2 b v) w w') : Stepped b L v out base (0, zs) w e w' := by
  obtain ⟨r, h1, h2, h3⟩ := h
  exact ⟨r, h1, fun h => absurd rfl h, fun _ => h2, h3⟩
theorem en_tag : Enters 52 := fun C w => by kernel_rfl
theorem en_tag1 : Enters 53 := fun C w => by kernel_rfl

abbrev tagI (tag : Int) : List (Int × List Int) := [(0, enc tag)]
theorem tag_part (w : World) (ca : Nat) (tag : Int) (hc : w.cell? ⟨ca, 0, none⟩ = some (.int .u64 tag)) (hl : ca < w.heap.size) (t0 : 0 ≤ tag) (t1 : tag ≤ 18446744073709551615) : PartOK w (cap 52 [ca]) (tagI tag) := by
  refine ⟨_, ca, fun cw => tagS cw ca, rfl, en_tag, by simp, fun b w1 => tagL b ca w1, fun cw i it hi _ => ?_⟩
  match i, hi with
  | 0, hi =>
    obtain rfl : (0, enc tag) = it := by simpa using hi
    exact ⟨_, rfl, _, _, rfl, en_tag1, fun b L v out base w1 hb hw h => (tag1 cw ca b tag L v out base w1 hw ((Below.cell (p := ⟨ca, 0, none⟩) hb hl).trans hc) h t0 t1).mono fun e w2 h => stepped_w h⟩
theorem stepped_c {b : Nat} {L : Int} {v : Value} {out : List Int} {base : Nat} {x : Int} {w w' : World} {e : Ending} (hw : WS w b L v 0 out base) (h : e = .returned (.int .i64 x) ∧ Bel w w') : Stepped b L v out base (x, []) w e w' := by
  obtain ⟨h1, h2⟩ := h
  refine ⟨x, h1, fun _ => rfl, fun h => .inl ⟨h, ?_, v, ?_⟩, Kep.of_bel h2⟩
  · simpa using hw.fits
  · simpa using hw.bel h2
theorem chk_ok {v s t : Int} (h : chkE v s t = 0) : (0 ≤ v ∧ v ≤ 31) ∧ (0 ≤ s ∧ s ≤ 4294967296) ∧ (0 ≤ t ∧ t ≤ 4294967296) := by
  unfold chkE wthE at h
  by_cases hb : ([(v, 0, 31), (s, 0, 4294967296), (t, 0, 4294967296)].all okB) = true
  · simp [okB] at hb
    omega
  · rw [if_neg hb] at h; omega
theorem chkB_ok {v s : Int} (h : chkBE v s = 0) : (0 ≤ v ∧ v ≤ 31) ∧ (1 ≤ s ∧ s ≤ 4294967296) := by
  unfold chkBE wthE at h
  by_cases hb : ([(v, 0, 31), (s, 1, 4294967296)].all okB) = true
  · simp [okB] at hb
    omega
  · rw [if_neg hb] at h; omega
theorem err_head {x : Int} {zs : List Int} {r : List (Int × List Int)} {i : Nat} (h : errOf (((x, zs) :: r).take (i + 1)) = 0) : x = 0 := by
  rw [List.take_succ_cons, errOf] at h
  by_cases hx : x = 0
  · exact hx
  · rw [if_pos hx] at h; exact h
theorem range_sub {w : World} {b o : Nat} {A B : List Value} {C : List Value} (h : w.rangeAt b o (A ++ (B ++ C))) : w.rangeAt b (o + A.length) B := fun j v hv => by
  rw [Nat.add_assoc]
  exact h (A.length + j) v (by
    have hj : j < B.length := (List.getElem?_eq_some_iff.1 hv).1
    rw [List.getElem?_append_right (by omega), Nat.add_sub_cancel_left, List.getElem?_append_left hj]
    exact hv)
theorem en_att : Enters 43 := fun C w => by kernel_rfl
theorem en_att1 : Enters 44 := fun C w => by kernel_rfl
theorem en_att2 : Enters 45 := fun C w => by kernel_rfl
theorem en_att3 : Enters 47 := fun C w => by kernel_rfl
theorem en_att4 : Enters 48 := fun C w => by kernel_rfl
theorem en_att5 : Enters 49 := fun C w => by kernel_rfl
theorem en_att6 : Enters 50 := fun C w => by kernel_rfl
theorem en_prop : Enters 69 := fun C w => by kernel_rfl
theorem en_prop1 : Enters 70 := fun C w => by kernel_rfl
theorem en_prop2 : Enters 71 := fun C w => by kernel_rfl
theorem en_prop3 : Enters 72 := fun C w => by kernel_rfl
theorem en_prop4 : Enters 73 := fun C w => by kernel_rfl
theorem en_prop5 : Enters 74 := fun C w => by kernel_rfl

abbrev attI (v s t : Int) (hs : List Int) : List (Int × List Int) := [(chkE v s t, []), (0, enc 1), (0, enc v), (0, enc s), (0, enc t), (0, hs)]
theorem att_part (w : World) (ca : Nat) (v s t tag : Int) (hs : List Int) (hr : w.rangeAt ca 0 (attC v s t hs tag)) (hl : ca < w.heap.size) (h32 : hs.length = 32) : PartOK w (cap 43 [ca]) (attI v s t hs) := by
  refine ⟨_, ca, fun cw => attS cw ca, rfl, en_att, by simp, fun b w1 => attL b ca w1, fun cw i it hi he => ?_⟩
  have R : ∀ {w1 : World}, Bel w w1 → w1.rangeAt ca 0 (attC v s t hs tag) := fun hb j u hu => (Below.cell (p := ⟨ca, 0 + j, none⟩) hb hl).trans (hr j u hu)
  match i, hi, he with
  | 0, hi, _ =>
    obtain rfl : (chkE v s t, ([] : List Int)) = it := by simpa using hi
    exact ⟨_, rfl, _, _, rfl, en_att1, fun b L u out base w1 hb hw h => (att1 ca v s t tag hs w1 h32 (R hb)).mono fun e w2 h2 => stepped_c h h2⟩
  | 1, hi, _ =>
    obtain rfl : ((0 : Int), enc 1) = it := by simpa using hi
    exact ⟨_, rfl, _, _, rfl, en_att2, fun b L u out base w1 hb hw h => (att2 cw b L u out base w1 hw h).mono fun e w2 h2 => stepped_w h2⟩
  | 2, hi, he =>
    obtain rfl : ((0 : Int), enc v) = it := by simpa using hi
    have B := chk_ok (err_head he)
    exact ⟨_, rfl, _, _, rfl, en_att3, fun b L u out base w1 hb hw h => (att3 cw ca b v L u out base w1 hw (R hb 0 _ rfl) h (by omega) (by omega)).mono fun e w2 h2 => stepped_w h2⟩
  | 3, hi, he =>
    obtain rfl : ((0 : Int), enc s) = it := by simpa using hi
    have B := chk_ok (err_head he)
    exact ⟨_, rfl, _, _, rfl, en_att4, fun b L u out base w1 hb hw h => (att4 cw ca b s L u out base w1 hw (R hb 1 _ rfl) h (by omega) (by omega)).mono fun e w2 h2 => stepped_w h2⟩
  | 4, hi, he =>
    obtain rfl : ((0 : Int), enc t) = it := by simpa using hi
    have B := chk_ok (err_head he)
    exact ⟨_, rfl, _, _, rfl, en_att5, fun b L u out base w1 hb hw h => (att5 cw ca b t L u out base w1 hw (R hb 2 _ rfl) h (by omega) (by omega)).mono fun e w2 h2 => stepped_w h2⟩
  | 5, hi, he =>
    obtain rfl : ((0 : Int), hs) = it := by simpa using hi
    exact ⟨_, rfl, _, _, rfl, en_att6, fun b L u out base w1 hb hw h => (att6 cw ca b hs L u out base w1 hw (range_sub (R hb)) h h32).mono fun e w2 h2 => stepped_w h2⟩

abbrev propI (v s : Int) (hs : List Int) : List (Int × List Int) := [(chkBE v s, []), (0, enc 2), (0, enc v), (0, enc s), (0, hs)]
theorem prop_part (w : World) (ca : Nat) (v s tag : Int) (hs : List Int) (hr : w.rangeAt ca 0 (propC v s hs tag)) (hl : ca < w.heap.size) (h32 : hs.length = 32) : PartOK w (cap 69 [ca]) (propI v s hs) := by
  refine ⟨_, ca, fun cw => propS cw ca, rfl, en_prop, by simp, fun b w1 => propL b ca w1, fun cw i it hi he => ?_⟩
  have R : ∀ {w1 : World}, Bel w w1 → w1.rangeAt ca 0 (propC v s hs tag) := fun hb j u hu => (Below.cell (p := ⟨ca, 0 + j, none⟩) hb hl).trans (hr j u hu)
  match i, hi, he with
  | 0, hi, _ =>
    obtain rfl : (chkBE v s, ([] : List Int)) = it := by simpa using hi
    exact ⟨_, rfl, _, _, rfl, en_prop1, fun b L u out base w1 hb hw h => (prop1 ca v s tag hs w1 h32 (R hb)).mono fun e w2 h2 => stepped_c h h2⟩
  | 1, hi, _ =>
    obtain rfl : ((0 : Int), enc 2) = it := by simpa using hi
    exact ⟨_, rfl, _, _, rfl, en_prop2, fun b L u out base w1 hb hw h => (prop2 cw b L u out base w1 hw h).mono fun e w2 h2 => stepped_w h2⟩
  | 2, hi, he =>
    obtain rfl : ((0 : Int), enc v) = it := by simpa using hi
    have B := chkB_ok (err_head he)
    exact ⟨_, rfl, _, _, rfl, en_prop3, fun b L u out base w1 hb hw h => (prop3 cw ca b v L u out base w1 hw (R hb 0 _ rfl) h (by omega) (by omega)).mono fun e w2 h2 => stepped_w h2⟩
  | 3, hi, he =>
    obtain rfl : ((0 : Int), enc s) = it := by simpa using hi
    have B := chkB_ok (err_head he)
    exact ⟨_, rfl, _, _, rfl, en_prop4, fun b L u out base w1 hb hw h => (prop4 cw ca b s L u out base w1 hw (R hb 1 _ rfl) h (by omega) (by omega)).mono fun e w2 h2 => stepped_w h2⟩
  | 4, hi, he =>
    obtain rfl : ((0 : Int), hs) = it := by simpa using hi
    exact ⟨_, rfl, _, _, rfl, en_prop5, fun b L u out base w1 hb hw h => (prop5 cw ca b hs L u out base w1 hw (range_sub (R hb)) h h32).mono fun e w2 h2 => stepped_w h2⟩
end Vt
end Go.Proofs.YtgalhpejihmhkaaDoor
end

section
/-
  What vote.attested, proposed and tagged answer. No condition.
-/
namespace Go.Proofs.YtgalhpejihmhkaaDoor
open Go.RowKit Go.Shelf
set_option linter.unusedVariables false
namespace Vt
open Cd

/-- A part was made: a new box with the words, and nothing else. -/
def Made (F : Nat) (C : List Value) (w : World) (e : Ending) (w' : World) : Prop :=
  ∃ ca, ca = w.heap.size ∧ e = .returned (cap F [ca]) ∧ w'.rangeAt ca 0 C ∧ ca < w'.heap.size ∧ Bel w w'
theorem range_blk {w : World} {b : Nat} {C : List Value} {t : TypeId} (h : Blk w b C.toArray t) : w.rangeAt b 0 C := fun j u hu => by
  rw [Nat.zero_add]
  exact h.cell j (by rw [List.getElem?_toArray]; exact hu)

set_option maxRecDepth 100000 in
set_option maxHeartbeats 1000000 in
theorem attMade (v s t tag : Int) (hs : List Int) (w : World) : Calls Tryd.prog 23 #[.agg (attC v s t hs tag).toArray] w fun e w' => Made 43 (attC v s t hs tag) w e w' := by
  obtain ⟨D, hD⟩ : ∃ D, D = attC v s t hs tag := ⟨_, rfl⟩
  rw [← hD]
  obtain ⟨W, hW⟩ : ∃ W, w.alloc (.cells D.toArray 26) = W := ⟨_, rfl⟩
  have HB := Lib.hid (show Bel w W by rw [← hW]; exact (Bel.refl w).alloc _)
  have HR := Lib.hid (show W.rangeAt w.heap.size 0 D by rw [← hW]; exact range_blk (Blk.new w D.toArray 26))
  have HZ := Lib.hid (show w.heap.size < W.heap.size by rw [← hW]; simp)
  have HW := Lib.hid hW
  clear hD hW
  go_enter Tryd.func23, Tryd.ntmps23
  go_upto_region 1 with fail
  rw [HW.out]
  go_wp2
  go_ret
  exact ⟨_, rfl, rfl, HR.out, HZ.out, HB.out⟩

set_option maxRecDepth 100000 in
set_option maxHeartbeats 1000000 in
theorem propMade (v s tag : Int) (hs : List Int) (w : World) : Calls Tryd.prog 37 #[.agg (propC v s hs tag).toArray] w fun e w' => Made 69 (propC v s hs tag) w e w' := by
  obtain ⟨D, hD⟩ : ∃ D, D = propC v s hs tag := ⟨_, rfl⟩
  rw [← hD]
  obtain ⟨W, hW⟩ : ∃ W, w.alloc (.cells D.toArray 28) = W := ⟨_, rfl⟩
  have HB := Lib.hid (show Bel w W by rw [← hW]; exact (Bel.refl w).alloc _)
  have HR := Lib.hid (show W.rangeAt w.heap.size 0 D by rw [← hW]; exact range_blk (Blk.new w D.toArray 28))
  have HZ := Lib.hid (show w.heap.size < W.heap.size by rw [← hW]; simp)
  have HW := Lib.hid hW
  clear hD hW
  go_enter Tryd.func37, Tryd.ntmps37
  go_upto_region 1 with fail
  rw [HW.out]
  go_wp2
  go_ret
  exact ⟨_, rfl, rfl, HR.out, HZ.out, HB.out⟩

set_option maxRecDepth 100000 in
set_option maxHeartbeats 1000000 in
theorem tagMade (tag : Int) (w : World) : Calls Tryd.prog 24 #[.int .u64 tag] w fun e w' => Made 52 [.int .u64 tag] w e w' := by
  have HR := Lib.hid (range_blk (Blk.new w [Value.int .u64 tag].toArray 24))
  go_enter Tryd.func24, Tryd.ntmps24
  go_wp2
  go_ret
  exact ⟨_, rfl, rfl, HR.out, by simp, (Bel.refl w).alloc _⟩
end Vt
end Go.Proofs.YtgalhpejihmhkaaDoor
end

section
/-
  What vote.Bytes and BytesBlock answer. Condition: a root has 32 bytes, a tag is below 2^64.
-/
namespace Go.Proofs.YtgalhpejihmhkaaDoor
open Go.RowKit Go.Shelf
set_option linter.unusedVariables false
namespace Vt
open Cd

theorem enc_le (n : Int) : (enc n).length ≤ 10 := (enc_len n).2
theorem PartOK.bel {w w' : World} {fv : Value} {its : List (Int × List Int)} (h : PartOK w fv its) (hb : Bel w w') : PartOK w' fv its := by
  obtain ⟨F, ca, S, h1, h2, h3, h4, h5⟩ := h
  refine ⟨F, ca, S, h1, h2, h3, h4, fun cw i it hi he => ?_⟩
  obtain ⟨sv, g1, f, C, g2, g3, g4⟩ := h5 cw i it hi he
  exact ⟨sv, g1, f, C, g2, g3, fun b L v out base w1 hw => g4 b L v out base w1 (hb.trans hw)⟩
/-- What encode's answer is beside its error. -/
def EncR (all : List (Int × List Int)) (w : World) (u : Value) (w' : World) : Prop :=
  Bel w w' ∧ ((errOf all ≠ 0 ∧ u = .slice none 0 0) ∨ (errOf all = 0 ∧ w'.ownsRow w.heap.size 5 1 u (bytesOf all).length ((bytesOf all).map (Value.int .u8))))
theorem EncR.low {all : List (Int × List Int)} {w0 w w' : World} {u : Value} (h : EncR all w u w') (hb : Bel w0 w) : EncR all w0 u w' := by
  refine ⟨hb.trans h.1, ?_⟩
  rcases h.2 with ⟨h1, h2⟩ | ⟨h1, h2⟩
  · exact .inl ⟨h1, h2⟩
  · exact .inr ⟨h1, row_low h2 (Below.size hb)⟩
theorem Encoded.split {all : List (Int × List Int)} {w w' : World} {e : Ending} (h : Encoded all w e w') : ∃ u, e = .returned (.tuple #[u, .int .i64 (errOf all)]) ∧ EncR all w u w' := by
  obtain ⟨hb, ⟨h1, h2⟩ | ⟨h1, u, h2, h3⟩⟩ := h
  · exact ⟨_, h2, hb, .inl ⟨h1, rfl⟩⟩
  · exact ⟨u, by rw [h1]; exact h2, hb, .inr ⟨h1, h3⟩⟩
theorem encode2 (w v3 : World) (g : Nat) (f1 f2 : Value) (i1 i2 : List (Int × List Int)) (h1 : PartOK w f1 i1) (h2 : PartOK w f2 i2) (hv : w.alloc (.cells #[f1, f2] 56) = v3) (hg : g = w.heap.size) (hl : (bytesOf (i1 ++ i2)).length ≤ 1048576) :
    Calls Tryd.prog 22 #[.slice (some ⟨g, 0, none⟩) 2 2] v3 fun e w' => ∃ u, e = .returned (.tuple #[u, .int .i64 (errOf (i1 ++ i2))]) ∧ EncR (i1 ++ i2) v3 u w' := by
  subst hv hg
  have hb : Bel w (w.alloc (.cells #[f1, f2] 56)) := (Bel.refl w).alloc _
  refine (encode w.heap.size 2 [f1, f2] [i1, i2] _ rfl rfl (by omega) (fun i v hi => (Blk.new w #[f1, f2] 56).cell i (by rw [← List.getElem?_toArray] at hi; exact hi)) (by simp) ?_ (by simpa using hl)).mono fun e w' h => ?_
  · intro i v its hi hj
    match i, hi, hj with
    | 0, hi, hj =>
      obtain rfl : f1 = v := by simpa using hi
      obtain rfl : i1 = its := by simpa using hj
      exact h1.bel hb
    | 1, hi, hj =>
      obtain rfl : f2 = v := by simpa using hi
      obtain rfl : i2 = its := by simpa using hj
      exact h2.bel hb
  · have := h.split
    simpa using this
theorem encode1 (w v3 : World) (g : Nat) (f1 : Value) (i1 : List (Int × List Int)) (h1 : PartOK w f1 i1) (hv : w.alloc (.cells #[f1] 56) = v3) (hg : g = w.heap.size) (hl : (bytesOf i1).length ≤ 1048576) :
    Calls Tryd.prog 22 #[.slice (some ⟨g, 0, none⟩) 1 1] v3 fun e w' => ∃ u, e = .returned (.tuple #[u, .int .i64 (errOf i1)]) ∧ EncR i1 v3 u w' := by
  subst hv hg
  have hb : Bel w (w.alloc (.cells #[f1] 56)) := (Bel.refl w).alloc _
  refine (encode w.heap.size 1 [f1] [i1] _ rfl rfl (by omega) (fun i v hi => (Blk.new w #[f1] 56).cell i (by rw [← List.getElem?_toArray] at hi; exact hi)) (by simp) ?_ (by simpa using hl)).mono fun e w' h => ?_
  · intro i v its hi hj
    match i, hi, hj with
    | 0, hi, hj =>
      obtain rfl : f1 = v := by simpa using hi
      obtain rfl : i1 = its := by simpa using hj
      exact h1.bel hb
  · have := h.split
    simpa using this
theorem attI_len {v s t tag : Int} {hs : List Int} (h32 : hs.length = 32) : (bytesOf (attI v s t hs ++ tagI tag)).length ≤ 1048576 := by
  simp only [bytesOf, List.cons_append, List.nil_append, List.flatMap_cons, List.flatMap_nil, List.length_append, List.length_nil, h32]
  have h1 := enc_le 1; have h2 := enc_le v; have h3 := enc_le s; have h4 := enc_le t; have h5 := enc_le tag
  omega
theorem attI_len1 {v s t : Int} {hs : List Int} (h32 : hs.length = 32) : (bytesOf (attI v s t hs)).length ≤ 1048576 := by
  simp only [bytesOf, List.flatMap_cons, List.flatMap_nil, List.length_append, List.length_nil, h32]
  have h1 := enc_le 1; have h2 := enc_le v; have h3 := enc_le s; have h4 := enc_le t
  omega
theorem propI_len {v s tag : Int} {hs : List Int} (h32 : hs.length = 32) : (bytesOf (propI v s hs ++ tagI tag)).length ≤ 1048576 := by
  simp only [bytesOf, List.cons_append, List.nil_append, List.flatMap_cons, List.flatMap_nil, List.length_append, List.length_nil, h32]
  have h1 := enc_le 2; have h2 := enc_le v; have h3 := enc_le s; have h5 := enc_le tag
  omega
theorem propI_len1 {v s : Int} {hs : List Int} (h32 : hs.length = 32) : (bytesOf (propI v s hs)).length ≤ 1048576 := by
  simp only [bytesOf, List.flatMap_cons, List.flatMap_nil, List.length_append, List.length_nil, h32]
  have h1 := enc_le 2; have h2 := enc_le v; have h3 := enc_le s
  omega

set_option maxRecDepth 100000 in
set_option maxHeartbeats 4000000 in
theorem bytes (v s t tag : Int) (hs : List Int) (w : World) (h32 : hs.length = 32) (t0 : 0 ≤ tag) (t1 : tag ≤ 18446744073709551615) :
    Calls Tryd.prog 5 #[.agg (attC v s t hs tag).toArray] w fun e w' => ∃ u, e = .returned (.tuple #[u, .int .i64 (errOf (attI v s t hs ++ tagI tag))]) ∧ EncR (attI v s t hs ++ tagI tag) w u w' := by
  have AM := Lib.hid (fun W => attMade v s t tag hs W)
  have TM := Lib.hid (fun W => tagMade tag W)
  have AP := Lib.hid (fun W ca h1 h2 => att_part W ca v s t tag hs h1 h2 h32)
  have TP := Lib.hid (fun W ca h1 h2 => tag_part W ca tag h1 h2 t0 t1)
  have HL := Lib.hid (attI_len (v := v) (s := s) (t := t) (tag := tag) h32)
  obtain ⟨D, hD⟩ : ∃ D, D = attC v s t hs tag := ⟨_, rfl⟩
  have HDl := Lib.hid (show D.length = 36 by rw [hD]; exact len_attC h32 v s t tag)
  have HDt := Lib.hid (show D[35]? = some (.int .u64 tag) by rw [hD]; simp [attC, h32])
  rw [← hD] at AM AP ⊢
  obtain ⟨W, hW⟩ : ∃ W, w.alloc (.cells D.toArray 26) = W := ⟨_, rfl⟩
  obtain ⟨bx, hbx⟩ : ∃ bx, bx = w.heap.size := ⟨_, rfl⟩
  have HB := Lib.hid (show Bel w W by rw [← hW]; exact (Bel.refl w).alloc _)
  have hbk : Blk W bx D.toArray 26 := by rw [← hW, hbx]; exact Blk.new w _ _
  have S0 : W.rangeAt bx 0 D ∧ W.cell? ⟨bx, 35, none⟩ = some (.int .u64 tag) ∧ bx < W.heap.size ∧ Bel w W := ⟨range_blk hbk, hbk.cell 35 (by rw [List.getElem?_toArray]; exact HDt.out), by rw [← hW, hbx]; simp, HB.out⟩
  have KEEP := Lib.hid (show ∀ W W' : World, (W.rangeAt bx 0 D ∧ W.cell? ⟨bx, 35, none⟩ = some (.int .u64 tag) ∧ bx < W.heap.size ∧ Bel w W) → Bel W W' → (W'.rangeAt bx 0 D ∧ W'.cell? ⟨bx, 35, none⟩ = some (.int .u64 tag) ∧ bx < W'.heap.size ∧ Bel w W') from
    fun W W' h hb => ⟨fun j u hu => (Below.cell (p := ⟨bx, 0 + j, none⟩) hb h.2.2.1).trans (h.1 j u hu), (Below.cell (p := ⟨bx, 35, none⟩) hb h.2.2.1).trans h.2.1, Nat.lt_of_lt_of_le h.2.2.1 (Below.size hb), h.2.2.2.trans hb⟩)
  have S0d := KEEP.out _ _ S0 (Bel.refl W).drew
  have HW := Lib.hid hW
  have uA := Tryd.underlying26
  have iA : (Tryd.prog.info? 26).map (·.size) = some D.length := by rw [HDl.out]; exact info_att
  have HX := Lib.hid hbx
  clear hD hW hbk hbx
  go_enter Tryd.func5, Tryd.ntmps5
  go_upto_region 1 with fail
  rw [← HX.out, HW.out]
  refine wp_region_held_drew (S := fun w' => w'.rangeAt bx 0 D ∧ w'.cell? ⟨bx, 35, none⟩ = some (.int .u64 tag) ∧ bx < w'.heap.size ∧ Bel w w') (by kernel_rfl) S0d (fun hS0 => ?_)
  refine wpAnyH_take (i := 0) (oi := { dst := some 4, op := .load 26 (.tmp 1), type := 26, pos := "vote.go:19", after := #[], guard := none }) (v := .agg D.toArray) rfl (by kernel_rfl) (by kernel_rfl) (by kernel_rfl) (fun _ _ _ h => h) (yieldsIf_load_mid (by rfl) _ _ rfl _ _ rfl _ _ (fun w h => h.1) uA rfl iA) hS0 ?_
  try simp only [Act.put, List.setIfInBounds_toArray, List.set_cons_zero, List.set_cons_succ]
  refine wpAnyH_take (i := 2) (oi := { dst := some 6, op := .fieldAddr 26 (.tmp 1) 4, type := 0, pos := "vote.go:19", after := #[], guard := none }) (v := .pointer (some ⟨bx, 35, none⟩)) rfl (by kernel_rfl) (by kernel_rfl) (by kernel_rfl) (fun _ _ _ h => h) (Or.inl ⟨by rfl, by intro w hSw; clear hSw; go_simp⟩) hS0 ?_
  try simp only [Act.put, List.setIfInBounds_toArray, List.set_cons_zero, List.set_cons_succ]
  refine wpAnyH_take (i := 3) (oi := { dst := some 7, op := .load 24 (.tmp 6), type := 24, pos := "vote.go:19", after := #[{ on := 2, ground := .data }], guard := none }) (v := .int .u64 tag) rfl (by kernel_rfl) (by kernel_rfl) (by kernel_rfl) (fun _ _ _ h => h) (Or.inl ⟨by rfl, by intro w h; have hcell := (h.2.1); clear h; go_simp⟩) hS0 ?_
  try simp only [Act.put, List.setIfInBounds_toArray, List.set_cons_zero, List.set_cons_succ]
  refine wpAnyH_ready (rs := [1]) (by kernel_rfl) (by simp) ?_
  refine AllReadyH.cons (o := { dst := some 5, op := .call { callee := .value (.func 23), args := #[.tmp 4], argTypes := #[26] }, type := 56, pos := "vote.go:19", after := #[{ on := 0, ground := .data }], guard := none }) rfl (fun K hK => ?_) AllReadyH.nil
  go_simp
  refine (AM.out _).mono ?_
  rintro e v1 ⟨ca, -, rfl, ra, la, ka⟩
  go_wp2_with fail
  refine hK.out _ _ (KEEP.out _ _ hS0 ka) (fun hS1 => ?_)
  clear hK K
  try simp only [Act.put, List.setIfInBounds_toArray, List.set_cons_zero, List.set_cons_succ]
  have P1 := Lib.hid (AP.out v1 ca ra la)
  refine wpAnyH_ready (rs := [4]) (by kernel_rfl) (by simp) ?_
  refine AllReadyH.cons (o := { dst := some 8, op := .call { callee := .value (.func 24), args := #[.tmp 7], argTypes := #[24] }, type := 56, pos := "vote.go:19", after := #[{ on := 3, ground := .data }, { on := 1, ground := .chain }], guard := none }) rfl (fun K hK => ?_) AllReadyH.nil
  go_simp
  refine (TM.out _).mono ?_
  rintro e v2 ⟨ct, -, rfl, rt, lt, kt⟩
  go_wp2_with fail
  refine hK.out _ _ (KEEP.out _ _ hS1 kt) (fun hS2 => ?_)
  clear hK K
  try simp only [Act.put, List.setIfInBounds_toArray, List.set_cons_zero, List.set_cons_succ]
  have P1 := Lib.hid (P1.out.bel kt)
  have P2 := Lib.hid (TP.out v2 ct (rt 0 _ rfl) lt)
  refine wpAnyH_ready (rs := [5]) (by kernel_rfl) (by simp) ?_
  refine AllReadyH.cons (o := { dst := some 9, op := .buildSlice 87 2 #[(0, .tmp 5), (1, .tmp 8)], type := 87, pos := "vote.go:19", after := #[{ on := 1, ground := .data }, { on := 4, ground := .data }], guard := none }) rfl (fun K hK => ?_) AllReadyH.nil
  go_simp
  refine hK.out _ _ (KEEP.out _ _ hS2 ((Bel.refl _).alloc _)) (fun hS3 => ?_)
  clear hK K
  try simp only [Act.put, List.setIfInBounds_toArray, List.set_cons_zero, List.set_cons_succ]
  obtain ⟨g, hg⟩ : ∃ g, g = v2.heap.size := ⟨_, rfl⟩
  obtain ⟨v3, hv3⟩ : ∃ v3, v2.alloc (.cells #[cap 43 [ca], cap 52 [ct]] 56) = v3 := ⟨_, rfl⟩
  rw [hv3, ← hg]
  rw [hv3] at hS3
  have HE := Lib.hid (encode2 v2 v3 g _ _ _ _ P1.out P2.out hv3 hg HL.out)
  clear hv3 hg P1 P2 ra la ka rt lt kt
  obtain ⟨E, hE⟩ : ∃ E, E = errOf (attI v s t hs ++ tagI tag) := ⟨_, rfl⟩
  have HE2 := Lib.hid hE
  rw [← hE] at HE
  clear hE
  refine wpAnyH_ready (rs := [6]) (by kernel_rfl) (by simp) ?_
  refine AllReadyH.cons (o := { dst := some 10, op := .call { callee := .value (.func 22), args := #[.tmp 9], argTypes := #[87] }, type := 32, pos := "vote.go:19", after := #[{ on := 5, ground := .data }, { on := 4, ground := .chain }], guard := none }) rfl (fun K hK => ?_) AllReadyH.nil
  go_simp
  refine (HE.out).mono ?_
  rintro e v4 ⟨u, rfl, hu⟩
  go_wp2_with fail
  refine hK.out _ _ (KEEP.out _ _ hS3 hu.1) (fun hS4 => ?_)
  clear hK K
  try simp only [Act.put, List.setIfInBounds_toArray, List.set_cons_zero, List.set_cons_succ]
  have HU := Lib.hid (hu.low hS3.2.2.2)
  clear hu
  refine wpAnyH_take (i := 7) (oi := { dst := some 11, op := .extract (.tmp 10) 0, type := 29, pos := "vote.go:19", after := #[{ on := 6, ground := .data }], guard := none }) (v := u) rfl (by kernel_rfl) (by kernel_rfl) (by kernel_rfl) (fun _ _ _ h => h) (Or.inl ⟨by rfl, by intro w hSw; clear hSw; go_simp⟩) hS4 ?_
  try simp only [Act.put, List.setIfInBounds_toArray, List.set_cons_zero, List.set_cons_succ]
  refine wpAnyH_take (i := 8) (oi := { dst := some 12, op := .extract (.tmp 10) 1, type := 31, pos := "vote.go:19", after := #[{ on := 6, ground := .data }], guard := none }) (v := .int .i64 E) rfl (by kernel_rfl) (by kernel_rfl) (by kernel_rfl) (fun _ _ _ h => h) (Or.inl ⟨by rfl, by intro w hSw; clear hSw; go_simp⟩) hS4 ?_
  try simp only [Act.put, List.setIfInBounds_toArray, List.set_cons_zero, List.set_cons_succ]
  refine wpAnyH_take (i := 9) (oi := { dst := some 2, op := .assign (.tmp 11), type := 29, pos := "vote.go:19", after := #[{ on := 7, ground := .data }, { on := 6, ground := .chain }, { on := 0, ground := .phase }, { on := 1, ground := .phase }, { on := 2, ground := .phase }, { on := 3, ground := .phase }, { on := 4, ground := .phase }, { on := 5, ground := .phase }, { on := 6, ground := .phase }, { on := 7, ground := .phase }, { on := 8, ground := .phase }], guard := none }) (v := u) rfl (by kernel_rfl) (by kernel_rfl) (by kernel_rfl) (fun _ _ _ h => h) (Or.inl ⟨by rfl, by intro w hSw; clear hSw; go_simp⟩) hS4 ?_
  try simp only [Act.put, List.setIfInBounds_toArray, List.set_cons_zero, List.set_cons_succ]
  refine wpAnyH_take (i := 10) (oi := { dst := some 3, op := .assign (.tmp 12), type := 31, pos := "vote.go:19", after := #[{ on := 8, ground := .data }, { on := 9, ground := .chain }, { on := 0, ground := .phase }, { on := 1, ground := .phase }, { on := 2, ground := .phase }, { on := 3, ground := .phase }, { on := 4, ground := .phase }, { on := 5, ground := .phase }, { on := 6, ground := .phase }, { on := 7, ground := .phase }, { on := 8, ground := .phase }, { on := 9, ground := .phase }], guard := none }) (v := .int .i64 E) rfl (by kernel_rfl) (by kernel_rfl) (by kernel_rfl) (fun _ _ _ h => h) (Or.inl ⟨by rfl, by intro w hSw; clear hSw; go_simp⟩) hS4 ?_
  try simp only [Act.put, List.setIfInBounds_toArray, List.set_cons_zero, List.set_cons_succ]
  refine wpAnyH_done (by kernel_rfl) ?_ _
  go_wp2
  go_ret2
  exact ⟨u, by rw [HE2.out]; rfl, HU.out⟩

set_option maxRecDepth 100000 in
set_option maxHeartbeats 4000000 in
theorem bytesB (v s tag : Int) (hs : List Int) (w : World) (h32 : hs.length = 32) (t0 : 0 ≤ tag) (t1 : tag ≤ 18446744073709551615) :
    Calls Tryd.prog 11 #[.agg (propC v s hs tag).toArray] w fun e w' => ∃ u, e = .returned (.tuple #[u, .int .i64 (errOf (propI v s hs ++ tagI tag))]) ∧ EncR (propI v s hs ++ tagI tag) w u w' := by
  have AM := Lib.hid (fun W => propMade v s tag hs W)
  have TM := Lib.hid (fun W => tagMade tag W)
  have AP := Lib.hid (fun W ca h1 h2 => prop_part W ca v s tag hs h1 h2 h32)
  have TP := Lib.hid (fun W ca h1 h2 => tag_part W ca tag h1 h2 t0 t1)
  have HL := Lib.hid (propI_len (v := v) (s := s) (tag := tag) h32)
  obtain ⟨D, hD⟩ : ∃ D, D = propC v s hs tag := ⟨_, rfl⟩
  have HDl := Lib.hid (show D.length = 35 by rw [hD]; exact len_propC h32 v s tag)
  have HDt := Lib.hid (show D[34]? = some (.int .u64 tag) by rw [hD]; simp [propC, h32])
  rw [← hD] at AM AP ⊢
  obtain ⟨W, hW⟩ : ∃ W, w.alloc (.cells D.toArray 28) = W := ⟨_, rfl⟩
  obtain ⟨bx, hbx⟩ : ∃ bx, bx = w.heap.size := ⟨_, rfl⟩
  have HB := Lib.hid (show Bel w W by rw [← hW]; exact (Bel.refl w).alloc _)
  have hbk : Blk W bx D.toArray 28 := by rw [← hW, hbx]; exact Blk.new w _ _
  have S0 : W.rangeAt bx 0 D ∧ W.cell? ⟨bx, 34, none⟩ = some (.int .u64 tag) ∧ bx < W.heap.size ∧ Bel w W := ⟨range_blk hbk, hbk.cell 34 (by rw [List.getElem?_toArray]; exact HDt.out), by rw [← hW, hbx]; simp, HB.out⟩
  have KEEP := Lib.hid (show ∀ W W' : World, (W.rangeAt bx 0 D ∧ W.cell? ⟨bx, 34, none⟩ = some (.int .u64 tag) ∧ bx < W.heap.size ∧ Bel w W) → Bel W W' → (W'.rangeAt bx 0 D ∧ W'.cell? ⟨bx, 34, none⟩ = some (.int .u64 tag) ∧ bx < W'.heap.size ∧ Bel w W') from
    fun W W' h hb => ⟨fun j u hu => (Below.cell (p := ⟨bx, 0 + j, none⟩) hb h.2.2.1).trans (h.1 j u hu), (Below.cell (p := ⟨bx, 34, none⟩) hb h.2.2.1).trans h.2.1, Nat.lt_of_lt_of_le h.2.2.1 (Below.size hb), h.2.2.2.trans hb⟩)
  have S0d := KEEP.out _ _ S0 (Bel.refl W).drew
  have HW := Lib.hid hW
  have uA := Tryd.underlying28
  have iA : (Tryd.prog.info? 28).map (·.size) = some D.length := by rw [HDl.out]; exact info_prop
  have HX := Lib.hid hbx
  clear hD hW hbk hbx
  go_enter Tryd.func11, Tryd.ntmps11
  go_upto_region 1 with fail
  rw [← HX.out, HW.out]
  refine wp_region_held_drew (S := fun w' => w'.rangeAt bx 0 D ∧ w'.cell? ⟨bx, 34, none⟩ = some (.int .u64 tag) ∧ bx < w'.heap.size ∧ Bel w w') (by kernel_rfl) S0d (fun hS0 => ?_)
  refine wpAnyH_take (i := 0) (oi := { dst := some 4, op := .load 28 (.tmp 1), type := 28, pos := "block.go:17", after := #[], guard := none }) (v := .agg D.toArray) rfl (by kernel_rfl) (by kernel_rfl) (by kernel_rfl) (fun _ _ _ h => h) (yieldsIf_load_mid (by rfl) _ _ rfl _ _ rfl _ _ (fun w h => h.1) uA rfl iA) hS0 ?_
  try simp only [Act.put, List.setIfInBounds_toArray, List.set_cons_zero, List.set_cons_succ]
  refine wpAnyH_take (i := 2) (oi := { dst := some 6, op := .fieldAddr 28 (.tmp 1) 3, type := 0, pos := "block.go:17", after := #[], guard := none }) (v := .pointer (some ⟨bx, 34, none⟩)) rfl (by kernel_rfl) (by kernel_rfl) (by kernel_rfl) (fun _ _ _ h => h) (Or.inl ⟨by rfl, by intro w hSw; clear hSw; go_simp⟩) hS0 ?_
  try simp only [Act.put, List.setIfInBounds_toArray, List.set_cons_zero, List.set_cons_succ]
  refine wpAnyH_take (i := 3) (oi := { dst := some 7, op := .load 24 (.tmp 6), type := 24, pos := "block.go:17", after := #[{ on := 2, ground := .data }], guard := none }) (v := .int .u64 tag) rfl (by kernel_rfl) (by kernel_rfl) (by kernel_rfl) (fun _ _ _ h => h) (Or.inl ⟨by rfl, by intro w h; have hcell := (h.2.1); clear h; go_simp⟩) hS0 ?_
  try simp only [Act.put, List.setIfInBounds_toArray, List.set_cons_zero, List.set_cons_succ]
  refine wpAnyH_ready (rs := [1]) (by kernel_rfl) (by simp) ?_
  refine AllReadyH.cons (o := { dst := some 5, op := .call { callee := .value (.func 37), args := #[.tmp 4], argTypes := #[28] }, type := 56, pos := "block.go:17", after := #[{ on := 0, ground := .data }], guard := none }) rfl (fun K hK => ?_) AllReadyH.nil
  go_simp
  refine (AM.out _).mono ?_
  rintro e v1 ⟨ca, -, rfl, ra, la, ka⟩
  go_wp2_with fail
  refine hK.out _ _ (KEEP.out _ _ hS0 ka) (fun hS1 => ?_)
  clear hK K
  try simp only [Act.put, List.setIfInBounds_toArray, List.set_cons_zero, List.set_cons_succ]
  have P1 := Lib.hid (AP.out v1 ca ra la)
  refine wpAnyH_ready (rs := [4]) (by kernel_rfl) (by simp) ?_
  refine AllReadyH.cons (o := { dst := some 8, op := .call { callee := .value (.func 24), args := #[.tmp 7], argTypes := #[24] }, type := 56, pos := "block.go:17", after := #[{ on := 3, ground := .data }, { on := 1, ground := .chain }], guard := none }) rfl (fun K hK => ?_) AllReadyH.nil
  go_simp
  refine (TM.out _).mono ?_
  rintro e v2 ⟨ct, -, rfl, rt, lt, kt⟩
  go_wp2_with fail
  refine hK.out _ _ (KEEP.out _ _ hS1 kt) (fun hS2 => ?_)
  clear hK K
  try simp only [Act.put, List.setIfInBounds_toArray, List.set_cons_zero, List.set_cons_succ]
  have P1 := Lib.hid (P1.out.bel kt)
  have P2 := Lib.hid (TP.out v2 ct (rt 0 _ rfl) lt)
  refine wpAnyH_ready (rs := [5]) (by kernel_rfl) (by simp) ?_
  refine AllReadyH.cons (o := { dst := some 9, op := .buildSlice 87 2 #[(0, .tmp 5), (1, .tmp 8)], type := 87, pos := "block.go:17", after := #[{ on := 1, ground := .data }, { on := 4, ground := .data }], guard := none }) rfl (fun K hK => ?_) AllReadyH.nil
  go_simp
  refine hK.out _ _ (KEEP.out _ _ hS2 ((Bel.refl _).alloc _)) (fun hS3 => ?_)
  clear hK K
  try simp only [Act.put, List.setIfInBounds_toArray, List.set_cons_zero, List.set_cons_succ]
  obtain ⟨g, hg⟩ : ∃ g, g = v2.heap.size := ⟨_, rfl⟩
  obtain ⟨v3, hv3⟩ : ∃ v3, v2.alloc (.cells #[cap 69 [ca], cap 52 [ct]] 56) = v3 := ⟨_, rfl⟩
  rw [hv3, ← hg]
  rw [hv3] at hS3
  have HE := Lib.hid (encode2 v2 v3 g _ _ _ _ P1.out P2.out hv3 hg HL.out)
  clear hv3 hg P1 P2 ra la ka rt lt kt
  obtain ⟨E, hE⟩ : ∃ E, E = errOf (propI v s hs ++ tagI tag) := ⟨_, rfl⟩
  have HE2 := Lib.hid hE
  rw [← hE] at HE
  clear hE
  refine wpAnyH_ready (rs := [6]) (by kernel_rfl) (by simp) ?_
  refine AllReadyH.cons (o := { dst := some 10, op := .call { callee := .value (.func 22), args := #[.tmp 9], argTypes := #[87] }, type := 32, pos := "block.go:17", after := #[{ on := 5, ground := .data }, { on := 4, ground := .chain }], guard := none }) rfl (fun K hK => ?_) AllReadyH.nil
  go_simp
  refine (HE.out).mono ?_
  rintro e v4 ⟨u, rfl, hu⟩
  go_wp2_with fail
  refine hK.out _ _ (KEEP.out _ _ hS3 hu.1) (fun hS4 => ?_)
  clear hK K
  try simp only [Act.put, List.setIfInBounds_toArray, List.set_cons_zero, List.set_cons_succ]
  have HU := Lib.hid (hu.low hS3.2.2.2)
  clear hu
  refine wpAnyH_take (i := 7) (oi := { dst := some 11, op := .extract (.tmp 10) 0, type := 29, pos := "block.go:17", after := #[{ on := 6, ground := .data }], guard := none }) (v := u) rfl (by kernel_rfl) (by kernel_rfl) (by kernel_rfl) (fun _ _ _ h => h) (Or.inl ⟨by rfl, by intro w hSw; clear hSw; go_simp⟩) hS4 ?_
  try simp only [Act.put, List.setIfInBounds_toArray, List.set_cons_zero, List.set_cons_succ]
  refine wpAnyH_take (i := 8) (oi := { dst := some 12, op := .extract (.tmp 10) 1, type := 31, pos := "block.go:17", after := #[{ on := 6, ground := .data }], guard := none }) (v := .int .i64 E) rfl (by kernel_rfl) (by kernel_rfl) (by kernel_rfl) (fun _ _ _ h => h) (Or.inl ⟨by rfl, by intro w hSw; clear hSw; go_simp⟩) hS4 ?_
  try simp only [Act.put, List.setIfInBounds_toArray, List.set_cons_zero, List.set_cons_succ]
  refine wpAnyH_take (i := 9) (oi := { dst := some 2, op := .assign (.tmp 11), type := 29, pos := "block.go:17", after := #[{ on := 7, ground := .data }, { on := 6, ground := .chain }, { on := 0, ground := .phase }, { on := 1, ground := .phase }, { on := 2, ground := .phase }, { on := 3, ground := .phase }, { on := 4, ground := .phase }, { on := 5, ground := .phase }, { on := 6, ground := .phase }, { on := 7, ground := .phase }, { on := 8, ground := .phase }], guard := none }) (v := u) rfl (by kernel_rfl) (by kernel_rfl) (by kernel_rfl) (fun _ _ _ h => h) (Or.inl ⟨by rfl, by intro w hSw; clear hSw; go_simp⟩) hS4 ?_
  try simp only [Act.put, List.setIfInBounds_toArray, List.set_cons_zero, List.set_cons_succ]
  refine wpAnyH_take (i := 10) (oi := { dst := some 3, op := .assign (.tmp 12), type := 31, pos := "block.go:17", after := #[{ on := 8, ground := .data }, { on := 9, ground := .chain }, { on := 0, ground := .phase }, { on := 1, ground := .phase }, { on := 2, ground := .phase }, { on := 3, ground := .phase }, { on := 4, ground := .phase }, { on := 5, ground := .phase }, { on := 6, ground := .phase }, { on := 7, ground := .phase }, { on := 8, ground := .phase }, { on := 9, ground := .phase }], guard := none }) (v := .int .i64 E) rfl (by kernel_rfl) (by kernel_rfl) (by kernel_rfl) (fun _ _ _ h => h) (Or.inl ⟨by rfl, by intro w hSw; clear hSw; go_simp⟩) hS4 ?_
  try simp only [Act.put, List.setIfInBounds_toArray, List.set_cons_zero, List.set_cons_succ]
  refine wpAnyH_done (by kernel_rfl) ?_ _
  go_wp2
  go_ret2
  exact ⟨u, by rw [HE2.out]; rfl, HU.out⟩
end Vt
end Go.Proofs.YtgalhpejihmhkaaDoor
end

section
/-
  What vote.digest, Digest and DigestBlock answer. Conditions: a root has 32 bytes; the table of turns lies in its variable.
-/
namespace Go.Proofs.YtgalhpejihmhkaaDoor
open Go.RowKit Go.Shelf
set_option linter.unusedVariables false
namespace Vt
open Kk

theorem results_ct {fn : Func} {p q : Tmp} {tp : TypeId} (h : fn.results = #[.cell p tp, .tmp q]) (tmps : Array Value) (w : World) (a : Addr) (X U : Value)
    (hp : tmps.getD p undef = .pointer (some a)) (hq : tmps.getD q undef = U) (hX : (loadVar tp a).run Tryd.prog w = .ok X w) :
    (results fn tmps).run Tryd.prog w = .ok (.tuple #[X, U]) w := by
  have hp' : tmps[p]?.getD undef = .pointer (some a) := by simpa using hp
  have hq' : tmps[q]?.getD undef = U := by simpa using hq
  simp [results, h, hp', hq', asAddr, hX]
abbrev Z32l : List Value := (List.replicate 32 (0 : Int)).map B8
/-- The hash that a part has: of its bytes, or none. -/
def dgV (its : List (Int × List Int)) : List Int := if errOf its = 0 then sumOf (bytesOf its) else List.replicate 32 0
theorem dgV_len (its : List (Int × List Int)) : (dgV its).length = 32 := by
  unfold dgV
  split
  · exact len_hashOf _
  · rfl

set_option maxRecDepth 100000 in
set_option maxHeartbeats 4000000 in
theorem digest (fv : Value) (its : List (Int × List Int)) (w : World) (hp : PartOK w fv its) (hl : (bytesOf its).length ≤ 1000) (hby : errOf its = 0 → By (bytesOf its)) (hT : Tn w) :
    Calls Tryd.prog 32 #[fv] w fun e w' => e = .returned (.tuple #[hsV (dgV its), .int .i64 (errOf its)]) ∧ Bel w w' := by
  obtain ⟨F, ca, _, hfv, _⟩ := id hp
  rw [hfv] at hp ⊢
  clear hfv fv
  obtain ⟨fv, hfv⟩ : ∃ fv, fv = Value.func (.func F) #[] #[.pointer (some ⟨ca, 0, none⟩)] := ⟨_, rfl⟩
  rw [← hfv] at hp
  obtain ⟨W, hW⟩ : ∃ W, w.alloc Z32h = W := ⟨_, rfl⟩
  obtain ⟨h, hh⟩ : ∃ h, h = w.heap.size := ⟨_, rfl⟩
  have B0 := Lib.hid (show Bel w W by rw [← hW]; exact (Bel.refl w).alloc Z32h)
  have TH0 := Lib.hid (show W.there h 0 32 by rw [← hW, hh]; exact there_newK (by decide))
  obtain ⟨v3, hv3⟩ : ∃ v3, W.alloc (.cells #[fv] 56) = v3 := ⟨_, rfl⟩
  obtain ⟨g, hg⟩ : ∃ g, g = w.heap.size + 1 := ⟨_, rfl⟩
  have EN := Lib.hid (encode1 W v3 g fv its (hp.bel B0.out) hv3 (by rw [hg, ← hW]; simp) (by omega))
  have B3 := Lib.hid (show Bel W v3 by rw [← hv3]; exact (Bel.refl W).alloc _)
  have HW := Lib.hid hW
  have HH := Lib.hid hh
  have HV := Lib.hid hv3
  have HG := Lib.hid hg
  have HFV := Lib.hid hfv
  have HL := Lib.hid hl
  have HBY := Lib.hid hby
  have HT := Lib.hid hT
  clear hW hh hv3 hg hfv hp hl hby hT
  go_enter Tryd.func32, Tryd.ntmps32
  go_wp2_with fail
  rw [← HG.out, ← HH.out, HW.out, ← HFV.out, HV.out]
  obtain ⟨E, hE⟩ : ∃ E, E = errOf its := ⟨_, rfl⟩
  have HE := Lib.hid hE
  rw [← hE] at EN
  clear hE
  refine EN.out.mono ?_
  rintro e w4 ⟨u, rfl, hu⟩
  have HU := Lib.hid hu
  have B4 := Lib.hid (show Bel W w4 from B3.out.trans hu.1)
  clear hu
  have HP := Lib.hid (fun (hz : E = 0) => show ∃ A c, u = .slice A (bytesOf its).length c ∧ Src w4 A (bytesOf its).length c (bytesOf its) by
    rcases HU.out.2 with ⟨h1, _⟩ | ⟨_, h2⟩
    · exact absurd (HE.out.symm.trans hz) h1
    · obtain ⟨A, c, e, hi, h3, h4⟩ := ints_of_own h2
      exact ⟨A, c, e, hi, h3, h4, HBY.out (HE.out.symm.trans hz)⟩)
  by_cases hz : E = 0
  · obtain ⟨A, c, rfl, hs⟩ := HP.out hz
    obtain ⟨n, hn⟩ : ∃ n, n = (bytesOf its).length := ⟨_, rfl⟩
    have HN := Lib.hid hn
    have HSM := Lib.hid (hashSumS A _ c (bytesOf its) w4 hs (by have := HL.out; omega) (HT.out.bel (B0.out.trans B4.out)))
    rw [← hn] at HSM ⊢
    have HD := Lib.hid (show dgV its = sumOf (bytesOf its) by unfold dgV; rw [if_pos (HE.out.symm.trans hz)])
    subst hz
    obtain ⟨Y, hY⟩ : ∃ Y, Y = (sumOf (bytesOf its)).map B8 := ⟨_, rfl⟩
    have HYl := Lib.hid (show Y.length = 32 by rw [hY, List.length_map]; exact len_hashOf _)
    have HYs := Lib.hid (show Y.toArray.size = 32 by rw [List.size_toArray]; exact HYl.out)
    have HYo := Lib.hid (all_oneCell_toArray (cs := Y) (by rw [hY]; exact ints_b8 _))
    have HYi := Lib.hid (show (Tryd.prog.info? 23).map (·.size) = some Y.toArray.size by rw [HYs.out]; exact info_hash)
    have YI := Lib.hid (show (Tryd.prog.info? 23).map (·.size) = some Y.length by rw [HYl.out]; exact info_hash)
    have YV := Lib.hid (show hsV (sumOf (bytesOf its)) = .agg Y.toArray by rw [hY])
    have YD := Lib.hid (show hsV (dgV its) = .agg Y.toArray by rw [HD.out, hY])
    clear hY hn hs HP EN HU
    go_wp2_with fail
    refine HSM.out.mono ?_
    rintro e w5 ⟨rfl, b5⟩
    have B5 := Lib.hid (B4.out.trans b5)
    have TH5 := Lib.hid (show w5.there h 0 Y.toArray.size by rw [HYs.out]; exact there_bel TH0.out B5.out)
    clear b5 HSM
    rw [YV.out]
    go_wp2_with (refine wpList_store_mid rfl 23 (.tmp 2) (.tmp 17) rfl h 0 Y.toArray rfl rfl TH5.out HYi.out HYo.out ?_)
    have RE : (w5.setCells h 0 Y).rangeAt h 0 Y := World.rangeAt_setCells_same _ _ _ _ (by have := TH5.out; rw [HYs.out] at this; rw [HYl.out]; exact this)
    refine bodyPost_ret (results_ct Tryd.results32 _ _ ⟨h, 0, none⟩ (.agg Y.toArray) (.int .i64 0) rfl rfl (run_loadVar_mid (P := Tryd.prog) _ h 0 23 Y _ RE Tryd.underlying23 rfl YI.out)) rfl ⟨by rw [YD.out, ← HE.out], ?_⟩
    exact Kep.bel (B0.out.trans B5.out) (kep_setCellsK h Y 0 _) (fun i hi => by have := HH.out; omega)
  · have HD := Lib.hid (show dgV its = List.replicate 32 0 by unfold dgV; rw [if_neg (fun h => hz (HE.out.trans h))])
    have f : (E != 0) = true := by rw [bne_iff_ne]; exact hz
    obtain ⟨Y, hY⟩ : ∃ Y, Y = Z32l := ⟨_, rfl⟩
    have HYl := Lib.hid (show Y.length = 32 by rw [hY]; rfl)
    have HYs := Lib.hid (show Y.toArray.size = 32 by rw [List.size_toArray]; exact HYl.out)
    have HYo := Lib.hid (all_oneCell_toArray (cs := Y) (by rw [hY]; exact ints_b8 _))
    have HYi := Lib.hid (show (Tryd.prog.info? 23).map (·.size) = some Y.toArray.size by rw [HYs.out]; exact info_hash)
    have YI := Lib.hid (show (Tryd.prog.info? 23).map (·.size) = some Y.length by rw [HYl.out]; exact info_hash)
    have YD := Lib.hid (show hsV (dgV its) = .agg Y.toArray by rw [HD.out, hY])
    have TH5 := Lib.hid (show w4.there h 0 Y.toArray.size by rw [HYs.out]; exact there_bel TH0.out B4.out)
    have HY := Lib.hid hY
    clear hY HP EN HU hz
    go_wp2_with (refine wpList_store_mid rfl 23 (.tmp 2) (.tmp 14) rfl h 0 Y.toArray rfl (by rw [HY.out]; rfl) TH5.out HYi.out HYo.out ?_)
    have RE : (w4.setCells h 0 Y).rangeAt h 0 Y := World.rangeAt_setCells_same _ _ _ _ (by have := TH5.out; rw [HYs.out] at this; rw [HYl.out]; exact this)
    refine bodyPost_ret (results_ct Tryd.results32 _ _ ⟨h, 0, none⟩ (.agg Y.toArray) (.int .i64 E) rfl rfl (run_loadVar_mid (P := Tryd.prog) _ h 0 23 Y _ RE Tryd.underlying23 rfl YI.out)) rfl ⟨by rw [YD.out, ← HE.out], ?_⟩
    exact Kep.bel (B0.out.trans B4.out) (kep_setCellsK h Y 0 _) (fun i hi => by have := HH.out; omega)
theorem err_attI (v s t : Int) (hs : List Int) : errOf (attI v s t hs) = chkE v s t := by
  by_cases h : chkE v s t = 0 <;> simp [errOf, h]
theorem err_propI (v s : Int) (hs : List Int) : errOf (propI v s hs) = chkBE v s := by
  by_cases h : chkBE v s = 0 <;> simp [errOf, h]
theorem err_attT (v s t tag : Int) (hs : List Int) : errOf (attI v s t hs ++ tagI tag) = chkE v s t := by
  by_cases h : chkE v s t = 0 <;> simp [errOf, h]
theorem err_propT (v s tag : Int) (hs : List Int) : errOf (propI v s hs ++ tagI tag) = chkBE v s := by
  by_cases h : chkBE v s = 0 <;> simp [errOf, h]
theorem by_attI {v s t : Int} {hs : List Int} (hb : By hs) (h : errOf (attI v s t hs) = 0) : By (bytesOf (attI v s t hs)) := by
  rw [err_attI] at h
  have B := chk_ok h
  intro z hz
  simp only [bytesOf, List.flatMap_cons, List.flatMap_nil, List.append_nil, List.nil_append, List.mem_append] at hz
  rcases hz with hz | hz | hz | hz | hz
  · exact Cd.enc_byte (by omega) (by omega) z hz
  · exact Cd.enc_byte (by omega) (by omega) z hz
  · exact Cd.enc_byte (by omega) (by omega) z hz
  · exact Cd.enc_byte (by omega) (by omega) z hz
  · exact hb z hz
theorem by_propI {v s : Int} {hs : List Int} (hb : By hs) (h : errOf (propI v s hs) = 0) : By (bytesOf (propI v s hs)) := by
  rw [err_propI] at h
  have B := chkB_ok h
  intro z hz
  simp only [bytesOf, List.flatMap_cons, List.flatMap_nil, List.append_nil, List.nil_append, List.mem_append] at hz
  rcases hz with hz | hz | hz | hz
  · exact Cd.enc_byte (by omega) (by omega) z hz
  · exact Cd.enc_byte (by omega) (by omega) z hz
  · exact Cd.enc_byte (by omega) (by omega) z hz
  · exact hb z hz
theorem attI_len2 {v s t : Int} {hs : List Int} (h32 : hs.length = 32) : (bytesOf (attI v s t hs)).length ≤ 1000 := by
  simp only [bytesOf, List.flatMap_cons, List.flatMap_nil, List.length_append, List.length_nil, h32]
  have h1 := enc_le 1; have h2 := enc_le v; have h3 := enc_le s; have h4 := enc_le t
  omega
theorem propI_len2 {v s : Int} {hs : List Int} (h32 : hs.length = 32) : (bytesOf (propI v s hs)).length ≤ 1000 := by
  simp only [bytesOf, List.flatMap_cons, List.flatMap_nil, List.length_append, List.length_nil, h32]
  have h1 := enc_le 2; have h2 := enc_le v; have h3 := enc_le s
  omega
/-- The cells of a hash, stored in a result's block. -/
theorem hs_facts (its : List (Int × List Int)) : ∃ Y : List Value, hsV (dgV its) = .agg Y.toArray ∧ Y.length = 32 ∧ (∀ v ∈ Y, v.oneCell' = true) :=
  ⟨_, rfl, by rw [List.length_map]; exact dgV_len its, ints_b8 _⟩

set_option maxRecDepth 100000 in
set_option maxHeartbeats 4000000 in
theorem digestA (v s t tag : Int) (hs : List Int) (w : World) (h32 : hs.length = 32) (hb : By hs) (hT : Tn w) :
    Calls Tryd.prog 8 #[.agg (attC v s t hs tag).toArray] w fun e w' => e = .returned (.tuple #[hsV (dgV (attI v s t hs)), .int .i64 (errOf (attI v s t hs))]) ∧ Bel w w' := by
  have AM := Lib.hid (fun W => attMade v s t tag hs W)
  have AP := Lib.hid (fun W ca h1 h2 => att_part W ca v s t tag hs h1 h2 h32)
  obtain ⟨D, hD⟩ : ∃ D, D = attC v s t hs tag := ⟨_, rfl⟩
  have HDl := Lib.hid (show D.length = 36 by rw [hD]; exact len_attC h32 v s t tag)
  rw [← hD] at AM AP ⊢
  obtain ⟨bx, hbx⟩ : ∃ bx, bx = w.heap.size := ⟨_, rfl⟩
  obtain ⟨h, hh⟩ : ∃ h, h = w.heap.size + 1 := ⟨_, rfl⟩
  obtain ⟨W1, hW1⟩ : ∃ W, w.alloc (.cells D.toArray 26) = W := ⟨_, rfl⟩
  obtain ⟨W, hW⟩ : ∃ W, W1.alloc Z32h = W := ⟨_, rfl⟩
  have hb1 : Bel w W1 := by rw [← hW1]; exact (Bel.refl w).alloc _
  have hb2 : Bel W1 W := by rw [← hW]; exact (Bel.refl W1).alloc Z32h
  have B0 := Lib.hid (hb1.trans hb2)
  have R0 := Lib.hid (show W.rangeAt bx 0 D by
    have hbk : Blk W1 bx D.toArray 26 := by rw [← hW1, hbx]; exact Blk.new w _ _
    exact range_blk (hbk.bel hb2))
  have TH0 := Lib.hid (show W.there h 0 32 by rw [← hW, hh, show w.heap.size + 1 = W1.heap.size by rw [← hW1]; simp]; exact there_newK (by decide))
  have HW1 := Lib.hid hW1
  have HW := Lib.hid hW
  have HH := Lib.hid hh
  have HX := Lib.hid hbx
  have HT := Lib.hid hT
  clear hb1 hb2 hW1 hW hh hbx hD hT
  go_enter Tryd.func8, Tryd.ntmps8
  go_upto_region 1 with fail
  rw [← HH.out, ← HX.out, HW1.out, HW.out]
  go_wp2_with (refine wpList_load_mid rfl 26 (.tmp 1) rfl bx 0 rfl D _ R0.out Tryd.underlying26 rfl (by rw [HDl.out]; exact info_att) ?_)
  refine (AM.out W).mono ?_
  rintro e w2 ⟨ca, -, rfl, ra, la, ka⟩
  have B2 := Lib.hid (show Bel W w2 from ka)
  have DG := Lib.hid (digest _ _ w2 (AP.out w2 ca ra la) (attI_len2 h32) (by_attI hb) (HT.out.bel (B0.out.trans ka)))
  clear ra la ka
  go_wp2_with fail
  refine DG.out.mono ?_
  rintro e w3 ⟨rfl, k3⟩
  obtain ⟨Y, hY, hl, ho⟩ := hs_facts (attI v s t hs)
  have HY := Lib.hid hY
  have HYs := Lib.hid (show Y.toArray.size = 32 by rw [List.size_toArray]; exact hl)
  have HYo := Lib.hid (all_oneCell_toArray (cs := Y) ho)
  have HYi := Lib.hid (show (Tryd.prog.info? 23).map (·.size) = some Y.toArray.size by rw [HYs.out]; exact info_hash)
  have YI := Lib.hid (show (Tryd.prog.info? 23).map (·.size) = some Y.length by rw [hl]; exact info_hash)
  have HL := Lib.hid hl
  obtain ⟨E, hE⟩ : ∃ E, E = errOf (attI v s t hs) := ⟨_, rfl⟩
  have HE := Lib.hid hE
  have B3 := Lib.hid (B2.out.trans k3)
  have TH3 := Lib.hid (show w3.there h 0 Y.toArray.size by rw [HYs.out]; exact there_bel TH0.out (B2.out.trans k3))
  rw [hY, ← hE]
  clear hY hl ho hE k3 DG AM AP
  go_wp2_with (refine wpList_store_mid rfl 23 (.tmp 2) (.tmp 7) rfl h 0 Y.toArray rfl rfl TH3.out HYi.out HYo.out ?_)
  have RE : (w3.setCells h 0 Y).rangeAt h 0 Y := World.rangeAt_setCells_same _ _ _ _ (by have := TH3.out; rw [HYs.out] at this; rw [HL.out]; exact this)
  refine bodyPost_ret (results_ct Tryd.results8 _ _ ⟨h, 0, none⟩ (.agg Y.toArray) (.int .i64 E) rfl rfl (run_loadVar_mid (P := Tryd.prog) _ h 0 23 Y _ RE Tryd.underlying23 rfl YI.out)) rfl ⟨by rw [HY.out, HE.out], ?_⟩
  exact Kep.bel (B0.out.trans B3.out) (kep_setCellsK h Y 0 _) (fun i hi => by have := HH.out; omega)

set_option maxRecDepth 100000 in
set_option maxHeartbeats 4000000 in
theorem digestB (v s tag : Int) (hs : List Int) (w : World) (h32 : hs.length = 32) (hb : By hs) (hT : Tn w) :
    Calls Tryd.prog 12 #[.agg (propC v s hs tag).toArray] w fun e w' => e = .returned (.tuple #[hsV (dgV (propI v s hs)), .int .i64 (errOf (propI v s hs))]) ∧ Bel w w' := by
  have AM := Lib.hid (fun W => propMade v s tag hs W)
  have AP := Lib.hid (fun W ca h1 h2 => prop_part W ca v s tag hs h1 h2 h32)
  obtain ⟨D, hD⟩ : ∃ D, D = propC v s hs tag := ⟨_, rfl⟩
  have HDl := Lib.hid (show D.length = 35 by rw [hD]; exact len_propC h32 v s tag)
  rw [← hD] at AM AP ⊢
  obtain ⟨bx, hbx⟩ : ∃ bx, bx = w.heap.size := ⟨_, rfl⟩
  obtain ⟨h, hh⟩ : ∃ h, h = w.heap.size + 1 := ⟨_, rfl⟩
  obtain ⟨W1, hW1⟩ : ∃ W, w.alloc (.cells D.toArray 28) = W := ⟨_, rfl⟩
  obtain ⟨W, hW⟩ : ∃ W, W1.alloc Z32h = W := ⟨_, rfl⟩
  have hb1 : Bel w W1 := by rw [← hW1]; exact (Bel.refl w).alloc _
  have hb2 : Bel W1 W := by rw [← hW]; exact (Bel.refl W1).alloc Z32h
  have B0 := Lib.hid (hb1.trans hb2)
  have R0 := Lib.hid (show W.rangeAt bx 0 D by
    have hbk : Blk W1 bx D.toArray 28 := by rw [← hW1, hbx]; exact Blk.new w _ _
    exact range_blk (hbk.bel hb2))
  have TH0 := Lib.hid (show W.there h 0 32 by rw [← hW, hh, show w.heap.size + 1 = W1.heap.size by rw [← hW1]; simp]; exact there_newK (by decide))
  have HW1 := Lib.hid hW1
  have HW := Lib.hid hW
  have HH := Lib.hid hh
  have HX := Lib.hid hbx
  have HT := Lib.hid hT
  clear hb1 hb2 hW1 hW hh hbx hD hT
  go_enter Tryd.func12, Tryd.ntmps12
  go_upto_region 1 with fail
  rw [← HH.out, ← HX.out, HW1.out, HW.out]
  go_wp2_with (refine wpList_load_mid rfl 28 (.tmp 1) rfl bx 0 rfl D _ R0.out Tryd.underlying28 rfl (by rw [HDl.out]; exact info_prop) ?_)
  refine (AM.out W).mono ?_
  rintro e w2 ⟨ca, -, rfl, ra, la, ka⟩
  have B2 := Lib.hid (show Bel W w2 from ka)
  have DG := Lib.hid (digest _ _ w2 (AP.out w2 ca ra la) (propI_len2 h32) (by_propI hb) (HT.out.bel (B0.out.trans ka)))
  clear ra la ka
  go_wp2_with fail
  refine DG.out.mono ?_
  rintro e w3 ⟨rfl, k3⟩
  obtain ⟨Y, hY, hl, ho⟩ := hs_facts (propI v s hs)
  have HY := Lib.hid hY
  have HYs := Lib.hid (show Y.toArray.size = 32 by rw [List.size_toArray]; exact hl)
  have HYo := Lib.hid (all_oneCell_toArray (cs := Y) ho)
  have HYi := Lib.hid (show (Tryd.prog.info? 23).map (·.size) = some Y.toArray.size by rw [HYs.out]; exact info_hash)
  have YI := Lib.hid (show (Tryd.prog.info? 23).map (·.size) = some Y.length by rw [hl]; exact info_hash)
  have HL := Lib.hid hl
  obtain ⟨E, hE⟩ : ∃ E, E = errOf (propI v s hs) := ⟨_, rfl⟩
  have HE := Lib.hid hE
  have B3 := Lib.hid (B2.out.trans k3)
  have TH3 := Lib.hid (show w3.there h 0 Y.toArray.size by rw [HYs.out]; exact there_bel TH0.out (B2.out.trans k3))
  rw [hY, ← hE]
  clear hY hl ho hE k3 DG AM AP
  go_wp2_with (refine wpList_store_mid rfl 23 (.tmp 2) (.tmp 7) rfl h 0 Y.toArray rfl rfl TH3.out HYi.out HYo.out ?_)
  have RE : (w3.setCells h 0 Y).rangeAt h 0 Y := World.rangeAt_setCells_same _ _ _ _ (by have := TH3.out; rw [HYs.out] at this; rw [HL.out]; exact this)
  refine bodyPost_ret (results_ct Tryd.results12 _ _ ⟨h, 0, none⟩ (.agg Y.toArray) (.int .i64 E) rfl rfl (run_loadVar_mid (P := Tryd.prog) _ h 0 23 Y _ RE Tryd.underlying23 rfl YI.out)) rfl ⟨by rw [HY.out, HE.out], ?_⟩
  exact Kep.bel (B0.out.trans B3.out) (kep_setCellsK h Y 0 _) (fun i hi => by have := HH.out; omega)

end Vt
end Go.Proofs.YtgalhpejihmhkaaDoor
end
