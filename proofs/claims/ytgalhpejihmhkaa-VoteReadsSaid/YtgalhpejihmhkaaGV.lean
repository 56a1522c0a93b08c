/-
  Texts of this claim, put together: VClo, VLst, VEnc, VPart, VMade, VBytes, VDig, VOne, VDif, VSur, VAwk. What each one says, and under which conditions, stands ahead of it.
-/
import Derived.Lib.AppendZerosOnto
import Derived.Test.YtgalhpejihmhkaaGA
import Derived.Test.YtgalhpejihmhkaaGF

section
/-
  What the steps answer that vote.encode calls: the closures of attested, of proposed and of tagged.
  Conditions: the boxes hold the words, the writer; the writer is without an error.
-/
namespace Go.Proofs.Ytgalhpejihmhkaa
open Go.RowKit Go.Shelf
set_option linter.unusedVariables false
namespace Vt
open Cd

theorem info_att : (Try.prog.info? 29).map (·.size) = some 36 := by kernel_rfl
theorem info_prop : (Try.prog.info? 36).map (·.size) = some 35 := by kernel_rfl

set_option maxRecDepth 100000 in
set_option maxHeartbeats 1000000 in
theorem att1 (ca : Nat) (v s t tag : Int) (hs : List Int) (w : World) (hl : hs.length = 32) (hr : w.rangeAt ca 0 (attC v s t hs tag)) :
    Calls Try.prog 51 #[.pointer (some ⟨ca, 0, none⟩)] w fun e w' => e = .returned (.int .i64 (chkE v s t)) ∧ Bel w w' := by
  have CK := Lib.hid (fun w' => check v s t tag hs w' hl)
  obtain ⟨D, hD⟩ : ∃ D, D = attC v s t hs tag := ⟨_, rfl⟩
  have HDl := Lib.hid (show D.length = 36 by rw [hD]; exact len_attC hl v s t tag)
  rw [← hD] at CK hr
  have RD := Lib.hid hr
  clear hr hD
  go_enter Try.func51, Try.ntmps51
  go_wp2_with (refine wpList_load_mid rfl 29 (.tmp 0) rfl ca 0 rfl D _ RD.out Try.underlying29 rfl (by rw [HDl.out]; exact info_att) ?_)
  refine (CK.out _).mono ?_
  rintro e w1 ⟨rfl, k1⟩
  have B1 := Lib.hid (show Bel w w1 from k1)
  clear k1
  go_wp2
  go_ret
  exact ⟨rfl, B1.out⟩

set_option maxRecDepth 100000 in
set_option maxHeartbeats 1000000 in
theorem att2 (cw b : Nat) (L : Int) (v : Value) (out : List Int) (base : Nat) (w : World) (hc : w.cell? ⟨cw, 0, none⟩ = some (.pointer (some ⟨b, 0, none⟩))) (h : WS w b L v 0 out base) :
    Calls Try.prog 52 #[.pointer (some ⟨cw, 0, none⟩)] w fun e w' => ∃ r, e = .returned (.int .i64 r) ∧ After w' b L r out (enc 1) base ∧ Kep (Own2 b v) w w' := by
  have WN := Lib.hid (wN b L v out base 1 w h (by omega) (by omega))
  clear h
  go_enter Try.func52, Try.ntmps52
  go_wp2_with fail
  refine WN.out.mono ?_
  rintro e w1 ⟨r, rfl, ha, hk⟩
  have HA := Lib.hid ha
  have HK := Lib.hid hk
  clear ha hk
  go_wp2
  go_ret
  exact ⟨r, rfl, HA.out, HK.out⟩

set_option maxRecDepth 100000 in
set_option maxHeartbeats 1000000 in
theorem att3 (cw ca b : Nat) (x : Int) (L : Int) (v : Value) (out : List Int) (base : Nat) (w : World) (hc : w.cell? ⟨cw, 0, none⟩ = some (.pointer (some ⟨b, 0, none⟩))) (ha : w.cell? ⟨ca, 0, none⟩ = some (.int .i64 x)) (h : WS w b L v 0 out base) (x0 : 0 ≤ x) (x1 : x ≤ 9223372036854775807) :
    Calls Try.prog 54 #[.pointer (some ⟨cw, 0, none⟩), .pointer (some ⟨ca, 0, none⟩)] w fun e w' => ∃ r, e = .returned (.int .i64 r) ∧ After w' b L r out (enc x) base ∧ Kep (Own2 b v) w w' := by
  have WN := Lib.hid (wN b L v out base x w h x0 x1)
  clear h x0 x1
  go_enter Try.func54, Try.ntmps54
  go_wp2_with fail
  refine WN.out.mono ?_
  rintro e w1 ⟨r, rfl, ha, hk⟩
  have HA := Lib.hid ha
  have HK := Lib.hid hk
  clear ha hk
  go_wp2
  go_ret
  exact ⟨r, rfl, HA.out, HK.out⟩

set_option maxRecDepth 100000 in
set_option maxHeartbeats 1000000 in
theorem att4 (cw ca b : Nat) (x : Int) (L : Int) (v : Value) (out : List Int) (base : Nat) (w : World) (hc : w.cell? ⟨cw, 0, none⟩ = some (.pointer (some ⟨b, 0, none⟩))) (ha : w.cell? ⟨ca, 1, none⟩ = some (.int .i64 x)) (h : WS w b L v 0 out base) (x0 : 0 ≤ x) (x1 : x ≤ 9223372036854775807) :
    Calls Try.prog 55 #[.pointer (some ⟨cw, 0, none⟩), .pointer (some ⟨ca, 0, none⟩)] w fun e w' => ∃ r, e = .returned (.int .i64 r) ∧ After w' b L r out (enc x) base ∧ Kep (Own2 b v) w w' := by
  have WN := Lib.hid (wN b L v out base x w h x0 x1)
  clear h x0 x1
  go_enter Try.func55, Try.ntmps55
  go_wp2_with fail
  refine WN.out.mono ?_
  rintro e w1 ⟨r, rfl, ha, hk⟩
  have HA := Lib.hid ha
  have HK := Lib.hid hk
  clear ha hk
  go_wp2
  go_ret
  exact ⟨r, rfl, HA.out, HK.out⟩

set_option maxRecDepth 100000 in
set_option maxHeartbeats 1000000 in
theorem att5 (cw ca b : Nat) (x : Int) (L : Int) (v : Value) (out : List Int) (base : Nat) (w : World) (hc : w.cell? ⟨cw, 0, none⟩ = some (.pointer (some ⟨b, 0, none⟩))) (ha : w.cell? ⟨ca, 2, none⟩ = some (.int .i64 x)) (h : WS w b L v 0 out base) (x0 : 0 ≤ x) (x1 : x ≤ 9223372036854775807) :
    Calls Try.prog 56 #[.pointer (some ⟨cw, 0, none⟩), .pointer (some ⟨ca, 0, none⟩)] w fun e w' => ∃ r, e = .returned (.int .i64 r) ∧ After w' b L r out (enc x) base ∧ Kep (Own2 b v) w w' := by
  have WN := Lib.hid (wN b L v out base x w h x0 x1)
  clear h x0 x1
  go_enter Try.func56, Try.ntmps56
  go_wp2_with fail
  refine WN.out.mono ?_
  rintro e w1 ⟨r, rfl, ha, hk⟩
  have HA := Lib.hid ha
  have HK := Lib.hid hk
  clear ha hk
  go_wp2
  go_ret
  exact ⟨r, rfl, HA.out, HK.out⟩

set_option maxRecDepth 100000 in
set_option maxHeartbeats 1000000 in
theorem att6 (cw ca b : Nat) (hs : List Int) (L : Int) (v : Value) (out : List Int) (base : Nat) (w : World) (hc : w.cell? ⟨cw, 0, none⟩ = some (.pointer (some ⟨b, 0, none⟩))) (hr : w.rangeAt ca 3 (hs.map (Value.int .u8))) (h : WS w b L v 0 out base) (hl : hs.length = 32) :
    Calls Try.prog 57 #[.pointer (some ⟨cw, 0, none⟩), .pointer (some ⟨ca, 0, none⟩)] w fun e w' => ∃ r, e = .returned (.int .i64 r) ∧ After w' b L r out hs base ∧ Kep (Own2 b v) w w' := by
  have WH := wHash b L v out base hs w h hl
  clear h
  obtain ⟨D, hD⟩ : ∃ D, D = hs.map (Value.int .u8) := ⟨_, rfl⟩
  have HDl := Lib.hid (show D.length = 32 by rw [hD]; simpa using hl)
  have HD := Lib.hid hD
  rw [← hD] at hr
  rw [show Cd.hash hs = .agg (hs.map (Value.int .u8)).toArray from rfl, ← hD] at WH
  have WH := Lib.hid WH
  have RD := Lib.hid hr
  clear hr hD
  go_enter Try.func57, Try.ntmps57
  go_wp2_with (refine wpList_load_mid rfl 26 (.tmp 4) rfl ca 3 rfl D _ RD.out Try.underlying26 rfl (by rw [HDl.out]; exact info_hash) ?_)
  refine WH.out.mono ?_
  rintro e w1 ⟨r, rfl, ha, hk⟩
  have HA := Lib.hid ha
  have HK := Lib.hid hk
  clear ha hk
  go_wp2
  go_ret
  exact ⟨r, rfl, HA.out, HK.out⟩
set_option maxRecDepth 100000 in
set_option maxHeartbeats 1000000 in
theorem prop1 (ca : Nat) (v s tag : Int) (hs : List Int) (w : World) (hl : hs.length = 32) (hr : w.rangeAt ca 0 (propC v s hs tag)) :
    Calls Try.prog 63 #[.pointer (some ⟨ca, 0, none⟩)] w fun e w' => e = .returned (.int .i64 (chkBE v s)) ∧ Bel w w' := by
  have CK := Lib.hid (fun w' => checkBlock v s tag hs w' hl)
  obtain ⟨D, hD⟩ : ∃ D, D = propC v s hs tag := ⟨_, rfl⟩
  have HDl := Lib.hid (show D.length = 35 by rw [hD]; exact len_propC hl v s tag)
  rw [← hD] at CK hr
  have RD := Lib.hid hr
  clear hr hD
  go_enter Try.func63, Try.ntmps63
  go_wp2_with (refine wpList_load_mid rfl 36 (.tmp 0) rfl ca 0 rfl D _ RD.out Try.underlying36 rfl (by rw [HDl.out]; exact info_prop) ?_)
  refine (CK.out _).mono ?_
  rintro e w1 ⟨rfl, k1⟩
  have B1 := Lib.hid (show Bel w w1 from k1)
  clear k1
  go_wp2
  go_ret
  exact ⟨rfl, B1.out⟩

set_option maxRecDepth 100000 in
set_option maxHeartbeats 1000000 in
theorem prop2 (cw b : Nat) (L : Int) (v : Value) (out : List Int) (base : Nat) (w : World) (hc : w.cell? ⟨cw, 0, none⟩ = some (.pointer (some ⟨b, 0, none⟩))) (h : WS w b L v 0 out base) :
    Calls Try.prog 65 #[.pointer (some ⟨cw, 0, none⟩)] w fun e w' => ∃ r, e = .returned (.int .i64 r) ∧ After w' b L r out (enc 2) base ∧ Kep (Own2 b v) w w' := by
  have WN := Lib.hid (wN b L v out base 2 w h (by omega) (by omega))
  clear h
  go_enter Try.func65, Try.ntmps65
  go_wp2_with fail
  refine WN.out.mono ?_
  rintro e w1 ⟨r, rfl, ha, hk⟩
  have HA := Lib.hid ha
  have HK := Lib.hid hk
  clear ha hk
  go_wp2
  go_ret
  exact ⟨r, rfl, HA.out, HK.out⟩

set_option maxRecDepth 100000 in
set_option maxHeartbeats 1000000 in
theorem prop3 (cw ca b : Nat) (x : Int) (L : Int) (v : Value) (out : List Int) (base : Nat) (w : World) (hc : w.cell? ⟨cw, 0, none⟩ = some (.pointer (some ⟨b, 0, none⟩))) (ha : w.cell? ⟨ca, 0, none⟩ = some (.int .i64 x)) (h : WS w b L v 0 out base) (x0 : 0 ≤ x) (x1 : x ≤ 9223372036854775807) :
    Calls Try.prog 66 #[.pointer (some ⟨cw, 0, none⟩), .pointer (some ⟨ca, 0, none⟩)] w fun e w' => ∃ r, e = .returned (.int .i64 r) ∧ After w' b L r out (enc x) base ∧ Kep (Own2 b v) w w' := by
  have WN := Lib.hid (wN b L v out base x w h x0 x1)
  clear h x0 x1
  go_enter Try.func66, Try.ntmps66
  go_wp2_with fail
  refine WN.out.mono ?_
  rintro e w1 ⟨r, rfl, ha, hk⟩
  have HA := Lib.hid ha
  have HK := Lib.hid hk
  clear ha hk
  go_wp2
  go_ret
  exact ⟨r, rfl, HA.out, HK.out⟩

set_option maxRecDepth 100000 in
set_option maxHeartbeats 1000000 in
theorem prop4 (cw ca b : Nat) (x : Int) (L : Int) (v : Value) (out : List Int) (base : Nat) (w : World) (hc : w.cell? ⟨cw, 0, none⟩ = some (.pointer (some ⟨b, 0, none⟩))) (ha : w.cell? ⟨ca, 1, none⟩ = some (.int .i64 x)) (h : WS w b L v 0 out base) (x0 : 0 ≤ x) (x1 : x ≤ 9223372036854775807) :
    Calls Try.prog 67 #[.pointer (some ⟨cw, 0, none⟩), .pointer (some ⟨ca, 0, none⟩)] w fun e w' => ∃ r, e = .returned (.int .i64 r) ∧ After w' b L r out (enc x) base ∧ Kep (Own2 b v) w w' := by
  have WN := Lib.hid (wN b L v out base x w h x0 x1)
  clear h x0 x1
  go_enter Try.func67, Try.ntmps67
  go_wp2_with fail
  refine WN.out.mono ?_
  rintro e w1 ⟨r, rfl, ha, hk⟩
  have HA := Lib.hid ha
  have HK := Lib.hid hk
  clear ha hk
  go_wp2
  go_ret
  exact ⟨r, rfl, HA.out, HK.out⟩

set_option maxRecDepth 100000 in
set_option maxHeartbeats 1000000 in
theorem prop5 (cw ca b : Nat) (hs : List Int) (L : Int) (v : Value) (out : List Int) (base : Nat) (w : World) (hc : w.cell? ⟨cw, 0, none⟩ = some (.pointer (some ⟨b, 0, none⟩))) (hr : w.rangeAt ca 2 (hs.map (Value.int .u8))) (h : WS w b L v 0 out base) (hl : hs.length = 32) :
    Calls Try.prog 68 #[.pointer (some ⟨cw, 0, none⟩), .pointer (some ⟨ca, 0, none⟩)] w fun e w' => ∃ r, e = .returned (.int .i64 r) ∧ After w' b L r out hs base ∧ Kep (Own2 b v) w w' := by
  have WH := wHash b L v out base hs w h hl
  clear h
  obtain ⟨D, hD⟩ : ∃ D, D = hs.map (Value.int .u8) := ⟨_, rfl⟩
  have HDl := Lib.hid (show D.length = 32 by rw [hD]; simpa using hl)
  have HD := Lib.hid hD
  rw [← hD] at hr
  rw [show Cd.hash hs = .agg (hs.map (Value.int .u8)).toArray from rfl, ← hD] at WH
  have WH := Lib.hid WH
  have RD := Lib.hid hr
  clear hr hD
  go_enter Try.func68, Try.ntmps68
  go_wp2_with (refine wpList_load_mid rfl 26 (.tmp 4) rfl ca 2 rfl D _ RD.out Try.underlying26 rfl (by rw [HDl.out]; exact info_hash) ?_)
  refine WH.out.mono ?_
  rintro e w1 ⟨r, rfl, ha, hk⟩
  have HA := Lib.hid ha
  have HK := Lib.hid hk
  clear ha hk
  go_wp2
  go_ret
  exact ⟨r, rfl, HA.out, HK.out⟩
set_option maxRecDepth 100000 in
set_option maxHeartbeats 1000000 in
theorem tag1 (cw ca b : Nat) (x : Int) (L : Int) (v : Value) (out : List Int) (base : Nat) (w : World) (hc : w.cell? ⟨cw, 0, none⟩ = some (.pointer (some ⟨b, 0, none⟩))) (ha : w.cell? ⟨ca, 0, none⟩ = some (.int .u64 x)) (h : WS w b L v 0 out base) (x0 : 0 ≤ x) (x1 : x ≤ 18446744073709551615) :
    Calls Try.prog 60 #[.pointer (some ⟨cw, 0, none⟩), .pointer (some ⟨ca, 0, none⟩)] w fun e w' => ∃ r, e = .returned (.int .i64 r) ∧ After w' b L r out (enc x) base ∧ Kep (Own2 b v) w w' := by
  have WN := Lib.hid (wU b L v out base x w h x0 x1)
  clear h x0 x1
  go_enter Try.func60, Try.ntmps60
  go_wp2_with fail
  refine WN.out.mono ?_
  rintro e w1 ⟨r, rfl, ha, hk⟩
  have HA := Lib.hid ha
  have HK := Lib.hid hk
  clear ha hk
  go_wp2
  go_ret
  exact ⟨r, rfl, HA.out, HK.out⟩

end Vt
end Go.Proofs.Ytgalhpejihmhkaa
end

section
/-
  What tagged$1, attested$1 and proposed$1 answer: the list of steps of a part. No condition.
-/
namespace Go.Proofs.Ytgalhpejihmhkaa
open Go.RowKit Go.Shelf
set_option linter.unusedVariables false
namespace Vt
open Cd

abbrev cap (f : Nat) (ps : List Nat) : Value := .func (.func f) #[] (ps.map fun p => Value.pointer (some ⟨p, 0, none⟩)).toArray
abbrev tagS (cw ct : Nat) : List Value := [cap 60 [cw, ct]]
abbrev attS (cw ca : Nat) : List Value := [cap 51 [ca], cap 52 [cw], cap 54 [cw, ca], cap 55 [cw, ca], cap 56 [cw, ca], cap 57 [cw, ca]]
abbrev propS (cw ca : Nat) : List Value := [cap 63 [ca], cap 65 [cw], cap 66 [cw, ca], cap 67 [cw, ca], cap 68 [cw, ca]]
/-- What a part hands out: a new box with the writer, a new row of steps. -/
def Handed (b n : Nat) (S : Nat → List Value) (w : World) (e : Ending) (w' : World) : Prop :=
  ∃ cw g, w.heap.size ≤ cw ∧ w.heap.size ≤ g ∧ cw < w'.heap.size ∧ g < w'.heap.size ∧ e = .returned (.slice (some ⟨g, 0, none⟩) n n) ∧ Blk w' cw #[.pointer (some ⟨b, 0, none⟩)] 80 ∧ Blk w' g (S cw).toArray 85 ∧ Bel w w'

set_option maxRecDepth 100000 in
set_option maxHeartbeats 1000000 in
theorem tagL (b ca : Nat) (w : World) :
    Calls Try.prog 59 #[.pointer (some ⟨b, 0, none⟩), .pointer (some ⟨ca, 0, none⟩)] w fun e w' => Handed b 1 (fun cw => tagS cw ca) w e w' := by
  obtain ⟨W, hW⟩ : ∃ W, w.alloc (.cells #[.pointer (some ⟨b, 0, none⟩)] 80) = W := ⟨_, rfl⟩
  have k1 : W.cell? ⟨w.heap.size, 0, none⟩ = some (.pointer (some ⟨b, 0, none⟩)) := by rw [← hW]; exact (Blk.new w _ _).cell 0 rfl
  have B1 := Lib.hid (show Bel w W by rw [← hW]; exact (Bel.refl w).alloc _)
  have z1 : W.heap.size = w.heap.size + 1 := by rw [← hW]; simp
  have Z1 := Lib.hid z1
  have K1 := Lib.hid k1
  have HW := Lib.hid hW
  clear k1 hW z1
  go_enter Try.func59, Try.ntmps59
  go_upto_region 1 with fail
  rw [HW.out]
  go_wp2
  go_ret
  refine ⟨w.heap.size, W.heap.size, Nat.le_refl _, by rw [Z1.out]; omega, ?_, ?_, rfl, ?_, ?_, B1.out.alloc _⟩
  · have := Z1.out; simp; omega
  · simp
  · exact ((Blk.new w #[.pointer (some ⟨b, 0, none⟩)] 80).bel (show Bel _ _ by rw [HW.out]; exact (Bel.refl W).alloc _))
  · exact Blk.new W (tagS w.heap.size ca).toArray 85

set_option maxRecDepth 100000 in
set_option maxHeartbeats 1000000 in
theorem attL (b ca : Nat) (w : World) :
    Calls Try.prog 50 #[.pointer (some ⟨b, 0, none⟩), .pointer (some ⟨ca, 0, none⟩)] w fun e w' => Handed b 6 (fun cw => attS cw ca) w e w' := by
  obtain ⟨W, hW⟩ : ∃ W, w.alloc (.cells #[.pointer (some ⟨b, 0, none⟩)] 80) = W := ⟨_, rfl⟩
  have k1 : W.cell? ⟨w.heap.size, 0, none⟩ = some (.pointer (some ⟨b, 0, none⟩)) := by rw [← hW]; exact (Blk.new w _ _).cell 0 rfl
  have B1 := Lib.hid (show Bel w W by rw [← hW]; exact (Bel.refl w).alloc _)
  have z1 : W.heap.size = w.heap.size + 1 := by rw [← hW]; simp
  have Z1 := Lib.hid z1
  have K1 := Lib.hid k1
  have HW := Lib.hid hW
  clear k1 hW z1
  go_enter Try.func50, Try.ntmps50
  go_upto_region 1 with fail
  rw [HW.out]
  go_wp2
  go_ret
  refine ⟨w.heap.size, W.heap.size, Nat.le_refl _, by rw [Z1.out]; omega, ?_, ?_, rfl, ?_, ?_, B1.out.alloc _⟩
  · have := Z1.out; simp; omega
  · simp
  · exact ((Blk.new w #[.pointer (some ⟨b, 0, none⟩)] 80).bel (show Bel _ _ by rw [HW.out]; exact (Bel.refl W).alloc _))
  · exact Blk.new W (attS w.heap.size ca).toArray 85

set_option maxRecDepth 100000 in
set_option maxHeartbeats 1000000 in
theorem propL (b ca : Nat) (w : World) :
    Calls Try.prog 62 #[.pointer (some ⟨b, 0, none⟩), .pointer (some ⟨ca, 0, none⟩)] w fun e w' => Handed b 5 (fun cw => propS cw ca) w e w' := by
  obtain ⟨W, hW⟩ : ∃ W, w.alloc (.cells #[.pointer (some ⟨b, 0, none⟩)] 80) = W := ⟨_, rfl⟩
  have k1 : W.cell? ⟨w.heap.size, 0, none⟩ = some (.pointer (some ⟨b, 0, none⟩)) := by rw [← hW]; exact (Blk.new w _ _).cell 0 rfl
  have B1 := Lib.hid (show Bel w W by rw [← hW]; exact (Bel.refl w).alloc _)
  have z1 : W.heap.size = w.heap.size + 1 := by rw [← hW]; simp
  have Z1 := Lib.hid z1
  have K1 := Lib.hid k1
  have HW := Lib.hid hW
  clear k1 hW z1
  go_enter Try.func62, Try.ntmps62
  go_upto_region 1 with fail
  rw [HW.out]
  go_wp2
  go_ret
  refine ⟨w.heap.size, W.heap.size, Nat.le_refl _, by rw [Z1.out]; omega, ?_, ?_, rfl, ?_, ?_, B1.out.alloc _⟩
  · have := Z1.out; simp; omega
  · simp
  · exact ((Blk.new w #[.pointer (some ⟨b, 0, none⟩)] 80).bel (show Bel _ _ by rw [HW.out]; exact (Bel.refl W).alloc _))
  · exact Blk.new W (propS w.heap.size ca).toArray 85
end Vt
end Go.Proofs.Ytgalhpejihmhkaa
end

section
/-
  What vote.encode answers, over parts whose steps keep what they say. Condition: all that they write together fits.
-/
namespace Go.Proofs.Ytgalhpejihmhkaa
open Go.RowKit Go.Shelf
set_option linter.unusedVariables false
namespace Vt
open Cd

/-- What the first k of steps write; the first error of them. -/
def bytesOf (its : List (Int × List Int)) : List Int := its.flatMap (·.2)
def errOf : List (Int × List Int) → Int
  | [] => 0
  | it :: r => if it.1 ≠ 0 then it.1 else errOf r
/-- A step that was called: its own error and nothing turned, or its bytes behind the others. -/
def Stepped (b : Nat) (L : Int) (v : Value) (out : List Int) (base : Nat) (it : Int × List Int) (w : World) (e : Ending) (w' : World) : Prop :=
  ∃ r, e = .returned (.int .i64 r) ∧ (it.1 ≠ 0 → r = it.1) ∧ (it.1 = 0 → After w' b L r out it.2 base) ∧ Kep (Own2 b v) w w'
def Enters (F : Nat) : Prop := ∀ (C : Array Value) (w : World), (callFunc F C).run Try.prog w = .ok (.enter F C) w
def StepOK (w : World) (cw : Nat) (sv : Value) (it : Int × List Int) : Prop :=
  ∃ f C, sv = .func (.func f) #[] C ∧ Enters f ∧ ∀ b L v out base w1, Bel w w1 → w1.cell? ⟨cw, 0, none⟩ = some (.pointer (some ⟨b, 0, none⟩)) → WS w1 b L v 0 out base → Calls Try.prog f C w1 fun e w' => Stepped b L v out base it w1 e w'
def PartOK (w : World) (fv : Value) (its : List (Int × List Int)) : Prop :=
  ∃ (F ca : Nat) (S : Nat → List Value), fv = .func (.func F) #[] #[.pointer (some ⟨ca, 0, none⟩)] ∧ Enters F ∧ its.length ≤ 100 ∧ (∀ b w1, Calls Try.prog F #[.pointer (some ⟨b, 0, none⟩), .pointer (some ⟨ca, 0, none⟩)] w1 fun e w' => Handed b its.length S w1 e w') ∧
    ∀ (cw i : Nat) (it : Int × List Int), its[i]? = some it → errOf (its.take i) = 0 → ∃ sv, (S cw)[i]? = some sv ∧ StepOK w cw sv it

theorem errOf_append (a c : List (Int × List Int)) (h : errOf a = 0) : errOf (a ++ c) = errOf c := by
  induction a with
  | nil => rfl
  | cons x r ih =>
    simp only [errOf] at h
    by_cases hx : x.1 ≠ 0
    · rw [if_pos hx] at h; exact absurd h hx
    · rw [if_neg hx] at h
      rw [List.cons_append, errOf, if_neg hx]
      exact ih h
theorem bytesOf_append (a c : List (Int × List Int)) : bytesOf (a ++ c) = bytesOf a ++ bytesOf c := by simp [bytesOf]
theorem take_succ' {α : Type} {l : List α} {k : Nat} {x : α} (h : l[k]? = some x) : l.take (k + 1) = l.take k ++ [x] := by
  rw [List.take_add_one, h]; rfl
theorem ws_ne {w : World} {b : Nat} {L : Int} {v : Value} {err : Int} {out : List Int} {base cw : Nat} {C : Array Value} {t : TypeId} (h : WS w b L v err out base) (hb : Blk w cw C t) (h1 : t ≠ 5) (h2 : t ≠ 99) : ¬ Own2 b v cw := by
  rintro (rfl | e)
  · have := h.blk.symm.trans hb
    simp at this
    exact h2 this.2.symm
  · rcases h.row.2 with ⟨rfl, _⟩ | ⟨g, cap, cur, rfl, _, hg, _⟩
    · cases e
    · obtain rfl : g = cw := by simpa [Value.ownBlock] using e
      have := hg.symm.trans hb
      simp at this
      exact h1 this.2.symm

theorem kbel {w w1 w2 : World} {b : Nat} {L : Int} {v : Value} {err : Int} {out : List Int} {base : Nat} (hb : Bel w w1) (h : WS w1 b L v err out base) (h1 : w.heap.size ≤ b) (h2 : w.heap.size ≤ base) (hk : Kep (Own2 b v) w1 w2) : Bel w w2 :=
  Kep.bel hb hk (fun k hs => by
    rcases hs with rfl | hs
    · exact h1
    · exact Nat.le_trans h2 (h.row.lt k hs).1)
theorem aok {w : World} {b : Nat} {L r : Int} {out more : List Int} {base : Nat} (h : After w b L r out more base) (hf : ((out ++ more).length : Int) ≤ L) : r = 0 ∧ ∃ v, WS w b L v 0 (out ++ more) base := by
  rcases h with ⟨h1, _, h3⟩ | ⟨h1, h2, _⟩
  · exact ⟨h1, h3⟩
  · omega
theorem split_at' {α : Type} {l : List α} {k : Nat} {x : α} (h : l[k]? = some x) : l = l.take k ++ x :: l.drop (k + 1) := by
  obtain ⟨hk, rfl⟩ := List.getElem?_eq_some_iff.1 h
  rw [← List.drop_eq_getElem_cons hk, List.take_append_drop]
theorem flat_at {ps : List (List (Int × List Int))} {its : List (Int × List Int)} {it : Int × List Int} {k j : Nat} (h : ps[k]? = some its) (hi : its[j]? = some it) : ∃ more, ps.flatten = (ps.take k).flatten ++ (its.take j ++ it :: more) := by
  refine ⟨its.drop (j + 1) ++ (ps.drop (k + 1)).flatten, ?_⟩
  conv => lhs; rw [split_at' h, List.flatten_append, List.flatten_cons, split_at' hi]
  simp
theorem pre_le {ps : List (List (Int × List Int))} {its : List (Int × List Int)} {it : Int × List Int} {k j : Nat} (h : ps[k]? = some its) (hi : its[j]? = some it) : ((bytesOf (ps.take k).flatten ++ bytesOf (its.take j)) ++ it.2).length ≤ (bytesOf ps.flatten).length := by
  obtain ⟨more, e⟩ := flat_at h hi
  rw [e, bytesOf_append, bytesOf_append, show bytesOf (it :: more) = it.2 ++ bytesOf more by simp [bytesOf]]
  simp only [List.length_append]
  omega
theorem err_at {ps : List (List (Int × List Int))} {its : List (Int × List Int)} {it : Int × List Int} {k j : Nat} (h : ps[k]? = some its) (hi : its[j]? = some it) (h1 : errOf (ps.take k).flatten = 0) (h2 : errOf (its.take j) = 0) (h3 : it.1 ≠ 0) : errOf ps.flatten = it.1 := by
  obtain ⟨more, e⟩ := flat_at h hi
  rw [e, errOf_append _ _ h1, errOf_append _ _ h2, errOf, if_pos h3]
theorem err_next {its : List (Int × List Int)} {it : Int × List Int} {j : Nat} (hi : its[j]? = some it) (h2 : errOf (its.take j) = 0) (h3 : it.1 = 0) : errOf (its.take (j + 1)) = 0 := by
  rw [take_succ' hi, errOf_append _ _ h2, errOf, if_neg (by simp [h3])]; rfl
theorem bytes_next {its : List (Int × List Int)} {it : Int × List Int} {j : Nat} (hi : its[j]? = some it) : bytesOf (its.take (j + 1)) = bytesOf (its.take j) ++ it.2 := by
  rw [take_succ' hi, bytesOf_append]; simp [bytesOf]
theorem row_low {w : World} {b1 b2 : Nat} {e : TypeId} {size : Nat} {v : Value} {n : Nat} {xs : List Value} (h : w.ownsRow b1 e size v n xs) (hb : b2 ≤ b1) : w.ownsRow b2 e size v n xs := by
  refine ⟨h.1, ?_⟩
  rcases h.2 with h | ⟨g, cap, cur, hv, hg, r⟩
  · exact .inl h
  · exact .inr ⟨g, cap, cur, hv, Nat.le_trans hb hg, r⟩

/-- What encode answers. -/
def Encoded (all : List (Int × List Int)) (w : World) (e : Ending) (w' : World) : Prop :=
  Bel w w' ∧ ((errOf all ≠ 0 ∧ e = .returned (.tuple #[.slice none 0 0, .int .i64 (errOf all)])) ∨ (errOf all = 0 ∧ ∃ u, e = .returned (.tuple #[u, .int .i64 0]) ∧ w'.ownsRow w.heap.size 5 1 u (bytesOf all).length ((bytesOf all).map (Value.int .u8))))

set_option maxRecDepth 100000 in
set_option maxHeartbeats 4000000 in
theorem encode (p n : Nat) (fs : List Value) (ps : List (List (Int × List Int))) (w : World) (hf : fs.length = n) (hp : ps.length = n) (hn : n ≤ 100) (hc : ∀ (i : Nat) (v : Value), fs[i]? = some v → w.cell? ⟨p, i, none⟩ = some v) (hpl : p < w.heap.size)
    (hok : ∀ (i : Nat) (v : Value) (its : List (Int × List Int)), fs[i]? = some v → ps[i]? = some its → PartOK w v its) (hl : (bytesOf ps.flatten).length ≤ 1048576) :
    Calls Try.prog 30 #[.slice (some ⟨p, 0, none⟩) n n] w fun e w' => Encoded ps.flatten w e w' := by
  have HC := Lib.hid hc
  have HOK := Lib.hid hok
  have HL := Lib.hid hl
  have HF := Lib.hid hf
  have HP := Lib.hid hp
  have HPL := Lib.hid hpl
  clear hc hok hl hf hp hpl
  go_enter Try.func30, Try.ntmps30
  go_wp2_with fail
  refine (newWriter 1048576 w (by omega) (by omega)).mono ?_
  rintro e w1 ⟨rfl, h1, b1⟩
  have W1 := Lib.hid h1
  have B1 := Lib.hid (show Bel w w1 from b1)
  clear h1 b1
  obtain ⟨b, hb⟩ : ∃ b, b = w.heap.size := ⟨_, rfl⟩
  rw [← hb] at W1 ⊢
  have HB := Lib.hid hb
  clear hb
  go_wp2_with fail
  go_loopw [20] (fun i wr => ∃ k : Nat, i = .int .i64 k ∧ k ≤ n ∧ errOf (ps.take k).flatten = 0 ∧ (∃ v, WS wr b 1048576 v 0 (bytesOf (ps.take k).flatten) b) ∧ Bel w wr) (fun i _ => n - (intOf i).toNat)
  case atStart => exact ⟨0, rfl, Nat.zero_le _, rfl, ⟨_, W1.out⟩, B1.out⟩
  case round =>
    obtain ⟨k, rfl, hk, he, ⟨v, hws⟩, hbl⟩ := hrel
    by_cases hlt : k < n
    · have hkf : fs[k]? = some (fs[k]'(by rw [HF.out]; exact hlt)) := List.getElem?_eq_getElem _
      have hkp : ps[k]? = some (ps[k]'(by rw [HP.out]; exact hlt)) := List.getElem?_eq_getElem _
      obtain ⟨fv, hfv⟩ : ∃ x, x = fs[k]'(by rw [HF.out]; exact hlt) := ⟨_, rfl⟩
      obtain ⟨its, hits⟩ : ∃ x, x = ps[k]'(by rw [HP.out]; exact hlt) := ⟨_, rfl⟩
      rw [← hfv] at hkf
      rw [← hits] at hkp
      obtain ⟨F, ca, S, rfl, hen, hm, hcall, hst⟩ := HOK.out k fv its hkf hkp
      have c0 : wr.cell? ⟨p, k, none⟩ = _ := (Below.cell (p := ⟨p, k, none⟩) hbl HPL.out).trans (HC.out k _ hkf)
      have TK := Lib.hid (show (ps.take (k + 1)).flatten = (ps.take k).flatten ++ its by rw [take_succ' hkp, List.flatten_append]; simp)
      have HE := Lib.hid he
      have HWS := Lib.hid hws
      have HBL := Lib.hid hbl
      have HM := Lib.hid hm
      have HST := Lib.hid hst
      have HCALL := Lib.hid (hcall b)
      have HKP := Lib.hid hkp
      have hen : ∀ (C : Array Value) (w : World), (callFunc F C).run Try.prog w = .ok (.enter F C) w := hen
      clear hkf hfv hits he hws hbl hm hst hcall hkp
      go_wp2_with fail
      refine (HCALL.out wr).mono ?_
      rintro e w2 ⟨cw, g, l1, l2, l3, l4, rfl, bc, bg, k2⟩
      have WS2 := Lib.hid (HWS.out.bel k2)
      have BL2 := Lib.hid (HBL.out.trans k2)
      have BC := Lib.hid bc
      have BG := Lib.hid bg
      clear c0 bc bg k2 l1 l2 l3 l4 hen
      have := HM.out
      go_wp2_with fail
      go_loopw [28] (fun i wr => ∃ j : Nat, i = .int .i64 j ∧ j ≤ its.length ∧ errOf (its.take j) = 0 ∧ (∃ v, WS wr b 1048576 v 0 (bytesOf (ps.take k).flatten ++ bytesOf (its.take j)) b) ∧ Blk wr cw #[.pointer (some ⟨b, 0, none⟩)] 80 ∧ Blk wr g (S cw).toArray 85 ∧ Bel w wr) (fun i _ => its.length - (intOf i).toNat)
      case atStart => exact ⟨0, rfl, Nat.zero_le _, rfl, ⟨v, by simpa [bytesOf] using WS2.out⟩, BC.out, BG.out, BL2.out⟩
      case round =>
        obtain ⟨j, rfl, hj, hej, ⟨v, hws⟩, hbc, hbg, hbl⟩ := hrel
        by_cases hltj : j < its.length
        · have hit : its[j]? = some (its[j]'hltj) := List.getElem?_eq_getElem _
          obtain ⟨it, hi⟩ : ∃ x, x = its[j]'hltj := ⟨_, rfl⟩
          rw [← hi] at hit
          obtain ⟨sv, hsv, f, C, rfl, hen, hstep⟩ := HST.out cw j it hit hej
          have c1 : wr.cell? ⟨g, j, none⟩ = some (.func (.func f) #[] C) := hbg.cell j (by rw [List.getElem?_toArray]; exact hsv)
          have STEP := Lib.hid (hstep b 1048576 v _ b wr hbl (hbc.cell 0 rfl) hws)
          have n1 := ws_ne hws hbc (by decide) (by decide)
          have n2 := ws_ne hws hbg (by decide) (by decide)
          have N1 := Lib.hid n1
          have N2 := Lib.hid n2
          have HWS := Lib.hid hws
          have HBC := Lib.hid hbc
          have HBG := Lib.hid hbg
          have HBL := Lib.hid hbl
          have HIT := Lib.hid hit
          have HEJ := Lib.hid hej
          have hen : ∀ (C : Array Value) (w : World), (callFunc f C).run Try.prog w = .ok (.enter f C) w := hen
          clear hit hi hsv hstep n1 n2 hws hbc hbg hbl hej
          have HX := Lib.hid (show w.heap.size ≤ b by rw [HB.out]; exact Nat.le_refl _)
          go_wp2_with fail
          refine STEP.out.mono ?_
          rintro e w3 ⟨r, rfl, r1, r0, k3⟩
          have BL3 := Lib.hid (kbel HBL.out HWS.out HX.out HX.out k3)
          have BC3 := Lib.hid (HBC.out.kep k3 N1.out)
          have BG3 := Lib.hid (HBG.out.kep k3 N2.out)
          clear k3
          by_cases hz : it.1 = 0
          · obtain ⟨rfl, v3, hws3⟩ := aok (r0 hz) (by have := pre_le HKP.out HIT.out; have := HL.out; omega)
            have WS3 := Lib.hid (show WS w3 b 1048576 v3 0 (bytesOf (ps.take k).flatten ++ bytesOf (its.take (j + 1))) b by rw [bytes_next HIT.out, ← List.append_assoc]; exact hws3)
            have HZ := Lib.hid hz
            clear r1 r0 hws3 hz c1 hen
            go_wp2
            go_roundw
            case rel => exact ⟨j + 1, by go_num, by omega, err_next HIT.out HEJ.out HZ.out, ⟨v3, WS3.out⟩, BC3.out, BG3.out, BL3.out⟩
            case measure => simp [intOf] <;> omega
          · obtain rfl := r1 hz
            have f : (it.1 != 0) = true := by rw [bne_iff_ne]; exact hz
            have ER := Lib.hid (err_at HKP.out HIT.out HE.out HEJ.out hz)
            have HZ := Lib.hid hz
            clear r1 r0 hz c1 hen
            go_wp2
            go_ret2
            exact ⟨BL3.out, .inl ⟨by rw [ER.out]; exact HZ.out, by rw [ER.out]; rfl⟩⟩
        · obtain rfl : j = its.length := by omega
          have WS3 := Lib.hid (show WS wr b 1048576 v 0 (bytesOf (ps.take (k + 1)).flatten) b by rw [TK.out, bytesOf_append]; rw [List.take_length] at hws; exact hws)
          have E3 := Lib.hid (show errOf (ps.take (k + 1)).flatten = 0 by rw [TK.out, errOf_append _ _ HE.out]; rw [List.take_length] at hej; exact hej)
          have BL3 := Lib.hid hbl
          clear hws hej hbc hbg hbl
          go_wp2
          go_roundw
          case rel => exact ⟨k + 1, by go_num, by omega, E3.out, ⟨v, WS3.out⟩, BL3.out⟩
          case measure => simp [intOf] <;> omega
    · obtain rfl : k = n := by omega
      have hall : ps.take k = ps := by rw [← HP.out]; exact List.take_length
      rw [hall] at he hws
      have WD := Lib.hid (wdone b 1048576 v _ b wr hws)
      have HE := Lib.hid he
      have HBL := Lib.hid hbl
      clear he hws hbl hall
      go_wp2_with fail
      refine WD.out.mono ?_
      rintro e w2 ⟨u, rfl, h1, b2⟩
      have H1 := Lib.hid h1
      have B2 := Lib.hid (show Bel wr w2 from b2)
      clear h1 b2
      go_wp2
      go_ret2
      exact ⟨HBL.out.trans B2.out, .inr ⟨HE.out, u, rfl, row_low H1.out (Below.size HBL.out)⟩⟩
end Vt
end Go.Proofs.Ytgalhpejihmhkaa
end

section
/-
  The parts of a vote as vote.encode takes them: attested, proposed, tagged. Condition: the box holds the words.
-/
namespace Go.Proofs.Ytgalhpejihmhkaa
open Go.RowKit Go.Shelf
set_option linter.unusedVariables false
namespace Vt
open Cd

theorem stepped_w {b : Nat} {L : Int} {v : Value} {out : List Int} {base : Nat} {zs : List Int} {w w' : World} {e : Ending} (h : ∃ r, e = .returned (.int .i64 r) ∧ After w' b L r out zs base ∧ Kep (Own2 b v) w w') : Stepped b L v out base (0, zs) w e w' := by
  obtain ⟨r, h1, h2, h3⟩ := h
  exact ⟨r, h1, fun h => absurd rfl h, fun _ => h2, h3⟩
theorem en_tag : Enters 59 := fun C w => by kernel_rfl
theorem en_tag1 : Enters 60 := fun C w => by kernel_rfl

abbrev tagI (tag : Int) : List (Int × List Int) := [(0, enc tag)]
theorem tag_part (w : World) (ca : Nat) (tag : Int) (hc : w.cell? ⟨ca, 0, none⟩ = some (.int .u64 tag)) (hl : ca < w.heap.size) (t0 : 0 ≤ tag) (t1 : tag ≤ 18446744073709551615) : PartOK w (cap 59 [ca]) (tagI tag) := by
  refine ⟨_, ca, fun cw => tagS cw ca, rfl, en_tag, by simp, fun b w1 => tagL b ca w1, fun cw i it hi _ => ?_⟩
  match i, hi with
  | 0, hi =>
    obtain rfl : (0, enc tag) = it := by simpa using hi
    exact ⟨_, rfl, _, _, rfl, en_tag1, fun b L v out base w1 hb hw h => (tag1 cw ca b tag L v out base w1 hw ((Below.cell (p := ⟨ca, 0, none⟩) hb hl).trans hc) h t0 t1).mono fun e w2 h => stepped_w h⟩
theorem stepped_c {b : Nat} {L : Int} {v : Value} {out : List Int} {base : Nat} {x : Int} {w w' : World} {e : Ending} (hw : WS w b L v 0 out base) (h : e = .returned (.int .i64 x) ∧ Bel w w') : Stepped b L v out base (x, []) w e w' := by
  obtain ⟨h1, h2⟩ := h
  refine ⟨x, h1, fun _ => rfl, fun h => .inl ⟨h, ?_, v, ?_⟩, Kep.of_bel h2⟩
  · simpa using hw.fits
  · simpa using hw.bel h2
theorem chk_ok {v s t : Int} (h : chkE v s t = 0) : (0 ≤ v ∧ v ≤ 31) ∧ (0 ≤ s ∧ s ≤ 4294967296) ∧ (0 ≤ t ∧ t ≤ 4294967296) := by
  unfold chkE wthE at h
  by_cases hb : ([(v, 0, 31), (s, 0, 4294967296), (t, 0, 4294967296)].all okB) = true
  · simp [okB] at hb
    omega
  · rw [if_neg hb] at h; omega
theorem chkB_ok {v s : Int} (h : chkBE v s = 0) : (0 ≤ v ∧ v ≤ 31) ∧ (1 ≤ s ∧ s ≤ 4294967296) := by
  unfold chkBE wthE at h
  by_cases hb : ([(v, 0, 31), (s, 1, 4294967296)].all okB) = true
  · simp [okB] at hb
    omega
  · rw [if_neg hb] at h; omega
theorem err_head {x : Int} {zs : List Int} {r : List (Int × List Int)} {i : Nat} (h : errOf (((x, zs) :: r).take (i + 1)) = 0) : x = 0 := by
  rw [List.take_succ_cons, errOf] at h
  by_cases hx : x = 0
  · exact hx
  · rw [if_pos hx] at h; exact h
theorem range_sub {w : World} {b o : Nat} {A B : List Value} {C : List Value} (h : w.rangeAt b o (A ++ (B ++ C))) : w.rangeAt b (o + A.length) B := fun j v hv => by
  rw [Nat.add_assoc]
  exact h (A.length + j) v (by
    have hj : j < B.length := (List.getElem?_eq_some_iff.1 hv).1
    rw [List.getElem?_append_right (by omega), Nat.add_sub_cancel_left, List.getElem?_append_left hj]
    exact hv)
theorem en_att : Enters 50 := fun C w => by kernel_rfl
theorem en_att1 : Enters 51 := fun C w => by kernel_rfl
theorem en_att2 : Enters 52 := fun C w => by kernel_rfl
theorem en_att3 : Enters 54 := fun C w => by kernel_rfl
theorem en_att4 : Enters 55 := fun C w => by kernel_rfl
theorem en_att5 : Enters 56 := fun C w => by kernel_rfl
theorem en_att6 : Enters 57 := fun C w => by kernel_rfl
theorem en_prop : Enters 62 := fun C w => by kernel_rfl
theorem en_prop1 : Enters 63 := fun C w => by kernel_rfl
theorem en_prop2 : Enters 65 := fun C w => by kernel_rfl
theorem en_prop3 : Enters 66 := fun C w => by kernel_rfl
theorem en_prop4 : Enters 67 := fun C w => by kernel_rfl
theorem en_prop5 : Enters 68 := fun C w => by kernel_rfl

abbrev attI (v s t : Int) (hs : List Int) : List (Int × List Int) := [(chkE v s t, []), (0, enc 1), (0, enc v), (0, enc s), (0, enc t), (0, hs)]
theorem att_part (w : World) (ca : Nat) (v s t tag : Int) (hs : List Int) (hr : w.rangeAt ca 0 (attC v s t hs tag)) (hl : ca < w.heap.size) (h32 : hs.length = 32) : PartOK w (cap 50 [ca]) (attI v s t hs) := by
  refine ⟨_, ca, fun cw => attS cw ca, rfl, en_att, by simp, fun b w1 => attL b ca w1, fun cw i it hi he => ?_⟩
  have R : ∀ {w1 : World}, Bel w w1 → w1.rangeAt ca 0 (attC v s t hs tag) := fun hb j u hu => (Below.cell (p := ⟨ca, 0 + j, none⟩) hb hl).trans (hr j u hu)
  match i, hi, he with
  | 0, hi, _ =>
    obtain rfl : (chkE v s t, ([] : List Int)) = it := by simpa using hi
    exact ⟨_, rfl, _, _, rfl, en_att1, fun b L u out base w1 hb hw h => (att1 ca v s t tag hs w1 h32 (R hb)).mono fun e w2 h2 => stepped_c h h2⟩
  | 1, hi, _ =>
    obtain rfl : ((0 : Int), enc 1) = it := by simpa using hi
    exact ⟨_, rfl, _, _, rfl, en_att2, fun b L u out base w1 hb hw h => (att2 cw b L u out base w1 hw h).mono fun e w2 h2 => stepped_w h2⟩
  | 2, hi, he =>
    obtain rfl : ((0 : Int), enc v) = it := by simpa using hi
    have B := chk_ok (err_head he)
    exact ⟨_, rfl, _, _, rfl, en_att3, fun b L u out base w1 hb hw h => (att3 cw ca b v L u out base w1 hw (R hb 0 _ rfl) h (by omega) (by omega)).mono fun e w2 h2 => stepped_w h2⟩
  | 3, hi, he =>
    obtain rfl : ((0 : Int), enc s) = it := by simpa using hi
    have B := chk_ok (err_head he)
    exact ⟨_, rfl, _, _, rfl, en_att4, fun b L u out base w1 hb hw h => (att4 cw ca b s L u out base w1 hw (R hb 1 _ rfl) h (by omega) (by omega)).mono fun e w2 h2 => stepped_w h2⟩
  | 4, hi, he =>
    obtain rfl : ((0 : Int), enc t) = it := by simpa using hi
    have B := chk_ok (err_head he)
    exact ⟨_, rfl, _, _, rfl, en_att5, fun b L u out base w1 hb hw h => (att5 cw ca b t L u out base w1 hw (R hb 2 _ rfl) h (by omega) (by omega)).mono fun e w2 h2 => stepped_w h2⟩
  | 5, hi, he =>
    obtain rfl : ((0 : Int), hs) = it := by simpa using hi
    exact ⟨_, rfl, _, _, rfl, en_att6, fun b L u out base w1 hb hw h => (att6 cw ca b hs L u out base w1 hw (range_sub (R hb)) h h32).mono fun e w2 h2 => stepped_w h2⟩

abbrev propI (v s : Int) (hs : List Int) : List (Int × List Int) := [(chkBE v s, []), (0, enc 2), (0, enc v), (0, enc s), (0, hs)]
theorem prop_part (w : World) (ca : Nat) (v s tag : Int) (hs : List Int) (hr : w.rangeAt ca 0 (propC v s hs tag)) (hl : ca < w.heap.size) (h32 : hs.length = 32) : PartOK w (cap 62 [ca]) (propI v s hs) := by
  refine ⟨_, ca, fun cw => propS cw ca, rfl, en_prop, by simp, fun b w1 => propL b ca w1, fun cw i it hi he => ?_⟩
  have R : ∀ {w1 : World}, Bel w w1 → w1.rangeAt ca 0 (propC v s hs tag) := fun hb j u hu => (Below.cell (p := ⟨ca, 0 + j, none⟩) hb hl).trans (hr j u hu)
  match i, hi, he with
  | 0, hi, _ =>
    obtain rfl : (chkBE v s, ([] : List Int)) = it := by simpa using hi
    exact ⟨_, rfl, _, _, rfl, en_prop1, fun b L u out base w1 hb hw h => (prop1 ca v s tag hs w1 h32 (R hb)).mono fun e w2 h2 => stepped_c h h2⟩
  | 1, hi, _ =>
    obtain rfl : ((0 : Int), enc 2) = it := by simpa using hi
    exact ⟨_, rfl, _, _, rfl, en_prop2, fun b L u out base w1 hb hw h => (prop2 cw b L u out base w1 hw h).mono fun e w2 h2 => stepped_w h2⟩
  | 2, hi, he =>
    obtain rfl : ((0 : Int), enc v) = it := by simpa using hi
    have B := chkB_ok (err_head he)
    exact ⟨_, rfl, _, _, rfl, en_prop3, fun b L u out base w1 hb hw h => (prop3 cw ca b v L u out base w1 hw (R hb 0 _ rfl) h (by omega) (by omega)).mono fun e w2 h2 => stepped_w h2⟩
  | 3, hi, he =>
    obtain rfl : ((0 : Int), enc s) = it := by simpa using hi
    have B := chkB_ok (err_head he)
    exact ⟨_, rfl, _, _, rfl, en_prop4, fun b L u out base w1 hb hw h => (prop4 cw ca b s L u out base w1 hw (R hb 1 _ rfl) h (by omega) (by omega)).mono fun e w2 h2 => stepped_w h2⟩
  | 4, hi, he =>
    obtain rfl : ((0 : Int), hs) = it := by simpa using hi
    exact ⟨_, rfl, _, _, rfl, en_prop5, fun b L u out base w1 hb hw h => (prop5 cw ca b hs L u out base w1 hw (range_sub (R hb)) h h32).mono fun e w2 h2 => stepped_w h2⟩
end Vt
end Go.Proofs.Ytgalhpejihmhkaa
end

section
/-
  What vote.attested, proposed and tagged answer. No condition.
-/
namespace Go.Proofs.Ytgalhpejihmhkaa
open Go.RowKit Go.Shelf
set_option linter.unusedVariables false
namespace Vt
open Cd

/-- A part was made: a new box with the words, and nothing else. -/
def Made (F : Nat) (C : List Value) (w : World) (e : Ending) (w' : World) : Prop :=
  ∃ ca, ca = w.heap.size ∧ e = .returned (cap F [ca]) ∧ w'.rangeAt ca 0 C ∧ ca < w'.heap.size ∧ Bel w w'
theorem range_blk {w : World} {b : Nat} {C : List Value} {t : TypeId} (h : Blk w b C.toArray t) : w.rangeAt b 0 C := fun j u hu => by
  rw [Nat.zero_add]
  exact h.cell j (by rw [List.getElem?_toArray]; exact hu)

set_option maxRecDepth 100000 in
set_option maxHeartbeats 1000000 in
theorem attMade (v s t tag : Int) (hs : List Int) (w : World) : Calls Try.prog 31 #[.agg (attC v s t hs tag).toArray] w fun e w' => Made 50 (attC v s t hs tag) w e w' := by
  obtain ⟨D, hD⟩ : ∃ D, D = attC v s t hs tag := ⟨_, rfl⟩
  rw [← hD]
  obtain ⟨W, hW⟩ : ∃ W, w.alloc (.cells D.toArray 29) = W := ⟨_, rfl⟩
  have HB := Lib.hid (show Bel w W by rw [← hW]; exact (Bel.refl w).alloc _)
  have HR := Lib.hid (show W.rangeAt w.heap.size 0 D by rw [← hW]; exact range_blk (Blk.new w D.toArray 29))
  have HZ := Lib.hid (show w.heap.size < W.heap.size by rw [← hW]; simp)
  have HW := Lib.hid hW
  clear hD hW
  go_enter Try.func31, Try.ntmps31
  go_upto_region 1 with fail
  rw [HW.out]
  go_wp2
  go_ret
  exact ⟨_, rfl, rfl, HR.out, HZ.out, HB.out⟩

set_option maxRecDepth 100000 in
set_option maxHeartbeats 1000000 in
theorem propMade (v s tag : Int) (hs : List Int) (w : World) : Calls Try.prog 33 #[.agg (propC v s hs tag).toArray] w fun e w' => Made 62 (propC v s hs tag) w e w' := by
  obtain ⟨D, hD⟩ : ∃ D, D = propC v s hs tag := ⟨_, rfl⟩
  rw [← hD]
  obtain ⟨W, hW⟩ : ∃ W, w.alloc (.cells D.toArray 36) = W := ⟨_, rfl⟩
  have HB := Lib.hid (show Bel w W by rw [← hW]; exact (Bel.refl w).alloc _)
  have HR := Lib.hid (show W.rangeAt w.heap.size 0 D by rw [← hW]; exact range_blk (Blk.new w D.toArray 36))
  have HZ := Lib.hid (show w.heap.size < W.heap.size by rw [← hW]; simp)
  have HW := Lib.hid hW
  clear hD hW
  go_enter Try.func33, Try.ntmps33
  go_upto_region 1 with fail
  rw [HW.out]
  go_wp2
  go_ret
  exact ⟨_, rfl, rfl, HR.out, HZ.out, HB.out⟩

set_option maxRecDepth 100000 in
set_option maxHeartbeats 1000000 in
theorem tagMade (tag : Int) (w : World) : Calls Try.prog 32 #[.int .u64 tag] w fun e w' => Made 59 [.int .u64 tag] w e w' := by
  have HR := Lib.hid (range_blk (Blk.new w [Value.int .u64 tag].toArray 27))
  go_enter Try.func32, Try.ntmps32
  go_wp2
  go_ret
  exact ⟨_, rfl, rfl, HR.out, by simp, (Bel.refl w).alloc _⟩
end Vt
end Go.Proofs.Ytgalhpejihmhkaa
end

section
/-
  What vote.Bytes and BytesBlock answer. Condition: a root has 32 bytes, a tag is below 2^64.
-/
namespace Go.Proofs.Ytgalhpejihmhkaa
open Go.RowKit Go.Shelf
set_option linter.unusedVariables false
namespace Vt
open Cd

theorem enc_le (n : Int) : (enc n).length ≤ 10 := (enc_len n).2
theorem PartOK.bel {w w' : World} {fv : Value} {its : List (Int × List Int)} (h : PartOK w fv its) (hb : Bel w w') : PartOK w' fv its := by
  obtain ⟨F, ca, S, h1, h2, h3, h4, h5⟩ := h
  refine ⟨F, ca, S, h1, h2, h3, h4, fun cw i it hi he => ?_⟩
  obtain ⟨sv, g1, f, C, g2, g3, g4⟩ := h5 cw i it hi he
  exact ⟨sv, g1, f, C, g2, g3, fun b L v out base w1 hw => g4 b L v out base w1 (hb.trans hw)⟩
/-- What encode's answer is beside its error. -/
def EncR (all : List (Int × List Int)) (w : World) (u : Value) (w' : World) : Prop :=
  Bel w w' ∧ ((errOf all ≠ 0 ∧ u = .slice none 0 0) ∨ (errOf all = 0 ∧ w'.ownsRow w.heap.size 5 1 u (bytesOf all).length ((bytesOf all).map (Value.int .u8))))
theorem EncR.low {all : List (Int × List Int)} {w0 w w' : World} {u : Value} (h : EncR all w u w') (hb : Bel w0 w) : EncR all w0 u w' := by
  refine ⟨hb.trans h.1, ?_⟩
  rcases h.2 with ⟨h1, h2⟩ | ⟨h1, h2⟩
  · exact .inl ⟨h1, h2⟩
  · exact .inr ⟨h1, row_low h2 (Below.size hb)⟩
theorem Encoded.split {all : List (Int × List Int)} {w w' : World} {e : Ending} (h : Encoded all w e w') : ∃ u, e = .returned (.tuple #[u, .int .i64 (errOf all)]) ∧ EncR all w u w' := by
  obtain ⟨hb, ⟨h1, h2⟩ | ⟨h1, u, h2, h3⟩⟩ := h
  · exact ⟨_, h2, hb, .inl ⟨h1, rfl⟩⟩
  · exact ⟨u, by rw [h1]; exact h2, hb, .inr ⟨h1, h3⟩⟩
theorem encode2 (w v3 : World) (g : Nat) (f1 f2 : Value) (i1 i2 : List (Int × List Int)) (h1 : PartOK w f1 i1) (h2 : PartOK w f2 i2) (hv : w.alloc (.cells #[f1, f2] 58) = v3) (hg : g = w.heap.size) (hl : (bytesOf (i1 ++ i2)).length ≤ 1048576) :
    Calls Try.prog 30 #[.slice (some ⟨g, 0, none⟩) 2 2] v3 fun e w' => ∃ u, e = .returned (.tuple #[u, .int .i64 (errOf (i1 ++ i2))]) ∧ EncR (i1 ++ i2) v3 u w' := by
  subst hv hg
  have hb : Bel w (w.alloc (.cells #[f1, f2] 58)) := (Bel.refl w).alloc _
  refine (encode w.heap.size 2 [f1, f2] [i1, i2] _ rfl rfl (by omega) (fun i v hi => (Blk.new w #[f1, f2] 58).cell i (by rw [← List.getElem?_toArray] at hi; exact hi)) (by simp) ?_ (by simpa using hl)).mono fun e w' h => ?_
  · intro i v its hi hj
    match i, hi, hj with
    | 0, hi, hj =>
      obtain rfl : f1 = v := by simpa using hi
      obtain rfl : i1 = its := by simpa using hj
      exact h1.bel hb
    | 1, hi, hj =>
      obtain rfl : f2 = v := by simpa using hi
      obtain rfl : i2 = its := by simpa using hj
      exact h2.bel hb
  · have := h.split
    simpa using this
theorem encode1 (w v3 : World) (g : Nat) (f1 : Value) (i1 : List (Int × List Int)) (h1 : PartOK w f1 i1) (hv : w.alloc (.cells #[f1] 58) = v3) (hg : g = w.heap.size) (hl : (bytesOf i1).length ≤ 1048576) :
    Calls Try.prog 30 #[.slice (some ⟨g, 0, none⟩) 1 1] v3 fun e w' => ∃ u, e = .returned (.tuple #[u, .int .i64 (errOf i1)]) ∧ EncR i1 v3 u w' := by
  subst hv hg
  have hb : Bel w (w.alloc (.cells #[f1] 58)) := (Bel.refl w).alloc _
  refine (encode w.heap.size 1 [f1] [i1] _ rfl rfl (by omega) (fun i v hi => (Blk.new w #[f1] 58).cell i (by rw [← List.getElem?_toArray] at hi; exact hi)) (by simp) ?_ (by simpa using hl)).mono fun e w' h => ?_
  · intro i v its hi hj
    match i, hi, hj with
    | 0, hi, hj =>
      obtain rfl : f1 = v := by simpa using hi
      obtain rfl : i1 = its := by simpa using hj
      exact h1.bel hb
  · have := h.split
    simpa using this
theorem attI_len {v s t tag : Int} {hs : List Int} (h32 : hs.length = 32) : (bytesOf (attI v s t hs ++ tagI tag)).length ≤ 1048576 := by
  simp only [bytesOf, List.cons_append, List.nil_append, List.flatMap_cons, List.flatMap_nil, List.length_append, List.length_nil, h32]
  have h1 := enc_le 1; have h2 := enc_le v; have h3 := enc_le s; have h4 := enc_le t; have h5 := enc_le tag
  omega
theorem attI_len1 {v s t : Int} {hs : List Int} (h32 : hs.length = 32) : (bytesOf (attI v s t hs)).length ≤ 1048576 := by
  simp only [bytesOf, List.flatMap_cons, List.flatMap_nil, List.length_append, List.length_nil, h32]
  have h1 := enc_le 1; have h2 := enc_le v; have h3 := enc_le s; have h4 := enc_le t
  omega
theorem propI_len {v s tag : Int} {hs : List Int} (h32 : hs.length = 32) : (bytesOf (propI v s hs ++ tagI tag)).length ≤ 1048576 := by
  simp only [bytesOf, List.cons_append, List.nil_append, List.flatMap_cons, List.flatMap_nil, List.length_append, List.length_nil, h32]
  have h1 := enc_le 2; have h2 := enc_le v; have h3 := enc_le s; have h5 := enc_le tag
  omega
theorem propI_len1 {v s : Int} {hs : List Int} (h32 : hs.length = 32) : (bytesOf (propI v s hs)).length ≤ 1048576 := by
  simp only [bytesOf, List.flatMap_cons, List.flatMap_nil, List.length_append, List.length_nil, h32]
  have h1 := enc_le 2; have h2 := enc_le v; have h3 := enc_le s
  omega

set_option maxRecDepth 100000 in
set_option maxHeartbeats 4000000 in
theorem bytes (v s t tag : Int) (hs : List Int) (w : World) (h32 : hs.length = 32) (t0 : 0 ≤ tag) (t1 : tag ≤ 18446744073709551615) :
    Calls Try.prog 11 #[.agg (attC v s t hs tag).toArray] w fun e w' => ∃ u, e = .returned (.tuple #[u, .int .i64 (errOf (attI v s t hs ++ tagI tag))]) ∧ EncR (attI v s t hs ++ tagI tag) w u w' := by
  have AM := Lib.hid (fun W => attMade v s t tag hs W)
  have TM := Lib.hid (fun W => tagMade tag W)
  have AP := Lib.hid (fun W ca h1 h2 => att_part W ca v s t tag hs h1 h2 h32)
  have TP := Lib.hid (fun W ca h1 h2 => tag_part W ca tag h1 h2 t0 t1)
  have HL := Lib.hid (attI_len (v := v) (s := s) (t := t) (tag := tag) h32)
  obtain ⟨D, hD⟩ : ∃ D, D = attC v s t hs tag := ⟨_, rfl⟩
  have HDl := Lib.hid (show D.length = 36 by rw [hD]; exact len_attC h32 v s t tag)
  have HDt := Lib.hid (show D[35]? = some (.int .u64 tag) by rw [hD]; simp [attC, h32])
  rw [← hD] at AM AP ⊢
  obtain ⟨W, hW⟩ : ∃ W, w.alloc (.cells D.toArray 29) = W := ⟨_, rfl⟩
  obtain ⟨bx, hbx⟩ : ∃ bx, bx = w.heap.size := ⟨_, rfl⟩
  have HB := Lib.hid (show Bel w W by rw [← hW]; exact (Bel.refl w).alloc _)
  have hbk : Blk W bx D.toArray 29 := by rw [← hW, hbx]; exact Blk.new w _ _
  have S0 : W.rangeAt bx 0 D ∧ W.cell? ⟨bx, 35, none⟩ = some (.int .u64 tag) ∧ bx < W.heap.size ∧ Bel w W := ⟨range_blk hbk, hbk.cell 35 (by rw [List.getElem?_toArray]; exact HDt.out), by rw [← hW, hbx]; simp, HB.out⟩
  have KEEP := Lib.hid (show ∀ W W' : World, (W.rangeAt bx 0 D ∧ W.cell? ⟨bx, 35, none⟩ = some (.int .u64 tag) ∧ bx < W.heap.size ∧ Bel w W) → Bel W W' → (W'.rangeAt bx 0 D ∧ W'.cell? ⟨bx, 35, none⟩ = some (.int .u64 tag) ∧ bx < W'.heap.size ∧ Bel w W') from
    fun W W' h hb => ⟨fun j u hu => (Below.cell (p := ⟨bx, 0 + j, none⟩) hb h.2.2.1).trans (h.1 j u hu), (Below.cell (p := ⟨bx, 35, none⟩) hb h.2.2.1).trans h.2.1, Nat.lt_of_lt_of_le h.2.2.1 (Below.size hb), h.2.2.2.trans hb⟩)
  have S0d := KEEP.out _ _ S0 (Bel.refl W).drew
  have HW := Lib.hid hW
  have uA := Try.underlying29
  have iA : (Try.prog.info? 29).map (·.size) = some D.length := by rw [HDl.out]; exact info_att
  have HX := Lib.hid hbx
  clear hD hW hbk hbx
  go_enter Try.func11, Try.ntmps11
  go_upto_region 1 with fail
  rw [← HX.out, HW.out]
  refine wp_region_held_drew (S := fun w' => w'.rangeAt bx 0 D ∧ w'.cell? ⟨bx, 35, none⟩ = some (.int .u64 tag) ∧ bx < w'.heap.size ∧ Bel w w') (by kernel_rfl) S0d (fun hS0 => ?_)
  refine wpAnyH_take (i := 0) (oi := { dst := some 4, op := .load 29 (.tmp 1), type := 29, pos := "vote.go:19", after := #[], guard := none }) (v := .agg D.toArray) rfl (by kernel_rfl) (by kernel_rfl) (by kernel_rfl) (fun _ _ _ h => h) (yieldsIf_load_mid (by rfl) _ _ rfl _ _ rfl _ _ (fun w h => h.1) uA rfl iA) hS0 ?_
  try simp only [Act.put, List.setIfInBounds_toArray, List.set_cons_zero, List.set_cons_succ]
  refine wpAnyH_take (i := 2) (oi := { dst := some 6, op := .fieldAddr 29 (.tmp 1) 4, type := 0, pos := "vote.go:19", after := #[], guard := none }) (v := .pointer (some ⟨bx, 35, none⟩)) rfl (by kernel_rfl) (by kernel_rfl) (by kernel_rfl) (fun _ _ _ h => h) (Or.inl ⟨by rfl, by intro w hSw; clear hSw; go_simp⟩) hS0 ?_
  try simp only [Act.put, List.setIfInBounds_toArray, List.set_cons_zero, List.set_cons_succ]
  refine wpAnyH_take (i := 3) (oi := { dst := some 7, op := .load 27 (.tmp 6), type := 27, pos := "vote.go:19", after := #[{ on := 2, ground := .data }], guard := none }) (v := .int .u64 tag) rfl (by kernel_rfl) (by kernel_rfl) (by kernel_rfl) (fun _ _ _ h => h) (Or.inl ⟨by rfl, by intro w h; have hcell := (h.2.1); clear h; go_simp⟩) hS0 ?_
  try simp only [Act.put, List.setIfInBounds_toArray, List.set_cons_zero, List.set_cons_succ]
  refine wpAnyH_ready (rs := [1]) (by kernel_rfl) (by simp) ?_
  refine AllReadyH.cons (o := { dst := some 5, op := .call { callee := .value (.func 31), args := #[.tmp 4], argTypes := #[29] }, type := 58, pos := "vote.go:19", after := #[{ on := 0, ground := .data }], guard := none }) rfl (fun K hK => ?_) AllReadyH.nil
  go_simp
  refine (AM.out _).mono ?_
  rintro e v1 ⟨ca, -, rfl, ra, la, ka⟩
  go_wp2_with fail
  refine hK.out _ _ (KEEP.out _ _ hS0 ka) (fun hS1 => ?_)
  clear hK K
  try simp only [Act.put, List.setIfInBounds_toArray, List.set_cons_zero, List.set_cons_succ]
  have P1 := Lib.hid (AP.out v1 ca ra la)
  refine wpAnyH_ready (rs := [4]) (by kernel_rfl) (by simp) ?_
  refine AllReadyH.cons (o := { dst := some 8, op := .call { callee := .value (.func 32), args := #[.tmp 7], argTypes := #[27] }, type := 58, pos := "vote.go:19", after := #[{ on := 3, ground := .data }, { on := 1, ground := .chain }], guard := none }) rfl (fun K hK => ?_) AllReadyH.nil
  go_simp
  refine (TM.out _).mono ?_
  rintro e v2 ⟨ct, -, rfl, rt, lt, kt⟩
  go_wp2_with fail
  refine hK.out _ _ (KEEP.out _ _ hS1 kt) (fun hS2 => ?_)
  clear hK K
  try simp only [Act.put, List.setIfInBounds_toArray, List.set_cons_zero, List.set_cons_succ]
  have P1 := Lib.hid (P1.out.bel kt)
  have P2 := Lib.hid (TP.out v2 ct (rt 0 _ rfl) lt)
  refine wpAnyH_ready (rs := [5]) (by kernel_rfl) (by simp) ?_
  refine AllReadyH.cons (o := { dst := some 9, op := .buildSlice 79 2 #[(0, .tmp 5), (1, .tmp 8)], type := 79, pos := "vote.go:19", after := #[{ on := 1, ground := .data }, { on := 4, ground := .data }], guard := none }) rfl (fun K hK => ?_) AllReadyH.nil
  go_simp
  refine hK.out _ _ (KEEP.out _ _ hS2 ((Bel.refl _).alloc _)) (fun hS3 => ?_)
  clear hK K
  try simp only [Act.put, List.setIfInBounds_toArray, List.set_cons_zero, List.set_cons_succ]
  obtain ⟨g, hg⟩ : ∃ g, g = v2.heap.size := ⟨_, rfl⟩
  obtain ⟨v3, hv3⟩ : ∃ v3, v2.alloc (.cells #[cap 50 [ca], cap 59 [ct]] 58) = v3 := ⟨_, rfl⟩
  rw [hv3, ← hg]
  rw [hv3] at hS3
  have HE := Lib.hid (encode2 v2 v3 g _ _ _ _ P1.out P2.out hv3 hg HL.out)
  clear hv3 hg P1 P2 ra la ka rt lt kt
  obtain ⟨E, hE⟩ : ∃ E, E = errOf (attI v s t hs ++ tagI tag) := ⟨_, rfl⟩
  have HE2 := Lib.hid hE
  rw [← hE] at HE
  clear hE
  refine wpAnyH_ready (rs := [6]) (by kernel_rfl) (by simp) ?_
  refine AllReadyH.cons (o := { dst := some 10, op := .call { callee := .value (.func 30), args := #[.tmp 9], argTypes := #[79] }, type := 41, pos := "vote.go:19", after := #[{ on := 5, ground := .data }, { on := 4, ground := .chain }], guard := none }) rfl (fun K hK => ?_) AllReadyH.nil
  go_simp
  refine (HE.out).mono ?_
  rintro e v4 ⟨u, rfl, hu⟩
  go_wp2_with fail
  refine hK.out _ _ (KEEP.out _ _ hS3 hu.1) (fun hS4 => ?_)
  clear hK K
  try simp only [Act.put, List.setIfInBounds_toArray, List.set_cons_zero, List.set_cons_succ]
  have HU := Lib.hid (hu.low hS3.2.2.2)
  clear hu
  refine wpAnyH_take (i := 7) (oi := { dst := some 11, op := .extract (.tmp 10) 0, type := 22, pos := "vote.go:19", after := #[{ on := 6, ground := .data }], guard := none }) (v := u) rfl (by kernel_rfl) (by kernel_rfl) (by kernel_rfl) (fun _ _ _ h => h) (Or.inl ⟨by rfl, by intro w hSw; clear hSw; go_simp⟩) hS4 ?_
  try simp only [Act.put, List.setIfInBounds_toArray, List.set_cons_zero, List.set_cons_succ]
  refine wpAnyH_take (i := 8) (oi := { dst := some 12, op := .extract (.tmp 10) 1, type := 30, pos := "vote.go:19", after := #[{ on := 6, ground := .data }], guard := none }) (v := .int .i64 E) rfl (by kernel_rfl) (by kernel_rfl) (by kernel_rfl) (fun _ _ _ h => h) (Or.inl ⟨by rfl, by intro w hSw; clear hSw; go_simp⟩) hS4 ?_
  try simp only [Act.put, List.setIfInBounds_toArray, List.set_cons_zero, List.set_cons_succ]
  refine wpAnyH_take (i := 9) (oi := { dst := some 2, op := .assign (.tmp 11), type := 22, pos := "vote.go:19", after := #[{ on := 7, ground := .data }, { on := 6, ground := .chain }, { on := 0, ground := .phase }, { on := 1, ground := .phase }, { on := 2, ground := .phase }, { on := 3, ground := .phase }, { on := 4, ground := .phase }, { on := 5, ground := .phase }, { on := 6, ground := .phase }, { on := 7, ground := .phase }, { on := 8, ground := .phase }], guard := none }) (v := u) rfl (by kernel_rfl) (by kernel_rfl) (by kernel_rfl) (fun _ _ _ h => h) (Or.inl ⟨by rfl, by intro w hSw; clear hSw; go_simp⟩) hS4 ?_
  try simp only [Act.put, List.setIfInBounds_toArray, List.set_cons_zero, List.set_cons_succ]
  refine wpAnyH_take (i := 10) (oi := { dst := some 3, op := .assign (.tmp 12), type := 30, pos := "vote.go:19", after := #[{ on := 8, ground := .data }, { on := 9, ground := .chain }, { on := 0, ground := .phase }, { on := 1, ground := .phase }, { on := 2, ground := .phase }, { on := 3, ground := .phase }, { on := 4, ground := .phase }, { on := 5, ground := .phase }, { on := 6, ground := .phase }, { on := 7, ground := .phase }, { on := 8, ground := .phase }, { on := 9, ground := .phase }], guard := none }) (v := .int .i64 E) rfl (by kernel_rfl) (by kernel_rfl) (by kernel_rfl) (fun _ _ _ h => h) (Or.inl ⟨by rfl, by intro w hSw; clear hSw; go_simp⟩) hS4 ?_
  try simp only [Act.put, List.setIfInBounds_toArray, List.set_cons_zero, List.set_cons_succ]
  refine wpAnyH_done (by kernel_rfl) ?_ _
  go_wp2
  go_ret2
  exact ⟨u, by rw [HE2.out]; rfl, HU.out⟩

set_option maxRecDepth 100000 in
set_option maxHeartbeats 4000000 in
theorem bytesB (v s tag : Int) (hs : List Int) (w : World) (h32 : hs.length = 32) (t0 : 0 ≤ tag) (t1 : tag ≤ 18446744073709551615) :
    Calls Try.prog 13 #[.agg (propC v s hs tag).toArray] w fun e w' => ∃ u, e = .returned (.tuple #[u, .int .i64 (errOf (propI v s hs ++ tagI tag))]) ∧ EncR (propI v s hs ++ tagI tag) w u w' := by
  have AM := Lib.hid (fun W => propMade v s tag hs W)
  have TM := Lib.hid (fun W => tagMade tag W)
  have AP := Lib.hid (fun W ca h1 h2 => prop_part W ca v s tag hs h1 h2 h32)
  have TP := Lib.hid (fun W ca h1 h2 => tag_part W ca tag h1 h2 t0 t1)
  have HL := Lib.hid (propI_len (v := v) (s := s) (tag := tag) h32)
  obtain ⟨D, hD⟩ : ∃ D, D = propC v s hs tag := ⟨_, rfl⟩
  have HDl := Lib.hid (show D.length = 35 by rw [hD]; exact len_propC h32 v s tag)
  have HDt := Lib.hid (show D[34]? = some (.int .u64 tag) by rw [hD]; simp [propC, h32])
  rw [← hD] at AM AP ⊢
  obtain ⟨W, hW⟩ : ∃ W, w.alloc (.cells D.toArray 36) = W := ⟨_, rfl⟩
  obtain ⟨bx, hbx⟩ : ∃ bx, bx = w.heap.size := ⟨_, rfl⟩
  have HB := Lib.hid (show Bel w W by rw [← hW]; exact (Bel.refl w).alloc _)
  have hbk : Blk W bx D.toArray 36 := by rw [← hW, hbx]; exact Blk.new w _ _
  have S0 : W.rangeAt bx 0 D ∧ W.cell? ⟨bx, 34, none⟩ = some (.int .u64 tag) ∧ bx < W.heap.size ∧ Bel w W := ⟨range_blk hbk, hbk.cell 34 (by rw [List.getElem?_toArray]; exact HDt.out), by rw [← hW, hbx]; simp, HB.out⟩
  have KEEP := Lib.hid (show ∀ W W' : World, (W.rangeAt bx 0 D ∧ W.cell? ⟨bx, 34, none⟩ = some (.int .u64 tag) ∧ bx < W.heap.size ∧ Bel w W) → Bel W W' → (W'.rangeAt bx 0 D ∧ W'.cell? ⟨bx, 34, none⟩ = some (.int .u64 tag) ∧ bx < W'.heap.size ∧ Bel w W') from
    fun W W' h hb => ⟨fun j u hu => (Below.cell (p := ⟨bx, 0 + j, none⟩) hb h.2.2.1).trans (h.1 j u hu), (Below.cell (p := ⟨bx, 34, none⟩) hb h.2.2.1).trans h.2.1, Nat.lt_of_lt_of_le h.2.2.1 (Below.size hb), h.2.2.2.trans hb⟩)
  have S0d := KEEP.out _ _ S0 (Bel.refl W).drew
  have HW := Lib.hid hW
  have uA := Try.underlying36
  have iA : (Try.prog.info? 36).map (·.size) = some D.length := by rw [HDl.out]; exact info_prop
  have HX := Lib.hid hbx
  clear hD hW hbk hbx
  go_enter Try.func13, Try.ntmps13
  go_upto_region 1 with fail
  rw [← HX.out, HW.out]
  refine wp_region_held_drew (S := fun w' => w'.rangeAt bx 0 D ∧ w'.cell? ⟨bx, 34, none⟩ = some (.int .u64 tag) ∧ bx < w'.heap.size ∧ Bel w w') (by kernel_rfl) S0d (fun hS0 => ?_)
  refine wpAnyH_take (i := 0) (oi := { dst := some 4, op := .load 36 (.tmp 1), type := 36, pos := "block.go:17", after := #[], guard := none }) (v := .agg D.toArray) rfl (by kernel_rfl) (by kernel_rfl) (by kernel_rfl) (fun _ _ _ h => h) (yieldsIf_load_mid (by rfl) _ _ rfl _ _ rfl _ _ (fun w h => h.1) uA rfl iA) hS0 ?_
  try simp only [Act.put, List.setIfInBounds_toArray, List.set_cons_zero, List.set_cons_succ]
  refine wpAnyH_take (i := 2) (oi := { dst := some 6, op := .fieldAddr 36 (.tmp 1) 3, type := 0, pos := "block.go:17", after := #[], guard := none }) (v := .pointer (some ⟨bx, 34, none⟩)) rfl (by kernel_rfl) (by kernel_rfl) (by kernel_rfl) (fun _ _ _ h => h) (Or.inl ⟨by rfl, by intro w hSw; clear hSw; go_simp⟩) hS0 ?_
  try simp only [Act.put, List.setIfInBounds_toArray, List.set_cons_zero, List.set_cons_succ]
  refine wpAnyH_take (i := 3) (oi := { dst := some 7, op := .load 27 (.tmp 6), type := 27, pos := "block.go:17", after := #[{ on := 2, ground := .data }], guard := none }) (v := .int .u64 tag) rfl (by kernel_rfl) (by kernel_rfl) (by kernel_rfl) (fun _ _ _ h => h) (Or.inl ⟨by rfl, by intro w h; have hcell := (h.2.1); clear h; go_simp⟩) hS0 ?_
  try simp only [Act.put, List.setIfInBounds_toArray, List.set_cons_zero, List.set_cons_succ]
  refine wpAnyH_ready (rs := [1]) (by kernel_rfl) (by simp) ?_
  refine AllReadyH.cons (o := { dst := some 5, op := .call { callee := .value (.func 33), args := #[.tmp 4], argTypes := #[36] }, type := 58, pos := "block.go:17", after := #[{ on := 0, ground := .data }], guard := none }) rfl (fun K hK => ?_) AllReadyH.nil
  go_simp
  refine (AM.out _).mono ?_
  rintro e v1 ⟨ca, -, rfl, ra, la, ka⟩
  go_wp2_with fail
  refine hK.out _ _ (KEEP.out _ _ hS0 ka) (fun hS1 => ?_)
  clear hK K
  try simp only [Act.put, List.setIfInBounds_toArray, List.set_cons_zero, List.set_cons_succ]
  have P1 := Lib.hid (AP.out v1 ca ra la)
  refine wpAnyH_ready (rs := [4]) (by kernel_rfl) (by simp) ?_
  refine AllReadyH.cons (o := { dst := some 8, op := .call { callee := .value (.func 32), args := #[.tmp 7], argTypes := #[27] }, type := 58, pos := "block.go:17", after := #[{ on := 3, ground := .data }, { on := 1, ground := .chain }], guard := none }) rfl (fun K hK => ?_) AllReadyH.nil
  go_simp
  refine (TM.out _).mono ?_
  rintro e v2 ⟨ct, -, rfl, rt, lt, kt⟩
  go_wp2_with fail
  refine hK.out _ _ (KEEP.out _ _ hS1 kt) (fun hS2 => ?_)
  clear hK K
  try simp only [Act.put, List.setIfInBounds_toArray, List.set_cons_zero, List.set_cons_succ]
  have P1 := Lib.hid (P1.out.bel kt)
  have P2 := Lib.hid (TP.out v2 ct (rt 0 _ rfl) lt)
  refine wpAnyH_ready (rs := [5]) (by kernel_rfl) (by simp) ?_
  refine AllReadyH.cons (o := { dst := some 9, op := .buildSlice 79 2 #[(0, .tmp 5), (1, .tmp 8)], type := 79, pos := "block.go:17", after := #[{ on := 1, ground := .data }, { on := 4, ground := .data }], guard := none }) rfl (fun K hK => ?_) AllReadyH.nil
  go_simp
  refine hK.out _ _ (KEEP.out _ _ hS2 ((Bel.refl _).alloc _)) (fun hS3 => ?_)
  clear hK K
  try simp only [Act.put, List.setIfInBounds_toArray, List.set_cons_zero, List.set_cons_succ]
  obtain ⟨g, hg⟩ : ∃ g, g = v2.heap.size := ⟨_, rfl⟩
  obtain ⟨v3, hv3⟩ : ∃ v3, v2.alloc (.cells #[cap 62 [ca], cap 59 [ct]] 58) = v3 := ⟨_, rfl⟩
  rw [hv3, ← hg]
  rw [hv3] at hS3
  have HE := Lib.hid (encode2 v2 v3 g _ _ _ _ P1.out P2.out hv3 hg HL.out)
  clear hv3 hg P1 P2 ra la ka rt lt kt
  obtain ⟨E, hE⟩ : ∃ E, E = errOf (propI v s hs ++ tagI tag) := ⟨_, rfl⟩
  have HE2 := Lib.hid hE
  rw [← hE] at HE
  clear hE
  refine wpAnyH_ready (rs := [6]) (by kernel_rfl) (by simp) ?_
  refine AllReadyH.cons (o := { dst := some 10, op := .call { callee := .value (.func 30), args := #[.tmp 9], argTypes := #[79] }, type := 41, pos := "block.go:17", after := #[{ on := 5, ground := .data }, { on := 4, ground := .chain }], guard := none }) rfl (fun K hK => ?_) AllReadyH.nil
  go_simp
  refine (HE.out).mono ?_
  rintro e v4 ⟨u, rfl, hu⟩
  go_wp2_with fail
  refine hK.out _ _ (KEEP.out _ _ hS3 hu.1) (fun hS4 => ?_)
  clear hK K
  try simp only [Act.put, List.setIfInBounds_toArray, List.set_cons_zero, List.set_cons_succ]
  have HU := Lib.hid (hu.low hS3.2.2.2)
  clear hu
  refine wpAnyH_take (i := 7) (oi := { dst := some 11, op := .extract (.tmp 10) 0, type := 22, pos := "block.go:17", after := #[{ on := 6, ground := .data }], guard := none }) (v := u) rfl (by kernel_rfl) (by kernel_rfl) (by kernel_rfl) (fun _ _ _ h => h) (Or.inl ⟨by rfl, by intro w hSw; clear hSw; go_simp⟩) hS4 ?_
  try simp only [Act.put, List.setIfInBounds_toArray, List.set_cons_zero, List.set_cons_succ]
  refine wpAnyH_take (i := 8) (oi := { dst := some 12, op := .extract (.tmp 10) 1, type := 30, pos := "block.go:17", after := #[{ on := 6, ground := .data }], guard := none }) (v := .int .i64 E) rfl (by kernel_rfl) (by kernel_rfl) (by kernel_rfl) (fun _ _ _ h => h) (Or.inl ⟨by rfl, by intro w hSw; clear hSw; go_simp⟩) hS4 ?_
  try simp only [Act.put, List.setIfInBounds_toArray, List.set_cons_zero, List.set_cons_succ]
  refine wpAnyH_take (i := 9) (oi := { dst := some 2, op := .assign (.tmp 11), type := 22, pos := "block.go:17", after := #[{ on := 7, ground := .data }, { on := 6, ground := .chain }, { on := 0, ground := .phase }, { on := 1, ground := .phase }, { on := 2, ground := .phase }, { on := 3, ground := .phase }, { on := 4, ground := .phase }, { on := 5, ground := .phase }, { on := 6, ground := .phase }, { on := 7, ground := .phase }, { on := 8, ground := .phase }], guard := none }) (v := u) rfl (by kernel_rfl) (by kernel_rfl) (by kernel_rfl) (fun _ _ _ h => h) (Or.inl ⟨by rfl, by intro w hSw; clear hSw; go_simp⟩) hS4 ?_
  try simp only [Act.put, List.setIfInBounds_toArray, List.set_cons_zero, List.set_cons_succ]
  refine wpAnyH_take (i := 10) (oi := { dst := some 3, op := .assign (.tmp 12), type := 30, pos := "block.go:17", after := #[{ on := 8, ground := .data }, { on := 9, ground := .chain }, { on := 0, ground := .phase }, { on := 1, ground := .phase }, { on := 2, ground := .phase }, { on := 3, ground := .phase }, { on := 4, ground := .phase }, { on := 5, ground := .phase }, { on := 6, ground := .phase }, { on := 7, ground := .phase }, { on := 8, ground := .phase }, { on := 9, ground := .phase }], guard := none }) (v := .int .i64 E) rfl (by kernel_rfl) (by kernel_rfl) (by kernel_rfl) (fun _ _ _ h => h) (Or.inl ⟨by rfl, by intro w hSw; clear hSw; go_simp⟩) hS4 ?_
  try simp only [Act.put, List.setIfInBounds_toArray, List.set_cons_zero, List.set_cons_succ]
  refine wpAnyH_done (by kernel_rfl) ?_ _
  go_wp2
  go_ret2
  exact ⟨u, by rw [HE2.out]; rfl, HU.out⟩
end Vt
end Go.Proofs.Ytgalhpejihmhkaa
end

section
/-
  What vote.digest, Digest and DigestBlock answer. Conditions: a root has 32 bytes; the table of turns lies in its variable.
-/
namespace Go.Proofs.Ytgalhpejihmhkaa
open Go.RowKit Go.Shelf
set_option linter.unusedVariables false
namespace Vt
open Kk

theorem results_ct {fn : Func} {p q : Tmp} {tp : TypeId} (h : fn.results = #[.cell p tp, .tmp q]) (tmps : Array Value) (w : World) (a : Addr) (X U : Value)
    (hp : tmps.getD p undef = .pointer (some a)) (hq : tmps.getD q undef = U) (hX : (loadVar tp a).run Try.prog w = .ok X w) :
    (results fn tmps).run Try.prog w = .ok (.tuple #[X, U]) w := by
  have hp' : tmps[p]?.getD undef = .pointer (some a) := by simpa using hp
  have hq' : tmps[q]?.getD undef = U := by simpa using hq
  simp [results, h, hp', hq', asAddr, hX]
abbrev Z32l : List Value := (List.replicate 32 (0 : Int)).map B8
/-- The hash that a part has: of its bytes, or none. -/
def dgV (its : List (Int × List Int)) : List Int := if errOf its = 0 then sumOf (bytesOf its) else List.replicate 32 0
theorem dgV_len (its : List (Int × List Int)) : (dgV its).length = 32 := by
  unfold dgV
  split
  · exact len_hashOf _
  · rfl

theorem err_attI (v s t : Int) (hs : List Int) : errOf (attI v s t hs) = chkE v s t := by
  by_cases h : chkE v s t = 0 <;> simp [errOf, h]
theorem err_propI (v s : Int) (hs : List Int) : errOf (propI v s hs) = chkBE v s := by
  by_cases h : chkBE v s = 0 <;> simp [errOf, h]
theorem err_attT (v s t tag : Int) (hs : List Int) : errOf (attI v s t hs ++ tagI tag) = chkE v s t := by
  by_cases h : chkE v s t = 0 <;> simp [errOf, h]
theorem err_propT (v s tag : Int) (hs : List Int) : errOf (propI v s hs ++ tagI tag) = chkBE v s := by
  by_cases h : chkBE v s = 0 <;> simp [errOf, h]
theorem by_attI {v s t : Int} {hs : List Int} (hb : By hs) (h : errOf (attI v s t hs) = 0) : By (bytesOf (attI v s t hs)) := by
  rw [err_attI] at h
  have B := chk_ok h
  intro z hz
  simp only [bytesOf, List.flatMap_cons, List.flatMap_nil, List.append_nil, List.nil_append, List.mem_append] at hz
  rcases hz with hz | hz | hz | hz | hz
  · exact Cd.enc_byte (by omega) (by omega) z hz
  · exact Cd.enc_byte (by omega) (by omega) z hz
  · exact Cd.enc_byte (by omega) (by omega) z hz
  · exact Cd.enc_byte (by omega) (by omega) z hz
  · exact hb z hz
theorem by_propI {v s : Int} {hs : List Int} (hb : By hs) (h : errOf (propI v s hs) = 0) : By (bytesOf (propI v s hs)) := by
  rw [err_propI] at h
  have B := chkB_ok h
  intro z hz
  simp only [bytesOf, List.flatMap_cons, List.flatMap_nil, List.append_nil, List.nil_append, List.mem_append] at hz
  rcases hz with hz | hz | hz | hz
  · exact Cd.enc_byte (by omega) (by omega) z hz
  · exact Cd.enc_byte (by omega) (by omega) z hz
  · exact Cd.enc_byte (by omega) (by omega) z hz
  · exact hb z hz
theorem attI_len2 {v s t : Int} {hs : List Int} (h32 : hs.length = 32) : (bytesOf (attI v s t hs)).length ≤ 1000 := by
  simp only [bytesOf, List.flatMap_cons, List.flatMap_nil, List.length_append, List.length_nil, h32]
  have h1 := enc_le 1; have h2 := enc_le v; have h3 := enc_le s; have h4 := enc_le t
  omega
theorem propI_len2 {v s : Int} {hs : List Int} (h32 : hs.length = 32) : (bytesOf (propI v s hs)).length ≤ 1000 := by
  simp only [bytesOf, List.flatMap_cons, List.flatMap_nil, List.length_append, List.length_nil, h32]
  have h1 := enc_le 2; have h2 := enc_le v; have h3 := enc_le s
  omega
/-- The cells of a hash, stored in a result's block. -/
theorem hs_facts (its : List (Int × List Int)) : ∃ Y : List Value, hsV (dgV its) = .agg Y.toArray ∧ Y.length = 32 ∧ (∀ v ∈ Y, v.oneCell' = true) :=
  ⟨_, rfl, by rw [List.length_map]; exact dgV_len its, ints_b8 _⟩

end Vt
end Go.Proofs.Ytgalhpejihmhkaa
end

section
/-
  What the laws' helpers one, block and told answer. Condition: told takes two new rows.
-/
namespace Go.Proofs.Ytgalhpejihmhkaa
open Go.RowKit Go.Shelf
set_option linter.unusedVariables false
namespace Vt
open Kk

abbrev Z0 : List Int := List.replicate 32 0
theorem z0_len : Z0.length = 32 := rfl
theorem z0_by : By Z0 := fun z hz => by rw [List.eq_of_mem_replicate hz]; exact ⟨by decide, by decide⟩
theorem att_cells (v s t tag : Int) (hs : List Int) : ∀ u ∈ attC v s t hs tag, u.oneCell' = true := by
  intro u hu
  simp only [attC, List.mem_append, List.mem_cons, List.mem_map, List.not_mem_nil, or_false] at hu
  rcases hu with (rfl | rfl | rfl) | ⟨z, _, rfl⟩ | rfl <;> rfl
theorem prop_cells (v s tag : Int) (hs : List Int) : ∀ u ∈ propC v s hs tag, u.oneCell' = true := by
  intro u hu
  simp only [propC, List.mem_append, List.mem_cons, List.mem_map, List.not_mem_nil, or_false] at hu
  rcases hu with (rfl | rfl) | ⟨z, _, rfl⟩ | rfl <;> rfl
/-- New memory for an attestation, for a proposal. -/
abbrev Z36 : Obj := .cells #[.int .i64 0, .int .i64 0, .int .i64 0, .int .u8 0, .int .u8 0, .int .u8 0, .int .u8 0, .int .u8 0, .int .u8 0, .int .u8 0, .int .u8 0, .int .u8 0, .int .u8 0, .int .u8 0, .int .u8 0, .int .u8 0, .int .u8 0, .int .u8 0, .int .u8 0, .int .u8 0, .int .u8 0, .int .u8 0, .int .u8 0, .int .u8 0, .int .u8 0, .int .u8 0, .int .u8 0, .int .u8 0, .int .u8 0, .int .u8 0, .int .u8 0, .int .u8 0, .int .u8 0, .int .u8 0, .int .u8 0, .int .u64 0] 29
abbrev Z35 : Obj := .cells #[.int .i64 0, .int .i64 0, .int .u8 0, .int .u8 0, .int .u8 0, .int .u8 0, .int .u8 0, .int .u8 0, .int .u8 0, .int .u8 0, .int .u8 0, .int .u8 0, .int .u8 0, .int .u8 0, .int .u8 0, .int .u8 0, .int .u8 0, .int .u8 0, .int .u8 0, .int .u8 0, .int .u8 0, .int .u8 0, .int .u8 0, .int .u8 0, .int .u8 0, .int .u8 0, .int .u8 0, .int .u8 0, .int .u8 0, .int .u8 0, .int .u8 0, .int .u8 0, .int .u8 0, .int .u8 0, .int .u64 0] 36

set_option maxRecDepth 100000 in
set_option maxHeartbeats 1000000 in
theorem one (w : World) : Calls Try.prog 12 #[] w fun e w' => e = .returned (.agg (attC 1 2 3 Z0 5).toArray) ∧ Bel w w' := by
  obtain ⟨Y, hY⟩ : ∃ Y, Y = attC 1 2 3 Z0 5 := ⟨_, rfl⟩
  have HYl := Lib.hid (show Y.length = 36 by rw [hY]; rfl)
  have HYs := Lib.hid (show Y.toArray.size = 36 by rw [List.size_toArray]; exact HYl.out)
  have HYo := Lib.hid (all_oneCell_toArray (cs := Y) (by rw [hY]; exact att_cells _ _ _ _ _))
  have HYi := Lib.hid (show (Try.prog.info? 29).map (·.size) = some Y.toArray.size by rw [HYs.out]; exact info_att)
  have YI := Lib.hid (show (Try.prog.info? 29).map (·.size) = some Y.length by rw [HYl.out]; exact info_att)
  obtain ⟨W, hW⟩ : ∃ W, w.alloc Z36 = W := ⟨_, rfl⟩
  obtain ⟨h, hh⟩ : ∃ h, h = w.heap.size := ⟨_, rfl⟩
  have TH := Lib.hid (show W.there h 0 Y.toArray.size by rw [HYs.out, ← hW, hh]; exact there_newK (by decide))
  have B0 := Lib.hid (show Bel w W by rw [← hW]; exact (Bel.refl w).alloc _)
  have HY := Lib.hid hY
  have HW := Lib.hid hW
  have HH := Lib.hid hh
  rw [← hY]
  clear hY hW hh
  go_enter Try.func12, Try.ntmps12
  go_upto_region 1 with fail
  rw [← HH.out, HW.out]
  go_wp2_with (refine wpList_store_mid rfl 29 (.tmp 0) (.tmp 1) rfl h 0 Y.toArray rfl (by rw [HY.out]; rfl) TH.out HYi.out HYo.out ?_)
  have RE : (W.setCells h 0 Y).rangeAt h 0 Y := World.rangeAt_setCells_same _ _ _ _ (by have := TH.out; rw [HYs.out] at this; rw [HYl.out]; exact this)
  refine bodyPost_ret (results_c1 Try.results12 _ _ ⟨h, 0, none⟩ (.agg Y.toArray) rfl (run_loadVar_mid (P := Try.prog) _ h 0 29 Y _ RE Try.underlying29 rfl YI.out)) rfl ⟨rfl, ?_⟩
  exact Kep.bel B0.out (kep_setCellsK h Y 0 _) (fun i hi => by have := HH.out; omega)

set_option maxRecDepth 100000 in
set_option maxHeartbeats 1000000 in
theorem block (w : World) : Calls Try.prog 14 #[] w fun e w' => e = .returned (.agg (propC 1 300 Z0 128).toArray) ∧ Bel w w' := by
  obtain ⟨Y, hY⟩ : ∃ Y, Y = propC 1 300 Z0 128 := ⟨_, rfl⟩
  have HYl := Lib.hid (show Y.length = 35 by rw [hY]; rfl)
  have HYs := Lib.hid (show Y.toArray.size = 35 by rw [List.size_toArray]; exact HYl.out)
  have HYo := Lib.hid (all_oneCell_toArray (cs := Y) (by rw [hY]; exact prop_cells _ _ _ _))
  have HYi := Lib.hid (show (Try.prog.info? 36).map (·.size) = some Y.toArray.size by rw [HYs.out]; exact info_prop)
  have YI := Lib.hid (show (Try.prog.info? 36).map (·.size) = some Y.length by rw [HYl.out]; exact info_prop)
  obtain ⟨W, hW⟩ : ∃ W, w.alloc Z35 = W := ⟨_, rfl⟩
  obtain ⟨h, hh⟩ : ∃ h, h = w.heap.size := ⟨_, rfl⟩
  have TH := Lib.hid (show W.there h 0 Y.toArray.size by rw [HYs.out, ← hW, hh]; exact there_newK (by decide))
  have B0 := Lib.hid (show Bel w W by rw [← hW]; exact (Bel.refl w).alloc _)
  have HY := Lib.hid hY
  have HW := Lib.hid hW
  have HH := Lib.hid hh
  rw [← hY]
  clear hY hW hh
  go_enter Try.func14, Try.ntmps14
  go_upto_region 1 with fail
  rw [← HH.out, HW.out]
  go_wp2_with (refine wpList_store_mid rfl 36 (.tmp 0) (.tmp 1) rfl h 0 Y.toArray rfl (by rw [HY.out]; rfl) TH.out HYi.out HYo.out ?_)
  have RE : (W.setCells h 0 Y).rangeAt h 0 Y := World.rangeAt_setCells_same _ _ _ _ (by have := TH.out; rw [HYs.out] at this; rw [HYl.out]; exact this)
  refine bodyPost_ret (results_c1 Try.results14 _ _ ⟨h, 0, none⟩ (.agg Y.toArray) rfl (run_loadVar_mid (P := Try.prog) _ h 0 36 Y _ RE Try.underlying36 rfl YI.out)) rfl ⟨rfl, ?_⟩
  exact Kep.bel B0.out (kep_setCellsK h Y 0 _) (fun i hi => by have := HH.out; omega)

theorem zeroCells_u8 (k : Nat) : (Builtin.zeroCells (Value.int .u8 0).cells k).toList = (List.replicate k (0 : Int)).map (Value.int .u8) := by
  apply List.ext_getElem
  · simp [Builtin.zeroCells, Value.cells]
  · intro i h1 h2
    simp [Builtin.zeroCells, Value.cells]
    rw [Nat.mod_one]
    rfl
theorem grow32 (g n : Nat) (xs : List Int) (w : World) (h : Sl w (some ⟨g, 0, none⟩) n n xs) (hn : n ≤ 100) :
    ∃ v' w', (Builtin.append_ #[22, 3] 22 #[.slice (some ⟨g, 0, none⟩) n n, .int .i64 32]).run Try.prog w = .ok v' w' ∧ w'.ownsRow w.heap.size 5 1 v' (n + 32) ((xs ++ Z0).map (Value.int .u8)) ∧ Bel w w' := by
  obtain ⟨i0, h1, hz0, hz1, hz2⟩ := info_parts Try.info_u8
  have hl : xs.length = n := h.ints.1
  have hf := run_firstCells_some (P := Try.prog) w.drew i0.size n ⟨g, 0, none⟩ n n (xs.map (Value.int .u8)) (by rw [List.length_map, hl, hz1, Nat.mul_one]) (fun j v hj => by
    have := Ints.news h.ints j v hj
    simpa using this)
  have hr := Lib.run_append_grow_zeros (P := Try.prog) w 22 3 22 5 i0 (.int .u8 0) .i64 .i64 Try.underlying22 Try.underlying3 h1 hz0 (some ⟨g, 0, none⟩) n n (xs.map (Value.int .u8)) hf 32 (by decide) (by omega) (by omega) (by omega) (by rw [hz2]; decide) (by
    rw [hz2]
    have : Builtin.nextslicecap (n + 32) n ≤ 1000 := by
      unfold Builtin.nextslicecap
      split
      · omega
      · split <;> omega
    omega)
  refine ⟨_, _, hr, ?_, ?_⟩
  · have hge := grownCap_ge w (n + 32) n 5
    refine ⟨by simp; omega, .inr ⟨w.heap.size, grownCap w (n + 32) n 5, _, rfl, Nat.le_refl _, heap_alloc_new w.drew _, hge, grownCap_le_maxLen w _ _ _ (by unfold maxLen; omega), ?_, ?_⟩⟩
    · simp only [Array.size_append, size_zeroCells, Value.cells, List.size_toArray, List.length_map]
      simp
      omega
    · rw [Array.toList_append, Array.toList_append, zeroCells_u8, zeroCells_u8, List.append_assoc, ← List.append_assoc, List.take_append_of_le_length (by simp; omega)]
      rw [List.take_of_length_le (by simp; omega)]
      simp
  · exact (Bel.refl w).drew.alloc _
set_option maxRecDepth 100000 in
set_option maxHeartbeats 1000000 in
theorem told (g1 g2 n m : Nat) (xs ys : List Int) (w : World) (h1 : Sl w (some ⟨g1, 0, none⟩) n n xs) (h2 : Sl w (some ⟨g2, 0, none⟩) m m ys) (hn : n ≤ 100) (hm : m ≤ 100) :
    Calls Try.prog 16 #[.slice (some ⟨g1, 0, none⟩) n n, .slice (some ⟨g2, 0, none⟩) m m] w fun e w' => ∃ A c, e = .returned (.slice A (n + 32 + m) c) ∧ Sl w' A (n + 32 + m) c (xs ++ Z0 ++ ys) ∧ Bel w w' := by
  obtain ⟨v', w', hr, ho, hb⟩ := grow32 g1 n xs w h1 hn
  have HR := Lib.hid hr
  have HO := Lib.hid ho
  have HB := Lib.hid hb
  have H2 := Lib.hid (h2.bel hb)
  clear hr ho hb h1 h2
  go_enter Try.func16, Try.ntmps16
  go_wp2_with (first
    | (at_builtin; refine Lib.wpList_append_run w rfl _ _ _ _ rfl _ _ rfl rfl _ _ HR.out ?_)
    | (at_builtin; refine wpList_append_sl rfl _ _ rfl w.heap.size _ (n + 32) _ rfl HO.out (some ⟨g2, 0, none⟩) m m ys rfl H2.out (by omega) (Below.size HB.out) ?_; intro v2 w2 hown hgrow))
  go_ret
  obtain ⟨A, c, rfl, hs⟩ := sl_of_own (zs := xs ++ Z0 ++ ys) (by simpa using hown)
  exact ⟨A, c, rfl, hs, Bel.grown HB.out hgrow (fun i e => (HO.out.lt i e).1)⟩
end Vt
end Go.Proofs.Ytgalhpejihmhkaa
end

section
/-
  What vote.differ, Doubles, DoublesBlock and Surrounds answer. Conditions: roots have 32 bytes; the table of turns lies in its variable.
-/
namespace Go.Proofs.Ytgalhpejihmhkaa
open Go.RowKit Go.Shelf
set_option linter.unusedVariables false
namespace Vt
open Kk

theorem load_guarded {ops : Array Oper} {rest : List Oper} {op : Oper} {a : Act} {w : World} {Q : Exit → Act → World → Prop} (hw : Region.wanted op (yielded ops a.tmps) = true) (ty : TypeId) (x : Operand) (ho : op.op = .load ty x)
    (b o : Nat) (hx : a.eval x = .pointer (some ⟨b, o, none⟩)) (cs : List Value) (d : TypeDesc) (hc : w.rangeAt b o cs)
    (hu : Try.prog.underlying ty = some d) (hd : d.isRow = true) (hi : (Try.prog.info? ty).map (·.size) = some cs.length)
    (h : wpList Try.prog ops Q rest (a.put op.dst (.agg cs.toArray)) w) : wpList Try.prog ops Q (op :: rest) a w :=
  wpList_step fun K hK => by
    rw [if_pos hw]
    exact wp_load_mid ty x ho b o hx cs d hc hu hd hi (hK _ _ h)
theorem put32 (w : World) (Y : List Value) (hl : Y.length = 32) : ((w.alloc Z32h).there w.heap.size 0 Y.toArray.size) ∧
    Bel w ((w.alloc Z32h).setCells w.heap.size 0 Y) ∧ ((w.alloc Z32h).setCells w.heap.size 0 Y).rangeAt w.heap.size 0 Y ∧ w.heap.size < ((w.alloc Z32h).setCells w.heap.size 0 Y).heap.size := by
  have t : (w.alloc Z32h).there w.heap.size 0 32 := there_newK (by decide)
  have e : Y.toArray.size = 32 := by rw [List.size_toArray]; exact hl
  refine ⟨by rw [e]; exact t, Kep.bel ((Bel.refl w).alloc _) (kep_setCellsK _ _ _ _) (fun i hi => by rw [hi]; exact Nat.le_refl _), World.rangeAt_setCells_same _ _ _ _ (by rw [hl]; exact t), by rw [size_setCells]; simp⟩
theorem range_up {w w' : World} {b o : Nat} {C : List Value} (h : w.rangeAt b o C) (hb : Bel w w') (hl : b < w.heap.size) : w'.rangeAt b o C := fun j u hu => (Below.cell (p := ⟨b, o + j, none⟩) hb hl).trans (h j u hu)
/-- Have two parts digests, and unlike ones? -/
def dif (A B : List (Int × List Int)) : Bool := (errOf A == 0) && ((errOf B == 0) && !(dgV A == dgV B))

end Vt
end Go.Proofs.Ytgalhpejihmhkaa
end

section
/-
  What vote.Surrounds answers. Condition: roots have 32 bytes.
-/
namespace Go.Proofs.Ytgalhpejihmhkaa
open Go.RowKit Go.Shelf
set_option linter.unusedVariables false
namespace Vt
open Kk

/-- Does one vote surround the other? -/
def sur (v1 s1 t1 v2 s2 t2 : Int) : Bool := (chkE v1 s1 t1 == 0) && ((chkE v2 s2 t2 == 0) && ((v1 == v2) && (decide (s1 < s2) && decide (t2 < t1))))
set_option maxRecDepth 100000 in
set_option maxHeartbeats 4000000 in
theorem surrounds (v1 s1 t1 g1 : Int) (h1 : List Int) (v2 s2 t2 g2 : Int) (h2 : List Int) (w : World) (l1 : h1.length = 32) (l2 : h2.length = 32) :
    Calls Try.prog 17 #[.agg (attC v1 s1 t1 h1 g1).toArray, .agg (attC v2 s2 t2 h2 g2).toArray] w fun e w' => e = .returned (.bool (sur v1 s1 t1 v2 s2 t2)) ∧ Bel w w' := by
  have K1 := Lib.hid (fun W => check v1 s1 t1 g1 h1 W l1)
  have K2 := Lib.hid (fun W => check v2 s2 t2 g2 h2 W l2)
  have HS := Lib.hid (show sur v1 s1 t1 v2 s2 t2 = ((chkE v1 s1 t1 == 0) && ((chkE v2 s2 t2 == 0) && ((v1 == v2) && (decide (s1 < s2) && decide (t2 < t1))))) from rfl)
  obtain ⟨C1, hC1⟩ : ∃ D, D = attC v1 s1 t1 h1 g1 := ⟨_, rfl⟩
  obtain ⟨C2, hC2⟩ : ∃ D, D = attC v2 s2 t2 h2 g2 := ⟨_, rfl⟩
  obtain ⟨E1, hE1⟩ : ∃ E, E = chkE v1 s1 t1 := ⟨_, rfl⟩
  obtain ⟨E2, hE2⟩ : ∃ E, E = chkE v2 s2 t2 := ⟨_, rfl⟩
  obtain ⟨R, hR⟩ : ∃ R, R = sur v1 s1 t1 v2 s2 t2 := ⟨_, rfl⟩
  have L1 := Lib.hid (show C1.length = 36 by rw [hC1]; exact len_attC l1 v1 s1 t1 g1)
  have L2 := Lib.hid (show C2.length = 36 by rw [hC2]; exact len_attC l2 v2 s2 t2 g2)
  have a1 : C1[0]? = some (.int .i64 v1) := by rw [hC1]; rfl
  have a2 : C2[0]? = some (.int .i64 v2) := by rw [hC2]; rfl
  have c1 : C1[1]? = some (.int .i64 s1) := by rw [hC1]; rfl
  have c2 : C2[1]? = some (.int .i64 s2) := by rw [hC2]; rfl
  have d1 : C1[2]? = some (.int .i64 t1) := by rw [hC1]; rfl
  have d2 : C2[2]? = some (.int .i64 t2) := by rw [hC2]; rfl
  rw [← hC1, ← hE1] at K1
  rw [← hC2, ← hE2] at K2
  rw [← hE1, ← hE2, ← hR] at HS
  rw [← hC1, ← hC2, ← hR]
  clear hC1 hC2 hE1 hE2 hR l1 l2
  obtain ⟨b1, hb1⟩ : ∃ b, b = w.heap.size := ⟨_, rfl⟩
  obtain ⟨b2, hb2⟩ : ∃ b, b = w.heap.size + 1 := ⟨_, rfl⟩
  obtain ⟨W1, hW1⟩ : ∃ W, w.alloc (.cells C1.toArray 29) = W := ⟨_, rfl⟩
  obtain ⟨W, hW⟩ : ∃ W, W1.alloc (.cells C2.toArray 29) = W := ⟨_, rfl⟩
  have z1 : W1.heap.size = w.heap.size + 1 := by rw [← hW1]; simp
  have z2 : W.heap.size = w.heap.size + 2 := by rw [← hW]; simp; exact z1
  have k1 : Bel w W1 := by rw [← hW1]; exact (Bel.refl w).alloc _
  have k2 : Bel W1 W := by rw [← hW]; exact (Bel.refl W1).alloc _
  have hbk1 : Blk W b1 C1.toArray 29 := by
    have hbk : Blk W1 b1 C1.toArray 29 := by rw [← hW1, hb1]; exact Blk.new w _ _
    exact hbk.bel k2
  have hbk2 : Blk W b2 C2.toArray 29 := by rw [← hW, hb2, ← z1]; exact Blk.new W1 _ _
  have CL := Lib.hid (show ∀ X, Bel W X → X.rangeAt b2 0 C2 ∧ X.cell? ⟨b1, 0, none⟩ = some (.int .i64 v1) ∧ X.cell? ⟨b2, 0, none⟩ = some (.int .i64 v2) ∧ X.cell? ⟨b1, 1, none⟩ = some (.int .i64 s1) ∧ X.cell? ⟨b2, 1, none⟩ = some (.int .i64 s2) ∧ X.cell? ⟨b1, 2, none⟩ = some (.int .i64 t1) ∧ X.cell? ⟨b2, 2, none⟩ = some (.int .i64 t2) from fun X hX =>
    ⟨range_blk (hbk2.bel hX), (hbk1.bel hX).cell 0 (by rw [List.getElem?_toArray]; exact a1), (hbk2.bel hX).cell 0 (by rw [List.getElem?_toArray]; exact a2), (hbk1.bel hX).cell 1 (by rw [List.getElem?_toArray]; exact c1), (hbk2.bel hX).cell 1 (by rw [List.getElem?_toArray]; exact c2), (hbk1.bel hX).cell 2 (by rw [List.getElem?_toArray]; exact d1), (hbk2.bel hX).cell 2 (by rw [List.getElem?_toArray]; exact d2)⟩)
  have R1 := Lib.hid (show W.rangeAt b1 0 C1 from range_blk hbk1)
  have B0 := Lib.hid (k1.trans k2)
  have HW1 := Lib.hid hW1
  have HW := Lib.hid hW
  have X1 := Lib.hid hb1
  have X2 := Lib.hid hb2
  clear hb1 hb2 hW1 hW z1 z2 k1 k2 hbk1 hbk2 a1 a2 c1 c2 d1 d2
  go_enter Try.func17, Try.ntmps17
  go_upto_region 1 with fail
  rw [← X2.out, ← X1.out, HW1.out, HW.out]
  go_wp2_with (refine wpList_load_mid rfl 29 (.tmp 2) rfl b1 0 rfl C1 _ R1.out Try.underlying29 rfl (by rw [L1.out]; exact info_att) ?_)
  refine (K1.out W).mono ?_
  rintro e w2 ⟨rfl, m2⟩
  have M2 := Lib.hid (show Bel W w2 from m2)
  clear m2 K1 R1
  by_cases e1 : E1 = 0
  case neg =>
    have f1 : (E1 == 0) = false := by rw [beq_eq_false_iff_ne]; exact e1
    have HZ := Lib.hid (show R = false by rw [HS.out, f1, Bool.false_and])
    clear e1 HS
    go_wp2
    go_ret
    exact ⟨by rw [HZ.out]; rfl, B0.out.trans M2.out⟩
  subst e1
  obtain ⟨hr, x1, x2, x3, x4, x5, x6⟩ := CL.out w2 M2.out
  have HR := Lib.hid hr
  clear hr x1 x2 x3 x4 x5 x6
  go_wp2_with (refine load_guarded (by rfl) 29 (.tmp 3) rfl b2 0 rfl C2 _ HR.out Try.underlying29 rfl (by rw [L2.out]; exact info_att) ?_)
  refine (K2.out w2).mono ?_
  rintro e w3 ⟨rfl, m3⟩
  have M3 := Lib.hid (M2.out.trans (show Bel w2 w3 from m3))
  clear m3 K2 HR
  by_cases e2 : E2 = 0
  case neg =>
    have f1 : (E2 == 0) = false := by rw [beq_eq_false_iff_ne]; exact e2
    have HZ := Lib.hid (show R = false by rw [HS.out, f1, Bool.false_and, Bool.and_false])
    clear e2 HS
    go_wp2
    go_ret
    exact ⟨by rw [HZ.out]; rfl, B0.out.trans M3.out⟩
  subst e2
  obtain ⟨hr, x1, x2, x3, x4, x5, x6⟩ := CL.out w3 M3.out
  clear hr
  by_cases e3 : v1 = v2
  case neg =>
    have f1 : (v1 == v2) = false := by rw [beq_eq_false_iff_ne]; exact e3
    have HZ := Lib.hid (show R = false by rw [HS.out, f1, Bool.false_and, Bool.and_false, Bool.and_false])
    clear e3 HS
    go_wp2
    go_ret
    exact ⟨by rw [HZ.out]; rfl, B0.out.trans M3.out⟩
  subst e3
  by_cases e4 : s1 < s2
  case neg =>
    have HZ := Lib.hid (show R = false by rw [HS.out, decide_eq_false e4]; simp)
    clear HS
    go_wp2
    go_ret
    exact ⟨by rw [HZ.out]; rfl, B0.out.trans M3.out⟩
  by_cases e5 : t2 < t1
  case neg =>
    have HZ := Lib.hid (show R = false by rw [HS.out, decide_eq_false e5]; simp)
    clear HS
    go_wp2
    go_ret
    exact ⟨by rw [HZ.out]; simp; omega, B0.out.trans M3.out⟩
  have HZ := Lib.hid (show R = true by rw [HS.out, decide_eq_true e4, decide_eq_true e5]; simp)
  clear HS
  go_wp2
  go_ret
  exact ⟨by rw [HZ.out]; rfl, B0.out.trans M3.out⟩
end Vt
end Go.Proofs.Ytgalhpejihmhkaa
end

section
/-
  The walk of awake: it returns true. No condition.
-/
namespace Go.Proofs.Ytgalhpejihmhkaa
open Go.RowKit Go.Shelf
set_option linter.unusedVariables false
namespace Vt
open Kk

theorem two_new (w : World) (xs ys : List Int) :
    Sl ((w.alloc (.cells (xs.map (Value.int .u8)).toArray 5)).alloc (.cells (ys.map (Value.int .u8)).toArray 5)) (some ⟨w.heap.size, 0, none⟩) xs.length xs.length xs ∧
    Sl ((w.alloc (.cells (xs.map (Value.int .u8)).toArray 5)).alloc (.cells (ys.map (Value.int .u8)).toArray 5)) (some ⟨w.heap.size + 1, 0, none⟩) ys.length ys.length ys ∧
    Bel w ((w.alloc (.cells (xs.map (Value.int .u8)).toArray 5)).alloc (.cells (ys.map (Value.int .u8)).toArray 5)) := by
  refine ⟨(sl_lit w xs).bel ((Bel.refl _).alloc _), ?_, ((Bel.refl _).alloc _).alloc _⟩
  have := sl_lit (w.alloc (.cells (xs.map (Value.int .u8)).toArray 5)) ys
  simpa using this
theorem toldA (g1 g2 : Nat) (w : World) (h1 : Sl w (some ⟨g1, 0, none⟩) 4 4 [1, 1, 2, 3]) (h2 : Sl w (some ⟨g2, 0, none⟩) 1 1 [5]) :
    Calls Try.prog 16 #[.slice (some ⟨g1, 0, none⟩) 4 4, .slice (some ⟨g2, 0, none⟩) 1 1] w fun e w' => ∃ A c, e = .returned (.slice A 37 c) ∧ Sl w' A 37 c ([1, 1, 2, 3] ++ Z0 ++ [5]) ∧ Bel w w' :=
  told g1 g2 4 1 _ _ w h1 h2 (by decide) (by decide)
theorem toldB (g1 g2 : Nat) (w : World) (h1 : Sl w (some ⟨g1, 0, none⟩) 4 4 [2, 1, 172, 2]) (h2 : Sl w (some ⟨g2, 0, none⟩) 2 2 [128, 1]) :
    Calls Try.prog 16 #[.slice (some ⟨g1, 0, none⟩) 4 4, .slice (some ⟨g2, 0, none⟩) 2 2] w fun e w' => ∃ A c, e = .returned (.slice A 38 c) ∧ Sl w' A 38 c ([2, 1, 172, 2] ++ Z0 ++ [128, 1]) ∧ Bel w w' :=
  told g1 g2 4 2 _ _ w h1 h2 (by decide) (by decide)
/-- What a vote that may be has: its bytes, in new memory. -/
theorem EncR.ok {all : List (Int × List Int)} {w w' : World} {u : Value} (h : EncR all w u w') (h0 : errOf all = 0) : ∃ A c, u = .slice A (bytesOf all).length c ∧ Sl w' A (bytesOf all).length c (bytesOf all) ∧ c ≤ maxLen ∧ ∀ x, A = some x → w.heap.size ≤ x.block := by
  rcases h.2 with ⟨h1, _⟩ | ⟨_, h2⟩
  · exact absurd h0 h1
  · obtain ⟨A, c, rfl, hs⟩ := sl_of_own h2
    obtain ⟨A', c', e, _, _, h4⟩ := ints_of_own h2
    injection e with e1 e2 e3
    subst e1
    subst e3
    refine ⟨A, c, rfl, hs, h4, fun x hx => ?_⟩
    subst hx
    rcases h2.2 with ⟨h5, _⟩ | ⟨g, cap, cur, h5, hb, _⟩
    · cases h5
    · injection h5 with h5
      injection h5 with h5
      subst h5
      exact hb
theorem bytes_one (w : World) : Calls Try.prog 11 #[.agg (attC 1 2 3 Z0 5).toArray] w fun e w' => ∃ A c, e = .returned (.tuple #[.slice A 37 c, .int .i64 0]) ∧ Sl w' A 37 c ([1, 1, 2, 3] ++ Z0 ++ [5]) ∧ Bel w w' :=
  (bytes 1 2 3 5 Z0 w rfl (by decide) (by decide)).mono fun e w' ⟨u, h, hr⟩ => by
    obtain ⟨A, c, rfl, hs, _⟩ := hr.ok (by decide)
    exact ⟨A, c, h, hs, hr.1⟩
theorem bytes_block (w : World) : Calls Try.prog 13 #[.agg (propC 1 300 Z0 128).toArray] w fun e w' => ∃ A c, e = .returned (.tuple #[.slice A 38 c, .int .i64 0]) ∧ Sl w' A 38 c ([2, 1, 172, 2] ++ Z0 ++ [128, 1]) ∧ Bel w w' :=
  (bytesB 1 300 128 Z0 w rfl (by decide) (by decide)).mono fun e w' ⟨u, h, hr⟩ => by
    obtain ⟨A, c, rfl, hs, _⟩ := hr.ok (by decide)
    exact ⟨A, c, h, hs, hr.1⟩

set_option maxRecDepth 100000 in
set_option maxHeartbeats 8000000 in
theorem awake (w : World) : Calls Try.prog 4 #[] w fun e w' => e = .returned (.bool true) ∧ Bel w w' := by
  have ONE := Lib.hid (fun W => one W)
  have BLK := Lib.hid (fun W => block W)
  have BO := Lib.hid (fun W => bytes_one W)
  have BB := Lib.hid (fun W => bytes_block W)
  have SU1 := Lib.hid (fun W => show Calls Try.prog 17 #[.agg (attC 1 1 4 Z0 0).toArray, .agg (attC 1 2 3 Z0 5).toArray] W fun e w' => e = .returned (.bool true) ∧ Bel W w' from surrounds 1 1 4 0 Z0 1 2 3 5 Z0 W rfl rfl)
  have SU2 := Lib.hid (fun W => show Calls Try.prog 17 #[.agg (attC 1 2 3 Z0 5).toArray, .agg (attC 1 1 4 Z0 0).toArray] W fun e w' => e = .returned (.bool false) ∧ Bel W w' from surrounds 1 2 3 5 Z0 1 1 4 0 Z0 W rfl rfl)
  obtain ⟨OC, hOC⟩ : ∃ Y, Y = attC 1 2 3 Z0 5 := ⟨_, rfl⟩
  obtain ⟨PC, hPC⟩ : ∃ Y, Y = propC 1 300 Z0 128 := ⟨_, rfl⟩
  obtain ⟨WC, hWC⟩ : ∃ Y, Y = attC 1 1 4 Z0 0 := ⟨_, rfl⟩
  rw [← hOC] at ONE BO SU1 SU2
  rw [← hPC] at BLK BB
  rw [← hWC] at SU1 SU2
  have HYl := Lib.hid (show WC.length = 36 by rw [hWC]; rfl)
  have HYs := Lib.hid (show WC.toArray.size = 36 by rw [List.size_toArray]; exact HYl.out)
  have HYo := Lib.hid (all_oneCell_toArray (cs := WC) (by rw [hWC]; exact att_cells _ _ _ _ _))
  have HYi := Lib.hid (show (Try.prog.info? 29).map (·.size) = some WC.toArray.size by rw [HYs.out]; exact info_att)
  have HY := Lib.hid hWC
  clear hOC hPC hWC
  go_enter Try.func4, Try.ntmps4
  go_wp2_with fail
  refine (ONE.out _).mono ?_
  rintro e w1 ⟨rfl, k1⟩
  have B1 := Lib.hid (show Bel w w1 from k1)
  clear k1
  go_wp2_with fail
  refine (BO.out _).mono ?_
  rintro e w2 ⟨A1, c1, rfl, s1, k2⟩
  have B2 := Lib.hid (B1.out.trans k2)
  have S1 := Lib.hid s1
  clear k2 s1
  go_wp2_with fail
  refine (BLK.out _).mono ?_
  rintro e w3 ⟨rfl, k3⟩
  have B3 := Lib.hid (B2.out.trans k3)
  have S1 := Lib.hid (S1.out.bel k3)
  clear k3
  go_wp2_with fail
  refine (BB.out _).mono ?_
  rintro e w4 ⟨A2, c2, rfl, s2, k4⟩
  have B4 := Lib.hid (B3.out.trans k4)
  have S1 := Lib.hid (S1.out.bel k4)
  have S2 := Lib.hid s2
  clear k4 s2
  obtain ⟨W, hW⟩ : ∃ W, w4.alloc Z36 = W := ⟨_, rfl⟩
  obtain ⟨h, hh⟩ : ∃ h, h = w4.heap.size := ⟨_, rfl⟩
  have TH := Lib.hid (show W.there h 0 WC.toArray.size by rw [HYs.out, ← hW, hh]; exact there_newK (by decide))
  have B5 := Lib.hid (show Bel w4 W by rw [← hW]; exact (Bel.refl w4).alloc _)
  have HW := Lib.hid hW
  have HH := Lib.hid hh
  clear hW hh
  go_upto_region 4 with (refine wpList_store_mid rfl 29 (.tmp 5) (.tmp 16) rfl w4.heap.size 0 WC.toArray rfl (by rw [HY.out]; rfl) (by rw [HW.out, ← HH.out]; exact TH.out) HYi.out HYo.out ?_)
  rw [HW.out, ← HH.out]
  obtain ⟨w5, hw5⟩ : ∃ w5, W.setCells h 0 WC = w5 := ⟨_, rfl⟩
  have RE : w5.rangeAt h 0 WC := by rw [← hw5]; exact World.rangeAt_setCells_same _ _ _ _ (by have := TH.out; rw [HYs.out] at this; rw [HYl.out]; exact this)
  have B6 : Bel w4 w5 := by rw [← hw5]; exact Kep.bel B5.out (kep_setCellsK h WC 0 _) (fun i hi => by have := HH.out; omega)
  have hlt : h < w5.heap.size := by
    have h1 : w5.heap.size = W.heap.size := by rw [← hw5, size_setCells]
    have h2 : W.heap.size = w4.heap.size + 1 := by rw [← HW.out]; simp
    have := HH.out
    omega
  have S0 : w5.rangeAt h 0 WC ∧ h < w5.heap.size ∧ Sl w5 A1 37 c1 ([1, 1, 2, 3] ++ Z0 ++ [5]) ∧ Sl w5 A2 38 c2 ([2, 1, 172, 2] ++ Z0 ++ [128, 1]) ∧ Bel w w5 := ⟨RE, hlt, S1.out.bel B6, S2.out.bel B6, B4.out.trans B6⟩
  have KEEP := Lib.hid (show ∀ W W' : World, (W.rangeAt h 0 WC ∧ h < W.heap.size ∧ Sl W A1 37 c1 ([1, 1, 2, 3] ++ Z0 ++ [5]) ∧ Sl W A2 38 c2 ([2, 1, 172, 2] ++ Z0 ++ [128, 1]) ∧ Bel w W) → Bel W W' → (W'.rangeAt h 0 WC ∧ h < W'.heap.size ∧ Sl W' A1 37 c1 ([1, 1, 2, 3] ++ Z0 ++ [5]) ∧ Sl W' A2 38 c2 ([2, 1, 172, 2] ++ Z0 ++ [128, 1]) ∧ Bel w W') from
    fun W W' h hb => ⟨range_up h.1 hb h.2.1, Nat.lt_of_lt_of_le h.2.1 (Below.size hb), h.2.2.1.bel hb, h.2.2.2.1.bel hb, h.2.2.2.2.trans hb⟩)
  have S0d := KEEP.out _ _ S0 (Bel.refl w5).drew
  have uA := Try.underlying29
  have iA : (Try.prog.info? 29).map (·.size) = some WC.length := by rw [HYl.out]; exact info_att
  rw [hw5]
  clear hw5 RE B6 hlt S1 S2 B1 B2 B3 B4 HY TH B5
  refine wp_region_held_drew (S := fun W => W.rangeAt h 0 WC ∧ h < W.heap.size ∧ Sl W A1 37 c1 ([1, 1, 2, 3] ++ Z0 ++ [5]) ∧ Sl W A2 38 c2 ([2, 1, 172, 2] ++ Z0 ++ [128, 1]) ∧ Bel w W) (by kernel_rfl) S0d (fun hS0 => ?_)
  obtain ⟨w6, hw6⟩ : ∃ w6, w5.drew = w6 := ⟨_, rfl⟩
  rw [hw6] at hS0 ⊢
  clear hw6 S0d S0
  refine wpAnyH_take (i := 0) (oi := { dst := some 17, op := .move (.tmp 2), type := 30, pos := "outright.go:26", after := #[], guard := none }) (v := .int .i64 0) rfl (by kernel_rfl) (by kernel_rfl) (by kernel_rfl) (fun _ _ _ h => h) (Or.inl ⟨by rfl, by intro w hSw; clear hSw; go_simp⟩) hS0 ?_
  try simp only [Act.put, List.setIfInBounds_toArray, List.set_cons_zero, List.set_cons_succ]
  refine wpAnyH_take (i := 1) (oi := { dst := some 18, op := .binOp .eql 30 (.tmp 17) (.const (Value.int IntKind.i64 0)) 30, type := 4, pos := "outright.go:26", after := #[{ on := 0, ground := .data }], guard := none }) (v := .bool true) rfl (by kernel_rfl) (by kernel_rfl) (by kernel_rfl) (fun _ _ _ h => h) (Or.inl ⟨by rfl, by intro w hSw; clear hSw; go_simp⟩) hS0 ?_
  try simp only [Act.put, List.setIfInBounds_toArray, List.set_cons_zero, List.set_cons_succ]
  refine wpAnyH_take (i := 2) (oi := { dst := some 19, op := .move (.tmp 18), type := 4, pos := "outright.go:26", after := #[{ on := 1, ground := .data }], guard := none }) (v := .bool true) rfl (by kernel_rfl) (by kernel_rfl) (by kernel_rfl) (fun _ _ _ h => h) (Or.inl ⟨by rfl, by intro w hSw; clear hSw; go_simp⟩) hS0 ?_
  try simp only [Act.put, List.setIfInBounds_toArray, List.set_cons_zero, List.set_cons_succ]
  refine wpAnyH_take (i := 3) (oi := { dst := some 20, op := .move (.tmp 4), type := 30, pos := "outright.go:26", after := #[{ on := 2, ground := .guard }], guard := some (2, true) }) (v := .int .i64 0) rfl (by kernel_rfl) (by kernel_rfl) (by kernel_rfl) (fun _ _ _ h => h) (Or.inl ⟨by rfl, by intro w hSw; clear hSw; go_simp⟩) hS0 ?_
  try simp only [Act.put, List.setIfInBounds_toArray, List.set_cons_zero, List.set_cons_succ]
  refine wpAnyH_take (i := 4) (oi := { dst := some 21, op := .binOp .eql 30 (.tmp 20) (.const (Value.int IntKind.i64 0)) 30, type := 4, pos := "outright.go:26", after := #[{ on := 3, ground := .data }, { on := 2, ground := .guard }], guard := some (2, true) }) (v := .bool true) rfl (by kernel_rfl) (by kernel_rfl) (by kernel_rfl) (fun _ _ _ h => h) (Or.inl ⟨by rfl, by intro w hSw; clear hSw; go_simp⟩) hS0 ?_
  try simp only [Act.put, List.setIfInBounds_toArray, List.set_cons_zero, List.set_cons_succ]
  refine wpAnyH_take (i := 5) (oi := { dst := some 22, op := .pick (.tmp 19) (.tmp 21) (.const (Value.bool false)), type := 4, pos := "outright.go:26", after := #[{ on := 2, ground := .data }, { on := 4, ground := .data }], guard := none }) (v := .bool true) rfl (by kernel_rfl) (by kernel_rfl) (by kernel_rfl) (fun _ _ _ h => h) (Or.inl ⟨by rfl, by intro w hSw; clear hSw; go_simp⟩) hS0 ?_
  try simp only [Act.put, List.setIfInBounds_toArray, List.set_cons_zero, List.set_cons_succ]
  refine wpAnyH_take (i := 6) (oi := { dst := some 23, op := .move (.tmp 22), type := 4, pos := "outright.go:26", after := #[{ on := 5, ground := .data }, { on := 2, ground := .chain }], guard := none }) (v := .bool true) rfl (by kernel_rfl) (by kernel_rfl) (by kernel_rfl) (fun _ _ _ h => h) (Or.inl ⟨by rfl, by intro w hSw; clear hSw; go_simp⟩) hS0 ?_
  try simp only [Act.put, List.setIfInBounds_toArray, List.set_cons_zero, List.set_cons_succ]
  refine wpAnyH_take (i := 7) (oi := { dst := some 24, op := .move (.tmp 1), type := 22, pos := "outright.go:26", after := #[{ on := 6, ground := .guard }], guard := some (6, true) }) (v := .slice A1 37 c1) rfl (by kernel_rfl) (by kernel_rfl) (by kernel_rfl) (fun _ _ _ h => h) (Or.inl ⟨by rfl, by intro w hSw; clear hSw; go_simp⟩) hS0 ?_
  try simp only [Act.put, List.setIfInBounds_toArray, List.set_cons_zero, List.set_cons_succ]
  refine wpAnyH_ready (rs := [8, 9]) (by kernel_rfl) (by simp) ?_
  refine AllReadyH.cons (o := { dst := some 25, op := .buildSlice 22 4 #[(0, .const (Value.int IntKind.u8 1)), (1, .const (Value.int IntKind.u8 1)), (2, .const (Value.int IntKind.u8 2)), (3, .const (Value.int IntKind.u8 3))], type := 22, pos := "outright.go:26", after := #[{ on := 6, ground := .guard }], guard := some (6, true) }) rfl (fun K hK => ?_) (AllReadyH.cons (o := { dst := some 26, op := .buildSlice 22 1 #[(0, .const (Value.int IntKind.u8 5))], type := 22, pos := "outright.go:26", after := #[{ on := 6, ground := .guard }], guard := some (6, true) }) rfl (fun K hK => ?_) AllReadyH.nil)
  all_goals first
  | (
    go_simp
    refine hK.out _ _ (KEEP.out _ _ hS0 ((Bel.refl _).alloc _)) (fun hSa => ?_)
    clear hK K
    try simp only [Act.put, List.setIfInBounds_toArray, List.set_cons_zero, List.set_cons_succ]
    refine wpAnyH_ready (rs := [9]) (by kernel_rfl) (by simp) ?_
    refine AllReadyH.cons (o := { dst := some 26, op := .buildSlice 22 1 #[(0, .const (Value.int IntKind.u8 5))], type := 22, pos := "outright.go:26", after := #[{ on := 6, ground := .guard }], guard := some (6, true) }) rfl (fun K hK => ?_) AllReadyH.nil
    go_simp
    refine hK.out _ _ (KEEP.out _ _ hSa ((Bel.refl _).alloc _)) (fun hS1 => ?_)
    clear hK K hSa
    try simp only [Act.put, List.setIfInBounds_toArray, List.set_cons_zero, List.set_cons_succ]
    obtain ⟨g1, hg1⟩ : ∃ g, g = w6.heap.size := ⟨_, rfl⟩
    obtain ⟨g2, hg2⟩ : ∃ g, g = w6.heap.size + 1 := ⟨_, rfl⟩
    obtain ⟨v1, hv⟩ : ∃ v, (w6.alloc (.cells #[Value.int .u8 1, .int .u8 1, .int .u8 2, .int .u8 3] 5)).alloc (.cells #[Value.int .u8 5] 5) = v := ⟨_, rfl⟩
    rw [hv, ← hg2, ← hg1]
    rw [hv] at hS1
    have hN1 : Sl v1 (some ⟨g1, 0, none⟩) 4 4 [1, 1, 2, 3] := by rw [← hv, hg1]; exact (two_new w6 [1, 1, 2, 3] [5]).1
    have hN2 : Sl v1 (some ⟨g2, 0, none⟩) 1 1 [5] := by rw [← hv, hg2]; exact (two_new w6 [1, 1, 2, 3] [5]).2.1
    clear hg1 hg2 hv
    )
  | (
    go_simp
    refine hK.out _ _ (KEEP.out _ _ hS0 ((Bel.refl _).alloc _)) (fun hSa => ?_)
    clear hK K
    try simp only [Act.put, List.setIfInBounds_toArray, List.set_cons_zero, List.set_cons_succ]
    refine wpAnyH_ready (rs := [8]) (by kernel_rfl) (by simp) ?_
    refine AllReadyH.cons (o := { dst := some 25, op := .buildSlice 22 4 #[(0, .const (Value.int IntKind.u8 1)), (1, .const (Value.int IntKind.u8 1)), (2, .const (Value.int IntKind.u8 2)), (3, .const (Value.int IntKind.u8 3))], type := 22, pos := "outright.go:26", after := #[{ on := 6, ground := .guard }], guard := some (6, true) }) rfl (fun K hK => ?_) AllReadyH.nil
    go_simp
    refine hK.out _ _ (KEEP.out _ _ hSa ((Bel.refl _).alloc _)) (fun hS1 => ?_)
    clear hK K hSa
    try simp only [Act.put, List.setIfInBounds_toArray, List.set_cons_zero, List.set_cons_succ]
    obtain ⟨g2, hg1⟩ : ∃ g, g = w6.heap.size := ⟨_, rfl⟩
    obtain ⟨g1, hg2⟩ : ∃ g, g = w6.heap.size + 1 := ⟨_, rfl⟩
    obtain ⟨v1, hv⟩ : ∃ v, (w6.alloc (.cells #[Value.int .u8 5] 5)).alloc (.cells #[Value.int .u8 1, .int .u8 1, .int .u8 2, .int .u8 3] 5) = v := ⟨_, rfl⟩
    rw [hv, ← hg2, ← hg1]
    rw [hv] at hS1
    have hN2 : Sl v1 (some ⟨g2, 0, none⟩) 1 1 [5] := by rw [← hv, hg1]; exact (two_new w6 [5] [1, 1, 2, 3]).1
    have hN1 : Sl v1 (some ⟨g1, 0, none⟩) 4 4 [1, 1, 2, 3] := by rw [← hv, hg2]; exact (two_new w6 [5] [1, 1, 2, 3]).2.1
    clear hg1 hg2 hv
    )
  all_goals
    refine wpAnyH_ready (rs := [10]) (by kernel_rfl) (by simp) ?_
    refine AllReadyH.cons (o := { dst := some 27, op := .call { callee := .value (.func 16), args := #[.tmp 25, .tmp 26], argTypes := #[22, 22] }, type := 22, pos := "outright.go:26", after := #[{ on := 8, ground := .data }, { on := 9, ground := .data }, { on := 6, ground := .chain }, { on := 6, ground := .guard }], guard := some (6, true) }) rfl (fun K hK => ?_) AllReadyH.nil
    go_simp
    refine (toldA g1 g2 _ hN1 hN2).mono ?_
    rintro e v2 ⟨A3, c3, rfl, hs3, k3⟩
    go_wp2_with fail
    refine hK.out _ _ (KEEP.out _ _ hS1 k3) (fun hS2 => ?_)
    clear hK K
    try simp only [Act.put, List.setIfInBounds_toArray, List.set_cons_zero, List.set_cons_succ]
    refine wpAnyH_ready (rs := [11]) (by kernel_rfl) (by simp) ?_
    refine AllReadyH.cons (o := { dst := some 28, op := .call { callee := .value (.func 15), args := #[.tmp 24, .tmp 27], argTypes := #[22, 22] }, type := 4, pos := "outright.go:26", after := #[{ on := 7, ground := .data }, { on := 10, ground := .data }, { on := 10, ground := .chain }, { on := 6, ground := .guard }], guard := some (6, true) }) rfl (fun K hK => ?_) AllReadyH.nil
    go_simp
    refine (same A1 A3 37 c1 37 c3 _ _ hS2.2.2.1.ints hs3.ints).mono ?_
    rintro e v3 ⟨rfl, rfl⟩
    go_wp2_with fail
    refine hK.out _ _ (hS2) (fun hS3 => ?_)
    clear hK K
    try simp only [Act.put, List.setIfInBounds_toArray, List.set_cons_zero, List.set_cons_succ]
    clear hN1 hN2 hs3 k3
    refine wpAnyH_take (i := 12) (oi := { dst := some 29, op := .pick (.tmp 23) (.tmp 28) (.const (Value.bool false)), type := 4, pos := "outright.go:26", after := #[{ on := 6, ground := .data }, { on := 11, ground := .data }], guard := none }) (v := .bool true) rfl (by kernel_rfl) (by kernel_rfl) (by kernel_rfl) (fun _ _ _ h => h) (Or.inl ⟨by rfl, by intro w hSw; clear hSw; go_simp⟩) hS3 ?_
    try simp only [Act.put, List.setIfInBounds_toArray, List.set_cons_zero, List.set_cons_succ]
    refine wpAnyH_take (i := 13) (oi := { dst := some 30, op := .move (.tmp 29), type := 4, pos := "outright.go:26", after := #[{ on := 12, ground := .data }, { on := 11, ground := .chain }], guard := none }) (v := .bool true) rfl (by kernel_rfl) (by kernel_rfl) (by kernel_rfl) (fun _ _ _ h => h) (Or.inl ⟨by rfl, by intro w hSw; clear hSw; go_simp⟩) hS3 ?_
    try simp only [Act.put, List.setIfInBounds_toArray, List.set_cons_zero, List.set_cons_succ]
    refine wpAnyH_take (i := 14) (oi := { dst := some 31, op := .move (.tmp 3), type := 22, pos := "outright.go:26", after := #[{ on := 13, ground := .guard }], guard := some (13, true) }) (v := .slice A2 38 c2) rfl (by kernel_rfl) (by kernel_rfl) (by kernel_rfl) (fun _ _ _ h => h) (Or.inl ⟨by rfl, by intro w hSw; clear hSw; go_simp⟩) hS3 ?_
    try simp only [Act.put, List.setIfInBounds_toArray, List.set_cons_zero, List.set_cons_succ]
    refine wpAnyH_ready (rs := [15, 16]) (by kernel_rfl) (by simp) ?_
    refine AllReadyH.cons (o := { dst := some 32, op := .buildSlice 22 4 #[(0, .const (Value.int IntKind.u8 2)), (1, .const (Value.int IntKind.u8 1)), (2, .const (Value.int IntKind.u8 172)), (3, .const (Value.int IntKind.u8 2))], type := 22, pos := "outright.go:26", after := #[{ on := 13, ground := .guard }], guard := some (13, true) }) rfl (fun K hK => ?_) (AllReadyH.cons (o := { dst := some 33, op := .buildSlice 22 2 #[(0, .const (Value.int IntKind.u8 128)), (1, .const (Value.int IntKind.u8 1))], type := 22, pos := "outright.go:26", after := #[{ on := 13, ground := .guard }], guard := some (13, true) }) rfl (fun K hK => ?_) AllReadyH.nil)
    all_goals first
    | (
      go_simp
      refine hK.out _ _ (KEEP.out _ _ hS3 ((Bel.refl _).alloc _)) (fun hSa => ?_)
      clear hK K
      try simp only [Act.put, List.setIfInBounds_toArray, List.set_cons_zero, List.set_cons_succ]
      refine wpAnyH_ready (rs := [16]) (by kernel_rfl) (by simp) ?_
      refine AllReadyH.cons (o := { dst := some 33, op := .buildSlice 22 2 #[(0, .const (Value.int IntKind.u8 128)), (1, .const (Value.int IntKind.u8 1))], type := 22, pos := "outright.go:26", after := #[{ on := 13, ground := .guard }], guard := some (13, true) }) rfl (fun K hK => ?_) AllReadyH.nil
      go_simp
      refine hK.out _ _ (KEEP.out _ _ hSa ((Bel.refl _).alloc _)) (fun hS4 => ?_)
      clear hK K hSa
      try simp only [Act.put, List.setIfInBounds_toArray, List.set_cons_zero, List.set_cons_succ]
      obtain ⟨g1, hg1⟩ : ∃ g, g = v2.heap.size := ⟨_, rfl⟩
      obtain ⟨g2, hg2⟩ : ∃ g, g = v2.heap.size + 1 := ⟨_, rfl⟩
      obtain ⟨v4, hv⟩ : ∃ v, (v2.alloc (.cells #[Value.int .u8 2, .int .u8 1, .int .u8 172, .int .u8 2] 5)).alloc (.cells #[Value.int .u8 128, .int .u8 1] 5) = v := ⟨_, rfl⟩
      rw [hv, ← hg2, ← hg1]
      rw [hv] at hS4
      have hN1 : Sl v4 (some ⟨g1, 0, none⟩) 4 4 [2, 1, 172, 2] := by rw [← hv, hg1]; exact (two_new v2 [2, 1, 172, 2] [128, 1]).1
      have hN2 : Sl v4 (some ⟨g2, 0, none⟩) 2 2 [128, 1] := by rw [← hv, hg2]; exact (two_new v2 [2, 1, 172, 2] [128, 1]).2.1
      clear hg1 hg2 hv
      )
    | (
      go_simp
      refine hK.out _ _ (KEEP.out _ _ hS3 ((Bel.refl _).alloc _)) (fun hSa => ?_)
      clear hK K
      try simp only [Act.put, List.setIfInBounds_toArray, List.set_cons_zero, List.set_cons_succ]
      refine wpAnyH_ready (rs := [15]) (by kernel_rfl) (by simp) ?_
      refine AllReadyH.cons (o := { dst := some 32, op := .buildSlice 22 4 #[(0, .const (Value.int IntKind.u8 2)), (1, .const (Value.int IntKind.u8 1)), (2, .const (Value.int IntKind.u8 172)), (3, .const (Value.int IntKind.u8 2))], type := 22, pos := "outright.go:26", after := #[{ on := 13, ground := .guard }], guard := some (13, true) }) rfl (fun K hK => ?_) AllReadyH.nil
      go_simp
      refine hK.out _ _ (KEEP.out _ _ hSa ((Bel.refl _).alloc _)) (fun hS4 => ?_)
      clear hK K hSa
      try simp only [Act.put, List.setIfInBounds_toArray, List.set_cons_zero, List.set_cons_succ]
      obtain ⟨g2, hg1⟩ : ∃ g, g = v2.heap.size := ⟨_, rfl⟩
      obtain ⟨g1, hg2⟩ : ∃ g, g = v2.heap.size + 1 := ⟨_, rfl⟩
      obtain ⟨v4, hv⟩ : ∃ v, (v2.alloc (.cells #[Value.int .u8 128, .int .u8 1] 5)).alloc (.cells #[Value.int .u8 2, .int .u8 1, .int .u8 172, .int .u8 2] 5) = v := ⟨_, rfl⟩
      rw [hv, ← hg2, ← hg1]
      rw [hv] at hS4
      have hN2 : Sl v4 (some ⟨g2, 0, none⟩) 2 2 [128, 1] := by rw [← hv, hg1]; exact (two_new v2 [128, 1] [2, 1, 172, 2]).1
      have hN1 : Sl v4 (some ⟨g1, 0, none⟩) 4 4 [2, 1, 172, 2] := by rw [← hv, hg2]; exact (two_new v2 [128, 1] [2, 1, 172, 2]).2.1
      clear hg1 hg2 hv
      )
    all_goals
      refine wpAnyH_ready (rs := [17]) (by kernel_rfl) (by simp) ?_
      refine AllReadyH.cons (o := { dst := some 34, op := .call { callee := .value (.func 16), args := #[.tmp 32, .tmp 33], argTypes := #[22, 22] }, type := 22, pos := "outright.go:26", after := #[{ on := 15, ground := .data }, { on := 16, ground := .data }, { on := 13, ground := .chain }, { on := 13, ground := .guard }], guard := some (13, true) }) rfl (fun K hK => ?_) AllReadyH.nil
      go_simp
      refine (toldB g1 g2 _ hN1 hN2).mono ?_
      rintro e v5 ⟨A3, c3, rfl, hs3, k3⟩
      go_wp2_with fail
      refine hK.out _ _ (KEEP.out _ _ hS4 k3) (fun hS5 => ?_)
      clear hK K
      try simp only [Act.put, List.setIfInBounds_toArray, List.set_cons_zero, List.set_cons_succ]
      refine wpAnyH_ready (rs := [18]) (by kernel_rfl) (by simp) ?_
      refine AllReadyH.cons (o := { dst := some 35, op := .call { callee := .value (.func 15), args := #[.tmp 31, .tmp 34], argTypes := #[22, 22] }, type := 4, pos := "outright.go:26", after := #[{ on := 14, ground := .data }, { on := 17, ground := .data }, { on := 17, ground := .chain }, { on := 13, ground := .guard }], guard := some (13, true) }) rfl (fun K hK => ?_) AllReadyH.nil
      go_simp
      refine (same A2 A3 38 c2 38 c3 _ _ hS5.2.2.2.1.ints hs3.ints).mono ?_
      rintro e v6 ⟨rfl, rfl⟩
      go_wp2_with fail
      refine hK.out _ _ (hS5) (fun hS6 => ?_)
      clear hK K
      try simp only [Act.put, List.setIfInBounds_toArray, List.set_cons_zero, List.set_cons_succ]
      clear hN1 hN2 hs3 k3
      refine wpAnyH_take (i := 19) (oi := { dst := some 36, op := .pick (.tmp 30) (.tmp 35) (.const (Value.bool false)), type := 4, pos := "outright.go:26", after := #[{ on := 13, ground := .data }, { on := 18, ground := .data }], guard := none }) (v := .bool true) rfl (by kernel_rfl) (by kernel_rfl) (by kernel_rfl) (fun _ _ _ h => h) (Or.inl ⟨by rfl, by intro w hSw; clear hSw; go_simp⟩) hS6 ?_
      try simp only [Act.put, List.setIfInBounds_toArray, List.set_cons_zero, List.set_cons_succ]
      refine wpAnyH_take (i := 20) (oi := { dst := some 37, op := .move (.tmp 36), type := 4, pos := "outright.go:26", after := #[{ on := 19, ground := .data }, { on := 18, ground := .chain }], guard := none }) (v := .bool true) rfl (by kernel_rfl) (by kernel_rfl) (by kernel_rfl) (fun _ _ _ h => h) (Or.inl ⟨by rfl, by intro w hSw; clear hSw; go_simp⟩) hS6 ?_
      try simp only [Act.put, List.setIfInBounds_toArray, List.set_cons_zero, List.set_cons_succ]
      refine wpAnyH_take (i := 21) (oi := { dst := some 38, op := .load 29 (.tmp 5), type := 29, pos := "outright.go:26", after := #[{ on := 20, ground := .guard }], guard := some (20, true) }) (v := .agg WC.toArray) rfl (by kernel_rfl) (by kernel_rfl) (by kernel_rfl) (fun _ _ _ h => h) (yieldsIf_load_mid (by rfl) _ _ rfl _ _ rfl _ _ (fun w h => h.1) uA rfl iA) hS6 ?_
      try simp only [Act.put, List.setIfInBounds_toArray, List.set_cons_zero, List.set_cons_succ]
      refine wpAnyH_ready (rs := [22]) (by kernel_rfl) (by simp) ?_
      refine AllReadyH.cons (o := { dst := some 39, op := .call { callee := .value (.func 12), args := #[], argTypes := #[] }, type := 29, pos := "outright.go:26", after := #[{ on := 20, ground := .chain }, { on := 20, ground := .guard }], guard := some (20, true) }) rfl (fun K hK => ?_) AllReadyH.nil
      go_simp
      refine (ONE.out _).mono ?_
      rintro e v7 ⟨rfl, k7⟩
      go_wp2_with fail
      refine hK.out _ _ (KEEP.out _ _ hS6 k7) (fun hS7 => ?_)
      clear hK K
      try simp only [Act.put, List.setIfInBounds_toArray, List.set_cons_zero, List.set_cons_succ]
      refine wpAnyH_ready (rs := [23]) (by kernel_rfl) (by simp) ?_
      refine AllReadyH.cons (o := { dst := some 40, op := .call { callee := .value (.func 17), args := #[.tmp 38, .tmp 39], argTypes := #[29, 29] }, type := 4, pos := "outright.go:26", after := #[{ on := 21, ground := .data }, { on := 22, ground := .data }, { on := 22, ground := .chain }, { on := 20, ground := .guard }], guard := some (20, true) }) rfl (fun K hK => ?_) AllReadyH.nil
      go_simp
      refine (SU1.out _).mono ?_
      rintro e v8 ⟨rfl, k8⟩
      go_wp2_with fail
      refine hK.out _ _ (KEEP.out _ _ hS7 k8) (fun hS8 => ?_)
      clear hK K
      try simp only [Act.put, List.setIfInBounds_toArray, List.set_cons_zero, List.set_cons_succ]
      refine wpAnyH_take (i := 24) (oi := { dst := some 41, op := .pick (.tmp 37) (.tmp 40) (.const (Value.bool false)), type := 4, pos := "outright.go:26", after := #[{ on := 20, ground := .data }, { on := 23, ground := .data }], guard := none }) (v := .bool true) rfl (by kernel_rfl) (by kernel_rfl) (by kernel_rfl) (fun _ _ _ h => h) (Or.inl ⟨by rfl, by intro w hSw; clear hSw; go_simp⟩) hS8 ?_
      try simp only [Act.put, List.setIfInBounds_toArray, List.set_cons_zero, List.set_cons_succ]
      refine wpAnyH_take (i := 25) (oi := { dst := some 42, op := .move (.tmp 41), type := 4, pos := "outright.go:26", after := #[{ on := 24, ground := .data }, { on := 23, ground := .chain }], guard := none }) (v := .bool true) rfl (by kernel_rfl) (by kernel_rfl) (by kernel_rfl) (fun _ _ _ h => h) (Or.inl ⟨by rfl, by intro w hSw; clear hSw; go_simp⟩) hS8 ?_
      try simp only [Act.put, List.setIfInBounds_toArray, List.set_cons_zero, List.set_cons_succ]
      refine wpAnyH_take (i := 27) (oi := { dst := some 44, op := .load 29 (.tmp 5), type := 29, pos := "outright.go:26", after := #[{ on := 25, ground := .guard }], guard := some (25, true) }) (v := .agg WC.toArray) rfl (by kernel_rfl) (by kernel_rfl) (by kernel_rfl) (fun _ _ _ h => h) (yieldsIf_load_mid (by rfl) _ _ rfl _ _ rfl _ _ (fun w h => h.1) uA rfl iA) hS8 ?_
      try simp only [Act.put, List.setIfInBounds_toArray, List.set_cons_zero, List.set_cons_succ]
      refine wpAnyH_ready (rs := [26]) (by kernel_rfl) (by simp) ?_
      refine AllReadyH.cons (o := { dst := some 43, op := .call { callee := .value (.func 12), args := #[], argTypes := #[] }, type := 29, pos := "outright.go:26", after := #[{ on := 25, ground := .chain }, { on := 25, ground := .guard }], guard := some (25, true) }) rfl (fun K hK => ?_) AllReadyH.nil
      go_simp
      refine (ONE.out _).mono ?_
      rintro e v9 ⟨rfl, k9⟩
      go_wp2_with fail
      refine hK.out _ _ (KEEP.out _ _ hS8 k9) (fun hS9 => ?_)
      clear hK K
      try simp only [Act.put, List.setIfInBounds_toArray, List.set_cons_zero, List.set_cons_succ]
      refine wpAnyH_ready (rs := [28]) (by kernel_rfl) (by simp) ?_
      refine AllReadyH.cons (o := { dst := some 45, op := .call { callee := .value (.func 17), args := #[.tmp 43, .tmp 44], argTypes := #[29, 29] }, type := 4, pos := "outright.go:26", after := #[{ on := 26, ground := .data }, { on := 27, ground := .data }, { on := 26, ground := .chain }, { on := 25, ground := .guard }], guard := some (25, true) }) rfl (fun K hK => ?_) AllReadyH.nil
      go_simp
      refine (SU2.out _).mono ?_
      rintro e v10 ⟨rfl, k10⟩
      go_wp2_with fail
      refine hK.out _ _ (KEEP.out _ _ hS9 k10) (fun hS10 => ?_)
      clear hK K
      try simp only [Act.put, List.setIfInBounds_toArray, List.set_cons_zero, List.set_cons_succ]
      refine wpAnyH_take (i := 29) (oi := { dst := some 46, op := .unOp .not 4 (.tmp 45), type := 4, pos := "outright.go:26", after := #[{ on := 28, ground := .data }, { on := 25, ground := .guard }], guard := some (25, true) }) (v := .bool true) rfl (by kernel_rfl) (by kernel_rfl) (by kernel_rfl) (fun _ _ _ h => h) (Or.inl ⟨by rfl, by intro w hSw; clear hSw; go_simp⟩) hS10 ?_
      try simp only [Act.put, List.setIfInBounds_toArray, List.set_cons_zero, List.set_cons_succ]
      refine wpAnyH_take (i := 30) (oi := { dst := some 47, op := .pick (.tmp 42) (.tmp 46) (.const (Value.bool false)), type := 4, pos := "outright.go:26", after := #[{ on := 25, ground := .data }, { on := 29, ground := .data }], guard := none }) (v := .bool true) rfl (by kernel_rfl) (by kernel_rfl) (by kernel_rfl) (fun _ _ _ h => h) (Or.inl ⟨by rfl, by intro w hSw; clear hSw; go_simp⟩) hS10 ?_
      try simp only [Act.put, List.setIfInBounds_toArray, List.set_cons_zero, List.set_cons_succ]
      refine wpAnyH_take (i := 31) (oi := { dst := some 0, op := .assign (.tmp 47), type := 4, pos := "outright.go:26", after := #[{ on := 30, ground := .data }, { on := 28, ground := .chain }, { on := 0, ground := .phase }, { on := 1, ground := .phase }, { on := 2, ground := .phase }, { on := 3, ground := .phase }, { on := 4, ground := .phase }, { on := 5, ground := .phase }, { on := 6, ground := .phase }, { on := 7, ground := .phase }, { on := 8, ground := .phase }, { on := 9, ground := .phase }, { on := 10, ground := .phase }, { on := 11, ground := .phase }, { on := 12, ground := .phase }, { on := 13, ground := .phase }, { on := 14, ground := .phase }, { on := 15, ground := .phase }, { on := 16, ground := .phase }, { on := 17, ground := .phase }, { on := 18, ground := .phase }, { on := 19, ground := .phase }, { on := 20, ground := .phase }, { on := 21, ground := .phase }, { on := 22, ground := .phase }, { on := 23, ground := .phase }, { on := 24, ground := .phase }, { on := 25, ground := .phase }, { on := 26, ground := .phase }, { on := 27, ground := .phase }, { on := 28, ground := .phase }, { on := 29, ground := .phase }, { on := 30, ground := .phase }], guard := none }) (v := .bool true) rfl (by kernel_rfl) (by kernel_rfl) (by kernel_rfl) (fun _ _ _ h => h) (Or.inl ⟨by rfl, by intro w hSw; clear hSw; go_simp⟩) hS10 ?_
      try simp only [Act.put, List.setIfInBounds_toArray, List.set_cons_zero]
      refine wpAnyH_done (by kernel_rfl) ?_ _
      go_wp2
      go_ret
      exact ⟨rfl, hS10.2.2.2.2⟩
end Vt
end Go.Proofs.Ytgalhpejihmhkaa
end
