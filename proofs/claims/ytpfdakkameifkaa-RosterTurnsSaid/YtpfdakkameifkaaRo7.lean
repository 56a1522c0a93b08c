/-
  What slices.Clone of validators and roster.Create answer of any list. Conditions: at most a million validators; operators are ints.
-/
import Derived.Test.YtpfdakkameifkaaRo6
import Derived.Test.YtpfdakkameifkaaRwF
namespace Go.Proofs.Ytpfdakkameifkaa
open Go.RowKit Go.Shelf
set_option linter.unusedVariables false
set_option linter.unusedSimpArgs false
namespace Ro
open Kk Pm

theorem clone (A : Option Addr) (n c : Nat) (l : List V6) (w : World) (hi : Rw.RS vR w A n c l) (hn : n ≤ 1000000000) :
    Calls Try.prog 62 #[.slice A n c] w fun e w' => ∃ v, e = .returned v ∧ OwnV w' w.heap.size v l ∧ Bel w w' := by
  have qT : ∀ (w : World) (a : Option Addr) (n c n' c' : Nat), (binOp .eql 22 (.slice a n c) (.slice none n' c')).run Try.prog w = .ok (.bool a.isNone) w := fun w a n c n' c' => Lib.run_eql_slice_nil w _ _ a n c n' c' Try.underlying22
  cases A with
  | none =>
    obtain rfl : c = 0 := hi.nil rfl
    obtain rfl : n = 0 := by have := hi.cap; omega
    have hz : l = [] := List.length_eq_zero_iff.1 hi.len
    subst hz
    clear hi
    go_enter Try.func62, Try.ntmps62
    go_wp2
    go_ret
    exact ⟨_, rfl, Rw.OwnR.nil_ _ _ _ _, Bel.refl _⟩
  | some ad =>
    have HS := Lib.hid (hi.bel ((Bel.refl w).alloc (.cells #[] 66)))
    have HE := Lib.hid (Rw.own_empty vR 66 w)
    clear hi
    go_enter Try.func62, Try.ntmps62
    go_wp2_with (at_builtin; refine Rw.append_R vR rfl _ _ _ 66 rfl underV zero_v rfl (by decide) w.heap.size _ [] rfl HE.out (some ad) n c l rfl HS.out (by simp; omega) (by simp) ?_; intro v' w1 hown' hgrow)
    have HO := Lib.hid hown'
    have hb : Bel w w1 := Kk.Bel.grown ((Bel.refl w).alloc _) hgrow (fun k hk => (HE.out.lt k hk).1)
    clear hown' hgrow
    go_wp2
    go_ret
    exact ⟨_, rfl, HO.out, hb⟩
theorem sliced_zero (A : Option Addr) (n s : Nat) : sliced A 0 n n s = .slice A n n := by
  unfold sliced
  by_cases h : n = 0
  · subst h; simp
  · rw [if_neg h]
    cases A with
    | none => simp
    | some a => simp [Addr.add]
theorem elemV : Try.prog.elem 22 = 66 := by kernel_rfl
theorem sizeV (w : World) : (sizeOf 66).run Try.prog w = .ok 6 w := by kernel_rfl
theorem slice_full (A : Option Addr) (n c : Nat) (hc : n ≤ c) (w : World) : (Instr.slice 22 (.slice A n c) none (some (.int .i64 (n : Int))) (some (.int .i64 (n : Int)))).run Try.prog w = .ok (.slice A n n) w := by
  rw [run_slice_hm (P := Try.prog) (w := w) (t := 22) (a := A) (len := n) (cap := c) (by rw [elemV]; exact underV) .i64 .i64 n n (by omega) (by omega) (by omega), elemV]
  simp [sizeV, Result.andThen, sliced_zero]
/-- What Create tells. -/
def CrR (w w' : World) (l : List V6) (o m : Int) (e : Ending) : Prop :=
  ∃ v, e = .returned (.tuple #[v, .int .i64 (crN l o m : Nat), .int .i64 (crE l o m)]) ∧ OwnV w' w.heap.size v (crL l o m) ∧ Bel w w'
theorem crR_no {w w' : World} {l : List V6} {o m x : Int} (hb : Bel w w') (he : crE l o m = x) (hx : x ≠ 0) : CrR w w' l o m (.returned (.tuple #[.slice none 0 0, .int .i64 0, .int .i64 x])) := by
  refine ⟨.slice none 0 0, ?_, ?_, hb⟩
  · rw [he]; unfold crN; rw [if_neg (by rw [he]; exact hx)]; rfl
  · unfold crL; rw [if_neg (by rw [he]; exact hx)]; exact Rw.OwnR.nil_ _ _ _ _
theorem crE_0 {l : List V6} {o m : Int} (h : (chk l).1 ≠ 0) : crE l o m = (chk l).1 := if_pos h
theorem crE_3 {l : List V6} {o m : Int} (h : (chk l).1 = 0) (h1 : ¬ (0 ≤ o ∧ o < 64)) : crE l o m = 3 := by unfold crE; rw [if_neg (by omega), if_pos h1]
theorem crE_2 {l : List V6} {o m : Int} (h : (chk l).1 = 0) (h1 : 0 ≤ o ∧ o < 64) (h2 : m = 0) : crE l o m = 2 := by unfold crE; rw [if_neg (by omega), if_neg (by omega), if_pos h2]
theorem crE_8 {l : List V6} {o m : Int} (h : (chk l).1 = 0) (h1 : 0 ≤ o ∧ o < 64) (h2 : m ≠ 0) (h3 : has l o = true) : crE l o m = 8 := by unfold crE; rw [if_neg (by omega), if_neg (by omega), if_neg h2, if_pos h3]
theorem crE_7 {l : List V6} {o m : Int} (h : (chk l).1 = 0) (h1 : 0 ≤ o ∧ o < 64) (h2 : m ≠ 0) (h3 : has l o = false) (h4 : l.length = 32) : crE l o m = 7 := by unfold crE; rw [if_neg (by omega), if_neg (by omega), if_neg h2, if_neg (by rw [h3]; decide), if_pos h4]
theorem crE_ok {l : List V6} {o m : Int} (h : (chk l).1 = 0) (h1 : 0 ≤ o ∧ o < 64) (h2 : m ≠ 0) (h3 : has l o = false) (h4 : l.length ≠ 32) : crE l o m = 0 := by unfold crE; rw [if_neg (by omega), if_neg (by omega), if_neg h2, if_neg (by rw [h3]; decide), if_neg h4]
set_option maxRecDepth 100000 in
set_option maxHeartbeats 4000000 in
theorem create (A : Option Addr) (n c : Nat) (l : List V6) (o m : Int) (w : World) (hi : Rw.RS vR w A n c l) (hn : n ≤ 1000000) (hO : ∀ r ∈ l, I64 (op r)) (ho : I64 o) :
    Calls Try.prog 11 #[.slice A n c, .int .i64 o, .int .u64 m] w fun e w' => CrR w w' l o m e := by
  have HI := Lib.hid hi
  have HLN := Lib.hid hi.len
  have CK := Lib.hid (check A n c l w hi (by omega) hO)
  have FD := Lib.hid (fun V (hv : Bel w V) => find A n c l o V (hi.bel hv) (by omega) hO ho)
  obtain ⟨e1, he1⟩ : ∃ e, (chk l).1 = e := ⟨_, rfl⟩
  obtain ⟨e2, he2⟩ : ∃ e, (chk l).2 = e := ⟨_, rfl⟩
  have HE1 := Lib.hid he1
  rw [he1, he2] at CK
  obtain ⟨j, hj⟩ : ∃ j, (fnd l o).getD 0 = j := ⟨_, rfl⟩
  obtain ⟨y, hy⟩ : ∃ y, (fnd l o).isSome = y := ⟨_, rfl⟩
  have HY := Lib.hid (show has l o = y from hy)
  rw [hj, hy] at FD
  clear hi he1 he2 hj hy hO
  go_enter Try.func11, Try.ntmps11
  go_wp2_with fail
  refine CK.out.mono ?_
  rintro e w1 ⟨rfl, kb⟩
  have K1 := Lib.hid kb
  clear kb CK
  by_cases h0 : e1 = 0
  case neg =>
    have hne : (e1 != 0) = true := by rw [bne_iff_ne]; exact h0
    have HE := Lib.hid (crE_0 (l := l) (o := o) (m := m) (by rw [HE1.out]; exact h0))
    go_wp2_with fail
    go_ret3
    exact crR_no K1.out (HE.out.trans HE1.out) h0
  subst h0
  go_wp2_with fail
  refine (FD.out _ K1.out).mono ?_
  rintro e w2 ⟨rfl, kb⟩
  have K2 := Lib.hid (K1.out.trans kb)
  clear kb FD
  by_cases h1 : 0 ≤ o ∧ o < 64
  case neg =>
    have HE := Lib.hid (crE_3 (m := m) HE1.out h1)
    have i1 := isAccount o w2
    rw [decide_eq_false h1] at i1
    go_wp2_with fail
    refine i1.mono ?_
    rintro e wz ⟨rfl, rfl⟩
    go_wp2_with fail
    go_ret3
    exact crR_no K2.out HE.out (by decide)
  have i1 := isAccount o w2
  rw [decide_eq_true h1] at i1
  go_wp2_with fail
  refine i1.mono ?_
  rintro e wz ⟨rfl, rfl⟩
  clear i1
  by_cases h2 : m = 0
  · have HE := Lib.hid (crE_2 HE1.out h1 h2)
    have em : (m == 0) = true := by rw [beq_iff_eq]; exact h2
    clear h1 h2
    go_wp2_with fail
    go_ret3
    exact crR_no K2.out HE.out (by decide)
  have em : (m == 0) = false := beq_eq_false_iff_ne.2 h2
  cases y with
  | true =>
    have HE := Lib.hid (crE_8 HE1.out h1 h2 HY.out)
    clear h1 h2
    go_wp2_with fail
    go_ret3
    exact crR_no K2.out HE.out (by decide)
  | false =>
    by_cases h3 : n = 32
    · have HE := Lib.hid (crE_7 HE1.out h1 h2 HY.out (HLN.out.trans h3))
      have hl3 : ((n : Int) == 32) = true := by rw [h3]; rfl
      clear h1 h2 h3
      go_wp2_with fail
      go_ret3
      exact crR_no K2.out HE.out (by decide)
    · have HE := Lib.hid (crE_ok HE1.out h1 h2 HY.out (by rw [HLN.out]; exact h3))
      have hl3 : ((n : Int) == 32) = false := by simp; omega
      have hsl := fun V => slice_full A n c HI.out.cap V
      clear h1 h2 h3
      go_upto_region 14 with fail
      have P0 := Lib.hid (Blk.new w2 #[.int .i64 o, .int .u64 m, .int .i64 1, .int .i64 0, .bool false, .bool false] 66)
      obtain ⟨w4, hw4⟩ : ∃ V, w2.alloc (.cells #[.int .i64 o, .int .u64 m, .int .i64 1, .int .i64 0, .bool false, .bool false] 66) = V := ⟨_, rfl⟩
      have K4 := Lib.hid (show Bel w w4 by rw [← hw4]; exact K2.out.alloc _)
      rw [hw4] at P0 ⊢
      obtain ⟨g, hg⟩ : ∃ g, w2.heap.size = g := ⟨_, rfl⟩
      rw [hg] at P0 ⊢
      clear hw4 hg
      refine wp_region_held_drew (S := fun Vx => Bel w4 Vx) (by kernel_rfl) (Bel.refl _).drew (fun hS0 => ?_)
      have HS6 := Lib.hid hS0
      obtain ⟨w6, hw6⟩ : ∃ w6, World.drew w4 = w6 := ⟨_, rfl⟩
      rw [hw6] at hS0 HS6 ⊢
      clear hw6
      have HX := Lib.hid (Rw.rs_one vR (r := newV o m) (Blk.new w6 #[.int .i64 o, .int .u64 m, .int .i64 1, .int .i64 0, .bool false, .bool false] 66))
      have HS7 := Lib.hid ((HI.out.cut (c' := n) (Nat.le_refl _) (fun h => by have := HI.out.nil h; have := HI.out.cap; omega)).bel ((K4.out.trans HS6.out).alloc (.cells #[.int .i64 o, .int .u64 m, .int .i64 1, .int .i64 0, .bool false, .bool false] 66)))
      obtain ⟨cap, W9, hAP, hRB, hOW, hB9⟩ := Rw.run_append_full vR 22 22 66 underV zero_v rfl (by decide) HS7.out HX.out (by omega) (by omega)
      obtain ⟨W7, hW7⟩ : ∃ W7, w6.alloc (.cells #[.int .i64 o, .int .u64 m, .int .i64 1, .int .i64 0, .bool false, .bool false] 66) = W7 := ⟨_, rfl⟩
      have H7 := Lib.hid (show Bel w4 W7 by rw [← hW7]; exact HS6.out.alloc _)
      have H67 := Lib.hid hW7
      rw [hW7] at hAP hOW hB9
      have HAP := Lib.hid hAP
      have HOW := Lib.hid hOW
      have HB9 := Lib.hid hB9
      clear hAP hRB hOW hB9 hW7 HX HS7
      refine wpAnyH_take (i := 0) (oi := { dst := some 44, op := .move (.tmp 0), type := 22, pos := "change.go:27", after := #[], guard := none }) (v := .slice A n c) rfl (by kernel_rfl) (by kernel_rfl) (by kernel_rfl) (fun _ _ _ h => h) (Or.inl ⟨by rfl, by intro w hSw; clear hSw; go_simp⟩) hS0 ?_
      try simp only [Act.put, List.setIfInBounds_toArray, List.set_cons_zero, List.set_cons_succ]
      refine wpAnyH_take (i := 1) (oi := { dst := some 45, op := .move (.tmp 0), type := 22, pos := "change.go:27", after := #[], guard := none }) (v := .slice A n c) rfl (by kernel_rfl) (by kernel_rfl) (by kernel_rfl) (fun _ _ _ h => h) (Or.inl ⟨by rfl, by intro w hSw; clear hSw; go_simp⟩) hS0 ?_
      try simp only [Act.put, List.setIfInBounds_toArray, List.set_cons_zero, List.set_cons_succ]
      refine wpAnyH_take (i := 2) (oi := { dst := some 46, op := .call { callee := .builtin .len, args := #[.tmp 45], argTypes := #[22] }, type := 3, pos := "change.go:27", after := #[{ on := 1, ground := .data }], guard := none }) (v := .int .i64 n) rfl (by kernel_rfl) (by kernel_rfl) (by kernel_rfl) (fun _ _ _ h => h) (Or.inl ⟨by rfl, by intro w hSw; clear hSw; go_simp⟩) hS0 ?_
      try simp only [Act.put, List.setIfInBounds_toArray, List.set_cons_zero, List.set_cons_succ]
      refine wpAnyH_take (i := 3) (oi := { dst := some 47, op := .move (.tmp 0), type := 22, pos := "change.go:27", after := #[], guard := none }) (v := .slice A n c) rfl (by kernel_rfl) (by kernel_rfl) (by kernel_rfl) (fun _ _ _ h => h) (Or.inl ⟨by rfl, by intro w hSw; clear hSw; go_simp⟩) hS0 ?_
      try simp only [Act.put, List.setIfInBounds_toArray, List.set_cons_zero, List.set_cons_succ]
      refine wpAnyH_take (i := 4) (oi := { dst := some 48, op := .call { callee := .builtin .len, args := #[.tmp 47], argTypes := #[22] }, type := 3, pos := "change.go:27", after := #[{ on := 3, ground := .data }], guard := none }) (v := .int .i64 n) rfl (by kernel_rfl) (by kernel_rfl) (by kernel_rfl) (fun _ _ _ h => h) (Or.inl ⟨by rfl, by intro w hSw; clear hSw; go_simp⟩) hS0 ?_
      try simp only [Act.put, List.setIfInBounds_toArray, List.set_cons_zero, List.set_cons_succ]
      refine wpAnyH_take (i := 5) (oi := { dst := some 49, op := .slice 22 (.tmp 44) none (some (.tmp 46)) (some (.tmp 48)), type := 22, pos := "change.go:27", after := #[{ on := 0, ground := .data }, { on := 2, ground := .data }, { on := 4, ground := .data }], guard := none }) (v := .slice A n n) rfl (by kernel_rfl) (by kernel_rfl) (by kernel_rfl) (fun _ _ _ h => h) (Or.inl ⟨by rfl, by intro w hSw; clear hSw; go_simp⟩) hS0 ?_
      try simp only [Act.put, List.setIfInBounds_toArray, List.set_cons_zero, List.set_cons_succ]
      refine wpAnyH_take (i := 6) (oi := { dst := some 50, op := .load 66 (.tmp 13), type := 66, pos := "change.go:27", after := #[], guard := none }) (v := .agg #[.int .i64 o, .int .u64 m, .int .i64 1, .int .i64 0, .bool false, .bool false]) rfl (by kernel_rfl) (by kernel_rfl) (by kernel_rfl) (fun _ _ _ h => h) (yieldsIf_load_mid (by rfl) _ _ rfl _ _ rfl _ _ (fun w h => rng_bel (Pm.rngB (C := [.int .i64 o, .int .u64 m, .int .i64 1, .int .i64 0, .bool false, .bool false]) P0.out) h) Try.underlying66 rfl info_v) hS0 ?_
      try simp only [Act.put, List.setIfInBounds_toArray, List.set_cons_zero, List.set_cons_succ]
      refine wpAnyH_take (i := 9) (oi := { dst := some 53, op := .move (.tmp 0), type := 22, pos := "change.go:27", after := #[], guard := none }) (v := .slice A n c) rfl (by kernel_rfl) (by kernel_rfl) (by kernel_rfl) (fun _ _ _ h => h) (Or.inl ⟨by rfl, by intro w hSw; clear hSw; go_simp⟩) hS0 ?_
      try simp only [Act.put, List.setIfInBounds_toArray, List.set_cons_zero, List.set_cons_succ]
      refine wpAnyH_take (i := 10) (oi := { dst := some 54, op := .call { callee := .builtin .len, args := #[.tmp 53], argTypes := #[22] }, type := 3, pos := "change.go:27", after := #[{ on := 9, ground := .data }], guard := none }) (v := .int .i64 n) rfl (by kernel_rfl) (by kernel_rfl) (by kernel_rfl) (fun _ _ _ h => h) (Or.inl ⟨by rfl, by intro w hSw; clear hSw; go_simp⟩) hS0 ?_
      try simp only [Act.put, List.setIfInBounds_toArray, List.set_cons_zero, List.set_cons_succ]
      refine wpAnyH_ready (rs := [7]) (by kernel_rfl) (by simp) ?_
      refine AllReadyH.cons (o := { dst := some 51, op := .buildSlice 22 1 #[(0, .tmp 50)], type := 22, pos := "change.go:27", after := #[{ on := 6, ground := .data }], guard := none }) rfl (fun K hK => ?_) AllReadyH.nil
      go_simp
      refine hK.out _ _ (HS6.out.alloc _) (fun hS1 => ?_)
      clear hK K
      try simp only [Act.put, List.setIfInBounds_toArray, List.set_cons_zero, List.set_cons_succ]
      refine wpAnyH_ready (rs := [8]) (by kernel_rfl) (by simp) ?_
      refine AllReadyH.cons (o := { dst := some 52, op := .call { callee := .builtin .append, args := #[.tmp 49, .tmp 51], argTypes := #[22, 22] }, type := 22, pos := "change.go:27", after := #[{ on := 5, ground := .data }, { on := 7, ground := .data }], guard := none }) rfl (fun K hK => ?_) AllReadyH.nil
      rw [H67.out]
      refine Rw.step_append_run rfl (.tmp 49) (.tmp 51) 22 22 rfl _ _ (by simp [Act.eval, Act.put]) (by simp [Act.eval, Act.put]) HAP.out ?_
      refine hK.out _ _ (H7.out.trans HB9.out) (fun hS2 => ?_)
      clear hK K
      try simp only [Act.put, List.setIfInBounds_toArray, List.set_cons_zero, List.set_cons_succ]
      refine wpAnyH_take (i := 11) (oi := { dst := some 6, op := .assign (.tmp 52), type := 22, pos := "change.go:27", after := #[{ on := 8, ground := .data }, { on := 8, ground := .chain }, { on := 0, ground := .phase }, { on := 1, ground := .phase }, { on := 2, ground := .phase }, { on := 3, ground := .phase }, { on := 4, ground := .phase }, { on := 5, ground := .phase }, { on := 6, ground := .phase }, { on := 7, ground := .phase }, { on := 8, ground := .phase }, { on := 9, ground := .textOnly .lateStores }, { on := 10, ground := .textOnly .lateStoresUnsure }], guard := none }) (v := .slice (some ⟨(World.heap W7).size, 0, none⟩) (n + 1) cap) rfl (by kernel_rfl) (by kernel_rfl) (by kernel_rfl) (fun _ _ _ h => h) (Or.inl ⟨by rfl, by intro w hSw; clear hSw; go_simp⟩) hS2 ?_
      try simp only [Act.put, List.setIfInBounds_toArray, List.set_cons_zero, List.set_cons_succ]
      refine wpAnyH_take (i := 12) (oi := { dst := some 7, op := .assign (.tmp 54), type := 3, pos := "change.go:27", after := #[{ on := 10, ground := .data }, { on := 11, ground := .chain }, { on := 0, ground := .phase }, { on := 1, ground := .phase }, { on := 2, ground := .phase }, { on := 3, ground := .phase }, { on := 4, ground := .phase }, { on := 5, ground := .phase }, { on := 6, ground := .phase }, { on := 7, ground := .phase }, { on := 8, ground := .phase }, { on := 9, ground := .phase }, { on := 10, ground := .phase }, { on := 11, ground := .phase }], guard := none }) (v := .int .i64 n) rfl (by kernel_rfl) (by kernel_rfl) (by kernel_rfl) (fun _ _ _ h => h) (Or.inl ⟨by rfl, by intro w hSw; clear hSw; go_simp⟩) hS2 ?_
      try simp only [Act.put, List.setIfInBounds_toArray, List.set_cons_zero, List.set_cons_succ]
      refine wpAnyH_take (i := 13) (oi := { dst := some 8, op := .assign (.const (Value.int IntKind.i64 0)), type := 26, pos := "change.go:27", after := #[{ on := 12, ground := .chain }, { on := 0, ground := .phase }, { on := 1, ground := .phase }, { on := 2, ground := .phase }, { on := 3, ground := .phase }, { on := 4, ground := .phase }, { on := 5, ground := .phase }, { on := 6, ground := .phase }, { on := 7, ground := .phase }, { on := 8, ground := .phase }, { on := 9, ground := .phase }, { on := 10, ground := .phase }, { on := 11, ground := .phase }, { on := 12, ground := .phase }], guard := none }) (v := .int .i64 0) rfl (by kernel_rfl) (by kernel_rfl) (by kernel_rfl) (fun _ _ _ h => h) (Or.inl ⟨by rfl, by intro w hSw; clear hSw; go_simp⟩) hS2 ?_
      try simp only [Act.put, List.setIfInBounds_toArray, List.set_cons_zero, List.set_cons_succ]
      refine wpAnyH_done (by kernel_rfl) ?_ _
      go_wp2_with fail
      go_ret3
      refine ⟨_, by rw [HE.out]; unfold crN; rw [if_pos HE.out, HLN.out]; rfl, ?_, (K4.out.trans H7.out).trans HB9.out⟩
      unfold crL
      rw [if_pos HE.out]
      exact HOW.out.mono (Nat.le_trans (Below.size K4.out) (Below.size H7.out))
end Ro
end Go.Proofs.Ytpfdakkameifkaa
