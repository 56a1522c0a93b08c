/-
  What slices.Replace and holding.put make of a list of one's own, of classes and of positions. Conditions: at most a billion rows, in order.
-/
import Derived.Test.YtneajcoiemkfbaaGreatTk
import Derived.Test.YtneajcoiemkfbaaGreatCGa
namespace Go.Proofs.YtneajcoiemkfbaaGreat
open Go.RowKit Go.Shelf
set_option linter.unusedVariables false
set_option linter.unusedSimpArgs false
namespace Ho
open Kk Pm

theorem cut1 {α : Type} (P X0 R X : List α) (a : Nat) (hP : P.length = a) (h0 : X0.length = 6) (hX : X.length = 6) : (P ++ X0 ++ R).take a ++ X ++ (P ++ X0 ++ R).drop (a + 6) = P ++ X ++ R := by
  rw [List.append_assoc P X0 R, List.take_left' hP, ← List.append_assoc P X0 R, List.drop_left' (by simp; omega)]
theorem splice_self {α : Type} (Q R : List α) (S : List α) (a : Nat) (hQ : Q.length = a) : (Q ++ S ++ R).take a ++ S ++ (Q ++ S ++ R).drop (a + S.length) = Q ++ S ++ R := by
  rw [List.append_assoc Q S R, List.take_left' hQ, ← List.append_assoc Q S R, List.drop_left' (by simp; omega)]
theorem own_pre {k : R6 → List Value} (K : C6 k) {t : TypeId} {w : World} {base g cap i : Nat} {l : List R6} (h : RB k t w g l cap) (hb : base ≤ g) (hm : cap ≤ maxLen) (hi : i ≤ l.length) : OwnR k t w base (.slice (some ⟨g, 0, none⟩) i cap) (l.take i) := by
  obtain ⟨cur, h1, h2, h3⟩ := h.blk
  have hl : (l.take i).length = i := by rw [List.length_take]; omega
  refine ⟨by rw [flat_len K], .inr ⟨g, cap, cur, by rw [hl], hb, h1, by rw [hl]; have := h.cap; omega, hm, h3, ?_⟩⟩
  rw [hl, ← flat_take K, ← h2, List.take_take, Nat.min_eq_left (by omega)]

set_option maxRecDepth 100000 in
set_option maxHeartbeats 8000000 in
/-- The last one. -/
theorem replace_lastC (g cap i base xb : Nat) (l : List R6) (x : R6) (w : World) (h : RB cC 90 w g l cap) (hi : i + 1 = l.length) (hn : l.length ≤ 1000000000) (hm : cap ≤ maxLen) (hx : Blk w xb (cC x).toArray 90) (hb : base ≤ w.heap.size) (hg : base ≤ g) :
    Calls Tryz.prog 222 #[.slice (some ⟨g, 0, none⟩) l.length cap, .int .i64 i, .int .i64 ((i : Int) + 1), .slice (some ⟨xb, 0, none⟩) 1 1] w fun e w' => ∃ v', e = .returned v' ∧ OwnR cC 90 w' base v' (l.take i ++ x :: l.drop (i + 1)) ∧ Kep (fun b => b = g) w w' := by
  obtain ⟨n, hnl⟩ : ∃ n, l.length = n := ⟨_, rfl⟩
  have hcap := h.cap
  have HO := Lib.hid (own_pre c6C h hg hm (i := i) (by omega))
  have HX := Lib.hid (show RS cC w (some ⟨xb, 0, none⟩) 1 1 [x] from rs_blk c6C hx rfl (Nat.le_refl _) (by simpa [flat] using List.take_of_length_le (by rw [c6C.len]; exact Nat.le_refl _)))
  have HLI := Lib.hid (show (l.take i).length = i by rw [List.length_take]; omega)
  have HDR := Lib.hid (show l.drop (i + 1) = [] from List.drop_eq_nil_of_le (by omega))
  rw [hnl] at hi hn hcap ⊢
  unfold maxLen at hm
  have hs1 := fun W => slice_hrC g n cap i W (by omega)
  have hs2 := fun W => slice_lhC g n cap i (i + 1) W (by omega) (by omega) (by omega)
  push_cast at hs2
  have hie2 : ((i : Int) + 1 == (n : Int)) = true := by rw [beq_iff_eq]; omega
  have HIN := Lib.hid hi
  have hin : i < n := by omega
  clear hi
  have hie : ((i : Int) == (i : Int) + 1) = false := by rw [beq_eq_false_iff_ne]; omega
  clear h hx hnl
  go_enter Tryz.func222, Tryz.ntmps222
  go_wp2_with (at_builtin; refine wpList_append_C rfl _ _ rfl base _ (l.take i) rfl HO.out (some ⟨xb, 0, none⟩) 1 1 [x] rfl HX.out (by rw [HLI.out]; omega) hb ?_; intro v' w1 hown' hgrow; obtain ⟨A3, c3, e3, hr3, _⟩ := OwnR.rs c6C hown'; rw [show (l.take i ++ [x]).length = n from by rw [List.length_append, HLI.out]; exact HIN.out] at e3; subst e3; clear hr3)
  have HK := Lib.hid (Kep.grown (S := fun b => b = g) (Kep.refl _ w) hgrow (fun k e _ => by injection e with e; exact e.symm))
  have HO2 := Lib.hid hown'
  clear hown' hgrow
  (try go_wp2_with fail)
  go_ret
  exact ⟨_, rfl, by rw [HDR.out]; exact HO2.out, HK.out⟩
set_option maxRecDepth 100000 in
set_option maxHeartbeats 8000000 in
/-- One ahead of others. -/
theorem replace_midC (g cap i xb : Nat) (l : List R6) (x : R6) (w : World) (h : RB cC 90 w g l cap) (hi : i + 1 < l.length) (hn : l.length ≤ 1000000000) (hm : cap ≤ maxLen) (hx : Blk w xb (cC x).toArray 90) :
    Calls Tryz.prog 222 #[.slice (some ⟨g, 0, none⟩) l.length cap, .int .i64 i, .int .i64 ((i : Int) + 1), .slice (some ⟨xb, 0, none⟩) 1 1] w fun e w' => e = .returned (.slice (some ⟨g, 0, none⟩) l.length cap) ∧ RB cC 90 w' g (l.take i ++ x :: l.drop (i + 1)) cap ∧ Kep (fun b => b = g) w w' := by
  obtain ⟨n, hnl⟩ : ∃ n, l.length = n := ⟨_, rfl⟩
  have hcap := h.cap
  obtain ⟨sp, hb, hsp⟩ := rb_list c6C h
  rw [hnl] at hi hn hcap hsp ⊢
  unfold maxLen at hm
  have hXl := c6C.len x
  have hPl : (flat cC (l.take i)).length = i * 6 := by rw [flat_len c6C, List.length_take, hnl]; omega
  have hSl : (flat cC (l.drop (i + 1))).length = (n - (i + 1)) * 6 := by rw [flat_len c6C, List.length_drop, hnl]
  have hPS : flat cC l = flat cC (l.take i) ++ flat cC ((l.drop i).take 1) ++ flat cC (l.drop (i + 1)) := by
    rw [← flat_app, ← flat_app]
    congr 1
    rw [List.append_assoc, show l.drop (i + 1) = (l.drop i).drop 1 by rw [List.drop_drop], List.take_append_drop, List.take_append_drop]
  have hOl : (flat cC ((l.drop i).take 1)).length = 6 := by rw [flat_len c6C, List.length_take, List.length_drop, hnl, Nat.min_eq_left (by omega)]
  obtain ⟨P, hP⟩ : ∃ P, flat cC (l.take i) = P := ⟨_, rfl⟩
  obtain ⟨X0, hX0⟩ : ∃ X0, flat cC ((l.drop i).take 1) = X0 := ⟨_, rfl⟩
  obtain ⟨S, hS⟩ : ∃ S, flat cC (l.drop (i + 1)) = S := ⟨_, rfl⟩
  have hS1 : ∀ u ∈ S, u.oneCell' = true := by rw [← hS]; exact flat_one c6C _
  have HSX := Lib.hid (show flat cC (l.take i ++ x :: l.drop (i + 1)) = P ++ cC x ++ S by rw [flat_app, ← hP, ← hS]; show _ ++ (cC x ++ flat cC (l.drop (i + 1))) = _; rw [List.append_assoc])
  have HLL := Lib.hid (show (l.take i ++ x :: l.drop (i + 1)).length = n by simp [hnl]; omega)
  rw [hP, hX0, hS] at hPS
  rw [hPS] at hb
  rw [hP] at hPl
  rw [hX0] at hOl
  rw [hS] at hSl
  obtain ⟨Y, hY⟩ : ∃ Y, Y = P ++ X0 ++ (S ++ sp) := ⟨_, rfl⟩
  have hb : Blk w g Y.toArray 90 := by rw [hY]; simpa [List.append_assoc] using hb
  have hYl : Y.length = cap * 6 := by rw [hY]; simp [hPl, hSl, hsp, hOl]; omega
  obtain ⟨Y1, hY1⟩ : ∃ Y1, Y1 = P ++ cC x ++ S ++ sp := ⟨_, rfl⟩
  have hY1l : Y1.length = cap * 6 := by rw [hY1]; simp [hPl, hSl, hsp, hXl]; omega
  have hcp1 : ∀ W, Bel w W → ∀ ty, (Builtin.copy_ #[22, 22] ty #[.slice (some ⟨g, i * 6, none⟩) (n - i) (cap - i), .slice (some ⟨xb, 0, none⟩) 1 1]).run Tryz.prog W = .ok (goInt (1 : Nat)) (W.setRow g Y1.toArray) := fun W hW ty => by
    have hmin : Nat.min 1 (n - i) = 1 := by show min _ _ = _; omega
    have hr := run_copy6 W 22 22 ty 90 g (i * 6) (n - i) (cap - i) ⟨xb, 0, none⟩ 1 1 Y _ (cC x) Tryz.underlying22 info_c (hb.bel hW) (by rw [hmin, hXl]) (fun j u hj => by
      rw [add_at, Nat.zero_add]
      exact (hx.bel hW).cell _ (by simpa using hj)) (by rw [hYl, hXl]; omega) (c6C.one x)
    rw [hr, hmin, hY1, hXl, hY, cut1 P X0 (S ++ sp) (cC x) (i * 6) hPl hOl hXl]
    simp only [List.append_assoc]
  have hcp2 : ∀ W, Blk W g Y1.toArray 90 → ∀ ty, (Builtin.copy_ #[22, 22] ty #[.slice (some ⟨g, (i + 1) * 6, none⟩) (n - (i + 1)) (cap - (i + 1)), .slice (some ⟨g, (i + 1) * 6, none⟩) (n - (i + 1)) (cap - (i + 1))]).run Tryz.prog W = .ok (goInt (n - (i + 1) : Nat)) (W.setRow g Y1.toArray) := fun W hW ty => by
    have hmin : Nat.min (n - (i + 1)) (n - (i + 1)) = n - (i + 1) := by show min _ _ = _; omega
    have hq : (P ++ cC x).length = (i + 1) * 6 := by simp [hPl, hXl]; omega
    have hr := run_copy6 W 22 22 ty 90 g ((i + 1) * 6) (n - (i + 1)) (cap - (i + 1)) ⟨g, (i + 1) * 6, none⟩ (n - (i + 1)) (cap - (i + 1)) Y1 _ S Tryz.underlying22 info_c hW (by rw [hmin, hSl]) (fun j u hj => by
      rw [add_at]
      refine hW.cell _ ?_
      have hj2 := (List.getElem?_eq_some_iff.1 hj).1
      rw [List.getElem?_toArray, hY1, List.append_assoc _ S sp, List.getElem?_append_right (by omega), hq, Nat.add_sub_cancel_left, List.getElem?_append_left hj2]
      exact hj) (by rw [hY1l, hSl]; omega) hS1
    rw [hr, hmin]
    congr 3
    rw [hY1]
    exact splice_self (P ++ cC x) sp S ((i + 1) * 6) hq
  obtain ⟨D, hD⟩ : ∃ D : Addr, (if cap = n then (⟨g, 0, none⟩ : Addr) else ⟨g, n * 6, none⟩) = D := ⟨_, rfl⟩
  have hcl : ∀ W ty, (Builtin.clear_ #[22] ty #[.slice (some D) 0 (cap - n)]).run Tryz.prog W = .ok (.tuple #[]) W := fun W ty => by
    simp [Builtin.clear_, run_underlying Tryz.underlying22]
  have hs1 := fun W => slice_hrC g n cap i W (by omega)
  have hs2 := fun W => slice_ltC g n cap (i + 1) W (by omega) (by omega)
  have hs3 := fun W => slice_ltC g n cap i W (by omega) (by omega)
  have hs4 := fun W => slice_hrC g n cap n W (by omega)
  have hs5 := fun W => slice_lC g n cap n W (by omega) (by omega)
  have hs6 := fun W => slice_lhC g n cap i (i + 1) W (by omega) (by omega) (by omega)
  rw [hD] at hs5
  push_cast at hs2 hs6
  obtain ⟨k, hk⟩ : ∃ k, n - (i + 1) = k := ⟨_, rfl⟩
  have hkn : (i : Int) + 1 + k = n := by omega
  rw [hk] at hs2 hcp2
  have HCP1 := Lib.hid hcp1
  have HCP2 := Lib.hid hcp2
  have HCL := Lib.hid hcl
  have HB := Lib.hid hb
  have HY1 := Lib.hid hY1
  have HSP := Lib.hid hsp
  have hin : (i : Int) + 1 < n := by omega
  have hie : ((i : Int) == (i : Int) + 1) = false := by rw [beq_eq_false_iff_ne]; omega
  have hie2 : ((i : Int) + 1 == (n : Int)) = false := by rw [beq_eq_false_iff_ne]; omega
  have hnc : (n : Int) ≤ cap := by omega
  have HKK := Lib.hid hk
  clear hcp1 hcp2 hcl hb hx hYl hSl hY hY1 hY1l hP hS hS1 hPl hPS hXl hOl hX0 hsp h hnl hD hcap hi
  go_enter Tryz.func222, Tryz.ntmps222
  go_upto_region 9 with fail
  have hw1 : IntKind.i64.wrap ((i : Int) + 1) = (i : Int) + 1 := IntWalk.i64_in _ ⟨by omega, by omega⟩
  have hw2 : IntKind.i64.wrap ((i : Int) + 1 + k) = (n : Int) := by rw [hkn]; exact IntWalk.i64_in _ ⟨by omega, by omega⟩
  have HKN := Lib.hid hkn
  clear hkn
  refine wp_region_held_drew (S := fun Vx => Bel w Vx) (by kernel_rfl) (Bel.refl _).drew (fun hS0 => ?_)
  obtain ⟨w6, hw6⟩ : ∃ w6, World.drew w = w6 := ⟨_, rfl⟩
  rw [hw6] at hS0 ⊢
  clear hw6
  refine ztk 0 { dst := some 45, op := .move (.tmp 0), type := 22, pos := "slices.go:276", after := #[], guard := none } (.slice (some ⟨g, 0, none⟩) n cap) (Or.inl ⟨by rfl, by intro w hSw; clear hSw; go_simp⟩) hS0 ?_
  try simp only [Act.put, zq1, zq2, zq3]
  refine ztk 1 { dst := some 46, op := .move (.tmp 1), type := 3, pos := "slices.go:276", after := #[], guard := none } (.int .i64 i) (Or.inl ⟨by rfl, by intro w hSw; clear hSw; go_simp⟩) hS0 ?_
  try simp only [Act.put, zq1, zq2, zq3]
  refine ztk 2 { dst := some 47, op := .slice 22 (.tmp 45) none (some (.tmp 46)) none, type := 22, pos := "slices.go:276", after := #[{ on := 0, ground := .data }, { on := 1, ground := .data }], guard := none } (.slice (some ⟨g, 0, none⟩) i cap) (Or.inl ⟨by rfl, by intro w hSw; clear hSw; go_simp⟩) hS0 ?_
  try simp only [Act.put, zq1, zq2, zq3]
  refine ztk 3 { dst := some 48, op := .call { callee := .builtin .len, args := #[.tmp 47], argTypes := #[22] }, type := 3, pos := "slices.go:276", after := #[{ on := 2, ground := .data }], guard := none } (.int .i64 i) (Or.inl ⟨by rfl, by intro w hSw; clear hSw; go_simp⟩) hS0 ?_
  try simp only [Act.put, zq1, zq2, zq3]
  refine ztk 4 { dst := some 49, op := .move (.tmp 3), type := 22, pos := "slices.go:276", after := #[], guard := none } (.slice (some ⟨xb, 0, none⟩) 1 1) (Or.inl ⟨by rfl, by intro w hSw; clear hSw; go_simp⟩) hS0 ?_
  try simp only [Act.put, zq1, zq2, zq3]
  refine ztk 5 { dst := some 50, op := .call { callee := .builtin .len, args := #[.tmp 49], argTypes := #[22] }, type := 3, pos := "slices.go:276", after := #[{ on := 4, ground := .data }], guard := none } (.int .i64 1) (Or.inl ⟨by rfl, by intro w hSw; clear hSw; go_simp⟩) hS0 ?_
  try simp only [Act.put, zq1, zq2, zq3]
  refine ztk 6 { dst := some 51, op := .binOp .add 3 (.tmp 48) (.tmp 50) 3, type := 3, pos := "slices.go:276", after := #[{ on := 3, ground := .data }, { on := 5, ground := .data }], guard := none } (.int .i64 ((i : Int) + 1)) (Or.inl ⟨by rfl, by intro w hSw; clear hSw; go_simp⟩) hS0 ?_
  try simp only [Act.put, zq1, zq2, zq3]
  refine ztk 7 { dst := some 52, op := .move (.tmp 0), type := 22, pos := "slices.go:276", after := #[], guard := none } (.slice (some ⟨g, 0, none⟩) n cap) (Or.inl ⟨by rfl, by intro w hSw; clear hSw; go_simp⟩) hS0 ?_
  try simp only [Act.put, zq1, zq2, zq3]
  refine ztk 8 { dst := some 53, op := .move (.tmp 2), type := 3, pos := "slices.go:276", after := #[], guard := none } (.int .i64 ((i : Int) + 1)) (Or.inl ⟨by rfl, by intro w hSw; clear hSw; go_simp⟩) hS0 ?_
  try simp only [Act.put, zq1, zq2, zq3]
  refine ztk 9 { dst := some 54, op := .slice 22 (.tmp 52) (some (.tmp 53)) none none, type := 22, pos := "slices.go:276", after := #[{ on := 7, ground := .data }, { on := 8, ground := .data }], guard := none } (.slice (some ⟨g, (i + 1) * 6, none⟩) k (cap - (i + 1))) (Or.inl ⟨by rfl, by intro w hSw; clear hSw; go_simp⟩) hS0 ?_
  try simp only [Act.put, zq1, zq2, zq3]
  refine ztk 10 { dst := some 55, op := .call { callee := .builtin .len, args := #[.tmp 54], argTypes := #[22] }, type := 3, pos := "slices.go:276", after := #[{ on := 9, ground := .data }], guard := none } (.int .i64 k) (Or.inl ⟨by rfl, by intro w hSw; clear hSw; go_simp⟩) hS0 ?_
  try simp only [Act.put, zq1, zq2, zq3]
  refine ztk 11 { dst := some 56, op := .binOp .add 3 (.tmp 51) (.tmp 55) 3, type := 3, pos := "slices.go:276", after := #[{ on := 6, ground := .data }, { on := 10, ground := .data }], guard := none } (.int .i64 n) (Or.inl ⟨by rfl, by intro w hSw; clear hSw; go_simp⟩) hS0 ?_
  try simp only [Act.put, zq1, zq2, zq3]
  refine ztk 12 { dst := some 10, op := .assign (.tmp 56), type := 3, pos := "slices.go:276", after := #[{ on := 11, ground := .data }, { on := 0, ground := .phase }, { on := 1, ground := .phase }, { on := 2, ground := .phase }, { on := 3, ground := .phase }, { on := 4, ground := .phase }, { on := 5, ground := .phase }, { on := 6, ground := .phase }, { on := 7, ground := .phase }, { on := 8, ground := .phase }, { on := 9, ground := .phase }, { on := 10, ground := .phase }, { on := 11, ground := .phase }], guard := none } (.int .i64 n) (Or.inl ⟨by rfl, by intro w hSw; clear hSw; go_simp⟩) hS0 ?_
  try simp only [Act.put, zq1, zq2, zq3]
  refine wpAnyH_done (by kernel_rfl) ?_ _
  have HE0 := Lib.hid hS0
  clear hw1 hw2
  go_upto_region 18 with ((with_reducible refine wpList_copy_run rfl _ _ 22 22 rfl _ _ rfl rfl (HCP1.out w6 HE0.out _) ?_))
  have HB1 := Lib.hid (blk_setRow (HB.out.bel HE0.out) Y1.toArray)
  have HK1 := Lib.hid ((Kep.of_bel (S := fun b => b = g) HE0.out).trans (kep_setRow w6 g Y1.toArray))
  obtain ⟨W1, hW1⟩ : ∃ W1, w6.setRow g Y1.toArray = W1 := ⟨_, rfl⟩
  rw [hW1] at HB1 HK1 ⊢
  clear hW1
  have hw1 : IntKind.i64.wrap ((i : Int) + 1) = (i : Int) + 1 := IntWalk.i64_in _ ⟨by omega, by omega⟩
  refine wp_region_held_drew (S := fun Vx => Kep (fun b => b = g) W1 Vx) (by kernel_rfl) (Kep.drew (Kep.refl _ _)) (fun hS0 => ?_)
  have HW6 := Lib.hid (show Bel W1 W1.drew from (Bel.refl _).drew)
  obtain ⟨w7, hw7⟩ : ∃ w7, World.drew W1 = w7 := ⟨_, rfl⟩
  rw [hw7] at hS0 HW6 ⊢
  clear hw7
  refine ztk 0 { dst := some 98, op := .move (.tmp 12), type := 22, pos := "slices.go:290", after := #[], guard := none } (.slice (some ⟨g, 0, none⟩) n cap) (Or.inl ⟨by rfl, by intro w hSw; clear hSw; go_simp⟩) hS0 ?_
  try simp only [Act.put, zq1, zq2, zq3]
  refine ztk 1 { dst := some 99, op := .move (.tmp 1), type := 3, pos := "slices.go:290", after := #[], guard := none } (.int .i64 i) (Or.inl ⟨by rfl, by intro w hSw; clear hSw; go_simp⟩) hS0 ?_
  try simp only [Act.put, zq1, zq2, zq3]
  refine ztk 2 { dst := some 100, op := .move (.tmp 3), type := 22, pos := "slices.go:290", after := #[], guard := none } (.slice (some ⟨xb, 0, none⟩) 1 1) (Or.inl ⟨by rfl, by intro w hSw; clear hSw; go_simp⟩) hS0 ?_
  try simp only [Act.put, zq1, zq2, zq3]
  refine ztk 3 { dst := some 101, op := .call { callee := .builtin .len, args := #[.tmp 100], argTypes := #[22] }, type := 3, pos := "slices.go:290", after := #[{ on := 2, ground := .data }], guard := none } (.int .i64 1) (Or.inl ⟨by rfl, by intro w hSw; clear hSw; go_simp⟩) hS0 ?_
  try simp only [Act.put, zq1, zq2, zq3]
  refine ztk 4 { dst := some 102, op := .binOp .add 3 (.tmp 99) (.tmp 101) 3, type := 3, pos := "slices.go:290", after := #[{ on := 1, ground := .data }, { on := 3, ground := .data }], guard := none } (.int .i64 ((i : Int) + 1)) (Or.inl ⟨by rfl, by intro w hSw; clear hSw; go_simp⟩) hS0 ?_
  try simp only [Act.put, zq1, zq2, zq3]
  refine ztk 5 { dst := some 103, op := .slice 22 (.tmp 98) (some (.tmp 102)) none none, type := 22, pos := "slices.go:290", after := #[{ on := 0, ground := .data }, { on := 4, ground := .data }], guard := none } (.slice (some ⟨g, (i + 1) * 6, none⟩) k (cap - (i + 1))) (Or.inl ⟨by rfl, by intro w hSw; clear hSw; go_simp⟩) hS0 ?_
  try simp only [Act.put, zq1, zq2, zq3]
  refine ztk 6 { dst := some 104, op := .move (.tmp 0), type := 22, pos := "slices.go:290", after := #[], guard := none } (.slice (some ⟨g, 0, none⟩) n cap) (Or.inl ⟨by rfl, by intro w hSw; clear hSw; go_simp⟩) hS0 ?_
  try simp only [Act.put, zq1, zq2, zq3]
  refine ztk 7 { dst := some 105, op := .move (.tmp 2), type := 3, pos := "slices.go:290", after := #[], guard := none } (.int .i64 ((i : Int) + 1)) (Or.inl ⟨by rfl, by intro w hSw; clear hSw; go_simp⟩) hS0 ?_
  try simp only [Act.put, zq1, zq2, zq3]
  refine ztk 8 { dst := some 106, op := .slice 22 (.tmp 104) (some (.tmp 105)) none none, type := 22, pos := "slices.go:290", after := #[{ on := 6, ground := .data }, { on := 7, ground := .data }], guard := none } (.slice (some ⟨g, (i + 1) * 6, none⟩) k (cap - (i + 1))) (Or.inl ⟨by rfl, by intro w hSw; clear hSw; go_simp⟩) hS0 ?_
  try simp only [Act.put, zq1, zq2, zq3]
  refine wpAnyH_ready (rs := [9]) (by kernel_rfl) (by simp) ?_
  refine AllReadyH.cons (o := { dst := some 107, op := .call { callee := .builtin .copy, args := #[.tmp 103, .tmp 106], argTypes := #[22, 22] }, type := 3, pos := "slices.go:290", after := #[{ on := 5, ground := .data }, { on := 8, ground := .data }], guard := none }) rfl (fun K hK => ?_) AllReadyH.nil
  refine step_copy_run rfl (.tmp 103) (.tmp 106) 22 22 rfl _ _ (by simp [Act.eval, Act.put]) (by simp [Act.eval, Act.put]) (HCP2.out w7 (HB1.out.bel HW6.out) _) ?_
  refine hK.out _ _ (hS0.trans (kep_setRow _ _ _)) (fun hS1 => ?_)
  clear hK K
  try simp only [Act.put, zq1, zq2, zq3]
  refine wpAnyH_done (by kernel_rfl) ?_ _
  have HE := Lib.hid hS1
  have HB2 := Lib.hid (blk_setRow (HB1.out.bel HW6.out) Y1.toArray)
  obtain ⟨W2, hW2⟩ : ∃ W2, w7.setRow g Y1.toArray = W2 := ⟨_, rfl⟩
  rw [hW2] at HE HB2 ⊢
  clear hW2 hS0 hw1
  go_wp2_with ((with_reducible refine wpList_clear_run rfl _ 22 rfl _ rfl (HCL.out W2 _) ?_))
  go_ret
  exact ⟨rfl, rb_mk c6C (w := W2) (by rw [HSX.out, ← HY1.out]; exact HB2.out) (by rw [HLL.out]; exact HSP.out) (by rw [HLL.out]; omega), HK1.out.trans HE.out⟩

set_option maxRecDepth 100000 in
set_option maxHeartbeats 4000000 in
/-- Nothing is replaced: it comes in. -/
theorem replace_insC (A : Option Addr) (n c i xb : Nat) (w : World) (R : Value → World → Prop) (hi : i ≤ n) (hc : n ≤ c) (h : Calls Tryz.prog 233 #[.slice A n c, .int .i64 i, .slice (some ⟨xb, 0, none⟩) 1 1] w fun e w' => ∃ v', e = .returned v' ∧ R v' w') :
    Calls Tryz.prog 222 #[.slice A n c, .int .i64 i, .int .i64 i, .slice (some ⟨xb, 0, none⟩) 1 1] w fun e w' => ∃ v', e = .returned v' ∧ R v' w' := by
  have H := Lib.hid h
  obtain ⟨D, hsl⟩ : ∃ D, ∀ W, (Instr.slice 22 (.slice A n c) (some (.int .i64 i)) (some (.int .i64 i)) none).run Tryz.prog W = .ok (.slice D (i - i) (c - i)) W := by
    have e : Tryz.prog.elem 22 = 90 := by kernel_rfl
    refine ⟨(if c = i then A else A.map (·.add (i * 6))), fun W => ?_⟩
    rw [run_slice_lh (P := Tryz.prog) (w := W) (t := 22) (a := A) (len := n) (cap := c) (by rw [e]; exact Tryz.underlying22) .i64 .i64 i i (by omega) (by omega) (by omega), e]
    simp [Tryz.sizeOf90, Result.andThen, sliced]
  clear h
  go_enter Tryz.func222, Tryz.ntmps222
  go_wp2_with fail
  refine H.out.mono ?_
  rintro e w1 ⟨v', rfl, hR⟩
  have HR := Lib.hid hR
  clear hR
  go_wp2_with fail
  go_ret
  exact ⟨_, rfl, HR.out⟩
set_option maxRecDepth 100000 in
set_option maxHeartbeats 4000000 in
/-- A list with a row in its place, or with nothing there. -/
theorem putC (v : Value) (base : Nat) (l : List R6) (x1 x2 x3 x4 x5 x6 : Int) (s : Bool) (w : World) (h : OwnR cC 90 w base v l) (hs : Srt ordC l) (hn : l.length ≤ 1000000) (hst : s = false → inB ordC l (x1, x2, x3, x4, x5, x6) = true) (hb : base ≤ w.heap.size) :
    Calls Tryz.prog 207 #[v, .agg #[.int .i64 x1, .int .i64 x2, .int .i64 x3, .int .i64 x4, .int .u64 x5, .int .u64 x6], .func (.func 130) #[] #[], .bool s] w fun e w' => ∃ v', e = .returned v' ∧ OwnR cC 90 w' base v' (put ordC l (x1, x2, x3, x4, x5, x6) s) ∧ Kep (fun b => v.ownBlock = some b) w w' := by
  obtain ⟨A, c, rfl, hrs, hcm, _⟩ := h.rs c6C
  obtain ⟨n, hnl⟩ : ∃ n, l.length = n := ⟨_, rfl⟩
  have HO := Lib.hid h
  have HNL := Lib.hid hnl
  rw [hnl] at hrs hn ⊢
  have hpl := pos_le ordC l (x1, x2, x3, x4, x5, x6)
  rw [hnl] at hpl
  have HPA := Lib.hid (put_at ordC l (x1, x2, x3, x4, x5, x6) s)
  have HIT := Lib.hid (show inB ordC l (x1, x2, x3, x4, x5, x6) = true → pos ordC l (x1, x2, x3, x4, x5, x6) < n from fun hi => by
    rcases Nat.lt_or_ge (pos ordC l (x1, x2, x3, x4, x5, x6)) n with hh | hh
    · exact hh
    · rw [inB_no ordC l _ (List.getElem?_eq_none (by rw [hnl]; exact hh))] at hi; cases hi)
  obtain ⟨R, hR⟩ : ∃ R, put ordC l (x1, x2, x3, x4, x5, x6) s = R := ⟨_, rfl⟩
  rw [hR] at HPA ⊢
  have FD := Lib.hid (fun V (hv : Bel w V) => findC A n c l x1 x2 x3 x4 x5 x6 V (hrs.bel hv) (by omega) hs)
  have HST := Lib.hid hst
  obtain ⟨I, hI⟩ : ∃ I, inB ordC l (x1, x2, x3, x4, x5, x6) = I := ⟨_, rfl⟩
  obtain ⟨i, hi⟩ : ∃ i, pos ordC l (x1, x2, x3, x4, x5, x6) = i := ⟨_, rfl⟩
  rw [hI, hi] at FD HPA
  rw [hI] at HST HIT
  rw [hi] at HIT hpl
  obtain ⟨W, hW⟩ : ∃ W, w.alloc (.cells #[.int .i64 x1, .int .i64 x2, .int .i64 x3, .int .i64 x4, .int .u64 x5, .int .u64 x6] 90) = W := ⟨_, rfl⟩
  have P0 := boxC x1 x2 x3 x4 x5 x6 w
  have B0 : Bel w W := by rw [← hW]; exact (Bel.refl _).alloc _
  rw [hW] at P0
  have HB := Lib.hid B0
  have HCAP := Lib.hid hrs.cap
  clear hR hI hi h hs hst hrs hnl B0
  go_enter Tryz.func207, Tryz.ntmps207
  go_upto_region 1 with fail
  obtain ⟨g, hg⟩ : ∃ g, w.heap.size = g := ⟨_, rfl⟩
  rw [hg]
  rw [hg] at P0
  have Q0 := Lib.hid P0
  have HG := Lib.hid hg
  clear P0 hW hg
  obtain ⟨c0, c1, c2, c3, c4, c5⟩ := rng6 (rngB (C := [.int .i64 x1, .int .i64 x2, .int .i64 x3, .int .i64 x4, .int .u64 x5, .int .u64 x6]) Q0.out)
  rw [Nat.zero_add] at c1 c2 c3 c4 c5
  go_wp2_with fail
  refine (FD.out _ HB.out).mono ?_
  rintro e V ⟨rfl, kb⟩
  have BV := Lib.hid (HB.out.trans kb)
  have QV := Lib.hid (Q0.out.bel kb)
  have OV := Lib.hid (HO.out.bel BV.out)
  clear kb c0 c1 c2 c3 c4 c5 FD HO Q0
  have hbV : base ≤ V.heap.size := Nat.le_trans hb (Below.size BV.out)
  obtain ⟨c0, c1, c2, c3, c4, c5⟩ := rng6 (rngB (C := [.int .i64 x1, .int .i64 x2, .int .i64 x3, .int .i64 x4, .int .u64 x5, .int .u64 x6]) QV.out)
  rw [Nat.zero_add] at c1 c2 c3 c4 c5
  have hXR := fun V2 (hv : Bel V V2) => Blk.new V2 #[.int .i64 x1, .int .i64 x2, .int .i64 x3, .int .i64 x4, .int .u64 x5, .int .u64 x6] 90
  cases s
  · obtain rfl : I = true := HST.out rfl
    have hin : i < n := HIT.out rfl
    obtain ⟨gl, cap, e3, hgl, hrb, hcap⟩ := rb_own c6C OV.out (by rw [HNL.out]; omega)
    injection e3 with e1 e2 e3
    subst e1 e3
    have DL := Lib.hid (deleteC gl c i l V hrb (by rw [HNL.out]; exact hin) (by rw [HNL.out]; omega) hcap)
    rw [HNL.out] at DL
    have HL2 := Lib.hid (show (l.take i ++ l.drop (i + 1)).length = n - 1 by rw [List.length_append, List.length_take, List.length_drop, HNL.out]; omega)
    have hp : R = l.take i ++ l.drop (i + 1) := by rw [HPA.out]; simp
    have HP := Lib.hid hp
    clear hrb hXR hp
    go_wp2_with fail
    refine DL.out.mono ?_
    rintro e V2 ⟨rfl, hr2, hk2⟩
    have HR2 := Lib.hid hr2
    have HK2 := Lib.hid hk2
    clear hr2 hk2 c0 c1 c2 c3 c4 c5
    go_wp2_with fail
    go_ret
    refine ⟨_, rfl, ?_, ?_⟩
    · rw [HP.out, ← HL2.out]
      exact own_rb HR2.out (Nat.le_trans hgl (Nat.le_refl _)) hcap
    · exact ((Kep.of_bel BV.out).trans HK2.out).mono (fun k _ e => by rw [e]; rfl)
  · cases I
    · -- it comes in
      have hp : R = l.take i ++ (x1, x2, x3, x4, x5, x6) :: l.drop i := by rw [HPA.out]; simp
      have HP := Lib.hid hp
      clear hp
      have IN := Lib.hid (show ∀ V2 xb, Bel V V2 → Blk V2 xb #[.int .i64 x1, .int .i64 x2, .int .i64 x3, .int .i64 x4, .int .u64 x5, .int .u64 x6] 90 → V.heap.size ≤ xb → Calls Tryz.prog 233 #[.slice A n c, .int .i64 i, .slice (some ⟨xb, 0, none⟩) 1 1] V2 fun e w' => ∃ v', e = .returned v' ∧ OwnR cC 90 w' base v' R ∧ Kep (fun b => (Value.slice A n c).ownBlock = some b) V2 w' from fun V2 xb hv hx hxb => by
        have hx : Blk V2 xb (cC (x1, x2, x3, x4, x5, x6)).toArray 90 := hx
        have hO2 := OV.out.bel hv
        rw [HP.out]
        by_cases hend : i = n
        · subst hend
          have := insert_endC (.slice A i c) l (x1, x2, x3, x4, x5, x6) base xb V2 (by rw [HNL.out] at hO2; exact hO2) (by rw [HNL.out]; omega) hx (Nat.le_trans hbV (Below.size hv))
          rw [HNL.out] at this
          refine this.mono ?_
          rintro e w' ⟨v', h1, h2, h3⟩
          refine ⟨v', h1, ?_, h3⟩
          rw [List.take_of_length_le (by rw [HNL.out]; exact Nat.le_refl _), List.drop_eq_nil_of_le (by rw [HNL.out]; exact Nat.le_refl _)]
          exact h2
        · obtain ⟨gl, cap, e3, hgl, hrb, hcap⟩ := rb_own c6C hO2 (by rw [HNL.out]; omega)
          rw [HNL.out] at e3
          injection e3 with e1 e2 e3
          subst e1 e3
          have hne : xb ≠ gl := by
            have h1 := (OV.out.lt gl rfl).2
            omega
          by_cases hroom : n < c
          · have := insert_roomC gl c i l (x1, x2, x3, x4, x5, x6) xb V2 hrb (by rw [HNL.out]; omega) (by rw [HNL.out]; omega) hcap (by rw [HNL.out]; exact hroom) hx hne
            rw [HNL.out] at this
            refine this.mono ?_
            rintro e w' ⟨h1, h2, h3⟩
            have hl : (l.take i ++ (x1, x2, x3, x4, x5, x6) :: l.drop i).length = n + 1 := by simp [HNL.out]; omega
            exact ⟨_, h1, by rw [← hl]; exact own_rb h2 hgl hcap, h3.mono (fun k _ e => by rw [e]; rfl)⟩
          · have := insert_growC gl c i l (x1, x2, x3, x4, x5, x6) xb V2 hrb (by rw [HNL.out]; omega) (by rw [HNL.out]; omega) hcap (by rw [HNL.out]; exact hroom) hx
            rw [HNL.out] at this
            refine this.mono ?_
            rintro e w' ⟨g2, c2, h1, h2, h3, h4, h5⟩
            have hl : (l.take i ++ (x1, x2, x3, x4, x5, x6) :: l.drop i).length = n + 1 := by simp [HNL.out]; omega
            exact ⟨_, h1, by rw [← hl]; exact own_rb h2 (Nat.le_trans hbV (Nat.le_trans (Below.size hv) h4)) h5, Kep.of_bel h3⟩)
      have RI := Lib.hid (fun V2 xb hv hx hxb => replace_insC A n c i xb V2 (fun v' w' => OwnR cC 90 w' base v' R ∧ Kep (fun b => (Value.slice A n c).ownBlock = some b) V2 w') hpl HCAP.out (IN.out V2 xb hv hx hxb))
      have HXB := Lib.hid (Blk.new V #[.int .i64 x1, .int .i64 x2, .int .i64 x3, .int .i64 x4, .int .u64 x5, .int .u64 x6] 90)
      obtain ⟨V3, hV3⟩ : ∃ V3, V.alloc (.cells #[.int .i64 x1, .int .i64 x2, .int .i64 x3, .int .i64 x4, .int .u64 x5, .int .u64 x6] 90) = V3 := ⟨_, rfl⟩
      have BV3 := Lib.hid (show Bel V V3 by rw [← hV3]; exact (Bel.refl _).alloc _)
      rw [hV3] at HXB
      clear hXR IN
      go_wp2_with fail
      refine (RI.out _ _ BV3.out HXB.out (Nat.le_refl _)).mono ?_
      rintro e V4 ⟨v', rfl, hR, hk⟩
      have HR := Lib.hid hR
      have HK := Lib.hid hk
      clear hR hk c0 c1 c2 c3 c4 c5 hV3
      go_wp2_with fail
      go_ret
      exact ⟨_, rfl, HR.out, (Kep.of_bel (BV.out.trans BV3.out)).trans HK.out⟩
    · -- it takes another one's place
      have hin : i < n := HIT.out rfl
      have hp : R = l.take i ++ (x1, x2, x3, x4, x5, x6) :: l.drop (i + 1) := by rw [HPA.out]; simp
      have HP := Lib.hid hp
      clear hp
      obtain ⟨gl, cap, e3, hgl, hrb, hcap⟩ := rb_own c6C OV.out (by rw [HNL.out]; omega)
      rw [HNL.out] at e3
      injection e3 with e1 e2 e3
      subst e1 e3
      have RI := Lib.hid (show ∀ V2 xb, Bel V V2 → Blk V2 xb #[.int .i64 x1, .int .i64 x2, .int .i64 x3, .int .i64 x4, .int .u64 x5, .int .u64 x6] 90 → Calls Tryz.prog 222 #[.slice (some ⟨gl, 0, none⟩) n c, .int .i64 i, .int .i64 ((i : Int) + 1), .slice (some ⟨xb, 0, none⟩) 1 1] V2 fun e w' => ∃ v', e = .returned v' ∧ OwnR cC 90 w' base v' R ∧ Kep (fun b => b = gl) V2 w' from fun V2 xb hv hx => by
        have hx : Blk V2 xb (cC (x1, x2, x3, x4, x5, x6)).toArray 90 := hx
        rw [HP.out]
        by_cases hend : i + 1 = n
        · have := replace_lastC gl c i base xb l (x1, x2, x3, x4, x5, x6) V2 (hrb.bel hv) (by rw [HNL.out]; exact hend) (by rw [HNL.out]; omega) hcap hx (Nat.le_trans hbV (Below.size hv)) hgl
          rwa [HNL.out] at this
        · have := replace_midC gl c i xb l (x1, x2, x3, x4, x5, x6) V2 (hrb.bel hv) (by rw [HNL.out]; omega) (by rw [HNL.out]; omega) hcap hx
          rw [HNL.out] at this
          refine this.mono ?_
          rintro e w' ⟨h1, h2, h3⟩
          have hl : (l.take i ++ (x1, x2, x3, x4, x5, x6) :: l.drop (i + 1)).length = n := by simp [HNL.out]; omega
          exact ⟨_, h1, by rw [← hl]; exact own_rb h2 hgl hcap, h3⟩)
      have HXB := Lib.hid (Blk.new V #[.int .i64 x1, .int .i64 x2, .int .i64 x3, .int .i64 x4, .int .u64 x5, .int .u64 x6] 90)
      obtain ⟨V3, hV3⟩ : ∃ V3, V.alloc (.cells #[.int .i64 x1, .int .i64 x2, .int .i64 x3, .int .i64 x4, .int .u64 x5, .int .u64 x6] 90) = V3 := ⟨_, rfl⟩
      have BV3 := Lib.hid (show Bel V V3 by rw [← hV3]; exact (Bel.refl _).alloc _)
      rw [hV3] at HXB
      clear hXR hrb
      go_wp2_with fail
      refine (RI.out _ _ BV3.out HXB.out).mono ?_
      rintro e V4 ⟨v', rfl, hR, hk⟩
      have HR := Lib.hid hR
      have HK := Lib.hid hk
      clear hR hk c0 c1 c2 c3 c4 c5 hV3
      go_wp2_with fail
      go_ret
      exact ⟨_, rfl, HR.out, ((Kep.of_bel (BV.out.trans BV3.out)).trans HK.out).mono (fun k _ e => by rw [e]; rfl)⟩

set_option maxRecDepth 100000 in
set_option maxHeartbeats 8000000 in
/-- The last one. -/
theorem replace_lastP (g cap i base xb : Nat) (l : List R6) (x : R6) (w : World) (h : RB cP 93 w g l cap) (hi : i + 1 = l.length) (hn : l.length ≤ 1000000000) (hm : cap ≤ maxLen) (hx : Blk w xb (cP x).toArray 93) (hb : base ≤ w.heap.size) (hg : base ≤ g) :
    Calls Tryz.prog 224 #[.slice (some ⟨g, 0, none⟩) l.length cap, .int .i64 i, .int .i64 ((i : Int) + 1), .slice (some ⟨xb, 0, none⟩) 1 1] w fun e w' => ∃ v', e = .returned v' ∧ OwnR cP 93 w' base v' (l.take i ++ x :: l.drop (i + 1)) ∧ Kep (fun b => b = g) w w' := by
  obtain ⟨n, hnl⟩ : ∃ n, l.length = n := ⟨_, rfl⟩
  have hcap := h.cap
  have HO := Lib.hid (own_pre c6P h hg hm (i := i) (by omega))
  have HX := Lib.hid (show RS cP w (some ⟨xb, 0, none⟩) 1 1 [x] from rs_blk c6P hx rfl (Nat.le_refl _) (by simpa [flat] using List.take_of_length_le (by rw [c6P.len]; exact Nat.le_refl _)))
  have HLI := Lib.hid (show (l.take i).length = i by rw [List.length_take]; omega)
  have HDR := Lib.hid (show l.drop (i + 1) = [] from List.drop_eq_nil_of_le (by omega))
  rw [hnl] at hi hn hcap ⊢
  unfold maxLen at hm
  have hs1 := fun W => slice_hrP g n cap i W (by omega)
  have hs2 := fun W => slice_lhP g n cap i (i + 1) W (by omega) (by omega) (by omega)
  push_cast at hs2
  have hie2 : ((i : Int) + 1 == (n : Int)) = true := by rw [beq_iff_eq]; omega
  have HIN := Lib.hid hi
  have hin : i < n := by omega
  clear hi
  have hie : ((i : Int) == (i : Int) + 1) = false := by rw [beq_eq_false_iff_ne]; omega
  clear h hx hnl
  go_enter Tryz.func224, Tryz.ntmps224
  go_wp2_with (at_builtin; refine wpList_append_P rfl _ _ rfl base _ (l.take i) rfl HO.out (some ⟨xb, 0, none⟩) 1 1 [x] rfl HX.out (by rw [HLI.out]; omega) hb ?_; intro v' w1 hown' hgrow; obtain ⟨A3, c3, e3, hr3, _⟩ := OwnR.rs c6P hown'; rw [show (l.take i ++ [x]).length = n from by rw [List.length_append, HLI.out]; exact HIN.out] at e3; subst e3; clear hr3)
  have HK := Lib.hid (Kep.grown (S := fun b => b = g) (Kep.refl _ w) hgrow (fun k e _ => by injection e with e; exact e.symm))
  have HO2 := Lib.hid hown'
  clear hown' hgrow
  (try go_wp2_with fail)
  go_ret
  exact ⟨_, rfl, by rw [HDR.out]; exact HO2.out, HK.out⟩
set_option maxRecDepth 100000 in
set_option maxHeartbeats 8000000 in
/-- One ahead of others. -/
theorem replace_midP (g cap i xb : Nat) (l : List R6) (x : R6) (w : World) (h : RB cP 93 w g l cap) (hi : i + 1 < l.length) (hn : l.length ≤ 1000000000) (hm : cap ≤ maxLen) (hx : Blk w xb (cP x).toArray 93) :
    Calls Tryz.prog 224 #[.slice (some ⟨g, 0, none⟩) l.length cap, .int .i64 i, .int .i64 ((i : Int) + 1), .slice (some ⟨xb, 0, none⟩) 1 1] w fun e w' => e = .returned (.slice (some ⟨g, 0, none⟩) l.length cap) ∧ RB cP 93 w' g (l.take i ++ x :: l.drop (i + 1)) cap ∧ Kep (fun b => b = g) w w' := by
  obtain ⟨n, hnl⟩ : ∃ n, l.length = n := ⟨_, rfl⟩
  have hcap := h.cap
  obtain ⟨sp, hb, hsp⟩ := rb_list c6P h
  rw [hnl] at hi hn hcap hsp ⊢
  unfold maxLen at hm
  have hXl := c6P.len x
  have hPl : (flat cP (l.take i)).length = i * 6 := by rw [flat_len c6P, List.length_take, hnl]; omega
  have hSl : (flat cP (l.drop (i + 1))).length = (n - (i + 1)) * 6 := by rw [flat_len c6P, List.length_drop, hnl]
  have hPS : flat cP l = flat cP (l.take i) ++ flat cP ((l.drop i).take 1) ++ flat cP (l.drop (i + 1)) := by
    rw [← flat_app, ← flat_app]
    congr 1
    rw [List.append_assoc, show l.drop (i + 1) = (l.drop i).drop 1 by rw [List.drop_drop], List.take_append_drop, List.take_append_drop]
  have hOl : (flat cP ((l.drop i).take 1)).length = 6 := by rw [flat_len c6P, List.length_take, List.length_drop, hnl, Nat.min_eq_left (by omega)]
  obtain ⟨P, hP⟩ : ∃ P, flat cP (l.take i) = P := ⟨_, rfl⟩
  obtain ⟨X0, hX0⟩ : ∃ X0, flat cP ((l.drop i).take 1) = X0 := ⟨_, rfl⟩
  obtain ⟨S, hS⟩ : ∃ S, flat cP (l.drop (i + 1)) = S := ⟨_, rfl⟩
  have hS1 : ∀ u ∈ S, u.oneCell' = true := by rw [← hS]; exact flat_one c6P _
  have HSX := Lib.hid (show flat cP (l.take i ++ x :: l.drop (i + 1)) = P ++ cP x ++ S by rw [flat_app, ← hP, ← hS]; show _ ++ (cP x ++ flat cP (l.drop (i + 1))) = _; rw [List.append_assoc])
  have HLL := Lib.hid (show (l.take i ++ x :: l.drop (i + 1)).length = n by simp [hnl]; omega)
  rw [hP, hX0, hS] at hPS
  rw [hPS] at hb
  rw [hP] at hPl
  rw [hX0] at hOl
  rw [hS] at hSl
  obtain ⟨Y, hY⟩ : ∃ Y, Y = P ++ X0 ++ (S ++ sp) := ⟨_, rfl⟩
  have hb : Blk w g Y.toArray 93 := by rw [hY]; simpa [List.append_assoc] using hb
  have hYl : Y.length = cap * 6 := by rw [hY]; simp [hPl, hSl, hsp, hOl]; omega
  obtain ⟨Y1, hY1⟩ : ∃ Y1, Y1 = P ++ cP x ++ S ++ sp := ⟨_, rfl⟩
  have hY1l : Y1.length = cap * 6 := by rw [hY1]; simp [hPl, hSl, hsp, hXl]; omega
  have hcp1 : ∀ W, Bel w W → ∀ ty, (Builtin.copy_ #[23, 23] ty #[.slice (some ⟨g, i * 6, none⟩) (n - i) (cap - i), .slice (some ⟨xb, 0, none⟩) 1 1]).run Tryz.prog W = .ok (goInt (1 : Nat)) (W.setRow g Y1.toArray) := fun W hW ty => by
    have hmin : Nat.min 1 (n - i) = 1 := by show min _ _ = _; omega
    have hr := run_copy6 W 23 23 ty 93 g (i * 6) (n - i) (cap - i) ⟨xb, 0, none⟩ 1 1 Y _ (cP x) Tryz.underlying23 info_p (hb.bel hW) (by rw [hmin, hXl]) (fun j u hj => by
      rw [add_at, Nat.zero_add]
      exact (hx.bel hW).cell _ (by simpa using hj)) (by rw [hYl, hXl]; omega) (c6P.one x)
    rw [hr, hmin, hY1, hXl, hY, cut1 P X0 (S ++ sp) (cP x) (i * 6) hPl hOl hXl]
    simp only [List.append_assoc]
  have hcp2 : ∀ W, Blk W g Y1.toArray 93 → ∀ ty, (Builtin.copy_ #[23, 23] ty #[.slice (some ⟨g, (i + 1) * 6, none⟩) (n - (i + 1)) (cap - (i + 1)), .slice (some ⟨g, (i + 1) * 6, none⟩) (n - (i + 1)) (cap - (i + 1))]).run Tryz.prog W = .ok (goInt (n - (i + 1) : Nat)) (W.setRow g Y1.toArray) := fun W hW ty => by
    have hmin : Nat.min (n - (i + 1)) (n - (i + 1)) = n - (i + 1) := by show min _ _ = _; omega
    have hq : (P ++ cP x).length = (i + 1) * 6 := by simp [hPl, hXl]; omega
    have hr := run_copy6 W 23 23 ty 93 g ((i + 1) * 6) (n - (i + 1)) (cap - (i + 1)) ⟨g, (i + 1) * 6, none⟩ (n - (i + 1)) (cap - (i + 1)) Y1 _ S Tryz.underlying23 info_p hW (by rw [hmin, hSl]) (fun j u hj => by
      rw [add_at]
      refine hW.cell _ ?_
      have hj2 := (List.getElem?_eq_some_iff.1 hj).1
      rw [List.getElem?_toArray, hY1, List.append_assoc _ S sp, List.getElem?_append_right (by omega), hq, Nat.add_sub_cancel_left, List.getElem?_append_left hj2]
      exact hj) (by rw [hY1l, hSl]; omega) hS1
    rw [hr, hmin]
    congr 3
    rw [hY1]
    exact splice_self (P ++ cP x) sp S ((i + 1) * 6) hq
  obtain ⟨D, hD⟩ : ∃ D : Addr, (if cap = n then (⟨g, 0, none⟩ : Addr) else ⟨g, n * 6, none⟩) = D := ⟨_, rfl⟩
  have hcl : ∀ W ty, (Builtin.clear_ #[23] ty #[.slice (some D) 0 (cap - n)]).run Tryz.prog W = .ok (.tuple #[]) W := fun W ty => by
    simp [Builtin.clear_, run_underlying Tryz.underlying23]
  have hs1 := fun W => slice_hrP g n cap i W (by omega)
  have hs2 := fun W => slice_ltP g n cap (i + 1) W (by omega) (by omega)
  have hs3 := fun W => slice_ltP g n cap i W (by omega) (by omega)
  have hs4 := fun W => slice_hrP g n cap n W (by omega)
  have hs5 := fun W => slice_lP g n cap n W (by omega) (by omega)
  have hs6 := fun W => slice_lhP g n cap i (i + 1) W (by omega) (by omega) (by omega)
  rw [hD] at hs5
  push_cast at hs2 hs6
  obtain ⟨k, hk⟩ : ∃ k, n - (i + 1) = k := ⟨_, rfl⟩
  have hkn : (i : Int) + 1 + k = n := by omega
  rw [hk] at hs2 hcp2
  have HCP1 := Lib.hid hcp1
  have HCP2 := Lib.hid hcp2
  have HCL := Lib.hid hcl
  have HB := Lib.hid hb
  have HY1 := Lib.hid hY1
  have HSP := Lib.hid hsp
  have hin : (i : Int) + 1 < n := by omega
  have hie : ((i : Int) == (i : Int) + 1) = false := by rw [beq_eq_false_iff_ne]; omega
  have hie2 : ((i : Int) + 1 == (n : Int)) = false := by rw [beq_eq_false_iff_ne]; omega
  have hnc : (n : Int) ≤ cap := by omega
  have HKK := Lib.hid hk
  clear hcp1 hcp2 hcl hb hx hYl hSl hY hY1 hY1l hP hS hS1 hPl hPS hXl hOl hX0 hsp h hnl hD hcap hi
  go_enter Tryz.func224, Tryz.ntmps224
  go_upto_region 9 with fail
  have hw1 : IntKind.i64.wrap ((i : Int) + 1) = (i : Int) + 1 := IntWalk.i64_in _ ⟨by omega, by omega⟩
  have hw2 : IntKind.i64.wrap ((i : Int) + 1 + k) = (n : Int) := by rw [hkn]; exact IntWalk.i64_in _ ⟨by omega, by omega⟩
  have HKN := Lib.hid hkn
  clear hkn
  refine wp_region_held_drew (S := fun Vx => Bel w Vx) (by kernel_rfl) (Bel.refl _).drew (fun hS0 => ?_)
  obtain ⟨w6, hw6⟩ : ∃ w6, World.drew w = w6 := ⟨_, rfl⟩
  rw [hw6] at hS0 ⊢
  clear hw6
  refine ztk 0 { dst := some 45, op := .move (.tmp 0), type := 23, pos := "slices.go:276", after := #[], guard := none } (.slice (some ⟨g, 0, none⟩) n cap) (Or.inl ⟨by rfl, by intro w hSw; clear hSw; go_simp⟩) hS0 ?_
  try simp only [Act.put, zq1, zq2, zq3]
  refine ztk 1 { dst := some 46, op := .move (.tmp 1), type := 3, pos := "slices.go:276", after := #[], guard := none } (.int .i64 i) (Or.inl ⟨by rfl, by intro w hSw; clear hSw; go_simp⟩) hS0 ?_
  try simp only [Act.put, zq1, zq2, zq3]
  refine ztk 2 { dst := some 47, op := .slice 23 (.tmp 45) none (some (.tmp 46)) none, type := 23, pos := "slices.go:276", after := #[{ on := 0, ground := .data }, { on := 1, ground := .data }], guard := none } (.slice (some ⟨g, 0, none⟩) i cap) (Or.inl ⟨by rfl, by intro w hSw; clear hSw; go_simp⟩) hS0 ?_
  try simp only [Act.put, zq1, zq2, zq3]
  refine ztk 3 { dst := some 48, op := .call { callee := .builtin .len, args := #[.tmp 47], argTypes := #[23] }, type := 3, pos := "slices.go:276", after := #[{ on := 2, ground := .data }], guard := none } (.int .i64 i) (Or.inl ⟨by rfl, by intro w hSw; clear hSw; go_simp⟩) hS0 ?_
  try simp only [Act.put, zq1, zq2, zq3]
  refine ztk 4 { dst := some 49, op := .move (.tmp 3), type := 23, pos := "slices.go:276", after := #[], guard := none } (.slice (some ⟨xb, 0, none⟩) 1 1) (Or.inl ⟨by rfl, by intro w hSw; clear hSw; go_simp⟩) hS0 ?_
  try simp only [Act.put, zq1, zq2, zq3]
  refine ztk 5 { dst := some 50, op := .call { callee := .builtin .len, args := #[.tmp 49], argTypes := #[23] }, type := 3, pos := "slices.go:276", after := #[{ on := 4, ground := .data }], guard := none } (.int .i64 1) (Or.inl ⟨by rfl, by intro w hSw; clear hSw; go_simp⟩) hS0 ?_
  try simp only [Act.put, zq1, zq2, zq3]
  refine ztk 6 { dst := some 51, op := .binOp .add 3 (.tmp 48) (.tmp 50) 3, type := 3, pos := "slices.go:276", after := #[{ on := 3, ground := .data }, { on := 5, ground := .data }], guard := none } (.int .i64 ((i : Int) + 1)) (Or.inl ⟨by rfl, by intro w hSw; clear hSw; go_simp⟩) hS0 ?_
  try simp only [Act.put, zq1, zq2, zq3]
  refine ztk 7 { dst := some 52, op := .move (.tmp 0), type := 23, pos := "slices.go:276", after := #[], guard := none } (.slice (some ⟨g, 0, none⟩) n cap) (Or.inl ⟨by rfl, by intro w hSw; clear hSw; go_simp⟩) hS0 ?_
  try simp only [Act.put, zq1, zq2, zq3]
  refine ztk 8 { dst := some 53, op := .move (.tmp 2), type := 3, pos := "slices.go:276", after := #[], guard := none } (.int .i64 ((i : Int) + 1)) (Or.inl ⟨by rfl, by intro w hSw; clear hSw; go_simp⟩) hS0 ?_
  try simp only [Act.put, zq1, zq2, zq3]
  refine ztk 9 { dst := some 54, op := .slice 23 (.tmp 52) (some (.tmp 53)) none none, type := 23, pos := "slices.go:276", after := #[{ on := 7, ground := .data }, { on := 8, ground := .data }], guard := none } (.slice (some ⟨g, (i + 1) * 6, none⟩) k (cap - (i + 1))) (Or.inl ⟨by rfl, by intro w hSw; clear hSw; go_simp⟩) hS0 ?_
  try simp only [Act.put, zq1, zq2, zq3]
  refine ztk 10 { dst := some 55, op := .call { callee := .builtin .len, args := #[.tmp 54], argTypes := #[23] }, type := 3, pos := "slices.go:276", after := #[{ on := 9, ground := .data }], guard := none } (.int .i64 k) (Or.inl ⟨by rfl, by intro w hSw; clear hSw; go_simp⟩) hS0 ?_
  try simp only [Act.put, zq1, zq2, zq3]
  refine ztk 11 { dst := some 56, op := .binOp .add 3 (.tmp 51) (.tmp 55) 3, type := 3, pos := "slices.go:276", after := #[{ on := 6, ground := .data }, { on := 10, ground := .data }], guard := none } (.int .i64 n) (Or.inl ⟨by rfl, by intro w hSw; clear hSw; go_simp⟩) hS0 ?_
  try simp only [Act.put, zq1, zq2, zq3]
  refine ztk 12 { dst := some 10, op := .assign (.tmp 56), type := 3, pos := "slices.go:276", after := #[{ on := 11, ground := .data }, { on := 0, ground := .phase }, { on := 1, ground := .phase }, { on := 2, ground := .phase }, { on := 3, ground := .phase }, { on := 4, ground := .phase }, { on := 5, ground := .phase }, { on := 6, ground := .phase }, { on := 7, ground := .phase }, { on := 8, ground := .phase }, { on := 9, ground := .phase }, { on := 10, ground := .phase }, { on := 11, ground := .phase }], guard := none } (.int .i64 n) (Or.inl ⟨by rfl, by intro w hSw; clear hSw; go_simp⟩) hS0 ?_
  try simp only [Act.put, zq1, zq2, zq3]
  refine wpAnyH_done (by kernel_rfl) ?_ _
  have HE0 := Lib.hid hS0
  clear hw1 hw2
  go_upto_region 18 with ((with_reducible refine wpList_copy_run rfl _ _ 23 23 rfl _ _ rfl rfl (HCP1.out w6 HE0.out _) ?_))
  have HB1 := Lib.hid (blk_setRow (HB.out.bel HE0.out) Y1.toArray)
  have HK1 := Lib.hid ((Kep.of_bel (S := fun b => b = g) HE0.out).trans (kep_setRow w6 g Y1.toArray))
  obtain ⟨W1, hW1⟩ : ∃ W1, w6.setRow g Y1.toArray = W1 := ⟨_, rfl⟩
  rw [hW1] at HB1 HK1 ⊢
  clear hW1
  have hw1 : IntKind.i64.wrap ((i : Int) + 1) = (i : Int) + 1 := IntWalk.i64_in _ ⟨by omega, by omega⟩
  refine wp_region_held_drew (S := fun Vx => Kep (fun b => b = g) W1 Vx) (by kernel_rfl) (Kep.drew (Kep.refl _ _)) (fun hS0 => ?_)
  have HW6 := Lib.hid (show Bel W1 W1.drew from (Bel.refl _).drew)
  obtain ⟨w7, hw7⟩ : ∃ w7, World.drew W1 = w7 := ⟨_, rfl⟩
  rw [hw7] at hS0 HW6 ⊢
  clear hw7
  refine ztk 0 { dst := some 98, op := .move (.tmp 12), type := 23, pos := "slices.go:290", after := #[], guard := none } (.slice (some ⟨g, 0, none⟩) n cap) (Or.inl ⟨by rfl, by intro w hSw; clear hSw; go_simp⟩) hS0 ?_
  try simp only [Act.put, zq1, zq2, zq3]
  refine ztk 1 { dst := some 99, op := .move (.tmp 1), type := 3, pos := "slices.go:290", after := #[], guard := none } (.int .i64 i) (Or.inl ⟨by rfl, by intro w hSw; clear hSw; go_simp⟩) hS0 ?_
  try simp only [Act.put, zq1, zq2, zq3]
  refine ztk 2 { dst := some 100, op := .move (.tmp 3), type := 23, pos := "slices.go:290", after := #[], guard := none } (.slice (some ⟨xb, 0, none⟩) 1 1) (Or.inl ⟨by rfl, by intro w hSw; clear hSw; go_simp⟩) hS0 ?_
  try simp only [Act.put, zq1, zq2, zq3]
  refine ztk 3 { dst := some 101, op := .call { callee := .builtin .len, args := #[.tmp 100], argTypes := #[23] }, type := 3, pos := "slices.go:290", after := #[{ on := 2, ground := .data }], guard := none } (.int .i64 1) (Or.inl ⟨by rfl, by intro w hSw; clear hSw; go_simp⟩) hS0 ?_
  try simp only [Act.put, zq1, zq2, zq3]
  refine ztk 4 { dst := some 102, op := .binOp .add 3 (.tmp 99) (.tmp 101) 3, type := 3, pos := "slices.go:290", after := #[{ on := 1, ground := .data }, { on := 3, ground := .data }], guard := none } (.int .i64 ((i : Int) + 1)) (Or.inl ⟨by rfl, by intro w hSw; clear hSw; go_simp⟩) hS0 ?_
  try simp only [Act.put, zq1, zq2, zq3]
  refine ztk 5 { dst := some 103, op := .slice 23 (.tmp 98) (some (.tmp 102)) none none, type := 23, pos := "slices.go:290", after := #[{ on := 0, ground := .data }, { on := 4, ground := .data }], guard := none } (.slice (some ⟨g, (i + 1) * 6, none⟩) k (cap - (i + 1))) (Or.inl ⟨by rfl, by intro w hSw; clear hSw; go_simp⟩) hS0 ?_
  try simp only [Act.put, zq1, zq2, zq3]
  refine ztk 6 { dst := some 104, op := .move (.tmp 0), type := 23, pos := "slices.go:290", after := #[], guard := none } (.slice (some ⟨g, 0, none⟩) n cap) (Or.inl ⟨by rfl, by intro w hSw; clear hSw; go_simp⟩) hS0 ?_
  try simp only [Act.put, zq1, zq2, zq3]
  refine ztk 7 { dst := some 105, op := .move (.tmp 2), type := 3, pos := "slices.go:290", after := #[], guard := none } (.int .i64 ((i : Int) + 1)) (Or.inl ⟨by rfl, by intro w hSw; clear hSw; go_simp⟩) hS0 ?_
  try simp only [Act.put, zq1, zq2, zq3]
  refine ztk 8 { dst := some 106, op := .slice 23 (.tmp 104) (some (.tmp 105)) none none, type := 23, pos := "slices.go:290", after := #[{ on := 6, ground := .data }, { on := 7, ground := .data }], guard := none } (.slice (some ⟨g, (i + 1) * 6, none⟩) k (cap - (i + 1))) (Or.inl ⟨by rfl, by intro w hSw; clear hSw; go_simp⟩) hS0 ?_
  try simp only [Act.put, zq1, zq2, zq3]
  refine wpAnyH_ready (rs := [9]) (by kernel_rfl) (by simp) ?_
  refine AllReadyH.cons (o := { dst := some 107, op := .call { callee := .builtin .copy, args := #[.tmp 103, .tmp 106], argTypes := #[23, 23] }, type := 3, pos := "slices.go:290", after := #[{ on := 5, ground := .data }, { on := 8, ground := .data }], guard := none }) rfl (fun K hK => ?_) AllReadyH.nil
  refine step_copy_run rfl (.tmp 103) (.tmp 106) 23 23 rfl _ _ (by simp [Act.eval, Act.put]) (by simp [Act.eval, Act.put]) (HCP2.out w7 (HB1.out.bel HW6.out) _) ?_
  refine hK.out _ _ (hS0.trans (kep_setRow _ _ _)) (fun hS1 => ?_)
  clear hK K
  try simp only [Act.put, zq1, zq2, zq3]
  refine wpAnyH_done (by kernel_rfl) ?_ _
  have HE := Lib.hid hS1
  have HB2 := Lib.hid (blk_setRow (HB1.out.bel HW6.out) Y1.toArray)
  obtain ⟨W2, hW2⟩ : ∃ W2, w7.setRow g Y1.toArray = W2 := ⟨_, rfl⟩
  rw [hW2] at HE HB2 ⊢
  clear hW2 hS0 hw1
  go_wp2_with ((with_reducible refine wpList_clear_run rfl _ 23 rfl _ rfl (HCL.out W2 _) ?_))
  go_ret
  exact ⟨rfl, rb_mk c6P (w := W2) (by rw [HSX.out, ← HY1.out]; exact HB2.out) (by rw [HLL.out]; exact HSP.out) (by rw [HLL.out]; omega), HK1.out.trans HE.out⟩

set_option maxRecDepth 100000 in
set_option maxHeartbeats 4000000 in
/-- Nothing is replaced: it comes in. -/
theorem replace_insP (A : Option Addr) (n c i xb : Nat) (w : World) (R : Value → World → Prop) (hi : i ≤ n) (hc : n ≤ c) (h : Calls Tryz.prog 237 #[.slice A n c, .int .i64 i, .slice (some ⟨xb, 0, none⟩) 1 1] w fun e w' => ∃ v', e = .returned v' ∧ R v' w') :
    Calls Tryz.prog 224 #[.slice A n c, .int .i64 i, .int .i64 i, .slice (some ⟨xb, 0, none⟩) 1 1] w fun e w' => ∃ v', e = .returned v' ∧ R v' w' := by
  have H := Lib.hid h
  obtain ⟨D, hsl⟩ : ∃ D, ∀ W, (Instr.slice 23 (.slice A n c) (some (.int .i64 i)) (some (.int .i64 i)) none).run Tryz.prog W = .ok (.slice D (i - i) (c - i)) W := by
    have e : Tryz.prog.elem 23 = 93 := by kernel_rfl
    refine ⟨(if c = i then A else A.map (·.add (i * 6))), fun W => ?_⟩
    rw [run_slice_lh (P := Tryz.prog) (w := W) (t := 23) (a := A) (len := n) (cap := c) (by rw [e]; exact Tryz.underlying23) .i64 .i64 i i (by omega) (by omega) (by omega), e]
    simp [Tryz.sizeOf93, Result.andThen, sliced]
  clear h
  go_enter Tryz.func224, Tryz.ntmps224
  go_wp2_with fail
  refine H.out.mono ?_
  rintro e w1 ⟨v', rfl, hR⟩
  have HR := Lib.hid hR
  clear hR
  go_wp2_with fail
  go_ret
  exact ⟨_, rfl, HR.out⟩
set_option maxRecDepth 100000 in
set_option maxHeartbeats 4000000 in
/-- A list with a row in its place, or with nothing there. -/
theorem putP (v : Value) (base : Nat) (l : List R6) (x1 x2 x3 x4 x5 x6 : Int) (s : Bool) (w : World) (h : OwnR cP 93 w base v l) (hs : Srt ordP l) (hn : l.length ≤ 1000000) (hst : s = false → inB ordP l (x1, x2, x3, x4, x5, x6) = true) (hb : base ≤ w.heap.size) :
    Calls Tryz.prog 208 #[v, .agg #[.int .i64 x1, .int .i64 x2, .int .i64 x3, .int .i64 x4, .int .i64 x5, .int .u64 x6], .func (.func 134) #[] #[], .bool s] w fun e w' => ∃ v', e = .returned v' ∧ OwnR cP 93 w' base v' (put ordP l (x1, x2, x3, x4, x5, x6) s) ∧ Kep (fun b => v.ownBlock = some b) w w' := by
  obtain ⟨A, c, rfl, hrs, hcm, _⟩ := h.rs c6P
  obtain ⟨n, hnl⟩ : ∃ n, l.length = n := ⟨_, rfl⟩
  have HO := Lib.hid h
  have HNL := Lib.hid hnl
  rw [hnl] at hrs hn ⊢
  have hpl := pos_le ordP l (x1, x2, x3, x4, x5, x6)
  rw [hnl] at hpl
  have HPA := Lib.hid (put_at ordP l (x1, x2, x3, x4, x5, x6) s)
  have HIT := Lib.hid (show inB ordP l (x1, x2, x3, x4, x5, x6) = true → pos ordP l (x1, x2, x3, x4, x5, x6) < n from fun hi => by
    rcases Nat.lt_or_ge (pos ordP l (x1, x2, x3, x4, x5, x6)) n with hh | hh
    · exact hh
    · rw [inB_no ordP l _ (List.getElem?_eq_none (by rw [hnl]; exact hh))] at hi; cases hi)
  obtain ⟨R, hR⟩ : ∃ R, put ordP l (x1, x2, x3, x4, x5, x6) s = R := ⟨_, rfl⟩
  rw [hR] at HPA ⊢
  have FD := Lib.hid (fun V (hv : Bel w V) => findP A n c l x1 x2 x3 x4 x5 x6 V (hrs.bel hv) (by omega) hs)
  have HST := Lib.hid hst
  obtain ⟨I, hI⟩ : ∃ I, inB ordP l (x1, x2, x3, x4, x5, x6) = I := ⟨_, rfl⟩
  obtain ⟨i, hi⟩ : ∃ i, pos ordP l (x1, x2, x3, x4, x5, x6) = i := ⟨_, rfl⟩
  rw [hI, hi] at FD HPA
  rw [hI] at HST HIT
  rw [hi] at HIT hpl
  obtain ⟨W, hW⟩ : ∃ W, w.alloc (.cells #[.int .i64 x1, .int .i64 x2, .int .i64 x3, .int .i64 x4, .int .i64 x5, .int .u64 x6] 93) = W := ⟨_, rfl⟩
  have P0 := boxP x1 x2 x3 x4 x5 x6 w
  have B0 : Bel w W := by rw [← hW]; exact (Bel.refl _).alloc _
  rw [hW] at P0
  have HB := Lib.hid B0
  have HCAP := Lib.hid hrs.cap
  clear hR hI hi h hs hst hrs hnl B0
  go_enter Tryz.func208, Tryz.ntmps208
  go_upto_region 1 with fail
  obtain ⟨g, hg⟩ : ∃ g, w.heap.size = g := ⟨_, rfl⟩
  rw [hg]
  rw [hg] at P0
  have Q0 := Lib.hid P0
  have HG := Lib.hid hg
  clear P0 hW hg
  obtain ⟨c0, c1, c2, c3, c4, c5⟩ := rng6 (rngB (C := [.int .i64 x1, .int .i64 x2, .int .i64 x3, .int .i64 x4, .int .i64 x5, .int .u64 x6]) Q0.out)
  rw [Nat.zero_add] at c1 c2 c3 c4 c5
  go_wp2_with fail
  refine (FD.out _ HB.out).mono ?_
  rintro e V ⟨rfl, kb⟩
  have BV := Lib.hid (HB.out.trans kb)
  have QV := Lib.hid (Q0.out.bel kb)
  have OV := Lib.hid (HO.out.bel BV.out)
  clear kb c0 c1 c2 c3 c4 c5 FD HO Q0
  have hbV : base ≤ V.heap.size := Nat.le_trans hb (Below.size BV.out)
  obtain ⟨c0, c1, c2, c3, c4, c5⟩ := rng6 (rngB (C := [.int .i64 x1, .int .i64 x2, .int .i64 x3, .int .i64 x4, .int .i64 x5, .int .u64 x6]) QV.out)
  rw [Nat.zero_add] at c1 c2 c3 c4 c5
  have hXR := fun V2 (hv : Bel V V2) => Blk.new V2 #[.int .i64 x1, .int .i64 x2, .int .i64 x3, .int .i64 x4, .int .i64 x5, .int .u64 x6] 93
  cases s
  · obtain rfl : I = true := HST.out rfl
    have hin : i < n := HIT.out rfl
    obtain ⟨gl, cap, e3, hgl, hrb, hcap⟩ := rb_own c6P OV.out (by rw [HNL.out]; omega)
    injection e3 with e1 e2 e3
    subst e1 e3
    have DL := Lib.hid (deleteP gl c i l V hrb (by rw [HNL.out]; exact hin) (by rw [HNL.out]; omega) hcap)
    rw [HNL.out] at DL
    have HL2 := Lib.hid (show (l.take i ++ l.drop (i + 1)).length = n - 1 by rw [List.length_append, List.length_take, List.length_drop, HNL.out]; omega)
    have hp : R = l.take i ++ l.drop (i + 1) := by rw [HPA.out]; simp
    have HP := Lib.hid hp
    clear hrb hXR hp
    go_wp2_with fail
    refine DL.out.mono ?_
    rintro e V2 ⟨rfl, hr2, hk2⟩
    have HR2 := Lib.hid hr2
    have HK2 := Lib.hid hk2
    clear hr2 hk2 c0 c1 c2 c3 c4 c5
    go_wp2_with fail
    go_ret
    refine ⟨_, rfl, ?_, ?_⟩
    · rw [HP.out, ← HL2.out]
      exact own_rb HR2.out (Nat.le_trans hgl (Nat.le_refl _)) hcap
    · exact ((Kep.of_bel BV.out).trans HK2.out).mono (fun k _ e => by rw [e]; rfl)
  · cases I
    · -- it comes in
      have hp : R = l.take i ++ (x1, x2, x3, x4, x5, x6) :: l.drop i := by rw [HPA.out]; simp
      have HP := Lib.hid hp
      clear hp
      have IN := Lib.hid (show ∀ V2 xb, Bel V V2 → Blk V2 xb #[.int .i64 x1, .int .i64 x2, .int .i64 x3, .int .i64 x4, .int .i64 x5, .int .u64 x6] 93 → V.heap.size ≤ xb → Calls Tryz.prog 237 #[.slice A n c, .int .i64 i, .slice (some ⟨xb, 0, none⟩) 1 1] V2 fun e w' => ∃ v', e = .returned v' ∧ OwnR cP 93 w' base v' R ∧ Kep (fun b => (Value.slice A n c).ownBlock = some b) V2 w' from fun V2 xb hv hx hxb => by
        have hx : Blk V2 xb (cP (x1, x2, x3, x4, x5, x6)).toArray 93 := hx
        have hO2 := OV.out.bel hv
        rw [HP.out]
        by_cases hend : i = n
        · subst hend
          have := insert_endP (.slice A i c) l (x1, x2, x3, x4, x5, x6) base xb V2 (by rw [HNL.out] at hO2; exact hO2) (by rw [HNL.out]; omega) hx (Nat.le_trans hbV (Below.size hv))
          rw [HNL.out] at this
          refine this.mono ?_
          rintro e w' ⟨v', h1, h2, h3⟩
          refine ⟨v', h1, ?_, h3⟩
          rw [List.take_of_length_le (by rw [HNL.out]; exact Nat.le_refl _), List.drop_eq_nil_of_le (by rw [HNL.out]; exact Nat.le_refl _)]
          exact h2
        · obtain ⟨gl, cap, e3, hgl, hrb, hcap⟩ := rb_own c6P hO2 (by rw [HNL.out]; omega)
          rw [HNL.out] at e3
          injection e3 with e1 e2 e3
          subst e1 e3
          have hne : xb ≠ gl := by
            have h1 := (OV.out.lt gl rfl).2
            omega
          by_cases hroom : n < c
          · have := insert_roomP gl c i l (x1, x2, x3, x4, x5, x6) xb V2 hrb (by rw [HNL.out]; omega) (by rw [HNL.out]; omega) hcap (by rw [HNL.out]; exact hroom) hx hne
            rw [HNL.out] at this
            refine this.mono ?_
            rintro e w' ⟨h1, h2, h3⟩
            have hl : (l.take i ++ (x1, x2, x3, x4, x5, x6) :: l.drop i).length = n + 1 := by simp [HNL.out]; omega
            exact ⟨_, h1, by rw [← hl]; exact own_rb h2 hgl hcap, h3.mono (fun k _ e => by rw [e]; rfl)⟩
          · have := insert_growP gl c i l (x1, x2, x3, x4, x5, x6) xb V2 hrb (by rw [HNL.out]; omega) (by rw [HNL.out]; omega) hcap (by rw [HNL.out]; exact hroom) hx
            rw [HNL.out] at this
            refine this.mono ?_
            rintro e w' ⟨g2, c2, h1, h2, h3, h4, h5⟩
            have hl : (l.take i ++ (x1, x2, x3, x4, x5, x6) :: l.drop i).length = n + 1 := by simp [HNL.out]; omega
            exact ⟨_, h1, by rw [← hl]; exact own_rb h2 (Nat.le_trans hbV (Nat.le_trans (Below.size hv) h4)) h5, Kep.of_bel h3⟩)
      have RI := Lib.hid (fun V2 xb hv hx hxb => replace_insP A n c i xb V2 (fun v' w' => OwnR cP 93 w' base v' R ∧ Kep (fun b => (Value.slice A n c).ownBlock = some b) V2 w') hpl HCAP.out (IN.out V2 xb hv hx hxb))
      have HXB := Lib.hid (Blk.new V #[.int .i64 x1, .int .i64 x2, .int .i64 x3, .int .i64 x4, .int .i64 x5, .int .u64 x6] 93)
      obtain ⟨V3, hV3⟩ : ∃ V3, V.alloc (.cells #[.int .i64 x1, .int .i64 x2, .int .i64 x3, .int .i64 x4, .int .i64 x5, .int .u64 x6] 93) = V3 := ⟨_, rfl⟩
      have BV3 := Lib.hid (show Bel V V3 by rw [← hV3]; exact (Bel.refl _).alloc _)
      rw [hV3] at HXB
      clear hXR IN
      go_wp2_with fail
      refine (RI.out _ _ BV3.out HXB.out (Nat.le_refl _)).mono ?_
      rintro e V4 ⟨v', rfl, hR, hk⟩
      have HR := Lib.hid hR
      have HK := Lib.hid hk
      clear hR hk c0 c1 c2 c3 c4 c5 hV3
      go_wp2_with fail
      go_ret
      exact ⟨_, rfl, HR.out, (Kep.of_bel (BV.out.trans BV3.out)).trans HK.out⟩
    · -- it takes another one's place
      have hin : i < n := HIT.out rfl
      have hp : R = l.take i ++ (x1, x2, x3, x4, x5, x6) :: l.drop (i + 1) := by rw [HPA.out]; simp
      have HP := Lib.hid hp
      clear hp
      obtain ⟨gl, cap, e3, hgl, hrb, hcap⟩ := rb_own c6P OV.out (by rw [HNL.out]; omega)
      rw [HNL.out] at e3
      injection e3 with e1 e2 e3
      subst e1 e3
      have RI := Lib.hid (show ∀ V2 xb, Bel V V2 → Blk V2 xb #[.int .i64 x1, .int .i64 x2, .int .i64 x3, .int .i64 x4, .int .i64 x5, .int .u64 x6] 93 → Calls Tryz.prog 224 #[.slice (some ⟨gl, 0, none⟩) n c, .int .i64 i, .int .i64 ((i : Int) + 1), .slice (some ⟨xb, 0, none⟩) 1 1] V2 fun e w' => ∃ v', e = .returned v' ∧ OwnR cP 93 w' base v' R ∧ Kep (fun b => b = gl) V2 w' from fun V2 xb hv hx => by
        have hx : Blk V2 xb (cP (x1, x2, x3, x4, x5, x6)).toArray 93 := hx
        rw [HP.out]
        by_cases hend : i + 1 = n
        · have := replace_lastP gl c i base xb l (x1, x2, x3, x4, x5, x6) V2 (hrb.bel hv) (by rw [HNL.out]; exact hend) (by rw [HNL.out]; omega) hcap hx (Nat.le_trans hbV (Below.size hv)) hgl
          rwa [HNL.out] at this
        · have := replace_midP gl c i xb l (x1, x2, x3, x4, x5, x6) V2 (hrb.bel hv) (by rw [HNL.out]; omega) (by rw [HNL.out]; omega) hcap hx
          rw [HNL.out] at this
          refine this.mono ?_
          rintro e w' ⟨h1, h2, h3⟩
          have hl : (l.take i ++ (x1, x2, x3, x4, x5, x6) :: l.drop (i + 1)).length = n := by simp [HNL.out]; omega
          exact ⟨_, h1, by rw [← hl]; exact own_rb h2 hgl hcap, h3⟩)
      have HXB := Lib.hid (Blk.new V #[.int .i64 x1, .int .i64 x2, .int .i64 x3, .int .i64 x4, .int .i64 x5, .int .u64 x6] 93)
      obtain ⟨V3, hV3⟩ : ∃ V3, V.alloc (.cells #[.int .i64 x1, .int .i64 x2, .int .i64 x3, .int .i64 x4, .int .i64 x5, .int .u64 x6] 93) = V3 := ⟨_, rfl⟩
      have BV3 := Lib.hid (show Bel V V3 by rw [← hV3]; exact (Bel.refl _).alloc _)
      rw [hV3] at HXB
      clear hXR hrb
      go_wp2_with fail
      refine (RI.out _ _ BV3.out HXB.out).mono ?_
      rintro e V4 ⟨v', rfl, hR, hk⟩
      have HR := Lib.hid hR
      have HK := Lib.hid hk
      clear hR hk c0 c1 c2 c3 c4 c5 hV3
      go_wp2_with fail
      go_ret
      exact ⟨_, rfl, HR.out, ((Kep.of_bel (BV.out.trans BV3.out)).trans HK.out).mono (fun k _ e => by rw [e]; rfl)⟩
end Ho
end Go.Proofs.YtneajcoiemkfbaaGreat
