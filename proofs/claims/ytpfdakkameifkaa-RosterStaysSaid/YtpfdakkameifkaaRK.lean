/-
  Texts of this claim, put together: Still, Ro27, RoM4. What each one says, and under which conditions, stands ahead of it.
-/
import Derived.OrdersHeld
import Derived.Test.YtpfdakkameifkaaGPMem
import Derived.Test.YtpfdakkameifkaaRJ

section
/-
  In a region that draws its order: a call that leaves the memory as it is, and tells the same in every world that may come, may be taken ahead of all else. No program.
-/
namespace Go.Proofs.Ytpfdakkameifkaa
open Go.RowKit Go.Shelf
set_option linter.unusedVariables false
namespace Rw

/-- What a call as an operation is: it is entered in every world of S, answers v there and leaves the world. -/
structure StillIf (P : Program) (ops : Array Oper) (S : World → Prop) (o : Oper) (v : Value) (a : Act) : Prop where
  on : Region.wanted o (yielded ops a.tmps) = true
  at_ : ∃ F args, (∀ w, S w → (execOp a.eval o).run P w = .ok (.enter F args) w) ∧ ∀ w, S w → Calls P F args w fun e w' => e = .returned v ∧ w = w'
section
variable {P : Program} {md : Region.Mode} {ops : Array Oper} {Q : Exit → Act → World → Prop} {S : World → Prop}
theorem StillIf.same {o : Oper} {v : Value} {a b : Act} (h : StillIf P ops S o v a) (e1 : execOp b.eval o = execOp a.eval o) (e2 : Region.wanted o (yielded ops b.tmps) = Region.wanted o (yielded ops a.tmps)) : StillIf P ops S o v b := by
  obtain ⟨F, args, h1, h2⟩ := h.at_
  exact ⟨e2.trans h.on, F, args, fun w hw => by rw [e1]; exact h1 w hw, h2⟩
/-- The call itself. -/
theorem StillIf.op {i : Nat} {o : Oper} {v : Value} {a : Act} (hi : ops[i]? = some o) (h : StillIf P ops S o v a) {K : Act → World → Prop} {w : World} (hS : S w) (hK : K (a.put o.dst v) w) : wpOp P ops Q i K a w := by
  obtain ⟨F, args, h1, h2⟩ := h.at_
  unfold wpOp
  rw [hi]
  simp only [h.on, if_true]
  refine .inl ?_
  unfold Oper.wp
  rw [h1 w hS]
  refine (h2 w hS).mono ?_
  rintro e w' ⟨rfl, rfl⟩
  exact hK
/-- Another operation does not see whether the call was there already, nor the call that one. -/
theorem still_swap {j : Nat} {x y : Oper} {v : Value} (hj : ops[j]? = some y) (hap : x.apart ops y = true) (hx : ∀ cs b, x.op ≠ .select cs b) (hy : ∀ cs b, y.op ≠ .select cs b) (hQ : ∀ c a w, Q (.panic c) (a.put x.dst v) w → Q (.panic c) a w)
    {K : Act → World → Prop} {a : Act} {w : World} (hs : StillIf P ops S x v a) (h : wpOp P ops Q j K (a.put x.dst v) w) : wpOp P ops Q j (fun b u => StillIf P ops S x v b ∧ K (b.put x.dst v) u) a w := by
  obtain ⟨p1, p2, p3⟩ := Oper.apart_spec hap
  have fwd : ∀ (b : Act), StillIf P ops S x v b → ∀ u, StillIf P ops S x v (b.put y.dst u) := fun b hb u => hb.same (execOp_put x hx b y.dst u p3) (wanted_put x b y.dst u p3)
  have ey := execOp_put y hy a x.dst v p1
  unfold wpOp at h ⊢
  rw [hj] at h ⊢
  simp only at h ⊢
  rw [wanted_put y a x.dst v p1] at h
  by_cases hw : Region.wanted y (yielded ops a.tmps) = true
  · rw [if_pos hw] at h ⊢
    rcases h with h | ⟨h, hl⟩
    · refine .inl ?_
      unfold Oper.wp at h ⊢
      rw [ey] at h
      cases hr : (execOp a.eval y).run P w with
      | ok n u =>
        rw [hr] at h
        cases n with
        | value z => exact ⟨fwd a hs z, by rw [← Act.put_comm a v z p2]; exact h⟩
        | skip => exact ⟨fwd a hs undef, by rw [← Act.put_comm a v undef p2]; exact h⟩
        | defer d =>
          have hd : StillIf P ops S x v { a with defers := d :: a.defers } := hs.same rfl rfl
          refine ⟨fwd _ hd undef, ?_⟩
          have h' : K (({ a.put x.dst v with defers := d :: (a.put x.dst v).defers } : Act).put y.dst undef) u := h
          rw [Act.put_defers, Act.put_comm _ v undef p2] at h'
          exact h'
        | enter f args =>
          have h' : Calls P f args u (fun | .returned z, u' => K ((a.put x.dst v).put y.dst z) u' | .panicked c, u' => Q (.panic c) (a.put x.dst v) u' | .outgrown, _ => LetsOut Q) := h
          refine Calls.mono h' fun e u' he => ?_
          match e, he with
          | .returned z, he => exact ⟨fwd a hs z, by rw [← Act.put_comm a v z p2]; exact he⟩
          | .panicked c, he => exact hQ _ _ _ he
          | .outgrown, he => exact he
        | row r args =>
          have h' : Rows P r args u (fun z u' => K ((a.put x.dst v).put y.dst z) u') := h
          exact Rows.mono h' fun z u' he => ⟨fwd a hs z, by rw [← Act.put_comm a v z p2]; exact he⟩
        | _ => exact (h : False).elim
      | halt z u =>
        rw [hr] at h
        cases z with
        | panic q => exact hQ _ _ _ h
        | _ => exact (h : False).elim
    · refine .inr ⟨?_, hl⟩
      unfold Oper.asks at h ⊢
      rw [ey] at h
      exact h
  · rw [if_neg hw] at h ⊢
    exact ⟨fwd a hs undef, by rw [← Act.put_comm a v undef p2]; exact h⟩
theorem still_first {i : Nat} {x : Oper} {v : Value} (hi : ops[i]? = some x) (hsel : ∀ (j : Nat) (o : Oper) cs b, ops[j]? = some o → o.op ≠ .select cs b) (hQ : ∀ c a w, Q (.panic c) (a.put x.dst v) w → Q (.panic c) a w) :
    ∀ (fuel : Nat) (L : Array Bool) (a : Act) (w : World), (∀ j y, ops[j]? = some y → j ≠ i → L.getD j true = false → (∀ e ∈ y.after, Region.binds md e = true → e.on ≠ i) → x.apart ops y = true) → i ∈ Region.ready md ops L → StillIf P ops S x v a → S w →
      wpAnyH P md ops Q S fuel (L.setIfInBounds i true) (a.put x.dst v) w → wpAnyH P md ops Q S (fuel + 1) L a w := by
  intro fuel
  induction fuel with
  | zero =>
    intro L a w _ hr hs hS H
    refine ⟨fun e => (by rw [e] at hr; cases hr), fun j hj => ?_⟩
    by_cases e : j = i
    · subst e
      exact hs.op hi hS ⟨hS, H⟩
    · have h1 := ready_mono hj e
      rw [H.1] at h1
      cases h1
  | succ fuel ih =>
    intro L a w hf hr hs hS H
    refine ⟨fun e => (by rw [e] at hr; cases hr), fun j hj => ?_⟩
    by_cases e : j = i
    · subst e
      exact hs.op hi hS ⟨hS, H⟩
    · have h1 := H.2 j (ready_mono hj e)
      obtain ⟨hun, y, hy, hall⟩ := mem_ready.1 hj
      have hno : ∀ d ∈ y.after, Region.binds md d = true → d.on ≠ i := fun d hd hb he => by
        have k1 := hall d hd hb
        have k0 := (mem_ready.1 hr).1
        rw [he] at k1
        by_cases hlt : i < L.size
        · simp [hlt] at k0 k1
          rw [k0] at k1
          cases k1
        · simp [Array.getElem?_eq_none (by omega : L.size ≤ i)] at k1
      have h2 := still_swap hy (hf j y hy e hun hno) (fun cs b => hsel i x cs b hi) (fun cs b => hsel j y cs b hy) hQ hs h1
      refine wpOp_mono (fun b u h3 => ⟨h3.2.1, ?_⟩) h2
      have h4 := h3.2.2
      rw [Array.setIfInBounds_comm _ _ (fun q => e q.symm)] at h4
      refine ih _ b u (fun k z hz hki hkn hke => hf k z hz hki ?_ hke) (ready_mono hr (Ne.symm e)) h3.1 h3.2.1 h4
      by_cases q : j = k
      · subst q; exact hun
      · rw [getD_set_ne true q] at hkn; exact hkn
/-- The call, taken first; what has to be looked up as Bools. -/
theorem still_take {i : Nat} {x : Oper} {v : Value} {fuel : Nat} {L : Array Bool} {a : Act} {w : World} (hi : ops[i]? = some x) (hs : Region.noSelect ops = true) (hf : Region.free md ops L i = true) (hr : (Region.ready md ops L).contains i = true)
    (hQ : ∀ c a w, Q (.panic c) (a.put x.dst v) w → Q (.panic c) a w) (hy : StillIf P ops S x v a) (hS : S w) (h : wpAnyH P md ops Q S fuel (L.setIfInBounds i true) (a.put x.dst v) w) : wpAnyH P md ops Q S (fuel + 1) L a w :=
  still_first hi (Region.noSelect_spec hs) hQ fuel L a w (Region.free_spec hi hf) (by simpa using hr) hy hS h
end
end Rw
end Go.Proofs.Ytpfdakkameifkaa
end

section
/-
  What Pick and steps of the law's package answer. Conditions: the numbers are ints; of steps: the validator came to be so by an act that may do that.
-/
namespace Go.Proofs.Ytpfdakkameifkaa
open Go.RowKit Go.Shelf
set_option linter.unusedVariables false
set_option linter.unusedSimpArgs false
namespace Ro
open Kk Pm

theorem pick_ (x n : Int) (w : World) (x0 : -9223372036854775808 ≤ x) (x1 : x ≤ 9223372036854775807) (n0 : 0 < n) (n1 : n ≤ 4611686018427387904) :
    Calls Try.prog 93 #[.int .i64 x, .int .i64 n] w fun e w' => e = .returned (.int .i64 (x % n)) ∧ w = w' := by
  have t0 := Int.emod_nonneg x (b := n) (by omega)
  have t1 := Int.emod_lt_of_pos x n0
  have hb : (x.tmod n = x % n ∨ (x.tmod n < 0 ∧ x.tmod n + n = x % n)) ∧ -n < x.tmod n ∧ x.tmod n < n := by
    rw [Int.tmod_eq_emod]
    split <;> rename_i h
    · exact ⟨.inl (by omega), by omega, by omega⟩
    · have hne : x % n ≠ 0 := fun e => h (.inr (Int.dvd_of_emod_eq_zero e))
      exact ⟨.inr ⟨by omega, by omega⟩, by omega, by omega⟩
  obtain ⟨ht, b0⟩ := hb
  obtain ⟨T, hT⟩ : ∃ T, x.tmod n = T := ⟨_, rfl⟩
  have hw : IntKind.i64.wrap T = T := IntWalk.i64_in _ (by omega)
  rw [hT] at ht b0
  obtain ⟨E, hE⟩ : ∃ E, x % n = E := ⟨_, rfl⟩
  rw [hE] at ht t0 t1 ⊢
  clear hE
  rcases ht with h | ⟨h1, h2⟩
  · subst h
    go_enter Try.func93, Try.ntmps93
    go_wp2
    go_ret
    exact ⟨rfl, rfl⟩
  · have H2 := Lib.hid h2
    clear h2
    go_enter Try.func93, Try.ntmps93
    go_wp2
    go_ret
    exact ⟨by rw [← H2.out]; rfl, rfl⟩
/-- How a validator may come to be. -/
def StepP (r r' : V6) (kd h : Int) : Prop :=
  op r' = op r ∧ r'.2.1 = r.2.1 ∧ (st r = 4 → r' = r) ∧ un r ≤ un r' ∧ (att r = true → att r' = true) ∧ (pro r = true → pro r' = true) ∧ (st r = 3 → st r' ≠ 2 ∧ (st r' = 1 → kd = 3 ∧ un r ≤ h)) ∧ (kd = 4 ∨ (att r' = att r ∧ pro r' = pro r))
set_option maxRecDepth 100000 in
set_option maxHeartbeats 64000000 in
theorem steps_ (o m s u : Int) (a p : Bool) (o' m' s' u' : Int) (a' p' : Bool) (K I H C : Int) (w : World) (hK : I64 K) (hH : I64 H) (hs : StepP (o, m, s, u, a, p) (o', m', s', u', a', p') (K % 5) (H % 1000)) :
    Calls Try.prog 51 #[.agg #[.int .i64 o, .int .u64 m, .int .i64 s, .int .i64 u, .bool a, .bool p], .agg #[.int .i64 o', .int .u64 m', .int .i64 s', .int .i64 u', .bool a', .bool p'], .agg #[.int .i64 K, .int .i64 I, .int .i64 H, .int .i64 C]] w fun e w' => e = .returned (.bool true) ∧ Bel w w' := by
  obtain ⟨h1, h2, h3, h4, h5, h6, h7, h8⟩ := hs
  have H1 := Lib.hid (show o' = o from h1)
  have H2 := Lib.hid (show m' = m from h2)
  clear h1 h2
  replace h3 : s = 4 → s' = s ∧ u' = u ∧ a' = a ∧ p' = p := fun e => by
    have := h3 e
    injection this with _ this
    injection this with _ this
    injection this with q1 this
    injection this with q2 this
    injection this with q3 q4
    exact ⟨q1, q2, q3, q4⟩
  replace h4 : u ≤ u' := h4
  replace h5 : a = true → a' = true := h5
  replace h6 : p = true → p' = true := h6
  replace h7 : s = 3 → s' ≠ 2 ∧ (s' = 1 → K % 5 = 3 ∧ u ≤ H % 1000) := h7
  replace h8 : K % 5 = 4 ∨ (a' = a ∧ p' = p) := h8
  have PA := Lib.hid (fun V => pick_ K 5 V hK.1 hK.2 (by decide) (by decide))
  have PB := Lib.hid (fun V => pick_ H 1000 V hH.1 hH.2 (by decide) (by decide))
  obtain ⟨kd, hkd⟩ : ∃ x, K % 5 = x := ⟨_, rfl⟩
  obtain ⟨hd, hhd⟩ : ∃ x, H % 1000 = x := ⟨_, rfl⟩
  rw [hkd] at PA h7 h8
  rw [hhd] at PB h7
  have HH := Lib.hid (And.intro h3 (And.intro h4 (And.intro h5 (And.intro h6 (And.intro h7 h8)))))
  clear hkd hhd hK hH h3 h4 h5 h6 h7 h8
  have B0 := Lib.hid (Blk.new w #[.int .i64 o, .int .u64 m, .int .i64 s, .int .i64 u, .bool a, .bool p] 66)
  obtain ⟨V0, hV0⟩ : ∃ V, w.alloc (.cells #[.int .i64 o, .int .u64 m, .int .i64 s, .int .i64 u, .bool a, .bool p] 66) = V := ⟨_, rfl⟩
  have E0 := Lib.hid (show Bel w V0 by rw [← hV0]; exact (Bel.refl _).alloc _)
  rw [hV0] at B0
  have B1 := Lib.hid (Blk.new V0 #[.int .i64 o', .int .u64 m', .int .i64 s', .int .i64 u', .bool a', .bool p'] 66)
  obtain ⟨V1, hV1⟩ : ∃ V, V0.alloc (.cells #[.int .i64 o', .int .u64 m', .int .i64 s', .int .i64 u', .bool a', .bool p'] 66) = V := ⟨_, rfl⟩
  have E1 := Lib.hid (show Bel w V1 by rw [← hV1]; exact E0.out.alloc _)
  have B0 := Lib.hid (show Blk V1 _ _ _ by rw [← hV1]; exact B0.out.alloc _)
  rw [hV1] at B1
  have B2 := Lib.hid (Blk.new V1 #[.int .i64 K, .int .i64 I, .int .i64 H, .int .i64 C] 63)
  obtain ⟨V, hV⟩ : ∃ V, V1.alloc (.cells #[.int .i64 K, .int .i64 I, .int .i64 H, .int .i64 C] 63) = V := ⟨_, rfl⟩
  have EV := Lib.hid (show Bel w V by rw [← hV]; exact E1.out.alloc _)
  have B0 := Lib.hid (show Blk V _ _ _ by rw [← hV]; exact B0.out.alloc _)
  have B1 := Lib.hid (show Blk V _ _ _ by rw [← hV]; exact B1.out.alloc _)
  rw [hV] at B2
  have G1 := Lib.hid (show V0.heap.size = w.heap.size + 1 by rw [← hV0]; simp)
  have G2 := Lib.hid (show V1.heap.size = w.heap.size + 1 + 1 by rw [← hV1]; simp; exact G1.out)
  rw [G1.out] at B1
  rw [G2.out] at B2
  have HV0 := Lib.hid hV0
  have HV1 := Lib.hid hV1
  have HV := Lib.hid hV
  clear hV0 hV1 hV
  go_enter Try.func51, Try.ntmps51
  go_upto_region 1 with fail
  try rw [HV0.out, HV1.out, HV.out]
  obtain ⟨g, hg⟩ : ∃ g, w.heap.size = g := ⟨_, rfl⟩
  rw [hg] at B0 B1 B2 ⊢
  clear hg HV0 HV1 HV G1 G2 E0 E1
  refine wp_region_held_drew (S := fun Vx => Bel V Vx) (by kernel_rfl) (Bel.refl _).drew (fun hS0 => ?_)
  obtain ⟨w6, hw6⟩ : ∃ w6, World.drew V = w6 := ⟨_, rfl⟩
  rw [hw6] at hS0 ⊢
  clear hw6
  refine wpAnyH_take (i := 0) (oi := { dst := some 9, op := .fieldAddr 63 (.tmp 5) 0, type := 0, pos := "outright.go:113", after := #[], guard := none }) (v := .pointer (some ⟨g + 1 + 1, 0, none⟩)) rfl (by kernel_rfl) (by kernel_rfl) (by kernel_rfl) (fun _ _ _ h => h) (Or.inl ⟨by rfl, by intro w hSw; clear hSw; go_simp⟩) hS0 ?_
  try simp only [Act.put, List.setIfInBounds_toArray, List.set_cons_zero, List.set_cons_succ]
  refine wpAnyH_take (i := 1) (oi := { dst := some 10, op := .load 3 (.tmp 9), type := 3, pos := "outright.go:113", after := #[{ on := 0, ground := .data }], guard := none }) (v := .int .i64 K) rfl (by kernel_rfl) (by kernel_rfl) (by kernel_rfl) (fun _ _ _ h => h) (Or.inl ⟨by rfl, by intro w h; have hcell := ((B2.out.bel h).cell 0 rfl); clear h; go_simp⟩) hS0 ?_
  try simp only [Act.put, List.setIfInBounds_toArray, List.set_cons_zero, List.set_cons_succ]
  refine Rw.still_take (i := 2) (x := { dst := some 11, op := .call { callee := .value (.func 93), args := #[.tmp 10, .const (Value.int IntKind.i64 5)], argTypes := #[3, 3] }, type := 3, pos := "outright.go:113", after := #[{ on := 1, ground := .data }], guard := none }) (v := .int .i64 kd) rfl (by kernel_rfl) (by kernel_rfl) (by kernel_rfl) (fun _ _ _ h => h) ⟨by rfl, 93, #[.int .i64 K, .int .i64 5], by intro w hSw; clear hSw; go_simp, fun w h => PA.out _⟩ hS0 ?_
  try simp only [Act.put, List.setIfInBounds_toArray, List.set_cons_zero, List.set_cons_succ]
  refine wpAnyH_take (i := 3) (oi := { dst := some 12, op := .fieldAddr 63 (.tmp 5) 2, type := 0, pos := "outright.go:113", after := #[], guard := none }) (v := .pointer (some ⟨g + 1 + 1, 2, none⟩)) rfl (by kernel_rfl) (by kernel_rfl) (by kernel_rfl) (fun _ _ _ h => h) (Or.inl ⟨by rfl, by intro w hSw; clear hSw; go_simp⟩) hS0 ?_
  try simp only [Act.put, List.setIfInBounds_toArray, List.set_cons_zero, List.set_cons_succ]
  refine wpAnyH_take (i := 4) (oi := { dst := some 13, op := .load 3 (.tmp 12), type := 3, pos := "outright.go:113", after := #[{ on := 3, ground := .data }], guard := none }) (v := .int .i64 H) rfl (by kernel_rfl) (by kernel_rfl) (by kernel_rfl) (fun _ _ _ h => h) (Or.inl ⟨by rfl, by intro w h; have hcell := ((B2.out.bel h).cell 2 rfl); clear h; go_simp⟩) hS0 ?_
  try simp only [Act.put, List.setIfInBounds_toArray, List.set_cons_zero, List.set_cons_succ]
  refine Rw.still_take (i := 5) (x := { dst := some 14, op := .call { callee := .value (.func 93), args := #[.tmp 13, .const (Value.int IntKind.i64 1000)], argTypes := #[3, 3] }, type := 3, pos := "outright.go:113", after := #[{ on := 4, ground := .data }, { on := 2, ground := .chain }], guard := none }) (v := .int .i64 hd) rfl (by kernel_rfl) (by kernel_rfl) (by kernel_rfl) (fun _ _ _ h => h) ⟨by rfl, 93, #[.int .i64 H, .int .i64 1000], by intro w hSw; clear hSw; go_simp, fun w h => PB.out _⟩ hS0 ?_
  try simp only [Act.put, List.setIfInBounds_toArray, List.set_cons_zero, List.set_cons_succ]
  refine wpAnyH_take (i := 6) (oi := { dst := some 7, op := .assign (.tmp 11), type := 3, pos := "outright.go:113", after := #[{ on := 2, ground := .data }, { on := 5, ground := .chain }, { on := 0, ground := .phase }, { on := 1, ground := .phase }, { on := 2, ground := .phase }, { on := 3, ground := .textOnly .lateStores }, { on := 4, ground := .textOnly .lateStores }, { on := 5, ground := .textOnly .lateStoresUnsure }], guard := none }) (v := .int .i64 kd) rfl (by kernel_rfl) (by kernel_rfl) (by kernel_rfl) (fun _ _ _ h => h) (Or.inl ⟨by rfl, by intro w hSw; clear hSw; go_simp⟩) hS0 ?_
  try simp only [Act.put, List.setIfInBounds_toArray, List.set_cons_zero, List.set_cons_succ]
  refine wpAnyH_take (i := 7) (oi := { dst := some 8, op := .assign (.tmp 14), type := 3, pos := "outright.go:113", after := #[{ on := 5, ground := .data }, { on := 6, ground := .chain }, { on := 0, ground := .phase }, { on := 1, ground := .phase }, { on := 2, ground := .phase }, { on := 3, ground := .phase }, { on := 4, ground := .phase }, { on := 5, ground := .phase }, { on := 6, ground := .phase }], guard := none }) (v := .int .i64 hd) rfl (by kernel_rfl) (by kernel_rfl) (by kernel_rfl) (fun _ _ _ h => h) (Or.inl ⟨by rfl, by intro w hSw; clear hSw; go_simp⟩) hS0 ?_
  try simp only [Act.put, List.setIfInBounds_toArray, List.set_cons_zero, List.set_cons_succ]
  refine wpAnyH_done (by kernel_rfl) ?_ _
  have KV := Lib.hid (EV.out.trans hS0)
  have C0 := B0.out.bel hS0
  have C1 := B1.out.bel hS0
  clear hS0 PA PB
  have a0 := C0.cell 0 rfl
  have a1 := C0.cell 1 rfl
  have a2 := C0.cell 2 rfl
  have a3 := C0.cell 3 rfl
  have a4 := C0.cell 4 rfl
  have a5 := C0.cell 5 rfl
  have b0 := C1.cell 0 rfl
  have b1 := C1.cell 1 rfl
  have b2 := C1.cell 2 rfl
  have b3 := C1.cell 3 rfl
  have b4 := C1.cell 4 rfl
  have b5 := C1.cell 5 rfl
  obtain ⟨h3, h4, h5, h6, h7, h8⟩ := HH.out
  clear HH
  have hu : ¬ u' < u := by omega
  have ho : (o' != o) = false := by rw [H1.out]; simp
  have hm : (m' != m) = false := by rw [H2.out]; simp
  by_cases e4 : s = 4
  · obtain ⟨q1, q2, q3, q4⟩ := h3 e4
    subst q1 q2 q3 q4 e4
    have EQ := Lib.hid (fun V => (Rw.neq_validator o' m' 4 u' a' p' o m 4 u' a' p' V).trans (show Result.ok (Value.bool (!decide ((o', m', (4 : Int), u', a', p') = (o, m, (4 : Int), u', a', p')))) V = Result.ok (.bool false) V by rw [H1.out, H2.out, decide_eq_true rfl]; rfl))
    clear h3 h4 h5 h6 h7 h8
    have EQp := EQ.out
    cases a' <;> cases p' <;> (go_wp2_with fail; go_ret; exact ⟨rfl, KV.out⟩)
  have f4 : (s == 4) = false := beq_eq_false_iff_ne.2 e4
  clear h3 h4
  by_cases e3 : s = 3
  · subst e3
    obtain ⟨q1, q2⟩ := h7 rfl
    clear h7 e4
    have f2 : (s' == 2) = false := beq_eq_false_iff_ne.2 q1
    by_cases e1 : s' = 1
    · obtain ⟨q3, q4⟩ := q2 e1
      subst e1 q3
      have hlt : ¬ hd < u := by omega
      obtain ⟨q5, q6⟩ := h8.resolve_left (by decide)
      subst q5 q6
      clear h5 h6 h8 q1 q2 q4
      cases a' <;> cases p' <;> (go_wp2_with fail; go_ret; exact ⟨rfl, KV.out⟩)
    · have f1 : (s' == 1) = false := beq_eq_false_iff_ne.2 e1
      clear q1 q2 e1
      rcases h8 with h8 | ⟨q5, q6⟩
      · subst h8
        cases a <;> cases a' <;> cases p <;> cases p' <;> (first | exact absurd (h5 rfl) (by decide) | exact absurd (h6 rfl) (by decide) | (clear h5 h6; (go_wp2_with fail; go_ret; exact ⟨rfl, KV.out⟩)))
      · subst q5 q6
        clear h5 h6
        cases a' <;> cases p' <;> (go_wp2_with fail; go_ret; exact ⟨rfl, KV.out⟩)
  · have f3 : (s == 3) = false := beq_eq_false_iff_ne.2 e3
    clear h7 e3 e4
    rcases h8 with h8 | ⟨q5, q6⟩
    · subst h8
      cases a <;> cases a' <;> cases p <;> cases p' <;> (first | exact absurd (h5 rfl) (by decide) | exact absurd (h6 rfl) (by decide) | (clear h5 h6; (go_wp2_with fail; go_ret; exact ⟨rfl, KV.out⟩)))
    · subst q5 q6
      clear h5 h6
      cases a' <;> cases p' <;> (go_wp2_with fail; go_ret; exact ⟨rfl, KV.out⟩)
end Ro
end Go.Proofs.Ytpfdakkameifkaa
end

section
/-
  What comes of a roster that may be by an act that is told OK: it may be again, and each validator came to be so by a step. No program.
-/
namespace Go.Proofs.Ytpfdakkameifkaa
open Go.RowKit Go.Shelf
set_option linter.unusedVariables false
namespace Ro

theorem has_map {l L : List V6} (h : L.map op = l.map op) (o : Int) : has L o = has l o := by
  rw [Bool.eq_iff_iff, has_iff, has_iff]
  have e : ∀ l : List V6, (∃ r ∈ l, op r = o) ↔ o ∈ l.map op := fun l => by rw [List.mem_map]
  rw [e, e, h]
theorem chk_same {l L : List V6} (hm : L.map op = l.map op) (hg : ∀ r ∈ L, Gd r) (h : (chk l).1 = 0) : (chk L).1 = 0 := by
  obtain ⟨h1, h2⟩ := ok_iff.1 h
  have hl : L.length = l.length := by rw [← List.length_map (f := op), hm, List.length_map]
  refine ok_iff.2 ⟨by omega, fun k r hr => ⟨hg r (List.mem_of_getElem? hr), ?_⟩⟩
  have hk := (List.getElem?_eq_some_iff.1 hr).1
  have hr' := List.getElem?_eq_getElem (show k < l.length by omega)
  have e : op r = op (l[k]'(by omega)) := by
    have h3 : (L.map op)[k]? = (l.map op)[k]? := by rw [hm]
    rw [List.getElem?_map, List.getElem?_map, hr, hr'] at h3
    exact Option.some.inj h3
  have := (h2 k _ hr').2
  rw [has_map (l := l.take k) (L := L.take k) (by rw [List.map_take, List.map_take, hm]), e]
  exact this
/-- What an act that is told OK comes to. -/
structure Did (l L : List V6) (kd h : Int) : Prop where
  chk : (chk L).1 = 0
  lo : l.length ≤ L.length
  hi : L.length ≤ l.length + 1
  steps : ∀ (i : Nat) (r r' : V6), l[i]? = some r → L[i]? = some r' → StepP r r' kd h
theorem stepP_refl (r : V6) (kd h : Int) : StepP r r kd h := by
  refine ⟨rfl, rfl, fun _ => rfl, Int.le_refl _, id, id, fun h3 => ⟨by omega, fun h1 => by omega⟩, .inr ⟨rfl, rfl⟩⟩
theorem g_iff {s : Int} (h : s ≠ 4) : (s = 4 ↔ false = true) := ⟨fun e => absurd e h, fun e => (by cases e)⟩
theorem g_or {s t : Int} {p : Bool} (h : s ≠ 3) (hh : s = 3 ∨ false = true ∨ p = true) : t = 3 ∨ false = true ∨ p = true := by
  rcases hh with e | e | e
  · exact absurd e h
  · cases e
  · exact .inr (.inr e)
theorem did_set {l : List V6} {k : Nat} {r x : V6} {kd h : Int} (hc : (chk l).1 = 0) (hr : l[k]? = some r) (ho : op x = op r) (hg : Gd x) (hs : StepP r x kd h) : Did l (l.set k x) kd h := by
  obtain ⟨hk, he⟩ := List.getElem?_eq_some_iff.1 hr
  refine ⟨chk_same (l := l) ?_ (fun y hy => ?_) hc, by simp, by simp, fun i y y' h1 h2 => ?_⟩
  · rw [List.map_set, ho]
    apply List.ext_getElem?
    intro j
    by_cases hj : k = j
    · subst hj
      rw [List.getElem?_set_self (by simpa using hk), List.getElem?_map, hr]
      rfl
    · rw [List.getElem?_set_ne hj]
  · rcases List.mem_or_eq_of_mem_set hy with h' | h'
    · obtain ⟨j, hj⟩ := List.getElem?_of_mem h'
      exact gd_at hc hj
    · rw [h']; exact hg
  · by_cases hj : k = i
    · subst hj
      rw [List.getElem?_set_self hk] at h2
      rw [hr] at h1
      injection h1 with h1
      injection h2 with h2
      subst h1 h2
      exact hs
    · rw [List.getElem?_set_ne hj, h1] at h2
      injection h2 with h2
      subst h2
      exact stepP_refl _ _ _
theorem did_create {l : List V6} {o m kd h : Int} (he : crE l o m = 0) : Did l (crL l o m) kd h := by
  have hL : crL l o m = l ++ [newV o m] := if_pos he
  have hc : (chk l).1 = 0 := by
    by_cases h0 : (chk l).1 ≠ 0
    · rw [crE_0 h0] at he; exact absurd he h0
    · omega
  have h1 : 0 ≤ o ∧ o < 64 := by
    by_cases h1 : 0 ≤ o ∧ o < 64
    · exact h1
    · rw [crE_3 hc h1] at he; cases he
  have h2 : m ≠ 0 := fun h2 => by rw [crE_2 hc h1 h2] at he; cases he
  have h3 : has l o = false := by
    cases h3 : has l o
    · rfl
    · rw [crE_8 hc h1 h2 h3] at he; cases he
  have h4 : l.length ≠ 32 := fun h4 => by rw [crE_7 hc h1 h2 h3 h4] at he; cases he
  have h5 := (chk_ok.1 hc).1
  rw [hL]
  refine ⟨?_, by simp, by simp, fun i r r' h6 h7 => ?_⟩
  · rw [chk_snoc hc (by omega)]
    exact vE_ok.2 ⟨⟨h1.1, h1.2, h2, by decide, by decide, by decide, by decide, g_iff (s := 1) (by decide), fun h => absurd (g_or (s := 1) (t := 3) (p := false) (by decide) h) (fun _ => by rcases h with h | h | h; exact absurd h (by decide); cases h; cases h)⟩, h3⟩
  · rw [List.getElem?_append_left (List.getElem?_eq_some_iff.1 h6).1, h6] at h7
    injection h7 with h7
    subst h7
    exact stepP_refl _ _ _
theorem pick_op (r : V6) (b : Bool) : op (pick r b) = op r := by
  obtain ⟨a1, a2, a3, a4, a5, a6⟩ := r
  unfold pick
  split <;> rfl
theorem pick_gd {r : V6} (b : Bool) (h : Gd r) : Gd (pick r b) := by
  obtain ⟨a1, a2, a3, a4, a5, a6⟩ := r
  unfold pick
  split
  · rename_i hf
    obtain ⟨g1, g2, g3, g4, g5, g6, g7, g8, g9⟩ := h
    have h34 : a3 = 1 ∨ a3 = 2 := by
      have : (decide (a3 = 1) || decide (a3 = 2)) = true := hf
      simpa using this
    have ha : a5 = false := by
      cases a5
      · rfl
      · have := g8.2 rfl; omega
    subst ha
    cases b
    · exact ⟨g1, g2, g3, by decide, by decide, g6, g7, g_iff (s := 1) (by decide), fun h => g9 (g_or (s := 1) (by decide) h)⟩
    · exact ⟨g1, g2, g3, by decide, by decide, g6, g7, g_iff (s := 2) (by decide), fun h => g9 (g_or (s := 2) (by decide) h)⟩
  · exact h
theorem pick_step (r : V6) (b : Bool) (kd h : Int) : StepP r (pick r b) kd h := by
  obtain ⟨a1, a2, a3, a4, a5, a6⟩ := r
  unfold pick
  split
  · rename_i hf
    have h34 : a3 = 1 ∨ a3 = 2 := by
      have : (decide (a3 = 1) || decide (a3 = 2)) = true := hf
      simpa using this
    refine ⟨rfl, rfl, fun h4 => ?_, Int.le_refl _, id, id, fun h3 => ?_, .inr ⟨rfl, rfl⟩⟩
    · have h4 : a3 = 4 := h4
      omega
    · have h3 : a3 = 3 := h3
      omega
  · exact stepP_refl _ _ _
theorem did_choose {l : List V6} {b : List Bool} {kd h : Int} (he : chE l b = 0) : Did l (chL l b) kd h := by
  have hL : chL l b = l.zipWith pick b := if_pos he
  have hc : (chk l).1 = 0 := by
    by_cases h0 : (chk l).1 ≠ 0
    · rw [chE_0 h0] at he; exact absurd he h0
    · omega
  have hb : b.length = l.length := by
    by_cases h1 : b.length = l.length
    · exact h1
    · rw [chE_2 hc h1] at he; cases he
  have hlen : (l.zipWith pick b).length = l.length := by rw [List.length_zipWith]; omega
  have hat : ∀ (i : Nat) (r r' : V6), l[i]? = some r → (l.zipWith pick b)[i]? = some r' → ∃ x, r' = pick r x := fun i r r' h1 h2 => by
    have hi : i < b.length := by have := (List.getElem?_eq_some_iff.1 h1).1; omega
    rw [List.getElem?_zipWith, h1, List.getElem?_eq_getElem hi] at h2
    injection h2 with h2
    exact ⟨_, h2.symm⟩
  rw [hL]
  refine ⟨chk_same (l := l) ?_ (fun y hy => ?_) hc, by omega, by omega, fun i r r' h1 h2 => ?_⟩
  · apply List.ext_getElem?
    intro i
    rw [List.getElem?_map, List.getElem?_map]
    by_cases hi : i < l.length
    · have h1 := List.getElem?_eq_getElem hi
      have h2 := List.getElem?_eq_getElem (show i < (l.zipWith pick b).length by omega)
      obtain ⟨x, hx⟩ := hat i _ _ h1 h2
      rw [h1, h2, hx]
      show some (op (pick _ x)) = some (op _)
      rw [pick_op]
    · rw [List.getElem?_eq_none (by omega), List.getElem?_eq_none (by omega)]
  · obtain ⟨i, hi⟩ := List.getElem?_of_mem hy
    have hil := (List.getElem?_eq_some_iff.1 hi).1
    have h1 := List.getElem?_eq_getElem (show i < l.length by omega)
    obtain ⟨x, hx⟩ := hat i _ _ h1 hi
    rw [hx]
    exact pick_gd x (gd_at hc h1)
  · obtain ⟨x, hx⟩ := hat i _ _ h1 h2
    rw [hx]
    exact pick_step r x kd h
theorem cg_ok {l : List V6} {v : Int} {e : V6 → Int} (h : cgE l v e = 0) : (chk l).1 = 0 ∧ ∃ (k : Nat) (r : V6), v = k ∧ l[k]? = some r ∧ e r = 0 := by
  unfold cgE at h
  by_cases h0 : (chk l).1 ≠ 0
  · rw [if_pos h0] at h; exact absurd h h0
  · rw [if_neg h0] at h
    refine ⟨by omega, ?_⟩
    by_cases hb : v < 0 ∨ (l.length : Int) ≤ v
    · rw [nth_none hb] at h; cases h
    · obtain ⟨k, rfl⟩ : ∃ k : Nat, v = k := ⟨v.toNat, by omega⟩
      have hr := List.getElem?_eq_getElem (show k < l.length by omega)
      rw [nth_some hr] at h
      exact ⟨k, _, rfl, hr, h⟩
theorem did_jail {l : List V6} {v tl kd h : Int} (he : cgE l v (jaE tl) = 0) : Did l (upd l v 0 (jaF tl)) kd h := by
  obtain ⟨hc, k, ⟨a1, a2, a3, a4, a5, a6⟩, rfl, hr, hz⟩ := cg_ok he
  have hz : (if a3 = 4 then (20 : Int) else if untB tl = false then 3 else 0) = 0 := hz
  have h4 : a3 ≠ 4 := fun h4 => by rw [if_pos h4] at hz; cases hz
  rw [if_neg h4] at hz
  have hu : 1 ≤ tl ∧ tl ≤ 4296015872 := by
    cases hu : untB tl
    · rw [hu] at hz; cases hz
    · exact of_decide_eq_true hu
  obtain ⟨g1, g2, g3, g4, g5, g6, g7, g8, g9⟩ := gd_at hc hr
  have ha : a5 = false := by
    cases a5
    · rfl
    · exact absurd (g8.2 rfl) h4
  subst ha
  rw [upd_at hr]
  refine did_set hc hr rfl ⟨g1, g2, g3, by decide, by decide, by omega, by omega, g_iff (s := 3) (by decide), fun _ => by omega⟩ ⟨rfl, rfl, fun h => absurd h h4, ?_, id, id, fun _ => ⟨show (3 : Int) ≠ 2 by decide, fun h => absurd (show (3 : Int) = 1 from h) (by decide)⟩, .inr ⟨rfl, rfl⟩⟩
  show a4 ≤ max a4 tl
  omega
theorem did_unjail {l : List V6} {v b h : Int} (he : cgE l v (unE b h) = 0) : Did l (upd l v 0 (setS 1)) 3 h := by
  obtain ⟨hc, k, ⟨a1, a2, a3, a4, a5, a6⟩, rfl, hr, hz⟩ := cg_ok he
  have hz : (if b ≠ a1 then (24 : Int) else if a3 = 4 then 20 else if free (a1, a2, a3, a4, a5, a6) = true then 11 else if h < a4 then 21 else 0) = 0 := hz
  by_cases q1 : b ≠ a1
  · rw [if_pos q1] at hz; cases hz
  rw [if_neg q1] at hz
  by_cases q2 : a3 = 4
  · rw [if_pos q2] at hz; cases hz
  rw [if_neg q2] at hz
  by_cases q3 : free (a1, a2, a3, a4, a5, a6) = true
  · rw [if_pos q3] at hz; cases hz
  rw [if_neg q3] at hz
  by_cases q4 : h < a4
  · rw [if_pos q4] at hz; cases hz
  obtain ⟨g1, g2, g3, g4, g5, g6, g7, g8, g9⟩ := gd_at hc hr
  have ha : a5 = false := by
    cases a5
    · rfl
    · exact absurd (g8.2 rfl) q2
  subst ha
  rw [upd_at hr]
  refine did_set hc hr rfl ⟨g1, g2, g3, by decide, by decide, g6, g7, g_iff (s := 1) (by decide), fun hh => g9 (g_or (s := 1) (by decide) hh)⟩ ⟨rfl, rfl, fun h => absurd h q2, Int.le_refl _, id, id, fun _ => ⟨show (1 : Int) ≠ 2 by decide, fun _ => ⟨rfl, by show a4 ≤ h; omega⟩⟩, .inr ⟨rfl, rfl⟩⟩
theorem did_punish {l : List V6} {v c tl h : Int} (he : puE l v c tl = 0) : Did l (upd l v 0 (puF c tl)) 4 h := by
  have hz := he
  unfold puE at hz
  by_cases h0 : pdE l v c ≠ 0
  · rw [if_pos h0] at hz; exact absurd hz h0
  rw [if_neg h0] at hz
  have hp : pdE l v c = 0 := by omega
  have hu : 1 ≤ tl ∧ tl ≤ 4296015872 := by
    cases hu : untB tl
    · rw [hu] at hz; cases hz
    · exact of_decide_eq_true hu
  obtain ⟨hc, _⟩ := pdE_ok hp
  rw [pdE_def, if_neg (by omega)] at hp
  by_cases q1 : ¬ (c = 1 ∨ c = 2)
  · rw [if_pos q1] at hp; cases hp
  rw [if_neg q1] at hp
  by_cases q2 : reE l v ≠ 0
  · rw [if_pos q2] at hp; exact absurd hp q2
  obtain ⟨k, rfl, ⟨a1, a2, a3, a4, a5, a6⟩, hr, h4⟩ := re_at (show reE l v = 0 by omega)
  have h4 : a3 ≠ 4 := h4
  obtain ⟨g1, g2, g3, g4, g5, g6, g7, g8, g9⟩ := gd_at hc hr
  rw [upd_at hr]
  have hmx : a4 ≤ max a4 tl ∧ max a4 tl ≤ 4296015872 ∧ max a4 tl ≠ 0 ∧ 0 ≤ max a4 tl := by omega
  by_cases hc1 : c = 1
  · have e : puF c tl (a1, a2, a3, a4, a5, a6) = (a1, a2, 4, max a4 tl, true, a6) := if_pos hc1
    rw [e]
    exact did_set hc hr rfl ⟨g1, g2, g3, by decide, by decide, hmx.2.2.2, hmx.2.1, ⟨fun _ => rfl, fun _ => rfl⟩, fun _ => hmx.2.2.1⟩ ⟨rfl, rfl, fun h => absurd h h4, hmx.1, fun _ => rfl, id, fun _ => ⟨show (4 : Int) ≠ 2 by decide, fun h => absurd (show (4 : Int) = 1 from h) (by decide)⟩, .inl rfl⟩
  · have e : puF c tl (a1, a2, a3, a4, a5, a6) = (a1, a2, 3, max a4 tl, a5, true) := if_neg hc1
    rw [e]
    have ha : a5 = false := by
      cases a5
      · rfl
      · exact absurd (g8.2 rfl) h4
    subst ha
    exact did_set hc hr rfl ⟨g1, g2, g3, by decide, by decide, hmx.2.2.2, hmx.2.1, g_iff (s := 3) (by decide), fun _ => hmx.2.2.1⟩ ⟨rfl, rfl, fun h => absurd h h4, hmx.1, fun h => (by cases h), fun _ => rfl, fun _ => ⟨show (3 : Int) ≠ 2 by decide, fun h => absurd (show (3 : Int) = 1 from h) (by decide)⟩, .inl rfl⟩
end Ro
end Go.Proofs.Ytpfdakkameifkaa
end
