/-
  In a region that draws its order: a call that leaves the memory as it is, and tells the same in every world that may come, may be taken ahead of all else. No program.
-/
import Derived.OrdersHeld
import Derived.Test.YtcefjigbaglmeaaGreatGPMem
namespace Go.Proofs.YtcefjigbaglmeaaGreat
open Go.RowKit Go.Shelf
set_option linter.unusedVariables false
namespace Rw

/-- What a call as an operation is: it is entered in every world of S, answers v there and leaves the world. -/
structure StillIf (P : Program) (ops : Array Oper) (S : World → Prop) (o : Oper) (v : Value) (a : Act) : Prop where
  on : Region.wanted o (yielded ops a.tmps) = true
  at_ : ∃ F args, (∀ w, S w → (execOp a.eval o).run P w = .ok (.enter F args) w) ∧ ∀ w, S w → Calls P F args w fun e w' => e = .returned v ∧ w = w'
section
variable {P : Program} {md : Region.Mode} {ops : Array Oper} {Q : Exit → Act → World → Prop} {S : World → Prop}
theorem StillIf.same {o : Oper} {v : Value} {a b : Act} (h : StillIf P ops S o v a) (e1 : execOp b.eval o = execOp a.eval o) (e2 : Region.wanted o (yielded ops b.tmps) = Region.wanted o (yielded ops a.tmps)) : StillIf P ops S o v b := by
  obtain ⟨F, args, h1, h2⟩ := h.at_
  exact ⟨e2.trans h.on, F, args, fun w hw => by rw [e1]; exact h1 w hw, h2⟩
/-- The call itself. -/
theorem StillIf.op {i : Nat} {o : Oper} {v : Value} {a : Act} (hi : ops[i]? = some o) (h : StillIf P ops S o v a) {K : Act → World → Prop} {w : World} (hS : S w) (hK : K (a.put o.dst v) w) : wpOp P ops Q i K a w := by
  obtain ⟨F, args, h1, h2⟩ := h.at_
  unfold wpOp
  rw [hi]
  simp only [h.on, if_true]
  refine .inl ?_
  unfold Oper.wp
  rw [h1 w hS]
  refine (h2 w hS).mono ?_
  rintro e w' ⟨rfl, rfl⟩
  exact hK
/-- Another operation does not see whether the call was there already, nor the call that one. -/
theorem still_swap {j : Nat} {x y : Oper} {v : Value} (hj : ops[j]? = some y) (hap : x.apart ops y = true) (hx : ∀ cs b, x.op ≠ .select cs b) (hy : ∀ cs b, y.op ≠ .select cs b) (hQ : ∀ c a w, Q (.panic c) (a.put x.dst v) w → Q (.panic c) a w)
    {K : Act → World → Prop} {a : Act} {w : World} (hs : StillIf P ops S x v a) (h : wpOp P ops Q j K (a.put x.dst v) w) : wpOp P ops Q j (fun b u => StillIf P ops S x v b ∧ K (b.put x.dst v) u) a w := by
  obtain ⟨p1, p2, p3⟩ := Oper.apart_spec hap
  have fwd : ∀ (b : Act), StillIf P ops S x v b → ∀ u, StillIf P ops S x v (b.put y.dst u) := fun b hb u => hb.same (execOp_put x hx b y.dst u p3) (wanted_put x b y.dst u p3)
  have ey := execOp_put y hy a x.dst v p1
  unfold wpOp at h ⊢
  rw [hj] at h ⊢
  simp only at h ⊢
  rw [wanted_put y a x.dst v p1] at h
  by_cases hw : Region.wanted y (yielded ops a.tmps) = true
  · rw [if_pos hw] at h ⊢
    rcases h with h | ⟨h, hl⟩
    · refine .inl ?_
      unfold Oper.wp at h ⊢
      rw [ey] at h
      cases hr : (execOp a.eval y).run P w with
      | ok n u =>
        rw [hr] at h
        cases n with
        | value z => exact ⟨fwd a hs z, by rw [← Act.put_comm a v z p2]; exact h⟩
        | skip => exact ⟨fwd a hs undef, by rw [← Act.put_comm a v undef p2]; exact h⟩
        | defer d =>
          have hd : StillIf P ops S x v { a with defers := d :: a.defers } := hs.same rfl rfl
          refine ⟨fwd _ hd undef, ?_⟩
          have h' : K (({ a.put x.dst v with defers := d :: (a.put x.dst v).defers } : Act).put y.dst undef) u := h
          rw [Act.put_defers, Act.put_comm _ v undef p2] at h'
          exact h'
        | enter f args =>
          have h' : Calls P f args u (fun | .returned z, u' => K ((a.put x.dst v).put y.dst z) u' | .panicked c, u' => Q (.panic c) (a.put x.dst v) u' | .outgrown, _ => LetsOut Q) := h
          refine Calls.mono h' fun e u' he => ?_
          match e, he with
          | .returned z, he => exact ⟨fwd a hs z, by rw [← Act.put_comm a v z p2]; exact he⟩
          | .panicked c, he => exact hQ _ _ _ he
          | .outgrown, he => exact he
        | row r args =>
          have h' : Rows P r args u (fun z u' => K ((a.put x.dst v).put y.dst z) u') := h
          exact Rows.mono h' fun z u' he => ⟨fwd a hs z, by rw [← Act.put_comm a v z p2]; exact he⟩
        | _ => exact (h : False).elim
      | halt z u =>
        rw [hr] at h
        cases z with
        | panic q => exact hQ _ _ _ h
        | _ => exact (h : False).elim
    · refine .inr ⟨?_, hl⟩
      unfold Oper.asks at h ⊢
      rw [ey] at h
      exact h
  · rw [if_neg hw] at h ⊢
    exact ⟨fwd a hs undef, by rw [← Act.put_comm a v undef p2]; exact h⟩
theorem still_first {i : Nat} {x : Oper} {v : Value} (hi : ops[i]? = some x) (hsel : ∀ (j : Nat) (o : Oper) cs b, ops[j]? = some o → o.op ≠ .select cs b) (hQ : ∀ c a w, Q (.panic c) (a.put x.dst v) w → Q (.panic c) a w) :
    ∀ (fuel : Nat) (L : Array Bool) (a : Act) (w : World), (∀ j y, ops[j]? = some y → j ≠ i → L.getD j true = false → (∀ e ∈ y.after, Region.binds md e = true → e.on ≠ i) → x.apart ops y = true) → i ∈ Region.ready md ops L → StillIf P ops S x v a → S w →
      wpAnyH P md ops Q S fuel (L.setIfInBounds i true) (a.put x.dst v) w → wpAnyH P md ops Q S (fuel + 1) L a w := by
  intro fuel
  induction fuel with
  | zero =>
    intro L a w _ hr hs hS H
    refine ⟨fun e => (by rw [e] at hr; cases hr), fun j hj => ?_⟩
    by_cases e : j = i
    · subst e
      exact hs.op hi hS ⟨hS, H⟩
    · have h1 := ready_mono hj e
      rw [H.1] at h1
      cases h1
  | succ fuel ih =>
    intro L a w hf hr hs hS H
    refine ⟨fun e => (by rw [e] at hr; cases hr), fun j hj => ?_⟩
    by_cases e : j = i
    · subst e
      exact hs.op hi hS ⟨hS, H⟩
    · have h1 := H.2 j (ready_mono hj e)
      obtain ⟨hun, y, hy, hall⟩ := mem_ready.1 hj
      have hno : ∀ d ∈ y.after, Region.binds md d = true → d.on ≠ i := fun d hd hb he => by
        have k1 := hall d hd hb
        have k0 := (mem_ready.1 hr).1
        rw [he] at k1
        by_cases hlt : i < L.size
        · simp [hlt] at k0 k1
          rw [k0] at k1
          cases k1
        · simp [Array.getElem?_eq_none (by omega : L.size ≤ i)] at k1
      have h2 := still_swap hy (hf j y hy e hun hno) (fun cs b => hsel i x cs b hi) (fun cs b => hsel j y cs b hy) hQ hs h1
      refine wpOp_mono (fun b u h3 => ⟨h3.2.1, ?_⟩) h2
      have h4 := h3.2.2
      rw [Array.setIfInBounds_comm _ _ (fun q => e q.symm)] at h4
      refine ih _ b u (fun k z hz hki hkn hke => hf k z hz hki ?_ hke) (ready_mono hr (Ne.symm e)) h3.1 h3.2.1 h4
      by_cases q : j = k
      · subst q; exact hun
      · rw [getD_set_ne true q] at hkn; exact hkn
/-- The call, taken first; what has to be looked up as Bools. -/
theorem still_take {i : Nat} {x : Oper} {v : Value} {fuel : Nat} {L : Array Bool} {a : Act} {w : World} (hi : ops[i]? = some x) (hs : Region.noSelect ops = true) (hf : Region.free md ops L i = true) (hr : (Region.ready md ops L).contains i = true)
    (hQ : ∀ c a w, Q (.panic c) (a.put x.dst v) w → Q (.panic c) a w) (hy : StillIf P ops S x v a) (hS : S w) (h : wpAnyH P md ops Q S fuel (L.setIfInBounds i true) (a.put x.dst v) w) : wpAnyH P md ops Q S (fuel + 1) L a w :=
  still_first hi (Region.noSelect_spec hs) hQ fuel L a w (Region.free_spec hi hf) (by simpa using hr) hy hS h
end
end Rw
end Go.Proofs.YtcefjigbaglmeaaGreat
