/-
  Texts of this claim, put together: Still, Ho41. What each one says, and under which conditions, stands ahead of it.
-/
import Derived.OrdersHeld
import Derived.Test.YtneajcoiemkfbaaGreatTk
import Derived.Test.YtneajcoiemkfbaaGreatCB
import Derived.Test.YtneajcoiemkfbaaGreatCO

section
/-
  In a region that draws its order: a call that leaves the memory as it is, and tells the same in every world that may come, may be taken ahead of all else. No program.
-/
namespace Go.Proofs.YtneajcoiemkfbaaGreat
open Go.RowKit Go.Shelf
set_option linter.unusedVariables false
namespace Rw

/-- What a call as an operation is: it is entered in every world of S, answers v there and leaves the world. -/
structure StillIf (P : Program) (ops : Array Oper) (S : World → Prop) (o : Oper) (v : Value) (a : Act) : Prop where
  on : Region.wanted o (yielded ops a.tmps) = true
  at_ : ∃ F args, (∀ w, S w → (execOp a.eval o).run P w = .ok (.enter F args) w) ∧ ∀ w, S w → Calls P F args w fun e w' => e = .returned v ∧ w = w'
section
variable {P : Program} {md : Region.Mode} {ops : Array Oper} {Q : Exit → Act → World → Prop} {S : World → Prop}
theorem StillIf.same {o : Oper} {v : Value} {a b : Act} (h : StillIf P ops S o v a) (e1 : execOp b.eval o = execOp a.eval o) (e2 : Region.wanted o (yielded ops b.tmps) = Region.wanted o (yielded ops a.tmps)) : StillIf P ops S o v b := by
  obtain ⟨F, args, h1, h2⟩ := h.at_
  exact ⟨e2.trans h.on, F, args, fun w hw => by rw [e1]; exact h1 w hw, h2⟩
/-- The call itself. -/
theorem StillIf.op {i : Nat} {o : Oper} {v : Value} {a : Act} (hi : ops[i]? = some o) (h : StillIf P ops S o v a) {K : Act → World → Prop} {w : World} (hS : S w) (hK : K (a.put o.dst v) w) : wpOp P ops Q i K a w := by
  obtain ⟨F, args, h1, h2⟩ := h.at_
  unfold wpOp
  rw [hi]
  simp only [h.on, if_true]
  refine .inl ?_
  unfold Oper.wp
  rw [h1 w hS]
  refine (h2 w hS).mono ?_
  rintro e w' ⟨rfl, rfl⟩
  exact hK
/-- Another operation does not see whether the call was there already, nor the call that one. -/
theorem still_swap {j : Nat} {x y : Oper} {v : Value} (hj : ops[j]? = some y) (hap : x.apart ops y = true) (hx : ∀ cs b, x.op ≠ .select cs b) (hy : ∀ cs b, y.op ≠ .select cs b) (hQ : ∀ c a w, Q (.panic c) (a.put x.dst v) w → Q (.panic c) a w)
    {K : Act → World → Prop} {a : Act} {w : World} (hs : StillIf P ops S x v a) (h : wpOp P ops Q j K (a.put x.dst v) w) : wpOp P ops Q j (fun b u => StillIf P ops S x v b ∧ K (b.put x.dst v) u) a w := by
  obtain ⟨p1, p2, p3⟩ := Oper.apart_spec hap
  have fwd : ∀ (b : Act), StillIf P ops S x v b → ∀ u, StillIf P ops S x v (b.put y.dst u) := fun b hb u => hb.same (execOp_put x hx b y.dst u p3) (wanted_put x b y.dst u p3)
  have ey := execOp_put y hy a x.dst v p1
  unfold wpOp at h ⊢
  rw [hj] at h ⊢
  simp only at h ⊢
  rw [wanted_put y a x.dst v p1] at h
  by_cases hw : Region.wanted y (yielded ops a.tmps) = true
  · rw [if_pos hw] at h ⊢
    rcases h with h | ⟨h, hl⟩
    · refine .inl ?_
      unfold Oper.wp at h ⊢
      rw [ey] at h
      cases hr : (execOp a.eval y).run P w with
      | ok n u =>
        rw [hr] at h
        cases n with
        | value z => exact ⟨fwd a hs z, by rw [← Act.put_comm a v z p2]; exact h⟩
        | skip => exact ⟨fwd a hs undef, by rw [← Act.put_comm a v undef p2]; exact h⟩
        | defer d =>
          have hd : StillIf P ops S x v { a with defers := d :: a.defers } := hs.same rfl rfl
          refine ⟨fwd _ hd undef, ?_⟩
          have h' : K (({ a.put x.dst v with defers := d :: (a.put x.dst v).defers } : Act).put y.dst undef) u := h
          rw [Act.put_defers, Act.put_comm _ v undef p2] at h'
          exact h'
        | enter f args =>
          have h' : Calls P f args u (fun | .returned z, u' => K ((a.put x.dst v).put y.dst z) u' | .panicked c, u' => Q (.panic c) (a.put x.dst v) u' | .outgrown, _ => LetsOut Q) := h
          refine Calls.mono h' fun e u' he => ?_
          match e, he with
          | .returned z, he => exact ⟨fwd a hs z, by rw [← Act.put_comm a v z p2]; exact he⟩
          | .panicked c, he => exact hQ _ _ _ he
          | .outgrown, he => exact he
        | row r args =>
          have h' : Rows P r args u (fun z u' => K ((a.put x.dst v).put y.dst z) u') := h
          exact Rows.mono h' fun z u' he => ⟨fwd a hs z, by rw [← Act.put_comm a v z p2]; exact he⟩
        | _ => exact (h : False).elim
      | halt z u =>
        rw [hr] at h
        cases z with
        | panic q => exact hQ _ _ _ h
        | _ => exact (h : False).elim
    · refine .inr ⟨?_, hl⟩
      unfold Oper.asks at h ⊢
      rw [ey] at h
      exact h
  · rw [if_neg hw] at h ⊢
    exact ⟨fwd a hs undef, by rw [← Act.put_comm a v undef p2]; exact h⟩
theorem still_first {i : Nat} {x : Oper} {v : Value} (hi : ops[i]? = some x) (hsel : ∀ (j : Nat) (o : Oper) cs b, ops[j]? = some o → o.op ≠ .select cs b) (hQ : ∀ c a w, Q (.panic c) (a.put x.dst v) w → Q (.panic c) a w) :
    ∀ (fuel : Nat) (L : Array Bool) (a : Act) (w : World), (∀ j y, ops[j]? = some y → j ≠ i → L.getD j true = false → (∀ e ∈ y.after, Region.binds md e = true → e.on ≠ i) → x.apart ops y = true) → i ∈ Region.ready md ops L → StillIf P ops S x v a → S w →
      wpAnyH P md ops Q S fuel (L.setIfInBounds i true) (a.put x.dst v) w → wpAnyH P md ops Q S (fuel + 1) L a w := by
  intro fuel
  induction fuel with
  | zero =>
    intro L a w _ hr hs hS H
    refine ⟨fun e => (by rw [e] at hr; cases hr), fun j hj => ?_⟩
    by_cases e : j = i
    · subst e
      exact hs.op hi hS ⟨hS, H⟩
    · have h1 := ready_mono hj e
      rw [H.1] at h1
      cases h1
  | succ fuel ih =>
    intro L a w hf hr hs hS H
    refine ⟨fun e => (by rw [e] at hr; cases hr), fun j hj => ?_⟩
    by_cases e : j = i
    · subst e
      exact hs.op hi hS ⟨hS, H⟩
    · have h1 := H.2 j (ready_mono hj e)
      obtain ⟨hun, y, hy, hall⟩ := mem_ready.1 hj
      have hno : ∀ d ∈ y.after, Region.binds md d = true → d.on ≠ i := fun d hd hb he => by
        have k1 := hall d hd hb
        have k0 := (mem_ready.1 hr).1
        rw [he] at k1
        by_cases hlt : i < L.size
        · simp [hlt] at k0 k1
          rw [k0] at k1
          cases k1
        · simp [Array.getElem?_eq_none (by omega : L.size ≤ i)] at k1
      have h2 := still_swap hy (hf j y hy e hun hno) (fun cs b => hsel i x cs b hi) (fun cs b => hsel j y cs b hy) hQ hs h1
      refine wpOp_mono (fun b u h3 => ⟨h3.2.1, ?_⟩) h2
      have h4 := h3.2.2
      rw [Array.setIfInBounds_comm _ _ (fun q => e q.symm)] at h4
      refine ih _ b u (fun k z hz hki hkn hke => hf k z hz hki ?_ hke) (ready_mono hr (Ne.symm e)) h3.1 h3.2.1 h4
      by_cases q : j = k
      · subst q; exact hun
      · rw [getD_set_ne true q] at hkn; exact hkn
/-- The call, taken first; what has to be looked up as Bools. -/
theorem still_take {i : Nat} {x : Oper} {v : Value} {fuel : Nat} {L : Array Bool} {a : Act} {w : World} (hi : ops[i]? = some x) (hs : Region.noSelect ops = true) (hf : Region.free md ops L i = true) (hr : (Region.ready md ops L).contains i = true)
    (hQ : ∀ c a w, Q (.panic c) (a.put x.dst v) w → Q (.panic c) a w) (hy : StillIf P ops S x v a) (hS : S w) (h : wpAnyH P md ops Q S fuel (L.setIfInBounds i true) (a.put x.dst v) w) : wpAnyH P md ops Q S (fuel + 1) L a w :=
  still_first hi (Region.noSelect_spec hs) hQ fuel L a w (Region.free_spec hi hf) (by simpa using hr) hy hS h
end
end Rw
end Go.Proofs.YtneajcoiemkfbaaGreat
end

section
/-
  What near of the laws makes of any act: one whose stamp, owner, validator and height may be. Conditions: the holding may be; amounts are words.
-/
namespace Go.Proofs.YtneajcoiemkfbaaGreat
open Go.RowKit Go.Shelf
set_option linter.unusedVariables false
set_option linter.unusedSimpArgs false
namespace Ho
open Kk Pm

/-- One of the numbers from 0 on below n, by any number. -/
theorem pick (x n : Int) (w : World) (x0 : -9223372036854775808 ≤ x) (x1 : x ≤ 9223372036854775807) (n0 : 0 < n) (n1 : n ≤ 4611686018427387904) :
    Calls Tryz.prog 55 #[.int .i64 x, .int .i64 n] w fun e w' => e = .returned (.int .i64 (x % n)) ∧ w = w' := by
  have t0 := Int.emod_nonneg x (b := n) (by omega)
  have t1 := Int.emod_lt_of_pos x n0
  have hb : (x.tmod n = x % n ∨ (x.tmod n < 0 ∧ x.tmod n + n = x % n)) ∧ -n < x.tmod n ∧ x.tmod n < n := by
    rw [Int.tmod_eq_emod]
    split <;> rename_i h
    · exact ⟨.inl (by omega), by omega, by omega⟩
    · have hne : x % n ≠ 0 := fun e => h (.inr (Int.dvd_of_emod_eq_zero e))
      exact ⟨.inr ⟨by omega, by omega⟩, by omega, by omega⟩
  obtain ⟨ht, b0⟩ := hb
  obtain ⟨T, hT⟩ : ∃ T, x.tmod n = T := ⟨_, rfl⟩
  have hw : IntKind.i64.wrap T = T := IntWalk.i64_in _ (by omega)
  rw [hT] at ht b0
  obtain ⟨E, hE⟩ : ∃ E, x % n = E := ⟨_, rfl⟩
  rw [hE] at ht t0 t1 ⊢
  clear hE
  rcases ht with h | ⟨h1, h2⟩
  · subst h
    go_enter Tryz.func55, Tryz.ntmps55
    go_wp2
    go_ret
    exact ⟨rfl, rfl⟩
  · have H2 := Lib.hid h2
    clear h2
    go_enter Tryz.func55, Tryz.ntmps55
    go_wp2
    go_ret
    exact ⟨by rw [← H2.out]; rfl, rfl⟩
/-- An act of plain integers and one word. -/
structure ActW (k o a b d e v h x : Int) : Prop where
  k0 : -9223372036854775808 ≤ k
  k1 : k ≤ 9223372036854775807
  o0 : -9223372036854775808 ≤ o
  o1 : o ≤ 9223372036854775807
  a0 : -9223372036854775808 ≤ a
  a1 : a ≤ 9223372036854775807
  b0 : -9223372036854775808 ≤ b
  b1 : b ≤ 9223372036854775807
  d0 : -9223372036854775808 ≤ d
  d1 : d ≤ 9223372036854775807
  e0 : -9223372036854775808 ≤ e
  e1 : e ≤ 9223372036854775807
  v0 : -9223372036854775808 ≤ v
  v1 : v ≤ 9223372036854775807
  h0 : -9223372036854775808 ≤ h
  h1 : h ≤ 9223372036854775807
  x0 : 0 ≤ x
  x1 : x ≤ 18446744073709551615
/-- One that is near. -/
structure NearA (k o a b d e v h x : Int) : Prop where
  k0 : 0 ≤ k
  k2 : k ≤ 2
  o0 : 0 ≤ o
  o3 : o ≤ 3
  ck : Sm.ck a b d e = 0
  v0 : 0 ≤ v
  v3 : v ≤ 3
  h0 : 1 ≤ h
  h1 : h ≤ 20
  x0 : 0 ≤ x
  x1 : x ≤ 18446744073709551615
  x2 : k = 2 → x ≤ 1000000000
theorem ck_new {a b : Int} (a0 : 0 ≤ a) (a1 : a ≤ 31) (b0 : 1 ≤ b) (b1 : b ≤ 4294967296) : Sm.ck a b (-1) 0 = 0 := by
  unfold Sm.ck
  rw [if_neg (by omega), if_neg (by omega), if_neg (by omega), if_neg (by omega)]
theorem ck_hop {v h a b : Int} (v0 : 0 ≤ v) (v1 : v ≤ 31) (h0 : 1 ≤ h) (h1 : h ≤ 4294967296) (a0 : 0 ≤ a) (a1 : a ≤ 31) (b0 : 1 ≤ b) (hne : v ≠ a) (hb : b ≤ h) : Sm.ck v h a b = 0 := by
  unfold Sm.ck
  rw [if_neg (by omega), if_neg (by omega), if_neg (by omega), if_neg (by omega)]
theorem ck_pos {cs ps : List R6} (h : Ok cs ps) {r1 r2 r3 r4 r5 r6 : Int} (hr : (r1, r2, r3, r4, r5, r6) ∈ ps) : Sm.ck r2 r3 r4 r5 = 0 := by
  have h1 := (h.po _ hr).2.2.2
  cases hg : get ordC cs (stp (r1, r2, r3, r4, r5, r6)) with
  | none => exact absurd hg h1
  | some y =>
    obtain ⟨e2, hy⟩ := get_key hg
    have h3 := (h.cl y hy).1
    obtain ⟨y1, y2, y3, y4, y5, y6⟩ := y
    obtain ⟨rfl, rfl, rfl, rfl⟩ := same_c e2
    exact h3
theorem bset {V : World} {b : Nat} {Y Y' : List Value} {t : TypeId} (h : Blk V b Y.toArray t) (i : Nat) (u : Value) (he : Y.toArray.setIfInBounds i u = Y'.toArray) : Blk (V.setCell ⟨b, i, none⟩ u) b Y'.toArray t := by
  rw [← he]
  exact h.set i u
/-- The variables of near: the holding, the act, the result, and the act that is made. -/
structure NrI (w : World) (g gy : Nat) (A : Option Addr) (n c : Nat) (B : Option Addr) (m d0 : Nat) (X Y : List Value) (V : World) : Prop where
  bh : Blk V g #[.slice A n c, .slice B m d0] 25
  bx : Blk V (g + 1) X.toArray 39
  br : Blk V (g + 1 + 1) #[.int .i64 0, .int .i64 0, .int .i64 0, .int .i64 0, .int .i64 0, .int .i64 0, .int .i64 0, .int .i64 0, .int .u64 0] 39
  by_ : Blk V gy Y.toArray 39
  ge : g + 1 + 1 + 1 ≤ gy
  bel : Bel w V
theorem NrI.bel' {w : World} {g gy : Nat} {A : Option Addr} {n c : Nat} {B : Option Addr} {m d0 : Nat} {X Y : List Value} {V V' : World} (h : NrI w g gy A n c B m d0 X Y V) (hb : Bel V V') : NrI w g gy A n c B m d0 X Y V' := ⟨h.bh.bel hb, h.bx.bel hb, h.br.bel hb, h.by_.bel hb, h.ge, h.bel.trans hb⟩
/-- A cell of the act that is made is written. -/
theorem NrI.set {w : World} {g gy : Nat} {A : Option Addr} {n c : Nat} {B : Option Addr} {m d0 : Nat} {X Y Y' : List Value} {V : World} (h : NrI w g gy A n c B m d0 X Y V) (hg : w.heap.size ≤ g) (i : Nat) (u : Value) (he : Y.toArray.setIfInBounds i u = Y'.toArray) : NrI w g gy A n c B m d0 X Y' (V.setCell ⟨gy, i, none⟩ u) := by
  have := h.ge
  exact ⟨h.bh.other (by omega) i u, h.bx.other (by omega) i u, h.br.other (by omega) i u, by rw [← he]; exact h.by_.set i u, h.ge, h.bel.set (p := ⟨gy, i, none⟩) (by show w.heap.size ≤ gy; omega) u⟩

set_option maxRecDepth 100000 in
set_option maxHeartbeats 16000000 in
theorem near (A : Option Addr) (n c : Nat) (B : Option Addr) (m d0 : Nat) (cs ps : List R6) (k o a b d e v h x : Int) (w : World) (hh : HH w A n c B m d0 cs ps) (hok : Ok cs ps) (ha : ActW k o a b d e v h x) :
    Calls Tryz.prog 52 #[.agg #[.slice A n c, .slice B m d0], .agg #[.int .i64 k, .int .i64 o, .int .i64 a, .int .i64 b, .int .i64 d, .int .i64 e, .int .i64 v, .int .i64 h, .int .u64 x]] w fun r w' => ∃ k' o' a' b' d' e' v' h' x', r = .returned (.agg #[.int .i64 k', .int .i64 o', .int .i64 a', .int .i64 b', .int .i64 d', .int .i64 e', .int .i64 v', .int .i64 h', .int .u64 x']) ∧ NearA k' o' a' b' d' e' v' h' x' ∧ Bel w w' := by
  obtain ⟨W, hW⟩ : ∃ W, ((w.alloc (.cells #[.slice A n c, .slice B m d0] 25)).alloc (.cells #[.int .i64 k, .int .i64 o, .int .i64 a, .int .i64 b, .int .i64 d, .int .i64 e, .int .i64 v, .int .i64 h, .int .u64 x] 39)).alloc (.cells #[.int .i64 0, .int .i64 0, .int .i64 0, .int .i64 0, .int .i64 0, .int .i64 0, .int .i64 0, .int .i64 0, .int .u64 0] 39) = W := ⟨_, rfl⟩
  have BW := Lib.hid (show Bel w W by rw [← hW]; exact (((Bel.refl _).alloc _).alloc _).alloc _)
  have P1 := Lib.hid (show Blk W w.heap.size #[.slice A n c, .slice B m d0] 25 by rw [← hW]; exact ((Blk.new _ _ _).alloc _).alloc _)
  have P2 := Lib.hid (show Blk W (w.heap.size + 1) #[.int .i64 k, .int .i64 o, .int .i64 a, .int .i64 b, .int .i64 d, .int .i64 e, .int .i64 v, .int .i64 h, .int .u64 x] 39 by rw [← hW]; have h := (Blk.new (w.alloc (.cells #[.slice A n c, .slice B m d0] 25)) #[.int .i64 k, .int .i64 o, .int .i64 a, .int .i64 b, .int .i64 d, .int .i64 e, .int .i64 v, .int .i64 h, .int .u64 x] 39).alloc (.cells #[.int .i64 0, .int .i64 0, .int .i64 0, .int .i64 0, .int .i64 0, .int .i64 0, .int .i64 0, .int .i64 0, .int .u64 0] 39); simpa using h)
  have P3 := Lib.hid (show Blk W (w.heap.size + 1 + 1) #[.int .i64 0, .int .i64 0, .int .i64 0, .int .i64 0, .int .i64 0, .int .i64 0, .int .i64 0, .int .i64 0, .int .u64 0] 39 by rw [← hW]; have h := Blk.new ((w.alloc (.cells #[.slice A n c, .slice B m d0] 25)).alloc (.cells #[.int .i64 k, .int .i64 o, .int .i64 a, .int .i64 b, .int .i64 d, .int .i64 e, .int .i64 v, .int .i64 h, .int .u64 x] 39)) #[.int .i64 0, .int .i64 0, .int .i64 0, .int .i64 0, .int .i64 0, .int .i64 0, .int .i64 0, .int .i64 0, .int .u64 0] 39; simpa using h)
  have HH0 := Lib.hid hh
  have HOK := Lib.hid hok
  have HA := Lib.hid ha
  have HSZ := Lib.hid (show W.heap.size = w.heap.size + 1 + 1 + 1 by rw [← hW, World.size_alloc, World.size_alloc, World.size_alloc])
  clear hh hok ha
  go_enter Tryz.func52, Tryz.ntmps52
  go_upto_region 1 with fail
  try rw [hW]
  obtain ⟨g, hg⟩ : ∃ g, w.heap.size = g := ⟨_, rfl⟩
  have HG := Lib.hid (show w.heap.size ≤ g by omega)
  rw [hg] at P1 P2 P3 HSZ ⊢
  clear hg hW
  have K1 := Lib.hid (fun V => pick k 3 V HA.out.k0 HA.out.k1 (by decide) (by decide))
  have K2 := Lib.hid (fun V => pick o 4 V HA.out.o0 HA.out.o1 (by decide) (by decide))
  have K3 := Lib.hid (fun V => pick v 4 V HA.out.v0 HA.out.v1 (by decide) (by decide))
  have K4 := Lib.hid (fun V => pick h 20 V HA.out.h0 HA.out.h1 (by decide) (by decide))
  have hx : x.tmod 1099511627776 = x % 1099511627776 := Int.tmod_eq_emod_of_nonneg HA.out.x0
  have NR : NearA (k % 3) (o % 4) 0 1 (-1) 0 (v % 4) (1 + h % 20) (x % 1099511627776) → True := fun _ => trivial
  have b1 : 0 ≤ k % 3 ∧ k % 3 ≤ 2 := by omega
  have b2 : 0 ≤ o % 4 ∧ o % 4 ≤ 3 := by omega
  have b3 : 0 ≤ v % 4 ∧ v % 4 ≤ 3 := by omega
  have b4 : 0 ≤ h % 20 ∧ h % 20 ≤ 19 := by omega
  have b5 : 0 ≤ x % 1099511627776 ∧ x % 1099511627776 ≤ 1099511627775 := by omega
  clear NR
  obtain ⟨k3, hk3⟩ : ∃ z, k % 3 = z := ⟨_, rfl⟩
  obtain ⟨o4, ho4⟩ : ∃ z, o % 4 = z := ⟨_, rfl⟩
  obtain ⟨v4, hv4⟩ : ∃ z, v % 4 = z := ⟨_, rfl⟩
  obtain ⟨h20, hh20⟩ : ∃ z, h % 20 = z := ⟨_, rfl⟩
  obtain ⟨xm, hxm⟩ : ∃ z, x % 1099511627776 = z := ⟨_, rfl⟩
  rw [hk3] at K1 b1
  rw [ho4] at K2 b2
  rw [hv4] at K3 b3
  rw [hh20] at K4 b4
  rw [hxm] at b5 hx
  have w1 : IntKind.i64.wrap (1 + h20) = 1 + h20 := IntWalk.i64_in _ (by omega)
  have w2 : IntKind.u64.wrap xm = xm := IntWalk.u64_in _ (by omega)
  have HB1 := Lib.hid b1
  have B2 := Lib.hid b2
  have B3 := Lib.hid b3
  have B4 := Lib.hid b4
  have B5 := Lib.hid b5
  clear hk3 ho4 hv4 hh20 hxm b1 b2 b3 b4 b5
  obtain ⟨h21, hh21⟩ : ∃ z, 1 + h20 = z := ⟨_, rfl⟩
  rw [hh21] at w1
  have B4 := Lib.hid (show 1 ≤ h21 ∧ h21 ≤ 20 by have := B4.out; omega)
  have SB := Lib.hid (fun V => pick b 20 V HA.out.b0 HA.out.b1 (by decide) (by decide))
  have c1 : 0 ≤ b % 20 ∧ b % 20 ≤ 19 := by omega
  obtain ⟨s20, hs20⟩ : ∃ z, b % 20 = z := ⟨_, rfl⟩
  rw [hs20] at SB c1
  have w3 : IntKind.i64.wrap (1 + s20) = 1 + s20 := IntWalk.i64_in _ (by omega)
  obtain ⟨s21, hs21⟩ : ∃ z, 1 + s20 = z := ⟨_, rfl⟩
  have C2 := Lib.hid (show 1 ≤ s21 ∧ s21 ≤ 20 by omega)
  rw [hs21] at w3
  clear hs20 c1
  have SA := Lib.hid (fun V => pick a 4 V HA.out.a0 HA.out.a1 (by decide) (by decide))
  have SE := Lib.hid (fun V => pick e s21 V HA.out.e0 HA.out.e1 (by have := C2.out; omega) (by have := C2.out; omega))
  have c1 : 0 ≤ a % 4 ∧ a % 4 ≤ 3 := by omega
  have c2 : 0 ≤ e % s21 ∧ e % s21 < s21 := ⟨Int.emod_nonneg _ (by have := C2.out; omega), Int.emod_lt_of_pos _ (by have := C2.out; omega)⟩
  obtain ⟨a4, ha4⟩ : ∃ z, a % 4 = z := ⟨_, rfl⟩
  obtain ⟨e4, he4⟩ : ∃ z, e % s21 = z := ⟨_, rfl⟩
  rw [ha4] at SA c1
  rw [he4] at SE c2
  have w4 : IntKind.i64.wrap (1 + e4) = 1 + e4 := IntWalk.i64_in _ (by have := C2.out; omega)
  obtain ⟨f4, hf4⟩ : ∃ z, 1 + e4 = z := ⟨_, rfl⟩
  have C3 := Lib.hid (show (0 ≤ a4 ∧ a4 ≤ 3) ∧ 1 ≤ f4 ∧ f4 ≤ s21 from ⟨c1, by omega, by omega⟩)
  rw [hf4] at w4
  have ST := Lib.hid (fun V => Sm.new a4 f4 V)
  have hck := ck_new (a := a4) (b := f4) (by have := C3.out; omega) (by have := C3.out; omega) (by have := C3.out; omega) (by have := C3.out; have := C2.out; omega)
  replace ST := Lib.hid (show ∀ V, Calls Tryz.prog 121 #[.int .i64 a4, .int .i64 f4] V fun r w' => r = .returned (.tuple #[.agg #[.int .i64 a4, .int .i64 f4, .int .i64 (-1), .int .i64 0], .int .i64 0]) ∧ Bel V w' from fun V => by
    have h := ST.out V
    rw [hck] at h
    exact h)
  have HCK := Lib.hid hck
  clear c1 c2 ha4 he4 hck
  -- a hop to another validator
  have SD := Lib.hid (fun V => pick d 3 V HA.out.d0 HA.out.d1 (by decide) (by decide))
  have c1 : 0 ≤ d % 3 ∧ d % 3 ≤ 2 := by omega
  have c2 : (a4 + 1 + d % 3) % 4 ≠ a4 ∧ 0 ≤ (a4 + 1 + d % 3) % 4 ∧ (a4 + 1 + d % 3) % 4 ≤ 3 := by have := C3.out; omega
  have hrem : (a4 + 1 + d % 3).tmod 4 = (a4 + 1 + d % 3) % 4 := Int.tmod_eq_emod_of_nonneg (by have := C3.out; omega)
  obtain ⟨d3, hd3⟩ : ∃ z, d % 3 = z := ⟨_, rfl⟩
  rw [hd3] at SD c1 c2 hrem
  have w5 : IntKind.i64.wrap (a4 + 1) = a4 + 1 := IntWalk.i64_in _ (by have := C3.out; omega)
  have w6' : IntKind.i64.wrap (a4 + 1 + d3) = a4 + 1 + d3 := IntWalk.i64_in _ (by have := C3.out; omega)
  obtain ⟨a41, ha41⟩ : ∃ z, a4 + 1 = z := ⟨_, rfl⟩
  rw [ha41] at c2 hrem w5 w6'
  obtain ⟨a42, ha42⟩ : ∃ z, a41 + d3 = z := ⟨_, rfl⟩
  rw [ha42] at c2 hrem w6'
  obtain ⟨n4, hn4⟩ : ∃ z, a42 % 4 = z := ⟨_, rfl⟩
  rw [hn4] at c2 hrem
  have w7 : IntKind.i64.wrap n4 = n4 := IntWalk.i64_in _ (by omega)
  have C4 := Lib.hid c2
  have hcp := ck_hop (v := n4) (h := s21) (a := a4) (b := f4) (by have := C4.out; omega) (by have := C4.out; omega) (by have := C2.out; omega) (by have := C2.out; omega) (by have := C3.out; omega) (by have := C3.out; omega) (by have := C3.out; omega) (by have := C4.out; omega) (by have := C3.out; omega)
  have HP := Lib.hid (fun V => Sm.hop a4 f4 (-1) 0 n4 s21 V)
  replace HP := Lib.hid (show ∀ V, Calls Tryz.prog 122 #[.agg #[.int .i64 a4, .int .i64 f4, .int .i64 (-1), .int .i64 0], .int .i64 n4, .int .i64 s21] V fun r w' => r = .returned (.tuple #[.agg #[.int .i64 n4, .int .i64 s21, .int .i64 a4, .int .i64 f4], .int .i64 0]) ∧ Bel V w' from fun V => by
    have h := HP.out V
    rw [show Sm.hopE a4 f4 (-1) 0 n4 s21 = 0 by unfold Sm.hopE; rw [if_pos HCK.out]; exact hcp] at h
    exact h)
  have HCP := Lib.hid hcp
  clear c1 c2 hd3 hn4 hcp
  obtain ⟨dm, hdm⟩ : ∃ z, d.tmod 2 = z := ⟨_, rfl⟩
  have w8 : IntKind.i64.wrap dm = dm := by
    have h1 := Int.tmod_lt_of_pos d (show (0 : Int) < 2 by decide)
    have h2 := Int.lt_tmod_of_pos d (show (0 : Int) < 2 by decide)
    exact IntWalk.i64_in _ (by omega)
  have hxb : x.tmod 1000000001 = x % 1000000001 := Int.tmod_eq_emod_of_nonneg HA.out.x0
  have c1 : 0 ≤ x % 1000000001 ∧ x % 1000000001 ≤ 1000000000 := by omega
  obtain ⟨xb, hxb2⟩ : ∃ z, x % 1000000001 = z := ⟨_, rfl⟩
  rw [hxb2] at hxb c1
  have w9 : IntKind.u64.wrap xb = xb := IntWalk.u64_in _ (by omega)
  have C5 := Lib.hid c1
  clear hxb2 c1
  refine wp_region_held_drew (S := fun Vx => Bel W Vx) (by kernel_rfl) (Bel.refl _).drew (fun hS0 => ?_)
  obtain ⟨w6, hw6⟩ : ∃ w6, World.drew W = w6 := ⟨_, rfl⟩
  rw [hw6] at hS0 ⊢
  clear hw6
  refine ztk 0 { dst := some 10, op := .fieldAddr 39 (.tmp 3) 0, type := 0, pos := "outright.go:63", after := #[], guard := none } (.pointer (some ⟨g + 1, 0, none⟩)) (Or.inl ⟨by rfl, by intro w hSw; clear hSw; go_simp⟩) hS0 ?_
  try simp only [Act.put, zq1, zq2, zq3]
  refine ztk 1 { dst := some 11, op := .load 3 (.tmp 10), type := 3, pos := "outright.go:63", after := #[{ on := 0, ground := .data }], guard := none } (.int .i64 k) (Or.inl ⟨by rfl, by intro w h; have hcell := ((P2.out.bel h).cell 0 rfl); clear h; go_simp⟩) hS0 ?_
  try simp only [Act.put, zq1, zq2, zq3]
  refine Rw.still_take (i := 2) (x := { dst := some 12, op := .call { callee := .value (.func 55), args := #[.tmp 11, .const (Value.int IntKind.i64 3)], argTypes := #[3, 3] }, type := 3, pos := "outright.go:63", after := #[{ on := 1, ground := .data }], guard := none }) (v := .int .i64 k3) rfl (by kernel_rfl) (by kernel_rfl) (by kernel_rfl) (fun _ _ _ h => h) ⟨by rfl, 55, #[.int .i64 k, .int .i64 3], by intro w hSw; clear hSw; go_simp, fun w h => K1.out w⟩ hS0 ?_
  try simp only [Act.put, zq1, zq2, zq3]
  refine ztk 3 { dst := some 13, op := .fieldAddr 39 (.tmp 3) 1, type := 0, pos := "outright.go:63", after := #[], guard := none } (.pointer (some ⟨g + 1, 1, none⟩)) (Or.inl ⟨by rfl, by intro w hSw; clear hSw; go_simp⟩) hS0 ?_
  try simp only [Act.put, zq1, zq2, zq3]
  refine ztk 4 { dst := some 14, op := .load 3 (.tmp 13), type := 3, pos := "outright.go:63", after := #[{ on := 3, ground := .data }], guard := none } (.int .i64 o) (Or.inl ⟨by rfl, by intro w h; have hcell := ((P2.out.bel h).cell 1 rfl); clear h; go_simp⟩) hS0 ?_
  try simp only [Act.put, zq1, zq2, zq3]
  refine Rw.still_take (i := 5) (x := { dst := some 15, op := .call { callee := .value (.func 55), args := #[.tmp 14, .const (Value.int IntKind.i64 4)], argTypes := #[3, 3] }, type := 3, pos := "outright.go:63", after := #[{ on := 4, ground := .data }, { on := 2, ground := .chain }], guard := none }) (v := .int .i64 o4) rfl (by kernel_rfl) (by kernel_rfl) (by kernel_rfl) (fun _ _ _ h => h) ⟨by rfl, 55, #[.int .i64 o, .int .i64 4], by intro w hSw; clear hSw; go_simp, fun w h => K2.out w⟩ hS0 ?_
  try simp only [Act.put, zq1, zq2, zq3]
  refine ztk 6 { dst := some 16, op := .fieldAddr 39 (.tmp 3) 3, type := 0, pos := "outright.go:63", after := #[], guard := none } (.pointer (some ⟨g + 1, 6, none⟩)) (Or.inl ⟨by rfl, by intro w hSw; clear hSw; go_simp⟩) hS0 ?_
  try simp only [Act.put, zq1, zq2, zq3]
  refine ztk 7 { dst := some 17, op := .load 3 (.tmp 16), type := 3, pos := "outright.go:63", after := #[{ on := 6, ground := .data }], guard := none } (.int .i64 v) (Or.inl ⟨by rfl, by intro w h; have hcell := ((P2.out.bel h).cell 6 rfl); clear h; go_simp⟩) hS0 ?_
  try simp only [Act.put, zq1, zq2, zq3]
  refine Rw.still_take (i := 8) (x := { dst := some 18, op := .call { callee := .value (.func 55), args := #[.tmp 17, .const (Value.int IntKind.i64 4)], argTypes := #[3, 3] }, type := 3, pos := "outright.go:63", after := #[{ on := 7, ground := .data }, { on := 5, ground := .chain }], guard := none }) (v := .int .i64 v4) rfl (by kernel_rfl) (by kernel_rfl) (by kernel_rfl) (fun _ _ _ h => h) ⟨by rfl, 55, #[.int .i64 v, .int .i64 4], by intro w hSw; clear hSw; go_simp, fun w h => K3.out w⟩ hS0 ?_
  try simp only [Act.put, zq1, zq2, zq3]
  refine ztk 9 { dst := some 19, op := .fieldAddr 39 (.tmp 3) 4, type := 0, pos := "outright.go:63", after := #[], guard := none } (.pointer (some ⟨g + 1, 7, none⟩)) (Or.inl ⟨by rfl, by intro w hSw; clear hSw; go_simp⟩) hS0 ?_
  try simp only [Act.put, zq1, zq2, zq3]
  refine ztk 10 { dst := some 20, op := .load 3 (.tmp 19), type := 3, pos := "outright.go:63", after := #[{ on := 9, ground := .data }], guard := none } (.int .i64 h) (Or.inl ⟨by rfl, by intro w h; have hcell := ((P2.out.bel h).cell 7 rfl); clear h; go_simp⟩) hS0 ?_
  try simp only [Act.put, zq1, zq2, zq3]
  refine Rw.still_take (i := 11) (x := { dst := some 21, op := .call { callee := .value (.func 55), args := #[.tmp 20, .const (Value.int IntKind.i64 20)], argTypes := #[3, 3] }, type := 3, pos := "outright.go:63", after := #[{ on := 10, ground := .data }, { on := 8, ground := .chain }], guard := none }) (v := .int .i64 h20) rfl (by kernel_rfl) (by kernel_rfl) (by kernel_rfl) (fun _ _ _ h => h) ⟨by rfl, 55, #[.int .i64 h, .int .i64 20], by intro w hSw; clear hSw; go_simp, fun w h => K4.out w⟩ hS0 ?_
  try simp only [Act.put, zq1, zq2, zq3]
  refine ztk 12 { dst := some 22, op := .binOp .add 3 (.const (Value.int IntKind.i64 1)) (.tmp 21) 3, type := 3, pos := "outright.go:63", after := #[{ on := 11, ground := .data }], guard := none } (.int .i64 h21) (Or.inl ⟨by rfl, by intro w hSw; clear hSw; go_simp⟩) hS0 ?_
  try simp only [Act.put, zq1, zq2, zq3]
  refine ztk 13 { dst := some 23, op := .fieldAddr 39 (.tmp 3) 5, type := 0, pos := "outright.go:63", after := #[], guard := none } (.pointer (some ⟨g + 1, 8, none⟩)) (Or.inl ⟨by rfl, by intro w hSw; clear hSw; go_simp⟩) hS0 ?_
  try simp only [Act.put, zq1, zq2, zq3]
  refine ztk 14 { dst := some 24, op := .load 32 (.tmp 23), type := 32, pos := "outright.go:63", after := #[{ on := 13, ground := .data }], guard := none } (.int .u64 x) (Or.inl ⟨by rfl, by intro w h; have hcell := ((P2.out.bel h).cell 8 rfl); clear h; go_simp⟩) hS0 ?_
  try simp only [Act.put, zq1, zq2, zq3]
  refine ztk 15 { dst := some 25, op := .binOp .rem 32 (.tmp 24) (.const (Value.int IntKind.u64 1099511627776)) 32, type := 32, pos := "outright.go:63", after := #[{ on := 14, ground := .data }], guard := none } (.int .u64 xm) (Or.inl ⟨by rfl, by intro w hSw; clear hSw; go_simp⟩) hS0 ?_
  try simp only [Act.put, zq1, zq2, zq3]
  refine ztk 16 { dst := some 26, op := .build 39 #[(0, .tmp 12), (1, .tmp 15), (3, .tmp 18), (4, .tmp 22), (5, .tmp 25)], type := 39, pos := "outright.go:63", after := #[{ on := 2, ground := .data }, { on := 5, ground := .data }, { on := 8, ground := .data }, { on := 12, ground := .data }, { on := 15, ground := .data }], guard := none } (.agg #[.int .i64 k3, .int .i64 o4, .int .i64 0, .int .i64 0, .int .i64 0, .int .i64 0, .int .i64 v4, .int .i64 h21, .int .u64 xm]) (Or.inl ⟨by rfl, by intro w hSw; clear hSw; go_simp⟩) hS0 ?_
  try simp only [Act.put, zq1, zq2, zq3]
  refine wpAnyH_ready (rs := [17]) (by kernel_rfl) (by simp) ?_
  refine AllReadyH.cons (o := { dst := some 5, op := .alloc 39, type := 0, pos := "outright.go:63", after := #[], guard := none }) rfl (fun K hK => ?_) AllReadyH.nil
  go_simp
  refine hK.out _ _ (hS0.alloc _) (fun hS1 => ?_)
  clear hK K
  try simp only [Act.put, zq1, zq2, zq3]
  have gyb := Blk.new w6 #[.int .i64 0, .int .i64 0, .int .i64 0, .int .i64 0, .int .i64 0, .int .i64 0, .int .i64 0, .int .i64 0, .int .u64 0] 39
  have gyl := Lib.hid (Below.size hS0)
  generalize hvq : World.alloc w6 (Obj.cells #[.int .i64 0, .int .i64 0, .int .i64 0, .int .i64 0, .int .i64 0, .int .i64 0, .int .i64 0, .int .i64 0, .int .u64 0] 39) = v1 at gyb hS1 ⊢
  have gyk : Bel w6 v1 := by rw [← hvq]; exact (Bel.refl _).alloc _
  clear hvq
  obtain ⟨gy, hgq⟩ : ∃ g, (World.heap w6).size = g := ⟨_, rfl⟩
  rw [hgq] at gyb gyl ⊢
  clear hgq
  have gyb := Lib.hid gyb
  refine wpAnyH_ready (rs := [18]) (by kernel_rfl) (by simp) ?_
  refine AllReadyH.cons (o := { dst := none, op := .store 39 (.tmp 5) (.tmp 26), type := 0, pos := "outright.go:63", after := #[{ on := 17, ground := .data }, { on := 16, ground := .data }, { on := 11, ground := .chain }, { on := 0, ground := .phase }, { on := 1, ground := .phase }, { on := 2, ground := .phase }, { on := 3, ground := .phase }, { on := 4, ground := .phase }, { on := 5, ground := .phase }, { on := 6, ground := .phase }, { on := 7, ground := .phase }, { on := 8, ground := .phase }, { on := 9, ground := .phase }, { on := 10, ground := .phase }, { on := 11, ground := .phase }, { on := 12, ground := .phase }, { on := 13, ground := .phase }, { on := 14, ground := .phase }, { on := 15, ground := .phase }, { on := 16, ground := .phase }, { on := 17, ground := .phase }], guard := none }) rfl (fun K hK => ?_) AllReadyH.nil
  have QB : Blk v1 gy #[.int .i64 0, .int .i64 0, .int .i64 0, .int .i64 0, .int .i64 0, .int .i64 0, .int .i64 0, .int .i64 0, .int .u64 0] 39 := gyb.out
  obtain ⟨q0, q1, q2, q3, q4, q5, q6, q7, q8⟩ : (_ ∧ _ ∧ _ ∧ _ ∧ _ ∧ _ ∧ _ ∧ _ ∧ _) := ⟨QB.cell 0 rfl, QB.cell 1 rfl, QB.cell 2 rfl, QB.cell 3 rfl, QB.cell 4 rfl, QB.cell 5 rfl, QB.cell 6 rfl, QB.cell 7 rfl, QB.cell 8 rfl⟩
  obtain ⟨qf0, qf1, qf2, qf3, qf4, qf5, qf6, qf7, qf8⟩ : (_ ∧ _ ∧ _ ∧ _ ∧ _ ∧ _ ∧ _ ∧ _ ∧ _) := ⟨QB.frozen 0, QB.frozen 1, QB.frozen 2, QB.frozen 3, QB.frozen 4, QB.frozen 5, QB.frozen 6, QB.frozen 7, QB.frozen 8⟩
  go_simp
  refine hK.out _ _ (((((((((hS1.set (p := ⟨gy, 0, none⟩) gyl.out _).set (p := ⟨gy, 1, none⟩) gyl.out _).set (p := ⟨gy, 2, none⟩) gyl.out _).set (p := ⟨gy, 3, none⟩) gyl.out _).set (p := ⟨gy, 4, none⟩) gyl.out _).set (p := ⟨gy, 5, none⟩) gyl.out _).set (p := ⟨gy, 6, none⟩) gyl.out _).set (p := ⟨gy, 7, none⟩) gyl.out _).set (p := ⟨gy, 8, none⟩) gyl.out _) (fun hS2 => ?_)
  clear hK K
  try simp only [Act.put, zq1, zq2, zq3]
  refine wpAnyH_done (by kernel_rfl) ?_ _
  have HE := Lib.hid hS2
  have hgy := gyl.out
  have N0 : NrI w g gy A n c B m d0 [.int .i64 k, .int .i64 o, .int .i64 a, .int .i64 b, .int .i64 d, .int .i64 e, .int .i64 v, .int .i64 h, .int .u64 x] [.int .i64 0, .int .i64 0, .int .i64 0, .int .i64 0, .int .i64 0, .int .i64 0, .int .i64 0, .int .i64 0, .int .u64 0] v1 := ⟨P1.out.bel hS1, P2.out.bel hS1, P3.out.bel hS1, QB, by have := HSZ.out; omega, BW.out.trans hS1⟩
  have NI := Lib.hid ((((((((((N0).set HG.out 0 (.int .i64 k3) (Y' := [.int .i64 k3, .int .i64 0, .int .i64 0, .int .i64 0, .int .i64 0, .int .i64 0, .int .i64 0, .int .i64 0, .int .u64 0]) rfl).set HG.out 1 (.int .i64 o4) (Y' := [.int .i64 k3, .int .i64 o4, .int .i64 0, .int .i64 0, .int .i64 0, .int .i64 0, .int .i64 0, .int .i64 0, .int .u64 0]) rfl).set HG.out 2 (.int .i64 0) (Y' := [.int .i64 k3, .int .i64 o4, .int .i64 0, .int .i64 0, .int .i64 0, .int .i64 0, .int .i64 0, .int .i64 0, .int .u64 0]) rfl).set HG.out 3 (.int .i64 0) (Y' := [.int .i64 k3, .int .i64 o4, .int .i64 0, .int .i64 0, .int .i64 0, .int .i64 0, .int .i64 0, .int .i64 0, .int .u64 0]) rfl).set HG.out 4 (.int .i64 0) (Y' := [.int .i64 k3, .int .i64 o4, .int .i64 0, .int .i64 0, .int .i64 0, .int .i64 0, .int .i64 0, .int .i64 0, .int .u64 0]) rfl).set HG.out 5 (.int .i64 0) (Y' := [.int .i64 k3, .int .i64 o4, .int .i64 0, .int .i64 0, .int .i64 0, .int .i64 0, .int .i64 0, .int .i64 0, .int .u64 0]) rfl).set HG.out 6 (.int .i64 v4) (Y' := [.int .i64 k3, .int .i64 o4, .int .i64 0, .int .i64 0, .int .i64 0, .int .i64 0, .int .i64 v4, .int .i64 0, .int .u64 0]) rfl).set HG.out 7 (.int .i64 h21) (Y' := [.int .i64 k3, .int .i64 o4, .int .i64 0, .int .i64 0, .int .i64 0, .int .i64 0, .int .i64 v4, .int .i64 h21, .int .u64 0]) rfl).set HG.out 8 (.int .u64 xm) (Y' := [.int .i64 k3, .int .i64 o4, .int .i64 0, .int .i64 0, .int .i64 0, .int .i64 0, .int .i64 v4, .int .i64 h21, .int .u64 xm]) rfl)
  obtain ⟨U, hU⟩ : ∃ U, (((((((((v1.setCell ⟨gy, 0, none⟩ (.int .i64 k3)).setCell ⟨gy, 1, none⟩ (.int .i64 o4)).setCell ⟨gy, 2, none⟩ (.int .i64 0)).setCell ⟨gy, 3, none⟩ (.int .i64 0)).setCell ⟨gy, 4, none⟩ (.int .i64 0)).setCell ⟨gy, 5, none⟩ (.int .i64 0)).setCell ⟨gy, 6, none⟩ (.int .i64 v4)).setCell ⟨gy, 7, none⟩ (.int .i64 h21)).setCell ⟨gy, 8, none⟩ (.int .u64 xm)) = U := ⟨_, rfl⟩
  rw [hU] at NI HE ⊢
  clear hU hgy QB q0 q1 q2 q3 q4 q5 q6 q7 q8 qf0 qf1 qf2 qf3 qf4 qf5 qf6 qf7 qf8 P1 P2 P3
  obtain ⟨x0, x1, x2, x3, x4, x5, x6, x7, x8⟩ : (_ ∧ _ ∧ _ ∧ _ ∧ _ ∧ _ ∧ _ ∧ _ ∧ _) := ⟨NI.out.bx.cell 0 rfl, NI.out.bx.cell 1 rfl, NI.out.bx.cell 2 rfl, NI.out.bx.cell 3 rfl, NI.out.bx.cell 4 rfl, NI.out.bx.cell 5 rfl, NI.out.bx.cell 6 rfl, NI.out.bx.cell 7 rfl, NI.out.bx.cell 8 rfl⟩
  go_wp2_with fail
  refine (SB.out _).mono ?_
  rintro r V1 ⟨rfl, rfl⟩
  go_upto_region 3 with fail
  clear x0 x1 x2 x3 x4 x5 x6 x7 x8
  have hgn : ¬ g + 1 = gy := by have := NI.out.ge; omega
  refine wp_region_held_drew (S := fun V => Kep (fun i => i = gy) U V) (by kernel_rfl) (Kep.drew (Kep.refl _ _)) (fun hS0 => ?_)
  obtain ⟨w6, hw6⟩ : ∃ w6, World.drew U = w6 := ⟨_, rfl⟩
  have HD6 := Lib.hid (show Bel U w6 by rw [← hw6]; exact (Bel.refl _).drew)
  rw [hw6] at hS0 ⊢
  clear hw6
  refine ztk 0 { dst := some 33, op := .fieldAddr 39 (.tmp 3) 2, type := 0, pos := "outright.go:65", after := #[], guard := none } (.pointer (some ⟨g + 1, 2, none⟩)) (Or.inl ⟨by rfl, by intro w hSw; clear hSw; go_simp⟩) hS0 ?_
  try simp only [Act.put, zq1, zq2, zq3]
  refine ztk 1 { dst := some 34, op := .fieldAddr 37 (.tmp 33) 0, type := 0, pos := "outright.go:65", after := #[{ on := 0, ground := .data }], guard := none } (.pointer (some ⟨g + 1, 2, none⟩)) (Or.inl ⟨by rfl, by intro w hSw; clear hSw; go_simp⟩) hS0 ?_
  try simp only [Act.put, zq1, zq2, zq3]
  refine ztk 2 { dst := some 35, op := .load 3 (.tmp 34), type := 3, pos := "outright.go:65", after := #[{ on := 1, ground := .data }], guard := none } (.int .i64 a) (Or.inl ⟨by rfl, by intro w h; have hcell := ((NI.out.bx.kep h hgn).cell 2 rfl); clear h; go_simp⟩) hS0 ?_
  try simp only [Act.put, zq1, zq2, zq3]
  refine Rw.still_take (i := 3) (x := { dst := some 36, op := .call { callee := .value (.func 55), args := #[.tmp 35, .const (Value.int IntKind.i64 4)], argTypes := #[3, 3] }, type := 3, pos := "outright.go:65", after := #[{ on := 2, ground := .data }], guard := none }) (v := .int .i64 a4) rfl (by kernel_rfl) (by kernel_rfl) (by kernel_rfl) (fun _ _ _ h => h) ⟨by rfl, 55, #[.int .i64 a, .int .i64 4], by intro w hSw; clear hSw; go_simp, fun w h => SA.out w⟩ hS0 ?_
  try simp only [Act.put, zq1, zq2, zq3]
  refine ztk 4 { dst := some 37, op := .fieldAddr 39 (.tmp 3) 2, type := 0, pos := "outright.go:65", after := #[], guard := none } (.pointer (some ⟨g + 1, 2, none⟩)) (Or.inl ⟨by rfl, by intro w hSw; clear hSw; go_simp⟩) hS0 ?_
  try simp only [Act.put, zq1, zq2, zq3]
  refine ztk 5 { dst := some 38, op := .fieldAddr 37 (.tmp 37) 3, type := 0, pos := "outright.go:65", after := #[{ on := 4, ground := .data }], guard := none } (.pointer (some ⟨g + 1, 5, none⟩)) (Or.inl ⟨by rfl, by intro w hSw; clear hSw; go_simp⟩) hS0 ?_
  try simp only [Act.put, zq1, zq2, zq3]
  refine ztk 6 { dst := some 39, op := .load 3 (.tmp 38), type := 3, pos := "outright.go:65", after := #[{ on := 5, ground := .data }], guard := none } (.int .i64 e) (Or.inl ⟨by rfl, by intro w h; have hcell := ((NI.out.bx.kep h hgn).cell 5 rfl); clear h; go_simp⟩) hS0 ?_
  try simp only [Act.put, zq1, zq2, zq3]
  refine ztk 7 { dst := some 40, op := .move (.tmp 6), type := 3, pos := "outright.go:65", after := #[], guard := none } (.int .i64 s21) (Or.inl ⟨by rfl, by intro w hSw; clear hSw; go_simp⟩) hS0 ?_
  try simp only [Act.put, zq1, zq2, zq3]
  refine Rw.still_take (i := 8) (x := { dst := some 41, op := .call { callee := .value (.func 55), args := #[.tmp 39, .tmp 40], argTypes := #[3, 3] }, type := 3, pos := "outright.go:65", after := #[{ on := 6, ground := .data }, { on := 7, ground := .data }, { on := 3, ground := .chain }], guard := none }) (v := .int .i64 e4) rfl (by kernel_rfl) (by kernel_rfl) (by kernel_rfl) (fun _ _ _ h => h) ⟨by rfl, 55, #[.int .i64 e, .int .i64 s21], by intro w hSw; clear hSw; go_simp, fun w h => SE.out w⟩ hS0 ?_
  try simp only [Act.put, zq1, zq2, zq3]
  refine ztk 9 { dst := some 42, op := .binOp .add 3 (.const (Value.int IntKind.i64 1)) (.tmp 41) 3, type := 3, pos := "outright.go:65", after := #[{ on := 8, ground := .data }], guard := none } (.int .i64 f4) (Or.inl ⟨by rfl, by intro w hSw; clear hSw; go_simp⟩) hS0 ?_
  try simp only [Act.put, zq1, zq2, zq3]
  refine wpAnyH_ready (rs := [10]) (by kernel_rfl) (by simp) ?_
  refine AllReadyH.cons (o := { dst := some 43, op := .call { callee := .value (.func 121), args := #[.tmp 36, .tmp 42], argTypes := #[3, 3] }, type := 157, pos := "outright.go:65", after := #[{ on := 3, ground := .data }, { on := 9, ground := .data }, { on := 8, ground := .chain }], guard := none }) rfl (fun K hK => ?_) AllReadyH.nil
  go_simp
  refine (ST.out _).mono ?_
  rintro e v1 ⟨rfl, kb⟩
  go_wp2_with fail
  refine hK.out _ _ (hS0.trans (Kep.of_bel kb)) (fun hS1 => ?_)
  clear hK K
  try simp only [Act.put, zq1, zq2, zq3]
  refine ztk 11 { dst := some 32, op := .move (.tmp 43), type := 157, pos := "outright.go:65", after := #[{ on := 10, ground := .data }], guard := none } (.tuple #[.agg #[.int .i64 a4, .int .i64 f4, .int .i64 (-1), .int .i64 0], .int .i64 0]) (Or.inl ⟨by rfl, by intro w hSw; clear hSw; go_simp⟩) hS1 ?_
  try simp only [Act.put, zq1, zq2, zq3]
  refine ztk 12 { dst := some 44, op := .extract (.tmp 32) 0, type := 37, pos := "outright.go:65", after := #[{ on := 11, ground := .data }], guard := none } (.agg #[.int .i64 a4, .int .i64 f4, .int .i64 (-1), .int .i64 0]) (Or.inl ⟨by rfl, by intro w hSw; clear hSw; go_simp⟩) hS1 ?_
  try simp only [Act.put, zq1, zq2, zq3]
  refine ztk 13 { dst := some 45, op := .extract (.tmp 32) 1, type := 30, pos := "outright.go:65", after := #[{ on := 11, ground := .data }, { on := 15, ground := .gcOnly .lateStores }], guard := none } (.int .i64 0) (Or.inl ⟨by rfl, by intro w hSw; clear hSw; go_simp⟩) hS1 ?_
  try simp only [Act.put, zq1, zq2, zq3]
  refine ztk 14 { dst := some 46, op := .fieldAddr 39 (.tmp 5) 2, type := 0, pos := "outright.go:65", after := #[{ on := 0, ground := .phase }, { on := 1, ground := .phase }, { on := 2, ground := .phase }, { on := 3, ground := .phase }, { on := 4, ground := .phase }, { on := 5, ground := .phase }, { on := 6, ground := .phase }, { on := 7, ground := .phase }, { on := 8, ground := .phase }, { on := 9, ground := .phase }, { on := 10, ground := .phase }, { on := 11, ground := .phase }, { on := 12, ground := .phase }, { on := 13, ground := .textOnly .lateStores }], guard := none } (.pointer (some ⟨gy, 2, none⟩)) (Or.inl ⟨by rfl, by intro w hSw; clear hSw; go_simp⟩) hS1 ?_
  try simp only [Act.put, zq1, zq2, zq3]
  refine wpAnyH_ready (rs := [15]) (by kernel_rfl) (by simp) ?_
  refine AllReadyH.cons (o := { dst := none, op := .store 37 (.tmp 46) (.tmp 44), type := 0, pos := "outright.go:65", after := #[{ on := 14, ground := .data }, { on := 12, ground := .data }, { on := 10, ground := .chain }, { on := 0, ground := .phase }, { on := 1, ground := .phase }, { on := 2, ground := .phase }, { on := 3, ground := .phase }, { on := 4, ground := .phase }, { on := 5, ground := .phase }, { on := 6, ground := .phase }, { on := 7, ground := .phase }, { on := 8, ground := .phase }, { on := 9, ground := .phase }, { on := 10, ground := .phase }, { on := 11, ground := .phase }, { on := 12, ground := .phase }, { on := 13, ground := .textOnly .lateStores }], guard := none }) rfl (fun K hK => ?_) AllReadyH.nil
  have NB := NI.out.bel' (HD6.out.trans kb)
  have QB := NB.by_
  obtain ⟨q2, q3, q4, q5⟩ : (_ ∧ _ ∧ _ ∧ _) := ⟨QB.cell 2 rfl, QB.cell 3 rfl, QB.cell 4 rfl, QB.cell 5 rfl⟩
  obtain ⟨qf2, qf3, qf4, qf5⟩ : (_ ∧ _ ∧ _ ∧ _) := ⟨QB.frozen 2, QB.frozen 3, QB.frozen 4, QB.frozen 5⟩
  go_simp
  refine hK.out _ _ ((((hS1.set (b := gy) (o := 2) rfl _).set (b := gy) (o := 3) rfl _).set (b := gy) (o := 4) rfl _).set (b := gy) (o := 5) rfl _) (fun hS2 => ?_)
  clear hK K
  try simp only [Act.put, zq1, zq2, zq3]
  refine wpAnyH_done (by kernel_rfl) ?_ _
  have NI2 := Lib.hid (((((NB).set HG.out 2 (.int .i64 a4) (Y' := [.int .i64 k3, .int .i64 o4, .int .i64 a4, .int .i64 0, .int .i64 0, .int .i64 0, .int .i64 v4, .int .i64 h21, .int .u64 xm]) rfl).set HG.out 3 (.int .i64 f4) (Y' := [.int .i64 k3, .int .i64 o4, .int .i64 a4, .int .i64 f4, .int .i64 0, .int .i64 0, .int .i64 v4, .int .i64 h21, .int .u64 xm]) rfl).set HG.out 4 (.int .i64 (-1)) (Y' := [.int .i64 k3, .int .i64 o4, .int .i64 a4, .int .i64 f4, .int .i64 (-1), .int .i64 0, .int .i64 v4, .int .i64 h21, .int .u64 xm]) rfl).set HG.out 5 (.int .i64 0) (Y' := [.int .i64 k3, .int .i64 o4, .int .i64 a4, .int .i64 f4, .int .i64 (-1), .int .i64 0, .int .i64 v4, .int .i64 h21, .int .u64 xm]) rfl)
  obtain ⟨Z, hZ⟩ : ∃ Z, ((((v1.setCell ⟨gy, 2, none⟩ (.int .i64 a4)).setCell ⟨gy, 3, none⟩ (.int .i64 f4)).setCell ⟨gy, 4, none⟩ (.int .i64 (-1))).setCell ⟨gy, 5, none⟩ (.int .i64 0)) = Z := ⟨_, rfl⟩
  rw [hZ] at NI2 ⊢
  clear hZ QB NB q2 q3 q4 q5 qf2 qf3 qf4 qf5 NI hS2
  have p4 := NI2.out.bx.cell 4 rfl
  go_upto_if 51 with fail
  go_cut [] (fun wx => Hid (∃ A1 B1 D1 E1, Sm.ck A1 B1 D1 E1 = 0 ∧ NrI w g gy A n c B m d0 [.int .i64 k, .int .i64 o, .int .i64 a, .int .i64 b, .int .i64 d, .int .i64 e, .int .i64 v, .int .i64 h, .int .u64 x] [.int .i64 k3, .int .i64 o4, .int .i64 A1, .int .i64 B1, .int .i64 D1, .int .i64 E1, .int .i64 v4, .int .i64 h21, .int .u64 xm] wx))
  case first =>
    by_cases hd0 : dm = 0
    · have hb : (dm != 0) = false := by rw [hd0]; rfl
      go_wp2_with fail
      go_meet
      exact Lib.hid ⟨a4, f4, -1, 0, HCK.out, NI2.out⟩
    · have hb : (dm != 0) = true := by rw [bne_iff_ne]; exact hd0
      go_upto_region 5 with fail
      have hgn : ¬ g + 1 = gy := by have := NI2.out.ge; omega
      refine wp_region_held_drew (S := fun V => Kep (fun i => i = gy) Z V) (by kernel_rfl) (Kep.drew (Kep.refl _ _)) (fun hS0 => ?_)
      obtain ⟨w7, hw7⟩ : ∃ w7, World.drew Z = w7 := ⟨_, rfl⟩
      have HD7 := Lib.hid (show Bel Z w7 by rw [← hw7]; exact (Bel.refl _).drew)
      rw [hw7] at hS0 ⊢
      clear hw7
      have NC := Lib.hid (NI2.out.bel' HD7.out)
      have m2 := NC.out.by_.cell 2 rfl
      have m3 := NC.out.by_.cell 3 rfl
      have m4 := NC.out.by_.cell 4 rfl
      have m5 := NC.out.by_.cell 5 rfl
      refine ztk 0 { dst := some 53, op := .fieldAddr 39 (.tmp 5) 2, type := 0, pos := "outright.go:67", after := #[], guard := none } (.pointer (some ⟨gy, 2, none⟩)) (Or.inl ⟨by rfl, by intro w hSw; clear hSw; go_simp⟩) hS0 ?_
      try simp only [Act.put, zq1, zq2, zq3]
      refine ztk 2 { dst := some 55, op := .fieldAddr 39 (.tmp 5) 2, type := 0, pos := "outright.go:67", after := #[], guard := none } (.pointer (some ⟨gy, 2, none⟩)) (Or.inl ⟨by rfl, by intro w hSw; clear hSw; go_simp⟩) hS0 ?_
      try simp only [Act.put, zq1, zq2, zq3]
      refine ztk 3 { dst := some 56, op := .fieldAddr 37 (.tmp 55) 0, type := 0, pos := "outright.go:67", after := #[{ on := 2, ground := .data }], guard := none } (.pointer (some ⟨gy, 2, none⟩)) (Or.inl ⟨by rfl, by intro w hSw; clear hSw; go_simp⟩) hS0 ?_
      try simp only [Act.put, zq1, zq2, zq3]
      refine ztk 6 { dst := some 59, op := .fieldAddr 39 (.tmp 3) 2, type := 0, pos := "outright.go:67", after := #[], guard := none } (.pointer (some ⟨g + 1, 2, none⟩)) (Or.inl ⟨by rfl, by intro w hSw; clear hSw; go_simp⟩) hS0 ?_
      try simp only [Act.put, zq1, zq2, zq3]
      refine ztk 7 { dst := some 60, op := .fieldAddr 37 (.tmp 59) 2, type := 0, pos := "outright.go:67", after := #[{ on := 6, ground := .data }], guard := none } (.pointer (some ⟨g + 1, 4, none⟩)) (Or.inl ⟨by rfl, by intro w hSw; clear hSw; go_simp⟩) hS0 ?_
      try simp only [Act.put, zq1, zq2, zq3]
      refine ztk 8 { dst := some 61, op := .load 3 (.tmp 60), type := 3, pos := "outright.go:67", after := #[{ on := 7, ground := .data }], guard := none } (.int .i64 d) (Or.inl ⟨by rfl, by intro w h; have hcell := ((NI2.out.bx.kep h hgn).cell 4 rfl); clear h; go_simp⟩) hS0 ?_
      try simp only [Act.put, zq1, zq2, zq3]
      refine Rw.still_take (i := 9) (x := { dst := some 62, op := .call { callee := .value (.func 55), args := #[.tmp 61, .const (Value.int IntKind.i64 3)], argTypes := #[3, 3] }, type := 3, pos := "outright.go:67", after := #[{ on := 8, ground := .data }], guard := none }) (v := .int .i64 d3) rfl (by kernel_rfl) (by kernel_rfl) (by kernel_rfl) (fun _ _ _ h => h) ⟨by rfl, 55, #[.int .i64 d, .int .i64 3], by intro w hSw; clear hSw; go_simp, fun w h => SD.out w⟩ hS0 ?_
      try simp only [Act.put, zq1, zq2, zq3]
      refine ztk 12 { dst := some 65, op := .move (.tmp 6), type := 3, pos := "outright.go:67", after := #[], guard := none } (.int .i64 s21) (Or.inl ⟨by rfl, by intro w hSw; clear hSw; go_simp⟩) hS0 ?_
      try simp only [Act.put, zq1, zq2, zq3]
      refine wpAnyH_ready (rs := [1, 4]) (by kernel_rfl) (by simp) ?_
      refine AllReadyH.cons (o := { dst := some 54, op := .load 37 (.tmp 53), type := 37, pos := "outright.go:67", after := #[{ on := 0, ground := .data }], guard := none }) rfl (fun K hK => ?_) (AllReadyH.cons (o := { dst := some 57, op := .load 3 (.tmp 56), type := 3, pos := "outright.go:67", after := #[{ on := 3, ground := .data }], guard := none }) rfl (fun K hK => ?_) AllReadyH.nil)
      · go_simp
        refine hK.out _ _ (hS0) (fun hS1 => ?_)
        clear hK K
        try simp only [Act.put, zq1, zq2, zq3]
        refine wpAnyH_ready (rs := [4]) (by kernel_rfl) (by simp) ?_
        refine AllReadyH.cons (o := { dst := some 57, op := .load 3 (.tmp 56), type := 3, pos := "outright.go:67", after := #[{ on := 3, ground := .data }], guard := none }) rfl (fun K hK => ?_) AllReadyH.nil
        go_simp
        refine hK.out _ _ (hS1) (fun hS2 => ?_)
        clear hK K
        try simp only [Act.put, zq1, zq2, zq3]
        refine ztk 5 { dst := some 58, op := .binOp .add 3 (.tmp 57) (.const (Value.int IntKind.i64 1)) 3, type := 3, pos := "outright.go:67", after := #[{ on := 4, ground := .data }], guard := none } (.int .i64 a41) (Or.inl ⟨by rfl, by intro w hSw; clear hSw; go_simp⟩) hS2 ?_
        try simp only [Act.put, zq1, zq2, zq3]
        refine ztk 10 { dst := some 63, op := .binOp .add 3 (.tmp 58) (.tmp 62) 3, type := 3, pos := "outright.go:67", after := #[{ on := 5, ground := .data }, { on := 9, ground := .data }], guard := none } (.int .i64 a42) (Or.inl ⟨by rfl, by intro w hSw; clear hSw; go_simp⟩) hS2 ?_
        try simp only [Act.put, zq1, zq2, zq3]
        refine ztk 11 { dst := some 64, op := .binOp .rem 3 (.tmp 63) (.const (Value.int IntKind.i64 4)) 3, type := 3, pos := "outright.go:67", after := #[{ on := 10, ground := .data }], guard := none } (.int .i64 n4) (Or.inl ⟨by rfl, by intro w hSw; clear hSw; go_simp⟩) hS2 ?_
        try simp only [Act.put, zq1, zq2, zq3]
        refine wpAnyH_ready (rs := [13]) (by kernel_rfl) (by simp) ?_
        refine AllReadyH.cons (o := { dst := some 66, op := .call { callee := .value (.func 122), args := #[.tmp 54, .tmp 64, .tmp 65], argTypes := #[37, 3, 3] }, type := 157, pos := "outright.go:67", after := #[{ on := 1, ground := .data }, { on := 11, ground := .data }, { on := 12, ground := .data }, { on := 9, ground := .chain }], guard := none }) rfl (fun K hK => ?_) AllReadyH.nil
        go_simp
        refine (HP.out _).mono ?_
        rintro e v3 ⟨rfl, kb⟩
        go_wp2_with fail
        refine hK.out _ _ (hS2.trans (Kep.of_bel kb)) (fun hS3 => ?_)
        clear hK K
        try simp only [Act.put, zq1, zq2, zq3]
        refine ztk 14 { dst := some 52, op := .move (.tmp 66), type := 157, pos := "outright.go:67", after := #[{ on := 13, ground := .data }], guard := none } (.tuple #[.agg #[.int .i64 n4, .int .i64 s21, .int .i64 a4, .int .i64 f4], .int .i64 0]) (Or.inl ⟨by rfl, by intro w hSw; clear hSw; go_simp⟩) hS3 ?_
        try simp only [Act.put, zq1, zq2, zq3]
        refine ztk 15 { dst := some 67, op := .extract (.tmp 52) 0, type := 37, pos := "outright.go:67", after := #[{ on := 14, ground := .data }], guard := none } (.agg #[.int .i64 n4, .int .i64 s21, .int .i64 a4, .int .i64 f4]) (Or.inl ⟨by rfl, by intro w hSw; clear hSw; go_simp⟩) hS3 ?_
        try simp only [Act.put, zq1, zq2, zq3]
        refine ztk 16 { dst := some 68, op := .extract (.tmp 52) 1, type := 30, pos := "outright.go:67", after := #[{ on := 14, ground := .data }, { on := 18, ground := .gcOnly .lateStores }], guard := none } (.int .i64 0) (Or.inl ⟨by rfl, by intro w hSw; clear hSw; go_simp⟩) hS3 ?_
        try simp only [Act.put, zq1, zq2, zq3]
        refine ztk 17 { dst := some 69, op := .fieldAddr 39 (.tmp 5) 2, type := 0, pos := "outright.go:67", after := #[{ on := 0, ground := .phase }, { on := 1, ground := .phase }, { on := 2, ground := .phase }, { on := 3, ground := .phase }, { on := 4, ground := .phase }, { on := 5, ground := .phase }, { on := 6, ground := .phase }, { on := 7, ground := .phase }, { on := 8, ground := .phase }, { on := 9, ground := .phase }, { on := 10, ground := .phase }, { on := 11, ground := .phase }, { on := 12, ground := .phase }, { on := 13, ground := .phase }, { on := 14, ground := .phase }, { on := 15, ground := .phase }, { on := 16, ground := .textOnly .lateStores }], guard := none } (.pointer (some ⟨gy, 2, none⟩)) (Or.inl ⟨by rfl, by intro w hSw; clear hSw; go_simp⟩) hS3 ?_
        try simp only [Act.put, zq1, zq2, zq3]
        refine wpAnyH_ready (rs := [18]) (by kernel_rfl) (by simp) ?_
        refine AllReadyH.cons (o := { dst := none, op := .store 37 (.tmp 69) (.tmp 67), type := 0, pos := "outright.go:67", after := #[{ on := 17, ground := .data }, { on := 15, ground := .data }, { on := 13, ground := .chain }, { on := 0, ground := .phase }, { on := 1, ground := .phase }, { on := 2, ground := .phase }, { on := 3, ground := .phase }, { on := 4, ground := .phase }, { on := 5, ground := .phase }, { on := 6, ground := .phase }, { on := 7, ground := .phase }, { on := 8, ground := .phase }, { on := 9, ground := .phase }, { on := 10, ground := .phase }, { on := 11, ground := .phase }, { on := 12, ground := .phase }, { on := 13, ground := .phase }, { on := 14, ground := .phase }, { on := 15, ground := .phase }, { on := 16, ground := .textOnly .lateStores }], guard := none }) rfl (fun K hK => ?_) AllReadyH.nil
        have NB := NC.out.bel' kb
        have QB := NB.by_
        obtain ⟨q2, q3, q4, q5⟩ : (_ ∧ _ ∧ _ ∧ _) := ⟨QB.cell 2 rfl, QB.cell 3 rfl, QB.cell 4 rfl, QB.cell 5 rfl⟩
        obtain ⟨qf2, qf3, qf4, qf5⟩ : (_ ∧ _ ∧ _ ∧ _) := ⟨QB.frozen 2, QB.frozen 3, QB.frozen 4, QB.frozen 5⟩
        go_simp
        refine hK.out _ _ ((((hS3.set (b := gy) (o := 2) rfl _).set (b := gy) (o := 3) rfl _).set (b := gy) (o := 4) rfl _).set (b := gy) (o := 5) rfl _) (fun hS4 => ?_)
        clear hK K
        try simp only [Act.put, zq1, zq2, zq3]
        refine wpAnyH_done (by kernel_rfl) ?_ _
        have NI3 := Lib.hid (((((NB).set HG.out 2 (.int .i64 n4) (Y' := [.int .i64 k3, .int .i64 o4, .int .i64 n4, .int .i64 f4, .int .i64 (-1), .int .i64 0, .int .i64 v4, .int .i64 h21, .int .u64 xm]) rfl).set HG.out 3 (.int .i64 s21) (Y' := [.int .i64 k3, .int .i64 o4, .int .i64 n4, .int .i64 s21, .int .i64 (-1), .int .i64 0, .int .i64 v4, .int .i64 h21, .int .u64 xm]) rfl).set HG.out 4 (.int .i64 a4) (Y' := [.int .i64 k3, .int .i64 o4, .int .i64 n4, .int .i64 s21, .int .i64 a4, .int .i64 0, .int .i64 v4, .int .i64 h21, .int .u64 xm]) rfl).set HG.out 5 (.int .i64 f4) (Y' := [.int .i64 k3, .int .i64 o4, .int .i64 n4, .int .i64 s21, .int .i64 a4, .int .i64 f4, .int .i64 v4, .int .i64 h21, .int .u64 xm]) rfl)
        go_wp2_with fail
        go_meet
        exact Lib.hid ⟨n4, s21, a4, f4, HCP.out, NI3.out⟩
      · go_simp
        refine hK.out _ _ (hS0) (fun hS1 => ?_)
        clear hK K
        try simp only [Act.put, zq1, zq2, zq3]
        refine ztk 5 { dst := some 58, op := .binOp .add 3 (.tmp 57) (.const (Value.int IntKind.i64 1)) 3, type := 3, pos := "outright.go:67", after := #[{ on := 4, ground := .data }], guard := none } (.int .i64 a41) (Or.inl ⟨by rfl, by intro w hSw; clear hSw; go_simp⟩) hS1 ?_
        try simp only [Act.put, zq1, zq2, zq3]
        refine ztk 10 { dst := some 63, op := .binOp .add 3 (.tmp 58) (.tmp 62) 3, type := 3, pos := "outright.go:67", after := #[{ on := 5, ground := .data }, { on := 9, ground := .data }], guard := none } (.int .i64 a42) (Or.inl ⟨by rfl, by intro w hSw; clear hSw; go_simp⟩) hS1 ?_
        try simp only [Act.put, zq1, zq2, zq3]
        refine ztk 11 { dst := some 64, op := .binOp .rem 3 (.tmp 63) (.const (Value.int IntKind.i64 4)) 3, type := 3, pos := "outright.go:67", after := #[{ on := 10, ground := .data }], guard := none } (.int .i64 n4) (Or.inl ⟨by rfl, by intro w hSw; clear hSw; go_simp⟩) hS1 ?_
        try simp only [Act.put, zq1, zq2, zq3]
        refine wpAnyH_ready (rs := [1]) (by kernel_rfl) (by simp) ?_
        refine AllReadyH.cons (o := { dst := some 54, op := .load 37 (.tmp 53), type := 37, pos := "outright.go:67", after := #[{ on := 0, ground := .data }], guard := none }) rfl (fun K hK => ?_) AllReadyH.nil
        go_simp
        refine hK.out _ _ (hS1) (fun hS2 => ?_)
        clear hK K
        try simp only [Act.put, zq1, zq2, zq3]
        refine wpAnyH_ready (rs := [13]) (by kernel_rfl) (by simp) ?_
        refine AllReadyH.cons (o := { dst := some 66, op := .call { callee := .value (.func 122), args := #[.tmp 54, .tmp 64, .tmp 65], argTypes := #[37, 3, 3] }, type := 157, pos := "outright.go:67", after := #[{ on := 1, ground := .data }, { on := 11, ground := .data }, { on := 12, ground := .data }, { on := 9, ground := .chain }], guard := none }) rfl (fun K hK => ?_) AllReadyH.nil
        go_simp
        refine (HP.out _).mono ?_
        rintro e v3 ⟨rfl, kb⟩
        go_wp2_with fail
        refine hK.out _ _ (hS2.trans (Kep.of_bel kb)) (fun hS3 => ?_)
        clear hK K
        try simp only [Act.put, zq1, zq2, zq3]
        refine ztk 14 { dst := some 52, op := .move (.tmp 66), type := 157, pos := "outright.go:67", after := #[{ on := 13, ground := .data }], guard := none } (.tuple #[.agg #[.int .i64 n4, .int .i64 s21, .int .i64 a4, .int .i64 f4], .int .i64 0]) (Or.inl ⟨by rfl, by intro w hSw; clear hSw; go_simp⟩) hS3 ?_
        try simp only [Act.put, zq1, zq2, zq3]
        refine ztk 15 { dst := some 67, op := .extract (.tmp 52) 0, type := 37, pos := "outright.go:67", after := #[{ on := 14, ground := .data }], guard := none } (.agg #[.int .i64 n4, .int .i64 s21, .int .i64 a4, .int .i64 f4]) (Or.inl ⟨by rfl, by intro w hSw; clear hSw; go_simp⟩) hS3 ?_
        try simp only [Act.put, zq1, zq2, zq3]
        refine ztk 16 { dst := some 68, op := .extract (.tmp 52) 1, type := 30, pos := "outright.go:67", after := #[{ on := 14, ground := .data }, { on := 18, ground := .gcOnly .lateStores }], guard := none } (.int .i64 0) (Or.inl ⟨by rfl, by intro w hSw; clear hSw; go_simp⟩) hS3 ?_
        try simp only [Act.put, zq1, zq2, zq3]
        refine ztk 17 { dst := some 69, op := .fieldAddr 39 (.tmp 5) 2, type := 0, pos := "outright.go:67", after := #[{ on := 0, ground := .phase }, { on := 1, ground := .phase }, { on := 2, ground := .phase }, { on := 3, ground := .phase }, { on := 4, ground := .phase }, { on := 5, ground := .phase }, { on := 6, ground := .phase }, { on := 7, ground := .phase }, { on := 8, ground := .phase }, { on := 9, ground := .phase }, { on := 10, ground := .phase }, { on := 11, ground := .phase }, { on := 12, ground := .phase }, { on := 13, ground := .phase }, { on := 14, ground := .phase }, { on := 15, ground := .phase }, { on := 16, ground := .textOnly .lateStores }], guard := none } (.pointer (some ⟨gy, 2, none⟩)) (Or.inl ⟨by rfl, by intro w hSw; clear hSw; go_simp⟩) hS3 ?_
        try simp only [Act.put, zq1, zq2, zq3]
        refine wpAnyH_ready (rs := [18]) (by kernel_rfl) (by simp) ?_
        refine AllReadyH.cons (o := { dst := none, op := .store 37 (.tmp 69) (.tmp 67), type := 0, pos := "outright.go:67", after := #[{ on := 17, ground := .data }, { on := 15, ground := .data }, { on := 13, ground := .chain }, { on := 0, ground := .phase }, { on := 1, ground := .phase }, { on := 2, ground := .phase }, { on := 3, ground := .phase }, { on := 4, ground := .phase }, { on := 5, ground := .phase }, { on := 6, ground := .phase }, { on := 7, ground := .phase }, { on := 8, ground := .phase }, { on := 9, ground := .phase }, { on := 10, ground := .phase }, { on := 11, ground := .phase }, { on := 12, ground := .phase }, { on := 13, ground := .phase }, { on := 14, ground := .phase }, { on := 15, ground := .phase }, { on := 16, ground := .textOnly .lateStores }], guard := none }) rfl (fun K hK => ?_) AllReadyH.nil
        have NB := NC.out.bel' kb
        have QB := NB.by_
        obtain ⟨q2, q3, q4, q5⟩ : (_ ∧ _ ∧ _ ∧ _) := ⟨QB.cell 2 rfl, QB.cell 3 rfl, QB.cell 4 rfl, QB.cell 5 rfl⟩
        obtain ⟨qf2, qf3, qf4, qf5⟩ : (_ ∧ _ ∧ _ ∧ _) := ⟨QB.frozen 2, QB.frozen 3, QB.frozen 4, QB.frozen 5⟩
        go_simp
        refine hK.out _ _ ((((hS3.set (b := gy) (o := 2) rfl _).set (b := gy) (o := 3) rfl _).set (b := gy) (o := 4) rfl _).set (b := gy) (o := 5) rfl _) (fun hS4 => ?_)
        clear hK K
        try simp only [Act.put, zq1, zq2, zq3]
        refine wpAnyH_done (by kernel_rfl) ?_ _
        have NI3 := Lib.hid (((((NB).set HG.out 2 (.int .i64 n4) (Y' := [.int .i64 k3, .int .i64 o4, .int .i64 n4, .int .i64 f4, .int .i64 (-1), .int .i64 0, .int .i64 v4, .int .i64 h21, .int .u64 xm]) rfl).set HG.out 3 (.int .i64 s21) (Y' := [.int .i64 k3, .int .i64 o4, .int .i64 n4, .int .i64 s21, .int .i64 (-1), .int .i64 0, .int .i64 v4, .int .i64 h21, .int .u64 xm]) rfl).set HG.out 4 (.int .i64 a4) (Y' := [.int .i64 k3, .int .i64 o4, .int .i64 n4, .int .i64 s21, .int .i64 a4, .int .i64 0, .int .i64 v4, .int .i64 h21, .int .u64 xm]) rfl).set HG.out 5 (.int .i64 f4) (Y' := [.int .i64 k3, .int .i64 o4, .int .i64 n4, .int .i64 s21, .int .i64 a4, .int .i64 f4, .int .i64 v4, .int .i64 h21, .int .u64 xm]) rfl)
        go_wp2_with fail
        go_meet
        exact Lib.hid ⟨n4, s21, a4, f4, HCP.out, NI3.out⟩
  case rest =>
    obtain ⟨A1, B1, D1, E1, hck, hni⟩ := hcut.out
    have HCK1 := Lib.hid hck
    have NJ := Lib.hid hni
    clear hcut hck hni NI2 p4
    have p0 := NJ.out.by_.cell 0 rfl
    go_upto_if 72 with fail
    go_cut [] (fun wx => Hid (∃ A1 B1 D1 E1 X1, Sm.ck A1 B1 D1 E1 = 0 ∧ 0 ≤ X1 ∧ X1 ≤ 18446744073709551615 ∧ NrI w g gy A n c B m d0 [.int .i64 k, .int .i64 o, .int .i64 a, .int .i64 b, .int .i64 d, .int .i64 e, .int .i64 v, .int .i64 h, .int .u64 x] [.int .i64 k3, .int .i64 o4, .int .i64 A1, .int .i64 B1, .int .i64 D1, .int .i64 E1, .int .i64 v4, .int .i64 h21, .int .u64 X1] wx))
    case first =>
      by_cases hk1 : k3 = 1
      case neg =>
        have hb : (k3 == 1) = false := beq_eq_false_iff_ne.2 hk1
        go_wp2_with fail
        go_meet
        exact Lib.hid ⟨A1, B1, D1, E1, xm, HCK1.out, B5.out.1, by have := B5.out; omega, NJ.out⟩
      have hb : (k3 == 1) = true := beq_iff_eq.2 hk1
      clear hk1
      have p1 := NJ.out.by_.cell 1 rfl
      have g0 := NJ.out.bh.cell 0 rfl
      have g1 := NJ.out.bh.cell 1 rfl
      have OF := Lib.hid (of_ A n c B m d0 cs ps o4 wc (HH0.out.bel NJ.out.bel))
      rw [(ok_iff cs ps).2 HOK.out, if_pos rfl] at OF
      obtain ⟨L, hL⟩ : ∃ L, ps.filter (fun r => decide (own r = o4)) = L := ⟨_, rfl⟩
      have HLM := Lib.hid (show ∀ r ∈ L, r ∈ ps from fun r hr => by rw [← hL] at hr; exact (List.mem_filter.1 hr).1)
      have HLL := Lib.hid (show L.length ≤ 1000000 by have h1 := List.length_filter_le (fun r => decide (own r = o4)) ps; have := HH0.out.pos.len; have := HH0.out.pm; rw [← hL]; omega)
      rw [hL] at OF
      clear hL
      go_wp2_with fail
      refine OF.out.mono ?_
      rintro r V ⟨lv, rfl, ho, kb⟩
      obtain ⟨F, f, e1, rs, _⟩ := ho.rs c6P
      subst e1
      have NK := Lib.hid (NJ.out.bel' kb)
      have RL := Lib.hid rs
      clear ho rs kb OF p0 p1 g0 g1
      obtain ⟨N, hN⟩ : ∃ N, L.length = N := ⟨_, rfl⟩
      rw [hN] at RL HLL ⊢
      clear hN
      by_cases hN0 : N = 0
      case pos =>
        subst hN0
        go_wp2_with fail
        go_meet
        exact Lib.hid ⟨A1, B1, D1, E1, xm, HCK1.out, B5.out.1, by have := B5.out; omega, NK.out⟩
      have hN1 : (0 : Int) < N := by omega
      have i0 := Int.emod_nonneg h (b := (N : Int)) (by omega)
      have i1 := Int.emod_lt_of_pos h hN1
      obtain ⟨i, hi⟩ : ∃ i : Nat, (i : Int) = HMod.hMod h (N : Int) := ⟨(HMod.hMod h (N : Int)).toNat, by omega⟩
      have PI2 := Lib.hid (fun V => pick h N V HA.out.h0 HA.out.h1 hN1 (by have := HLL.out; omega))
      rw [← hi] at PI2 i1
      have hlt : i < N := by omega
      have hlt3 : (i : Int) < N := by omega
      have hi0 : (0 : Int) ≤ i := by omega
      clear i0 i1 hi
      obtain ⟨⟨r1, r2, r3, r4, r5, r6⟩, hr⟩ := RL.out.get hlt
      obtain ⟨bF, oF, rfl, _, hrow⟩ := RL.out.at hlt hr
      have hrm := HLM.out _ (List.mem_of_getElem? hr)
      have hpo := HOK.out.po _ hrm
      have hck1 := ck_pos HOK.out hrm
      have hwr := HH0.out.wp _ hrm
      have h6 : 0 < r6 := by
        have h1 : 0 ≤ r6 := hwr.1
        have h2 : r6 ≠ 0 := hpo.2.2.1
        omega
      have h61 : r6 ≤ 18446744073709551615 := hwr.2
      have hm1 : x.tmod r6 = x.emod r6 := Int.tmod_eq_emod_of_nonneg HA.out.x0
      have hm2 := Int.emod_nonneg x (b := r6) (by omega)
      have hm3 := Int.emod_lt_of_pos x h6
      obtain ⟨xr, hxr⟩ : ∃ z, x.emod r6 = z := ⟨_, rfl⟩
      rw [hxr] at hm1
      replace hm2 : 0 ≤ xr := by rw [← hxr]; exact hm2
      replace hm3 : xr < r6 := by rw [← hxr]; exact hm3
      have wa : IntKind.u64.wrap xr = xr := IntWalk.u64_in _ (by omega)
      have wb : IntKind.u64.wrap (1 + xr) = 1 + xr := IntWalk.u64_in _ (by omega)
      obtain ⟨xs, hxs⟩ : ∃ z, 1 + xr = z := ⟨_, rfl⟩
      have HXS := Lib.hid (show 0 ≤ xs ∧ xs ≤ 18446744073709551615 by omega)
      rw [hxs] at wb
      have HCK2 := Lib.hid hck1
      obtain ⟨c0, c1, c2, c3, c4, c5⟩ := rng6 (rowP hrow)
      have p7 := NK.out.bx.cell 7 rfl
      clear hr hrow hrm hpo hck1 hwr hxr hm2 hm3 hN0
      go_wp2_with fail
      refine (PI2.out _).mono ?_
      rintro r V1 ⟨rfl, rfl⟩
      obtain ⟨V2, hV2⟩ : ∃ V2, V.alloc (.cells #[.int .i64 r1, .int .i64 r2, .int .i64 r3, .int .i64 r4, .int .i64 r5, .int .u64 r6] 93) = V2 := ⟨_, rfl⟩
      have BV2 := Lib.hid (show Bel V V2 by rw [← hV2]; exact (Bel.refl V).alloc _)
      have PV := Lib.hid (show Blk V2 V.heap.size #[.int .i64 r1, .int .i64 r2, .int .i64 r3, .int .i64 r4, .int .i64 r5, .int .u64 r6] 93 by rw [← hV2]; exact Blk.new _ _ _)
      have HGV := Lib.hid (show V.heap.size ≠ gy by have := NK.out.by_.lt; omega)
      go_upto_region 10 with fail
      try rw [hV2]
      obtain ⟨gp, hgp⟩ : ∃ g, V.heap.size = g := ⟨_, rfl⟩
      rw [hgp] at PV HGV ⊢
      clear hgp hV2 c0 c1 c2 c3 c4 c5 p7
      have NL := NK.out.bel' BV2.out
      have NM := Lib.hid (((((NL).set HG.out 2 (.int .i64 r2) (Y' := [.int .i64 k3, .int .i64 o4, .int .i64 r2, .int .i64 B1, .int .i64 D1, .int .i64 E1, .int .i64 v4, .int .i64 h21, .int .u64 xm]) rfl).set HG.out 3 (.int .i64 r3) (Y' := [.int .i64 k3, .int .i64 o4, .int .i64 r2, .int .i64 r3, .int .i64 D1, .int .i64 E1, .int .i64 v4, .int .i64 h21, .int .u64 xm]) rfl).set HG.out 4 (.int .i64 r4) (Y' := [.int .i64 k3, .int .i64 o4, .int .i64 r2, .int .i64 r3, .int .i64 r4, .int .i64 E1, .int .i64 v4, .int .i64 h21, .int .u64 xm]) rfl).set HG.out 5 (.int .i64 r5) (Y' := [.int .i64 k3, .int .i64 o4, .int .i64 r2, .int .i64 r3, .int .i64 r4, .int .i64 r5, .int .i64 v4, .int .i64 h21, .int .u64 xm]) rfl)
      obtain ⟨t1, t2, t3, t4, t5⟩ : (_ ∧ _ ∧ _ ∧ _ ∧ _) := ⟨PV.out.cell 1 rfl, PV.out.cell 2 rfl, PV.out.cell 3 rfl, PV.out.cell 4 rfl, PV.out.cell 5 rfl⟩
      have QB := NL.by_
      obtain ⟨q2, q3, q4, q5⟩ : (_ ∧ _ ∧ _ ∧ _) := ⟨QB.cell 2 rfl, QB.cell 3 rfl, QB.cell 4 rfl, QB.cell 5 rfl⟩
      obtain ⟨qf2, qf3, qf4, qf5⟩ : (_ ∧ _ ∧ _ ∧ _) := ⟨QB.frozen 2, QB.frozen 3, QB.frozen 4, QB.frozen 5⟩
      have PW := Lib.hid (((((PV.out.other HGV.out 2 (.int .i64 r2)).other HGV.out 3 (.int .i64 r3)).other HGV.out 4 (.int .i64 r4)).other HGV.out 5 (.int .i64 r5)))
      obtain ⟨V3, hV3⟩ : ∃ V3, ((((V2.setCell ⟨gy, 2, none⟩ (.int .i64 r2)).setCell ⟨gy, 3, none⟩ (.int .i64 r3)).setCell ⟨gy, 4, none⟩ (.int .i64 r4)).setCell ⟨gy, 5, none⟩ (.int .i64 r5)) = V3 := ⟨_, rfl⟩
      rw [hV3] at NM PW
      go_upto_region 11 with fail
      try rw [hV3]
      clear hV3 t1 t2 t3 t4 t5 QB q2 q3 q4 q5 qf2 qf3 qf4 qf5 NL
      have t5 := PW.out.cell 5 rfl
      have p8 := NM.out.bx.cell 8 rfl
      have q8 := NM.out.by_.cell 8 rfl
      have qf8 := NM.out.by_.frozen 8
      have NN := Lib.hid (NM.out.set HG.out 8 (.int .u64 xs) (Y' := [.int .i64 k3, .int .i64 o4, .int .i64 r2, .int .i64 r3, .int .i64 r4, .int .i64 r5, .int .i64 v4, .int .i64 h21, .int .u64 xs]) rfl)
      go_wp2_with fail
      go_meet
      exact Lib.hid ⟨r2, r3, r4, r5, xs, HCK2.out, HXS.out.1, HXS.out.2, NN.out⟩
    case rest =>
      obtain ⟨A2, B2', D2, E2, X2, hck, hx0, hx1, hni⟩ := hcut.out
      have HCK2 := Lib.hid hck
      have NQ := Lib.hid hni
      have HX2 := Lib.hid (⟨hx0, hx1⟩ : 0 ≤ X2 ∧ X2 ≤ 18446744073709551615)
      clear hcut hck hni hx0 hx1 NJ p0
      have p0 := NQ.out.by_.cell 0 rfl
      by_cases hk2 : k3 = 2
      · subst hk2
        have p8 := NQ.out.bx.cell 8 rfl
        have q8 := NQ.out.by_.cell 8 rfl
        have qf8 := NQ.out.by_.frozen 8
        have NV := Lib.hid (NQ.out.set HG.out 8 (.int .u64 xb) (Y' := [.int .i64 2, .int .i64 o4, .int .i64 A2, .int .i64 B2', .int .i64 D2, .int .i64 E2, .int .i64 v4, .int .i64 h21, .int .u64 xb]) rfl)
        obtain ⟨V, hV⟩ : ∃ V, wc.setCell ⟨gy, 8, none⟩ (.int .u64 xb) = V := ⟨_, rfl⟩
        rw [hV] at NV
        go_upto_region 15 with fail
        try rw [hV]
        clear hV p0 p8 q8 qf8 NQ
        have HNA := Lib.hid (show NearA 2 o4 A2 B2' D2 E2 v4 h21 xb from ⟨HB1.out.1, HB1.out.2, B2.out.1, B2.out.2, HCK2.out, B3.out.1, B3.out.2, B4.out.1, B4.out.2, C5.out.1, by have := C5.out; omega, fun _ => C5.out.2⟩)
        have RB := Lib.hid (bset (Y := [.int .i64 2, .int .i64 o4, .int .i64 A2, .int .i64 B2', .int .i64 D2, .int .i64 E2, .int .i64 v4, .int .i64 h21, .int .u64 0]) (Y' := [.int .i64 2, .int .i64 o4, .int .i64 A2, .int .i64 B2', .int .i64 D2, .int .i64 E2, .int .i64 v4, .int .i64 h21, .int .u64 xb]) (bset (Y := [.int .i64 2, .int .i64 o4, .int .i64 A2, .int .i64 B2', .int .i64 D2, .int .i64 E2, .int .i64 v4, .int .i64 0, .int .u64 0]) (Y' := [.int .i64 2, .int .i64 o4, .int .i64 A2, .int .i64 B2', .int .i64 D2, .int .i64 E2, .int .i64 v4, .int .i64 h21, .int .u64 0]) (bset (Y := [.int .i64 2, .int .i64 o4, .int .i64 A2, .int .i64 B2', .int .i64 D2, .int .i64 E2, .int .i64 0, .int .i64 0, .int .u64 0]) (Y' := [.int .i64 2, .int .i64 o4, .int .i64 A2, .int .i64 B2', .int .i64 D2, .int .i64 E2, .int .i64 v4, .int .i64 0, .int .u64 0]) (bset (Y := [.int .i64 2, .int .i64 o4, .int .i64 A2, .int .i64 B2', .int .i64 D2, .int .i64 0, .int .i64 0, .int .i64 0, .int .u64 0]) (Y' := [.int .i64 2, .int .i64 o4, .int .i64 A2, .int .i64 B2', .int .i64 D2, .int .i64 E2, .int .i64 0, .int .i64 0, .int .u64 0]) (bset (Y := [.int .i64 2, .int .i64 o4, .int .i64 A2, .int .i64 B2', .int .i64 0, .int .i64 0, .int .i64 0, .int .i64 0, .int .u64 0]) (Y' := [.int .i64 2, .int .i64 o4, .int .i64 A2, .int .i64 B2', .int .i64 D2, .int .i64 0, .int .i64 0, .int .i64 0, .int .u64 0]) (bset (Y := [.int .i64 2, .int .i64 o4, .int .i64 A2, .int .i64 0, .int .i64 0, .int .i64 0, .int .i64 0, .int .i64 0, .int .u64 0]) (Y' := [.int .i64 2, .int .i64 o4, .int .i64 A2, .int .i64 B2', .int .i64 0, .int .i64 0, .int .i64 0, .int .i64 0, .int .u64 0]) (bset (Y := [.int .i64 2, .int .i64 o4, .int .i64 0, .int .i64 0, .int .i64 0, .int .i64 0, .int .i64 0, .int .i64 0, .int .u64 0]) (Y' := [.int .i64 2, .int .i64 o4, .int .i64 A2, .int .i64 0, .int .i64 0, .int .i64 0, .int .i64 0, .int .i64 0, .int .u64 0]) (bset (Y := [.int .i64 2, .int .i64 0, .int .i64 0, .int .i64 0, .int .i64 0, .int .i64 0, .int .i64 0, .int .i64 0, .int .u64 0]) (Y' := [.int .i64 2, .int .i64 o4, .int .i64 0, .int .i64 0, .int .i64 0, .int .i64 0, .int .i64 0, .int .i64 0, .int .u64 0]) (bset (Y := [.int .i64 0, .int .i64 0, .int .i64 0, .int .i64 0, .int .i64 0, .int .i64 0, .int .i64 0, .int .i64 0, .int .u64 0]) (Y' := [.int .i64 2, .int .i64 0, .int .i64 0, .int .i64 0, .int .i64 0, .int .i64 0, .int .i64 0, .int .i64 0, .int .u64 0]) (NV.out.br) 0 (.int .i64 2) rfl) 1 (.int .i64 o4) rfl) 2 (.int .i64 A2) rfl) 3 (.int .i64 B2') rfl) 4 (.int .i64 D2) rfl) 5 (.int .i64 E2) rfl) 6 (.int .i64 v4) rfl) 7 (.int .i64 h21) rfl) 8 (.int .u64 xb) rfl)
        have RE := Lib.hid ((((((((((NV.out.bel).set (p := ⟨g + 1 + 1, 0, none⟩) (by show w.heap.size ≤ g + 1 + 1; have := HG.out; omega) (.int .i64 2)).set (p := ⟨g + 1 + 1, 1, none⟩) (by show w.heap.size ≤ g + 1 + 1; have := HG.out; omega) (.int .i64 o4)).set (p := ⟨g + 1 + 1, 2, none⟩) (by show w.heap.size ≤ g + 1 + 1; have := HG.out; omega) (.int .i64 A2)).set (p := ⟨g + 1 + 1, 3, none⟩) (by show w.heap.size ≤ g + 1 + 1; have := HG.out; omega) (.int .i64 B2')).set (p := ⟨g + 1 + 1, 4, none⟩) (by show w.heap.size ≤ g + 1 + 1; have := HG.out; omega) (.int .i64 D2)).set (p := ⟨g + 1 + 1, 5, none⟩) (by show w.heap.size ≤ g + 1 + 1; have := HG.out; omega) (.int .i64 E2)).set (p := ⟨g + 1 + 1, 6, none⟩) (by show w.heap.size ≤ g + 1 + 1; have := HG.out; omega) (.int .i64 v4)).set (p := ⟨g + 1 + 1, 7, none⟩) (by show w.heap.size ≤ g + 1 + 1; have := HG.out; omega) (.int .i64 h21)).set (p := ⟨g + 1 + 1, 8, none⟩) (by show w.heap.size ≤ g + 1 + 1; have := HG.out; omega) (.int .u64 xb))
        obtain ⟨y0, y1, y2, y3, y4, y5, y6, y7, y8⟩ : (_ ∧ _ ∧ _ ∧ _ ∧ _ ∧ _ ∧ _ ∧ _ ∧ _) := ⟨NV.out.by_.cell 0 rfl, NV.out.by_.cell 1 rfl, NV.out.by_.cell 2 rfl, NV.out.by_.cell 3 rfl, NV.out.by_.cell 4 rfl, NV.out.by_.cell 5 rfl, NV.out.by_.cell 6 rfl, NV.out.by_.cell 7 rfl, NV.out.by_.cell 8 rfl⟩
        obtain ⟨z0, z1, z2, z3, z4, z5, z6, z7, z8⟩ : (_ ∧ _ ∧ _ ∧ _ ∧ _ ∧ _ ∧ _ ∧ _ ∧ _) := ⟨NV.out.br.cell 0 rfl, NV.out.br.cell 1 rfl, NV.out.br.cell 2 rfl, NV.out.br.cell 3 rfl, NV.out.br.cell 4 rfl, NV.out.br.cell 5 rfl, NV.out.br.cell 6 rfl, NV.out.br.cell 7 rfl, NV.out.br.cell 8 rfl⟩
        obtain ⟨f0, f1, f2, f3, f4', f5, f6, f7, f8⟩ : (_ ∧ _ ∧ _ ∧ _ ∧ _ ∧ _ ∧ _ ∧ _ ∧ _) := ⟨NV.out.br.frozen 0, NV.out.br.frozen 1, NV.out.br.frozen 2, NV.out.br.frozen 3, NV.out.br.frozen 4, NV.out.br.frozen 5, NV.out.br.frozen 6, NV.out.br.frozen 7, NV.out.br.frozen 8⟩
        go_wp2_with fail
        refine bodyPost_ret (Pm.res_c rfl _ _ ⟨g + 1 + 1, 0, none⟩ _ rfl (Pm.load_b (C := [.int .i64 2, .int .i64 o4, .int .i64 A2, .int .i64 B2', .int .i64 D2, .int .i64 E2, .int .i64 v4, .int .i64 h21, .int .u64 xb]) RB.out Tryz.underlying39 rfl (by kernel_rfl))) rfl ⟨_, _, _, _, _, _, _, _, _, rfl, HNA.out, RE.out⟩
      · have hb : (k3 == 2) = false := beq_eq_false_iff_ne.2 hk2
        go_upto_region 15 with fail
        obtain ⟨V, hV⟩ : ∃ V, wc = V := ⟨_, rfl⟩
        rw [hV] at NQ ⊢
        have HNA := Lib.hid (show NearA k3 o4 A2 B2' D2 E2 v4 h21 X2 from ⟨HB1.out.1, HB1.out.2, B2.out.1, B2.out.2, HCK2.out, B3.out.1, B3.out.2, B4.out.1, B4.out.2, HX2.out.1, HX2.out.2, fun e => absurd e hk2⟩)
        clear hV p0 hb hk2
        have NV := NQ
        have RB := Lib.hid (bset (Y := [.int .i64 k3, .int .i64 o4, .int .i64 A2, .int .i64 B2', .int .i64 D2, .int .i64 E2, .int .i64 v4, .int .i64 h21, .int .u64 0]) (Y' := [.int .i64 k3, .int .i64 o4, .int .i64 A2, .int .i64 B2', .int .i64 D2, .int .i64 E2, .int .i64 v4, .int .i64 h21, .int .u64 X2]) (bset (Y := [.int .i64 k3, .int .i64 o4, .int .i64 A2, .int .i64 B2', .int .i64 D2, .int .i64 E2, .int .i64 v4, .int .i64 0, .int .u64 0]) (Y' := [.int .i64 k3, .int .i64 o4, .int .i64 A2, .int .i64 B2', .int .i64 D2, .int .i64 E2, .int .i64 v4, .int .i64 h21, .int .u64 0]) (bset (Y := [.int .i64 k3, .int .i64 o4, .int .i64 A2, .int .i64 B2', .int .i64 D2, .int .i64 E2, .int .i64 0, .int .i64 0, .int .u64 0]) (Y' := [.int .i64 k3, .int .i64 o4, .int .i64 A2, .int .i64 B2', .int .i64 D2, .int .i64 E2, .int .i64 v4, .int .i64 0, .int .u64 0]) (bset (Y := [.int .i64 k3, .int .i64 o4, .int .i64 A2, .int .i64 B2', .int .i64 D2, .int .i64 0, .int .i64 0, .int .i64 0, .int .u64 0]) (Y' := [.int .i64 k3, .int .i64 o4, .int .i64 A2, .int .i64 B2', .int .i64 D2, .int .i64 E2, .int .i64 0, .int .i64 0, .int .u64 0]) (bset (Y := [.int .i64 k3, .int .i64 o4, .int .i64 A2, .int .i64 B2', .int .i64 0, .int .i64 0, .int .i64 0, .int .i64 0, .int .u64 0]) (Y' := [.int .i64 k3, .int .i64 o4, .int .i64 A2, .int .i64 B2', .int .i64 D2, .int .i64 0, .int .i64 0, .int .i64 0, .int .u64 0]) (bset (Y := [.int .i64 k3, .int .i64 o4, .int .i64 A2, .int .i64 0, .int .i64 0, .int .i64 0, .int .i64 0, .int .i64 0, .int .u64 0]) (Y' := [.int .i64 k3, .int .i64 o4, .int .i64 A2, .int .i64 B2', .int .i64 0, .int .i64 0, .int .i64 0, .int .i64 0, .int .u64 0]) (bset (Y := [.int .i64 k3, .int .i64 o4, .int .i64 0, .int .i64 0, .int .i64 0, .int .i64 0, .int .i64 0, .int .i64 0, .int .u64 0]) (Y' := [.int .i64 k3, .int .i64 o4, .int .i64 A2, .int .i64 0, .int .i64 0, .int .i64 0, .int .i64 0, .int .i64 0, .int .u64 0]) (bset (Y := [.int .i64 k3, .int .i64 0, .int .i64 0, .int .i64 0, .int .i64 0, .int .i64 0, .int .i64 0, .int .i64 0, .int .u64 0]) (Y' := [.int .i64 k3, .int .i64 o4, .int .i64 0, .int .i64 0, .int .i64 0, .int .i64 0, .int .i64 0, .int .i64 0, .int .u64 0]) (bset (Y := [.int .i64 0, .int .i64 0, .int .i64 0, .int .i64 0, .int .i64 0, .int .i64 0, .int .i64 0, .int .i64 0, .int .u64 0]) (Y' := [.int .i64 k3, .int .i64 0, .int .i64 0, .int .i64 0, .int .i64 0, .int .i64 0, .int .i64 0, .int .i64 0, .int .u64 0]) (NV.out.br) 0 (.int .i64 k3) rfl) 1 (.int .i64 o4) rfl) 2 (.int .i64 A2) rfl) 3 (.int .i64 B2') rfl) 4 (.int .i64 D2) rfl) 5 (.int .i64 E2) rfl) 6 (.int .i64 v4) rfl) 7 (.int .i64 h21) rfl) 8 (.int .u64 X2) rfl)
        have RE := Lib.hid ((((((((((NV.out.bel).set (p := ⟨g + 1 + 1, 0, none⟩) (by show w.heap.size ≤ g + 1 + 1; have := HG.out; omega) (.int .i64 k3)).set (p := ⟨g + 1 + 1, 1, none⟩) (by show w.heap.size ≤ g + 1 + 1; have := HG.out; omega) (.int .i64 o4)).set (p := ⟨g + 1 + 1, 2, none⟩) (by show w.heap.size ≤ g + 1 + 1; have := HG.out; omega) (.int .i64 A2)).set (p := ⟨g + 1 + 1, 3, none⟩) (by show w.heap.size ≤ g + 1 + 1; have := HG.out; omega) (.int .i64 B2')).set (p := ⟨g + 1 + 1, 4, none⟩) (by show w.heap.size ≤ g + 1 + 1; have := HG.out; omega) (.int .i64 D2)).set (p := ⟨g + 1 + 1, 5, none⟩) (by show w.heap.size ≤ g + 1 + 1; have := HG.out; omega) (.int .i64 E2)).set (p := ⟨g + 1 + 1, 6, none⟩) (by show w.heap.size ≤ g + 1 + 1; have := HG.out; omega) (.int .i64 v4)).set (p := ⟨g + 1 + 1, 7, none⟩) (by show w.heap.size ≤ g + 1 + 1; have := HG.out; omega) (.int .i64 h21)).set (p := ⟨g + 1 + 1, 8, none⟩) (by show w.heap.size ≤ g + 1 + 1; have := HG.out; omega) (.int .u64 X2))
        obtain ⟨y0, y1, y2, y3, y4, y5, y6, y7, y8⟩ : (_ ∧ _ ∧ _ ∧ _ ∧ _ ∧ _ ∧ _ ∧ _ ∧ _) := ⟨NV.out.by_.cell 0 rfl, NV.out.by_.cell 1 rfl, NV.out.by_.cell 2 rfl, NV.out.by_.cell 3 rfl, NV.out.by_.cell 4 rfl, NV.out.by_.cell 5 rfl, NV.out.by_.cell 6 rfl, NV.out.by_.cell 7 rfl, NV.out.by_.cell 8 rfl⟩
        obtain ⟨z0, z1, z2, z3, z4, z5, z6, z7, z8⟩ : (_ ∧ _ ∧ _ ∧ _ ∧ _ ∧ _ ∧ _ ∧ _ ∧ _) := ⟨NV.out.br.cell 0 rfl, NV.out.br.cell 1 rfl, NV.out.br.cell 2 rfl, NV.out.br.cell 3 rfl, NV.out.br.cell 4 rfl, NV.out.br.cell 5 rfl, NV.out.br.cell 6 rfl, NV.out.br.cell 7 rfl, NV.out.br.cell 8 rfl⟩
        obtain ⟨f0, f1, f2, f3, f4', f5, f6, f7, f8⟩ : (_ ∧ _ ∧ _ ∧ _ ∧ _ ∧ _ ∧ _ ∧ _ ∧ _) := ⟨NV.out.br.frozen 0, NV.out.br.frozen 1, NV.out.br.frozen 2, NV.out.br.frozen 3, NV.out.br.frozen 4, NV.out.br.frozen 5, NV.out.br.frozen 6, NV.out.br.frozen 7, NV.out.br.frozen 8⟩
        go_wp2_with fail
        refine bodyPost_ret (Pm.res_c rfl _ _ ⟨g + 1 + 1, 0, none⟩ _ rfl (Pm.load_b (C := [.int .i64 k3, .int .i64 o4, .int .i64 A2, .int .i64 B2', .int .i64 D2, .int .i64 E2, .int .i64 v4, .int .i64 h21, .int .u64 X2]) RB.out Tryz.underlying39 rfl (by kernel_rfl))) rfl ⟨_, _, _, _, _, _, _, _, _, rfl, HNA.out, RE.out⟩
end Ho
end Go.Proofs.YtneajcoiemkfbaaGreat
end
