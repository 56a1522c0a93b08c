/-
  Texts of this claim, put together: Qu13, Qu14, Qu15, Qu6, Qu16, Qu17. What each one says, and under which conditions, stands ahead of it.
-/
import Derived.Test.YtcefjigbaglmeaaGreatQA
import Derived.Test.YtcefjigbaglmeaaGreatGRwF
import Derived.Test.YtcefjigbaglmeaaGreatGQu5
import Derived.Test.YtcefjigbaglmeaaGreatGQu3
import Derived.Test.YtcefjigbaglmeaaGreatGQu7

section
/-
  What the reference's Ripe tells: two lists in memory of their own. Conditions: at most a million entries; the Balances are words.
-/
namespace Go.Proofs.YtcefjigbaglmeaaGreat
open Go.RowKit Go.Shelf
set_option linter.unusedVariables false
set_option linter.unusedSimpArgs false
namespace Qu
open Kk Pm

theorem into_next {l : List E8} {k : Nat} {r : E8} (hr : l[k]? = some r) (p : E8 → Bool) : (l.take (k + 1)).filter p = (l.take k).filter p ++ if p r = true then [r] else [] := by
  rw [List.take_add_one, hr, List.filter_append]
  congr 1
  show List.filter p [r] = _
  by_cases hq : p r = true <;> simp [hq]
theorem rip_ways (l : List E8) (h u : Int) : ((chk l).1 ≠ 0 → ripE l h u = (chk l).1) ∧ ((chk l).1 = 0 → ¬ (1 ≤ h ∧ h ≤ 4294967296 ∧ 1 ≤ u ∧ u ≤ 1048576) → ripE l h u = 3) ∧ ((chk l).1 = 0 → (1 ≤ h ∧ h ≤ 4294967296 ∧ 1 ≤ u ∧ u ≤ 1048576) → ripE l h u = 0) := by
  unfold ripE
  refine ⟨fun h => if_pos h, fun h1 h2 => ?_, fun h1 h2 => ?_⟩
  · rw [if_neg (by rw [h1]; decide), if_pos h2]
  · rw [if_neg (by rw [h1]; decide), if_neg (fun h => h h2)]
theorem rip_nil {l : List E8} {h u : Int} (h0 : ripE l h u ≠ 0) : ripL l h u = [] ∧ lftL l h u = [] := ⟨if_neg h0, if_neg h0⟩
theorem rip_next {l : List E8} {k : Nat} {r : E8} (hr : l[k]? = some r) (m : Int) : (cr r ≤ m → rip (l.take (k + 1)) m = rip (l.take k) m ++ [r] ∧ lft (l.take (k + 1)) m = lft (l.take k) m) ∧ (m < cr r → rip (l.take (k + 1)) m = rip (l.take k) m ∧ lft (l.take (k + 1)) m = lft (l.take k) m ++ [r]) := by
  have e1 := into_next hr (fun r => decide (cr r ≤ m))
  have e2 := into_next hr (fun r => decide (m < cr r))
  refine ⟨fun h => ⟨e1.trans ?_, e2.trans ?_⟩, fun h => ⟨e1.trans ?_, e2.trans ?_⟩⟩
  · rw [if_pos (decide_eq_true h)]; rfl
  · rw [if_neg (by simp; omega), List.append_nil]; rfl
  · rw [if_neg (by simp; omega), List.append_nil]; rfl
  · rw [if_pos (decide_eq_true h)]; rfl
end Qu
end Go.Proofs.YtcefjigbaglmeaaGreat
end

section
/-
  What queue.Ripe answers of any queue. Conditions: at most a million entries; Balances are words.
-/
namespace Go.Proofs.YtcefjigbaglmeaaGreat
open Go.RowKit Go.Shelf
set_option linter.unusedVariables false
set_option linter.unusedSimpArgs false
namespace Qu
open Kk Pm
theorem bel_drewN (w : World) (n : Nat) : Bel w (w.drewN n) := ⟨rfl, rfl, rfl, Nat.le_refl _, fun _ _ => rfl⟩

theorem clone (A : Option Addr) (n c : Nat) (l : List E8) (w : World) (hi : Rw.RS eR w A n c l) (hn : n ≤ 1000000000) :
    Calls Tryz.prog 78 #[.slice A n c] w fun e w' => ∃ v, e = .returned v ∧ OwnE w' w.heap.size v l ∧ Bel w w' := by
  have qT : ∀ (w : World) (a : Option Addr) (n c n' c' : Nat), (binOp .eql 22 (.slice a n c) (.slice none n' c')).run Tryz.prog w = .ok (.bool a.isNone) w := fun w a n c n' c' => Lib.run_eql_slice_nil w _ _ a n c n' c' Tryz.underlying22
  cases A with
  | none =>
    obtain rfl : c = 0 := hi.nil rfl
    obtain rfl : n = 0 := by have := hi.cap; omega
    have hz : l = [] := List.length_eq_zero_iff.1 hi.len
    subst hz
    clear hi
    go_enter Tryz.func78, Tryz.ntmps78
    go_wp2
    go_ret
    exact ⟨_, rfl, Rw.OwnR.nil_ _ _ _ _, Bel.refl _⟩
  | some ad =>
    have HS := Lib.hid (hi.bel ((Bel.refl w).alloc (.cells #[] 53)))
    have HE := Lib.hid (Rw.own_empty eR 53 w)
    clear hi
    go_enter Tryz.func78, Tryz.ntmps78
    go_wp2_with (at_builtin; refine Rw.append_R eR rfl _ _ _ 53 rfl underE zero_E rfl (by decide) w.heap.size _ [] rfl HE.out (some ad) n c l rfl HS.out (by simp; omega) (by simp) ?_; intro v' w1 hown' hgrow)
    have HO := Lib.hid hown'
    have hb : Bel w w1 := Kk.Bel.grown ((Bel.refl w).alloc _) hgrow (fun k hk => (HE.out.lt k hk).1)
    clear hown' hgrow
    go_wp2
    go_ret
    exact ⟨_, rfl, HO.out, hb⟩
theorem sliced_zero (A : Option Addr) (n s : Nat) : sliced A 0 n n s = .slice A n n := by
  unfold sliced
  by_cases h : n = 0
  · subst h; simp
  · rw [if_neg h]
    cases A with
    | none => simp
    | some a => simp [Addr.add]
theorem elemE : Tryz.prog.elem 22 = 53 := by kernel_rfl
theorem sizeE (w : World) : (sizeOf 53).run Tryz.prog w = .ok 8 w := by kernel_rfl
theorem slice_full (A : Option Addr) (n c : Nat) (hc : n ≤ c) (w : World) : (Instr.slice 22 (.slice A n c) none (some (.int .i64 (n : Int))) (some (.int .i64 (n : Int)))).run Tryz.prog w = .ok (.slice A n n) w := by
  rw [run_slice_hm (P := Tryz.prog) (w := w) (t := 22) (a := A) (len := n) (cap := c) (by rw [elemE]; exact underE) .i64 .i64 n n (by omega) (by omega) (by omega), elemE]
  simp [sizeE, Result.andThen, sliced_zero]

theorem slice_k (A : Option Addr) (n c k : Nat) (hk : k ≤ c) (w : World) : (Instr.slice 22 (.slice A n c) none (some (.int .i64 (k : Int))) (some (.int .i64 (k : Int)))).run Tryz.prog w = .ok (.slice A k k) w := by
  rw [run_slice_hm (P := Tryz.prog) (w := w) (t := 22) (a := A) (len := n) (cap := c) (by rw [elemE]; exact underE) .i64 .i64 k k (by omega) (by omega) (by omega), elemE]
  simp [sizeE, Result.andThen, sliced_zero]
theorem slice_l (A : Option Addr) (n c k : Nat) (hk : k ≤ n) (hc : n ≤ c) (w : World) : (Instr.slice 22 (.slice A n c) (some (.int .i64 (k : Int))) none none).run Tryz.prog w = .ok (.slice (if c = k then A else A.map (fun a => a.add (k * 8))) (n - k) (c - k)) w := by
  rw [run_slice_l (P := Tryz.prog) (w := w) (t := 22) (a := A) (len := n) (cap := c) (by rw [elemE]; exact underE) .i64 k (by omega) (by omega), elemE]
  simp [sizeE, Result.andThen, sliced]
theorem half (i j : Nat) (h : i + j ≤ 2000000000) : IntKind.i64.wrap ((i : Int) + (j : Int)) = ((i + j : Nat) : Int) := by rw [IntWalk.i64_in _ (by omega)]; omega
/-- Two halves of one row in new memory. -/
structure Halves (w : World) (base : Nat) (A1 : Option Addr) (n1 c1 : Nat) (A2 : Option Addr) (n2 c2 : Nat) (l1 l2 : List E8) : Prop where
  r1 : Rw.RS eR w A1 n1 c1 l1
  r2 : Rw.RS eR w A2 n2 c2 l2
  g : (n1 = 0 ∧ n2 = 0) ∨ ∃ g cur, base ≤ g ∧ Blk w g cur 53 ∧ (0 < n1 → A1 = some ⟨g, 0, none⟩) ∧ (0 < n2 → A2 = some ⟨g, n1 * 8, none⟩) ∧ (n1 + n2) * 8 ≤ cur.size
section
variable {w w' : World} {base : Nat} {A1 A2 : Option Addr} {n1 c1 n2 c2 : Nat} {l1 l2 : List E8}
theorem Halves.nil_ (w : World) (base : Nat) : Halves w base none 0 0 none 0 0 [] [] := ⟨Rw.RS.nil_, Rw.RS.nil_, .inl ⟨rfl, rfl⟩⟩
theorem Halves.mono (h : Halves w base A1 n1 c1 A2 n2 c2 l1 l2) {b : Nat} (hb : b ≤ base) : Halves w b A1 n1 c1 A2 n2 c2 l1 l2 :=
  ⟨h.r1, h.r2, h.g.imp id fun ⟨g, cur, h1, r⟩ => ⟨g, cur, Nat.le_trans hb h1, r⟩⟩
theorem Halves.kep {S : Nat → Prop} (h : Halves w base A1 n1 c1 A2 n2 c2 l1 l2) (hk : Kep S w w') (hs : ∀ k, base ≤ k → k < w.heap.size → ¬ S k) : Halves w' base A1 n1 c1 A2 n2 c2 l1 l2 := by
  rcases h.g with ⟨h1, h2⟩ | ⟨g, cur, h1, h2, h3, h4, h5⟩
  · exact ⟨h.r1.kep2 hk (fun h0 => absurd h0 (by omega)), h.r2.kep2 hk (fun h0 => absurd h0 (by omega)), .inl ⟨h1, h2⟩⟩
  · have hg := hs g h1 h2.lt
    exact ⟨h.r1.kep2 hk (fun h0 x hx => by rw [h3 h0] at hx; injection hx with hx; rw [← hx]; exact hg), h.r2.kep2 hk (fun h0 x hx => by rw [h4 h0] at hx; injection hx with hx; rw [← hx]; exact hg), .inr ⟨g, cur, h1, h2.kep hk hg, h3, h4, h5⟩⟩
theorem Halves.bel (h : Halves w base A1 n1 c1 A2 n2 c2 l1 l2) (hk : Bel w w') : Halves w' base A1 n1 c1 A2 n2 c2 l1 l2 := h.kep (Kep.of_bel (S := fun _ => False) hk) (fun _ _ _ h => h)
theorem Halves.lay (h : Halves w base A1 n1 c1 A2 n2 c2 l1 l2) : Lay w A1 n1 := fun h0 => by
  rcases h.g with ⟨h1, h2⟩ | ⟨g, cur, h1, h2, h3, h4, h5⟩
  · omega
  · exact ⟨g, 0, cur, h3 h0, h2, by omega⟩
/-- The first half written over leaves the second. -/
theorem Halves.over (h : Halves w base A1 n1 c1 A2 n2 c2 l1 l2) (ho : Ov A1 n1 w w') : Rw.RS eR w' A2 n2 c2 l2 ∧ Lay w' A2 n2 := by
  by_cases h2 : 0 < n2
  · rcases h.g with ⟨_, h3⟩ | ⟨g, cur, h1, hb, h3, h4, h5⟩
    · omega
    · have hA := h4 h2
      have : ∃ cur', Blk w' g cur' 53 ∧ cur'.size = cur.size ∧ ∀ j, n1 * 8 ≤ j → cur'[j]? = cur[j]? := by
        by_cases h0 : 0 < n1
        · obtain ⟨cur', q1, q2, q3⟩ := ho.row g 0 cur h0 (h3 h0) hb
          exact ⟨cur', q1, q2, fun j hj => q3 j (.inr (by omega))⟩
        · exact ⟨cur, hb.kep ho.kep (fun e => h0 e.1), rfl, fun j _ => rfl⟩
      obtain ⟨cur', q1, q2, q3⟩ := this
      refine ⟨⟨h.r2.len, h.r2.cap, h.r2.nil, fun _ => ⟨g, n1 * 8, hA, q1.lt, fun i r hi j v hv => ?_⟩⟩, fun _ => ⟨g, n1 * 8, cur', hA, q1, by omega⟩⟩
      obtain ⟨b, o, e, hlt, hc⟩ := h.r2.row h2
      rw [hA] at e
      injection e with e
      injection e with e1 e2
      subst e1 e2
      have hin : i < n2 := by have := (List.getElem?_eq_some_iff.1 hi).1; have := h.r2.len; omega
      have hj : j < 8 := by have := (List.getElem?_eq_some_iff.1 hv).1; have h8 : (eR.k r).length = 8 := eR.len r; omega
      have h1 := hc i r hi j v hv
      have hidx : n1 * 8 + i * eR.z + j < cur.size := by
        have : eR.z = 8 := rfl
        rw [this]
        omega
      have h2' := hb.cell _ (Array.getElem?_eq_getElem hidx)
      rw [h2'] at h1
      rw [q1.cell _ (by rw [q3 _ (by omega)]; exact Array.getElem?_eq_getElem hidx)]
      exact h1
  · exact ⟨h.r2.kep2 ho.kep (fun h0 => absurd h0 h2), fun h0 => absurd h0 h2⟩
end
/-- What Ripe tells. -/
def RipeR (w w' : World) (l : List E8) (h u : Int) (e : Ending) : Prop :=
  ∃ A1 n1 c1 A2 n2 c2, e = .returned (.tuple #[.slice A1 n1 c1, .slice A2 n2 c2, .int .i64 (ripE l h u)]) ∧ Halves w' w.heap.size A1 n1 c1 A2 n2 c2 (ripL l h u) (lftL l h u) ∧ Bel w w'

theorem own_halves {w : World} {base : Nat} {A : Option Addr} {n c k : Nat} {l : List E8} (h : OwnE w base (.slice A n c) l) (hn : l.length = n) (hk : k ≤ n) : Halves w base A k k (if c = k then A else A.map (fun a => a.add (k * 8))) (n - k) (c - k) (l.take k) (l.drop k) := by
  rcases Nat.eq_zero_or_pos n with h0 | h0
  · obtain ⟨A', c', e, hr, _⟩ := h.rs eR
    injection e with e1 e2 e3
    subst e1 e3
    obtain rfl : k = 0 := by omega
    subst h0
    have hl0 : l = [] := List.length_eq_zero_iff.1 hn
    subst hl0
    refine ⟨⟨rfl, Nat.le_refl _, fun h => rfl, fun h => absurd h (by omega)⟩, ⟨rfl, by omega, fun h => ?_, fun h => absurd h (by omega)⟩, .inl ⟨rfl, rfl⟩⟩
    have : A = none := by
      split at h
      · exact h
      · cases A with
        | none => rfl
        | some a => cases h
    have := hr.nil this
    omega
  · obtain ⟨g, cap, e, hg, hrb, hm⟩ := Rw.rb_own eR h (by omega)
    rw [hn] at e
    injection e with e1 e2 e3
    subst e1 e3
    have hr := hrb.rs
    rw [hn] at hr
    obtain ⟨cur, q1, q2, q3⟩ := hrb.blk
    have hcap := hr.cap
    have h1 := (hr.part hk).cut (c' := k) (Nat.le_refl _) (fun h => by cases h)
    have hQ : k < n → (if c = k then some (⟨g, 0, none⟩ : Addr) else (some (⟨g, 0, none⟩ : Addr)).map (fun a => a.add (k * 8))) = some ⟨g, k * 8, none⟩ := fun hlt => by
      rw [if_neg (by omega), Option.map_some, Rw.add_at, Nat.zero_add]
    refine ⟨h1, ⟨by rw [List.length_drop, hn], by omega, fun h => ?_, fun h2 => ?_⟩, .inr ⟨g, cur, hg, q1, fun _ => rfl, fun h2 => hQ (by omega), by rw [q3]; show (k + (n - k)) * 8 ≤ c * 8; omega⟩⟩
    · split at h <;> cases h
    · refine ⟨g, k * 8, hQ (by omega), q1.lt, fun i r hi => ?_⟩
      rw [List.getElem?_drop] at hi
      obtain ⟨b, o, e, _, hc⟩ := hr.row h0
      injection e with e
      injection e with e1 e2
      subst e1 e2
      have := hc (k + i) r hi
      have hz : eR.z = 8 := rfl
      rw [hz] at this ⊢
      rwa [show k * 8 + i * 8 = 0 + (k + i) * 8 by omega]
end Qu
end Go.Proofs.YtcefjigbaglmeaaGreat
end

section
/-
  The program's Ripe: Check, the bounds, a search, a copy in two halves.
-/
namespace Go.Proofs.YtcefjigbaglmeaaGreat
open Go.RowKit Go.Shelf
set_option linter.unusedVariables false
set_option Elab.async false
namespace Qu
open Kk Pm
end Qu
end Go.Proofs.YtcefjigbaglmeaaGreat
end

section
/-
  What the program's Live and Total tell. Conditions: at most a billion entries; the Balances are words.
-/
namespace Go.Proofs.YtcefjigbaglmeaaGreat
open Go.RowKit Go.Shelf
set_option linter.unusedVariables false
set_option linter.unusedSimpArgs false
namespace Qu
open Kk Pm

theorem of_no1 {o' v' r1 r2 r3 r4 r5 r6 r7 r8 : Int} (h : r1 ≠ o') : isOf o' v' (r1, r2, r3, r4, r5, r6, r7, r8) = false := decide_eq_false fun h' => h h'.1
theorem of_no2 {o' v' r1 r2 r3 r4 r5 r6 r7 r8 : Int} (h : r2 ≠ v') : isOf o' v' (r1, r2, r3, r4, r5, r6, r7, r8) = false := decide_eq_false fun h' => h h'.2
theorem of_yes {o' v' r1 r2 r3 r4 r5 r6 r7 r8 : Int} (h : r1 = o') (h2 : r2 = v') : isOf o' v' (r1, r2, r3, r4, r5, r6, r7, r8) = true := decide_eq_true ⟨h, h2⟩
set_option maxHeartbeats 4000000 in
theorem live1 (a o' v' r1 r2 r3 r4 r5 r6 r7 r8 : Int) (p p2 : Nat) (V0 : World) (hp : Blk V0 p #[.int .i64 o'] 3) (hp2 : Blk V0 p2 #[.int .i64 v'] 3) (ha : 0 ≤ a ∧ a ≤ 1000000000) :
    Calls Tryz.prog 50 #[.int .i64 a, .agg #[.int .i64 r1, .int .i64 r2, .int .i64 r3, .int .i64 r4, .int .i64 r5, .int .i64 r6, .int .u64 r7, .int .u64 r8], .pointer (some ⟨p, 0, none⟩), .pointer (some ⟨p2, 0, none⟩)] V0 fun e w' => e = .returned (.int .i64 (if isOf o' v' (r1, r2, r3, r4, r5, r6, r7, r8) = true then a + 1 else a)) ∧ Bel V0 w' := by
  have B0 := Lib.hid (Blk.new V0 #[.int .i64 r1, .int .i64 r2, .int .i64 r3, .int .i64 r4, .int .i64 r5, .int .i64 r6, .int .u64 r7, .int .u64 r8] 53)
  obtain ⟨V, hV⟩ : ∃ V, V0.alloc (.cells #[.int .i64 r1, .int .i64 r2, .int .i64 r3, .int .i64 r4, .int .i64 r5, .int .i64 r6, .int .u64 r7, .int .u64 r8] 53) = V := ⟨_, rfl⟩
  have EV := Lib.hid (show Bel V0 V by rw [← hV]; exact (Bel.refl _).alloc _)
  rw [hV] at B0
  have HV := Lib.hid hV
  have P1 := Lib.hid (hp.bel EV.out)
  have P2 := Lib.hid (hp2.bel EV.out)
  clear hV hp hp2
  have hw : IntKind.i64.wrap (a + 1) = a + 1 := IntWalk.i64_in _ (by omega)
  clear ha
  by_cases h1 : r1 = o'
  · by_cases h2 : r2 = v'
    · rw [if_pos (of_yes h1 h2)]
      have e1 : (r1 == o') = true := beq_iff_eq.2 h1
      have e2 : (r2 == v') = true := beq_iff_eq.2 h2
      clear h1 h2
      go_enter Tryz.func50, Tryz.ntmps50
      go_upto_region 1 with fail
      try rw [HV.out]
      obtain ⟨g, hg⟩ : ∃ g, V0.heap.size = g := ⟨_, rfl⟩
      rw [hg] at B0 ⊢
      clear hg HV
      have c0 := B0.out.cell 0 rfl
      have c1 := B0.out.cell 1 rfl
      have p0 := P1.out.cell 0 rfl
      have q0 := P2.out.cell 0 rfl
      go_wp2_with fail
      go_ret
      exact ⟨rfl, EV.out⟩
    · rw [if_neg (by rw [of_no2 h2]; decide)]
      have e1 : (r1 == o') = true := beq_iff_eq.2 h1
      have e2 : (r2 == v') = false := beq_eq_false_iff_ne.2 h2
      clear h1 h2
      go_enter Tryz.func50, Tryz.ntmps50
      go_upto_region 1 with fail
      try rw [HV.out]
      obtain ⟨g, hg⟩ : ∃ g, V0.heap.size = g := ⟨_, rfl⟩
      rw [hg] at B0 ⊢
      clear hg HV
      have c0 := B0.out.cell 0 rfl
      have c1 := B0.out.cell 1 rfl
      have p0 := P1.out.cell 0 rfl
      have q0 := P2.out.cell 0 rfl
      go_wp2_with fail
      go_ret
      exact ⟨rfl, EV.out⟩
  · rw [if_neg (by rw [of_no1 h1]; decide)]
    have e1 : (r1 == o') = false := beq_eq_false_iff_ne.2 h1
    clear h1
    go_enter Tryz.func50, Tryz.ntmps50
    go_upto_region 1 with fail
    try rw [HV.out]
    obtain ⟨g, hg⟩ : ∃ g, V0.heap.size = g := ⟨_, rfl⟩
    rw [hg] at B0 ⊢
    clear hg HV
    have c0 := B0.out.cell 0 rfl
    have c1 := B0.out.cell 1 rfl
    have p0 := P1.out.cell 0 rfl
    have q0 := P2.out.cell 0 rfl
    go_wp2_with fail
    go_ret
    exact ⟨rfl, EV.out⟩
set_option maxRecDepth 100000 in
set_option maxHeartbeats 4000000 in
theorem fold_i (A : Option Addr) (n c : Nat) (l : List E8) (o' v' : Int) (p p2 : Nat) (w : World) (hi : Rw.RS eR w A n c l) (hn : n ≤ 1000000000) (hp : Blk w p #[.int .i64 o'] 3) (hp2 : Blk w p2 #[.int .i64 v'] 3) :
    Calls Tryz.prog 49 #[.slice A n c, .int .i64 0, .func (.func 50) #[] #[.pointer (some ⟨p, 0, none⟩), .pointer (some ⟨p2, 0, none⟩)]] w fun e w' => e = .returned (.int .i64 (live l o' v')) ∧ Bel w w' := by
  have HR := Lib.hid hi
  have HFIN := Lib.hid (show l.take n = l by rw [← hi.len]; exact List.take_length)
  have P1 := Lib.hid hp
  have P2 := Lib.hid hp2
  clear hi hp hp2
  go_enter Tryz.func49, Tryz.ntmps49
  go_wp2_with fail
  go_loopw [1, 11] (fun s1 s11 wr => ∃ k : Nat, k ≤ n ∧ s11 = .int .i64 k ∧ s1 = .int .i64 (live (l.take k) o' v') ∧ Hid (Bel w wr)) (fun _ s11 _ => n - (intOf s11).toNat)
  case atStart => exact ⟨0, Nat.zero_le _, rfl, rfl, Lib.hid (Bel.refl _)⟩
  case round =>
    obtain ⟨k, hk, rfl, rfl, hh⟩ := hrel
    by_cases hlt : k < n
    · obtain ⟨⟨r1, r2, r3, r4, r5, r6, r7, r8⟩, hr⟩ := HR.out.get hlt
      obtain ⟨b, q, rfl, hb, hrow⟩ := (HR.out.bel hh.out).at hlt hr
      have HNX := Lib.hid (live_take hr o' v')
      have HLE := Lib.hid (show live (l.take k) o' v' ≤ k by have := live_le (l.take k) o' v'; rw [List.length_take] at this; omega)
      have hlt3 : (k : Int) < n := by omega
      have hlt0 : (0 : Int) ≤ k := by omega
      obtain ⟨c0, c1, c2, c3, c4, c5, c6, c7⟩ := rng8 (show wr.rangeAt b (q + k * 8) [.int .i64 r1, .int .i64 r2, .int .i64 r3, .int .i64 r4, .int .i64 r5, .int .i64 r6, .int .u64 r7, .int .u64 r8] from hrow)
      clear hr hrow hb
      obtain ⟨t, ht⟩ : ∃ t, live (l.take k) o' v' = t := ⟨_, rfl⟩
      rw [ht] at HNX HLE ⊢
      clear ht
      go_upto_region 4 with fail
      have P0 := Lib.hid (Blk.new wr #[.int .i64 r1, .int .i64 r2, .int .i64 r3, .int .i64 r4, .int .i64 r5, .int .i64 r6, .int .u64 r7, .int .u64 r8] 53)
      obtain ⟨V, hV⟩ : ∃ V, wr.alloc (.cells #[.int .i64 r1, .int .i64 r2, .int .i64 r3, .int .i64 r4, .int .i64 r5, .int .i64 r6, .int .u64 r7, .int .u64 r8] 53) = V := ⟨_, rfl⟩
      have BV := Lib.hid (show Bel w V by rw [← hV]; exact hh.out.alloc _)
      rw [hV] at P0 ⊢
      obtain ⟨g, hg⟩ : ∃ g, wr.heap.size = g := ⟨_, rfl⟩
      rw [hg] at P0 ⊢
      clear hV hg c0 c1 c2 c3 c4 c5 c6 c7
      have c0 := P0.out.cell 0 rfl
      have c1 := P0.out.cell 1 rfl
      have c2 := P0.out.cell 2 rfl
      have c3 := P0.out.cell 3 rfl
      have c4 := P0.out.cell 4 rfl
      have c5 := P0.out.cell 5 rfl
      have c6 := P0.out.cell 6 rfl
      have c7 := P0.out.cell 7 rfl
      have hLV := load_e P0.out
      have LV := Lib.hid (live1 t o' v' r1 r2 r3 r4 r5 r6 r7 r8 p p2 V (P1.out.bel BV.out) (P2.out.bel BV.out) (by have := HLE.out; omega))
      obtain ⟨y, hy⟩ : ∃ y : Int, (if isOf o' v' (r1, r2, r3, r4, r5, r6, r7, r8) = true then (t : Int) + 1 else t) = y := ⟨_, rfl⟩
      rw [hy] at LV
      have HY := Lib.hid (show y = (live (l.take (k + 1)) o' v' : Nat) by rw [HNX.out, ← hy]; split <;> omega)
      clear hy
      go_wp2_with fail
      refine LV.out.mono ?_
      rintro e V1 ⟨rfl, k1⟩
      have BV1 := Lib.hid (BV.out.trans k1)
      clear k1 LV P0 hLV BV c0 c1 c2 c3 c4 c5 c6 c7
      go_wp2_with fail
      go_roundw
      case rel => exact ⟨k + 1, by omega, by go_num, by rw [HY.out], BV1⟩
      case measure => simp [intOf]; omega
    · obtain rfl : k = n := by omega
      have hlt3 : ¬ (k : Int) < k := by omega
      rw [HFIN.out]
      go_wp2_with fail
      go_ret
      exact ⟨rfl, hh.out⟩
set_option maxHeartbeats 2000000 in
theorem liveX (A : Option Addr) (n c : Nat) (l : List E8) (o' v' : Int) (w : World) (hi : Rw.RS eR w A n c l) (hn : n ≤ 1000000000) :
    Calls Tryz.prog 17 #[.slice A n c, .int .i64 o', .int .i64 v'] w fun e w' => e = .returned (.int .i64 (live l o' v')) ∧ Bel w w' := by
  obtain ⟨W, hW⟩ : ∃ W, (w.alloc (.cells #[.int .i64 o'] 3)).alloc (.cells #[.int .i64 v'] 3) = W := ⟨_, rfl⟩
  have BW := Lib.hid (show Bel w W by rw [← hW]; exact ((Bel.refl w).alloc _).alloc _)
  have P0 := Lib.hid (show Blk W (w.heap.size) #[.int .i64 o'] 3 by rw [← hW]; exact ((Blk.new w _ _).alloc _))
  have P1 := Lib.hid (show Blk W (w.heap.size + 1) #[.int .i64 v'] 3 by
    rw [← hW]
    have := Blk.new (w.alloc (.cells #[.int .i64 o'] 3)) #[.int .i64 v'] 3
    rw [World.size_alloc] at this
    exact this)
  have FI := Lib.hid (fold_i A n c l o' v' (w.heap.size) (w.heap.size + 1) W (hi.bel BW.out) hn P0.out P1.out)
  have HW := Lib.hid hW
  clear hi hW
  go_enter Tryz.func17, Tryz.ntmps17
  go_upto_region 1 with fail
  try rw [HW.out]
  go_wp2_with fail
  refine FI.out.mono ?_
  rintro x w1 ⟨rfl, kb⟩
  have KB := Lib.hid (BW.out.trans kb)
  clear kb FI
  go_wp2_with fail
  go_ret
  exact ⟨rfl, KB.out⟩
set_option maxHeartbeats 2000000 in
theorem total (A : Option Addr) (n c : Nat) (l : List E8) (w : World) (hi : Rw.RS eR w A n c l) (hn : n ≤ 1000000000) (hw : Wd l) :
    Calls Tryz.prog 16 #[.slice A n c] w fun e w' => e = .returned (.tuple #[.int .u64 (totN l), .int .i64 (chk l).1]) ∧ Bel w w' := by
  have CK := Lib.hid (check A n c l w hi hn hw)
  have HR := Lib.hid hi
  have HW := Lib.hid hw
  have HT := Lib.hid (show (chk l).1 = 0 → totN l = tot l from fun h => if_pos h)
  have HT2 := Lib.hid (show (chk l).1 ≠ 0 → totN l = 0 from fun h => if_neg h)
  have HCP := Lib.hid (show (chk l).1 = 0 → cap (tot l) = tot l from fun h => cap_le (by have := (chk_ok.1 h).2.2; omega))
  obtain ⟨E, hE⟩ : ∃ E, (chk l).1 = E := ⟨_, rfl⟩
  rw [hE] at CK HT HT2 HCP ⊢
  clear hi hw hE
  by_cases h0 : E = 0
  · have h0b : (E != 0) = false := by rw [h0]; rfl
    rw [HT.out h0]
    have HC0 := Lib.hid (HCP.out h0)
    have HE0 := Lib.hid h0
    clear h0 HT HT2 HCP
    go_enter Tryz.func16, Tryz.ntmps16
    go_wp2_with fail
    refine CK.out.mono ?_
    rintro x w1 ⟨rfl, kb⟩
    have BA := Lib.hid (balances A n c l w1 (HR.out.bel kb) hn HW.out)
    rw [HC0.out] at BA
    have KB := Lib.hid kb
    clear kb CK
    go_wp2_with fail
    refine BA.out.mono ?_
    rintro x w2 ⟨rfl, kb⟩
    have KX := Lib.hid (KB.out.trans kb)
    clear kb BA
    go_wp2_with fail
    (try rw [Exit.noGoto_ret])
    go_ret2
    exact ⟨by rw [HE0.out]; rfl, KX.out⟩
  · have h0b : (E != 0) = true := by rw [bne_iff_ne]; exact h0
    rw [HT2.out h0]
    clear h0 HT HT2 HCP
    go_enter Tryz.func16, Tryz.ntmps16
    go_wp2_with fail
    refine CK.out.mono ?_
    rintro x w1 ⟨rfl, kb⟩
    have KB := Lib.hid kb
    clear kb CK
    go_wp2_with fail
    (try rw [Exit.noGoto_ret])
    go_ret2
    exact ⟨rfl, KB.out⟩
end Qu
end Go.Proofs.YtcefjigbaglmeaaGreat
end

section
/-
  What queue.Add answers of any queue and any entry. Conditions: at most a million entries; Balances are words.
-/
namespace Go.Proofs.YtcefjigbaglmeaaGreat
open Go.RowKit Go.Shelf
set_option linter.unusedVariables false
set_option linter.unusedSimpArgs false
set_option Elab.async false
namespace Qu
open Kk Pm

theorem add_ways (l : List E8) (x : E8) (m : Int) :
    ((chk l).1 ≠ 0 → addE l x m = (chk l).1) ∧ ((chk l).1 = 0 → (m < 1 ∨ 16 < m) → addE l x m = 3) ∧
    ((chk l).1 = 0 → ¬ (m < 1 ∨ 16 < m) → qE (bef 0 l l.length) x ≠ 0 → addE l x m = qE (bef 0 l l.length) x) ∧
    ((chk l).1 = 0 → ¬ (m < 1 ∨ 16 < m) → qE (bef 0 l l.length) x = 0 → (bal x ≠ ini x → addE l x m = 11) ∧
      (bal x = ini x → (m ≤ live l (own x) (val x) → addE l x m = 22) ∧ ((live l (own x) (val x) : Int) < m → (l.length = 32768 → addE l x m = 7) ∧
        (l.length ≠ 32768 → (4611686018427387904 < tot l + bal x → addE l x m = 12) ∧ (tot l + bal x ≤ 4611686018427387904 → addE l x m = 0))))) :=
  ⟨addE_0, addE_3, addE_q, fun h h1 h2 => ⟨addE_11 h h1 h2, fun h3 => ⟨addE_22 h h1 h2 h3, fun h4 => ⟨addE_7 h h1 h2 h3 (by omega), fun h5 => ⟨addE_12 h h1 h2 h3 (by omega) h5, fun h6 => addE_ok h h1 h2 h3 (by omega) h5 (by omega)⟩⟩⟩⟩⟩
/-- What Add tells. -/
def AddR (w w' : World) (l : List E8) (x : E8) (m : Int) (e : Ending) : Prop := ∃ y, e = .returned (.tuple #[y, .int .i64 (addE l x m)]) ∧ OwnE w' w.heap.size y (addL l x m) ∧ Bel w w'
set_option maxRecDepth 100000 in
set_option maxHeartbeats 16000000 in
theorem add (A : Option Addr) (n c : Nat) (l : List E8) (x1 x2 x3 x4 x5 x6 x7 x8 m : Int) (w : World) (hi : Rw.RS eR w A n c l) (hn : n ≤ 1000000) (hw : Wd l) (hx : 0 ≤ x8 ∧ x8 ≤ 18446744073709551615) :
    Calls Tryz.prog 48 #[.slice A n c, .agg #[.int .i64 x1, .int .i64 x2, .int .i64 x3, .int .i64 x4, .int .i64 x5, .int .i64 x6, .int .u64 x7, .int .u64 x8], .int .i64 m] w fun e w' => AddR w w' l (x1, x2, x3, x4, x5, x6, x7, x8) m e := by
  have HI := Lib.hid hi
  have HLN := Lib.hid hi.len
  have HW := Lib.hid hw
  have HX := Lib.hid hx
  have P0 := Lib.hid (Blk.new w #[.int .i64 x1, .int .i64 x2, .int .i64 x3, .int .i64 x4, .int .i64 x5, .int .i64 x6, .int .u64 x7, .int .u64 x8] 53)
  obtain ⟨W, hW⟩ : ∃ W, w.alloc (.cells #[.int .i64 x1, .int .i64 x2, .int .i64 x3, .int .i64 x4, .int .i64 x5, .int .i64 x6, .int .u64 x7, .int .u64 x8] 53) = W := ⟨_, rfl⟩
  have BW := Lib.hid (show Bel w W by rw [← hW]; exact (Bel.refl w).alloc _)
  rw [hW] at P0
  have CK := Lib.hid (check A n c l W (hi.bel BW.out) (by omega) hw)
  have AW := Lib.hid (add_ways l (x1, x2, x3, x4, x5, x6, x7, x8) m)
  obtain ⟨e1, he1⟩ : ∃ e, (chk l).1 = e := ⟨_, rfl⟩
  obtain ⟨e2, he2⟩ : ∃ e, (chk l).2 = e := ⟨_, rfl⟩
  have HE1 := Lib.hid he1
  rw [he1, he2] at CK
  rw [he1] at AW
  rw [HLN.out] at AW
  obtain ⟨bf, hbf⟩ : ∃ bf, bef 0 l n = bf := ⟨_, rfl⟩
  obtain ⟨q, hq⟩ : ∃ q, qE bf (x1, x2, x3, x4, x5, x6, x7, x8) = q := ⟨_, rfl⟩
  rw [hbf, hq] at AW
  have HBF := Lib.hid hbf
  have HQ := Lib.hid hq
  clear hi he1 he2 hw hx hbf hq
  have FIN : ∀ (V : World) (x : Int), Bel w V → addE l (x1, x2, x3, x4, x5, x6, x7, x8) m = x → x ≠ 0 → AddR w V l (x1, x2, x3, x4, x5, x6, x7, x8) m (.returned (.tuple #[.slice none 0 0, .int .i64 x])) := fun V x hb he hx =>
    ⟨_, by rw [he], by rw [addL_ne (by rw [he]; exact hx)]; exact Rw.OwnR.nil_ _ _ _ _, hb⟩
  have FIN := Lib.hid FIN
  go_enter Tryz.func48, Tryz.ntmps48
  go_upto_region 1 with fail
  try rw [hW]
  obtain ⟨g, hg⟩ : ∃ g, w.heap.size = g := ⟨_, rfl⟩
  rw [hg] at P0 ⊢
  have HGG := Lib.hid hg
  clear hW hg
  go_wp2_with fail
  refine CK.out.mono ?_
  rintro e w1 ⟨rfl, kb⟩
  have K1 := Lib.hid (BW.out.trans kb)
  have P1 := Lib.hid (P0.out.bel kb)
  clear kb CK P0
  by_cases h0 : e1 = 0
  · subst h0
    by_cases hm1 : m < 1
    · have HE := Lib.hid (AW.out.2.1 rfl (.inl hm1))
      clear AW
      go_wp2_with fail
      go_ret2
      exact FIN.out _ 3 K1.out HE.out (by decide)
    by_cases hm2 : 16 < m
    · have HE := Lib.hid (AW.out.2.1 rfl (.inr hm2))
      clear AW
      go_wp2_with fail
      go_ret2
      exact FIN.out _ 3 K1.out HE.out (by decide)
    have hno : ¬ (m < 1 ∨ 16 < m) := by omega
    have AQ := Lib.hid (AW.out.2.2.1 rfl hno)
    have AX := Lib.hid (AW.out.2.2.2 rfl hno)
    clear AW hno
    have FL := Lib.hid (flaw A n c l x1 x2 x3 x4 x5 x6 x7 x8 w1 (HI.out.bel K1.out) (by omega))
    rw [HBF.out, HQ.out] at FL
    have c0 := P1.out.cell 0 rfl
    have c1 := P1.out.cell 1 rfl
    have c2 := P1.out.cell 2 rfl
    have c3 := P1.out.cell 3 rfl
    have c4 := P1.out.cell 4 rfl
    have c5 := P1.out.cell 5 rfl
    have c6 := P1.out.cell 6 rfl
    have c7 := P1.out.cell 7 rfl
    go_wp2_with fail
    refine FL.out.mono ?_
    rintro e w2 ⟨rfl, kb⟩
    have K2 := Lib.hid (K1.out.trans kb)
    have P2 := Lib.hid (P1.out.bel kb)
    clear kb FL P1 c0 c1 c2 c3 c4 c5 c6 c7
    by_cases hq0 : q = 0
    · have hqb : (q != 0) = false := by rw [hq0]; rfl
      have AX := Lib.hid (AX.out hq0)
      have HQ0 := Lib.hid hq0
      clear AQ hq0
      have g4 := P2.out.cell 7 rfl
      have g3 := P2.out.cell 6 rfl
      have g0 := P2.out.cell 0 rfl
      have g1 := P2.out.cell 1 rfl
      by_cases hbi : x8 = x7
      · have hbb : (x8 != x7) = false := by rw [hbi]; simp
        have AX := Lib.hid (AX.out.2 hbi)
        clear hbi
        have LV := Lib.hid (liveX A n c l x1 x2 w2 (HI.out.bel K2.out) (by omega))
        obtain ⟨C, hC⟩ : ∃ C, live l x1 x2 = C := ⟨_, rfl⟩
        have AX := Lib.hid (show (m ≤ C → addE l (x1, x2, x3, x4, x5, x6, x7, x8) m = 22) ∧ ((C : Int) < m → (n = 32768 → addE l (x1, x2, x3, x4, x5, x6, x7, x8) m = 7) ∧ (n ≠ 32768 → (4611686018427387904 < tot l + x8 → addE l (x1, x2, x3, x4, x5, x6, x7, x8) m = 12) ∧ (tot l + x8 ≤ 4611686018427387904 → addE l (x1, x2, x3, x4, x5, x6, x7, x8) m = 0))) from by rw [← hC]; exact AX.out)
        rw [hC] at LV
        clear hC
        go_wp2_with fail
        refine LV.out.mono ?_
        rintro e w3 ⟨rfl, kb⟩
        have K3 := Lib.hid (K2.out.trans kb)
        have P3 := Lib.hid (P2.out.bel kb)
        clear kb LV P2 g0 g1 g3 g4
        by_cases hc : m ≤ (C : Int)
        · have HE := Lib.hid (AX.out.1 hc)
          clear AX
          go_wp2_with fail
          go_ret2
          exact FIN.out _ 22 K3.out HE.out (by decide)
        have AX := Lib.hid (AX.out.2 (Int.not_le.1 hc))
        have hc' : ¬ ((C : Int) ≥ m) := by omega
        by_cases hl : n = 32768
        · have HE := Lib.hid (AX.out.1 hl)
          have hl3 : ((n : Int) == 32768) = true := by rw [hl]; rfl
          clear AX
          go_wp2_with fail
          go_ret2
          exact FIN.out _ 7 K3.out HE.out (by decide)
        have AX := Lib.hid (AX.out.2 hl)
        have hl3 : ((n : Int) == 32768) = false := by simp; omega
        have HT := Lib.hid (show 0 ≤ tot l ∧ tot l ≤ 4611686018427387904 from ⟨tot_pos HW.out, (chk_ok.1 HE1.out).2.2⟩)
        have BA := Lib.hid (fun V (hv : Bel w V) => balances A n c l V (HI.out.bel hv) (by omega) HW.out)
        rw [cap_le (by have := HT.out; omega)] at BA
        have WB := Lib.hid (fun V => withBalance (tot l) x1 x2 x3 x4 x5 x6 x7 x8 V (by have := HT.out; omega) HX.out)
        obtain ⟨t, ht⟩ : ∃ t, tot l = t := ⟨_, rfl⟩
        rw [ht] at BA WB AX
        clear ht HT
        by_cases ho : 4611686018427387904 < t + x8
        · have HE := Lib.hid (AX.out.1 ho)
          have hg1 : 4611686018427387904 < cap (t + x8) := cap_big.2 ho
          obtain ⟨S, hS_⟩ : ∃ S, cap (t + x8) = S := ⟨_, rfl⟩
          rw [hS_] at WB hg1
          clear AX ho hS_
          have hgb : decide (4611686018427387904 < S) = true := decide_eq_true hg1
          go_upto_region 15 with fail
          refine wp_region_held_drew (S := fun Vx => Bel w3 Vx) (by kernel_rfl) (Bel.refl _).drew (fun hS0 => ?_)
          obtain ⟨w6, hw6⟩ : ∃ w6, World.drew w3 = w6 := ⟨_, rfl⟩
          rw [hw6] at hS0 ⊢
          clear hw6
          refine wpAnyH_take (i := 0) (oi := { dst := some 52, op := .move (.tmp 0), type := 22, pos := "queue.go:31", after := #[], guard := none }) (v := .slice A n c) rfl (by kernel_rfl) (by kernel_rfl) (by kernel_rfl) (fun _ _ _ h => h) (Or.inl ⟨by rfl, by intro w hSw; clear hSw; go_simp⟩) hS0 ?_
          try simp only [Act.put, List.setIfInBounds_toArray, List.set_cons_zero, List.set_cons_succ]
          refine wpAnyH_take (i := 2) (oi := { dst := some 54, op := .load 53 (.tmp 4), type := 53, pos := "queue.go:31", after := #[], guard := none }) (v := .agg #[.int .i64 x1, .int .i64 x2, .int .i64 x3, .int .i64 x4, .int .i64 x5, .int .i64 x6, .int .u64 x7, .int .u64 x8]) rfl (by kernel_rfl) (by kernel_rfl) (by kernel_rfl) (fun _ _ _ h => h) (yieldsIf_load_mid (by rfl) _ _ rfl _ _ rfl _ _ (fun w h => rng_bel (rngB (C := [.int .i64 x1, .int .i64 x2, .int .i64 x3, .int .i64 x4, .int .i64 x5, .int .i64 x6, .int .u64 x7, .int .u64 x8]) P3.out) h) Tryz.underlying53 rfl info_E) hS0 ?_
          try simp only [Act.put, List.setIfInBounds_toArray, List.set_cons_zero, List.set_cons_succ]
          refine wpAnyH_ready (rs := [1]) (by kernel_rfl) (by simp) ?_
          refine AllReadyH.cons (o := { dst := some 53, op := .call { callee := .value (.func 34), args := #[.tmp 52], argTypes := #[22] }, type := 39, pos := "queue.go:31", after := #[{ on := 0, ground := .data }], guard := none }) rfl (fun K hK => ?_) AllReadyH.nil
          go_simp
          refine (BA.out _ (K3.out.trans hS0)).mono ?_
          rintro e v1 ⟨rfl, kb⟩
          go_wp2_with fail
          refine hK.out _ _ (hS0.trans kb) (fun hS1 => ?_)
          clear hK K
          try simp only [Act.put, List.setIfInBounds_toArray, List.set_cons_zero, List.set_cons_succ]
          refine wpAnyH_ready (rs := [3]) (by kernel_rfl) (by simp) ?_
          refine AllReadyH.cons (o := { dst := some 55, op := .call { callee := .value (.func 72), args := #[.tmp 53, .tmp 54], argTypes := #[39, 53] }, type := 39, pos := "queue.go:31", after := #[{ on := 1, ground := .data }, { on := 2, ground := .data }, { on := 1, ground := .chain }], guard := none }) rfl (fun K hK => ?_) AllReadyH.nil
          go_simp
          refine (WB.out _).mono ?_
          rintro e v2 ⟨rfl, kb⟩
          go_wp2_with fail
          refine hK.out _ _ (hS1.trans kb) (fun hS2 => ?_)
          clear hK K
          try simp only [Act.put, List.setIfInBounds_toArray, List.set_cons_zero, List.set_cons_succ]
          refine wpAnyH_take (i := 4) (oi := { dst := some 56, op := .binOp .gtr 39 (.tmp 55) (.const (Value.int IntKind.u64 4611686018427387904)) 39, type := 4, pos := "queue.go:31", after := #[{ on := 3, ground := .data }], guard := none }) (v := .bool true) rfl (by kernel_rfl) (by kernel_rfl) (by kernel_rfl) (fun _ _ _ h => h) (Or.inl ⟨by rfl, by intro w hSw; clear hSw; go_simp⟩) hS2 ?_
          try simp only [Act.put, List.setIfInBounds_toArray, List.set_cons_zero, List.set_cons_succ]
          refine wpAnyH_take (i := 5) (oi := { dst := some 51, op := .assign (.tmp 56), type := 4, pos := "queue.go:31", after := #[{ on := 4, ground := .data }, { on := 3, ground := .chain }], guard := none }) (v := .bool true) rfl (by kernel_rfl) (by kernel_rfl) (by kernel_rfl) (fun _ _ _ h => h) (Or.inl ⟨by rfl, by intro w hSw; clear hSw; go_simp⟩) hS2 ?_
          try simp only [Act.put, List.setIfInBounds_toArray, List.set_cons_zero, List.set_cons_succ]
          refine wpAnyH_done (by kernel_rfl) ?_ _
          clear BA WB
          go_wp2_with fail
          go_ret2
          exact FIN.out _ 12 (K3.out.trans hS2) HE.out (by decide)
        · have HE := Lib.hid (AX.out.2 (Int.not_lt.1 ho))
          have hg1 : ¬ 4611686018427387904 < cap (t + x8) := fun h => ho (cap_big.1 h)
          obtain ⟨S, hS_⟩ : ∃ S, cap (t + x8) = S := ⟨_, rfl⟩
          rw [hS_] at WB hg1
          clear AX ho hS_
          have hgb : decide (4611686018427387904 < S) = false := decide_eq_false hg1
          have hsl := fun V => slice_full A n c HI.out.cap V
          go_upto_region 15 with fail
          refine wp_region_held_drew (S := fun Vx => Bel w3 Vx) (by kernel_rfl) (Bel.refl _).drew (fun hS0 => ?_)
          obtain ⟨w6, hw6⟩ : ∃ w6, World.drew w3 = w6 := ⟨_, rfl⟩
          rw [hw6] at hS0 ⊢
          clear hw6
          refine wpAnyH_take (i := 0) (oi := { dst := some 52, op := .move (.tmp 0), type := 22, pos := "queue.go:31", after := #[], guard := none }) (v := .slice A n c) rfl (by kernel_rfl) (by kernel_rfl) (by kernel_rfl) (fun _ _ _ h => h) (Or.inl ⟨by rfl, by intro w hSw; clear hSw; go_simp⟩) hS0 ?_
          try simp only [Act.put, List.setIfInBounds_toArray, List.set_cons_zero, List.set_cons_succ]
          refine wpAnyH_take (i := 2) (oi := { dst := some 54, op := .load 53 (.tmp 4), type := 53, pos := "queue.go:31", after := #[], guard := none }) (v := .agg #[.int .i64 x1, .int .i64 x2, .int .i64 x3, .int .i64 x4, .int .i64 x5, .int .i64 x6, .int .u64 x7, .int .u64 x8]) rfl (by kernel_rfl) (by kernel_rfl) (by kernel_rfl) (fun _ _ _ h => h) (yieldsIf_load_mid (by rfl) _ _ rfl _ _ rfl _ _ (fun w h => rng_bel (rngB (C := [.int .i64 x1, .int .i64 x2, .int .i64 x3, .int .i64 x4, .int .i64 x5, .int .i64 x6, .int .u64 x7, .int .u64 x8]) P3.out) h) Tryz.underlying53 rfl info_E) hS0 ?_
          try simp only [Act.put, List.setIfInBounds_toArray, List.set_cons_zero, List.set_cons_succ]
          refine wpAnyH_ready (rs := [1]) (by kernel_rfl) (by simp) ?_
          refine AllReadyH.cons (o := { dst := some 53, op := .call { callee := .value (.func 34), args := #[.tmp 52], argTypes := #[22] }, type := 39, pos := "queue.go:31", after := #[{ on := 0, ground := .data }], guard := none }) rfl (fun K hK => ?_) AllReadyH.nil
          go_simp
          refine (BA.out _ (K3.out.trans hS0)).mono ?_
          rintro e v1 ⟨rfl, kb⟩
          go_wp2_with fail
          refine hK.out _ _ (hS0.trans kb) (fun hS1 => ?_)
          clear hK K
          try simp only [Act.put, List.setIfInBounds_toArray, List.set_cons_zero, List.set_cons_succ]
          refine wpAnyH_ready (rs := [3]) (by kernel_rfl) (by simp) ?_
          refine AllReadyH.cons (o := { dst := some 55, op := .call { callee := .value (.func 72), args := #[.tmp 53, .tmp 54], argTypes := #[39, 53] }, type := 39, pos := "queue.go:31", after := #[{ on := 1, ground := .data }, { on := 2, ground := .data }, { on := 1, ground := .chain }], guard := none }) rfl (fun K hK => ?_) AllReadyH.nil
          go_simp
          refine (WB.out _).mono ?_
          rintro e v2 ⟨rfl, kb⟩
          go_wp2_with fail
          refine hK.out _ _ (hS1.trans kb) (fun hS2 => ?_)
          clear hK K
          try simp only [Act.put, List.setIfInBounds_toArray, List.set_cons_zero, List.set_cons_succ]
          refine wpAnyH_take (i := 4) (oi := { dst := some 56, op := .binOp .gtr 39 (.tmp 55) (.const (Value.int IntKind.u64 4611686018427387904)) 39, type := 4, pos := "queue.go:31", after := #[{ on := 3, ground := .data }], guard := none }) (v := .bool false) rfl (by kernel_rfl) (by kernel_rfl) (by kernel_rfl) (fun _ _ _ h => h) (Or.inl ⟨by rfl, by intro w hSw; clear hSw; go_simp⟩) hS2 ?_
          try simp only [Act.put, List.setIfInBounds_toArray, List.set_cons_zero, List.set_cons_succ]
          refine wpAnyH_take (i := 5) (oi := { dst := some 51, op := .assign (.tmp 56), type := 4, pos := "queue.go:31", after := #[{ on := 4, ground := .data }, { on := 3, ground := .chain }], guard := none }) (v := .bool false) rfl (by kernel_rfl) (by kernel_rfl) (by kernel_rfl) (fun _ _ _ h => h) (Or.inl ⟨by rfl, by intro w hSw; clear hSw; go_simp⟩) hS2 ?_
          try simp only [Act.put, List.setIfInBounds_toArray, List.set_cons_zero, List.set_cons_succ]
          refine wpAnyH_done (by kernel_rfl) ?_ _
          have K4 := Lib.hid (K3.out.trans hS2)
          have P4 := Lib.hid (P3.out.bel hS2)
          clear BA WB
          obtain ⟨w4, hw4⟩ : ∃ w4, v2 = w4 := ⟨_, rfl⟩
          rw [hw4] at K4 P4 ⊢
          clear hw4
          go_upto_region 17 with fail
          refine wp_region_held_drew (S := fun Vx => Bel w4 Vx) (by kernel_rfl) (Bel.refl _).drew (fun hS0 => ?_)
          have HS6 := Lib.hid hS0
          obtain ⟨w6, hw6⟩ : ∃ w6, World.drew w4 = w6 := ⟨_, rfl⟩
          rw [hw6] at hS0 HS6 ⊢
          clear hw6
          have HX1 := Lib.hid (Rw.rs_one eR (r := (x1, x2, x3, x4, x5, x6, x7, x8)) (Blk.new w6 #[.int .i64 x1, .int .i64 x2, .int .i64 x3, .int .i64 x4, .int .i64 x5, .int .i64 x6, .int .u64 x7, .int .u64 x8] 53))
          have HS7 := Lib.hid ((HI.out.cut (c' := n) (Nat.le_refl _) (fun h => by have := HI.out.nil h; have := HI.out.cap; omega)).bel ((K4.out.trans HS6.out).alloc (.cells #[.int .i64 x1, .int .i64 x2, .int .i64 x3, .int .i64 x4, .int .i64 x5, .int .i64 x6, .int .u64 x7, .int .u64 x8] 53)))
          obtain ⟨cap_, W9, hAP, hRB, hOW, hB9⟩ := Rw.run_append_full eR 22 22 53 underE zero_E rfl (by decide) HS7.out HX1.out (by omega) (by omega)
          obtain ⟨W7, hW7⟩ : ∃ W7, w6.alloc (.cells #[.int .i64 x1, .int .i64 x2, .int .i64 x3, .int .i64 x4, .int .i64 x5, .int .i64 x6, .int .u64 x7, .int .u64 x8] 53) = W7 := ⟨_, rfl⟩
          have H7 := Lib.hid (show Bel w4 W7 by rw [← hW7]; exact HS6.out.alloc _)
          have H67 := Lib.hid hW7
          rw [hW7] at hAP hOW hB9
          have HAP := Lib.hid hAP
          have HOW := Lib.hid hOW
          have HB9 := Lib.hid hB9
          clear hAP hRB hOW hB9 hW7 HX1 HS7
          refine wpAnyH_take (i := 0) (oi := { dst := some 57, op := .move (.tmp 0), type := 22, pos := "queue.go:35", after := #[], guard := none }) (v := .slice A n c) rfl (by kernel_rfl) (by kernel_rfl) (by kernel_rfl) (fun _ _ _ h => h) (Or.inl ⟨by rfl, by intro w hSw; clear hSw; go_simp⟩) hS0 ?_
          try simp only [Act.put, List.setIfInBounds_toArray, List.set_cons_zero, List.set_cons_succ]
          refine wpAnyH_take (i := 1) (oi := { dst := some 58, op := .move (.tmp 0), type := 22, pos := "queue.go:35", after := #[], guard := none }) (v := .slice A n c) rfl (by kernel_rfl) (by kernel_rfl) (by kernel_rfl) (fun _ _ _ h => h) (Or.inl ⟨by rfl, by intro w hSw; clear hSw; go_simp⟩) hS0 ?_
          try simp only [Act.put, List.setIfInBounds_toArray, List.set_cons_zero, List.set_cons_succ]
          refine wpAnyH_take (i := 2) (oi := { dst := some 59, op := .call { callee := .builtin .len, args := #[.tmp 58], argTypes := #[22] }, type := 3, pos := "queue.go:35", after := #[{ on := 1, ground := .data }], guard := none }) (v := .int .i64 n) rfl (by kernel_rfl) (by kernel_rfl) (by kernel_rfl) (fun _ _ _ h => h) (Or.inl ⟨by rfl, by intro w hSw; clear hSw; go_simp⟩) hS0 ?_
          try simp only [Act.put, List.setIfInBounds_toArray, List.set_cons_zero, List.set_cons_succ]
          refine wpAnyH_take (i := 3) (oi := { dst := some 60, op := .move (.tmp 0), type := 22, pos := "queue.go:35", after := #[], guard := none }) (v := .slice A n c) rfl (by kernel_rfl) (by kernel_rfl) (by kernel_rfl) (fun _ _ _ h => h) (Or.inl ⟨by rfl, by intro w hSw; clear hSw; go_simp⟩) hS0 ?_
          try simp only [Act.put, List.setIfInBounds_toArray, List.set_cons_zero, List.set_cons_succ]
          refine wpAnyH_take (i := 4) (oi := { dst := some 61, op := .call { callee := .builtin .len, args := #[.tmp 60], argTypes := #[22] }, type := 3, pos := "queue.go:35", after := #[{ on := 3, ground := .data }], guard := none }) (v := .int .i64 n) rfl (by kernel_rfl) (by kernel_rfl) (by kernel_rfl) (fun _ _ _ h => h) (Or.inl ⟨by rfl, by intro w hSw; clear hSw; go_simp⟩) hS0 ?_
          try simp only [Act.put, List.setIfInBounds_toArray, List.set_cons_zero, List.set_cons_succ]
          refine wpAnyH_take (i := 5) (oi := { dst := some 62, op := .slice 22 (.tmp 57) none (some (.tmp 59)) (some (.tmp 61)), type := 22, pos := "queue.go:35", after := #[{ on := 0, ground := .data }, { on := 2, ground := .data }, { on := 4, ground := .data }], guard := none }) (v := .slice A n n) rfl (by kernel_rfl) (by kernel_rfl) (by kernel_rfl) (fun _ _ _ h => h) (Or.inl ⟨by rfl, by intro w hSw; clear hSw; go_simp⟩) hS0 ?_
          try simp only [Act.put, List.setIfInBounds_toArray, List.set_cons_zero, List.set_cons_succ]
          refine wpAnyH_take (i := 6) (oi := { dst := some 63, op := .load 53 (.tmp 4), type := 53, pos := "queue.go:35", after := #[], guard := none }) (v := .agg #[.int .i64 x1, .int .i64 x2, .int .i64 x3, .int .i64 x4, .int .i64 x5, .int .i64 x6, .int .u64 x7, .int .u64 x8]) rfl (by kernel_rfl) (by kernel_rfl) (by kernel_rfl) (fun _ _ _ h => h) (yieldsIf_load_mid (by rfl) _ _ rfl _ _ rfl _ _ (fun w h => rng_bel (rngB (C := [.int .i64 x1, .int .i64 x2, .int .i64 x3, .int .i64 x4, .int .i64 x5, .int .i64 x6, .int .u64 x7, .int .u64 x8]) P4.out) h) Tryz.underlying53 rfl info_E) hS0 ?_
          try simp only [Act.put, List.setIfInBounds_toArray, List.set_cons_zero, List.set_cons_succ]
          refine wpAnyH_ready (rs := [7]) (by kernel_rfl) (by simp) ?_
          refine AllReadyH.cons (o := { dst := some 64, op := .buildSlice 22 1 #[(0, .tmp 63)], type := 22, pos := "queue.go:35", after := #[{ on := 6, ground := .data }], guard := none }) rfl (fun K hK => ?_) AllReadyH.nil
          go_simp
          refine hK.out _ _ (HS6.out.alloc _) (fun hS1 => ?_)
          clear hK K
          try simp only [Act.put, List.setIfInBounds_toArray, List.set_cons_zero, List.set_cons_succ]
          refine wpAnyH_ready (rs := [8]) (by kernel_rfl) (by simp) ?_
          refine AllReadyH.cons (o := { dst := some 65, op := .call { callee := .builtin .append, args := #[.tmp 62, .tmp 64], argTypes := #[22, 22] }, type := 22, pos := "queue.go:35", after := #[{ on := 5, ground := .data }, { on := 7, ground := .data }], guard := none }) rfl (fun K hK => ?_) AllReadyH.nil
          rw [H67.out]
          refine Rw.step_append_run rfl (.tmp 62) (.tmp 64) 22 22 rfl _ _ (by simp [Act.eval, Act.put]) (by simp [Act.eval, Act.put]) HAP.out ?_
          refine hK.out _ _ (H7.out.trans HB9.out) (fun hS2 => ?_)
          clear hK K
          try simp only [Act.put, List.setIfInBounds_toArray, List.set_cons_zero, List.set_cons_succ]
          refine wpAnyH_take (i := 9) (oi := { dst := some 6, op := .assign (.tmp 65), type := 22, pos := "queue.go:35", after := #[{ on := 8, ground := .data }, { on := 8, ground := .chain }, { on := 0, ground := .phase }, { on := 1, ground := .phase }, { on := 2, ground := .phase }, { on := 3, ground := .phase }, { on := 4, ground := .phase }, { on := 5, ground := .phase }, { on := 6, ground := .phase }, { on := 7, ground := .phase }, { on := 8, ground := .phase }], guard := none }) (v := .slice (some ⟨(World.heap W7).size, 0, none⟩) (n + 1) cap_) rfl (by kernel_rfl) (by kernel_rfl) (by kernel_rfl) (fun _ _ _ h => h) (Or.inl ⟨by rfl, by intro w hSw; clear hSw; go_simp⟩) hS2 ?_
          try simp only [Act.put, List.setIfInBounds_toArray, List.set_cons_zero, List.set_cons_succ]
          refine wpAnyH_take (i := 10) (oi := { dst := some 7, op := .assign (.const (Value.int IntKind.i64 0)), type := 25, pos := "queue.go:35", after := #[{ on := 9, ground := .chain }, { on := 0, ground := .phase }, { on := 1, ground := .phase }, { on := 2, ground := .phase }, { on := 3, ground := .phase }, { on := 4, ground := .phase }, { on := 5, ground := .phase }, { on := 6, ground := .phase }, { on := 7, ground := .phase }, { on := 8, ground := .phase }, { on := 9, ground := .phase }], guard := none }) (v := .int .i64 0) rfl (by kernel_rfl) (by kernel_rfl) (by kernel_rfl) (fun _ _ _ h => h) (Or.inl ⟨by rfl, by intro w hSw; clear hSw; go_simp⟩) hS2 ?_
          try simp only [Act.put, List.setIfInBounds_toArray, List.set_cons_zero, List.set_cons_succ]
          refine wpAnyH_done (by kernel_rfl) ?_ _
          go_wp2_with fail
          go_ret2
          refine ⟨_, by rw [HE.out]; rfl, ?_, (K4.out.trans H7.out).trans HB9.out⟩
          rw [addL_eq HE.out]
          exact HOW.out.mono (Nat.le_trans (Below.size K4.out) (Below.size H7.out))
      · have HE := Lib.hid (AX.out.1 hbi)
        have hbb : (x8 != x7) = true := by rw [bne_iff_ne]; exact hbi
        clear AX hbi
        go_wp2_with fail
        go_ret2
        exact FIN.out _ 11 K2.out HE.out (by decide)
    · have HE := Lib.hid (AQ.out hq0)
      have hqb : (q != 0) = true := by rw [bne_iff_ne]; exact hq0
      have H0 := Lib.hid hq0
      clear AQ AX hq0
      go_wp2_with fail
      go_ret2
      exact FIN.out _ q K2.out HE.out H0.out
  · have HE := Lib.hid (AW.out.1 h0)
    have hne : (e1 != 0) = true := by rw [bne_iff_ne]; exact h0
    have H0 := Lib.hid h0
    clear h0
    go_wp2_with fail
    go_ret2
    exact FIN.out _ e1 K1.out HE.out H0.out
end Qu
end Go.Proofs.YtcefjigbaglmeaaGreat
end

section
/-
  What the reference's Add answers of any queue and any entry. Conditions: at most a million entries; Balances are words.
-/
namespace Go.Proofs.YtcefjigbaglmeaaGreat
open Go.RowKit Go.Shelf
set_option linter.unusedVariables false
set_option linter.unusedSimpArgs false
set_option Elab.async false
namespace Qu
open Kk Pm

end Qu
end Go.Proofs.YtcefjigbaglmeaaGreat
end
