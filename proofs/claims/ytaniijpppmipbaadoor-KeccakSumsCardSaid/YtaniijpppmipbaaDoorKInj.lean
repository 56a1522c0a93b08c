/-
  Plain facts on SHA3-256: a permutation makes unlike states of unlike ones. No program, no condition.
-/
import Derived.Test.YtaniijpppmipbaaDoorKMath
namespace Go.Proofs.YtaniijpppmipbaaDoor
set_option linter.unusedVariables false
namespace Kk

theorem g_range (f : Nat → Wd) {i : Nat} (h : i < 25) : g ((List.range 25).map f) i = f i := by
  unfold g
  rw [List.getD_eq_getElem?_getD, List.getElem?_map, List.getElem?_range h]
  rfl
theorem ext_g {A B : List Wd} (ha : A.length = 25) (hb : B.length = 25) (h : ∀ i, i < 25 → g A i = g B i) : A = B := by
  apply List.ext_getElem (ha.trans hb.symm)
  intro i h1 h2
  have := h i (by omega)
  unfold g at this
  rw [List.getD_eq_getElem?_getD, List.getD_eq_getElem?_getD, List.getElem?_eq_getElem h1, List.getElem?_eq_getElem h2] at this
  exact this
/-- A bit of a turned word. -/
theorem rot_bit (x : Wd) {k m : Nat} (hk : k < 64) (hm : m < 64) : (rot x k).getLsbD m = x.getLsbD ((m + (64 - k)) % 64) := by
  unfold rot
  rw [BitVec.getLsbD_or, BitVec.getLsbD_shiftLeft, BitVec.getLsbD_ushiftRight]
  by_cases h : m < k
  · rw [show (m + (64 - k)) % 64 = 64 - k + m by omega]
    simp [h]
  · rw [show (m + (64 - k)) % 64 = m - k by omega, BitVec.getLsbD_of_ge x (64 - k + m) (by omega)]
    simp [h, hm]
theorem rot_inj {x y : Wd} {k : Nat} (hk : k < 64) (h : rot x k = rot y k) : x = y := by
  apply BitVec.eq_of_getLsbD_eq
  intro i hi
  have e := congrArg (fun z => BitVec.getLsbD z ((i + k) % 64)) h
  simp only [rot_bit _ hk (Nat.mod_lt _ (by decide))] at e
  rwa [show ((i + k) % 64 + (64 - k)) % 64 = i by omega] at e
theorem rot_xor (x y : Wd) {k : Nat} (hk : k < 64) : rot (x ^^^ y) k = rot x k ^^^ rot y k := by
  apply BitVec.eq_of_getLsbD_eq
  intro i hi
  rw [BitVec.getLsbD_xor, rot_bit _ hk hi, rot_bit _ hk hi, rot_bit _ hk hi, BitVec.getLsbD_xor]

/-! ### chi -/
theorem chi_bits : ∀ a0 a1 a2 a3 a4 b0 b1 b2 b3 b4 : Bool, (a0 ^^ (!a1 && a2)) = (b0 ^^ (!b1 && b2)) → (a1 ^^ (!a2 && a3)) = (b1 ^^ (!b2 && b3)) → (a2 ^^ (!a3 && a4)) = (b2 ^^ (!b3 && b4)) → (a3 ^^ (!a4 && a0)) = (b3 ^^ (!b4 && b0)) → (a4 ^^ (!a0 && a1)) = (b4 ^^ (!b0 && b1)) →
    a0 = b0 ∧ a1 = b1 ∧ a2 = b2 ∧ a3 = b3 ∧ a4 = b4 := by decide
theorem chi_words {a0 a1 a2 a3 a4 b0 b1 b2 b3 b4 : Wd} (h0 : a0 ^^^ (~~~a1 &&& a2) = b0 ^^^ (~~~b1 &&& b2)) (h1 : a1 ^^^ (~~~a2 &&& a3) = b1 ^^^ (~~~b2 &&& b3)) (h2 : a2 ^^^ (~~~a3 &&& a4) = b2 ^^^ (~~~b3 &&& b4))
    (h3 : a3 ^^^ (~~~a4 &&& a0) = b3 ^^^ (~~~b4 &&& b0)) (h4 : a4 ^^^ (~~~a0 &&& a1) = b4 ^^^ (~~~b0 &&& b1)) : a0 = b0 ∧ a1 = b1 ∧ a2 = b2 ∧ a3 = b3 ∧ a4 = b4 := by
  have key : ∀ i, i < 64 → a0.getLsbD i = b0.getLsbD i ∧ a1.getLsbD i = b1.getLsbD i ∧ a2.getLsbD i = b2.getLsbD i ∧ a3.getLsbD i = b3.getLsbD i ∧ a4.getLsbD i = b4.getLsbD i := fun i hi => by
    have e0 := congrArg (fun z => BitVec.getLsbD z i) h0
    have e1 := congrArg (fun z => BitVec.getLsbD z i) h1
    have e2 := congrArg (fun z => BitVec.getLsbD z i) h2
    have e3 := congrArg (fun z => BitVec.getLsbD z i) h3
    have e4 := congrArg (fun z => BitVec.getLsbD z i) h4
    simp only [BitVec.getLsbD_xor, BitVec.getLsbD_and, BitVec.getLsbD_not, hi, decide_true, Bool.true_and] at e0 e1 e2 e3 e4
    exact chi_bits _ _ _ _ _ _ _ _ _ _ e0 e1 e2 e3 e4
  exact ⟨BitVec.eq_of_getLsbD_eq fun i hi => (key i hi).1, BitVec.eq_of_getLsbD_eq fun i hi => (key i hi).2.1, BitVec.eq_of_getLsbD_eq fun i hi => (key i hi).2.2.1, BitVec.eq_of_getLsbD_eq fun i hi => (key i hi).2.2.2.1, BitVec.eq_of_getLsbD_eq fun i hi => (key i hi).2.2.2.2⟩
theorem chi_inj {A B : List Wd} (ha : A.length = 25) (hb : B.length = 25) (h : chi A = chi B) : A = B := by
  apply ext_g ha hb
  have e : ∀ i, i < 25 → g A i ^^^ (~~~ g A ((i % 5 + 1) % 5 + 5 * (i / 5)) &&& g A ((i % 5 + 2) % 5 + 5 * (i / 5))) = g B i ^^^ (~~~ g B ((i % 5 + 1) % 5 + 5 * (i / 5)) &&& g B ((i % 5 + 2) % 5 + 5 * (i / 5))) := fun i hi => by
    have := congrArg (fun L => g L i) h
    simpa only [chi, g_range _ hi] using this
  have row : ∀ y, y < 5 → g A (5 * y) = g B (5 * y) ∧ g A (5 * y + 1) = g B (5 * y + 1) ∧ g A (5 * y + 2) = g B (5 * y + 2) ∧ g A (5 * y + 3) = g B (5 * y + 3) ∧ g A (5 * y + 4) = g B (5 * y + 4) := fun y hy => by
    have e0 := e (5 * y) (by omega)
    have e1 := e (5 * y + 1) (by omega)
    have e2 := e (5 * y + 2) (by omega)
    have e3 := e (5 * y + 3) (by omega)
    have e4 := e (5 * y + 4) (by omega)
    rw [show (5 * y % 5 + 1) % 5 + 5 * (5 * y / 5) = 5 * y + 1 by omega, show (5 * y % 5 + 2) % 5 + 5 * (5 * y / 5) = 5 * y + 2 by omega] at e0
    rw [show ((5 * y + 1) % 5 + 1) % 5 + 5 * ((5 * y + 1) / 5) = 5 * y + 2 by omega, show ((5 * y + 1) % 5 + 2) % 5 + 5 * ((5 * y + 1) / 5) = 5 * y + 3 by omega] at e1
    rw [show ((5 * y + 2) % 5 + 1) % 5 + 5 * ((5 * y + 2) / 5) = 5 * y + 3 by omega, show ((5 * y + 2) % 5 + 2) % 5 + 5 * ((5 * y + 2) / 5) = 5 * y + 4 by omega] at e2
    rw [show ((5 * y + 3) % 5 + 1) % 5 + 5 * ((5 * y + 3) / 5) = 5 * y + 4 by omega, show ((5 * y + 3) % 5 + 2) % 5 + 5 * ((5 * y + 3) / 5) = 5 * y by omega] at e3
    rw [show ((5 * y + 4) % 5 + 1) % 5 + 5 * ((5 * y + 4) / 5) = 5 * y by omega, show ((5 * y + 4) % 5 + 2) % 5 + 5 * ((5 * y + 4) / 5) = 5 * y + 1 by omega] at e4
    exact chi_words e0 e1 e2 e3 e4
  intro i hi
  obtain ⟨r0, r1, r2, r3, r4⟩ := row (i / 5) (by omega)
  obtain h | h | h | h | h : i = 5 * (i / 5) ∨ i = 5 * (i / 5) + 1 ∨ i = 5 * (i / 5) + 2 ∨ i = 5 * (i / 5) + 3 ∨ i = 5 * (i / 5) + 4 := by omega
  · rw [h]; exact r0
  · rw [h]; exact r1
  · rw [h]; exact r2
  · rw [h]; exact r3
  · rw [h]; exact r4

/-! ### rho and pi -/
theorem src_onto : ∀ i : Fin 25, ∃ j : Fin 25, src j.1 = i.1 := by decide
theorem R_lt : ∀ i : Fin 25, R.getD i.1 0 < 64 := by decide
theorem rhoPi_inj {A B : List Wd} (ha : A.length = 25) (hb : B.length = 25) (h : rhoPi A = rhoPi B) : A = B := by
  apply ext_g ha hb
  intro i hi
  obtain ⟨j, hj⟩ := src_onto ⟨i, hi⟩
  have e := congrArg (fun L => g L j.1) h
  simp only [rhoPi, g_range _ j.2] at e
  simp only at hj
  rw [hj] at e
  exact rot_inj (R_lt ⟨i, hi⟩) e

/-! ### iota -/
theorem xor_right {a b c : Wd} (h : a ^^^ c = b ^^^ c) : a = b := by
  have := congrArg (fun z => z ^^^ c) h
  simpa [BitVec.xor_assoc] using this
theorem iota_inj {A B : List Wd} {k : Wd} (ha : A.length = 25) (hb : B.length = 25) (h : iota A k = iota B k) : A = B := by
  apply ext_g ha hb
  intro i hi
  have e := congrArg (fun L => g L i) h
  unfold iota at e
  by_cases h0 : i = 0
  · subst h0
    have q : ∀ L : List Wd, L.length = 25 → g (L.set 0 (g L 0 ^^^ k)) 0 = g L 0 ^^^ k := fun L hl => by
      conv => lhs; unfold g
      rw [List.getD_eq_getElem?_getD, List.getElem?_set_self (by omega)]
      rfl
    simp only [q A ha, q B hb] at e
    exact xor_right e
  · have q : ∀ (L : List Wd) (z : Wd), g (L.set 0 z) i = g L i := fun L z => by
      unfold g
      rw [List.getD_eq_getElem?_getD, List.getElem?_set_ne (by omega), List.getD_eq_getElem?_getD]
    simpa only [q] using e

/-! ### theta -/
def Par (e : Nat → Nat → Bool) (a k : Nat) : Prop := ∀ x i, e x i = (e (x + 4 * a) i ^^ e (x + a) (i + 63 * k))
theorem Par.twice {e : Nat → Nat → Bool} {a k : Nat} (h : Par e a k) : Par e (2 * a) (2 * k) := fun x i => by
  have h1 := h x i
  have h2 := h (x + 4 * a) i
  have h3 := h (x + a) (i + 63 * k)
  rw [show x + a + 4 * a = x + 4 * a + a by omega] at h3
  rw [show x + 4 * (2 * a) = x + 4 * a + 4 * a by omega, show x + 2 * a = x + a + a by omega, show i + 63 * (2 * k) = i + 63 * k + 63 * k by omega]
  rw [h1, h2, h3]
  cases e (x + 4 * a + 4 * a) i <;> cases e (x + 4 * a + a) (i + 63 * k) <;> cases e (x + a + a) (i + 63 * k + 63 * k) <;> rfl
theorem par_zero {e : Nat → Nat → Bool} (h5 : ∀ x i, e (x + 5) i = e x i) (h64 : ∀ x i, e x (i + 64) = e x i) (h : Par e 1 1) (x i : Nat) : e x i = false := by
  have p5 : ∀ n x i, e (x + 5 * n) i = e x i := fun n => by
    induction n with
    | zero => intro x i; rfl
    | succ n ih => intro x i; rw [show x + 5 * (n + 1) = x + 5 * n + 5 by omega, h5, ih]
  have p64 : ∀ n x i, e x (i + 64 * n) = e x i := fun n => by
    induction n with
    | zero => intro x i; rfl
    | succ n ih => intro x i; rw [show i + 64 * (n + 1) = i + 64 * n + 64 by omega, h64, ih]
  have p : Par e 64 64 := h.twice.twice.twice.twice.twice.twice
  have q : ∀ x, e x i = (e (x + 1) i ^^ e (x + 4) i) := fun x => by
    have := p x i
    rw [show x + 4 * 64 = x + 1 + 5 * 51 by omega, p5, show x + 64 = x + 4 + 5 * 12 by omega, show i + 63 * 64 = i + 64 * 63 by omega, p64, p5] at this
    exact this
  have a0 := q x
  have a1 := q (x + 1)
  have a2 := q (x + 2)
  have a3 := q (x + 3)
  have a4 := q (x + 4)
  rw [show x + 1 + 1 = x + 2 by omega, show x + 1 + 4 = x + 5 by omega, h5] at a1
  rw [show x + 2 + 1 = x + 3 by omega, show x + 2 + 4 = x + 1 + 5 by omega, h5] at a2
  rw [show x + 3 + 1 = x + 4 by omega, show x + 3 + 4 = x + 2 + 5 by omega, h5] at a3
  rw [show x + 4 + 1 = x + 5 by omega, h5, show x + 4 + 4 = x + 3 + 5 by omega, h5] at a4
  revert a0 a1 a2 a3 a4
  generalize e x i = b0
  generalize e (x + 1) i = b1
  generalize e (x + 2) i = b2
  generalize e (x + 3) i = b3
  generalize e (x + 4) i = b4
  revert b0 b1 b2 b3 b4
  decide
theorem xor5 (a b c d e t : Wd) : (a ^^^ t) ^^^ (b ^^^ t) ^^^ (c ^^^ t) ^^^ (d ^^^ t) ^^^ (e ^^^ t) = (a ^^^ b ^^^ c ^^^ d ^^^ e) ^^^ t := by
  apply BitVec.eq_of_getLsbD_eq
  intro i hi
  simp only [BitVec.getLsbD_xor]
  cases a.getLsbD i <;> cases b.getLsbD i <;> cases c.getLsbD i <;> cases d.getLsbD i <;> cases e.getLsbD i <;> cases t.getLsbD i <;> rfl
theorem col_theta (A : List Wd) {x : Nat} (h : x < 5) : col (theta A) x = col A x ^^^ dd A x := by
  unfold col theta
  rw [g_range _ (by omega), g_range _ (by omega), g_range _ (by omega), g_range _ (by omega), g_range _ (by omega)]
  rw [show x % 5 = x by omega, show (x + 5) % 5 = x by omega, show (x + 10) % 5 = x by omega, show (x + 15) % 5 = x by omega, show (x + 20) % 5 = x by omega]
  exact xor5 _ _ _ _ _ _
theorem theta_inj {A B : List Wd} (ha : A.length = 25) (hb : B.length = 25) (h : theta A = theta B) : A = B := by
  have hc : ∀ x, x < 5 → col A x ^^^ dd A x = col B x ^^^ dd B x := fun x hx => by rw [← col_theta A hx, h, col_theta B hx]
  have key : ∀ x, x < 5 → col A x = col B x := by
    have z := par_zero (e := fun x i => (col A (x % 5) ^^^ col B (x % 5)).getLsbD (i % 64)) (fun x i => by simp only [show (x + 5) % 5 = x % 5 by omega]) (fun x i => by simp only [show (i + 64) % 64 = i % 64 by omega]) (fun x i => by
      have e := hc (x % 5) (by omega)
      have e2 := congrArg (fun z => BitVec.getLsbD z (i % 64)) e
      unfold dd at e2
      simp only [BitVec.getLsbD_xor, rot_bit _ (show 1 < 64 by decide) (Nat.mod_lt i (show 0 < 64 by decide))] at e2 ⊢
      rw [show (x % 5 + 4) % 5 = (x + 4 * 1) % 5 by omega, show (x % 5 + 1) % 5 = (x + 1) % 5 by omega, show (i % 64 + (64 - 1)) % 64 = (i + 63 * 1) % 64 by omega] at e2
      revert e2
      generalize (col A (x % 5)).getLsbD (i % 64) = p1
      generalize (col B (x % 5)).getLsbD (i % 64) = p2
      generalize (col A ((x + 4 * 1) % 5)).getLsbD (i % 64) = p3
      generalize (col B ((x + 4 * 1) % 5)).getLsbD (i % 64) = p4
      generalize (col A ((x + 1) % 5)).getLsbD ((i + 63 * 1) % 64) = p5
      generalize (col B ((x + 1) % 5)).getLsbD ((i + 63 * 1) % 64) = p6
      revert p1 p2 p3 p4 p5 p6
      decide)
    intro x hx
    apply BitVec.eq_of_getLsbD_eq
    intro i hi
    have e := z x i
    simp only [show x % 5 = x by omega, show i % 64 = i by omega, BitVec.getLsbD_xor] at e
    simpa using e
  have hd : ∀ x, x < 5 → dd A x = dd B x := fun x hx => by
    unfold dd
    rw [key _ (by omega), key _ (by omega)]
  apply ext_g ha hb
  intro i hi
  have e := congrArg (fun L => g L i) h
  simp only [theta, g_range _ hi] at e
  rw [hd (i % 5) (by omega)] at e
  exact xor_right e
theorem round_inj {A B : List Wd} {k : Wd} (ha : A.length = 25) (hb : B.length = 25) (h : round A k = round B k) : A = B :=
  theta_inj ha hb (rhoPi_inj (len_theta A) (len_theta B) (chi_inj (len_rhoPi _) (len_rhoPi _) (iota_inj (len_chi _) (len_chi _) h)))
theorem fold_inj : ∀ (l : List Wd) {A B : List Wd}, A.length = 25 → B.length = 25 → l.foldl round A = l.foldl round B → A = B
  | [], _, _, _, _, h => h
  | k :: l, _, _, ha, hb, h => round_inj ha hb (fold_inj l (len_round _ _) (len_round _ _) h)
theorem perm_inj {A B : List Wd} (ha : A.length = 25) (hb : B.length = 25) (h : perm A = perm B) : A = B := fold_inj _ ha hb h
end Kk
end Go.Proofs.YtaniijpppmipbaaDoor
