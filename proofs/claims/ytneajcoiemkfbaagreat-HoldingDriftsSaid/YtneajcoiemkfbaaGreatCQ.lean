/-
  Texts of this claim, put together: Sm0, Sm0c, Sm1, Sm1b. What each one says, and under which conditions, stands ahead of it.
-/
import Derived.Laws.BytesArg
import Derived.Laws.AppendOwnNone
import Derived.WalkSpells
import Derived.Deep.RegionHeld3
import Derived.Deep.Cut
import Derived.Deep.DeepCutAuto
import Derived.BigQuiet
import Derived.Deep.QuietTactic
import Derived.Laws.StructEq
import Derived.WalkMore
import Derived.Test.YtneajcoiemkfbaaGreatCA
import Derived.Test.YtneajcoiemkfbaaGreatCB

section
/-
  What stamp.Check answers: any stamp. No condition.
-/
namespace Go.Proofs.YtneajcoiemkfbaaGreat
open Go.RowKit Go.Shelf
set_option linter.unusedVariables false
namespace Sm
open Kk

/-- A stamp: Validator, Since, Prior, From. -/
abbrev stV (a b c d : Int) : Value := .agg #[.int .i64 a, .int .i64 b, .int .i64 c, .int .i64 d]
/-- Why a stamp may not be. -/
def ck (a b c d : Int) : Int :=
  if (a < 0 ∨ 31 < a) ∨ (b < 1 ∨ 4294967296 < b) ∨ (c < -1 ∨ 31 < c) ∨ (d < 0 ∨ 4294967296 < d) then 3
  else if c = a then 2 else if (c = -1 ∧ d ≠ 0) ∨ (c ≠ -1 ∧ d = 0) then 11 else if b < d then 9 else 0

/-- Objections, in memory. -/
def cellsO : List (Bool × Int) → List Value
  | [] => []
  | (p, e) :: l => .bool p :: .int .i64 e :: cellsO l
/-- The first that holds. -/
def idx : List (Bool × Int) → Nat → Int
  | [], _ => -1
  | (p, _) :: l, k => if p then (k : Int) else idx l (k + 1)
theorem cellsO_at : ∀ (l : List (Bool × Int)) (i : Nat) (p : Bool) (e : Int), l[i]? = some (p, e) → (cellsO l)[2 * i]? = some (.bool p) ∧ (cellsO l)[2 * i + 1]? = some (.int .i64 e)
  | [], i, p, e, h => by simp at h
  | (q, f) :: l, 0, p, e, h => by simp at h; obtain ⟨rfl, rfl⟩ := h; exact ⟨rfl, rfl⟩
  | (q, f) :: l, i + 1, p, e, h => by
    have := cellsO_at l i p e (by simpa using h)
    rw [show 2 * (i + 1) = 2 * i + 1 + 1 by omega]
    exact this
theorem idx_at : ∀ (l : List (Bool × Int)) (i k : Nat) (e : Int), l[i]? = some (true, e) → (∀ (j : Nat) (p : Bool) (f : Int), j < i → l[j]? = some (p, f) → p = false) → idx l k = ((k + i : Nat) : Int)
  | [], i, k, e, h, _ => by simp at h
  | (q, f) :: l, 0, k, e, h, _ => by simp at h; obtain ⟨rfl, rfl⟩ := h; simp [idx]
  | (q, f) :: l, i + 1, k, e, h, hb => by
    obtain rfl : q = false := hb 0 q f (by omega) rfl
    have := idx_at l i (k + 1) e (by simpa using h) (fun j p f hj hl => hb (j + 1) p f (by omega) (by simpa using hl))
    show (if (false : Bool) = true then (k : Int) else idx l (k + 1)) = _
    rw [if_neg (by decide), this]
    push_cast
    omega
theorem idx_no : ∀ (l : List (Bool × Int)) (k : Nat), (∀ (j : Nat) (p : Bool) (f : Int), l[j]? = some (p, f) → p = false) → idx l k = -1
  | [], k, _ => rfl
  | (q, f) :: l, k, hb => by
    obtain rfl : q = false := hb 0 q f rfl
    show (if (false : Bool) = true then (k : Int) else idx l (k + 1)) = _
    rw [if_neg (by decide), idx_no l (k + 1) (fun j p f hl => hb (j + 1) p f (by simpa using hl))]

theorem holds (p : Bool) (e : Int) (w : World) : Calls Tryz.prog 180 #[.agg #[.bool p, .int .i64 e]] w fun r w' => r = .returned (.bool p) ∧ Bel w w' := by
  go_enter Tryz.func180, Tryz.ntmps180
  go_wp2
  go_ret
  exact ⟨rfl, (Bel.refl _).alloc _⟩

set_option maxHeartbeats 1000000 in
theorem indexFunc (g : Nat) (l : List (Bool × Int)) (n : Nat) (w : World) (hl : l.length = n) (hn : n ≤ 100) (h : Blk w g (cellsO l).toArray 214) :
    Calls Tryz.prog 179 #[.slice (some ⟨g, 0, none⟩) n n, .func (.func 180) #[] #[]] w fun e w' => e = .returned (.int .i64 (idx l 0)) ∧ Bel w w' := by
  have H := Lib.hid h
  have HL := Lib.hid hl
  clear h hl
  go_enter Tryz.func179, Tryz.ntmps179
  go_wp2_with fail
  go_loopw [8] (fun i wr => ∃ k : Nat, k ≤ n ∧ i = .int .i64 k ∧ Hid ((∀ j p f, j < k → l[j]? = some (p, f) → p = false) ∧ Bel w wr)) (fun i _ => n - (intOf i).toNat)
  case atStart => exact ⟨0, Nat.zero_le _, rfl, Lib.hid ⟨fun j p f hj => absurd hj (by omega), Bel.refl _⟩⟩
  case round =>
    obtain ⟨k, hk, rfl, hh⟩ := hrel
    by_cases hlt : k < n
    · obtain ⟨p, e, hpe⟩ : ∃ p e, l[k]? = some (p, e) := by
        have : k < l.length := by rw [HL.out]; exact hlt
        exact ⟨l[k].1, l[k].2, List.getElem?_eq_getElem this⟩
      have HPE := Lib.hid hpe
      obtain ⟨e0, e1⟩ := cellsO_at l k p e hpe
      have BW := Lib.hid (H.out.bel hh.out.2)
      have c0 : wr.cell? ⟨g, k * 2, none⟩ = some (.bool p) := BW.out.cell _ (by rw [List.getElem?_toArray, Nat.mul_comm]; exact e0)
      have c1 : wr.cell? ⟨g, k * 2 + 1, none⟩ = some (.int .i64 e) := BW.out.cell _ (by rw [List.getElem?_toArray, Nat.mul_comm]; exact e1)
      have HO := Lib.hid (holds p e)
      clear hpe e0 e1
      have hlt3 : (k : Int) < n := by omega
      go_wp2_with fail
      refine (HO.out _).mono ?_
      rintro r w1 ⟨rfl, kb⟩
      have KB := Lib.hid (hh.out.2.trans kb)
      clear kb
      cases p
      · go_wp2_with fail
        go_roundw
        case rel =>
          refine ⟨k + 1, by omega, by go_num, Lib.hid ⟨fun j p f hj hp => ?_, KB.out⟩⟩
          rcases Nat.lt_or_ge j k with h' | h'
          · exact hh.out.1 j p f h' hp
          · obtain rfl : j = k := by omega
            have := HPE.out.symm.trans hp
            simp at this
            exact this.1
        case measure => simp [intOf]; omega
      · go_wp2_with fail
        go_ret
        refine ⟨?_, KB.out⟩
        rw [idx_at l k 0 e HPE.out (fun j p f hj hp => hh.out.1 j p f hj hp), Nat.zero_add]
        rfl
    · obtain rfl : k = n := by omega
      go_wp2_with fail
      go_ret
      refine ⟨?_, hh.out.2⟩
      rw [idx_no l 0 (fun j p f hp => hh.out.1 j p f (by rw [← HL.out]; exact (List.getElem?_eq_some_iff.1 hp).1) hp)]
      rfl

/-- The seven objections. -/
def obj (a b c d : Int) : List (Bool × Int) :=
  [(decide (a < 0 ∨ 31 < a), 3), (decide (b < 1 ∨ 4294967296 < b), 3), (decide (c < -1 ∨ 31 < c), 3), (decide (d < 0 ∨ 4294967296 < d), 3), (decide (c = a), 2), (decide ((c = -1 ∧ d ≠ 0) ∨ (c ≠ -1 ∧ d = 0)), 11), (decide (b < d), 9)]
theorem obj_ck (a b c d : Int) : (idx (obj a b c d) 0 = -1 ∧ ck a b c d = 0) ∨ ∃ i : Nat, i < 7 ∧ idx (obj a b c d) 0 = i ∧ (obj a b c d)[i]? = some (true, ck a b c d) := by
  unfold obj ck
  by_cases h1 : a < 0 ∨ 31 < a
  · rw [decide_eq_true h1, if_pos (.inl h1)]; exact .inr ⟨0, by omega, rfl, rfl⟩
  by_cases h2 : b < 1 ∨ 4294967296 < b
  · rw [decide_eq_false h1, decide_eq_true h2, if_pos (.inr (.inl h2))]; exact .inr ⟨1, by omega, rfl, rfl⟩
  by_cases h3 : c < -1 ∨ 31 < c
  · rw [decide_eq_false h1, decide_eq_false h2, decide_eq_true h3, if_pos (.inr (.inr (.inl h3)))]; exact .inr ⟨2, by omega, rfl, rfl⟩
  by_cases h4 : d < 0 ∨ 4294967296 < d
  · rw [decide_eq_false h1, decide_eq_false h2, decide_eq_false h3, decide_eq_true h4, if_pos (.inr (.inr (.inr h4)))]; exact .inr ⟨3, by omega, rfl, rfl⟩
  have h0 : ¬ ((a < 0 ∨ 31 < a) ∨ (b < 1 ∨ 4294967296 < b) ∨ (c < -1 ∨ 31 < c) ∨ (d < 0 ∨ 4294967296 < d)) := by omega
  rw [decide_eq_false h1, decide_eq_false h2, decide_eq_false h3, decide_eq_false h4, if_neg h0]
  by_cases h5 : c = a
  · rw [decide_eq_true h5, if_pos h5]; exact .inr ⟨4, by omega, rfl, rfl⟩
  rw [decide_eq_false h5, if_neg h5]
  by_cases h6 : (c = -1 ∧ d ≠ 0) ∨ (c ≠ -1 ∧ d = 0)
  · rw [decide_eq_true h6, if_pos h6]; exact .inr ⟨5, by omega, rfl, rfl⟩
  rw [decide_eq_false h6, if_neg h6]
  by_cases h7 : b < d
  · rw [decide_eq_true h7, if_pos h7]; exact .inr ⟨6, by omega, rfl, rfl⟩
  rw [decide_eq_false h7, if_neg h7]
  exact .inl ⟨rfl, rfl⟩

theorem two {p q : Prop} [Decidable p] [Decidable q] {A : Bool} (h : decide (p ∨ q) = A) : (decide p = true ∧ A = true) ∨ (decide p = false ∧ decide q = A) := by
  by_cases hp : p
  · exact .inl ⟨decide_eq_true hp, by rw [← h]; exact decide_eq_true (.inl hp)⟩
  · refine .inr ⟨decide_eq_false hp, ?_⟩
    rw [← h]
    by_cases hq : q
    · rw [decide_eq_true hq, decide_eq_true (p := p ∨ q) (.inr hq)]
    · rw [decide_eq_false hq, decide_eq_false (p := p ∨ q) (by rintro (h | h); exact hp h; exact hq h)]
theorem odd {c d : Int} {A : Bool} (h : decide ((c = -1 ∧ d ≠ 0) ∨ (c ≠ -1 ∧ d = 0)) = A) : (!((c == -1) == (d == 0))) = A := by
  rw [← h]
  by_cases h1 : c = -1
  · subst h1
    by_cases h2 : d = 0
    · subst h2; rfl
    · rw [beq_eq_false_iff_ne.2 h2, decide_eq_true (.inl ⟨rfl, h2⟩)]; rfl
  · rw [beq_eq_false_iff_ne.2 h1]
    by_cases h2 : d = 0
    · subst h2; rw [decide_eq_true (.inr ⟨h1, rfl⟩)]; rfl
    · rw [beq_eq_false_iff_ne.2 h2, decide_eq_false (by rintro (⟨h, _⟩ | ⟨_, h⟩); exact h1 h; exact h2 h)]; rfl
end Sm
end Go.Proofs.YtneajcoiemkfbaaGreat
end

section
/-
  What stamp.Check answers: any stamp. No condition.
-/
namespace Go.Proofs.YtneajcoiemkfbaaGreat
open Go.RowKit Go.Shelf
set_option linter.unusedVariables false
namespace Sm
open Kk

set_option maxRecDepth 10000 in
set_option maxHeartbeats 4000000 in
theorem check (a b c d : Int) (w : World) : Calls Tryz.prog 123 #[stV a b c d] w fun r w' => r = .returned (.int .i64 (ck a b c d)) ∧ Bel w w' := by
  have HO := Lib.hid (obj_ck a b c d)
  obtain ⟨E, hE⟩ : ∃ E, ck a b c d = E := ⟨_, rfl⟩
  rw [hE] at HO ⊢
  clear hE
  obtain ⟨A1, h1⟩ : ∃ A, decide (a < 0 ∨ 31 < a) = A := ⟨_, rfl⟩
  obtain ⟨A2, h2⟩ : ∃ A, decide (b < 1 ∨ 4294967296 < b) = A := ⟨_, rfl⟩
  obtain ⟨A3, h3⟩ : ∃ A, decide (c < -1 ∨ 31 < c) = A := ⟨_, rfl⟩
  obtain ⟨A4, h4⟩ : ∃ A, decide (d < 0 ∨ 4294967296 < d) = A := ⟨_, rfl⟩
  obtain ⟨A5, h5⟩ : ∃ A, decide (c = a) = A := ⟨_, rfl⟩
  obtain ⟨A6, h6⟩ : ∃ A, decide ((c = -1 ∧ d ≠ 0) ∨ (c ≠ -1 ∧ d = 0)) = A := ⟨_, rfl⟩
  obtain ⟨A7, h7⟩ : ∃ A, decide (b < d) = A := ⟨_, rfl⟩
  have HD := Lib.hid (show obj a b c d = [(A1, 3), (A2, 3), (A3, 3), (A4, 3), (A5, 2), (A6, 11), (A7, 9)] by unfold obj; rw [h1, h2, h3, h4, h5, h6, h7])
  have h6 := odd h6
  have h1 := two h1
  have h2 := two h2
  have h3 := two h3
  have h4 := two h4
  have g5 : (c == a) = A5 := by rw [← h5]; by_cases h : c = a <;> simp [h]
  clear h5
  go_enter Tryz.func123, Tryz.ntmps123
  go_upto_region 1 with fail
  go_cut [3] (fun s3 wx => ∃ g : Nat, s3 = .slice (some ⟨g, 0, none⟩) 7 7 ∧ Hid (Blk wx g (cellsO (obj a b c d)).toArray 214 ∧ Bel w wx))
  case first =>
    have BN := Lib.hid (Blk.new (w.alloc (.cells #[.int .i64 a, .int .i64 b, .int .i64 c, .int .i64 d] 37)) (cellsO (obj a b c d)).toArray 214)
    have BB := Lib.hid (((Bel.refl w).alloc (.cells #[.int .i64 a, .int .i64 b, .int .i64 c, .int .i64 d] 37)).alloc (.cells (cellsO (obj a b c d)).toArray 214))
    rw [HD.out] at BN BB
    rcases h1 with ⟨x1, rfl⟩ | ⟨x1, y1⟩ <;> rcases h2 with ⟨x2, rfl⟩ | ⟨x2, y2⟩ <;> rcases h3 with ⟨x3, rfl⟩ | ⟨x3, y3⟩ <;> rcases h4 with ⟨x4, rfl⟩ | ⟨x4, y4⟩
    all_goals
      go_wp2_with fail
      go_meet
      refine ⟨w.heap.size + 1, rfl, Lib.hid ⟨?_, ?_⟩⟩
      · rw [HD.out]; have := BN.out; rw [World.size_alloc] at this; exact this
      · exact BB.out
  case rest =>
    obtain ⟨g, rfl, hh⟩ := hcut
    have IX := Lib.hid (indexFunc g (obj a b c d) 7 wc rfl (by decide) hh.out.1)
    clear h1 h2 h3 h4 g5 h6 h7
    obtain ⟨I, hI⟩ : ∃ I, idx (obj a b c d) 0 = I := ⟨_, rfl⟩
    rw [hI] at IX HO
    clear hI
    go_wp2_with fail
    refine (IX.out).mono ?_
    rintro r w1 ⟨rfl, kb⟩
    have KB := Lib.hid (hh.out.2.trans kb)
    have BW := Lib.hid (hh.out.1.bel kb)
    clear kb IX
    rcases HO.out with ⟨rfl, rfl⟩ | ⟨i, hi, rfl, hx⟩
    · go_wp2_with fail
      go_ret
      exact ⟨rfl, KB.out⟩
    · obtain ⟨e0, e1⟩ := cellsO_at _ i _ _ hx
      have c1 : w1.cell? ⟨g, i * 2 + 1, none⟩ = some (.int .i64 E) := BW.out.cell _ (by rw [List.getElem?_toArray, Nat.mul_comm]; exact e1)
      have hi3 : (i : Int) < 7 := by omega
      clear hx e0 e1
      go_wp2_with fail
      go_ret
      exact ⟨rfl, KB.out⟩
end Sm
end Go.Proofs.YtneajcoiemkfbaaGreat
end

section
/-
  What stamp.New, Hop, Backed and Compare answer: any stamps, any numbers. No condition.
-/
namespace Go.Proofs.YtneajcoiemkfbaaGreat
open Go.RowKit Go.Shelf
set_option linter.unusedVariables false
namespace Sm
open Kk

/-- What a call tells that may refuse: a stamp if there is no error, else the zero one. -/
def orZ (e x : Int) : Int := if e = 0 then x else 0
abbrev ansV (e a b c d : Int) : Value := .tuple #[stV (orZ e a) (orZ e b) (orZ e c) (orZ e d), .int .i64 e]
theorem orZ_no {e : Int} (h : e ≠ 0) (x : Int) : orZ e x = 0 := if_neg h
theorem ans_no {e : Int} (h : e ≠ 0) (a b c d : Int) : ansV e a b c d = .tuple #[stV 0 0 0 0, .int .i64 e] := by
  show (Value.tuple #[.agg #[.int .i64 (orZ e a), .int .i64 (orZ e b), .int .i64 (orZ e c), .int .i64 (orZ e d)], .int .i64 e]) = _
  rw [orZ_no h, orZ_no h, orZ_no h, orZ_no h]
theorem info_st : (Tryz.prog.info? 37).map (·.size) = some 4 := by kernel_rfl
theorem load_st {w : World} {b : Nat} {a1 a2 a3 a4 : Int} (h : Blk w b #[.int .i64 a1, .int .i64 a2, .int .i64 a3, .int .i64 a4] 37) : (loadVar 37 ⟨b, 0, none⟩).run Tryz.prog w = .ok (stV a1 a2 a3 a4) w :=
  Pm.load_b (C := [.int .i64 a1, .int .i64 a2, .int .i64 a3, .int .i64 a4]) h Tryz.underlying37 rfl info_st

set_option maxHeartbeats 1000000 in
theorem checked (a b c d : Int) (w : World) : Calls Tryz.prog 178 #[stV a b c d] w fun r w' => r = .returned (ansV (ck a b c d) a b c d) ∧ Bel w w' := by
  have CK := Lib.hid (fun W => check a b c d W)
  obtain ⟨e, he⟩ : ∃ e, ck a b c d = e := ⟨_, rfl⟩
  rw [he] at CK ⊢
  clear he
  go_enter Tryz.func178, Tryz.ntmps178
  go_upto_region 1 with fail
  obtain ⟨W, hW⟩ : ∃ W, w.alloc (.cells #[.int .i64 a, .int .i64 b, .int .i64 c, .int .i64 d] 37) = W := ⟨_, rfl⟩
  have P0 : Blk W w.heap.size #[.int .i64 a, .int .i64 b, .int .i64 c, .int .i64 d] 37 := by rw [← hW]; exact Blk.new _ _ _
  have B0 : Bel w W := by rw [← hW]; exact (Bel.refl _).alloc _
  have S0 : W.heap.size = w.heap.size + 1 := by rw [← hW]; exact World.size_alloc _ _
  have Q0 := Blk.new W #[.int .i64 0, .int .i64 0, .int .i64 0, .int .i64 0] 37
  rw [S0] at Q0
  obtain ⟨V, hV⟩ : ∃ V, W.alloc (.cells #[.int .i64 0, .int .i64 0, .int .i64 0, .int .i64 0] 37) = V := ⟨_, rfl⟩
  have BV : Bel W V := by rw [← hV]; exact (Bel.refl _).alloc _
  rw [hV] at Q0
  obtain ⟨p, hp⟩ : ∃ p, w.heap.size = p := ⟨_, rfl⟩
  rw [hp] at P0 Q0
  have P1 := P0.bel BV
  have B1 := Lib.hid (B0.trans BV)
  have HP := Lib.hid hp
  rw [hW, hV, hp]
  clear hW hV hp P0 S0 BV B0
  have hpq : p ≠ p + 1 := by omega
  obtain ⟨q, hq⟩ : ∃ q, p + 1 = q := ⟨_, rfl⟩
  have HQ := Lib.hid (show w.heap.size ≤ q by have := HP.out; omega)
  rw [hq] at Q0 hpq ⊢
  clear hq
  have c0 := P1.cell 0 rfl
  have c1 := P1.cell 1 rfl
  have c2 := P1.cell 2 rfl
  have c3 := P1.cell 3 rfl
  have PP := Lib.hid P1
  have QQ := Lib.hid Q0
  clear P1 Q0
  go_wp2_with fail
  refine (CK.out _).mono ?_
  rintro r w1 ⟨rfl, kb⟩
  have K1 := Lib.hid (B1.out.trans kb)
  have P2 := PP.out.bel kb
  have Q2 := QQ.out.bel kb
  clear kb c0 c1 c2 c3
  have c0 := P2.cell 0 rfl
  have c1 := P2.cell 1 rfl
  have c2 := P2.cell 2 rfl
  have c3 := P2.cell 3 rfl
  have d0 := Q2.cell 0 rfl
  have d1 := Q2.cell 1 rfl
  have d2 := Q2.cell 2 rfl
  have d3 := Q2.cell 3 rfl
  have f0 := Q2.frozen 0
  have f1 := Q2.frozen 1
  have f2 := Q2.frozen 2
  have f3 := Q2.frozen 3
  have HQ2 := Lib.hid Q2
  clear P2 Q2
  by_cases he : e = 0
  · subst he
    go_wp2_with fail
    refine bodyPost_ret (Pm.res_ci rfl _ _ ⟨q, 0, none⟩ _ _ rfl rfl (load_st ((((HQ2.out.set 0 _).set 1 _).set 2 _).set 3 _))) rfl ⟨rfl, ?_⟩
    exact ((((K1.out.set HQ.out _).set HQ.out _).set HQ.out _).set HQ.out _)
  · have he1 : (e != 0) = true := by rw [bne_iff_ne]; exact he
    have HE := Lib.hid he
    clear he
    go_wp2_with fail
    refine bodyPost_ret (Pm.res_ci rfl _ _ ⟨q, 0, none⟩ _ _ rfl rfl (load_st ((((HQ2.out.set 0 _).set 1 _).set 2 _).set 3 _))) rfl ⟨?_, ?_⟩
    · rw [ans_no HE.out]; rfl
    · exact ((((K1.out.set HQ.out _).set HQ.out _).set HQ.out _).set HQ.out _)

set_option maxHeartbeats 1000000 in
theorem new (a b : Int) (w : World) : Calls Tryz.prog 121 #[.int .i64 a, .int .i64 b] w fun r w' => r = .returned (ansV (ck a b (-1) 0) a b (-1) 0) ∧ Bel w w' := by
  have CK := Lib.hid (fun W => checked a b (-1) 0 W)
  obtain ⟨e, he⟩ : ∃ e, ck a b (-1) 0 = e := ⟨_, rfl⟩
  rw [he] at CK ⊢
  clear he
  have HA := Lib.hid (show ansV e a b (-1) 0 = .tuple #[stV (orZ e a) (orZ e b) (orZ e (-1)) (orZ e 0), .int .i64 e] from rfl)
  obtain ⟨x1, h1⟩ : ∃ x, orZ e a = x := ⟨_, rfl⟩
  obtain ⟨x2, h2⟩ : ∃ x, orZ e b = x := ⟨_, rfl⟩
  obtain ⟨x3, h3⟩ : ∃ x, orZ e (-1) = x := ⟨_, rfl⟩
  obtain ⟨x4, h4⟩ : ∃ x, orZ e 0 = x := ⟨_, rfl⟩
  rw [h1, h2, h3, h4] at HA
  rw [HA.out] at CK ⊢
  clear h1 h2 h3 h4 HA
  have Q0 := Lib.hid (Blk.new w #[.int .i64 0, .int .i64 0, .int .i64 0, .int .i64 0] 37)
  have B0 := Lib.hid ((Bel.refl w).alloc (.cells #[.int .i64 0, .int .i64 0, .int .i64 0, .int .i64 0] 37))
  go_enter Tryz.func121, Tryz.ntmps121
  go_wp2_with fail
  obtain ⟨q, hq⟩ : ∃ q, w.heap.size = q := ⟨_, rfl⟩
  have HQ := Lib.hid hq
  rw [hq] at Q0 ⊢
  clear hq
  refine (CK.out _).mono ?_
  rintro r w1 ⟨rfl, kb⟩
  have K1 := Lib.hid (B0.out.trans kb)
  have Q2 := Q0.out.bel kb
  clear kb Q0 B0
  have d0 := Q2.cell 0 rfl
  have d1 := Q2.cell 1 rfl
  have d2 := Q2.cell 2 rfl
  have d3 := Q2.cell 3 rfl
  have f0 := Q2.frozen 0
  have f1 := Q2.frozen 1
  have f2 := Q2.frozen 2
  have f3 := Q2.frozen 3
  have HQ2 := Lib.hid Q2
  clear Q2
  go_wp2_with fail
  have HL : w.heap.size ≤ q := by rw [HQ.out]; exact Nat.le_refl _
  refine bodyPost_ret (Pm.res_ci rfl _ _ ⟨q, 0, none⟩ _ _ rfl rfl (load_st ((((HQ2.out.set 0 _).set 1 _).set 2 _).set 3 _))) rfl ⟨rfl, ?_⟩
  exact ((((K1.out.set HL _).set HL _).set HL _).set HL _)

/-- Why a lot may not hop. -/
def hopE (a b c d v h : Int) : Int := if ck a b c d = 0 then ck v h a b else ck a b c d
set_option maxHeartbeats 1000000 in
theorem hop (a b c d v h : Int) (w : World) : Calls Tryz.prog 122 #[stV a b c d, .int .i64 v, .int .i64 h] w fun r w' => r = .returned (ansV (hopE a b c d v h) v h a b) ∧ Bel w w' := by
  have CK := Lib.hid (fun W => check a b c d W)
  have CD := Lib.hid (fun W => checked v h a b W)
  have HE := Lib.hid (show hopE a b c d v h = if ck a b c d = 0 then ck v h a b else ck a b c d from rfl)
  obtain ⟨e, he⟩ : ∃ e, ck a b c d = e := ⟨_, rfl⟩
  obtain ⟨g, hg⟩ : ∃ g, ck v h a b = g := ⟨_, rfl⟩
  obtain ⟨i, hi⟩ : ∃ i, hopE a b c d v h = i := ⟨_, rfl⟩
  rw [he, hg, hi] at HE
  rw [he] at CK
  rw [hg] at CD
  rw [hi]
  clear he hg hi
  go_enter Tryz.func122, Tryz.ntmps122
  go_upto_region 1 with fail
  obtain ⟨W, hW⟩ : ∃ W, w.alloc (.cells #[.int .i64 a, .int .i64 b, .int .i64 c, .int .i64 d] 37) = W := ⟨_, rfl⟩
  have P0 : Blk W w.heap.size #[.int .i64 a, .int .i64 b, .int .i64 c, .int .i64 d] 37 := by rw [← hW]; exact Blk.new _ _ _
  have B0 : Bel w W := by rw [← hW]; exact (Bel.refl _).alloc _
  have S0 : W.heap.size = w.heap.size + 1 := by rw [← hW]; exact World.size_alloc _ _
  have Q0 := Blk.new W #[.int .i64 0, .int .i64 0, .int .i64 0, .int .i64 0] 37
  rw [S0] at Q0
  obtain ⟨V, hV⟩ : ∃ V, W.alloc (.cells #[.int .i64 0, .int .i64 0, .int .i64 0, .int .i64 0] 37) = V := ⟨_, rfl⟩
  have BV : Bel W V := by rw [← hV]; exact (Bel.refl _).alloc _
  rw [hV] at Q0
  obtain ⟨p, hp⟩ : ∃ p, w.heap.size = p := ⟨_, rfl⟩
  rw [hp] at P0 Q0
  have P1 := P0.bel BV
  have B1 := Lib.hid (B0.trans BV)
  have HP := Lib.hid hp
  rw [hW, hV, hp]
  clear hW hV hp P0 S0 BV B0
  have hpq : p ≠ p + 1 := by omega
  obtain ⟨q, hq⟩ : ∃ q, p + 1 = q := ⟨_, rfl⟩
  have HQ := Lib.hid (show w.heap.size ≤ q by have := HP.out; omega)
  rw [hq] at Q0 hpq ⊢
  clear hq
  have c0 := P1.cell 0 rfl
  have c1 := P1.cell 1 rfl
  have c2 := P1.cell 2 rfl
  have c3 := P1.cell 3 rfl
  have PP := Lib.hid P1
  have QQ := Lib.hid Q0
  clear P1 Q0
  go_wp2_with fail
  refine (CK.out _).mono ?_
  rintro r w1 ⟨rfl, kb⟩
  have K1 := Lib.hid (B1.out.trans kb)
  have PP := Lib.hid (PP.out.bel kb)
  have QQ := Lib.hid (QQ.out.bel kb)
  clear kb c0 c1 c2 c3
  by_cases he : e = 0
  · subst he
    obtain rfl : i = g := by rw [HE.out, if_pos rfl]
    have c0 := PP.out.cell 0 rfl
    have c1 := PP.out.cell 1 rfl
    have HA := Lib.hid (show ansV i v h a b = .tuple #[stV (orZ i v) (orZ i h) (orZ i a) (orZ i b), .int .i64 i] from rfl)
    obtain ⟨x1, h1⟩ : ∃ x, orZ i v = x := ⟨_, rfl⟩
    obtain ⟨x2, h2⟩ : ∃ x, orZ i h = x := ⟨_, rfl⟩
    obtain ⟨x3, h3⟩ : ∃ x, orZ i a = x := ⟨_, rfl⟩
    obtain ⟨x4, h4⟩ : ∃ x, orZ i b = x := ⟨_, rfl⟩
    rw [h1, h2, h3, h4] at HA
    rw [HA.out] at CD
    clear h1 h2 h3 h4
    go_wp2_with fail
    refine (CD.out _).mono ?_
    rintro r w2 ⟨rfl, kb⟩
    have K2 := Lib.hid (K1.out.trans kb)
    have Q2 := QQ.out.bel kb
    clear kb c0 c1
    have d0 := Q2.cell 0 rfl
    have d1 := Q2.cell 1 rfl
    have d2 := Q2.cell 2 rfl
    have d3 := Q2.cell 3 rfl
    have f0 := Q2.frozen 0
    have f1 := Q2.frozen 1
    have f2 := Q2.frozen 2
    have f3 := Q2.frozen 3
    have HQ2 := Lib.hid Q2
    clear Q2
    go_wp2_with fail
    refine bodyPost_ret (Pm.res_ci rfl _ _ ⟨q, 0, none⟩ _ _ rfl rfl (load_st ((((HQ2.out.set 0 _).set 1 _).set 2 _).set 3 _))) rfl ⟨by rw [HA.out]; rfl, ?_⟩
    exact ((((K2.out.set HQ.out _).set HQ.out _).set HQ.out _).set HQ.out _)
  · obtain rfl : i = e := by rw [HE.out, if_neg he]
    have he1 : (i != 0) = true := by rw [bne_iff_ne]; exact he
    have HN := Lib.hid he
    clear he
    have Q2 := QQ.out
    have d0 := Q2.cell 0 rfl
    have d1 := Q2.cell 1 rfl
    have d2 := Q2.cell 2 rfl
    have d3 := Q2.cell 3 rfl
    have f0 := Q2.frozen 0
    have f1 := Q2.frozen 1
    have f2 := Q2.frozen 2
    have f3 := Q2.frozen 3
    have HQ2 := Lib.hid Q2
    clear Q2
    go_wp2_with fail
    refine bodyPost_ret (Pm.res_ci rfl _ _ ⟨q, 0, none⟩ _ _ rfl rfl (load_st ((((HQ2.out.set 0 _).set 1 _).set 2 _).set 3 _))) rfl ⟨?_, ?_⟩
    · rw [ans_no HN.out]; rfl
    · exact ((((K1.out.set HQ.out _).set HQ.out _).set HQ.out _).set HQ.out _)

/-- The heights at which a lot backed v: from, to (none: 0, 0). -/
def hsF (a b c d v u : Int) : Int := if v = a then b else if v = c ∧ v ≠ -1 then d else 0
def hsL (a b c d v u : Int) : Int := if v = a then (if u < 1 then 9223372036854775807 else u) else if v = c ∧ v ≠ -1 then b else 0
theorem info_hs : (Tryz.prog.info? 162).map (·.size) = some 2 := by kernel_rfl
theorem load_hs {w : World} {b : Nat} {a1 a2 : Int} (h : Blk w b #[.int .i64 a1, .int .i64 a2] 162) : (loadVar 162 ⟨b, 0, none⟩).run Tryz.prog w = .ok (.agg #[.int .i64 a1, .int .i64 a2]) w :=
  Pm.load_b (C := [.int .i64 a1, .int .i64 a2]) h Tryz.underlying162 rfl info_hs

set_option maxHeartbeats 1000000 in
theorem backing (a b c d v u : Int) (w : World) : Calls Tryz.prog 124 #[stV a b c d, .int .i64 v, .int .i64 u] w fun r w' => r = .returned (.agg #[.int .i64 (hsF a b c d v u), .int .i64 (hsL a b c d v u)]) ∧ Bel w w' := by
  have HF := Lib.hid (show hsF a b c d v u = if v = a then b else if v = c ∧ v ≠ -1 then d else 0 from rfl)
  have HL := Lib.hid (show hsL a b c d v u = if v = a then (if u < 1 then 9223372036854775807 else u) else if v = c ∧ v ≠ -1 then b else 0 from rfl)
  obtain ⟨x, hx⟩ : ∃ x, hsF a b c d v u = x := ⟨_, rfl⟩
  obtain ⟨y, hy⟩ : ∃ y, hsL a b c d v u = y := ⟨_, rfl⟩
  rw [hx] at HF ⊢
  rw [hy] at HL ⊢
  clear hx hy
  go_enter Tryz.func124, Tryz.ntmps124
  go_upto_region 1 with fail
  obtain ⟨W, hW⟩ : ∃ W, w.alloc (.cells #[.int .i64 a, .int .i64 b, .int .i64 c, .int .i64 d] 37) = W := ⟨_, rfl⟩
  have P0 : Blk W w.heap.size #[.int .i64 a, .int .i64 b, .int .i64 c, .int .i64 d] 37 := by rw [← hW]; exact Blk.new _ _ _
  have B0 : Bel w W := by rw [← hW]; exact (Bel.refl _).alloc _
  have S0 : W.heap.size = w.heap.size + 1 := by rw [← hW]; exact World.size_alloc _ _
  have Q0 := Blk.new W #[.int .i64 0, .int .i64 0] 162
  rw [S0] at Q0
  obtain ⟨V, hV⟩ : ∃ V, W.alloc (.cells #[.int .i64 0, .int .i64 0] 162) = V := ⟨_, rfl⟩
  have BV : Bel W V := by rw [← hV]; exact (Bel.refl _).alloc _
  rw [hV] at Q0
  obtain ⟨p, hp⟩ : ∃ p, w.heap.size = p := ⟨_, rfl⟩
  rw [hp] at P0 Q0
  have P1 := P0.bel BV
  have B1 := Lib.hid (B0.trans BV)
  have HP := Lib.hid hp
  rw [hW, hV, hp]
  clear hW hV hp P0 S0 BV B0
  have hpq : p ≠ p + 1 := by omega
  obtain ⟨q, hq⟩ : ∃ q, p + 1 = q := ⟨_, rfl⟩
  have HQ := Lib.hid (show w.heap.size ≤ q by have := HP.out; omega)
  rw [hq] at Q0 hpq ⊢
  clear hq
  have c0 := P1.cell 0 rfl
  have c1 := P1.cell 1 rfl
  have c2 := P1.cell 2 rfl
  have c3 := P1.cell 3 rfl
  have d0 := Q0.cell 0 rfl
  have d1 := Q0.cell 1 rfl
  have f0 := Q0.frozen 0
  have f1 := Q0.frozen 1
  have PP := Lib.hid P1
  have QQ := Lib.hid Q0
  clear P1 Q0
  have fin : ∀ x' y', x' = x → y' = y → x' = x ∧ y' = y := fun _ _ h1 h2 => ⟨h1, h2⟩
  by_cases h1 : v = a
  · subst h1
    have h1 : (v == v) = true := beq_self_eq_true v
    by_cases h2 : u < 1
    · obtain rfl : x = b := by rw [HF.out, if_pos rfl]
      obtain rfl : y = 9223372036854775807 := by rw [HL.out, if_pos rfl, if_pos h2]
      have h2' : decide (u < 1) = true := decide_eq_true h2
      go_wp2_with fail
      refine bodyPost_ret (Pm.res_c rfl _ _ ⟨q, 0, none⟩ _ rfl (load_hs ((QQ.out.set 0 _).set 1 _))) rfl ⟨rfl, ?_⟩
      exact (B1.out.set HQ.out _).set HQ.out _
    · obtain rfl : x = b := by rw [HF.out, if_pos rfl]
      obtain rfl : y = u := by rw [HL.out, if_pos rfl, if_neg h2]
      have h2' : decide (y < 1) = false := decide_eq_false h2
      clear h2
      go_wp2_with fail
      refine bodyPost_ret (Pm.res_c rfl _ _ ⟨q, 0, none⟩ _ rfl (load_hs ((QQ.out.set 0 _).set 1 _))) rfl ⟨rfl, ?_⟩
      exact (B1.out.set HQ.out _).set HQ.out _
  · have h1' : (v == a) = false := beq_eq_false_iff_ne.2 h1
    by_cases h2 : v = c
    · subst h2
      have h2' : (v == v) = true := beq_self_eq_true v
      by_cases h3 : v = -1
      · obtain rfl : x = 0 := by rw [HF.out, if_neg h1, if_neg (fun h => h.2 h3)]
        obtain rfl : y = 0 := by rw [HL.out, if_neg h1, if_neg (fun h => h.2 h3)]
        subst h3
        clear h1
        go_wp2_with fail
        refine bodyPost_ret (Pm.res_c rfl _ _ ⟨q, 0, none⟩ _ rfl (load_hs ((QQ.out.set 0 _).set 1 _))) rfl ⟨rfl, ?_⟩
        exact (B1.out.set HQ.out _).set HQ.out _
      · obtain rfl : x = d := by rw [HF.out, if_neg h1, if_pos ⟨rfl, h3⟩]
        obtain rfl : y = b := by rw [HL.out, if_neg h1, if_pos ⟨rfl, h3⟩]
        have h3' : (v != -1) = true := by rw [bne_iff_ne]; exact h3
        clear h1 h3
        go_wp2_with fail
        refine bodyPost_ret (Pm.res_c rfl _ _ ⟨q, 0, none⟩ _ rfl (load_hs ((QQ.out.set 0 _).set 1 _))) rfl ⟨rfl, ?_⟩
        exact (B1.out.set HQ.out _).set HQ.out _
    · obtain rfl : x = 0 := by rw [HF.out, if_neg h1, if_neg (fun h => h2 h.1)]
      obtain rfl : y = 0 := by rw [HL.out, if_neg h1, if_neg (fun h => h2 h.1)]
      have h2' : (v == c) = false := beq_eq_false_iff_ne.2 h2
      clear h1 h2
      go_wp2_with fail
      refine bodyPost_ret (Pm.res_c rfl _ _ ⟨q, 0, none⟩ _ rfl (load_hs ((QQ.out.set 0 _).set 1 _))) rfl ⟨rfl, ?_⟩
      exact (B1.out.set HQ.out _).set HQ.out _

/-- Is a height among them? -/
def hasB (f l h : Int) : Bool := !((f == 0) && (l == 0)) && decide (f ≤ h) && decide (h ≤ l)
set_option maxHeartbeats 1000000 in
theorem has (f l h : Int) (w : World) : Calls Tryz.prog 125 #[.agg #[.int .i64 f, .int .i64 l], .int .i64 h] w fun r w' => r = .returned (.bool (hasB f l h)) ∧ Bel w w' := by
  have HB := Lib.hid (show hasB f l h = (!((f == 0) && (l == 0)) && decide (f ≤ h) && decide (h ≤ l)) from rfl)
  obtain ⟨x, hx⟩ : ∃ x, hasB f l h = x := ⟨_, rfl⟩
  rw [hx] at HB ⊢
  clear hx
  have B0 := Lib.hid ((Bel.refl w).alloc (.cells #[.int .i64 f, .int .i64 l] 162))
  by_cases f0 : f = 0
  · subst f0
    by_cases l0 : l = 0
    · subst l0
      obtain rfl : x = false := by rw [HB.out]; rfl
      go_enter Tryz.func125, Tryz.ntmps125
      go_wp2_with fail
      go_ret
      exact ⟨rfl, B0.out⟩
    · have l1 : (l == 0) = false := beq_eq_false_iff_ne.2 l0
      have HB := Lib.hid (show x = (decide (0 ≤ h) && decide (h ≤ l)) by rw [HB.out, l1]; rfl)
      go_enter Tryz.func125, Tryz.ntmps125
      by_cases hf : 0 ≤ h
      · have hf' : decide (0 ≤ h) = true := decide_eq_true hf
        have HB := Lib.hid (HB.out.trans (by rw [hf', Bool.true_and]))
        obtain ⟨y, hy⟩ : ∃ y, decide (h ≤ l) = y := ⟨_, rfl⟩
        rw [hy] at HB
        clear l0
        go_wp2_with fail
        go_ret
        exact ⟨by rw [HB.out]; rfl, B0.out⟩
      · have hf' : decide (0 ≤ h) = false := decide_eq_false hf
        obtain rfl : x = false := by rw [HB.out, hf']; rfl
        clear hf l0
        go_wp2_with fail
        go_ret
        exact ⟨rfl, B0.out⟩
  · have f1 : (f == 0) = false := beq_eq_false_iff_ne.2 f0
    have HB := Lib.hid (show x = (decide (f ≤ h) && decide (h ≤ l)) by rw [HB.out, f1]; rfl)
    go_enter Tryz.func125, Tryz.ntmps125
    by_cases hf : f ≤ h
    · have hf' : decide (f ≤ h) = true := decide_eq_true hf
      have HB := Lib.hid (HB.out.trans (by rw [hf', Bool.true_and]))
      obtain ⟨y, hy⟩ : ∃ y, decide (h ≤ l) = y := ⟨_, rfl⟩
      rw [hy] at HB
      clear f0 hf
      go_wp2_with fail
      go_ret
      exact ⟨by rw [HB.out]; rfl, B0.out⟩
    · have hf' : decide (f ≤ h) = false := decide_eq_false hf
      obtain rfl : x = false := by rw [HB.out, hf']; rfl
      clear hf f0
      go_wp2_with fail
      go_ret
      exact ⟨rfl, B0.out⟩

/-- Did a lot back v at h? -/
def bkB (a b c d v h u : Int) : Bool := decide (ck a b c d = 0) && hasB (hsF a b c d v u) (hsL a b c d v u) h
set_option maxHeartbeats 1000000 in
theorem backed (a b c d v h u : Int) (w : World) : Calls Tryz.prog 56 #[stV a b c d, .int .i64 v, .int .i64 h, .int .i64 u] w fun r w' => r = .returned (.bool (bkB a b c d v h u)) ∧ Bel w w' := by
  have CK := Lib.hid (fun W => check a b c d W)
  have BA := Lib.hid (fun W => backing a b c d v u W)
  have HB := Lib.hid (show bkB a b c d v h u = (decide (ck a b c d = 0) && hasB (hsF a b c d v u) (hsL a b c d v u) h) from rfl)
  obtain ⟨e, he⟩ : ∃ e, ck a b c d = e := ⟨_, rfl⟩
  obtain ⟨f, hf⟩ : ∃ f, hsF a b c d v u = f := ⟨_, rfl⟩
  obtain ⟨l, hl⟩ : ∃ l, hsL a b c d v u = l := ⟨_, rfl⟩
  have HA := Lib.hid (fun W => has f l h W)
  rw [hf, hl] at BA
  rw [he, hf, hl] at HB
  rw [he] at CK
  obtain ⟨x, hx⟩ : ∃ x, bkB a b c d v h u = x := ⟨_, rfl⟩
  obtain ⟨y, hy⟩ : ∃ y, hasB f l h = y := ⟨_, rfl⟩
  rw [hx, hy] at HB
  rw [hx]
  rw [hy] at HA
  clear he hf hl hx hy
  have B0 := Lib.hid ((Bel.refl w).alloc (.cells #[.int .i64 a, .int .i64 b, .int .i64 c, .int .i64 d] 37))
  have P0 := Lib.hid (Blk.new w #[.int .i64 a, .int .i64 b, .int .i64 c, .int .i64 d] 37)
  go_enter Tryz.func56, Tryz.ntmps56
  go_wp2_with fail
  refine (CK.out _).mono ?_
  rintro r w1 ⟨rfl, kb⟩
  obtain ⟨p, hp⟩ : ∃ p, w.heap.size = p := ⟨_, rfl⟩
  rw [hp] at P0 ⊢
  clear hp
  have PP := P0.out.bel kb
  have c0 := PP.cell 0 rfl
  have c1 := PP.cell 1 rfl
  have c2 := PP.cell 2 rfl
  have c3 := PP.cell 3 rfl
  have K1 := Lib.hid (B0.out.trans kb)
  clear kb PP B0 P0
  by_cases h0 : e = 0
  · subst h0
    obtain rfl : x = y := by rw [HB.out]; rfl
    go_wp2_with fail
    refine (BA.out _).mono ?_
    rintro r w2 ⟨rfl, kb⟩
    have K2 := Lib.hid (K1.out.trans kb)
    clear kb c0 c1 c2 c3
    go_wp2_with fail
    refine (HA.out _).mono ?_
    rintro r w3 ⟨rfl, kb⟩
    have K3 := Lib.hid (K2.out.trans kb)
    clear kb
    go_wp2_with fail
    go_ret
    exact ⟨rfl, K3.out⟩
  · have h1 : (e == 0) = false := beq_eq_false_iff_ne.2 h0
    obtain rfl : x = false := by rw [HB.out, decide_eq_false h0]; rfl
    clear h0
    go_wp2_with fail
    go_ret
    exact ⟨rfl, K1.out⟩
end Sm
end Go.Proofs.YtneajcoiemkfbaaGreat
end

section
/-
  What stamp.Compare answers: any two stamps. No condition.
-/
namespace Go.Proofs.YtneajcoiemkfbaaGreat
open Go.RowKit Go.Shelf
set_option linter.unusedVariables false
namespace Sm
open Kk

/-- The order of lists of pairs. -/
def cmpL : List (Int × Int) → Int
  | [] => 0
  | (x, y) :: l => if x < y then -1 else if y < x then 1 else cmpL l
def cmp (a b c d e f g h : Int) : Int := cmpL [(a, e), (b, f), (c, g), (d, h)]
def cellsP : List (Int × Int) → List Value
  | [] => []
  | (x, y) :: l => .int .i64 x :: .int .i64 y :: cellsP l
theorem cellsP_at : ∀ (l : List (Int × Int)) (i : Nat) (x y : Int), l[i]? = some (x, y) → (cellsP l)[2 * i]? = some (.int .i64 x) ∧ (cellsP l)[2 * i + 1]? = some (.int .i64 y)
  | [], i, x, y, h => by simp at h
  | (p, q) :: l, 0, x, y, h => by simp at h; obtain ⟨rfl, rfl⟩ := h; exact ⟨rfl, rfl⟩
  | (p, q) :: l, i + 1, x, y, h => by
    have := cellsP_at l i x y (by simpa using h)
    rw [show 2 * (i + 1) = 2 * i + 1 + 1 by omega]
    exact this
theorem cmpL_skip : ∀ (l : List (Int × Int)) (i : Nat), (∀ (j : Nat) (x y : Int), j < i → l[j]? = some (x, y) → x = y) → cmpL l = cmpL (l.drop i)
  | l, 0, _ => rfl
  | [], i + 1, _ => rfl
  | (p, q) :: l, i + 1, hb => by
    obtain rfl : p = q := hb 0 p q (by omega) rfl
    show (if p < p then (-1 : Int) else if p < p then 1 else cmpL l) = cmpL (l.drop i)
    rw [if_neg (by omega), if_neg (by omega)]
    exact cmpL_skip l i (fun j x y hj hl => hb (j + 1) x y (by omega) (by simpa using hl))
theorem cmpL_at (l : List (Int × Int)) (i : Nat) (x y : Int) (h : l[i]? = some (x, y)) : cmpL (l.drop i) = if x < y then -1 else if y < x then 1 else cmpL (l.drop (i + 1)) := by
  obtain ⟨hi, h2⟩ := List.getElem?_eq_some_iff.1 h
  rw [List.drop_eq_getElem_cons hi, h2]
  rfl

set_option maxRecDepth 10000 in
set_option maxHeartbeats 2000000 in
theorem compare (a b c d e f g h : Int) (w : World) : Calls Tryz.prog 181 #[stV a b c d, stV e f g h] w fun r w' => r = .returned (.int .i64 (cmp a b c d e f g h)) ∧ Bel w w' := by
  have HC := Lib.hid (show cmp a b c d e f g h = cmpL [(a, e), (b, f), (c, g), (d, h)] from rfl)
  have PN := Lib.hid (Blk.new ((w.alloc (.cells #[.int .i64 a, .int .i64 b, .int .i64 c, .int .i64 d] 37)).alloc (.cells #[.int .i64 e, .int .i64 f, .int .i64 g, .int .i64 h] 37)) (cellsP [(a, e), (b, f), (c, g), (d, h)]).toArray 241)
  have BN := Lib.hid ((((Bel.refl w).alloc (.cells #[.int .i64 a, .int .i64 b, .int .i64 c, .int .i64 d] 37)).alloc (.cells #[.int .i64 e, .int .i64 f, .int .i64 g, .int .i64 h] 37)).alloc (.cells (cellsP [(a, e), (b, f), (c, g), (d, h)]).toArray 241))
  go_enter Tryz.func181, Tryz.ntmps181
  obtain ⟨l, hl⟩ : ∃ l, [(a, e), (b, f), (c, g), (d, h)] = l := ⟨_, rfl⟩
  have H4 := Lib.hid (show l.length = 4 by rw [← hl]; rfl)
  rw [hl] at HC
  have HLL := Lib.hid hl
  clear hl
  go_wp2_with fail
  go_step3
  go_wp2_with fail
  go_step3
  go_wp2_with fail
  go_loopw [4, 29] (fun s4 s29 wr => ∃ k : Nat, s29 = .int .i64 k ∧ k ≤ 4 ∧ s4 = .int .i64 0 ∧ Hid ((∀ (j : Nat) (x y : Int), j < k → l[j]? = some (x, y) → x = y) ∧ Bel w wr ∧ Blk wr (w.heap.size + 2) (cellsP l).toArray 241)) (fun _ s29 _ => 4 - (intOf s29).toNat)
  case atStart =>
    refine ⟨0, rfl, by omega, rfl, Lib.hid ⟨fun j x y hj => absurd hj (by omega), ?_, ?_⟩⟩
    · exact BN.out
    · rw [← HLL.out]; have := PN.out; rw [World.size_alloc, World.size_alloc] at this; exact this
  case round =>
    obtain ⟨k, rfl, hk, rfl, hh⟩ := hrel
    by_cases hlt : k < 4
    · obtain ⟨x, y, hxy⟩ : ∃ x y, l[k]? = some (x, y) := by
        have : k < l.length := by rw [H4.out]; exact hlt
        exact ⟨l[k].1, l[k].2, List.getElem?_eq_getElem this⟩
      have HXY := Lib.hid hxy
      obtain ⟨e0, e1⟩ := cellsP_at l k x y hxy
      have c0 : wr.cell? ⟨w.heap.size + 2, k * 2, none⟩ = some (.int .i64 x) := hh.out.2.2.cell _ (by rw [List.getElem?_toArray, Nat.mul_comm]; exact e0)
      have c1 : wr.cell? ⟨w.heap.size + 2, k * 2 + 1, none⟩ = some (.int .i64 y) := hh.out.2.2.cell _ (by rw [List.getElem?_toArray, Nat.mul_comm]; exact e1)
      have hlt3 : (k : Int) < 4 := by omega
      have CM := Lib.hid ((cmpL_skip l k hh.out.1).trans (cmpL_at l k x y hxy))
      clear hxy e0 e1
      by_cases h1 : x < y
      · have CM := Lib.hid (CM.out.trans (if_pos h1))
        go_wp2_with fail
        rw [Exit.noGoto_ret]
        go_ret
        exact ⟨by rw [HC.out, CM.out]; rfl, hh.out.2.1.alloc _⟩
      · by_cases h2 : y < x
        · have CM := Lib.hid (CM.out.trans ((if_neg h1).trans (if_pos h2)))
          go_wp2_with fail
          go_ret
          exact ⟨by rw [HC.out, CM.out]; rfl, hh.out.2.1.alloc _⟩
        · obtain rfl : x = y := by omega
          clear h1 h2
          go_wp2_with fail
          go_roundw
          case rel =>
            refine ⟨k + 1, by go_num, by omega, rfl, Lib.hid ⟨fun j u v hj hu => ?_, hh.out.2.1.alloc _, hh.out.2.2.alloc _⟩⟩
            rcases Nat.lt_or_ge j k with h' | h'
            · exact hh.out.1 j u v h' hu
            · obtain rfl : j = k := by omega
              have := HXY.out.symm.trans hu
              simp at this
              rw [← this.1, ← this.2]
          case measure => simp [intOf]; omega
    · obtain rfl : k = 4 := by omega
      have CM := Lib.hid (cmpL_skip l 4 hh.out.1)
      rw [show l.drop 4 = [] from List.drop_eq_nil_of_le (by rw [H4.out]; omega)] at CM
      go_wp2_with fail
      (try rw [Exit.noGoto_ret])
      go_ret
      exact ⟨by rw [HC.out, CM.out]; rfl, hh.out.2.1⟩
end Sm
end Go.Proofs.YtneajcoiemkfbaaGreat
end
