/-
  Texts of this claim, put together: Sm1, Sm1b, Sm2. What each one says, and under which conditions, stands ahead of it.
-/
import Derived.BigQuiet
import Derived.Deep.QuietTactic
import Derived.Laws.StructEq
import Derived.WalkMore
import Derived.Test.YtdpompponngmdaaGSm0c
import Derived.Test.YtdpompponngmdaaWA
import Derived.Test.YtdpompponngmdaaHA

section
/-
  What stamp.New, Hop, Backed and Compare answer: any stamps, any numbers. No condition.
-/
namespace Go.Proofs.Ytdpompponngmdaa
open Go.RowKit Go.Shelf
set_option linter.unusedVariables false
namespace Sm
open Kk

/-- What a call tells that may refuse: a stamp if there is no error, else the zero one. -/
def orZ (e x : Int) : Int := if e = 0 then x else 0
abbrev ansV (e a b c d : Int) : Value := .tuple #[stV (orZ e a) (orZ e b) (orZ e c) (orZ e d), .int .i64 e]
theorem orZ_ok (x : Int) : orZ 0 x = x := rfl
theorem orZ_no {e : Int} (h : e ≠ 0) (x : Int) : orZ e x = 0 := if_neg h
theorem ans_no {e : Int} (h : e ≠ 0) (a b c d : Int) : ansV e a b c d = .tuple #[stV 0 0 0 0, .int .i64 e] := by
  show (Value.tuple #[.agg #[.int .i64 (orZ e a), .int .i64 (orZ e b), .int .i64 (orZ e c), .int .i64 (orZ e d)], .int .i64 e]) = _
  rw [orZ_no h, orZ_no h, orZ_no h, orZ_no h]
theorem info_st : (Try.prog.info? 24).map (·.size) = some 4 := by kernel_rfl
theorem load_st {w : World} {b : Nat} {a1 a2 a3 a4 : Int} (h : Blk w b #[.int .i64 a1, .int .i64 a2, .int .i64 a3, .int .i64 a4] 24) : (loadVar 24 ⟨b, 0, none⟩).run Try.prog w = .ok (stV a1 a2 a3 a4) w :=
  Pm.load_b (C := [.int .i64 a1, .int .i64 a2, .int .i64 a3, .int .i64 a4]) h Try.underlying24 rfl info_st

/-- Why a lot may not hop. -/
def hopE (a b c d v h : Int) : Int := if ck a b c d = 0 then ck v h a b else ck a b c d
/-- The heights at which a lot backed v: from, to (none: 0, 0). -/
def hsF (a b c d v u : Int) : Int := if v = a then b else if v = c ∧ v ≠ -1 then d else 0
def hsL (a b c d v u : Int) : Int := if v = a then (if u < 1 then 9223372036854775807 else u) else if v = c ∧ v ≠ -1 then b else 0
theorem info_hs : (Try.prog.info? 98).map (·.size) = some 2 := by kernel_rfl
theorem load_hs {w : World} {b : Nat} {a1 a2 : Int} (h : Blk w b #[.int .i64 a1, .int .i64 a2] 98) : (loadVar 98 ⟨b, 0, none⟩).run Try.prog w = .ok (.agg #[.int .i64 a1, .int .i64 a2]) w :=
  Pm.load_b (C := [.int .i64 a1, .int .i64 a2]) h Try.underlying98 rfl info_hs

set_option maxHeartbeats 1000000 in
theorem backing (a b c d v u : Int) (w : World) : Calls Try.prog 69 #[stV a b c d, .int .i64 v, .int .i64 u] w fun r w' => r = .returned (.agg #[.int .i64 (hsF a b c d v u), .int .i64 (hsL a b c d v u)]) ∧ Bel w w' := by
  have HF := Lib.hid (show hsF a b c d v u = if v = a then b else if v = c ∧ v ≠ -1 then d else 0 from rfl)
  have HL := Lib.hid (show hsL a b c d v u = if v = a then (if u < 1 then 9223372036854775807 else u) else if v = c ∧ v ≠ -1 then b else 0 from rfl)
  obtain ⟨x, hx⟩ : ∃ x, hsF a b c d v u = x := ⟨_, rfl⟩
  obtain ⟨y, hy⟩ : ∃ y, hsL a b c d v u = y := ⟨_, rfl⟩
  rw [hx] at HF ⊢
  rw [hy] at HL ⊢
  clear hx hy
  go_enter Try.func69, Try.ntmps69
  go_upto_region 1 with fail
  obtain ⟨W, hW⟩ : ∃ W, w.alloc (.cells #[.int .i64 a, .int .i64 b, .int .i64 c, .int .i64 d] 24) = W := ⟨_, rfl⟩
  have P0 : Blk W w.heap.size #[.int .i64 a, .int .i64 b, .int .i64 c, .int .i64 d] 24 := by rw [← hW]; exact Blk.new _ _ _
  have B0 : Bel w W := by rw [← hW]; exact (Bel.refl _).alloc _
  have S0 : W.heap.size = w.heap.size + 1 := by rw [← hW]; exact World.size_alloc _ _
  have Q0 := Blk.new W #[.int .i64 0, .int .i64 0] 98
  rw [S0] at Q0
  obtain ⟨V, hV⟩ : ∃ V, W.alloc (.cells #[.int .i64 0, .int .i64 0] 98) = V := ⟨_, rfl⟩
  have BV : Bel W V := by rw [← hV]; exact (Bel.refl _).alloc _
  rw [hV] at Q0
  obtain ⟨p, hp⟩ : ∃ p, w.heap.size = p := ⟨_, rfl⟩
  rw [hp] at P0 Q0
  have P1 := P0.bel BV
  have B1 := Lib.hid (B0.trans BV)
  have HP := Lib.hid hp
  rw [hW, hV, hp]
  clear hW hV hp P0 S0 BV B0
  have hpq : p ≠ p + 1 := by omega
  obtain ⟨q, hq⟩ : ∃ q, p + 1 = q := ⟨_, rfl⟩
  have HQ := Lib.hid (show w.heap.size ≤ q by have := HP.out; omega)
  rw [hq] at Q0 hpq ⊢
  clear hq
  have c0 := P1.cell 0 rfl
  have c1 := P1.cell 1 rfl
  have c2 := P1.cell 2 rfl
  have c3 := P1.cell 3 rfl
  have d0 := Q0.cell 0 rfl
  have d1 := Q0.cell 1 rfl
  have f0 := Q0.frozen 0
  have f1 := Q0.frozen 1
  have PP := Lib.hid P1
  have QQ := Lib.hid Q0
  clear P1 Q0
  have fin : ∀ x' y', x' = x → y' = y → x' = x ∧ y' = y := fun _ _ h1 h2 => ⟨h1, h2⟩
  by_cases h1 : v = a
  · subst h1
    have h1 : (v == v) = true := beq_self_eq_true v
    by_cases h2 : u < 1
    · obtain rfl : x = b := by rw [HF.out, if_pos rfl]
      obtain rfl : y = 9223372036854775807 := by rw [HL.out, if_pos rfl, if_pos h2]
      have h2' : decide (u < 1) = true := decide_eq_true h2
      go_wp2_with fail
      refine bodyPost_ret (Pm.res_c rfl _ _ ⟨q, 0, none⟩ _ rfl (load_hs ((QQ.out.set 0 _).set 1 _))) rfl ⟨rfl, ?_⟩
      exact (B1.out.set HQ.out _).set HQ.out _
    · obtain rfl : x = b := by rw [HF.out, if_pos rfl]
      obtain rfl : y = u := by rw [HL.out, if_pos rfl, if_neg h2]
      have h2' : decide (y < 1) = false := decide_eq_false h2
      clear h2
      go_wp2_with fail
      refine bodyPost_ret (Pm.res_c rfl _ _ ⟨q, 0, none⟩ _ rfl (load_hs ((QQ.out.set 0 _).set 1 _))) rfl ⟨rfl, ?_⟩
      exact (B1.out.set HQ.out _).set HQ.out _
  · have h1' : (v == a) = false := beq_eq_false_iff_ne.2 h1
    by_cases h2 : v = c
    · subst h2
      have h2' : (v == v) = true := beq_self_eq_true v
      by_cases h3 : v = -1
      · obtain rfl : x = 0 := by rw [HF.out, if_neg h1, if_neg (fun h => h.2 h3)]
        obtain rfl : y = 0 := by rw [HL.out, if_neg h1, if_neg (fun h => h.2 h3)]
        subst h3
        clear h1
        go_wp2_with fail
        refine bodyPost_ret (Pm.res_c rfl _ _ ⟨q, 0, none⟩ _ rfl (load_hs ((QQ.out.set 0 _).set 1 _))) rfl ⟨rfl, ?_⟩
        exact (B1.out.set HQ.out _).set HQ.out _
      · obtain rfl : x = d := by rw [HF.out, if_neg h1, if_pos ⟨rfl, h3⟩]
        obtain rfl : y = b := by rw [HL.out, if_neg h1, if_pos ⟨rfl, h3⟩]
        have h3' : (v != -1) = true := by rw [bne_iff_ne]; exact h3
        clear h1 h3
        go_wp2_with fail
        refine bodyPost_ret (Pm.res_c rfl _ _ ⟨q, 0, none⟩ _ rfl (load_hs ((QQ.out.set 0 _).set 1 _))) rfl ⟨rfl, ?_⟩
        exact (B1.out.set HQ.out _).set HQ.out _
    · obtain rfl : x = 0 := by rw [HF.out, if_neg h1, if_neg (fun h => h2 h.1)]
      obtain rfl : y = 0 := by rw [HL.out, if_neg h1, if_neg (fun h => h2 h.1)]
      have h2' : (v == c) = false := beq_eq_false_iff_ne.2 h2
      clear h1 h2
      go_wp2_with fail
      refine bodyPost_ret (Pm.res_c rfl _ _ ⟨q, 0, none⟩ _ rfl (load_hs ((QQ.out.set 0 _).set 1 _))) rfl ⟨rfl, ?_⟩
      exact (B1.out.set HQ.out _).set HQ.out _

/-- Is a height among them? -/
def hasB (f l h : Int) : Bool := !((f == 0) && (l == 0)) && decide (f ≤ h) && decide (h ≤ l)
set_option maxHeartbeats 1000000 in
theorem has (f l h : Int) (w : World) : Calls Try.prog 70 #[.agg #[.int .i64 f, .int .i64 l], .int .i64 h] w fun r w' => r = .returned (.bool (hasB f l h)) ∧ Bel w w' := by
  have HB := Lib.hid (show hasB f l h = (!((f == 0) && (l == 0)) && decide (f ≤ h) && decide (h ≤ l)) from rfl)
  obtain ⟨x, hx⟩ : ∃ x, hasB f l h = x := ⟨_, rfl⟩
  rw [hx] at HB ⊢
  clear hx
  have B0 := Lib.hid ((Bel.refl w).alloc (.cells #[.int .i64 f, .int .i64 l] 98))
  by_cases f0 : f = 0
  · subst f0
    by_cases l0 : l = 0
    · subst l0
      obtain rfl : x = false := by rw [HB.out]; rfl
      go_enter Try.func70, Try.ntmps70
      go_wp2_with fail
      go_ret
      exact ⟨rfl, B0.out⟩
    · have l1 : (l == 0) = false := beq_eq_false_iff_ne.2 l0
      have HB := Lib.hid (show x = (decide (0 ≤ h) && decide (h ≤ l)) by rw [HB.out, l1]; rfl)
      go_enter Try.func70, Try.ntmps70
      by_cases hf : 0 ≤ h
      · have hf' : decide (0 ≤ h) = true := decide_eq_true hf
        have HB := Lib.hid (HB.out.trans (by rw [hf', Bool.true_and]))
        obtain ⟨y, hy⟩ : ∃ y, decide (h ≤ l) = y := ⟨_, rfl⟩
        rw [hy] at HB
        clear l0
        go_wp2_with fail
        go_ret
        exact ⟨by rw [HB.out]; rfl, B0.out⟩
      · have hf' : decide (0 ≤ h) = false := decide_eq_false hf
        obtain rfl : x = false := by rw [HB.out, hf']; rfl
        clear hf l0
        go_wp2_with fail
        go_ret
        exact ⟨rfl, B0.out⟩
  · have f1 : (f == 0) = false := beq_eq_false_iff_ne.2 f0
    have HB := Lib.hid (show x = (decide (f ≤ h) && decide (h ≤ l)) by rw [HB.out, f1]; rfl)
    go_enter Try.func70, Try.ntmps70
    by_cases hf : f ≤ h
    · have hf' : decide (f ≤ h) = true := decide_eq_true hf
      have HB := Lib.hid (HB.out.trans (by rw [hf', Bool.true_and]))
      obtain ⟨y, hy⟩ : ∃ y, decide (h ≤ l) = y := ⟨_, rfl⟩
      rw [hy] at HB
      clear f0 hf
      go_wp2_with fail
      go_ret
      exact ⟨by rw [HB.out]; rfl, B0.out⟩
    · have hf' : decide (f ≤ h) = false := decide_eq_false hf
      obtain rfl : x = false := by rw [HB.out, hf']; rfl
      clear hf f0
      go_wp2_with fail
      go_ret
      exact ⟨rfl, B0.out⟩

/-- Did a lot back v at h? -/
def bkB (a b c d v h u : Int) : Bool := decide (ck a b c d = 0) && hasB (hsF a b c d v u) (hsL a b c d v u) h
set_option maxHeartbeats 1000000 in
theorem backed (a b c d v h u : Int) (w : World) : Calls Try.prog 40 #[stV a b c d, .int .i64 v, .int .i64 h, .int .i64 u] w fun r w' => r = .returned (.bool (bkB a b c d v h u)) ∧ Bel w w' := by
  have CK := Lib.hid (fun W => check a b c d W)
  have BA := Lib.hid (fun W => backing a b c d v u W)
  have HB := Lib.hid (show bkB a b c d v h u = (decide (ck a b c d = 0) && hasB (hsF a b c d v u) (hsL a b c d v u) h) from rfl)
  obtain ⟨e, he⟩ : ∃ e, ck a b c d = e := ⟨_, rfl⟩
  obtain ⟨f, hf⟩ : ∃ f, hsF a b c d v u = f := ⟨_, rfl⟩
  obtain ⟨l, hl⟩ : ∃ l, hsL a b c d v u = l := ⟨_, rfl⟩
  have HA := Lib.hid (fun W => has f l h W)
  rw [hf, hl] at BA
  rw [he, hf, hl] at HB
  rw [he] at CK
  obtain ⟨x, hx⟩ : ∃ x, bkB a b c d v h u = x := ⟨_, rfl⟩
  obtain ⟨y, hy⟩ : ∃ y, hasB f l h = y := ⟨_, rfl⟩
  rw [hx, hy] at HB
  rw [hx]
  rw [hy] at HA
  clear he hf hl hx hy
  have B0 := Lib.hid ((Bel.refl w).alloc (.cells #[.int .i64 a, .int .i64 b, .int .i64 c, .int .i64 d] 24))
  have P0 := Lib.hid (Blk.new w #[.int .i64 a, .int .i64 b, .int .i64 c, .int .i64 d] 24)
  go_enter Try.func40, Try.ntmps40
  go_wp2_with fail
  refine (CK.out _).mono ?_
  rintro r w1 ⟨rfl, kb⟩
  obtain ⟨p, hp⟩ : ∃ p, w.heap.size = p := ⟨_, rfl⟩
  rw [hp] at P0 ⊢
  clear hp
  have PP := P0.out.bel kb
  have c0 := PP.cell 0 rfl
  have c1 := PP.cell 1 rfl
  have c2 := PP.cell 2 rfl
  have c3 := PP.cell 3 rfl
  have K1 := Lib.hid (B0.out.trans kb)
  clear kb PP B0 P0
  by_cases h0 : e = 0
  · subst h0
    obtain rfl : x = y := by rw [HB.out]; rfl
    go_wp2_with fail
    refine (BA.out _).mono ?_
    rintro r w2 ⟨rfl, kb⟩
    have K2 := Lib.hid (K1.out.trans kb)
    clear kb c0 c1 c2 c3
    go_wp2_with fail
    refine (HA.out _).mono ?_
    rintro r w3 ⟨rfl, kb⟩
    have K3 := Lib.hid (K2.out.trans kb)
    clear kb
    go_wp2_with fail
    go_ret
    exact ⟨rfl, K3.out⟩
  · have h1 : (e == 0) = false := beq_eq_false_iff_ne.2 h0
    obtain rfl : x = false := by rw [HB.out, decide_eq_false h0]; rfl
    clear h0
    go_wp2_with fail
    go_ret
    exact ⟨rfl, K1.out⟩
end Sm
end Go.Proofs.Ytdpompponngmdaa
end

section
/-
  What stamp.Compare answers: any two stamps. No condition.
-/
namespace Go.Proofs.Ytdpompponngmdaa
open Go.RowKit Go.Shelf
set_option linter.unusedVariables false
namespace Sm
open Kk

/-- The order of lists of pairs. -/
def cmpL : List (Int × Int) → Int
  | [] => 0
  | (x, y) :: l => if x < y then -1 else if y < x then 1 else cmpL l
def cmp (a b c d e f g h : Int) : Int := cmpL [(a, e), (b, f), (c, g), (d, h)]
def cellsP : List (Int × Int) → List Value
  | [] => []
  | (x, y) :: l => .int .i64 x :: .int .i64 y :: cellsP l
theorem cellsP_at : ∀ (l : List (Int × Int)) (i : Nat) (x y : Int), l[i]? = some (x, y) → (cellsP l)[2 * i]? = some (.int .i64 x) ∧ (cellsP l)[2 * i + 1]? = some (.int .i64 y)
  | [], i, x, y, h => by simp at h
  | (p, q) :: l, 0, x, y, h => by simp at h; obtain ⟨rfl, rfl⟩ := h; exact ⟨rfl, rfl⟩
  | (p, q) :: l, i + 1, x, y, h => by
    have := cellsP_at l i x y (by simpa using h)
    rw [show 2 * (i + 1) = 2 * i + 1 + 1 by omega]
    exact this
theorem cmpL_skip : ∀ (l : List (Int × Int)) (i : Nat), (∀ (j : Nat) (x y : Int), j < i → l[j]? = some (x, y) → x = y) → cmpL l = cmpL (l.drop i)
  | l, 0, _ => rfl
  | [], i + 1, _ => rfl
  | (p, q) :: l, i + 1, hb => by
    obtain rfl : p = q := hb 0 p q (by omega) rfl
    show (if p < p then (-1 : Int) else if p < p then 1 else cmpL l) = cmpL (l.drop i)
    rw [if_neg (by omega), if_neg (by omega)]
    exact cmpL_skip l i (fun j x y hj hl => hb (j + 1) x y (by omega) (by simpa using hl))
theorem cmpL_at (l : List (Int × Int)) (i : Nat) (x y : Int) (h : l[i]? = some (x, y)) : cmpL (l.drop i) = if x < y then -1 else if y < x then 1 else cmpL (l.drop (i + 1)) := by
  obtain ⟨hi, h2⟩ := List.getElem?_eq_some_iff.1 h
  rw [List.drop_eq_getElem_cons hi, h2]
  rfl

end Sm
end Go.Proofs.Ytdpompponngmdaa
end

section
/-
  What stamp.Put makes of any writer, and what stamp.Bytes answers. Conditions: the writer is one that NewWriter made, or none.
-/
namespace Go.Proofs.Ytdpompponngmdaa
open Go.RowKit Go.Shelf
set_option linter.unusedVariables false
namespace Sm
open Cd

/-- A stamp's bytes. -/
def enc4 (a b c d : Int) : List Int := enc a ++ enc b ++ enc (c + 1) ++ enc d
/-- What a writer is behind a stamp. -/
def put4 (L : Int) (s : List Int × Int) (a b c d : Int) : List Int × Int :=
  if ck a b c d = 0 then stp L (stp L (stp L (stp L s (enc a)) (enc b)) (enc (c + 1))) (enc d) else s
theorem ck_ok {a b c d : Int} (h : ck a b c d = 0) : 0 ≤ a ∧ a ≤ 31 ∧ 1 ≤ b ∧ b ≤ 4294967296 ∧ -1 ≤ c ∧ c ≤ 31 ∧ 0 ≤ d ∧ d ≤ 4294967296 ∧ c ≠ a ∧ ((c = -1 ∧ d = 0) ∨ (c ≠ -1 ∧ d ≠ 0)) ∧ d ≤ b := by
  unfold ck at h
  split at h
  · cases h
  split at h
  · cases h
  split at h
  · cases h
  split at h
  · cases h
  omega

set_option maxHeartbeats 1000000 in
theorem refusal (b : Nat) (L : Int) (v : Value) (s : List Int × Int) (base : Nat) (e : Int) (w : World) (h : WS w b L v s.2 s.1 base) (h1 : s.2 ≠ 1) :
    Calls Try.prog 81 #[.pointer (some ⟨b, 0, none⟩), .int .i64 e] w fun r w' => r = .returned (.int .i64 e) ∧ Bel w w' := by
  obtain ⟨out, f⟩ := s
  by_cases hf : f = 0
  · subst hf
    have DN := Lib.hid (wdone b L v out base w h)
    clear h h1
    go_enter Try.func81, Try.ntmps81
    go_wp2_with fail
    refine (DN.out).mono ?_
    rintro r w1 ⟨u, rfl, hu⟩
    have KB := Lib.hid hu.2
    clear hu
    go_wp2_with fail
    go_ret
    exact ⟨rfl, KB.out⟩
  · have DN := Lib.hid (wdone_err b L v f out base w h hf)
    have f1 : (f == 1) = false := beq_eq_false_iff_ne.2 h1
    clear h h1 hf
    go_enter Try.func81, Try.ntmps81
    go_wp2_with fail
    refine (DN.out).mono ?_
    rintro r w1 ⟨rfl, rfl⟩
    go_wp2_with fail
    go_ret
    exact ⟨rfl, Bel.refl _⟩
theorem refusal0 (v : Value) (e : Int) (w : World) (h : Null w v) :
    Calls Try.prog 81 #[v, .int .i64 e] w fun r w' => r = .returned (.int .i64 1) ∧ Bel w w' := by
  have DN := Lib.hid (wDone0 v w h)
  clear h
  go_enter Try.func81, Try.ntmps81
  go_wp2_with fail
  refine (DN.out).mono ?_
  rintro r w1 ⟨rfl, rfl⟩
  go_wp2_with fail
  go_ret
  exact ⟨rfl, Bel.refl _⟩

set_option maxRecDepth 10000 in
set_option maxHeartbeats 2000000 in
theorem put (b : Nat) (L : Int) (v : Value) (s : List Int × Int) (base : Nat) (x1 x2 x3 x4 : Int) (w : World) (h : WS w b L v s.2 s.1 base) (h1 : s.2 ≠ 1) :
    Calls Try.prog 62 #[.pointer (some ⟨b, 0, none⟩), stV x1 x2 x3 x4] w fun r w' => r = .returned (.int .i64 (if ck x1 x2 x3 x4 = 0 then (put4 L s x1 x2 x3 x4).2 else ck x1 x2 x3 x4)) ∧
      ∃ v', WS w' b L v' (put4 L s x1 x2 x3 x4).2 (put4 L s x1 x2 x3 x4).1 base ∧ Lies w v v' ∧ Kep (Own2 b v) w w' := by
  have CK := Lib.hid (fun W => check x1 x2 x3 x4 W)
  have P0 := Lib.hid (Blk.new w #[.int .i64 x1, .int .i64 x2, .int .i64 x3, .int .i64 x4] 24)
  have B0 := Lib.hid ((Bel.refl w).alloc (.cells #[.int .i64 x1, .int .i64 x2, .int .i64 x3, .int .i64 x4] 24))
  have H := Lib.hid h
  have hbl := h.blk.lt
  have hrl := h.row_lt
  have HBL := Lib.hid hbl
  have HRL := Lib.hid hrl
  clear h hbl hrl
  obtain ⟨p, hp⟩ : ∃ p, w.heap.size = p := ⟨_, rfl⟩
  obtain ⟨W, hW⟩ : ∃ W, w.alloc (.cells #[.int .i64 x1, .int .i64 x2, .int .i64 x3, .int .i64 x4] 24) = W := ⟨_, rfl⟩
  rw [hW, hp] at P0
  rw [hW] at B0
  rw [hp] at HBL HRL
  have HW := Lib.hid hW
  have HP := Lib.hid hp
  clear hW hp
  by_cases h0 : ck x1 x2 x3 x4 = 0
  · have e0 : put4 L s x1 x2 x3 x4 = stp L (stp L (stp L (stp L s (enc x1)) (enc x2)) (enc (x3 + 1))) (enc x4) := by unfold put4; rw [if_pos h0]
    rw [e0, if_pos h0]
    obtain ⟨a0, a1, b0, b1, c0, c1, d0, d1, -, -, -⟩ := ck_ok h0
    rw [h0] at CK
    have N1 := Lib.hid (fun V (hv : Bel w V) => nAny b L v s base x1 V (H.out.bel hv) a0 (by omega))
    obtain ⟨s1, hs1⟩ : ∃ q, stp L s (enc x1) = q := ⟨_, rfl⟩
    rw [hs1] at N1
    have N2 := Lib.hid (fun V v1 (hv : WS V b L v1 s1.2 s1.1 base) => nAny b L v1 s1 base x2 V hv (by omega) (by omega))
    obtain ⟨s2, hs2⟩ : ∃ q, stp L s1 (enc x2) = q := ⟨_, rfl⟩
    rw [hs2] at N2
    have N3 := Lib.hid (fun V v1 (hv : WS V b L v1 s2.2 s2.1 base) => nAny b L v1 s2 base (x3 + 1) V hv (by omega) (by omega))
    obtain ⟨s3, hs3⟩ : ∃ q, stp L s2 (enc (x3 + 1)) = q := ⟨_, rfl⟩
    rw [hs3] at N3
    have N4 := Lib.hid (fun V v1 (hv : WS V b L v1 s3.2 s3.1 base) => nAny b L v1 s3 base x4 V hv d0 (by omega))
    obtain ⟨s4, hs4⟩ : ∃ q, stp L s3 (enc x4) = q := ⟨_, rfl⟩
    rw [hs4] at N4
    rw [hs1, hs2, hs3, hs4]
    clear hs1 hs2 hs3 hs4 e0 h0
    have w3 : IntKind.i64.wrap (x3 + 1) = x3 + 1 := IntWalk.i64_in _ (by omega)
    clear a0 a1 b0 b1 c0 c1 d0 d1
    go_enter Try.func62, Try.ntmps62
    go_upto_region 1 with fail
    rw [HW.out, HP.out]
    have c0 := P0.out.cell 0 rfl
    have c1 := P0.out.cell 1 rfl
    have c2 := P0.out.cell 2 rfl
    have c3 := P0.out.cell 3 rfl
    go_wp2_with fail
    refine (CK.out _).mono ?_
    rintro r w1 ⟨rfl, kb⟩
    have K1 := Lib.hid (B0.out.trans kb)
    have P1 := Lib.hid (P0.out.bel kb)
    clear kb c0 c1 c2 c3
    have c0 := P1.out.cell 0 rfl
    go_wp2_with fail
    refine (N1.out _ K1.out).mono ?_
    rintro r w2 ⟨rfl, v1, g1, l1, k1⟩
    have G1 := Lib.hid g1
    have L1 := Lib.hid (show Lies w v v1 from fun g hg => (l1 g hg).imp id (fun h => Nat.le_trans (Below.size K1.out) h))
    have KK1 := Lib.hid ((Kep.of_bel (S := Own2 b v) K1.out).trans k1)
    have P2 := Lib.hid (P1.out.kep k1 (by rintro (h | h); have := HBL.out; omega; have := HRL.out _ h; omega))
    clear g1 l1 k1 c0
    have c1 := P2.out.cell 1 rfl
    go_wp2_with fail
    refine (N2.out _ v1 G1.out).mono ?_
    rintro r w3 ⟨rfl, v2, g1, l1, k1⟩
    have G2 := Lib.hid g1
    have L2 := Lib.hid (L1.out.trans l1 KK1.out.size)
    have KK2 := Lib.hid (kep_lies KK1.out L1.out k1)
    have P3 := Lib.hid (P2.out.kep k1 (by rintro (h | h); have := HBL.out; omega; exact P2.out.not_row (by decide) G1.out.row h))
    clear g1 l1 k1 c1
    have c2 := P3.out.cell 2 rfl
    go_wp2_with fail
    refine (N3.out _ v2 G2.out).mono ?_
    rintro r w4 ⟨rfl, v3, g1, l1, k1⟩
    have G3 := Lib.hid g1
    have L3 := Lib.hid (L2.out.trans l1 KK2.out.size)
    have KK3 := Lib.hid (kep_lies KK2.out L2.out k1)
    have P4 := Lib.hid (P3.out.kep k1 (by rintro (h | h); have := HBL.out; omega; exact P3.out.not_row (by decide) G2.out.row h))
    clear g1 l1 k1 c2
    have c3 := P4.out.cell 3 rfl
    go_wp2_with fail
    refine (N4.out _ v3 G3.out).mono ?_
    rintro r w5 ⟨rfl, v4, g1, l1, k1⟩
    have G4 := Lib.hid g1
    have L4 := Lib.hid (L3.out.trans l1 KK3.out.size)
    have KK4 := Lib.hid (kep_lies KK3.out L3.out k1)
    clear g1 l1 k1 c3
    go_wp2_with fail
    go_ret
    exact ⟨rfl, v4, G4.out, L4.out, KK4.out⟩
  · have e0 : put4 L s x1 x2 x3 x4 = s := by unfold put4; rw [if_neg h0]
    rw [e0, if_neg h0]
    obtain ⟨e, he⟩ : ∃ e, ck x1 x2 x3 x4 = e := ⟨_, rfl⟩
    rw [he] at CK h0 ⊢
    have he1 : (e != 0) = true := by rw [bne_iff_ne]; exact h0
    have RF := Lib.hid (fun V (hv : Bel w V) => refusal b L v s base e V (H.out.bel hv) h1)
    clear he e0 h0 h1
    go_enter Try.func62, Try.ntmps62
    go_upto_region 1 with fail
    rw [HW.out, HP.out]
    have c0 := P0.out.cell 0 rfl
    have c1 := P0.out.cell 1 rfl
    have c2 := P0.out.cell 2 rfl
    have c3 := P0.out.cell 3 rfl
    go_wp2_with fail
    refine (CK.out _).mono ?_
    rintro r w1 ⟨rfl, kb⟩
    have K1 := Lib.hid (B0.out.trans kb)
    clear kb c0 c1 c2 c3
    go_wp2_with fail
    refine (RF.out _ K1.out).mono ?_
    rintro r w2 ⟨rfl, kb⟩
    have K2 := Lib.hid (K1.out.trans kb)
    clear kb
    go_wp2_with fail
    go_ret
    exact ⟨rfl, v, H.out.bel K2.out, Lies.refl _ _, Kep.of_bel K2.out⟩

set_option maxHeartbeats 1000000 in
theorem put0 (v : Value) (x1 x2 x3 x4 : Int) (w : World) (h : Null w v) :
    Calls Try.prog 62 #[v, stV x1 x2 x3 x4] w fun r w' => r = .returned (.int .i64 1) ∧ Bel w w' := by
  have CK := Lib.hid (fun W => check x1 x2 x3 x4 W)
  have P0 := Lib.hid (Blk.new w #[.int .i64 x1, .int .i64 x2, .int .i64 x3, .int .i64 x4] 24)
  have B0 := Lib.hid ((Bel.refl w).alloc (.cells #[.int .i64 x1, .int .i64 x2, .int .i64 x3, .int .i64 x4] 24))
  obtain ⟨W, hW⟩ : ∃ W, w.alloc (.cells #[.int .i64 x1, .int .i64 x2, .int .i64 x3, .int .i64 x4] 24) = W := ⟨_, rfl⟩
  obtain ⟨p, hp⟩ : ∃ p, w.heap.size = p := ⟨_, rfl⟩
  rw [hW, hp] at P0
  rw [hW] at B0
  have HW := Lib.hid hW
  have HP := Lib.hid hp
  have RF := Lib.hid (fun V e (hv : Bel w V) => refusal0 v e V (h.bel hv))
  have NN := Lib.hid (fun V x (hv : Bel w V) => wN0 v x V (h.bel hv))
  obtain ⟨e, he⟩ : ∃ e, ck x1 x2 x3 x4 = e := ⟨_, rfl⟩
  have HC := Lib.hid (fun h0 : e = 0 => ck_ok (he.trans h0))
  rw [he] at CK
  clear hW hp h he
  go_enter Try.func62, Try.ntmps62
  go_upto_region 1 with fail
  rw [HW.out, HP.out]
  have c0 := P0.out.cell 0 rfl
  have c1 := P0.out.cell 1 rfl
  have c2 := P0.out.cell 2 rfl
  have c3 := P0.out.cell 3 rfl
  go_wp2_with fail
  refine (CK.out _).mono ?_
  rintro r w1 ⟨rfl, kb⟩
  have K1 := Lib.hid (B0.out.trans kb)
  have P1 := P0.out.bel kb
  clear kb c0 c1 c2 c3
  by_cases h0 : e = 0
  · have w3 : IntKind.i64.wrap (x3 + 1) = x3 + 1 := IntWalk.i64_in _ (by have := HC.out h0; omega)
    subst h0
    have c0 := P1.cell 0 rfl
    have c1 := P1.cell 1 rfl
    have c2 := P1.cell 2 rfl
    have c3 := P1.cell 3 rfl
    go_wp2_with fail
    refine (NN.out _ _ K1.out).mono ?_
    rintro r w2 ⟨rfl, rfl⟩
    go_wp2_with fail
    refine (NN.out _ _ K1.out).mono ?_
    rintro r w2 ⟨rfl, rfl⟩
    go_wp2_with fail
    refine (NN.out _ _ K1.out).mono ?_
    rintro r w2 ⟨rfl, rfl⟩
    go_wp2_with fail
    refine (NN.out _ _ K1.out).mono ?_
    rintro r w2 ⟨rfl, rfl⟩
    go_wp2_with fail
    go_ret
    exact ⟨rfl, K1.out⟩
  · have he1 : (e != 0) = true := by rw [bne_iff_ne]; exact h0
    clear h0
    go_wp2_with fail
    refine (RF.out _ _ K1.out).mono ?_
    rintro r w2 ⟨rfl, kb⟩
    have K2 := Lib.hid (K1.out.trans kb)
    clear kb
    go_wp2_with fail
    go_ret
    exact ⟨rfl, K2.out⟩

/-- What Bytes tells. -/
def bytesN (a b c d : Int) : List Int := if ck a b c d = 0 then enc4 a b c d else []
theorem enc4_len (a b c d : Int) : (enc4 a b c d).length ≤ 40 := by
  have h1 := (enc_len a).2
  have h2 := (enc_len b).2
  have h3 := (enc_len (c + 1)).2
  have h4 := (enc_len d).2
  unfold enc4
  simp only [List.length_append]
  omega
theorem stp_ok {L : Int} {out more : List Int} (h : ((out ++ more).length : Int) ≤ L) : stp L (out, 0) more = (out ++ more, 0) := by unfold stp; rw [if_neg (by simp), if_pos h]
theorem put4_ok {a b c d : Int} (h : ck a b c d = 0) : put4 1048576 ([], 0) a b c d = (enc4 a b c d, 0) := by
  have h1 := (enc_len a).2
  have h2 := (enc_len b).2
  have h3 := (enc_len (c + 1)).2
  have h4 := (enc_len d).2
  unfold put4 enc4
  rw [if_pos h, stp_ok (by simp only [List.length_append, List.length_nil]; omega), stp_ok (by simp only [List.length_append, List.length_nil]; omega), stp_ok (by simp only [List.length_append, List.length_nil]; omega), stp_ok (by simp only [List.length_append, List.length_nil]; omega)]
  simp
end Sm
end Go.Proofs.Ytdpompponngmdaa
end
