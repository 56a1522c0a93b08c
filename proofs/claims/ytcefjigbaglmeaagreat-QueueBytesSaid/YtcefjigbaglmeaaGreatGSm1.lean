/-
  What stamp.New, Hop, Backed and Compare answer: any stamps, any numbers. No condition.
-/
import Derived.BigQuiet
import Derived.Deep.QuietTactic
import Derived.Laws.StructEq
import Derived.Test.YtcefjigbaglmeaaGreatGSm0c
namespace Go.Proofs.YtcefjigbaglmeaaGreat
open Go.RowKit Go.Shelf
set_option linter.unusedVariables false
namespace Sm
open Kk

/-- What a call tells that may refuse: a stamp if there is no error, else the zero one. -/
def orZ (e x : Int) : Int := if e = 0 then x else 0
abbrev ansV (e a b c d : Int) : Value := .tuple #[stV (orZ e a) (orZ e b) (orZ e c) (orZ e d), .int .i64 e]
theorem orZ_ok (x : Int) : orZ 0 x = x := rfl
theorem orZ_no {e : Int} (h : e ≠ 0) (x : Int) : orZ e x = 0 := if_neg h
theorem ans_no {e : Int} (h : e ≠ 0) (a b c d : Int) : ansV e a b c d = .tuple #[stV 0 0 0 0, .int .i64 e] := by
  show (Value.tuple #[.agg #[.int .i64 (orZ e a), .int .i64 (orZ e b), .int .i64 (orZ e c), .int .i64 (orZ e d)], .int .i64 e]) = _
  rw [orZ_no h, orZ_no h, orZ_no h, orZ_no h]
theorem info_st : (Tryz.prog.info? 51).map (·.size) = some 4 := by kernel_rfl
theorem load_st {w : World} {b : Nat} {a1 a2 a3 a4 : Int} (h : Blk w b #[.int .i64 a1, .int .i64 a2, .int .i64 a3, .int .i64 a4] 51) : (loadVar 51 ⟨b, 0, none⟩).run Tryz.prog w = .ok (stV a1 a2 a3 a4) w :=
  Pm.load_b (C := [.int .i64 a1, .int .i64 a2, .int .i64 a3, .int .i64 a4]) h Tryz.underlying51 rfl info_st

/-- Why a lot may not hop. -/
def hopE (a b c d v h : Int) : Int := if ck a b c d = 0 then ck v h a b else ck a b c d
/-- The heights at which a lot backed v: from, to (none: 0, 0). -/
def hsF (a b c d v u : Int) : Int := if v = a then b else if v = c ∧ v ≠ -1 then d else 0
def hsL (a b c d v u : Int) : Int := if v = a then (if u < 1 then 9223372036854775807 else u) else if v = c ∧ v ≠ -1 then b else 0
theorem info_hs : (Tryz.prog.info? 132).map (·.size) = some 2 := by kernel_rfl
theorem load_hs {w : World} {b : Nat} {a1 a2 : Int} (h : Blk w b #[.int .i64 a1, .int .i64 a2] 132) : (loadVar 132 ⟨b, 0, none⟩).run Tryz.prog w = .ok (.agg #[.int .i64 a1, .int .i64 a2]) w :=
  Pm.load_b (C := [.int .i64 a1, .int .i64 a2]) h Tryz.underlying132 rfl info_hs

set_option maxHeartbeats 1000000 in
theorem backing (a b c d v u : Int) (w : World) : Calls Tryz.prog 92 #[stV a b c d, .int .i64 v, .int .i64 u] w fun r w' => r = .returned (.agg #[.int .i64 (hsF a b c d v u), .int .i64 (hsL a b c d v u)]) ∧ Bel w w' := by
  have HF := Lib.hid (show hsF a b c d v u = if v = a then b else if v = c ∧ v ≠ -1 then d else 0 from rfl)
  have HL := Lib.hid (show hsL a b c d v u = if v = a then (if u < 1 then 9223372036854775807 else u) else if v = c ∧ v ≠ -1 then b else 0 from rfl)
  obtain ⟨x, hx⟩ : ∃ x, hsF a b c d v u = x := ⟨_, rfl⟩
  obtain ⟨y, hy⟩ : ∃ y, hsL a b c d v u = y := ⟨_, rfl⟩
  rw [hx] at HF ⊢
  rw [hy] at HL ⊢
  clear hx hy
  go_enter Tryz.func92, Tryz.ntmps92
  go_upto_region 1 with fail
  obtain ⟨W, hW⟩ : ∃ W, w.alloc (.cells #[.int .i64 a, .int .i64 b, .int .i64 c, .int .i64 d] 51) = W := ⟨_, rfl⟩
  have P0 : Blk W w.heap.size #[.int .i64 a, .int .i64 b, .int .i64 c, .int .i64 d] 51 := by rw [← hW]; exact Blk.new _ _ _
  have B0 : Bel w W := by rw [← hW]; exact (Bel.refl _).alloc _
  have S0 : W.heap.size = w.heap.size + 1 := by rw [← hW]; exact World.size_alloc _ _
  have Q0 := Blk.new W #[.int .i64 0, .int .i64 0] 132
  rw [S0] at Q0
  obtain ⟨V, hV⟩ : ∃ V, W.alloc (.cells #[.int .i64 0, .int .i64 0] 132) = V := ⟨_, rfl⟩
  have BV : Bel W V := by rw [← hV]; exact (Bel.refl _).alloc _
  rw [hV] at Q0
  obtain ⟨p, hp⟩ : ∃ p, w.heap.size = p := ⟨_, rfl⟩
  rw [hp] at P0 Q0
  have P1 := P0.bel BV
  have B1 := Lib.hid (B0.trans BV)
  have HP := Lib.hid hp
  rw [hW, hV, hp]
  clear hW hV hp P0 S0 BV B0
  have hpq : p ≠ p + 1 := by omega
  obtain ⟨q, hq⟩ : ∃ q, p + 1 = q := ⟨_, rfl⟩
  have HQ := Lib.hid (show w.heap.size ≤ q by have := HP.out; omega)
  rw [hq] at Q0 hpq ⊢
  clear hq
  have c0 := P1.cell 0 rfl
  have c1 := P1.cell 1 rfl
  have c2 := P1.cell 2 rfl
  have c3 := P1.cell 3 rfl
  have d0 := Q0.cell 0 rfl
  have d1 := Q0.cell 1 rfl
  have f0 := Q0.frozen 0
  have f1 := Q0.frozen 1
  have PP := Lib.hid P1
  have QQ := Lib.hid Q0
  clear P1 Q0
  have fin : ∀ x' y', x' = x → y' = y → x' = x ∧ y' = y := fun _ _ h1 h2 => ⟨h1, h2⟩
  by_cases h1 : v = a
  · subst h1
    have h1 : (v == v) = true := beq_self_eq_true v
    by_cases h2 : u < 1
    · obtain rfl : x = b := by rw [HF.out, if_pos rfl]
      obtain rfl : y = 9223372036854775807 := by rw [HL.out, if_pos rfl, if_pos h2]
      have h2' : decide (u < 1) = true := decide_eq_true h2
      go_wp2_with fail
      refine bodyPost_ret (Pm.res_c rfl _ _ ⟨q, 0, none⟩ _ rfl (load_hs ((QQ.out.set 0 _).set 1 _))) rfl ⟨rfl, ?_⟩
      exact (B1.out.set HQ.out _).set HQ.out _
    · obtain rfl : x = b := by rw [HF.out, if_pos rfl]
      obtain rfl : y = u := by rw [HL.out, if_pos rfl, if_neg h2]
      have h2' : decide (y < 1) = false := decide_eq_false h2
      clear h2
      go_wp2_with fail
      refine bodyPost_ret (Pm.res_c rfl _ _ ⟨q, 0, none⟩ _ rfl (load_hs ((QQ.out.set 0 _).set 1 _))) rfl ⟨rfl, ?_⟩
      exact (B1.out.set HQ.out _).set HQ.out _
  · have h1' : (v == a) = false := beq_eq_false_iff_ne.2 h1
    by_cases h2 : v = c
    · subst h2
      have h2' : (v == v) = true := beq_self_eq_true v
      by_cases h3 : v = -1
      · obtain rfl : x = 0 := by rw [HF.out, if_neg h1, if_neg (fun h => h.2 h3)]
        obtain rfl : y = 0 := by rw [HL.out, if_neg h1, if_neg (fun h => h.2 h3)]
        subst h3
        clear h1
        go_wp2_with fail
        refine bodyPost_ret (Pm.res_c rfl _ _ ⟨q, 0, none⟩ _ rfl (load_hs ((QQ.out.set 0 _).set 1 _))) rfl ⟨rfl, ?_⟩
        exact (B1.out.set HQ.out _).set HQ.out _
      · obtain rfl : x = d := by rw [HF.out, if_neg h1, if_pos ⟨rfl, h3⟩]
        obtain rfl : y = b := by rw [HL.out, if_neg h1, if_pos ⟨rfl, h3⟩]
        have h3' : (v != -1) = true := by rw [bne_iff_ne]; exact h3
        clear h1 h3
        go_wp2_with fail
        refine bodyPost_ret (Pm.res_c rfl _ _ ⟨q, 0, none⟩ _ rfl (load_hs ((QQ.out.set 0 _).set 1 _))) rfl ⟨rfl, ?_⟩
        exact (B1.out.set HQ.out _).set HQ.out _
    · obtain rfl : x = 0 := by rw [HF.out, if_neg h1, if_neg (fun h => h2 h.1)]
      obtain rfl : y = 0 := by rw [HL.out, if_neg h1, if_neg (fun h => h2 h.1)]
      have h2' : (v == c) = false := beq_eq_false_iff_ne.2 h2
      clear h1 h2
      go_wp2_with fail
      refine bodyPost_ret (Pm.res_c rfl _ _ ⟨q, 0, none⟩ _ rfl (load_hs ((QQ.out.set 0 _).set 1 _))) rfl ⟨rfl, ?_⟩
      exact (B1.out.set HQ.out _).set HQ.out _

/-- Is a height among them? -/
def hasB (f l h : Int) : Bool := !((f == 0) && (l == 0)) && decide (f ≤ h) && decide (h ≤ l)
set_option maxHeartbeats 1000000 in
theorem has (f l h : Int) (w : World) : Calls Tryz.prog 93 #[.agg #[.int .i64 f, .int .i64 l], .int .i64 h] w fun r w' => r = .returned (.bool (hasB f l h)) ∧ Bel w w' := by
  have HB := Lib.hid (show hasB f l h = (!((f == 0) && (l == 0)) && decide (f ≤ h) && decide (h ≤ l)) from rfl)
  obtain ⟨x, hx⟩ : ∃ x, hasB f l h = x := ⟨_, rfl⟩
  rw [hx] at HB ⊢
  clear hx
  have B0 := Lib.hid ((Bel.refl w).alloc (.cells #[.int .i64 f, .int .i64 l] 132))
  by_cases f0 : f = 0
  · subst f0
    by_cases l0 : l = 0
    · subst l0
      obtain rfl : x = false := by rw [HB.out]; rfl
      go_enter Tryz.func93, Tryz.ntmps93
      go_wp2_with fail
      go_ret
      exact ⟨rfl, B0.out⟩
    · have l1 : (l == 0) = false := beq_eq_false_iff_ne.2 l0
      have HB := Lib.hid (show x = (decide (0 ≤ h) && decide (h ≤ l)) by rw [HB.out, l1]; rfl)
      go_enter Tryz.func93, Tryz.ntmps93
      by_cases hf : 0 ≤ h
      · have hf' : decide (0 ≤ h) = true := decide_eq_true hf
        have HB := Lib.hid (HB.out.trans (by rw [hf', Bool.true_and]))
        obtain ⟨y, hy⟩ : ∃ y, decide (h ≤ l) = y := ⟨_, rfl⟩
        rw [hy] at HB
        clear l0
        go_wp2_with fail
        go_ret
        exact ⟨by rw [HB.out]; rfl, B0.out⟩
      · have hf' : decide (0 ≤ h) = false := decide_eq_false hf
        obtain rfl : x = false := by rw [HB.out, hf']; rfl
        clear hf l0
        go_wp2_with fail
        go_ret
        exact ⟨rfl, B0.out⟩
  · have f1 : (f == 0) = false := beq_eq_false_iff_ne.2 f0
    have HB := Lib.hid (show x = (decide (f ≤ h) && decide (h ≤ l)) by rw [HB.out, f1]; rfl)
    go_enter Tryz.func93, Tryz.ntmps93
    by_cases hf : f ≤ h
    · have hf' : decide (f ≤ h) = true := decide_eq_true hf
      have HB := Lib.hid (HB.out.trans (by rw [hf', Bool.true_and]))
      obtain ⟨y, hy⟩ : ∃ y, decide (h ≤ l) = y := ⟨_, rfl⟩
      rw [hy] at HB
      clear f0 hf
      go_wp2_with fail
      go_ret
      exact ⟨by rw [HB.out]; rfl, B0.out⟩
    · have hf' : decide (f ≤ h) = false := decide_eq_false hf
      obtain rfl : x = false := by rw [HB.out, hf']; rfl
      clear hf f0
      go_wp2_with fail
      go_ret
      exact ⟨rfl, B0.out⟩

/-- Did a lot back v at h? -/
def bkB (a b c d v h u : Int) : Bool := decide (ck a b c d = 0) && hasB (hsF a b c d v u) (hsL a b c d v u) h
set_option maxHeartbeats 1000000 in
theorem backed (a b c d v h u : Int) (w : World) : Calls Tryz.prog 79 #[stV a b c d, .int .i64 v, .int .i64 h, .int .i64 u] w fun r w' => r = .returned (.bool (bkB a b c d v h u)) ∧ Bel w w' := by
  have CK := Lib.hid (fun W => check a b c d W)
  have BA := Lib.hid (fun W => backing a b c d v u W)
  have HB := Lib.hid (show bkB a b c d v h u = (decide (ck a b c d = 0) && hasB (hsF a b c d v u) (hsL a b c d v u) h) from rfl)
  obtain ⟨e, he⟩ : ∃ e, ck a b c d = e := ⟨_, rfl⟩
  obtain ⟨f, hf⟩ : ∃ f, hsF a b c d v u = f := ⟨_, rfl⟩
  obtain ⟨l, hl⟩ : ∃ l, hsL a b c d v u = l := ⟨_, rfl⟩
  have HA := Lib.hid (fun W => has f l h W)
  rw [hf, hl] at BA
  rw [he, hf, hl] at HB
  rw [he] at CK
  obtain ⟨x, hx⟩ : ∃ x, bkB a b c d v h u = x := ⟨_, rfl⟩
  obtain ⟨y, hy⟩ : ∃ y, hasB f l h = y := ⟨_, rfl⟩
  rw [hx, hy] at HB
  rw [hx]
  rw [hy] at HA
  clear he hf hl hx hy
  have B0 := Lib.hid ((Bel.refl w).alloc (.cells #[.int .i64 a, .int .i64 b, .int .i64 c, .int .i64 d] 51))
  have P0 := Lib.hid (Blk.new w #[.int .i64 a, .int .i64 b, .int .i64 c, .int .i64 d] 51)
  go_enter Tryz.func79, Tryz.ntmps79
  go_wp2_with fail
  refine (CK.out _).mono ?_
  rintro r w1 ⟨rfl, kb⟩
  obtain ⟨p, hp⟩ : ∃ p, w.heap.size = p := ⟨_, rfl⟩
  rw [hp] at P0 ⊢
  clear hp
  have PP := P0.out.bel kb
  have c0 := PP.cell 0 rfl
  have c1 := PP.cell 1 rfl
  have c2 := PP.cell 2 rfl
  have c3 := PP.cell 3 rfl
  have K1 := Lib.hid (B0.out.trans kb)
  clear kb PP B0 P0
  by_cases h0 : e = 0
  · subst h0
    obtain rfl : x = y := by rw [HB.out]; rfl
    go_wp2_with fail
    refine (BA.out _).mono ?_
    rintro r w2 ⟨rfl, kb⟩
    have K2 := Lib.hid (K1.out.trans kb)
    clear kb c0 c1 c2 c3
    go_wp2_with fail
    refine (HA.out _).mono ?_
    rintro r w3 ⟨rfl, kb⟩
    have K3 := Lib.hid (K2.out.trans kb)
    clear kb
    go_wp2_with fail
    go_ret
    exact ⟨rfl, K3.out⟩
  · have h1 : (e == 0) = false := beq_eq_false_iff_ne.2 h0
    obtain rfl : x = false := by rw [HB.out, decide_eq_false h0]; rfl
    clear h0
    go_wp2_with fail
    go_ret
    exact ⟨rfl, K1.out⟩
end Sm
end Go.Proofs.YtcefjigbaglmeaaGreat
