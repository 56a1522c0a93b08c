/-
  Texts of this claim, put together: Sm4, Qu9, Qu10, Qu11. What each one says, and under which conditions, stands ahead of it.
-/
import Derived.Test.YtcefjigbaglmeaaGreatHA
import Derived.Test.YtcefjigbaglmeaaGreatGQu8
import Derived.Test.YtcefjigbaglmeaaGreatGQu5
import Derived.Test.YtcefjigbaglmeaaGreatGStill

section
/-
  What the reference's Check and Bytes of a stamp answer: any stamp. No condition.
-/
namespace Go.Proofs.YtcefjigbaglmeaaGreat
open Go.RowKit Go.Shelf
set_option linter.unusedVariables false
namespace Sm
open Cd

theorem within (n l h : Int) (w : World) : Calls Tryz.prog 85 #[.int .i64 n, .int .i64 l, .int .i64 h] w fun r w' => r = .returned (.bool (decide (l ≤ n) && decide (n ≤ h))) ∧ w = w' := by
  obtain ⟨X, hX⟩ : ∃ X, (decide (l ≤ n) && decide (n ≤ h)) = X := ⟨_, rfl⟩
  rw [hX]
  have HX := Lib.hid hX
  clear hX
  go_enter Tryz.func85, Tryz.ntmps85
  by_cases h1 : l ≤ n
  · by_cases h2 : n ≤ h
    · obtain rfl : X = true := by rw [← HX.out, decide_eq_true h1, decide_eq_true h2]; rfl
      go_wp2_with fail
      go_ret
      exact ⟨rfl, rfl⟩
    · obtain rfl : X = false := by rw [← HX.out, decide_eq_false h2, Bool.and_false]
      go_wp2_with fail
      go_ret
      exact ⟨rfl, rfl⟩
  · obtain rfl : X = false := by rw [← HX.out, decide_eq_false h1, Bool.false_and]
    go_wp2_with fail
    go_ret
    exact ⟨rfl, rfl⟩
theorem in_no {n l h : Int} (x : n < l ∨ h < n) : (decide (l ≤ n) && decide (n ≤ h)) = false := by
  rcases x with x | x
  · rw [decide_eq_false (by omega), Bool.false_and]
  · rw [decide_eq_false (p := n ≤ h) (by omega), Bool.and_false]
theorem in_yes {n l h : Int} (x : ¬ (n < l ∨ h < n)) : (decide (l ≤ n) && decide (n ≤ h)) = true := by
  rw [decide_eq_true (by omega), decide_eq_true (by omega)]; rfl

set_option maxRecDepth 10000 in
set_option maxHeartbeats 2000000 in
theorem checkR (a b c d : Int) (w : World) : Calls Tryz.prog 62 #[stV a b c d] w fun r w' => r = .returned (.int .i64 (ck a b c d)) ∧ Bel w w' := by
  have W1 := Lib.hid (fun V => within a 0 31 V)
  have W2 := Lib.hid (fun V => within b 1 4294967296 V)
  have W3 := Lib.hid (fun V => within c (-1) 31 V)
  have W4 := Lib.hid (fun V => within d 0 4294967296 V)
  have B0 := Lib.hid ((Bel.refl w).alloc (.cells #[.int .i64 a, .int .i64 b, .int .i64 c, .int .i64 d] 51))
  have P0 := Lib.hid (Blk.new w #[.int .i64 a, .int .i64 b, .int .i64 c, .int .i64 d] 51)
  have HC := Lib.hid (show ck a b c d = if (a < 0 ∨ 31 < a) ∨ (b < 1 ∨ 4294967296 < b) ∨ (c < -1 ∨ 31 < c) ∨ (d < 0 ∨ 4294967296 < d) then 3 else if c = a then 2 else if (c = -1 ∧ d ≠ 0) ∨ (c ≠ -1 ∧ d = 0) then 11 else if b < d then 9 else 0 from rfl)
  obtain ⟨E, hE⟩ : ∃ E, ck a b c d = E := ⟨_, rfl⟩
  rw [hE] at HC ⊢
  clear hE
  go_enter Tryz.func62, Tryz.ntmps62
  go_upto_region 1 with fail
  obtain ⟨W, hW⟩ : ∃ W, w.alloc (.cells #[.int .i64 a, .int .i64 b, .int .i64 c, .int .i64 d] 51) = W := ⟨_, rfl⟩
  obtain ⟨p, hp⟩ : ∃ p, w.heap.size = p := ⟨_, rfl⟩
  rw [hW, hp] at P0
  rw [hW] at B0
  rw [hW, hp]
  clear hW hp
  have c0 := P0.out.cell 0 rfl
  have c1 := P0.out.cell 1 rfl
  have c2 := P0.out.cell 2 rfl
  have c3 := P0.out.cell 3 rfl
  by_cases h1 : a < 0 ∨ 31 < a
  · obtain rfl : E = 3 := by rw [HC.out, if_pos (.inl h1)]
    rw [in_no h1] at W1
    clear h1
    go_wp2_with fail
    refine (W1.out _).mono ?_
    rintro r w1 ⟨rfl, rfl⟩
    go_wp2_with fail
    go_ret
    exact ⟨rfl, B0.out⟩
  rw [in_yes h1] at W1
  go_wp2_with fail
  refine (W1.out _).mono ?_
  rintro r w1 ⟨rfl, rfl⟩
  by_cases h2 : b < 1 ∨ 4294967296 < b
  · obtain rfl : E = 3 := by rw [HC.out, if_pos (.inr (.inl h2))]
    rw [in_no h2] at W2
    clear h2
    go_wp2_with fail
    refine (W2.out _).mono ?_
    rintro r w2 ⟨rfl, rfl⟩
    go_wp2_with fail
    go_ret
    exact ⟨rfl, B0.out⟩
  rw [in_yes h2] at W2
  go_wp2_with fail
  refine (W2.out _).mono ?_
  rintro r w2 ⟨rfl, rfl⟩
  by_cases h3 : c < -1 ∨ 31 < c
  · obtain rfl : E = 3 := by rw [HC.out, if_pos (.inr (.inr (.inl h3)))]
    rw [in_no h3] at W3
    clear h3
    go_wp2_with fail
    refine (W3.out _).mono ?_
    rintro r w3 ⟨rfl, rfl⟩
    go_wp2_with fail
    go_ret
    exact ⟨rfl, B0.out⟩
  rw [in_yes h3] at W3
  go_wp2_with fail
  refine (W3.out _).mono ?_
  rintro r w3 ⟨rfl, rfl⟩
  by_cases h4 : d < 0 ∨ 4294967296 < d
  · obtain rfl : E = 3 := by rw [HC.out, if_pos (.inr (.inr (.inr h4)))]
    rw [in_no h4] at W4
    clear h4
    go_wp2_with fail
    refine (W4.out _).mono ?_
    rintro r w4 ⟨rfl, rfl⟩
    go_wp2_with fail
    go_ret
    exact ⟨rfl, B0.out⟩
  rw [in_yes h4] at W4
  go_wp2_with fail
  refine (W4.out _).mono ?_
  rintro r w4 ⟨rfl, rfl⟩
  have HC := Lib.hid (HC.out.trans (if_neg (by omega)))
  clear h1 h2 h3 h4
  by_cases h5 : c = a
  · subst h5
    obtain rfl : E = 2 := by rw [HC.out, if_pos rfl]
    have e : (c == c) = true := beq_self_eq_true c
    go_wp2_with fail
    go_ret
    exact ⟨rfl, B0.out⟩
  have HC := Lib.hid (HC.out.trans (if_neg h5))
  have e5 : (c == a) = false := beq_eq_false_iff_ne.2 h5
  clear h5
  by_cases h6 : (c = -1 ∧ d ≠ 0) ∨ (c ≠ -1 ∧ d = 0)
  · obtain rfl : E = 11 := by rw [HC.out, if_pos h6]
    rcases h6 with ⟨rfl, h6⟩ | ⟨h6, rfl⟩
    · have e6 : (d == 0) = false := beq_eq_false_iff_ne.2 h6
      clear h6
      go_wp2_with fail
      go_ret
      exact ⟨rfl, B0.out⟩
    · have e6 : (c == -1) = false := beq_eq_false_iff_ne.2 h6
      clear h6
      go_wp2_with fail
      go_ret
      exact ⟨rfl, B0.out⟩
  have HC := Lib.hid (HC.out.trans (if_neg h6))
  by_cases h7 : b < d
  · obtain rfl : E = 9 := by rw [HC.out, if_pos h7]
    by_cases h8 : c = -1
    · obtain rfl : d = 0 := by omega
      subst h8
      clear h6
      go_wp2_with fail
      go_ret
      exact ⟨rfl, B0.out⟩
    · have e7 : (d == 0) = false := beq_eq_false_iff_ne.2 (by omega)
      have e8 : (c == -1) = false := beq_eq_false_iff_ne.2 h8
      clear h6 h8
      go_wp2_with fail
      go_ret
      exact ⟨rfl, B0.out⟩
  · obtain rfl : E = 0 := by rw [HC.out, if_neg h7]
    by_cases h8 : c = -1
    · obtain rfl : d = 0 := by omega
      subst h8
      clear h6
      go_wp2_with fail
      go_ret
      exact ⟨rfl, B0.out⟩
    · have e7 : (d == 0) = false := beq_eq_false_iff_ne.2 (by omega)
      have e8 : (c == -1) = false := beq_eq_false_iff_ne.2 h8
      clear h6 h8
      go_wp2_with fail
      go_ret
      exact ⟨rfl, B0.out⟩
end Sm
end Go.Proofs.YtcefjigbaglmeaaGreat
end

section
/-
  What the reference's One tells of an entry behind one that was created at a height. No condition.
-/
namespace Go.Proofs.YtcefjigbaglmeaaGreat
open Go.RowKit Go.Shelf
set_option linter.unusedVariables false
set_option linter.unusedSimpArgs false
namespace Qu
open Kk Pm

theorem load_guarded {ops : Array Oper} {rest : List Oper} {op : Oper} {a : Act} {w : World} {Q : Exit → Act → World → Prop} (hw : Region.wanted op (yielded ops a.tmps) = true) (ty : TypeId) (x : Operand) (ho : op.op = .load ty x)
    (b o : Nat) (hx : a.eval x = .pointer (some ⟨b, o, none⟩)) (cs : List Value) (d : TypeDesc) (hc : w.rangeAt b o cs)
    (hu : Tryz.prog.underlying ty = some d) (hd : d.isRow = true) (hi : (Tryz.prog.info? ty).map (·.size) = some cs.length)
    (h : wpList Tryz.prog ops Q rest (a.put op.dst (.agg cs.toArray)) w) : wpList Tryz.prog ops Q (op :: rest) a w :=
  wpList_step fun K hK => by
    rw [if_pos hw]
    exact wp_load_mid ty x ho b o hx cs d hc hu hd hi (hK _ _ h)
set_option maxRecDepth 100000 in
set_option maxHeartbeats 16000000 in
theorem oneR (b o v si p f c i n : Int) (w : World) :
    Calls Tryz.prog 41 #[.agg #[.int .i64 o, .int .i64 v, .int .i64 si, .int .i64 p, .int .i64 f, .int .i64 c, .int .u64 i, .int .u64 n], .int .i64 b] w fun e w' => e = .returned (.int .i64 (qE b (o, v, si, p, f, c, i, n))) ∧ Bel w w' := by
  have SC := Lib.hid (fun V => Sm.checkR v si p f V)
  have B0 := Lib.hid (Blk.new w #[.int .i64 o, .int .i64 v, .int .i64 si, .int .i64 p, .int .i64 f, .int .i64 c, .int .u64 i, .int .u64 n] 53)
  obtain ⟨V, hV⟩ : ∃ V, w.alloc (.cells #[.int .i64 o, .int .i64 v, .int .i64 si, .int .i64 p, .int .i64 f, .int .i64 c, .int .u64 i, .int .u64 n] 53) = V := ⟨_, rfl⟩
  have EV := Lib.hid (show Bel w V by rw [← hV]; exact (Bel.refl _).alloc _)
  rw [hV] at B0
  have HV := Lib.hid hV
  have R1 := Lib.hid (fun h => q_o (b := b) (o := o) (v := v) (si := si) (p := p) (f := f) (c := c) (i := i) (n := n) h)
  have R2 := Lib.hid (fun h => q_s (b := b) (o := o) (v := v) (si := si) (p := p) (f := f) (c := c) (i := i) (n := n) h)
  have R3 := Lib.hid (fun h => q_c (b := b) (o := o) (v := v) (si := si) (p := p) (f := f) (c := c) (i := i) (n := n) h)
  have R4 := Lib.hid (fun h1 h2 h3 => q_r (b := b) (o := o) (v := v) (si := si) (p := p) (f := f) (c := c) (i := i) (n := n) h1 h2 h3)
  obtain ⟨R, hR⟩ : ∃ R, qE b (o, v, si, p, f, c, i, n) = R := ⟨_, rfl⟩
  rw [hR] at R1 R2 R3 R4 ⊢
  clear hV hR
  go_enter Tryz.func41, Tryz.ntmps41
  go_upto_region 1 with fail
  try rw [HV.out]
  obtain ⟨g, hg⟩ : ∃ g, w.heap.size = g := ⟨_, rfl⟩
  rw [hg] at B0 ⊢
  clear hg HV
  have ST := Lib.hid (show V.rangeAt g 1 [.int .i64 v, .int .i64 si, .int .i64 p, .int .i64 f] from fun j u hu => by
    match j, hu with
    | 0, hu => exact (Option.some.inj hu) ▸ B0.out.cell 1 rfl
    | 1, hu => exact (Option.some.inj hu) ▸ B0.out.cell 2 rfl
    | 2, hu => exact (Option.some.inj hu) ▸ B0.out.cell 3 rfl
    | 3, hu => exact (Option.some.inj hu) ▸ B0.out.cell 4 rfl
    | j + 4, hu => simp at hu)
  have c0 := B0.out.cell 0 rfl
  have c2 := B0.out.cell 2 rfl
  have c5 := B0.out.cell 5 rfl
  have c6 := B0.out.cell 6 rfl
  have c7 := B0.out.cell 7 rfl
  have SV := Lib.hid (SC.out V)
  by_cases ha : o < 0
  · have hr := R1.out (by omega)
    have KW := EV
    subst hr
    go_wp2_with fail
    go_ret
    exact ⟨rfl, KW.out⟩
  by_cases hb : 64 ≤ o
  · have hr := R1.out (by omega)
    have KW := EV
    subst hr
    go_wp2_with fail
    go_ret
    exact ⟨rfl, KW.out⟩
  have h1 : 0 ≤ o ∧ o < 64 := by omega
  obtain ⟨s, hs⟩ : ∃ s, Sm.ck v si p f = s := ⟨_, rfl⟩
  rw [hs] at R2 R4 SV
  clear hs SC
  by_cases h2 : s = 0
  · have h2b : (s != 0) = false := by rw [h2]; rfl
    have R5 := Lib.hid (fun h3 => R4.out h1 h2 h3)
    have hoa : ¬ o < 0 := ha
    have hob : ¬ 64 ≤ o := hb
    clear R1 R2 R4 h2
    go_wp2_with (refine load_guarded (by rfl) 51 (.tmp 15) rfl g 1 rfl [.int .i64 v, .int .i64 si, .int .i64 p, .int .i64 f] _ ST.out Tryz.underlying51 rfl info_st ?_)
    refine SV.out.mono ?_
    rintro e w1 ⟨rfl, k1⟩
    have KW := Lib.hid (EV.out.trans k1)
    have B1 := Lib.hid (B0.out.bel k1)
    clear k1 SV B0 EV ST c0 c2 c5 c6 c7
    have c0 := B1.out.cell 0 rfl
    have c2 := B1.out.cell 2 rfl
    have c5 := B1.out.cell 5 rfl
    have c6 := B1.out.cell 6 rfl
    have c7 := B1.out.cell 7 rfl
    have i1 := heightR c w1
    by_cases h3 : 1 ≤ c ∧ c ≤ 4294967296
    · rw [decide_eq_true h3] at i1
      have HRR := Lib.hid (R5.out h3)
      clear R5 R3
      go_wp2_with fail
      refine i1.mono ?_
      rintro e wz ⟨rfl, rfl⟩
      clear i1 h3
      by_cases h4 : c < si
      · have hr := HRR.out
        rw [if_pos (Or.inl h4)] at hr
        subst hr
        go_wp2_with fail
        go_ret
        exact ⟨rfl, KW.out⟩
      · by_cases h5 : c < b
        · have hr := HRR.out
          rw [if_pos (Or.inr h5)] at hr
          subst hr
          go_wp2_with fail
          go_ret
          exact ⟨rfl, KW.out⟩
        · have hr := HRR.out
          rw [if_neg (by omega)] at hr
          by_cases hi0 : i = 0
          · have hib : (i == 0) = true := beq_iff_eq.2 hi0
            rw [if_pos hi0] at hr
            subst hr
            clear hi0
            go_wp2_with fail
            go_ret
            exact ⟨rfl, KW.out⟩
          · have hib : (i == 0) = false := beq_eq_false_iff_ne.2 hi0
            rw [if_neg hi0] at hr
            clear hi0
            by_cases hin : i < n
            · rw [if_pos hin] at hr
              subst hr
              go_wp2_with fail
              go_ret
              exact ⟨rfl, KW.out⟩
            · rw [if_neg hin] at hr
              subst hr
              go_wp2_with fail
              go_ret
              exact ⟨rfl, KW.out⟩
    · rw [decide_eq_false h3] at i1
      have hr := R3.out h3
      subst hr
      clear h3 R5
      go_wp2_with fail
      refine i1.mono ?_
      rintro e wz ⟨rfl, rfl⟩
      clear i1
      go_wp2_with fail
      go_ret
      exact ⟨rfl, KW.out⟩
  · have h2b : (s != 0) = true := by rw [bne_iff_ne]; exact h2
    have hr := R2.out h2
    subst hr
    clear h2 R1 R3 R4
    go_wp2_with (refine load_guarded (by rfl) 51 (.tmp 15) rfl g 1 rfl [.int .i64 v, .int .i64 si, .int .i64 p, .int .i64 f] _ ST.out Tryz.underlying51 rfl info_st ?_)
    refine SV.out.mono ?_
    rintro e w1 ⟨rfl, k1⟩
    have KW := Lib.hid (EV.out.trans k1)
    clear k1 SV B0 EV ST c0 c2 c5 c6 c7
    go_wp2_with fail
    go_ret
    exact ⟨rfl, KW.out⟩
end Qu
end Go.Proofs.YtcefjigbaglmeaaGreat
end

section
/-
  What the reference's Check tells of any list of entries: as the program's. Conditions: at most a billion entries; the Balances are words.
-/
namespace Go.Proofs.YtcefjigbaglmeaaGreat
open Go.RowKit Go.Shelf
set_option linter.unusedVariables false
set_option linter.unusedSimpArgs false
namespace Qu
open Kk Pm

set_option maxRecDepth 100000 in
set_option maxHeartbeats 16000000 in
theorem checkR (A : Option Addr) (n c : Nat) (l : List E8) (w : World) (hi : Rw.RS eR w A n c l) (hn : n ≤ 1000000000) (hw : Wd l) :
    Calls Tryz.prog 25 #[.slice A n c] w fun e w' => e = .returned (.tuple #[.int .i64 (chk l).1, .int .i64 (chk l).2]) ∧ Bel w w' := by
  have HR := Lib.hid hi
  have HL := Lib.hid hi.len
  have HW := Lib.hid hw
  have HC := Lib.hid hi.cap
  clear hi hw
  by_cases hlong : 32768 < n
  · have e : chk l = (4, 32768) := chk_long (by rw [HL.out]; exact hlong)
    rw [e]
    clear e
    have hlong3 : (32768 : Int) < n := by omega
    go_enter Tryz.func25, Tryz.ntmps25
    go_wp2_with fail
    (try rw [Exit.noGoto_ret])
    go_ret2
    exact ⟨rfl, Bel.refl _⟩
  have HCA := Lib.hid (fun k r h1 h2 h3 => chk_at (l := l) (k := k) (r := r) (by rw [HL.out]; exact hlong) h1 h2 h3)
  have HCE := Lib.hid (fun h1 => chk_end (l := l) (by rw [HL.out]; exact hlong) h1)
  obtain ⟨R, hRR⟩ : ∃ R, chk l = R := ⟨_, rfl⟩
  rw [hRR] at HCA HCE ⊢
  clear hRR
  have hlong3 : ¬ (32768 : Int) < n := by omega
  go_enter Tryz.func25, Tryz.ntmps25
  go_wp2_with fail
  go_loopw [2, 3, 4] (fun s2 s3 s12 wr => ∃ k : Nat, k ≤ n ∧ s12 = .int .i64 k ∧ s2 = .int .i64 0 ∧ s3 = .int .i64 0 ∧ Hid (∀ (j : Nat) (x : E8), j < k → l[j]? = some x → qE (bef 0 l j) x = 0) ∧ Hid (Bel w wr)) (fun _ _ s12 _ => n - (intOf s12).toNat)
  case atStart => exact ⟨0, Nat.zero_le _, rfl, rfl, rfl, Lib.hid (fun j x hj => absurd hj (by omega)), Lib.hid (Bel.refl _)⟩
  case round =>
    obtain ⟨k, hk, rfl, rfl, rfl, hz, hh⟩ := hrel
    by_cases hlt : k < n
    · obtain ⟨⟨r1, r2, r3, r4, r5, r6, r7, r8⟩, hr⟩ := HR.out.get hlt
      obtain ⟨b, q, rfl, _, hrow⟩ := (HR.out.bel hh.out).at hlt hr
      have HAT := Lib.hid (HCA.out k _ hz.out hr)
      have HRK := Lib.hid hr
      have hlt3 : (k : Int) < n := by omega
      have hlt0 : (0 : Int) ≤ k := by omega
      have hkc : (k : Int) ≤ c := by have := HC.out; omega
      have HROW := Lib.hid (show wr.rangeAt b (q + k * 8) [.int .i64 r1, .int .i64 r2, .int .i64 r3, .int .i64 r4, .int .i64 r5, .int .i64 r6, .int .u64 r7, .int .u64 r8] from hrow)
      clear hr hrow
      have LA := Lib.hid (show ∀ W, Bel wr W → Calls Tryz.prog 42 #[.slice (some ⟨b, q, none⟩) k c] W fun e w' => e = .returned (.int .i64 (bef 0 l k)) ∧ W = w' from fun W hb => by
        have := lastR (some ⟨b, q, none⟩) k c (l.take k) W ((HR.out.bel (hh.out.trans hb)).part hk) (by omega)
        rw [bef_take] at this
        exact this)
      obtain ⟨bf, hbf⟩ : ∃ bf, bef 0 l k = bf := ⟨_, rfl⟩
      have HBF := Lib.hid hbf
      rw [hbf] at LA HAT
      clear hbf
      obtain ⟨E, hE⟩ : ∃ E, qE bf (r1, r2, r3, r4, r5, r6, r7, r8) = E := ⟨_, rfl⟩
      have HE := Lib.hid hE
      have ON := Lib.hid (show ∀ W, Calls Tryz.prog 41 #[.agg #[.int .i64 r1, .int .i64 r2, .int .i64 r3, .int .i64 r4, .int .i64 r5, .int .i64 r6, .int .u64 r7, .int .u64 r8], .int .i64 bf] W fun e w' => e = .returned (.int .i64 E) ∧ Bel W w' from fun W => by
        have := oneR bf r1 r2 r3 r4 r5 r6 r7 r8 W
        rw [HE.out] at this
        exact this)
      rw [hE] at HAT
      clear hE
      go_upto_region 6 with fail
      refine wp_region_held_drew (S := fun Vx => Bel wr Vx) (by kernel_rfl) (Bel.refl _).drew (fun hS0 => ?_)
      obtain ⟨w6, hw6⟩ : ∃ w6, World.drew wr = w6 := ⟨_, rfl⟩
      rw [hw6] at hS0 ⊢
      clear hw6
      refine wpAnyH_take (i := 0) (oi := { dst := some 17, op := .move (.tmp 0), type := 22, pos := "ref.go:57", after := #[], guard := none }) (v := .slice (some ⟨b, q, none⟩) n c) rfl (by kernel_rfl) (by kernel_rfl) (by kernel_rfl) (fun _ _ _ h => h) (Or.inl ⟨by rfl, by intro w hSw; clear hSw; go_simp⟩) hS0 ?_
      try simp only [Act.put, List.setIfInBounds_toArray, List.set_cons_zero, List.set_cons_succ]
      refine wpAnyH_take (i := 1) (oi := { dst := some 18, op := .move (.tmp 4), type := 3, pos := "ref.go:57", after := #[], guard := none }) (v := .int .i64 k) rfl (by kernel_rfl) (by kernel_rfl) (by kernel_rfl) (fun _ _ _ h => h) (Or.inl ⟨by rfl, by intro w hSw; clear hSw; go_simp⟩) hS0 ?_
      try simp only [Act.put, List.setIfInBounds_toArray, List.set_cons_zero, List.set_cons_succ]
      refine wpAnyH_take (i := 2) (oi := { dst := some 19, op := .indexAddr 22 (.tmp 17) (.tmp 18), type := 0, pos := "ref.go:57", after := #[{ on := 0, ground := .data }, { on := 1, ground := .data }], guard := none }) (v := .pointer (some ⟨b, q + k * 8, none⟩)) rfl (by kernel_rfl) (by kernel_rfl) (by kernel_rfl) (fun _ _ _ h => h) (Or.inl ⟨by rfl, by intro w hSw; clear hSw; go_simp⟩) hS0 ?_
      try simp only [Act.put, List.setIfInBounds_toArray, List.set_cons_zero, List.set_cons_succ]
      refine wpAnyH_take (i := 3) (oi := { dst := some 20, op := .load 53 (.tmp 19), type := 53, pos := "ref.go:57", after := #[{ on := 2, ground := .data }], guard := none }) (v := .agg #[.int .i64 r1, .int .i64 r2, .int .i64 r3, .int .i64 r4, .int .i64 r5, .int .i64 r6, .int .u64 r7, .int .u64 r8]) rfl (by kernel_rfl) (by kernel_rfl) (by kernel_rfl) (fun _ _ _ h => h) (yieldsIf_load_mid (by rfl) _ _ rfl _ _ rfl _ _ (fun w h => Pm.rng_bel HROW.out h) Tryz.underlying53 rfl info_E) hS0 ?_
      try simp only [Act.put, List.setIfInBounds_toArray, List.set_cons_zero, List.set_cons_succ]
      refine wpAnyH_take (i := 4) (oi := { dst := some 21, op := .move (.tmp 0), type := 22, pos := "ref.go:57", after := #[], guard := none }) (v := .slice (some ⟨b, q, none⟩) n c) rfl (by kernel_rfl) (by kernel_rfl) (by kernel_rfl) (fun _ _ _ h => h) (Or.inl ⟨by rfl, by intro w hSw; clear hSw; go_simp⟩) hS0 ?_
      try simp only [Act.put, List.setIfInBounds_toArray, List.set_cons_zero, List.set_cons_succ]
      refine wpAnyH_take (i := 5) (oi := { dst := some 22, op := .move (.tmp 4), type := 3, pos := "ref.go:57", after := #[], guard := none }) (v := .int .i64 k) rfl (by kernel_rfl) (by kernel_rfl) (by kernel_rfl) (fun _ _ _ h => h) (Or.inl ⟨by rfl, by intro w hSw; clear hSw; go_simp⟩) hS0 ?_
      try simp only [Act.put, List.setIfInBounds_toArray, List.set_cons_zero, List.set_cons_succ]
      refine wpAnyH_take (i := 6) (oi := { dst := some 23, op := .slice 22 (.tmp 21) none (some (.tmp 22)) none, type := 22, pos := "ref.go:57", after := #[{ on := 4, ground := .data }, { on := 5, ground := .data }], guard := none }) (v := .slice (some ⟨b, q, none⟩) k c) rfl (by kernel_rfl) (by kernel_rfl) (by kernel_rfl) (fun _ _ _ h => h) (Or.inl ⟨by rfl, by intro w hSw; clear hSw; go_simp⟩) hS0 ?_
      try simp only [Act.put, List.setIfInBounds_toArray, List.set_cons_zero, List.set_cons_succ]
      refine Rw.still_take (i := 7) (x := { dst := some 24, op := .call { callee := .value (.func 42), args := #[.tmp 23], argTypes := #[22] }, type := 3, pos := "ref.go:57", after := #[{ on := 6, ground := .data }], guard := none }) (v := .int .i64 bf) rfl (by kernel_rfl) (by kernel_rfl) (by kernel_rfl) (fun _ _ _ h => h) ⟨by rfl, 42, #[.slice (some ⟨b, q, none⟩) k c], by intro w hSw; clear hSw; go_simp, fun w h => LA.out _ h⟩ hS0 ?_
      try simp only [Act.put, List.setIfInBounds_toArray, List.set_cons_zero, List.set_cons_succ]
      refine wpAnyH_ready (rs := [8]) (by kernel_rfl) (by simp) ?_
      refine AllReadyH.cons (o := { dst := some 25, op := .call { callee := .value (.func 41), args := #[.tmp 20, .tmp 24], argTypes := #[53, 3] }, type := 25, pos := "ref.go:57", after := #[{ on := 3, ground := .data }, { on := 7, ground := .data }, { on := 7, ground := .chain }], guard := none }) rfl (fun K hK => ?_) AllReadyH.nil
      go_simp
      refine (ON.out _).mono ?_
      rintro e v1 ⟨rfl, kb⟩
      go_wp2_with fail
      refine hK.out _ _ (hS0.trans kb) (fun hS1 => ?_)
      clear hK K
      try simp only [Act.put, List.setIfInBounds_toArray, List.set_cons_zero, List.set_cons_succ]
      refine wpAnyH_take (i := 9) (oi := { dst := some 5, op := .assign (.tmp 25), type := 25, pos := "ref.go:57", after := #[{ on := 8, ground := .data }, { on := 8, ground := .chain }, { on := 0, ground := .phase }, { on := 1, ground := .phase }, { on := 2, ground := .phase }, { on := 3, ground := .phase }, { on := 4, ground := .phase }, { on := 5, ground := .phase }, { on := 6, ground := .phase }, { on := 7, ground := .phase }, { on := 8, ground := .phase }], guard := none }) (v := .int .i64 E) rfl (by kernel_rfl) (by kernel_rfl) (by kernel_rfl) (fun _ _ _ h => h) (Or.inl ⟨by rfl, by intro w hSw; clear hSw; go_simp⟩) hS1 ?_
      try simp only [Act.put, List.setIfInBounds_toArray, List.set_cons_zero, List.set_cons_succ]
      refine wpAnyH_done (by kernel_rfl) ?_ _
      have KX := Lib.hid (hh.out.trans hS1)
      clear hS1 LA ON HROW
      by_cases h0 : E = 0
      · have h0b : (E != 0) = false := by rw [h0]; rfl
        have HZ := Lib.hid (show ∀ (j : Nat) (x : E8), j < k + 1 → l[j]? = some x → qE (bef 0 l j) x = 0 from fun j x hj hx => by
          rcases Nat.lt_or_ge j k with h' | h'
          · exact hz.out j x h' hx
          · obtain rfl : j = k := by omega
            have e := HRK.out.symm.trans hx
            injection e with e
            rw [← e, HBF.out, HE.out, h0])
        clear h0
        go_wp2_with fail
        go_roundw
        case rel => exact ⟨k + 1, by omega, by go_num, rfl, rfl, HZ, KX⟩
        case measure => simp [intOf]; omega
      · have h0b : (E != 0) = true := by rw [bne_iff_ne]; exact h0
        have hr := HAT.out h0
        subst hr
        clear h0
        go_wp2_with fail
        (try rw [Exit.noGoto_ret])
        go_ret2
        exact ⟨rfl, KX.out⟩
    · obtain rfl : k = n := by omega
      have hlt3 : ¬ (k : Int) < k := by omega
      have hr := HCE.out (fun j x hx => hz.out j x (by have := (List.getElem?_eq_some_iff.1 hx).1; have := HL.out; omega) hx)
      have SU := Lib.hid (sumR A k c l wr (HR.out.bel hh.out) hn HW.out)
      have hkk := hh
      clear HCA HCE hz hh
      by_cases hb : 4611686018427387904 < tot l
      · rw [show sumP l = (0, false) from if_pos hb] at SU
        rw [if_pos hb] at hr
        subst hr
        clear hb
        go_wp2_with fail
        refine SU.out.mono ?_
        rintro e w1 ⟨rfl, kb⟩
        have KX := Lib.hid (hkk.out.trans kb)
        clear kb SU
        go_wp2_with fail
        (try rw [Exit.noGoto_ret])
        go_ret2
        exact ⟨rfl, KX.out⟩
      · rw [show sumP l = (tot l, true) from if_neg hb] at SU
        rw [if_neg hb] at hr
        subst hr
        clear hb
        go_wp2_with fail
        refine SU.out.mono ?_
        rintro e w1 ⟨rfl, kb⟩
        have KX := Lib.hid (hkk.out.trans kb)
        clear kb SU
        go_wp2_with fail
        (try rw [Exit.noGoto_ret])
        go_ret2
        exact ⟨rfl, KX.out⟩
end Qu
end Go.Proofs.YtcefjigbaglmeaaGreat
end

section
/-
  What the reference's Total and Of tell: as the program's. Conditions: at most a billion entries; the Balances are words.
-/
namespace Go.Proofs.YtcefjigbaglmeaaGreat
open Go.RowKit Go.Shelf
set_option linter.unusedVariables false
set_option linter.unusedSimpArgs false
namespace Qu
open Kk Pm

end Qu
end Go.Proofs.YtcefjigbaglmeaaGreat
end
