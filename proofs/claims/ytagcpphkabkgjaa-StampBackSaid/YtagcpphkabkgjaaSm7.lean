/-
  StampBack: a stamp is read of its bytes, no other bytes are read so, and Compare is an order. Conditions: the bytes are bytes.
-/
import Derived.Test.YtagcpphkabkgjaaSm6
import Derived.Test.YtagcpphkabkgjaaSm7m
import Derived.Laws.StructEq
namespace Go.Proofs.Ytagcpphkabkgjaa
open Go.RowKit Go.Shelf
set_option linter.unusedVariables false
namespace Sm
open Cd

/-- The three stamps of the statement. -/
structure Tri (w : World) (p q r : Nat) (a b c d e f g h i j k l : Int) (W : World) : Prop where
  bel : Bel w W
  s : SB W p a b c d
  t : SB W q e f g h
  u : SB W r i j k l
theorem Tri.up {w W V : World} {p q r : Nat} {a b c d e f g h i j k l : Int} (x : Tri w p q r a b c d e f g h i j k l W) (hb : Bel W V) : Tri w p q r a b c d e f g h i j k l V := ⟨x.bel.trans hb, x.s.bel hb, x.t.bel hb, x.u.bel hb⟩
theorem own_read {a b c d : Int} (h : ck a b c d = 0) : Tk (enc4 a b c d) 0 none a b c d (enc4 a b c d).length none ∧ endOf (enc4 a b c d).length (enc4 a b c d).length none = (0, 0) := by
  obtain ⟨a0, a1, b0, b1, c0, c1, d0, d1, -, -, -⟩ := ck_ok h
  have := tk_enc [] [] a b c d a0 a1 b0 b1 c0 c1 d0 d1
  rw [h] at this
  simp only [List.nil_append, List.append_nil, List.length_nil, Nat.zero_add] at this
  exact ⟨this, if_neg (by omega)⟩
theorem rz0 (x : Int) : rz 0 x = x := rfl
theorem neq_stamp (x1 x2 x3 x4 : Int) : ((x1 != x1) = false) := by simp

theorem eq4 {a b c d e f g h x : Int} (m : (x == 0) = (a == e && (b == f && (c == g && d == h)))) :
    (a = e ∧ b = f ∧ c = g ∧ d = h ∧ x = 0) ∨ ((x == 0) = false ∧ ((a == e) = false ∨ (a = e ∧ (b == f) = false) ∨ (a = e ∧ b = f ∧ (c == g) = false) ∨ (a = e ∧ b = f ∧ c = g ∧ (d == h) = false))) := by
  by_cases h1 : a = e
  · by_cases h2 : b = f
    · by_cases h3 : c = g
      · by_cases h4 : d = h
        · subst h1 h2 h3 h4
          simp at m
          exact .inl ⟨rfl, rfl, rfl, rfl, m⟩
        · rw [beq_eq_false_iff_ne.2 h4, Bool.and_false, Bool.and_false, Bool.and_false] at m
          exact .inr ⟨m, .inr (.inr (.inr ⟨h1, h2, h3, beq_eq_false_iff_ne.2 h4⟩))⟩
      · rw [beq_eq_false_iff_ne.2 h3, Bool.false_and, Bool.and_false, Bool.and_false] at m
        exact .inr ⟨m, .inr (.inr (.inl ⟨h1, h2, beq_eq_false_iff_ne.2 h3⟩))⟩
    · rw [beq_eq_false_iff_ne.2 h2, Bool.false_and, Bool.and_false] at m
      exact .inr ⟨m, .inr (.inl ⟨h1, beq_eq_false_iff_ne.2 h2⟩)⟩
  · rw [beq_eq_false_iff_ne.2 h1, Bool.false_and] at m
    exact .inr ⟨m, .inl (beq_eq_false_iff_ne.2 h1)⟩

set_option maxRecDepth 20000 in
set_option maxHeartbeats 4000000 in
theorem backLaw (a b c d e f g h' i j k l : Int) (A : Option Addr) (n m : Nat) (raw : List Int) (w : World) (hn : n ≤ 9223372036854775807) (hr : Sl w A n m raw) (hb : Bytes raw) :
    Calls Try.prog 7 #[stV a b c d, stV e f g h', stV i j k l, .slice A n m] w fun r w' => r = .returned (.bool true) ∧ Bel w w' := by
  have KN := Lib.hid (fun W => knownS W)
  have HR := Lib.hid hr
  have HB := Lib.hid hb
  have HL := Lib.hid hr.len
  have uS := Try.underlying23
  have T0 : Tri w w.heap.size (w.heap.size + 1) (w.heap.size + 1 + 1) a b c d e f g h' i j k l (((w.alloc (.cells #[.int .i64 a, .int .i64 b, .int .i64 c, .int .i64 d] 23)).alloc (.cells #[.int .i64 e, .int .i64 f, .int .i64 g, .int .i64 h'] 23)).alloc (.cells #[.int .i64 i, .int .i64 j, .int .i64 k, .int .i64 l] 23)) := by
    have q0 := Blk.new (w.alloc (.cells #[.int .i64 a, .int .i64 b, .int .i64 c, .int .i64 d] 23)) #[.int .i64 e, .int .i64 f, .int .i64 g, .int .i64 h'] 23
    rw [World.size_alloc] at q0
    have r0 := Blk.new ((w.alloc (.cells #[.int .i64 a, .int .i64 b, .int .i64 c, .int .i64 d] 23)).alloc (.cells #[.int .i64 e, .int .i64 f, .int .i64 g, .int .i64 h'] 23)) #[.int .i64 i, .int .i64 j, .int .i64 k, .int .i64 l] 23
    rw [World.size_alloc, World.size_alloc] at r0
    exact ⟨(((Bel.refl w).alloc _).alloc _).alloc _, ((Blk.new w _ _).alloc _).alloc _, q0.alloc _, r0⟩
  have T0 := Lib.hid T0
  have BY := Lib.hid (fun V => bytes a b c d V)
  have C1 := Lib.hid (fun V => compareC a b c d e f g h' V)
  have C2 := Lib.hid (fun V => compareC e f g h' i j k l V)
  have C3 := Lib.hid (fun V => compareC a b c d i j k l V)
  have C4 := Lib.hid (fun V => compareC e f g h' a b c d V)
  have CK := Lib.hid (fun V => checkC a b c d V)
  have CM := Lib.hid (And.intro (cmp_neg a b c d e f g h') (And.intro (cmp_zero a b c d e f g h') (And.intro (cmp_range a b c d e f g h') (cmp_trans a b c d e f g h' i j k l))))
  obtain ⟨x1, hx1⟩ : ∃ x, cmp a b c d e f g h' = x := ⟨_, rfl⟩
  obtain ⟨x2, hx2⟩ : ∃ x, cmp e f g h' i j k l = x := ⟨_, rfl⟩
  obtain ⟨x3, hx3⟩ : ∃ x, cmp a b c d i j k l = x := ⟨_, rfl⟩
  obtain ⟨x4, hx4⟩ : ∃ x, cmp e f g h' a b c d = x := ⟨_, rfl⟩
  rw [hx1] at C1
  rw [hx2] at C2
  rw [hx3] at C3
  rw [hx4] at C4
  rw [hx1, hx2, hx3, hx4] at CM
  obtain ⟨E, hE⟩ : ∃ E, ck a b c d = E := ⟨_, rfl⟩
  have HE := Lib.hid hE
  obtain ⟨zs, hzs⟩ : ∃ zs, bytesN a b c d = zs := ⟨_, rfl⟩
  rw [hE, hzs] at BY
  rw [hE] at CK
  have OR := Lib.hid (fun h0 : E = 0 => show Tk zs 0 none a b c d zs.length none ∧ endOf zs.length zs.length none = (0, 0) ∧ Bytes zs ∧ zs.length ≤ 40 by
    have h1 := hE.trans h0
    have hz : zs = enc4 a b c d := by rw [← hzs]; unfold bytesN; rw [if_pos h1]
    have := own_read h1
    rw [← hz] at this
    refine ⟨this.1, this.2, ?_, ?_⟩
    · rw [hz]; exact enc4_bytes h1
    · rw [hz]; exact enc4_len a b c d)
  clear hr hb hx1 hx2 hx3 hx4 hE hzs
  go_enter Try.func7, Try.ntmps7
  go_upto_region 1 with fail
  obtain ⟨W, hW⟩ : ∃ W, ((w.alloc (.cells #[.int .i64 a, .int .i64 b, .int .i64 c, .int .i64 d] 23)).alloc (.cells #[.int .i64 e, .int .i64 f, .int .i64 g, .int .i64 h'] 23)).alloc (.cells #[.int .i64 i, .int .i64 j, .int .i64 k, .int .i64 l] 23) = W := ⟨_, rfl⟩
  obtain ⟨p, hp⟩ : ∃ p, w.heap.size = p := ⟨_, rfl⟩
  obtain ⟨q, hq⟩ : ∃ q, p + 1 = q := ⟨_, rfl⟩
  obtain ⟨r, hr⟩ : ∃ r, q + 1 = r := ⟨_, rfl⟩
  rw [hW, hp, hq, hr] at T0
  rw [hW, hp, hq, hr]
  clear hW hp hq hr
  go_wp2_with fail
  refine (KN.out _).mono ?_
  rintro e' w1 ⟨rfl, kb⟩
  have T1 := Lib.hid (T0.out.up kb)
  clear kb T0
  have cs0 := T1.out.s.cell 0 rfl
  have cs1 := T1.out.s.cell 1 rfl
  have cs2 := T1.out.s.cell 2 rfl
  have cs3 := T1.out.s.cell 3 rfl
  go_wp2_with fail
  refine (BY.out _).mono ?_
  rintro e' w2 ⟨v2, rfl, hf⟩
  obtain ⟨A2, m2, rfl, hs2⟩ := hf.sl
  have T2 := Lib.hid (T1.out.up hf.2)
  have S2 := Lib.hid hs2
  clear hf hs2 T1
  clear cs0 cs1 cs2 cs3
  go_upto_if 28 with fail
  go_cut [] (fun wx => Hid (Tri w p q r a b c d e f g h' i j k l wx))
  case first =>
    by_cases h0 : E = 0
    · subst h0
      obtain ⟨o1, o2, o3, o4⟩ := OR.out rfl
      have RD := Lib.hid (read A2 zs.length m2 zs a b c d zs.length none 0 0 w2 S2.out (by omega) o3 o1 o2)
      rw [rz0, rz0, rz0, rz0] at RD
      clear o1 o2 o3 o4
      go_wp2_with fail
      refine (RD.out).mono ?_
      rintro e' w3 ⟨rfl, kb⟩
      have T3 := Lib.hid (T2.out.up kb)
      clear kb RD T2
      have G0 : Blk ((w3.alloc (.cells #[.int .i64 a, .int .i64 b, .int .i64 c, .int .i64 d] 23)).alloc (.cells #[.int .i64 0, .int .i64 0] 33)) w3.heap.size #[.int .i64 a, .int .i64 b, .int .i64 c, .int .i64 d] 23 := (Blk.new w3 _ _).alloc _
      have H0 := Blk.new (w3.alloc (.cells #[.int .i64 a, .int .i64 b, .int .i64 c, .int .i64 d] 23)) #[.int .i64 0, .int .i64 0] 33
      rw [World.size_alloc] at H0
      have KK := ((Bel.refl w3).alloc (.cells #[.int .i64 a, .int .i64 b, .int .i64 c, .int .i64 d] 23)).alloc (.cells #[.int .i64 0, .int .i64 0] 33)
      go_upto_region 5 with fail
      obtain ⟨Wx, hW⟩ : ∃ W, (w3.alloc (.cells #[.int .i64 a, .int .i64 b, .int .i64 c, .int .i64 d] 23)).alloc (.cells #[.int .i64 0, .int .i64 0] 33) = W := ⟨_, rfl⟩
      obtain ⟨gx, hg⟩ : ∃ g, w3.heap.size = g := ⟨_, rfl⟩
      obtain ⟨kx, hk⟩ : ∃ k, gx + 1 = k := ⟨_, rfl⟩
      rw [hW, hg] at G0
      rw [hW, hg, hk] at H0
      rw [hW] at KK
      rw [hW, hg, hk]
      have Tx := Lib.hid (T3.out.up KK)
      have KBx := Lib.hid KK
      have Gx := Lib.hid G0
      have Hx := Lib.hid H0
      clear hW hg hk G0 H0 KK
      have x0 := Gx.out.cell 0 rfl
      have x1' := Gx.out.cell 1 rfl
      have x2' := Gx.out.cell 2 rfl
      have x3' := Gx.out.cell 3 rfl
      have y0 := Hx.out.cell 0 rfl
      have y1 := Hx.out.cell 1 rfl
      have cs0 := Tx.out.s.cell 0 rfl
      have cs1 := Tx.out.s.cell 1 rfl
      have cs2 := Tx.out.s.cell 2 rfl
      have cs3 := Tx.out.s.cell 3 rfl
      go_wp2_with fail
      refine (CK.out _).mono ?_
      rintro e' w4 ⟨rfl, kb⟩
      have T4 := Lib.hid (Tx.out.up kb)
      clear kb
      go_wp2_with fail
      go_meet
      exact T4
    · have h1 : (E == 0) = false := beq_eq_false_iff_ne.2 h0
      clear h0
      go_wp2_with fail
      go_meet
      exact T2
  case rest =>
    have T2 := hcut
    clear hcut S2 BY CK OR
    go_upto_if 49 with fail
    go_cut [] (fun wx => Hid (Tri w p q r a b c d e f g h' i j k l wx))
    case first =>
      by_cases h0 : n ≤ 100
      · have h0' : (n : Int) ≤ 100 := by omega
        obtain ⟨y1, y2, y3, y4, k', f', o1, o2, o3, o4⟩ := tk_of raw HB.out 0 (Nat.zero_le _)
        obtain ⟨e1, e2, he⟩ : ∃ e1 e2, endOf raw.length k' f' = (e1, e2) := ⟨_, _, rfl⟩
        have RD := Lib.hid (read A n m raw y1 y2 y3 y4 k' f' e1 e2 wc (HR.out.bel T2.out.bel) (by omega) HB.out o1 he)
        have OO := Lib.hid (fun h1 : e1 = 0 => show e2 = 0 ∧ ck y1 y2 y3 y4 = 0 ∧ bytesN y1 y2 y3 y4 = raw by
          obtain ⟨r1, r2, r3⟩ := end_e2 he o3 h1
          obtain ⟨r4, r5⟩ := o4 r2
          refine ⟨r1, r4, ?_⟩
          unfold bytesN
          rw [if_pos r4]
          rw [List.take_zero, List.nil_append, List.take_of_length_le r3] at r5
          exact r5)
        clear o1 o2 o3 o4 he
        obtain ⟨z1, hz1⟩ : ∃ z, rz e1 y1 = z := ⟨_, rfl⟩
        obtain ⟨z2, hz2⟩ : ∃ z, rz e1 y2 = z := ⟨_, rfl⟩
        obtain ⟨z3, hz3⟩ : ∃ z, rz e1 y3 = z := ⟨_, rfl⟩
        obtain ⟨z4, hz4⟩ : ∃ z, rz e1 y4 = z := ⟨_, rfl⟩
        rw [hz1, hz2, hz3, hz4] at RD
        have HZ := Lib.hid (fun h1 : e1 = 0 => show z1 = y1 ∧ z2 = y2 ∧ z3 = y3 ∧ z4 = y4 from ⟨by rw [← hz1, h1, rz0], by rw [← hz2, h1, rz0], by rw [← hz3, h1, rz0], by rw [← hz4, h1, rz0]⟩)
        clear hz1 hz2 hz3 hz4
        go_wp2_with fail
        refine (RD.out).mono ?_
        rintro e' w3 ⟨rfl, kb⟩
        have T3 := Lib.hid (T2.out.up kb)
        clear kb RD T2
        have G0 : Blk ((w3.alloc (.cells #[.int .i64 z1, .int .i64 z2, .int .i64 z3, .int .i64 z4] 23)).alloc (.cells #[.int .i64 e1, .int .i64 e2] 33)) w3.heap.size #[.int .i64 z1, .int .i64 z2, .int .i64 z3, .int .i64 z4] 23 := (Blk.new w3 _ _).alloc _
        have H0 := Blk.new (w3.alloc (.cells #[.int .i64 z1, .int .i64 z2, .int .i64 z3, .int .i64 z4] 23)) #[.int .i64 e1, .int .i64 e2] 33
        rw [World.size_alloc] at H0
        have KK := ((Bel.refl w3).alloc (.cells #[.int .i64 z1, .int .i64 z2, .int .i64 z3, .int .i64 z4] 23)).alloc (.cells #[.int .i64 e1, .int .i64 e2] 33)
        go_upto_region 9 with fail
        obtain ⟨Wx, hW⟩ : ∃ W, (w3.alloc (.cells #[.int .i64 z1, .int .i64 z2, .int .i64 z3, .int .i64 z4] 23)).alloc (.cells #[.int .i64 e1, .int .i64 e2] 33) = W := ⟨_, rfl⟩
        obtain ⟨gx, hg⟩ : ∃ g, w3.heap.size = g := ⟨_, rfl⟩
        obtain ⟨kx, hk⟩ : ∃ k, gx + 1 = k := ⟨_, rfl⟩
        rw [hW, hg] at G0
        rw [hW, hg, hk] at H0
        rw [hW] at KK
        rw [hW, hg, hk]
        have Tx := Lib.hid (T3.out.up KK)
        have KBx := Lib.hid KK
        have Gx := Lib.hid G0
        have Hx := Lib.hid H0
        clear hW hg hk G0 H0 KK
        have y0 := Hx.out.cell 0 rfl
        have y1' := Hx.out.cell 1 rfl
        by_cases h1 : e1 = 0
        · obtain ⟨rfl, q1, q2⟩ := OO.out h1
          obtain ⟨rfl, rfl, rfl, rfl⟩ := HZ.out h1
          subst h1
          have BZ := Lib.hid (fun V => bytes z1 z2 z3 z4 V)
          rw [q1, q2] at BZ
          clear q1 q2 OO HZ
          have x0 := Gx.out.cell 0 rfl
          have x1' := Gx.out.cell 1 rfl
          have x2' := Gx.out.cell 2 rfl
          have x3' := Gx.out.cell 3 rfl
          go_wp2_with fail
          refine (BZ.out _).mono ?_
          rintro e' w4 ⟨v4, rfl, hf⟩
          obtain ⟨A4, m4, rfl, hs4⟩ := hf.sl
          have T4 := Lib.hid (Tx.out.up hf.2)
          have SM := Lib.hid (same A4 A raw.length m4 n m raw w4 hs4.ints (HR.out.bel T4.out.bel).ints)
          clear hf hs4 BZ
          go_wp2_with fail
          refine (SM.out).mono ?_
          rintro e' w5 ⟨rfl, rfl⟩
          go_wp2_with fail
          go_meet
          exact T4
        · have h1' : (e1 == 0) = false := beq_eq_false_iff_ne.2 h1
          clear h1 OO HZ
          go_wp2_with fail
          go_meet
          exact Tx
      · have h0' : ¬ (n : Int) ≤ 100 := by omega
        go_wp2_with fail
        go_meet
        exact T2
    case rest =>
      have T2 := hcut
      clear hcut HR HB HL
      go_upto_region 13 with fail
      refine wp_region_held_drew (S := Tri w p q r a b c d e f g h' i j k l) (by kernel_rfl) (T2.out.up (Bel.refl _).drew) (fun hS0 => ?_)
      obtain ⟨w7, hw7⟩ : ∃ w7, World.drew wc = w7 := ⟨_, rfl⟩
      rw [hw7] at hS0 ⊢
      clear hw7 T2
      refine wpAnyH_take (i := 0) (oi := { dst := some 71, op := .load 23 (.tmp 4), type := 23, pos := "outright.go:98", after := #[], guard := none }) (v := stV a b c d) rfl (by kernel_rfl) (by kernel_rfl) (by kernel_rfl) (fun _ _ _ h => h) (yieldsIf_load_mid (by rfl) _ _ rfl _ _ rfl _ _ (fun w h => h.s.rng) uS rfl (info_st4 a b c d)) hS0 ?_
      try simp only [Act.put, List.setIfInBounds_toArray, List.set_cons_zero, List.set_cons_succ]
      refine wpAnyH_take (i := 1) (oi := { dst := some 72, op := .load 23 (.tmp 5), type := 23, pos := "outright.go:98", after := #[], guard := none }) (v := stV e f g h') rfl (by kernel_rfl) (by kernel_rfl) (by kernel_rfl) (fun _ _ _ h => h) (yieldsIf_load_mid (by rfl) _ _ rfl _ _ rfl _ _ (fun w h => h.t.rng) uS rfl (info_st4 e f g h')) hS0 ?_
      try simp only [Act.put, List.setIfInBounds_toArray, List.set_cons_zero, List.set_cons_succ]
      refine wpAnyH_take (i := 3) (oi := { dst := some 74, op := .load 23 (.tmp 5), type := 23, pos := "outright.go:98", after := #[], guard := none }) (v := stV e f g h') rfl (by kernel_rfl) (by kernel_rfl) (by kernel_rfl) (fun _ _ _ h => h) (yieldsIf_load_mid (by rfl) _ _ rfl _ _ rfl _ _ (fun w h => h.t.rng) uS rfl (info_st4 e f g h')) hS0 ?_
      try simp only [Act.put, List.setIfInBounds_toArray, List.set_cons_zero, List.set_cons_succ]
      refine wpAnyH_take (i := 4) (oi := { dst := some 75, op := .load 23 (.tmp 6), type := 23, pos := "outright.go:98", after := #[], guard := none }) (v := stV i j k l) rfl (by kernel_rfl) (by kernel_rfl) (by kernel_rfl) (fun _ _ _ h => h) (yieldsIf_load_mid (by rfl) _ _ rfl _ _ rfl _ _ (fun w h => h.u.rng) uS rfl (info_st4 i j k l)) hS0 ?_
      try simp only [Act.put, List.setIfInBounds_toArray, List.set_cons_zero, List.set_cons_succ]
      refine wpAnyH_ready (rs := [2]) (by kernel_rfl) (by simp) ?_
      refine AllReadyH.cons (o := { dst := some 73, op := .call { callee := .value (.func 40), args := #[.tmp 71, .tmp 72], argTypes := #[23, 23] }, type := 3, pos := "outright.go:98", after := #[{ on := 0, ground := .data }, { on := 1, ground := .data }], guard := none }) rfl (fun K hK => ?_) AllReadyH.nil
      go_simp
      refine (C1.out _).mono ?_
      rintro e v1 ⟨rfl, kb0⟩
      go_wp2_with fail
      refine hK.out _ _ (hS0.up kb0) (fun hS1 => ?_)
      clear hK K
      try simp only [Act.put, List.setIfInBounds_toArray, List.set_cons_zero, List.set_cons_succ]
      refine wpAnyH_ready (rs := [5]) (by kernel_rfl) (by simp) ?_
      refine AllReadyH.cons (o := { dst := some 76, op := .call { callee := .value (.func 40), args := #[.tmp 74, .tmp 75], argTypes := #[23, 23] }, type := 3, pos := "outright.go:98", after := #[{ on := 3, ground := .data }, { on := 4, ground := .data }, { on := 2, ground := .chain }], guard := none }) rfl (fun K hK => ?_) AllReadyH.nil
      go_simp
      refine (C2.out _).mono ?_
      rintro e v2 ⟨rfl, kb1⟩
      go_wp2_with fail
      refine hK.out _ _ (hS1.up kb1) (fun hS2 => ?_)
      clear hK K
      try simp only [Act.put, List.setIfInBounds_toArray, List.set_cons_zero, List.set_cons_succ]
      refine wpAnyH_take (i := 6) (oi := { dst := some 18, op := .assign (.tmp 73), type := 3, pos := "outright.go:98", after := #[{ on := 2, ground := .data }, { on := 5, ground := .chain }, { on := 0, ground := .phase }, { on := 1, ground := .phase }, { on := 2, ground := .phase }, { on := 3, ground := .textOnly .lateStores }, { on := 4, ground := .textOnly .lateStores }, { on := 5, ground := .textOnly .lateStoresUnsure }], guard := none }) (v := .int .i64 x1) rfl (by kernel_rfl) (by kernel_rfl) (by kernel_rfl) (fun _ _ _ h => h) (Or.inl ⟨by rfl, by intro w hSw; clear hSw; go_simp⟩) hS2 ?_
      try simp only [Act.put, List.setIfInBounds_toArray, List.set_cons_zero, List.set_cons_succ]
      refine wpAnyH_take (i := 7) (oi := { dst := some 19, op := .assign (.tmp 76), type := 3, pos := "outright.go:98", after := #[{ on := 5, ground := .data }, { on := 6, ground := .chain }, { on := 0, ground := .phase }, { on := 1, ground := .phase }, { on := 2, ground := .phase }, { on := 3, ground := .phase }, { on := 4, ground := .phase }, { on := 5, ground := .phase }, { on := 6, ground := .phase }], guard := none }) (v := .int .i64 x2) rfl (by kernel_rfl) (by kernel_rfl) (by kernel_rfl) (fun _ _ _ h => h) (Or.inl ⟨by rfl, by intro w hSw; clear hSw; go_simp⟩) hS2 ?_
      try simp only [Act.put, List.setIfInBounds_toArray, List.set_cons_zero, List.set_cons_succ]
      refine wpAnyH_done (by kernel_rfl) ?_ _
      have T8 := Lib.hid hS2
      clear hS0 hS1 hS2 kb0 kb1
      obtain ⟨m1, m2, m3, m4⟩ := CM.out
      have cs0 := T8.out.s.cell 0 rfl
      have cs1 := T8.out.s.cell 1 rfl
      have cs2 := T8.out.s.cell 2 rfl
      have cs3 := T8.out.s.cell 3 rfl
      have ct0 := T8.out.t.cell 0 rfl
      have ct1 := T8.out.t.cell 1 rfl
      have ct2 := T8.out.t.cell 2 rfl
      have ct3 := T8.out.t.cell 3 rfl
      have cu0 := T8.out.u.cell 0 rfl
      have cu1 := T8.out.u.cell 1 rfl
      have cu2 := T8.out.u.cell 2 rfl
      have cu3 := T8.out.u.cell 3 rfl
      obtain ⟨m31, m32⟩ := m3
      have hw : IntKind.i64.wrap (-x4) = x1 := by rw [m1, Int.neg_neg]; exact IntWalk.i64_in _ (by omega)
      have M4 := Lib.hid (show x1 ≤ 0 → x2 ≤ 0 → x3 ≤ 0 from fun u1 u2 => m4 (by omega) (by omega))
      have M2 := Lib.hid (eq4 m2)
      have HW := Lib.hid hw
      clear m1 m4 m2 hw
      by_cases h1 : 0 < x1
      · go_wp2_with fail
        refine (C4.out _).mono ?_
        rintro e9 w9 ⟨rfl, kb⟩
        have T9 := Lib.hid (T8.out.up kb)
        clear kb cs0 cs1 cs2 cs3 ct0 ct1 ct2 ct3 cu0 cu1 cu2 cu3
        rcases M2.out with ⟨e1, e2, e3, e4, e5⟩ | ⟨e0, d1 | ⟨e1, d1⟩ | ⟨e1, e2, d1⟩ | ⟨e1, e2, e3, d1⟩⟩
        · subst e1 e2 e3 e4
          subst e5
          have cs0 := T9.out.s.cell 0 rfl
          have cs1 := T9.out.s.cell 1 rfl
          have cs2 := T9.out.s.cell 2 rfl
          have cs3 := T9.out.s.cell 3 rfl
          have ct0 := T9.out.t.cell 0 rfl
          have ct1 := T9.out.t.cell 1 rfl
          have ct2 := T9.out.t.cell 2 rfl
          have ct3 := T9.out.t.cell 3 rfl
          have hw := HW.out
          go_wp2_with fail
          go_ret
          exact ⟨rfl, T9.out.bel⟩
        · have cs0 := T9.out.s.cell 0 rfl
          have cs1 := T9.out.s.cell 1 rfl
          have cs2 := T9.out.s.cell 2 rfl
          have cs3 := T9.out.s.cell 3 rfl
          have ct0 := T9.out.t.cell 0 rfl
          have ct1 := T9.out.t.cell 1 rfl
          have ct2 := T9.out.t.cell 2 rfl
          have ct3 := T9.out.t.cell 3 rfl
          have hw := HW.out
          go_wp2_with fail
          go_ret
          exact ⟨rfl, T9.out.bel⟩
        · subst e1
          have cs0 := T9.out.s.cell 0 rfl
          have cs1 := T9.out.s.cell 1 rfl
          have cs2 := T9.out.s.cell 2 rfl
          have cs3 := T9.out.s.cell 3 rfl
          have ct0 := T9.out.t.cell 0 rfl
          have ct1 := T9.out.t.cell 1 rfl
          have ct2 := T9.out.t.cell 2 rfl
          have ct3 := T9.out.t.cell 3 rfl
          have hw := HW.out
          go_wp2_with fail
          go_ret
          exact ⟨rfl, T9.out.bel⟩
        · subst e1 e2
          have cs0 := T9.out.s.cell 0 rfl
          have cs1 := T9.out.s.cell 1 rfl
          have cs2 := T9.out.s.cell 2 rfl
          have cs3 := T9.out.s.cell 3 rfl
          have ct0 := T9.out.t.cell 0 rfl
          have ct1 := T9.out.t.cell 1 rfl
          have ct2 := T9.out.t.cell 2 rfl
          have ct3 := T9.out.t.cell 3 rfl
          have hw := HW.out
          go_wp2_with fail
          go_ret
          exact ⟨rfl, T9.out.bel⟩
        · subst e1 e2 e3
          have cs0 := T9.out.s.cell 0 rfl
          have cs1 := T9.out.s.cell 1 rfl
          have cs2 := T9.out.s.cell 2 rfl
          have cs3 := T9.out.s.cell 3 rfl
          have ct0 := T9.out.t.cell 0 rfl
          have ct1 := T9.out.t.cell 1 rfl
          have ct2 := T9.out.t.cell 2 rfl
          have ct3 := T9.out.t.cell 3 rfl
          have hw := HW.out
          go_wp2_with fail
          go_ret
          exact ⟨rfl, T9.out.bel⟩
      · by_cases h2 : 0 < x2
        · go_wp2_with fail
          refine (C4.out _).mono ?_
          rintro e9 w9 ⟨rfl, kb⟩
          have T9 := Lib.hid (T8.out.up kb)
          clear kb cs0 cs1 cs2 cs3 ct0 ct1 ct2 ct3 cu0 cu1 cu2 cu3
          rcases M2.out with ⟨e1, e2, e3, e4, e5⟩ | ⟨e0, d1 | ⟨e1, d1⟩ | ⟨e1, e2, d1⟩ | ⟨e1, e2, e3, d1⟩⟩
          · subst e1 e2 e3 e4
            subst e5
            have cs0 := T9.out.s.cell 0 rfl
            have cs1 := T9.out.s.cell 1 rfl
            have cs2 := T9.out.s.cell 2 rfl
            have cs3 := T9.out.s.cell 3 rfl
            have ct0 := T9.out.t.cell 0 rfl
            have ct1 := T9.out.t.cell 1 rfl
            have ct2 := T9.out.t.cell 2 rfl
            have ct3 := T9.out.t.cell 3 rfl
            have hw := HW.out
            go_wp2_with fail
            go_ret
            exact ⟨rfl, T9.out.bel⟩
          · have cs0 := T9.out.s.cell 0 rfl
            have cs1 := T9.out.s.cell 1 rfl
            have cs2 := T9.out.s.cell 2 rfl
            have cs3 := T9.out.s.cell 3 rfl
            have ct0 := T9.out.t.cell 0 rfl
            have ct1 := T9.out.t.cell 1 rfl
            have ct2 := T9.out.t.cell 2 rfl
            have ct3 := T9.out.t.cell 3 rfl
            have hw := HW.out
            go_wp2_with fail
            go_ret
            exact ⟨rfl, T9.out.bel⟩
          · subst e1
            have cs0 := T9.out.s.cell 0 rfl
            have cs1 := T9.out.s.cell 1 rfl
            have cs2 := T9.out.s.cell 2 rfl
            have cs3 := T9.out.s.cell 3 rfl
            have ct0 := T9.out.t.cell 0 rfl
            have ct1 := T9.out.t.cell 1 rfl
            have ct2 := T9.out.t.cell 2 rfl
            have ct3 := T9.out.t.cell 3 rfl
            have hw := HW.out
            go_wp2_with fail
            go_ret
            exact ⟨rfl, T9.out.bel⟩
          · subst e1 e2
            have cs0 := T9.out.s.cell 0 rfl
            have cs1 := T9.out.s.cell 1 rfl
            have cs2 := T9.out.s.cell 2 rfl
            have cs3 := T9.out.s.cell 3 rfl
            have ct0 := T9.out.t.cell 0 rfl
            have ct1 := T9.out.t.cell 1 rfl
            have ct2 := T9.out.t.cell 2 rfl
            have ct3 := T9.out.t.cell 3 rfl
            have hw := HW.out
            go_wp2_with fail
            go_ret
            exact ⟨rfl, T9.out.bel⟩
          · subst e1 e2 e3
            have cs0 := T9.out.s.cell 0 rfl
            have cs1 := T9.out.s.cell 1 rfl
            have cs2 := T9.out.s.cell 2 rfl
            have cs3 := T9.out.s.cell 3 rfl
            have ct0 := T9.out.t.cell 0 rfl
            have ct1 := T9.out.t.cell 1 rfl
            have ct2 := T9.out.t.cell 2 rfl
            have ct3 := T9.out.t.cell 3 rfl
            have hw := HW.out
            go_wp2_with fail
            go_ret
            exact ⟨rfl, T9.out.bel⟩
        · have h3 := M4.out (by omega) (by omega)
          go_wp2_with fail
          refine (C3.out _).mono ?_
          rintro e' w8 ⟨rfl, kb⟩
          have T8 := Lib.hid (T8.out.up kb)
          clear kb cs0 cs1 cs2 cs3 ct0 ct1 ct2 ct3 cu0 cu1 cu2 cu3
          have cs0 := T8.out.s.cell 0 rfl
          have cs1 := T8.out.s.cell 1 rfl
          have cs2 := T8.out.s.cell 2 rfl
          have cs3 := T8.out.s.cell 3 rfl
          have ct0 := T8.out.t.cell 0 rfl
          have ct1 := T8.out.t.cell 1 rfl
          have ct2 := T8.out.t.cell 2 rfl
          have ct3 := T8.out.t.cell 3 rfl
          have cu0 := T8.out.u.cell 0 rfl
          have cu1 := T8.out.u.cell 1 rfl
          have cu2 := T8.out.u.cell 2 rfl
          have cu3 := T8.out.u.cell 3 rfl
          go_wp2_with fail
          refine (C4.out _).mono ?_
          rintro e9 w9 ⟨rfl, kb⟩
          have T9 := Lib.hid (T8.out.up kb)
          clear kb cs0 cs1 cs2 cs3 ct0 ct1 ct2 ct3 cu0 cu1 cu2 cu3
          rcases M2.out with ⟨e1, e2, e3, e4, e5⟩ | ⟨e0, d1 | ⟨e1, d1⟩ | ⟨e1, e2, d1⟩ | ⟨e1, e2, e3, d1⟩⟩
          · subst e1 e2 e3 e4
            subst e5
            have cs0 := T9.out.s.cell 0 rfl
            have cs1 := T9.out.s.cell 1 rfl
            have cs2 := T9.out.s.cell 2 rfl
            have cs3 := T9.out.s.cell 3 rfl
            have ct0 := T9.out.t.cell 0 rfl
            have ct1 := T9.out.t.cell 1 rfl
            have ct2 := T9.out.t.cell 2 rfl
            have ct3 := T9.out.t.cell 3 rfl
            have hw := HW.out
            go_wp2_with fail
            go_ret
            exact ⟨rfl, T9.out.bel⟩
          · have cs0 := T9.out.s.cell 0 rfl
            have cs1 := T9.out.s.cell 1 rfl
            have cs2 := T9.out.s.cell 2 rfl
            have cs3 := T9.out.s.cell 3 rfl
            have ct0 := T9.out.t.cell 0 rfl
            have ct1 := T9.out.t.cell 1 rfl
            have ct2 := T9.out.t.cell 2 rfl
            have ct3 := T9.out.t.cell 3 rfl
            have hw := HW.out
            go_wp2_with fail
            go_ret
            exact ⟨rfl, T9.out.bel⟩
          · subst e1
            have cs0 := T9.out.s.cell 0 rfl
            have cs1 := T9.out.s.cell 1 rfl
            have cs2 := T9.out.s.cell 2 rfl
            have cs3 := T9.out.s.cell 3 rfl
            have ct0 := T9.out.t.cell 0 rfl
            have ct1 := T9.out.t.cell 1 rfl
            have ct2 := T9.out.t.cell 2 rfl
            have ct3 := T9.out.t.cell 3 rfl
            have hw := HW.out
            go_wp2_with fail
            go_ret
            exact ⟨rfl, T9.out.bel⟩
          · subst e1 e2
            have cs0 := T9.out.s.cell 0 rfl
            have cs1 := T9.out.s.cell 1 rfl
            have cs2 := T9.out.s.cell 2 rfl
            have cs3 := T9.out.s.cell 3 rfl
            have ct0 := T9.out.t.cell 0 rfl
            have ct1 := T9.out.t.cell 1 rfl
            have ct2 := T9.out.t.cell 2 rfl
            have ct3 := T9.out.t.cell 3 rfl
            have hw := HW.out
            go_wp2_with fail
            go_ret
            exact ⟨rfl, T9.out.bel⟩
          · subst e1 e2 e3
            have cs0 := T9.out.s.cell 0 rfl
            have cs1 := T9.out.s.cell 1 rfl
            have cs2 := T9.out.s.cell 2 rfl
            have cs3 := T9.out.s.cell 3 rfl
            have ct0 := T9.out.t.cell 0 rfl
            have ct1 := T9.out.t.cell 1 rfl
            have ct2 := T9.out.t.cell 2 rfl
            have ct3 := T9.out.t.cell 3 rfl
            have hw := HW.out
            go_wp2_with fail
            go_ret
            exact ⟨rfl, T9.out.bel⟩
end Sm
end Go.Proofs.Ytagcpphkabkgjaa
