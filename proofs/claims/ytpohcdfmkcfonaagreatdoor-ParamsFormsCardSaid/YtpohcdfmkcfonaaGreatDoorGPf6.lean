/-
  What the reference's Read of params answers, given the run of the reading. Conditions: at most 10^6 bytes; the bytes are bytes.
-/
import Derived.Test.YtpohcdfmkcfonaaGreatDoorGPf6m
import Derived.Test.YtpohcdfmkcfonaaGreatDoorGPRd
import Derived.Test.YtpohcdfmkcfonaaGreatDoorQR
namespace Go.Proofs.YtpohcdfmkcfonaaGreatDoor
open Go.RowKit Go.Shelf
set_option linter.unusedVariables false
namespace Pm
open Kk

/-- The run so far. -/
structure Rn (zs : List Int) (xe : Nat → Int) (ke : Nat) (fe : Option (Int × Int)) (i : Nat) (x : Nat → Int) (k : Nat) (f : Option (Int × Int)) : Prop where
  to_ : To zs xe ke fe (11 - i) x k f
  le : i ≤ 11
  bnd : ∀ j, 0 ≤ x j ∧ x j ≤ 1000000000
  zero : ∀ j, i ≤ j → x j = 0
  ord : 2 ≤ i → x 1 ≤ x 0 ∨ ∃ p, f = some p
theorem rn_some {zs : List Int} {k : Nat} {p : Int × Int} {l m v : Int} {k' : Nat} {f' : Option (Int × Int)} (h : Cd.RN zs k (some p) l m v k' f') : f' = some p ∧ k' = k ∧ v = 0 := by
  rcases h with ⟨q, h1, h2, h3, h4⟩ | ⟨h, _⟩
  · injection h1 with h1; subst h1; exact ⟨h4, h3, h2⟩
  · cases h
/-- A step. -/
theorem Rn.next {zs : List Int} {xe : Nat → Int} {ke : Nat} {fe : Option (Int × Int)} {i : Nat} {x : Nat → Int} {k : Nat} {f : Option (Int × Int)} (h : Rn zs xe ke fe i x k f) (hi11 : i < 11) :
    ∃ v k' f1, Cd.RN zs k f (lo i) (hi i) v k' f1 ∧
      (¬ (i = 1 ∧ x 0 < v) → Rn zs xe ke fe (i + 1) (upd x i v) k' f1) ∧
      (i = 1 ∧ x 0 < v → ∀ p : Int, (f = none → p = (k : Int)) → Rn zs xe ke fe (i + 1) (upd x i v) k' (Cd.failOf f1 9 p)) := by
  obtain ⟨v, k', f1, h1, h2, h3⟩ := h.to_.next hi11
  have hlh := lohi i hi11
  have hb : ∀ j, 0 ≤ upd x i v j ∧ upd x i v j ≤ 1000000000 := fun j => by
    unfold upd
    split
    · omega
    · exact h.bnd j
  have hz : ∀ j, i + 1 ≤ j → upd x i v j = 0 := fun j hj => by rw [upd_other x v (by omega)]; exact h.zero j (by omega)
  refine ⟨v, k', f1, h1, fun hn => ?_, fun hy p hp => ?_⟩
  · by_cases ho : upd x i v 1 ≤ upd x i v 0
    · rw [if_pos ho] at h3
      exact ⟨h3, by omega, hb, hz, fun _ => .inl ho⟩
    · have hi2 : 2 ≤ i := by
        rcases Nat.lt_or_ge i 2 with hlt | hge
        · exfalso
          match i, hlt, hn, ho with
          | 0, _, hn, ho => rw [upd_at, upd_other x v (by decide), h.zero 1 (by omega)] at ho; omega
          | 1, _, hn, ho => rw [upd_at, upd_other x v (by decide)] at ho; exact hn ⟨rfl, by omega⟩
        · exact hge
      rw [upd_other x v (by omega), upd_other x v (by omega)] at ho
      rcases h.ord hi2 with h4 | ⟨p, rfl⟩
      · exact absurd h4 ho
      · obtain ⟨rfl, rfl, rfl⟩ := rn_some h1
        have e : (if upd x i 0 1 ≤ upd x i 0 0 then some p else Cd.failOf (some p) 9 (Cd.atOf k' (some p))) = some p := by split <;> rfl
        rw [e] at h3
        exact ⟨h3, by omega, hb, hz, fun _ => .inr ⟨p, rfl⟩⟩
  · obtain ⟨rfl, hlt⟩ := hy
    have ho : ¬ upd x 1 v 1 ≤ upd x 1 v 0 := by rw [upd_at, upd_other x v (by decide)]; omega
    rw [if_neg ho] at h3
    cases f with
    | none =>
      rw [hp rfl]
      have e : Cd.atOf k none = (k : Int) := rfl
      rw [e] at h3
      refine ⟨h3, by omega, hb, hz, fun _ => .inr ?_⟩
      unfold Cd.failOf
      cases f1 with
      | none => exact ⟨_, rfl⟩
      | some q => exact ⟨_, rfl⟩
    | some q =>
      obtain ⟨rfl, _, _⟩ := rn_some h1
      exact ⟨h3, by omega, hb, hz, fun _ => .inr ⟨q, rfl⟩⟩
theorem qt_cells {w : World} {b : Nat} {A : Option Addr} {n c : Nat} {zs : List Int} {k : Nat} {f : Option (Int × Int)} (h : Cd.QT w b A n c zs k f) : ∃ p : Int, w.cell? ⟨b, 1, none⟩ = some (.int .i64 p) ∧ (f = none → p = (k : Int)) := by
  obtain ⟨k2, h1, h2⟩ := h
  exact ⟨k2, h1.blk.cell 1 rfl, fun hf => by rw [h2 hf]⟩

/-- The memory of the reference's Read. -/
structure Rm7 (w : World) (r t b : Nat) (A : Option Addr) (n c : Nat) (zs : List Int) (L : Value) (i : Nat) (x : Nat → Int) (k : Nat) (f : Option (Int × Int)) (B : Nat) (W : World) : Prop where
  bel : Bel w W
  res : Blk W r (recC zr).toArray 24
  flt : Blk W t #[.int .i64 0, .int .i64 0] 34
  hr : w.heap.size ≤ r
  ht : w.heap.size ≤ t
  rt : r ≠ t
  hb : w.heap.size ≤ b
  rb : r ≠ b ∧ t ≠ b
  lt : r < B ∧ t < B ∧ b < B ∧ (0 < n → ∀ y : Addr, A = some y → y.block < B)
  qt : Cd.QT W b A n c zs k f
  row : W.ownsRow B 3 1 L i ((sofar x i).map (Value.int .i64))
  base : B ≤ W.heap.size
theorem Rm7.up {w W V : World} {r t b : Nat} {A : Option Addr} {n c : Nat} {zs : List Int} {L : Value} {i : Nat} {x : Nat → Int} {k : Nat} {f : Option (Int × Int)} {B : Nat} (h : Rm7 w r t b A n c zs L i x k f B W) (hk : Bel W V) : Rm7 w r t b A n c zs L i x k f B V :=
  ⟨h.bel.trans hk, h.res.bel hk, h.flt.bel hk, h.hr, h.ht, h.rt, h.hb, h.rb, h.lt, h.qt.bel hk, owns_bel h.row hk, Nat.le_trans h.base (Below.size hk)⟩
/-- The reader moves. -/
theorem Rm7.move {w W V : World} {r t b : Nat} {A : Option Addr} {n c : Nat} {zs : List Int} {L : Value} {i : Nat} {x : Nat → Int} {k k' : Nat} {f f' : Option (Int × Int)} {B : Nat} (h : Rm7 w r t b A n c zs L i x k f B W) (hq : Cd.QT V b A n c zs k' f') (hk : Cd.Kep (fun j => j = b) W V) : Rm7 w r t b A n c zs L i x k' f' B V := by
  have hk := kk hk
  exact ⟨Kep.bel h.bel hk (fun j hj => by rw [hj]; exact h.hb), h.res.kep hk h.rb.1, h.flt.kep hk h.rb.2, h.hr, h.ht, h.rt, h.hb, h.rb, h.lt, hq, hk.owns (fun j hj e => by have := (h.row.lt j hj).1; have := h.lt.2.2.1; omega) h.row, Nat.le_trans h.base hk.size⟩
/-- A number more. -/
theorem Rm7.grow {w W V : World} {r t b : Nat} {A : Option Addr} {n c : Nat} {zs : List Int} {L L' : Value} {i : Nat} {x y : Nat → Int} {k : Nat} {f : Option (Int × Int)} {B : Nat} (h : Rm7 w r t b A n c zs L i x k f B W) (hg : W.grownBy V L.ownBlock) (ho : V.ownsRow B 3 1 L' (i + 1) ((sofar y (i + 1)).map (Value.int .i64))) (hw : w.heap.size ≤ B) : Rm7 w r t b A n c zs L' (i + 1) y k f B V := by
  have hk : Kep (fun j => L.ownBlock = some j) W V := (Kep.refl _ W).grown hg (fun j hj _ => hj)
  have hB : ∀ j, L.ownBlock = some j → B ≤ j := fun j hj => (h.row.lt j hj).1
  exact ⟨Kep.bel h.bel hk (fun j hj => Nat.le_trans hw (hB j hj)), h.res.kep hk (fun e => by have := hB r e; have := h.lt.1; omega), h.flt.kep hk (fun e => by have := hB t e; have := h.lt.2.1; omega), h.hr, h.ht, h.rt, h.hb, h.rb, h.lt, h.qt.kep (ck hk) (fun e => by have := hB b e; have := h.lt.2.2.1; omega) (fun hn a ha e => by have := hB a.block e; have := h.lt.2.2.2 hn a ha; omega), ho, Nat.le_trans h.base hk.size⟩

set_option maxRecDepth 100000 in
set_option maxHeartbeats 8000000 in
theorem readR (A : Option Addr) (n c : Nat) (zs : List Int) (w : World) (hz : Cd.Sl w A n c zs) (hn : n ≤ 1000000) (hb : Cd.Bytes zs) (xe : Nat → Int) (ke : Nat) (fe : Option (Int × Int)) (hT : To zs xe ke fe 11 zr 0 none) :
    Calls Tryz.prog 14 #[.slice A n c] w (ReadE zs xe ke fe w) := by
  have HZ := Lib.hid hz
  have HB := Lib.hid hb
  have R0 := Lib.hid (show Rn zs xe ke fe 0 zr 0 none from ⟨hT, by omega, fun j => ⟨Int.le_refl 0, by show (0 : Int) ≤ 1000000000; decide⟩, fun j _ => rfl, fun h => by omega⟩)
  obtain ⟨W, hW⟩ : ∃ W, (w.alloc (.cells #[.int .i64 0, .int .i64 0, .int .i64 0, .int .i64 0, .int .i64 0, .int .i64 0, .int .i64 0, .int .u64 0, .int .u64 0, .int .i64 0, .int .u64 0] 24)).alloc (.cells #[.int .i64 0, .int .i64 0] 34) = W := ⟨_, rfl⟩
  have r0 : Blk W w.heap.size (recC zr).toArray 24 := by rw [← hW]; exact (Blk.new w _ _).alloc _
  have t0 : Blk W (w.heap.size + 1) #[.int .i64 0, .int .i64 0] 34 := by rw [← hW]; exact blk_at (by simp) rfl
  have BW := Lib.hid (show Bel w W by rw [← hW]; exact ((Bel.refl w).alloc _).alloc _)
  obtain ⟨r, hr⟩ : ∃ r, w.heap.size = r := ⟨_, rfl⟩
  obtain ⟨t, ht⟩ : ∃ t, r + 1 = t := ⟨_, rfl⟩
  rw [hr] at r0
  rw [hr, ht] at t0
  have RB := Lib.hid r0
  have TB := Lib.hid t0
  have HR := Lib.hid hr
  have HT := Lib.hid ht
  have HW := Lib.hid hW
  clear hz hb hT hW r0 t0 hr ht
  go_enter Tryz.func14, Tryz.ntmps14
  go_upto_region 1 with fail
  rw [HW.out, HR.out, HT.out]
  go_wp2_with fail
  refine (Cd.qNew A n c zs W (HZ.out.bel BW.out) hn HB.out).mono ?_
  rintro e w1 ⟨b, A1, c1, rfl, hbb, hq, hA, kb⟩
  have M0 : Rm7 w r t b A1 n c1 zs (.slice none 0 0) 0 zr 0 none w1.heap.size w1 := ⟨BW.out.trans kb, RB.out.bel kb, TB.out.bel kb, by rw [HR.out]; exact Nat.le_refl _, by rw [← HT.out, HR.out]; exact Nat.le_succ _, by have := HT.out; omega, Nat.le_trans (Below.size BW.out) hbb, ⟨by have := RB.out.lt; omega, by have := TB.out.lt; omega⟩, ⟨Nat.lt_of_lt_of_le RB.out.lt (Below.size kb), Nat.lt_of_lt_of_le TB.out.lt (Below.size kb), hq.blk.lt, fun h0 y hy => Nat.lt_trans (hA h0 y hy).2 hq.blk.lt⟩, ⟨0, hq, fun _ => rfl⟩, World.ownsRow_nil _ _ _ _, Nat.le_refl _⟩
  have HwB := Lib.hid (show w.heap.size ≤ w1.heap.size from Below.size M0.bel)
  obtain ⟨B, hB⟩ : ∃ B, w1.heap.size = B := ⟨_, rfl⟩
  rw [hB] at M0 HwB
  have M0 := Lib.hid M0
  clear hbb hq hA kb hB
  go_wp2_with fail
  go_loopw [5, 6] (fun s5 s6 wx => ∃ (i : Nat) (x : Nat → Int) (k : Nat) (f : Option (Int × Int)), s6 = .int .i64 i ∧ i ≤ 11 ∧ Hid (Rn zs xe ke fe i x k f ∧ Rm7 w r t b A1 n c1 zs s5 i x k f B wx)) (fun _ s6 _ => 11 - (intOf s6).toNat)
  case atStart => exact ⟨0, zr, 0, none, rfl, by omega, Lib.hid ⟨R0.out, M0.out⟩⟩
  case round =>
    obtain ⟨i, x, k, f, rfl, hi11, hh⟩ := hrel
    by_cases hlt : i < 11
    · have hlt2 : (i : Int) < 11 := by omega
      obtain ⟨v, k', f1, hrn, hno, hyes⟩ := hh.out.1.next hlt
      have HNO := Lib.hid hno
      have HYES := Lib.hid hyes
      obtain ⟨p, cp, hp⟩ := qt_cells hh.out.2.qt
      have HPK := Lib.hid hp
      have hlh := lohi i hlt
      have LS := Lib.hid (fun V => leastR V)
      have MS := Lib.hid (fun V => mostR V)
      have NN := Lib.hid (fun V (hv : Bel wr V) => Cd.tN b A1 n c1 zs k f (lo i) (hi i) v k' f1 V (hh.out.2.qt.bel hv) hrn (by omega) (by omega))
      clear hno hyes hp hrn
      go_upto_region 7 with fail
      clear cp
      go_region_with (first | (go_at_call 43; refine (LS.out _).mono ?_; rintro e v1 ⟨b1, rfl, hb1, _, kb1⟩; have kb1 := (show Bel wr v1 from ((Bel.refl wr).drew).trans kb1); have HB1 := Lib.hid hb1; have KB1 := Lib.hid kb1; have cl : v1.cell? ⟨b1, i, none⟩ = some (.int .i64 (lo i)) := ints_cell hb1 i (by exact hlt); clear hb1 kb1) | (go_at_call 44; refine (MS.out _).mono ?_; rintro e v2 ⟨b2, rfl, hb2, _, kb2⟩; have HB2 := Lib.hid hb2; have KB2 := Lib.hid kb2; have cl : v2.cell? ⟨b1, i, none⟩ = some (.int .i64 (lo i)) := ints_cell (HB1.out.bel kb2) i (by exact hlt); have cm : v2.cell? ⟨b2, i, none⟩ = some (.int .i64 (hi i)) := ints_cell hb2 i (by exact hlt); clear hb2 kb2) | (go_at_call 42; refine (NN.out _ (KB1.out.trans KB2.out)).mono ?_; rintro e v3 ⟨rfl, hq3, hk3⟩; have HQ3 := Lib.hid hq3; have HK3 := Lib.hid hk3; clear hq3 hk3))
      all_goals
        have M3 := Lib.hid ((hh.out.2.up (KB1.out.trans KB2.out)).move HQ3.out HK3.out)
        obtain ⟨AL, cL, hL, hI, _, _⟩ := ints_of_own M3.out.row
        subst hL
        have FL := Lib.hid (fun V (hv : Cd.QT V b A1 n c1 zs k' f1) => Cd.tFail b A1 n c1 zs k' f1 9 p V hv)
        clear cl cm
        by_cases h1 : i = 1
        · obtain ⟨g, o, hAL, _, c0⟩ := hI.cell (i := 0) (by omega)
          rw [sofar_at x (by omega), Nat.add_zero] at c0
          subst hAL
          subst h1
          by_cases h2 : x 0 < v
          · have d2 : decide (x 0 < v) = true := decide_eq_true h2
            have NX := Lib.hid (HYES.out ⟨rfl, h2⟩ p HPK.out)
            obtain ⟨X0, hX0⟩ : ∃ X, x 0 = X := ⟨_, rfl⟩
            rw [hX0] at c0 d2
            clear h2 hX0 hI
            go_wp2_with fail
            refine (FL.out _ M3.out.qt).mono ?_
            rintro e v4 ⟨rfl, hq4, hk4⟩
            have M4 := Lib.hid (M3.out.move hq4 hk4)
            clear hq4 hk4 c0
            have MA := Lib.hid (M4.out.up ((Bel.refl v4).alloc (.cells #[.int .i64 v] 3)))
            have cv : (World.alloc v4 (.cells #[.int .i64 v] 3)).cell? ⟨(World.heap v4).size, 0, none⟩ = some (.int .i64 v) := (Blk.new v4 _ _).cell 0 rfl
            go_wp2_with (at_builtin; refine wpList_append_int rfl _ _ rfl B _ 1 (sofar x 1) rfl MA.out.row ⟨(World.heap v4).size, 0, none⟩ v rfl cv (by omega) MA.out.base ?_; intro v' w9 hown hgrow)
            exact ⟨⟨1 + 1, upd x 1 v, k', Cd.failOf f1 9 p, by go_num, by omega, Lib.hid ⟨NX.out, MA.out.grow hgrow (by rw [sofar_next]; exact hown) HwB.out⟩⟩, by simp [intOf] <;> omega⟩
          · have d2 : decide (x 0 < v) = false := decide_eq_false h2
            have NX := Lib.hid (HNO.out (fun h => h2 h.2))
            obtain ⟨X0, hX0⟩ : ∃ X, x 0 = X := ⟨_, rfl⟩
            rw [hX0] at c0 d2
            clear h2 hX0 hI
            have MA := Lib.hid (M3.out.up ((Bel.refl v3).alloc (.cells #[.int .i64 v] 3)))
            have cv : (World.alloc v3 (.cells #[.int .i64 v] 3)).cell? ⟨(World.heap v3).size, 0, none⟩ = some (.int .i64 v) := (Blk.new v3 _ _).cell 0 rfl
            go_wp2_with (at_builtin; refine wpList_append_int rfl _ _ rfl B _ 1 (sofar x 1) rfl MA.out.row ⟨(World.heap v3).size, 0, none⟩ v rfl cv (by omega) MA.out.base ?_; intro v' w9 hown hgrow)
            exact ⟨⟨1 + 1, upd x 1 v, k', f1, by go_num, by omega, Lib.hid ⟨NX.out, MA.out.grow hgrow (by rw [sofar_next]; exact hown) HwB.out⟩⟩, by simp [intOf] <;> omega⟩
        · have e1 : ((i : Int) == 1) = false := beq_eq_false_iff_ne.2 (by omega)
          have NX := Lib.hid (HNO.out (fun h => h1 h.1))
          clear h1 hI
          have MA := Lib.hid (M3.out.up ((Bel.refl v3).alloc (.cells #[.int .i64 v] 3)))
          have cv : (World.alloc v3 (.cells #[.int .i64 v] 3)).cell? ⟨(World.heap v3).size, 0, none⟩ = some (.int .i64 v) := (Blk.new v3 _ _).cell 0 rfl
          go_wp2_with (at_builtin; refine wpList_append_int rfl _ _ rfl B _ i (sofar x i) rfl MA.out.row ⟨(World.heap v3).size, 0, none⟩ v rfl cv (by omega) MA.out.base ?_; intro v' w9 hown hgrow)
          exact ⟨⟨i + 1, upd x i v, k', f1, by go_num, by omega, Lib.hid ⟨NX.out, MA.out.grow hgrow (by rw [sofar_next]; exact hown) HwB.out⟩⟩, by simp [intOf] <;> omega⟩
    · obtain rfl : i = 11 := by omega
      obtain ⟨rfl, rfl, rfl⟩ : x = xe ∧ k = ke ∧ f = fe := hh.out.1.to_
      have hbnd := hh.out.1.bnd
      obtain ⟨⟨e1, p1⟩, hfe⟩ : ∃ q, Cd.endOf zs.length k f = q := ⟨_, rfl⟩
      have EN := Lib.hid (show Calls Tryz.prog 46 #[.pointer (some ⟨b, 0, none⟩)] wr fun e w' => e = .returned (.agg #[.int .i64 e1, .int .i64 p1]) ∧ Bel wr w' by have h := Cd.tEnd b A1 n c1 zs k f wr hh.out.2.qt; rw [hfe] at h; exact h)
      have HP0 := Lib.hid (show e1 = 0 → p1 = 0 from fun h0 => by
        have hflt : ∀ q, f = some q → q.1 ≠ 0 := by obtain ⟨k2, h1, _⟩ := hh.out.2.qt; exact h1.flt
        cases f with
        | some q => have h1 : q = (e1, p1) := hfe; exact absurd h0 (by have := hflt q rfl; rw [h1] at this; exact this)
        | none =>
          have h1 : (if k < zs.length then ((4 : Int), (k : Int)) else (0, 0)) = (e1, p1) := hfe
          by_cases hk : k < zs.length
          · rw [if_pos hk] at h1; injection h1 with h1 _; omega
          · rw [if_neg hk] at h1; injection h1 with _ h1; exact h1.symm)
      have HFE := Lib.hid hfe
      clear hfe
      go_wp2_with fail
      refine EN.out.mono ?_
      rintro e w2 ⟨rfl, k2⟩
      have M2 := Lib.hid (hh.out.2.up k2)
      clear k2
      have QB := Blk.new w2 #[.int .i64 e1, .int .i64 p1] 34
      have QL := (Bel.refl w2).alloc (.cells #[.int .i64 e1, .int .i64 p1] 34)
      go_upto_region 12 with fail
      obtain ⟨q, hq⟩ : ∃ q, w2.heap.size = q := ⟨_, rfl⟩
      obtain ⟨V, hV⟩ : ∃ V, w2.alloc (.cells #[.int .i64 e1, .int .i64 p1] 34) = V := ⟨_, rfl⟩
      rw [hV] at QB QL ⊢
      rw [hq] at QB ⊢
      have M3 := Lib.hid (M2.out.up QL)
      have Q3 := Lib.hid QB
      have HQ := Lib.hid (show r < q ∧ t < q from ⟨by rw [← hq]; exact M2.out.res.lt, by rw [← hq]; exact M2.out.flt.lt⟩)
      have c0 : V.cell? ⟨q, 0, none⟩ = some (.int .i64 e1) := QB.cell 0 rfl
      have uL := Tryz.underlying34
      have iL := rd_flt
      clear hq hV QB QL EN
      by_cases he : e1 = 0
      · subst he
        obtain rfl := HP0.out rfl
        obtain ⟨E, hE⟩ : ∃ E, E = recC x := ⟨_, rfl⟩
        have HE := Lib.hid hE
        have EI := Lib.hid (show (Tryz.prog.info? 24).map (·.size) = some E.length by rw [hE]; exact info_rec)
        have EI2 := Lib.hid (show (Tryz.prog.info? 24).map (·.size) = some E.toArray.size by rw [hE]; exact info_rec)
        have EO := Lib.hid (all_oneCell_toArray (cs := E) (by rw [hE]; exact recC_cells _))
        go_upto_region 14 with fail
        have S0d : V.drew.rangeAt q 0 [.int .i64 0, .int .i64 0] := rng_bel (rngB Q3.out) (Bel.refl V).drew
        refine wp_region_held_drew (S := fun V => V.rangeAt q 0 [.int .i64 0, .int .i64 0]) (by kernel_rfl) S0d (fun hS0 => ?_)
        obtain ⟨w6, hw6⟩ : ∃ w6, V.drew = w6 := ⟨_, rfl⟩
        have M4 := Lib.hid (M3.out.up (Bel.refl V).drew)
        rw [hw6] at hS0 M4 ⊢
        have RO := Lib.hid (show Calls Tryz.prog 35 #[u5] w6 fun e w' => e = .returned (.agg E.toArray) ∧ Bel w6 w' by
          have h := recordO B u5 x (fun j _ => ⟨(hbnd j).1, by have := (hbnd j).2; omega⟩) w6 M4.out.row
          rw [hE]
          exact h)
        clear hw6 S0d c0 hE
        refine wpAnyH_take (i := 0) (oi := { dst := some 53, op := .move (.tmp 5), type := 62, pos := "ref.go:197", after := #[], guard := none }) (v := u5) rfl (by kernel_rfl) (by kernel_rfl) (by kernel_rfl) (fun _ _ _ h => h) (Or.inl ⟨by rfl, by intro w hSw; clear hSw; go_simp⟩) hS0 ?_
        try simp only [Act.put, List.setIfInBounds_toArray, List.set_cons_zero, List.set_cons_succ]
        refine wpAnyH_take (i := 2) (oi := { dst := some 55, op := .load 34 (.tmp 9), type := 34, pos := "ref.go:197", after := #[{ on := 3, ground := .gcOnly .lateStores }], guard := none }) (v := .agg #[.int .i64 0, .int .i64 0]) rfl (by kernel_rfl) (by kernel_rfl) (by kernel_rfl) (fun _ _ _ h => h) (yieldsIf_load_mid (by rfl) _ _ rfl _ _ rfl _ _ (fun w h => h) uL rfl iL) hS0 ?_
        try simp only [Act.put, List.setIfInBounds_toArray, List.set_cons_zero, List.set_cons_succ]
        refine wpAnyH_ready (rs := [1]) (by kernel_rfl) (by simp) ?_
        refine AllReadyH.cons (o := { dst := some 54, op := .call { callee := .value (.func 35), args := #[.tmp 53], argTypes := #[62] }, type := 24, pos := "ref.go:197", after := #[{ on := 0, ground := .data }], guard := none }) rfl (fun K hK => ?_) AllReadyH.nil
        go_simp
        refine (RO.out).mono ?_
        rintro e v1 ⟨rfl, kb⟩
        go_wp2_with fail
        refine hK.out _ _ (rng_bel hS0 kb) (fun hS1 => ?_)
        clear hK K
        try simp only [Act.put, List.setIfInBounds_toArray, List.set_cons_zero, List.set_cons_succ]
        have M5 := Lib.hid (M4.out.up kb)
        obtain ⟨t1, t2⟩ := store_rec (z := x) M5.out.res
        rw [← HE.out] at t1 t2
        have T1 := Lib.hid t1
        have T2 := Lib.hid t2
        have S5 := Lib.hid (M5.out.flt.kep (kep_setCells r E 0 v1) (fun e => M5.out.rt e.symm))
        have T3 := Lib.hid (bthere S5.out 0 2 (Nat.le_refl _))
        clear t1 t2 kb
        refine wpAnyH_ready (rs := [3]) (by kernel_rfl) (by simp) ?_
        refine AllReadyH.cons (o := { dst := none, op := .store 24 (.tmp 2) (.tmp 54), type := 0, pos := "ref.go:197", after := #[{ on := 1, ground := .data }, { on := 1, ground := .chain }, { on := 0, ground := .phase }, { on := 1, ground := .phase }, { on := 2, ground := .textOnly .lateStores }], guard := none }) rfl (fun K hK => ?_) AllReadyH.nil
        rw [if_pos (by rfl)]
        refine wp_store_mid 24 (.tmp 2) (.tmp 54) rfl r 0 E.toArray rfl rfl T1.out EI2.out EO.out ?_
        refine hK.out _ _ (rng_kep hS1 (kep_setCells r _ 0 _) (by have := HQ.out; omega)) (fun hS2 => ?_)
        clear hK K
        try simp only [Act.put]
        refine wpAnyH_ready (rs := [4]) (by kernel_rfl) (by simp) ?_
        refine AllReadyH.cons (o := { dst := none, op := .store 34 (.tmp 3) (.tmp 55), type := 0, pos := "ref.go:197", after := #[{ on := 2, ground := .data }, { on := 3, ground := .chain }, { on := 0, ground := .phase }, { on := 1, ground := .phase }, { on := 2, ground := .phase }, { on := 3, ground := .phase }], guard := none }) rfl (fun K hK => ?_) AllReadyH.nil
        rw [if_pos (by rfl)]
        refine wp_store_mid 34 (.tmp 3) (.tmp 55) rfl t 0 #[.int .i64 0, .int .i64 0] rfl rfl T3.out rd_flt (rd_two _ _) ?_
        refine hK.out _ _ (rng_kep hS2 (kep_setCells t _ 0 _) (by have := HQ.out; omega)) (fun hS3 => ?_)
        clear hK K
        try simp only [Act.put]
        refine wpAnyH_done (by kernel_rfl) ?_ _
        go_wp2_with fail
        have F1 := T2.out.kep (kep_setCells t [.int .i64 0, .int .i64 0] 0 _) M5.out.rt
        have F2 := bwhole (vs := [.int .i64 0, .int .i64 0]) S5.out rfl
        refine bodyPost_ret (res_cc Tryz.results14 _ _ ⟨r, 0, none⟩ ⟨t, 0, none⟩ (.agg E.toArray) (.agg #[.int .i64 0, .int .i64 0]) rfl rfl (load_b F1 Tryz.underlying24 rfl EI.out) (load_b F2 Tryz.underlying34 rfl rd_flt)) rfl ⟨by rw [HFE.out, HE.out]; rfl, bel_setCells (bel_setCells M5.out.bel M5.out.hr 0 E) M5.out.ht 0 [.int .i64 0, .int .i64 0]⟩
      · have fe : (e1 != 0) = true := by rw [bne_iff_ne]; exact he
        have HE := Lib.hid he
        obtain ⟨Z, hZ⟩ : ∃ Z, Z = recC zr := ⟨_, rfl⟩
        have HZA := Lib.hid (show Z.toArray = #[.int .i64 0, .int .i64 0, .int .i64 0, .int .i64 0, .int .i64 0, .int .i64 0, .int .i64 0, .int .u64 0, .int .u64 0, .int .i64 0, .int .u64 0] by rw [hZ]; rfl)
        have HZI := Lib.hid (show (Tryz.prog.info? 24).map (·.size) = some Z.length by rw [hZ]; exact info_rec)
        have HZI2 := Lib.hid (show (Tryz.prog.info? 24).map (·.size) = some Z.toArray.size by rw [hZ]; exact info_rec)
        have HZO := Lib.hid (all_oneCell_toArray (cs := Z) (by rw [hZ]; exact recC_cells _))
        have HZ2 := Lib.hid hZ
        clear he hZ
        go_upto_region 13 with fail
        have S0d : V.drew.rangeAt q 0 [.int .i64 e1, .int .i64 p1] := rng_bel (rngB Q3.out) (Bel.refl V).drew
        refine wp_region_held_drew (S := fun V => V.rangeAt q 0 [.int .i64 e1, .int .i64 p1]) (by kernel_rfl) S0d (fun hS0 => ?_)
        obtain ⟨w6, hw6⟩ : ∃ w6, V.drew = w6 := ⟨_, rfl⟩
        have M5 := Lib.hid (M3.out.up (Bel.refl V).drew)
        rw [hw6] at hS0 M5 ⊢
        obtain ⟨t1, t2⟩ := store_rec (z := zr) M5.out.res
        rw [← HZ2.out] at t1 t2
        have T1 := Lib.hid t1
        have T2 := Lib.hid t2
        have S5 := Lib.hid (M5.out.flt.kep (kep_setCells r Z 0 w6) (fun e => M5.out.rt e.symm))
        have T3 := Lib.hid (bthere S5.out 0 2 (Nat.le_refl _))
        clear hw6 S0d c0 t1 t2
        refine wpAnyH_take (i := 0) (oi := { dst := some 51, op := .build 24 #[], type := 24, pos := "ref.go:195", after := #[], guard := none }) (v := .agg #[.int .i64 0, .int .i64 0, .int .i64 0, .int .i64 0, .int .i64 0, .int .i64 0, .int .i64 0, .int .u64 0, .int .u64 0, .int .i64 0, .int .u64 0]) rfl (by kernel_rfl) (by kernel_rfl) (by kernel_rfl) (fun _ _ _ h => h) (Or.inl ⟨by rfl, by intro w hSw; clear hSw; go_simp⟩) hS0 ?_
        try simp only [Act.put, List.setIfInBounds_toArray, List.set_cons_zero, List.set_cons_succ]
        refine wpAnyH_take (i := 1) (oi := { dst := some 52, op := .load 34 (.tmp 9), type := 34, pos := "ref.go:195", after := #[{ on := 2, ground := .gcOnly .lateStores }], guard := none }) (v := .agg #[.int .i64 e1, .int .i64 p1]) rfl (by kernel_rfl) (by kernel_rfl) (by kernel_rfl) (fun _ _ _ h => h) (yieldsIf_load_mid (by rfl) _ _ rfl _ _ rfl _ _ (fun w h => h) uL rfl iL) hS0 ?_
        try simp only [Act.put, List.setIfInBounds_toArray, List.set_cons_zero, List.set_cons_succ]
        refine wpAnyH_ready (rs := [2]) (by kernel_rfl) (by simp) ?_
        refine AllReadyH.cons (o := { dst := none, op := .store 24 (.tmp 2) (.tmp 51), type := 0, pos := "ref.go:195", after := #[{ on := 0, ground := .data }, { on := 0, ground := .phase }, { on := 1, ground := .textOnly .lateStores }], guard := none }) rfl (fun K hK => ?_) AllReadyH.nil
        rw [if_pos (by rfl)]
        refine wp_store_mid 24 (.tmp 2) (.tmp 51) rfl r 0 Z.toArray rfl (by rw [HZA.out]; rfl) T1.out HZI2.out HZO.out ?_
        refine hK.out _ _ (rng_kep hS0 (kep_setCells r _ 0 _) (by have := HQ.out; omega)) (fun hS1 => ?_)
        clear hK K
        try simp only [Act.put]
        refine wpAnyH_ready (rs := [3]) (by kernel_rfl) (by simp) ?_
        refine AllReadyH.cons (o := { dst := none, op := .store 34 (.tmp 3) (.tmp 52), type := 0, pos := "ref.go:195", after := #[{ on := 1, ground := .data }, { on := 2, ground := .chain }, { on := 0, ground := .phase }, { on := 1, ground := .phase }, { on := 2, ground := .phase }], guard := none }) rfl (fun K hK => ?_) AllReadyH.nil
        rw [if_pos (by rfl)]
        refine wp_store_mid 34 (.tmp 3) (.tmp 52) rfl t 0 #[.int .i64 e1, .int .i64 p1] rfl rfl T3.out rd_flt (rd_two _ _) ?_
        refine hK.out _ _ (rng_kep hS1 (kep_setCells t _ 0 _) (by have := HQ.out; omega)) (fun hS2 => ?_)
        clear hK K
        try simp only [Act.put]
        refine wpAnyH_done (by kernel_rfl) ?_ _
        go_wp2_with fail
        have F1 := T2.out.kep (kep_setCells t [.int .i64 e1, .int .i64 p1] 0 _) M5.out.rt
        have F2 := bwhole (vs := [.int .i64 e1, .int .i64 p1]) S5.out rfl
        refine bodyPost_ret (res_cc Tryz.results14 _ _ ⟨r, 0, none⟩ ⟨t, 0, none⟩ (.agg Z.toArray) (.agg #[.int .i64 e1, .int .i64 p1]) rfl rfl (load_b F1 Tryz.underlying24 rfl HZI.out) (load_b F2 Tryz.underlying34 rfl rd_flt)) rfl ⟨by rw [HFE.out, if_neg HE.out, if_neg HE.out, if_neg HE.out, HZ2.out], bel_setCells (bel_setCells M5.out.bel M5.out.hr 0 Z) M5.out.ht 0 [.int .i64 e1, .int .i64 p1]⟩
end Pm
end Go.Proofs.YtpohcdfmkcfonaaGreatDoor
