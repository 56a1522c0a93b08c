/-
  Texts of this claim, put together: Ho5, PIn, RIn, Ho6, Ho7. What each one says, and under which conditions, stands ahead of it.
-/
import Derived.OrdersIn
import Derived.BigRegionIn
import Derived.RangeFuncNested
import Derived.Deep.RegionHeld
import Derived.RangeFuncWrites
import Derived.Test.YtneajcoiemkfbaaGreatTk
import Derived.Test.YtneajcoiemkfbaaGreatCE
import Derived.Test.YtneajcoiemkfbaaGreatCD
import Derived.Test.YtneajcoiemkfbaaGreatCQ
import Derived.Test.YtneajcoiemkfbaaGreatCB

section
/-
  What holding.checkClass, tooMuch, tokensOf, poolOf, sharesOf answer. Conditions: the lists are in order where something is found in them; amounts are words.
-/
namespace Go.Proofs.YtneajcoiemkfbaaGreat
open Go.RowKit Go.Shelf
set_option linter.unusedVariables false
namespace Ho
open Kk Pm

/-- Words. -/
def Wd (r : R6) : Prop := 0 ≤ tok r ∧ tok r ≤ 18446744073709551615 ∧ 0 ≤ shr r ∧ shr r ≤ 18446744073709551615
set_option maxRecDepth 10000 in
set_option maxHeartbeats 2000000 in
theorem checkClass (A : Option Addr) (n c : Nat) (l : List R6) (x1 x2 x3 x4 x5 x6 : Int) (p : Option R6) (w : World) (h : RS cC w A n c l) (hn : n ≤ 1000000000) (hp : p = if n = 0 then none else l[n - 1]?) (hw : Wd (x1, x2, x3, x4, x5, x6)) :
    Calls Tryz.prog 62 #[.slice A n c, .agg #[.int .i64 x1, .int .i64 x2, .int .i64 x3, .int .i64 x4, .int .u64 x5, .int .u64 x6]] w fun e w' => e = .returned (.int .i64 (clE p (x1, x2, x3, x4, x5, x6))) ∧ Bel w w' := by
  obtain ⟨t0, t1, s0, s1⟩ := hw
  replace t0 : 0 ≤ x5 := t0
  replace s0 : 0 ≤ x6 := s0
  have HC := Lib.hid (show clE p (x1, x2, x3, x4, x5, x6) = if Sm.ck x1 x2 x3 x4 ≠ 0 then 3 else if foll ordC p (x1, x2, x3, x4, x5, x6) = false then 9 else if Sh.chk x5 x6 ≠ 0 then Sh.chk x5 x6 else if x5 = 0 ∧ x6 = 0 then 11 else 0 from rfl)
  have CK := Lib.hid (fun V => Sm.check x1 x2 x3 x4 V)
  have CH := Lib.hid (fun V => Sh.checkE x5 x6 V t0 s0)
  obtain ⟨W, hW⟩ : ∃ W, w.alloc (.cells #[.int .i64 x1, .int .i64 x2, .int .i64 x3, .int .i64 x4, .int .u64 x5, .int .u64 x6] 90) = W := ⟨_, rfl⟩
  have P0 := boxC x1 x2 x3 x4 x5 x6 w
  have B0 : Bel w W := by rw [← hW]; exact (Bel.refl _).alloc _
  rw [hW] at P0
  have FO := Lib.hid (fun V (hb : Bel W V) => followsC A n c l x1 x2 x3 x4 x5 x6 p V ((h.bel B0).bel hb) hn hp)
  have HB := Lib.hid B0
  clear h B0 hp t1 s1 hn
  obtain ⟨E, hE⟩ : ∃ E, clE p (x1, x2, x3, x4, x5, x6) = E := ⟨_, rfl⟩
  obtain ⟨k, hk⟩ : ∃ k, Sm.ck x1 x2 x3 x4 = k := ⟨_, rfl⟩
  obtain ⟨f, hf⟩ : ∃ f, foll ordC p (x1, x2, x3, x4, x5, x6) = f := ⟨_, rfl⟩
  obtain ⟨m, hm⟩ : ∃ m, Sh.chk x5 x6 = m := ⟨_, rfl⟩
  rw [hE, hk, hf, hm] at HC
  rw [hk] at CK
  rw [hf] at FO
  rw [hm] at CH
  rw [hE]
  clear hE hk hf hm
  go_enter Tryz.func62, Tryz.ntmps62
  go_upto_region 1 with fail
  obtain ⟨g, hg⟩ : ∃ g, w.heap.size = g := ⟨_, rfl⟩
  rw [hg]
  rw [hg] at P0
  have Q0 := Lib.hid P0
  clear P0 hW hg
  have cc := fun V (hb : Bel W V) => rng6 (rngB (C := [.int .i64 x1, .int .i64 x2, .int .i64 x3, .int .i64 x4, .int .u64 x5, .int .u64 x6]) (Q0.out.bel hb))
  have CC := Lib.hid cc
  clear cc
  obtain ⟨c0, c1, c2, c3, c4, c5⟩ := CC.out W (Bel.refl _)
  rw [Nat.zero_add] at c1 c2 c3 c4 c5
  go_wp2_with fail
  refine (CK.out _).mono ?_
  rintro e w1 ⟨rfl, kb⟩
  have K1 := Lib.hid kb
  clear kb c0 c1 c2 c3 c4 c5
  by_cases hk0 : k = 0
  · subst hk0
    obtain ⟨c0, c1, c2, c3, c4, c5⟩ := CC.out w1 K1.out
    rw [Nat.zero_add] at c1 c2 c3 c4 c5
    go_wp2_with fail
    refine (FO.out _ K1.out).mono ?_
    rintro e w2 ⟨rfl, kb⟩
    have K2 := Lib.hid (K1.out.trans kb)
    clear kb c0 c1 c2 c3 c4 c5
    cases f
    · obtain rfl : E = 9 := HC.out
      go_wp2_with fail
      go_ret
      exact ⟨rfl, HB.out.trans K2.out⟩
    · obtain ⟨c0, c1, c2, c3, c4, c5⟩ := CC.out w2 K2.out
      rw [Nat.zero_add] at c1 c2 c3 c4 c5
      go_wp2_with fail
      refine (CH.out _).mono ?_
      rintro e w3 ⟨rfl, kb⟩
      have K3 := Lib.hid (K2.out.trans kb)
      clear kb c0 c1 c2 c3 c4 c5
      by_cases hm0 : m = 0
      · subst hm0
        obtain ⟨c0, c1, c2, c3, c4, c5⟩ := CC.out w3 K3.out
        rw [Nat.zero_add] at c1 c2 c3 c4 c5
        by_cases h5 : x5 = 0
        · by_cases h6 : x6 = 0
          · subst h5 h6
            obtain rfl : E = 11 := HC.out
            go_wp2_with fail
            go_ret
            exact ⟨rfl, HB.out.trans K3.out⟩
          · obtain rfl : E = 0 := HC.out.trans (by simp [h6])
            have h6' : (x6 == 0) = false := beq_eq_false_iff_ne.2 h6
            subst h5
            clear h6
            go_wp2_with fail
            go_ret
            exact ⟨rfl, HB.out.trans K3.out⟩
        · obtain rfl : E = 0 := HC.out.trans (by simp [h5])
          have h5' : (x5 == 0) = false := beq_eq_false_iff_ne.2 h5
          clear h5
          go_wp2_with fail
          go_ret
          exact ⟨rfl, HB.out.trans K3.out⟩
      · obtain rfl : E = m := HC.out.trans (by simp [hm0])
        have hm' : (E != 0) = true := by rw [bne_iff_ne]; exact hm0
        clear hm0
        go_wp2_with fail
        go_ret
        exact ⟨rfl, HB.out.trans K3.out⟩
  · obtain rfl : E = 3 := HC.out.trans (by simp [hk0])
    have hk' : (k != 0) = true := by rw [bne_iff_ne]; exact hk0
    clear hk0
    go_wp2_with fail
    go_ret
    exact ⟨rfl, HB.out.trans K1.out⟩

/-- Sums of tokens. -/
theorem sumT_take (l : List R6) (k : Nat) (r : R6) (h : l[k]? = some r) : sumT (l.take (k + 1)) = sumT (l.take k) + tok r := by
  unfold sumT
  rw [List.take_add_one, h, List.map_append, List.sum_append]
  simp
theorem sumT0 {l : List R6} (hw : ∀ r ∈ l, Wd r) : 0 ≤ sumT l := by
  induction l with
  | nil => exact Int.le_refl _
  | cons r l ih =>
    have h1 := (hw r (List.mem_cons_self ..)).1
    have h2 := ih (fun x hx => hw x (List.mem_cons_of_mem _ hx))
    show 0 ≤ (tok r :: l.map tok).sum
    rw [List.sum_cons]
    have : (l.map tok).sum = sumT l := rfl
    omega
theorem sumT_le {l : List R6} (hw : ∀ r ∈ l, Wd r) (k : Nat) : sumT (l.take k) ≤ sumT l := by
  have h : sumT l = sumT (l.take k) + sumT (l.drop k) := by
    unfold sumT
    rw [← List.sum_append, ← List.map_append, List.take_append_drop]
  have := sumT0 (l := l.drop k) (fun r hr => hw r (List.mem_of_mem_drop hr))
  omega
set_option maxRecDepth 10000 in
set_option maxHeartbeats 2000000 in
theorem tokensOf (A : Option Addr) (n c : Nat) (l : List R6) (w : World) (h : RS cC w A n c l) (hn : n ≤ 1000000000) (hw : ∀ r ∈ l, Wd r) (ht : sumT l ≤ 18446744073709551615) :
    Calls Tryz.prog 80 #[.slice A n c] w fun e w' => e = .returned (.int .u64 (sumT l)) ∧ Bel w w' := by
  have HR := Lib.hid h
  have HW := Lib.hid hw
  have HT := Lib.hid ht
  clear h hw ht
  go_enter Tryz.func80, Tryz.ntmps80
  go_wp2_with fail
  go_loopw [2, 7] (fun s2 s7 wr => ∃ (k : Nat) (s : Int), k ≤ n ∧ s7 = .int .i64 k ∧ s2 = .int .u64 s ∧ Hid (s = sumT (l.take k)) ∧ Hid (Bel w wr)) (fun _ s7 _ => n - (intOf s7).toNat)
  case atStart => exact ⟨0, 0, Nat.zero_le _, rfl, rfl, Lib.hid rfl, Lib.hid (Bel.refl _)⟩
  case round =>
    obtain ⟨k, s, hk, rfl, rfl, hs, hh⟩ := hrel
    by_cases hlt : k < n
    · obtain ⟨⟨r1, r2, r3, r4, r5, r6⟩, hr⟩ := HR.out.get hlt
      obtain ⟨b, o, rfl, hb, hrow⟩ := (HR.out.bel hh.out).at hlt hr
      have RW := Lib.hid (rowC hrow)
      have HS := Lib.hid (show sumT (l.take (k + 1)) = s + r5 by rw [sumT_take l k _ hr, hs.out]; rfl)
      have s0 : 0 ≤ s := by rw [hs.out]; exact sumT0 (fun r hr => HW.out r (List.mem_of_mem_take hr))
      have s1 : s + r5 ≤ 18446744073709551615 := by rw [← HS.out]; have := sumT_le HW.out (k + 1); have := HT.out; omega
      have r0 : 0 ≤ r5 := (HW.out _ (List.mem_of_getElem? hr)).1
      clear hr hrow
      have hlt3 : (k : Int) < n := by omega
      obtain ⟨c0, c1, c2, c3, c4, c5⟩ := rng6 RW.out
      go_wp2_with fail
      go_roundw
      case rel => exact ⟨k + 1, s + r5, by omega, by go_num, rfl, Lib.hid HS.out.symm, Lib.hid (hh.out.alloc _)⟩
      case measure => simp [intOf]; omega
    · obtain rfl : k = n := by omega
      have HS := Lib.hid (show s = sumT l by rw [hs.out, List.take_of_length_le (by rw [HR.out.len]; exact Nat.le_refl _)])
      go_wp2_with fail
      go_ret
      exact ⟨by rw [HS.out]; rfl, hh.out⟩
set_option maxRecDepth 10000 in
set_option maxHeartbeats 2000000 in
theorem tooMuch (A : Option Addr) (n c : Nat) (l : List R6) (w : World) (h : RS cC w A n c l) (hn : n ≤ 1000000000) (hw : ∀ r ∈ l, Wd r) :
    Calls Tryz.prog 63 #[.slice A n c] w fun e w' => e = .returned (.bool (decide (4611686018427387904 < sumT l))) ∧ Bel w w' := by
  have HR := Lib.hid h
  have HW := Lib.hid hw
  clear h hw
  go_enter Tryz.func63, Tryz.ntmps63
  go_wp2_with fail
  go_loopw [3, 8] (fun s3 s8 wr => ∃ (k : Nat) (s : Int), k ≤ n ∧ s8 = .int .i64 k ∧ s3 = .int .u64 s ∧ 0 ≤ s ∧ s ≤ 4611686018427387904 ∧ Hid (s = 4611686018427387904 - sumT (l.take k)) ∧ Hid (Bel w wr)) (fun _ s8 _ => n - (intOf s8).toNat)
  case atStart => exact ⟨0, 4611686018427387904, Nat.zero_le _, rfl, rfl, by decide, by decide, Lib.hid rfl, Lib.hid (Bel.refl _)⟩
  case round =>
    obtain ⟨k, s, hk, rfl, rfl, s0, s1, hs, hh⟩ := hrel
    by_cases hlt : k < n
    · obtain ⟨⟨r1, r2, r3, r4, r5, r6⟩, hr⟩ := HR.out.get hlt
      obtain ⟨b, o, rfl, hb, hrow⟩ := (HR.out.bel hh.out).at hlt hr
      have RW := Lib.hid (rowC hrow)
      have HS := Lib.hid (show sumT (l.take (k + 1)) = 4611686018427387904 - s + r5 by rw [sumT_take l k _ hr, hs.out]; show _ + r5 = _; omega)
      have r0 : 0 ≤ r5 := (HW.out _ (List.mem_of_getElem? hr)).1
      clear hr hrow
      have hlt3 : (k : Int) < n := by omega
      obtain ⟨c0, c1, c2, c3, c4, c5⟩ := rng6 RW.out
      by_cases hgt : s < r5
      · have HD := Lib.hid (show decide (4611686018427387904 < sumT l) = true from decide_eq_true (by have := sumT_le HW.out (k + 1); have := HS.out; omega))
        go_wp2_with fail
        go_ret
        exact ⟨by rw [HD.out]; rfl, hh.out.alloc _⟩
      · have s2 : 0 ≤ s - r5 := by omega
        go_wp2_with fail
        go_roundw
        case rel => exact ⟨k + 1, s - r5, by omega, by go_num, rfl, s2, by omega, Lib.hid (by have := HS.out; omega), Lib.hid (hh.out.alloc _)⟩
        case measure => simp [intOf]; omega
    · obtain rfl : k = n := by omega
      have HD := Lib.hid (show decide (4611686018427387904 < sumT l) = false from decide_eq_false (by have := hs.out; rw [List.take_of_length_le (by rw [HR.out.len]; exact Nat.le_refl _)] at this; omega))
      go_wp2_with fail
      go_ret
      exact ⟨by rw [HD.out]; rfl, hh.out⟩
theorem rng4 {w : World} {b q : Nat} {u0 u1 u2 u3 : Value} (h : w.rangeAt b q [u0, u1, u2, u3]) :
    w.cell? ⟨b, q, none⟩ = some u0 ∧ w.cell? ⟨b, q + 1, none⟩ = some u1 ∧ w.cell? ⟨b, q + 2, none⟩ = some u2 ∧ w.cell? ⟨b, q + 3, none⟩ = some u3 :=
  ⟨h 0 u0 rfl, h 1 u1 rfl, h 2 u2 rfl, h 3 u3 rfl⟩
theorem pol_at (cs : List R6) (s : R6) : (inB ordC cs s = false → polT cs s = 0 ∧ polS cs s = 0) ∧ (inB ordC cs s = true → ∃ r, cs[pos ordC cs s]? = some r ∧ polT cs s = tok r ∧ polS cs s = shr r ∧ pos ordC cs s < cs.length) := by
  unfold inB polT polS
  rw [get_at]
  cases h : cs[pos ordC cs s]? with
  | none => simp
  | some r =>
    have hl := (List.getElem?_eq_some_iff.1 h).1
    by_cases h0 : ordC r s = 0
    · simp [h0, hl]
    · simp [h0]
theorem shs_at (ps : List R6) (s : R6) : (inB ordP ps s = false → shs ps s = 0) ∧ (inB ordP ps s = true → ∃ r, ps[pos ordP ps s]? = some r ∧ shs ps s = shr r ∧ pos ordP ps s < ps.length) := by
  unfold inB shs
  rw [get_at]
  cases h : ps[pos ordP ps s]? with
  | none => simp
  | some r =>
    have hl := (List.getElem?_eq_some_iff.1 h).1
    by_cases h0 : ordP r s = 0
    · simp [h0, hl]
    · simp [h0]
theorem load_q {w : World} {b : Nat} {T S : Int} (h : Blk w b #[.int .u64 T, .int .u64 S] 46) : (loadVar 46 ⟨b, 0, none⟩).run Tryz.prog w = .ok (.agg #[.int .u64 T, .int .u64 S]) w :=
  Pm.load_b (C := [.int .u64 T, .int .u64 S]) h Tryz.underlying46 rfl info_q
/-- What the boxes of a call of poolOf hold. -/
def Bx3 (w W : World) (g : Nat) (X Y : Array Value) (s t : TypeId) (Z : Array Value) (u : TypeId) : Prop := Bel w W ∧ Blk W g X s ∧ Blk W (g + 1) Y t ∧ Blk W (g + 2) Z u ∧ w.heap.size ≤ g
theorem Bx3.new (w : World) (X Y Z : Array Value) (s t u : TypeId) : Bx3 w (((w.alloc (.cells X s)).alloc (.cells Y t)).alloc (.cells Z u)) w.heap.size X Y s t Z u := by
  refine ⟨(((Bel.refl w).alloc _).alloc _).alloc _, ((Blk.new w X s).alloc _).alloc _, ?_, ?_, Nat.le_refl _⟩
  · have := (Blk.new (w.alloc (.cells X s)) Y t).alloc (.cells Z u)
    rwa [World.size_alloc] at this
  · have := Blk.new ((w.alloc (.cells X s)).alloc (.cells Y t)) Z u
    rwa [World.size_alloc, World.size_alloc] at this
theorem Bx3.bel {w W W' : World} {g : Nat} {X Y Z : Array Value} {s t u : TypeId} (h : Bx3 w W g X Y s t Z u) (hb : Bel W W') : Bx3 w W' g X Y s t Z u := ⟨h.1.trans hb, h.2.1.bel hb, h.2.2.1.bel hb, h.2.2.2.1.bel hb, h.2.2.2.2⟩
set_option maxRecDepth 10000 in
set_option maxHeartbeats 2000000 in
theorem poolOf (A : Option Addr) (n c : Nat) (cs : List R6) (V : Value) (hV : V.oneCell' = true) (a b d e : Int) (w : World) (h : RS cC w A n c cs) (hn : n ≤ 1000000000) (hs : Srt ordC cs) :
    Calls Tryz.prog 76 #[.agg #[.slice A n c, V], .agg #[.int .i64 a, .int .i64 b, .int .i64 d, .int .i64 e]] w fun r w' => r = .returned (.agg #[.int .u64 (polT cs (a, b, d, e, 0, 0)), .int .u64 (polS cs (a, b, d, e, 0, 0))]) ∧ Bel w w' := by
  have PA := Lib.hid (pol_at cs (a, b, d, e, 0, 0))
  obtain ⟨T, hT⟩ : ∃ T, polT cs (a, b, d, e, 0, 0) = T := ⟨_, rfl⟩
  obtain ⟨S, hS⟩ : ∃ S, polS cs (a, b, d, e, 0, 0) = S := ⟨_, rfl⟩
  rw [hT, hS] at PA
  rw [hT, hS]
  have FD := Lib.hid (fun W (hb : Bel w W) => findC A n c cs a b d e 0 0 W (h.bel hb) hn hs)
  have HL := Lib.hid h.len
  obtain ⟨k, hk⟩ : ∃ k, pos ordC cs (a, b, d, e, 0, 0) = k := ⟨_, rfl⟩
  obtain ⟨I, hI⟩ : ∃ I, inB ordC cs (a, b, d, e, 0, 0) = I := ⟨_, rfl⟩
  rw [hk, hI] at PA FD
  have HR := Lib.hid h
  have BX := Lib.hid (Bx3.new w #[.slice A n c, V] #[.int .i64 a, .int .i64 b, .int .i64 d, .int .i64 e] #[.int .u64 0, .int .u64 0] 25 37 46)
  clear hT hS hk hI h hs
  go_enter Tryz.func76, Tryz.ntmps76
  go_upto_region 1 with fail
  obtain ⟨W, hW⟩ : ∃ W, ((w.alloc (.cells #[.slice A n c, V] 25)).alloc (.cells #[.int .i64 a, .int .i64 b, .int .i64 d, .int .i64 e] 37)).alloc (.cells #[.int .u64 0, .int .u64 0] 46) = W := ⟨_, rfl⟩
  rw [hW] at BX ⊢
  clear hW
  obtain ⟨g, hg⟩ : ∃ g, w.heap.size = g := ⟨_, rfl⟩
  rw [hg] at BX ⊢
  have HG := Lib.hid hg
  clear hg
  have g1 : g + 1 ≠ g + 2 := by omega
  have b0 := BX.out.2.1.cell 0 rfl
  obtain ⟨c0, c1, c2, c3⟩ := rng4 (rngB (C := [.int .i64 a, .int .i64 b, .int .i64 d, .int .i64 e]) BX.out.2.2.1)
  rw [Nat.zero_add] at c1 c2 c3
  go_wp2_with fail
  refine (FD.out _ BX.out.1).mono ?_
  rintro r w1 ⟨rfl, kb⟩
  have BX1 := Lib.hid (BX.out.bel kb)
  clear kb b0 c0 c1 c2 c3 FD
  have d0 := BX1.out.2.2.2.1.cell 0 rfl
  have d1 := BX1.out.2.2.2.1.cell 1 rfl
  have f0 := BX1.out.2.2.2.1.frozen 0
  have f1 := BX1.out.2.2.2.1.frozen 1
  cases I
  · obtain ⟨rfl, rfl⟩ := PA.out.1 rfl
    go_wp2_with fail
    refine bodyPost_ret (Pm.res_c rfl _ _ ⟨g + 2, 0, none⟩ _ rfl (load_q ((BX1.out.2.2.2.1.set 0 _).set 1 _))) rfl ⟨rfl, ?_⟩
    exact (BX1.out.1.set (by have := BX1.out.2.2.2.2; show w.heap.size ≤ g + 2; omega) _).set (by have := BX1.out.2.2.2.2; show w.heap.size ≤ g + 2; omega) _
  · obtain ⟨⟨r1, r2, r3, r4, r5, r6⟩, hr, rfl, rfl, hlt⟩ := PA.out.2 rfl
    have hlt2 : k < n := by rw [← HL.out]; exact hlt
    obtain ⟨p, o, rfl, hb, hrow⟩ := (HR.out.bel BX1.out.1).at hlt2 hr
    have hlt3 : (k : Int) < n := by omega
    obtain ⟨c0, c1, c2, c3, c4, c5⟩ := rng6 (rowC hrow)
    have b0 := BX1.out.2.1.cell 0 rfl
    clear hr hrow hlt
    go_wp2_with fail
    refine bodyPost_ret (Pm.res_c rfl _ _ ⟨g + 2, 0, none⟩ _ rfl (load_q ((BX1.out.2.2.2.1.set 0 _).set 1 _))) rfl ⟨rfl, ?_⟩
    exact (BX1.out.1.set (by have := BX1.out.2.2.2.2; show w.heap.size ≤ g + 2; omega) _).set (by have := BX1.out.2.2.2.2; show w.heap.size ≤ g + 2; omega) _
set_option maxRecDepth 10000 in
set_option maxHeartbeats 2000000 in
theorem sharesOf (A : Option Addr) (n c : Nat) (ps : List R6) (V : Value) (hV : V.oneCell' = true) (q a b d e : Int) (w : World) (h : RS cP w A n c ps) (hn : n ≤ 1000000000) (hs : Srt ordP ps) :
    Calls Tryz.prog 74 #[.agg #[V, .slice A n c], .int .i64 q, .agg #[.int .i64 a, .int .i64 b, .int .i64 d, .int .i64 e]] w fun r w' => r = .returned (.int .u64 (shs ps (q, a, b, d, e, 0))) ∧ Bel w w' := by
  have PA := Lib.hid (shs_at ps (q, a, b, d, e, 0))
  obtain ⟨T, hT⟩ : ∃ T, shs ps (q, a, b, d, e, 0) = T := ⟨_, rfl⟩
  rw [hT] at PA
  rw [hT]
  have FD := Lib.hid (fun W (hb : Bel w W) => findP A n c ps q a b d e 0 W (h.bel hb) hn hs)
  have HL := Lib.hid h.len
  obtain ⟨k, hk⟩ : ∃ k, pos ordP ps (q, a, b, d, e, 0) = k := ⟨_, rfl⟩
  obtain ⟨I, hI⟩ : ∃ I, inB ordP ps (q, a, b, d, e, 0) = I := ⟨_, rfl⟩
  rw [hk, hI] at PA FD
  have HR := Lib.hid h
  have P0 := ((Blk.new w #[V, .slice A n c] 25).alloc (.cells #[.int .i64 a, .int .i64 b, .int .i64 d, .int .i64 e] 37))
  have P1 := Blk.new (w.alloc (.cells #[V, .slice A n c] 25)) #[.int .i64 a, .int .i64 b, .int .i64 d, .int .i64 e] 37
  rw [World.size_alloc] at P1
  have B0 := ((Bel.refl w).alloc (.cells #[V, .slice A n c] 25)).alloc (.cells #[.int .i64 a, .int .i64 b, .int .i64 d, .int .i64 e] 37)
  have HB := Lib.hid B0
  have Q0 := Lib.hid P0
  have Q1 := Lib.hid P1
  clear hT hk hI h hs P0 P1 B0
  go_enter Tryz.func74, Tryz.ntmps74
  go_upto_region 1 with fail
  obtain ⟨W, hW⟩ : ∃ W, (w.alloc (.cells #[V, .slice A n c] 25)).alloc (.cells #[.int .i64 a, .int .i64 b, .int .i64 d, .int .i64 e] 37) = W := ⟨_, rfl⟩
  rw [hW] at HB Q0 Q1 ⊢
  clear hW
  obtain ⟨g, hg⟩ : ∃ g, w.heap.size = g := ⟨_, rfl⟩
  rw [hg] at Q0 Q1 ⊢
  clear hg
  have b0 := Q0.out.cell 1 rfl
  obtain ⟨c0, c1, c2, c3⟩ := rng4 (rngB (C := [.int .i64 a, .int .i64 b, .int .i64 d, .int .i64 e]) Q1.out)
  rw [Nat.zero_add] at c1 c2 c3
  go_wp2_with fail
  refine (FD.out _ HB.out).mono ?_
  rintro r w1 ⟨rfl, kb⟩
  have K1 := Lib.hid (HB.out.trans kb)
  have Q2 := Lib.hid (Q0.out.bel kb)
  clear kb b0 c0 c1 c2 c3 FD
  cases I
  · obtain rfl := PA.out.1 rfl
    go_wp2_with fail
    go_ret
    exact ⟨rfl, K1.out⟩
  · obtain ⟨⟨r1, r2, r3, r4, r5, r6⟩, hr, rfl, hlt⟩ := PA.out.2 rfl
    have hlt2 : k < n := by rw [← HL.out]; exact hlt
    obtain ⟨p, o, rfl, hb, hrow⟩ := (HR.out.bel K1.out).at hlt2 hr
    have hlt3 : (k : Int) < n := by omega
    obtain ⟨c0, c1, c2, c3, c4, c5⟩ := rng6 (rowP hrow)
    have b0 := Q2.out.cell 1 rfl
    clear hr hrow hlt
    go_wp2_with fail
    go_ret
    exact ⟨rfl, K1.out⟩
end Ho
end Go.Proofs.YtneajcoiemkfbaaGreat
end

section
/-
  Rows of cells that are loaded and stored in the body of a loop over a function. No condition.
-/
namespace Go.Proofs.YtneajcoiemkfbaaGreat
open Go.RowKit Go.Shelf
set_option linter.unusedVariables false
namespace Pm
open Kk

theorem no_defer {ops : Array Oper} (h : ops.all (fun o => match o.op with | .defer _ => false | _ => true) = true) {i : Nat} {o : Oper} (hi : ops[i]? = some o) : ∀ c, o.op ≠ .defer c := by
  intro c e
  have := Array.all_eq_true_iff_forall_mem.1 h o (Array.mem_of_getElem? hi)
  rw [e] at this
  cases this
end Pm
end Go.Proofs.YtneajcoiemkfbaaGreat
end

section
/-
  A region that draws in the body of a loop over a function is walked as any other, under what it keeps. No program.
-/
namespace Go.Proofs.YtneajcoiemkfbaaGreat
open Go.RowKit Go.Shelf
set_option linter.unusedVariables false
namespace Pm
open Kk

theorem rowsIn_wide {n : Nat} {P : Program} {row : String} {args : Array Value} {w : World} {R : Value → World → Prop} (h : Rows P row args w R) : RowsIn Fence.wide n P row args w R := by
  unfold Rows at h
  unfold RowsIn
  simpa [stepsIn_wide, room_wide] using h
theorem oper_in {l n : Nat} {P : Program} {o : Oper} {a : Act} {w : World} {K : Act → World → Prop} {Q : Exit → Act → World → Prop} (hd : ∀ c, o.op ≠ .defer c) (h : o.wp P a w K Q) : o.wpIn (Fence.wide.inRound l) n P a w K Q := by
  refine ⟨fun f _ => trivial, ?_⟩
  rw [Oper.semAt_eq _ _ _ hd]
  unfold Oper.wp at h
  generalize (execOp a.eval o).run P w = r at h ⊢
  match r, h with
  | .ok (.value v) w', h => exact h
  | .ok .skip w', h => exact h
  | .ok (.defer d) w', h => exact h
  | .ok (.enter f args) w', h => exact ⟨(fun hh => by cases hh), CallsIn.inRound l (callsIn_wide.2 h)⟩
  | .ok (.row row args) w', h => exact ⟨(fun hh => by cases hh), rowsIn_wide h⟩
  | .ok (.round ..) w', h => exact h.elim
  | .halt (.panic v) w', h => exact h
theorem any_in {l n : Nat} {P : Program} {md : Region.Mode} {ops : Array Oper} {Q : Exit → Act → World → Prop} (hd : ∀ (i : Nat) (o : Oper), ops[i]? = some o → ∀ c, o.op ≠ .defer c) (hQ : ¬ LetsOut Q) :
    ∀ (fuel : Nat) (listed : Array Bool) (a : Act) (w : World), wpAny P md ops Q fuel listed a w → wpAnyIn (Fence.wide.inRound l) n P md ops Q fuel listed a w
  | 0, _, _, _, h => h
  | fuel + 1, listed, a, w, h => by
    refine ⟨h.1, fun i hi => ?_⟩
    have h2 := wpOp_mono (fun a w => any_in (l := l) (n := n) hd hQ fuel (listed.setIfInBounds i true) a w) (h.2 i hi)
    unfold wpOp at h2
    unfold wpOpIn
    cases ho : ops[i]? with
    | none => rw [ho] at h2; exact h2
    | some o =>
      rw [ho] at h2
      simp only at h2 ⊢
      split
      · rename_i hw
        rw [if_pos hw] at h2
        rcases h2 with h2 | h2
        · exact oper_in (hd i o ho) h2
        · exact absurd h2.2 hQ
      · rename_i hw
        rw [if_neg hw] at h2
        exact ⟨fun _ _ => trivial, h2⟩
theorem held_in {l n : Nat} {P : Program} {ops : Array Oper} {Q : Exit → Act → World → Prop} {S : World → Prop} {id : Nat} {a : Act} {w : World} (hm : P.follows .mixedOrders = true) (hd : ops.all (fun o => match o.op with | .defer _ => false | _ => true) = true) (hQ : ¬ LetsOut Q) (hS : S w.drew)
    (h : S w.drew → wpAnyH P .any ops Q S ops.size (Array.replicate ops.size false) a w.drew) : (Code.region id ops true).wpIn (Fence.wide.inRound l) n P Q a w :=
  wpIn_region_any hm (any_in (fun i o hi c => no_defer hd hi c) hQ _ _ _ _ (wpAny_of_held _ _ _ _ (h hS)))
end Pm
end Go.Proofs.YtneajcoiemkfbaaGreat
end

section
/-
  The iterator over positions and their pools: what it yields. Conditions: the classes are in order.
-/
namespace Go.Proofs.YtneajcoiemkfbaaGreat
open Go.RowKit Go.Shelf
set_option linter.unusedVariables false
attribute [local go_sem] Oper.semAt_some
namespace Ho
open Kk Pm

/-- What classes are found by. -/
def key : R6 → R6
  | (a, b, c, d, _, _) => (a, b, c, d, 0, 0)
theorem ord_key (x y : R6) : ordC (key x) y = ordC x y := rfl
theorem pos_key : ∀ (l : List R6) (x : R6), pos ordC (l.map key) x = pos ordC l x
  | [], _ => rfl
  | y :: l, x => by
    show (if ordC (key y) x < 0 then pos ordC (l.map key) x + 1 else 0) = if ordC y x < 0 then pos ordC l x + 1 else 0
    rw [ord_key, pos_key l x]
theorem in_key : ∀ (l : List R6) (x : R6), inB ordC (l.map key) x = inB ordC l x
  | [], _ => rfl
  | y :: l, x => by
    show (if ordC (key y) x < 0 then get ordC (l.map key) x else if ordC (key y) x = 0 then some (key y) else none).isSome = (if ordC y x < 0 then get ordC l x else if ordC y x = 0 then some y else none).isSome
    rw [ord_key]
    by_cases h : ordC y x < 0
    · rw [if_pos h, if_pos h]; exact in_key l x
    · rw [if_neg h, if_neg h]; by_cases h0 : ordC y x = 0 <;> simp [h0]
theorem srt_key {l : List R6} : Srt ordC (l.map key) ↔ Srt ordC l := by
  unfold Srt
  rw [List.pairwise_map]
  rfl

theorem no_cells {w : World} {a : Addr} {v : Value} {o : Obj} (h : w.cell? a = some v) (ho : w.heap[a.block]? = some o) (hc : o.isCells = false) : False := by
  unfold World.cell? at h
  rw [ho] at h
  cases o <;> simp [Obj.isCells] at hc h
theorem rng_grown {W W' : World} {row : Option Nat} {b o : Nat} {Y : List Value} (h : W.rangeAt b o Y) (hg : W.grownBy W' row) (hr : ∀ r, row = some r → ∃ o : Obj, W.heap[r]? = some o ∧ o.isCells = false) : W'.rangeAt b o Y := fun j v hv =>
  hg.cell (h j v hv) (fun e => by
    obtain ⟨ob, h1, h2⟩ := hr b e.symm
    exact no_cells (h j v hv) h1 h2)
theorem blk_grown {W W' : World} {row : Option Nat} {b : Nat} {cs : Array Value} {t : TypeId} (h : Blk W b cs t) (hg : W.grownBy W' row) (hr : ∀ r, row = some r → ∃ o : Obj, W.heap[r]? = some o ∧ o.isCells = false) : Blk W' b cs t :=
  (hg.block b h.lt (fun e => by
    obtain ⟨ob, h1, h2⟩ := hr b e.symm
    have h3 := (show W.heap[b]? = _ from h).symm.trans h1
    injection h3 with h3
    rw [← h3] at h2
    cases h2)).trans h
theorem RS.grown {k : R6 → List Value} {W W' : World} {A : Option Addr} {n c : Nat} {l : List R6} {row : Option Nat} (h : RS k W A n c l) (hg : W.grownBy W' row) (hr : ∀ r, row = some r → ∃ o : Obj, W.heap[r]? = some o ∧ o.isCells = false) : RS k W' A n c l :=
  ⟨h.len, h.cap, h.nil, fun hn => by
    obtain ⟨b, o, e, hlt, hc⟩ := h.row hn
    exact ⟨b, o, e, Nat.lt_of_lt_of_le hlt hg.size, fun i r hi => rng_grown (hc i r hi) hg hr⟩⟩

/-- A holding that is gone through: its classes' keys and its positions stand. -/
structure Hi (p : Nat) (A : Option Addr) (n c : Nat) (B : Option Addr) (m d : Nat) (ks ps : List R6) (W : World) : Prop where
  blk : Blk W p #[.slice A n c, .slice B m d] 25
  cl : ∃ l, RS cC W A n c l ∧ l.map key = ks
  po : RS cP W B m d ps
section
variable {p n c m d : Nat} {A B : Option Addr} {ks ps : List R6} {W W' : World}
theorem Hi.grown {row : Option Nat} (h : Hi p A n c B m d ks ps W) (hg : W.grownBy W' row) (hr : ∀ r, row = some r → ∃ o : Obj, W.heap[r]? = some o ∧ o.isCells = false) : Hi p A n c B m d ks ps W' := by
  obtain ⟨l, h1, h2⟩ := h.cl
  exact ⟨blk_grown h.blk hg hr, ⟨l, h1.grown hg hr, h2⟩, h.po.grown hg hr⟩
theorem Hi.bel (h : Hi p A n c B m d ks ps W) (hb : Bel W W') : Hi p A n c B m d ks ps W' := h.grown (Kk.Bel.grownBy hb) (fun r e => by cases e)
end
/-- The pool that a position has a part in. -/
def ptrO (A : Option Addr) (I : Bool) (K : Nat) : Value :=
  match A with
  | some a => if I then .pointer (some ⟨a.block, a.off + K * 6 + 4, none⟩) else .pointer none
  | none => .pointer none
def ptrV (A : Option Addr) (ks : List R6) (r : R6) : Value := ptrO A (inB ordC ks (stp r)) (pos ordC ks (stp r))
abbrev Ps (ps : List R6) := { r : R6 // r ∈ ps }

set_option maxRecDepth 100000 in
set_option maxHeartbeats 4000000 in
theorem iter_in (p : Nat) (A : Option Addr) (n c : Nat) (B : Option Addr) (m d : Nat) (ks ps : List R6) (hks : Srt ordC ks) (hn : n ≤ 1000000) (hm : m ≤ 1000000) (N : Nat) (hN : 1 ≤ N) (l : Nat) (J Jx : List (Ps ps) → World → Prop)
    (hJ : ∀ s V V', J s V → Bel V V' → J s V')
    (hY : ∀ pre e V, J pre V → pre.length < m → YieldAt Fence.wide (N - 1) Tryz.prog l #[.agg (cP (e : Ps ps).1).toArray, ptrV A ks e.1] V fun r V' => (r = .returned (.bool true) ∧ J (pre ++ [e]) V' ∧ (Hi p A n c B m d ks ps V → Hi p A n c B m d ks ps V')) ∨ (r = .returned (.bool false) ∧ Jx (pre ++ [e]) V'))
    (W : World) (hW : Hi p A n c B m d ks ps W) (h0 : J [] W) :
    CallsIn Fence.wide N Tryz.prog 151 #[.func (.yield l) #[] #[], .pointer (some ⟨p, 0, none⟩)] W fun e V => (∃ v, e = .returned v) ∧ ((∃ xs : List (Ps ps), xs.map (fun e : Ps ps => e.1) = ps ∧ J xs V) ∨ (∃ pre : List (Ps ps), pre.map (fun e : Ps ps => e.1) <+: ps ∧ Jx pre V)) := by
  have HKS := Lib.hid hks
  have HJ := Lib.hid hJ
  have HLN := Lib.hid hW.po.len
  have b1 := hW.blk.cell 1 rfl
  have HW := Lib.hid hW
  clear hJ hks hW
  refine callsIn_of_wp Tryz.func151 rfl trivial ?_ rfl
  simp only [Tryz.ntmps151, List.size_toArray, List.length_cons, List.length_nil, Nat.reduceAdd, Nat.reduceSub, Array.replicate_succ, Array.replicate_zero, List.push_toArray, List.append_toArray, List.nil_append, List.cons_append]
  gi_wp2_with fail
  gi_loopw [11] (fun s wr => ∃ (pre : List (Ps ps)) (k : Nat), s = .int .i64 k ∧ k ≤ m ∧ pre.length = k ∧ pre.map (fun e : Ps ps => e.1) = ps.take k ∧ Hi p A n c B m d ks ps wr ∧ J pre wr) (fun s _ => m - (intOf s).toNat)
  case atStart => exact ⟨[], 0, rfl, Nat.zero_le _, rfl, rfl, HW.out, h0⟩
  case round =>
    obtain ⟨pre, k, rfl, hk, hpl, hpt, hi, hj⟩ := hrel
    have HPL := Lib.hid hpl
    have HPT := Lib.hid hpt
    have HI := Lib.hid hi
    clear hpl hpt hi
    by_cases hlt : k < m
    · obtain ⟨r, hr⟩ := HI.out.po.get hlt
      obtain ⟨b, o, rfl, hb, hrow⟩ := HI.out.po.at hlt hr
      have HIN := Lib.hid (show r ∈ ps from List.mem_of_getElem? hr)
      have HR := Lib.hid hr
      have HYE := Lib.hid (fun V => hY pre ⟨r, HIN.out⟩ V)
      have HNX := Lib.hid (show (pre ++ [(⟨r, HIN.out⟩ : Ps ps)]).map (fun e : Ps ps => e.1) = ps.take (k + 1) by rw [List.map_append, HPT.out, List.take_add_one, hr]; rfl)
      have hlt3 : (k : Int) < m := by omega
      obtain ⟨lc, hlc, hkk⟩ := HI.out.cl
      obtain ⟨r1, r2, r3, r4, r5, r6⟩ := r
      have HP := Lib.hid (show ptrV A ks (r1, r2, r3, r4, r5, r6) = ptrO A (inB ordC ks (r2, r3, r4, r5, 0, 0)) (pos ordC ks (r2, r3, r4, r5, 0, 0)) from rfl)
      have hpos := pol_at lc (r2, r3, r4, r5, 0, 0)
      rw [← pos_key, ← in_key, hkk] at hpos
      have FD := Lib.hid (fun V (hb : Bel wr V) => findC A n c lc r2 r3 r4 r5 0 0 V (hlc.bel hb) (by omega) (srt_key.1 (by rw [hkk]; exact HKS.out)))
      have FD := Lib.hid (show ∀ V, Bel wr V → Calls Tryz.prog 149 #[.slice A n c, .agg #[.int .i64 r2, .int .i64 r3, .int .i64 r4, .int .i64 r5, .int .u64 0, .int .u64 0], .func (.func 130) #[] #[]] V fun e w' => e = .returned (.tuple #[.int .i64 (pos ordC ks (r2, r3, r4, r5, 0, 0)), .bool (inB ordC ks (r2, r3, r4, r5, 0, 0))]) ∧ Bel V w' by
        have h := FD.out
        rw [← pos_key, ← in_key, hkk] at h
        exact h)
      obtain ⟨K, hK⟩ : ∃ K, pos ordC ks (r2, r3, r4, r5, 0, 0) = K := ⟨_, rfl⟩
      obtain ⟨I, hI⟩ : ∃ I, inB ordC ks (r2, r3, r4, r5, 0, 0) = I := ⟨_, rfl⟩
      rw [hK, hI] at HP FD hpos
      have HLC := Lib.hid hlc
      have HPO := Lib.hid hpos
      clear hK hI hr hlc hkk hpos
      obtain ⟨c0, c1, c2, c3, c4, c5⟩ := rng6 (rowP hrow)
      obtain ⟨V, hV⟩ : ∃ V, wr.alloc (.cells #[.int .i64 r1, .int .i64 r2, .int .i64 r3, .int .i64 r4, .int .i64 r5, .int .u64 r6] 93) = V := ⟨_, rfl⟩
      have BV := Lib.hid (show Bel wr V by rw [← hV]; exact (Bel.refl _).alloc _)
      have P0 := Lib.hid (show Blk V wr.heap.size #[.int .i64 r1, .int .i64 r2, .int .i64 r3, .int .i64 r4, .int .i64 r5, .int .u64 r6] 93 by rw [← hV]; exact Blk.new _ _ _)
      have a0 := (HI.out.bel BV.out).blk.cell 0 rfl
      obtain ⟨d0, d1, d2, d3, d4, d5⟩ := rng6 (rngB (C := [.int .i64 r1, .int .i64 r2, .int .i64 r3, .int .i64 r4, .int .i64 r5, .int .u64 r6]) P0.out)
      rw [Nat.zero_add] at d1 d2 d3 d4 d5
      gi_wp2_with fail
      refine ⟨by first | trivial | decide, ?_⟩
      refine (callsIn_wide.2 (FD.out _ BV.out)).mono ?_
      rintro e V2 ⟨rfl, kb⟩
      have B2 := Lib.hid (BV.out.trans kb)
      have P2 := Lib.hid (P0.out.bel kb)
      have HI2 := Lib.hid (HI.out.bel B2.out)
      clear kb c0 c1 c2 c3 c4 c5 a0 d0 d1 d2 d3 d4 d5 hV FD hrow
      obtain ⟨g, hg⟩ : ∃ g, wr.heap.size = g := ⟨_, rfl⟩
      rw [hg] at P2 ⊢
      clear hg P0
      have a0 := HI2.out.blk.cell 0 rfl
      obtain ⟨d0, d1, d2, d3, d4, d5⟩ := rng6 (rngB (C := [.int .i64 r1, .int .i64 r2, .int .i64 r3, .int .i64 r4, .int .i64 r5, .int .u64 r6]) P2.out)
      rw [Nat.zero_add] at d1 d2 d3 d4 d5
      obtain ⟨fn, tmps, assign, body, hy, hR⟩ := HYE.out V2 (HJ.out _ _ _ hj B2.out) (by rw [HPL.out]; exact hlt)
      cases I
      · have hP : ptrV A ks (r1, r2, r3, r4, r5, r6) = .pointer none := by rw [HP.out]; cases A <;> rfl
        rw [hP] at hy
        replace hy : (Instr.yield l #[.agg #[.int .i64 r1, .int .i64 r2, .int .i64 r3, .int .i64 r4, .int .i64 r5, .int .u64 r6], .pointer none]).run Tryz.prog V2 = .ok (.round l fn tmps assign body) V2 := hy
        clear hP hj
        gi_wp2
        refine hR.mono ?_
        rintro e W3 (⟨rfl, hJ3, hk3⟩ | ⟨rfl, hJx3⟩)
        · have HK3 := Lib.hid (hk3 HI2.out)
          clear hk3
          gi_wp2
          go_roundw
          case rel => exact ⟨_, k + 1, by go_num, by omega, by simp [HPL.out], HNX.out, HK3.out, hJ3⟩
          case measure => simp [intOf]; omega
        · gi_wp2
          refine bodyPost_ret (results_none rfl _ _ _) rfl ?_
          exact ⟨⟨_, rfl⟩, .inr ⟨_, by rw [HNX.out]; exact List.take_prefix _ _, hJx3⟩⟩
      · obtain ⟨rr, hrr, _, _, hlK⟩ := HPO.out.2 rfl
        have hKn : K < n := by have := HLC.out.len; omega
        obtain ⟨bc, oc, rfl, hbc, _⟩ := HLC.out.at hKn hrr
        have hP : ptrV (some ⟨bc, oc, none⟩) ks (r1, r2, r3, r4, r5, r6) = .pointer (some ⟨bc, oc + K * 6 + 4, none⟩) := by rw [HP.out]; rfl
        rw [hP] at hy
        replace hy : (Instr.yield l #[.agg #[.int .i64 r1, .int .i64 r2, .int .i64 r3, .int .i64 r4, .int .i64 r5, .int .u64 r6], .pointer (some ⟨bc, oc + K * 6 + 4, none⟩)]).run Tryz.prog V2 = .ok (.round l fn tmps assign body) V2 := hy
        have hK3 : (K : Int) < n := by omega
        clear hP hj hrr hlK
        gi_wp2
        refine hR.mono ?_
        rintro e W3 (⟨rfl, hJ3, hk3⟩ | ⟨rfl, hJx3⟩)
        · have HK3 := Lib.hid (hk3 HI2.out)
          clear hk3
          gi_wp2
          go_roundw
          case rel => exact ⟨_, k + 1, by go_num, by omega, by simp [HPL.out], HNX.out, HK3.out, hJ3⟩
          case measure => simp [intOf]; omega
        · gi_wp2
          refine bodyPost_ret (results_none rfl _ _ _) rfl ?_
          exact ⟨⟨_, rfl⟩, .inr ⟨_, by rw [HNX.out]; exact List.take_prefix _ _, hJx3⟩⟩
    · obtain rfl : k = m := by omega
      gi_wp2
      go_end0
      exact ⟨⟨_, rfl⟩, .inl ⟨pre, by rw [HPT.out, List.take_of_length_le (by rw [HLN.out]; exact Nat.le_refl _)], hj⟩⟩

theorem seq (N : Nat) (hN : 1 ≤ N) {p : Nat} {A : Option Addr} {n c : Nat} {B : Option Addr} {m d : Nat} {ks ps : List R6} (hks : Srt ordC ks) (hn : n ≤ 1000000) (hm : m ≤ 1000000) {w0 : World} (h0 : Hi p A n c B m d ks ps w0) :
    SeqStopsK Fence.wide N Tryz.prog 151 #[.pointer (some ⟨p, 0, none⟩)] (fun e : Ps ps => #[.agg (cP e.1).toArray, ptrV A ks e.1]) (fun V V' => Hi p A n c B m d ks ps V → Hi p A n c B m d ks ps V') (fun xs => xs.map (fun e : Ps ps => e.1) = ps) (fun pre => pre.map (fun e : Ps ps => e.1) <+: ps) m w0 :=
  fun l J Jx W hW hJ hJx hY hj => iter_in p A n c B m d ks ps hks hn hm N hN l J Jx (fun s V V' hs hb => hJ s V V' none hs (Kk.Bel.grownBy hb) (fun r e => by cases e)) hY W (h0.bel hW) hj
theorem held (A : Option Addr) (n c : Nat) (B : Option Addr) (m d : Nat) (w : World) : Calls Tryz.prog 79 #[.agg #[.slice A n c, .slice B m d]] w fun e w' => ∃ p, e = .returned (.func (.func 151) #[] #[.pointer (some ⟨p, 0, none⟩)]) ∧ Bel w w' ∧ w.heap.size ≤ p ∧ Blk w' p #[.slice A n c, .slice B m d] 25 := by
  have P0 := Lib.hid (Blk.new w #[.slice A n c, .slice B m d] 25)
  go_enter Tryz.func79, Tryz.ntmps79
  go_wp2
  go_ret
  exact ⟨_, rfl, (Bel.refl _).alloc _, Nat.le_refl _, P0.out⟩
end Ho
end Go.Proofs.YtneajcoiemkfbaaGreat
end

section
/-
  What holding.checkPositions answers. Conditions: the classes are in order, at most a million rows.
-/
namespace Go.Proofs.YtneajcoiemkfbaaGreat
open Go.RowKit Go.Shelf
set_option linter.unusedVariables false
attribute [local go_sem] Oper.semAt_some
namespace Ho
open Kk Pm

theorem isAccount (x : Int) (w : World) : Calls Tryz.prog 132 #[.int .i64 x] w fun e w' => e = .returned (.bool (decide (0 ≤ x ∧ x ≤ 63))) ∧ w = w' := by
  go_enter Tryz.func132, Tryz.ntmps132
  by_cases h : 0 ≤ x
  · by_cases h2 : x < 64
    · have hd : decide (0 ≤ x ∧ x ≤ 63) = true := decide_eq_true ⟨h, by omega⟩
      rw [hd]
      go_wp2
      go_ret
      exact ⟨rfl, rfl⟩
    · have hd : decide (0 ≤ x ∧ x ≤ 63) = false := decide_eq_false (by omega)
      rw [hd]
      go_wp2
      go_ret
      exact ⟨rfl, rfl⟩
  · have hd : decide (0 ≤ x ∧ x ≤ 63) = false := decide_eq_false (by omega)
    rw [hd]
    go_wp2
    go_ret
    exact ⟨rfl, rfl⟩

/-- All so far are right. -/
def Good (cs ps : List R6) (pre : List (Ps ps)) : Prop := ∀ (j : Nat) (r : R6), (pre.map (fun e : Ps ps => e.1))[j]? = some r → poE cs (bef none ps j) r = 0
theorem Good.snoc {cs ps : List R6} {pre : List (Ps ps)} (h : Good cs ps pre) {x : Ps ps} (h0 : poE cs (bef none ps pre.length) x.1 = 0) : Good cs ps (pre ++ [x]) := fun j r hj => by
  rw [List.map_append] at hj
  rcases Nat.lt_or_ge j pre.length with hl | hl
  · rw [List.getElem?_append_left (by simpa using hl)] at hj
    exact h j r hj
  · rw [List.getElem?_append_right (by simpa using hl)] at hj
    obtain rfl : j = pre.length := by
      have := (List.getElem?_eq_some_iff.1 hj).1
      simp at this
      omega
    simp at hj
    subst hj
    exact h0
theorem Good.done {cs ps : List R6} {pre : List (Ps ps)} (h : Good cs ps pre) (hp : pre.map (fun e : Ps ps => e.1) = ps) : seqE (poE cs) none ps = 0 :=
  seqE_end _ ps none fun j x hx => h j x (by rw [hp]; exact hx)
theorem Good.stop {cs ps : List R6} {pre : List (Ps ps)} {x : Ps ps} (h : Good cs ps pre) (hp : (pre ++ [x]).map (fun e : Ps ps => e.1) <+: ps) {E : Int} (hE : E = poE cs (bef none ps pre.length) x.1) (h0 : E ≠ 0) : seqE (poE cs) none ps = E := by
  have hat : ∀ (j : Nat) (r : R6), ((pre ++ [x]).map (fun e : Ps ps => e.1))[j]? = some r → ps[j]? = some r := fun j r hj => by
    obtain ⟨t, ht⟩ := hp
    rw [← ht, List.getElem?_append_left (List.getElem?_eq_some_iff.1 hj).1]
    exact hj
  have hlast := hat pre.length x.1 (by simp)
  rw [seqE_at _ ps none pre.length x.1 (fun j r hj hr => ?_) hlast (by rw [← hE]; exact h0), hE]
  refine h j r ?_
  have hlen : j < (pre.map (fun e : Ps ps => e.1)).length := by simpa using hj
  have h1 : ((pre ++ [x]).map (fun e : Ps ps => e.1))[j]? = (pre.map (fun e : Ps ps => e.1))[j]? := by rw [List.map_append, List.getElem?_append_left hlen]
  have h2 := hat j _ (h1.trans (List.getElem?_eq_getElem hlen))
  rw [h2] at hr
  injection hr with hr
  rw [← hr]
  exact List.getElem?_eq_getElem hlen
/-- Between two rounds. -/
def CkI (w : World) (g p : Nat) (A : Option Addr) (n c : Nat) (B : Option Addr) (m d : Nat) (cs ps : List R6) (pre : List (Ps ps)) (V : World) : Prop :=
  Hi p A n c B m d (cs.map key) ps V ∧ Bx3 w V g #[.slice A n c, .slice B m d] #[.int .i64 0] 25 30 #[.int .i64 pre.length] 3 ∧ Good cs ps pre
theorem Bx3.grown {w V V' : World} {g : Nat} {X Y Z : Array Value} {s t u : TypeId} {row : Option Nat} (h : Bx3 w V g X Y s t Z u) (hg : V.grownBy V' row) (hr : ∀ r, row = some r → w.heap.size ≤ r ∧ ∃ o : Obj, V.heap[r]? = some o ∧ o.isCells = false) : Bx3 w V' g X Y s t Z u :=
  ⟨Kk.Bel.grown h.1 hg (fun k e => (hr k e).1), blk_grown h.2.1 hg (fun r e => (hr r e).2), blk_grown h.2.2.1 hg (fun r e => (hr r e).2), blk_grown h.2.2.2.1 hg (fun r e => (hr r e).2), h.2.2.2.2⟩
/-- Left with an error. -/
def CkX (w : World) (g : Nat) (cs ps : List R6) (cd : Code) (pre : List (Ps ps)) (V : World) : Prop :=
  cd = .ret ∧ ∃ (q : List (Ps ps)) (x : Ps ps) (E : Int), pre = q ++ [x] ∧ Good cs ps q ∧ E = poE cs (bef none ps q.length) x.1 ∧ E ≠ 0 ∧ Blk V (g + 1) #[.int .i64 E] 30 ∧ Bel w V
theorem slice_hP (B : Option Addr) (m d k : Nat) (w : World) (h : k ≤ d) : (Instr.slice 23 (.slice B m d) none (some (.int .i64 k)) none).run Tryz.prog w = .ok (.slice B k d) w := by
  have e : Tryz.prog.elem 23 = 93 := by kernel_rfl
  rw [run_slice_h (P := Tryz.prog) (w := w) (t := 23) (a := B) (len := m) (cap := d) (by rw [e]; exact Tryz.underlying23) .i64 k (by omega) (by omega), e]
  cases B <;> simp [Tryz.sizeOf93, Result.andThen, sliced, Addr.add]
theorem peq_nn (w : World) : (binOp .eql 115 (.pointer none) (.pointer none)).run Tryz.prog w = .ok (.bool true) w := by
  have ht := Tryz.underlying115
  have h : ∀ d : Nat, (Op.equalIn (d + 1) 115 (.pointer none) (.pointer none)).run Tryz.prog w = .ok true w := fun d => by simp [Op.equalIn, run_underlying ht]
  simp only [binOp]
  simp [Op.equal, Op.maxDepth, h 9999]
theorem peq_sn (a : Addr) (w : World) : (binOp .eql 115 (.pointer (some a)) (.pointer none)).run Tryz.prog w = .ok (.bool false) w := by
  have ht := Tryz.underlying115
  have h : ∀ d : Nat, (Op.equalIn (d + 1) 115 (.pointer (some a)) (.pointer none)).run Tryz.prog w = .ok false w := fun d => by simp [Op.equalIn, run_underlying ht]
  simp only [binOp]
  simp [Op.equal, Op.maxDepth, h 9999]
theorem in_none (ks : List R6) (x : R6) : get ordC ks x = none ↔ inB ordC ks x = false := by
  unfold inB
  cases get ordC ks x <;> simp
theorem bef_take (ps : List R6) (k : Nat) (hk : k ≤ ps.length) : bef none ps k = if k = 0 then none else (ps.take k)[k - 1]? := by
  cases k with
  | zero => rfl
  | succ k => rw [if_neg (by omega), Nat.add_sub_cancel, List.getElem?_take, if_pos (by omega)]; rfl
/-- A block of one cell is no row's. -/
theorem rs_not_one {k : R6 → List Value} (K : C6 k) {w : World} {A : Option Addr} {n c : Nat} {l : List R6} (h : RS k w A n c l) {g : Nat} {v : Value} {t : TypeId} (hg : Blk w g #[v] t) (hn : 0 < n) : ∀ x, A = some x → x.block ≠ g := fun x hx e => by
  obtain ⟨r, hr⟩ := h.get hn
  obtain ⟨b, o, ea, hb, hrow⟩ := h.at hn hr
  rw [ea] at hx
  injection hx with hx
  subst hx
  obtain rfl : b = g := e
  have hl : 1 < (k r).length := by rw [K.len]; decide
  have hc := hrow 1 _ (List.getElem?_eq_getElem hl)
  rw [cell_of_row w b _ _ t (0, 0) hg] at hc
  have : (#[v] : Array Value)[o + 0 * 6 + 1]? = none := by
    rw [Array.getElem?_eq_none]
    first | (simp; done) | (simp; omega)
  rw [this] at hc
  cases hc
theorem RS.kep2 {k : R6 → List Value} {w w' : World} {A : Option Addr} {n c : Nat} {l : List R6} {S : Nat → Prop} (h : RS k w A n c l) (hb : Kep S w w') (hs : 0 < n → ∀ x, A = some x → ¬ S x.block) : RS k w' A n c l :=
  ⟨h.len, h.cap, h.nil, fun hn => by
    obtain ⟨b, o, e, hlt, hc⟩ := h.row hn
    exact ⟨b, o, e, Nat.lt_of_lt_of_le hlt hb.size, fun i r hi => rng_kep (hc i r hi) hb (hs hn _ e)⟩⟩
theorem RS.set1 {k : R6 → List Value} (K : C6 k) {w : World} {A : Option Addr} {n c : Nat} {l : List R6} (h : RS k w A n c l) {g : Nat} {v : Value} {t : TypeId} (hg : Blk w g #[v] t) (u : Value) : RS k (w.setCell ⟨g, 0, none⟩ u) A n c l :=
  h.kep2 (S := fun b => b = g) (Kep.set_self (Kep.refl _ w) 0 u) (fun hn x hx => rs_not_one K h hg hn x hx)
theorem blk_ne {w : World} {a b : Nat} {ca cb : Array Value} {ta tb : TypeId} (ha : Blk w a ca ta) (hb : Blk w b cb tb) (h : ta ≠ tb) : a ≠ b := fun e => by
  subst e
  have := (show w.heap[a]? = _ from ha).symm.trans hb
  injection this with this
  injection this with _ e
  exact h e
theorem Hi.set1 {p n c m d : Nat} {A B : Option Addr} {ks ps : List R6} {W : World} (h : Hi p A n c B m d ks ps W) {g : Nat} {v : Value} {t : TypeId} (hg : Blk W g #[v] t) (ht : t ≠ 25) (u : Value) : Hi p A n c B m d ks ps (W.setCell ⟨g, 0, none⟩ u) := by
  obtain ⟨l, h1, h2⟩ := h.cl
  exact ⟨h.blk.other (blk_ne h.blk hg (fun e => ht e.symm)) 0 u, ⟨l, h1.set1 c6C hg u, h2⟩, h.po.set1 c6P hg u⟩
set_option maxRecDepth 100000 in
set_option maxHeartbeats 4000000 in
theorem checkPositions (A : Option Addr) (n c : Nat) (B : Option Addr) (m d : Nat) (cs ps : List R6) (w : World) (ha : RS cC w A n c cs) (hb : RS cP w B m d ps) (hs : Srt ordC cs) (hn : n ≤ 1000000) (hm : m ≤ 1000000) :
    Calls Tryz.prog 64 #[.agg #[.slice A n c, .slice B m d]] w fun e w' => e = .returned (.int .i64 (seqE (poE cs) none ps)) ∧ Bel w w' := by
  have HD := Lib.hid (fun V => held A n c B m d V)
  have BX := Lib.hid (Bx3.new w #[.slice A n c, .slice B m d] #[.int .i64 0] #[.int .i64 0] 25 30 3)
  have HA := Lib.hid ha
  have HB := Lib.hid hb
  have HS := Lib.hid (srt_key.2 hs)
  clear ha hb hs
  obtain ⟨RR, hRR⟩ : ∃ R, seqE (poE cs) none ps = R := ⟨_, rfl⟩
  have HRES := Lib.hid hRR
  rw [hRR]
  clear hRR
  refine callsIn_wide.1 (callsIn_of_wp_marks (F := Fence.wide) (n := 9) Tryz.func64 rfl trivial ?_ rfl)
  simp only [Tryz.ntmps64, List.size_toArray, List.length_cons, List.length_nil, Nat.reduceAdd, Nat.reduceSub, Array.replicate_succ, Array.replicate_zero, List.push_toArray, List.append_toArray, List.nil_append, List.cons_append]
  refine wpIn_wide.2 ?_
  go_wp2_with fail
  refine (HD.out _).mono ?_
  rintro e W ⟨p, rfl, kb, hp, pb⟩
  obtain ⟨V, hV⟩ : ∃ V, ((w.alloc (.cells #[.slice A n c, .slice B m d] 25)).alloc (.cells #[.int .i64 0] 30)).alloc (.cells #[.int .i64 0] 3) = V := ⟨_, rfl⟩
  rw [hV] at kb hp BX
  obtain ⟨g, hg⟩ : ∃ g, w.heap.size = g := ⟨_, rfl⟩
  rw [hg] at BX ⊢
  have BX1 := Lib.hid (BX.out.bel kb)
  have HI := Lib.hid (show Hi p A n c B m d (cs.map key) ps W from ⟨pb, ⟨cs, HA.out.bel BX1.out.1, rfl⟩, HB.out.bel BX1.out.1⟩)
  have SEQ := Lib.hid (seq 8 (by decide) HS.out hn hm HI.out)
  have HL := Lib.hid HB.out.len
  have HG := Lib.hid (show w.heap.size ≤ W.heap.size from Below.size BX1.out.1)
  have HGG := Lib.hid hg
  clear hV hg kb hp pb BX
  go_wp2_with fail
  refine (wpIn_wide (n := 9)).1 ?_
  refine wpIn_rangeFunc_ownH (α := Ps ps) rfl (by decide) (gf := 151) (lb := #[.pointer (some ⟨p, 0, none⟩)]) rfl trivial (enters_of Tryz.func151 (by kernel_rfl) rfl)
    SEQ.out (fun h k x => k (h x)) (fun X l o o' _ ho hc _ h => h.grown (grownBy_putObj' X l o') (fun r e => by cases e; exact ⟨o, ho, hc⟩)) (Below.refl _ _) (fun _ => rfl)
    (fun pre V => CkI w g p A n c B m d cs ps pre V) (fun cd pre V => CkX w g cs ps cd pre V)
    (fun s X X' row h hg hr => ⟨h.1.grown hg (fun r e => (hr r e).2), h.2.1.grown hg (fun r e => ⟨Nat.le_trans HG.out (hr r e).1, (hr r e).2⟩), h.2.2⟩)
    (fun cd s X X' row h hg hr => by
      obtain ⟨h1, q, x, E, h2, h3, h4, h5, h6, h7⟩ := h
      exact ⟨h1, q, x, E, h2, h3, h4, h5, blk_grown h6 hg (fun r e => (hr r e).2), Kk.Bel.grown h7 hg (fun k e => Nat.le_trans HG.out (hr k e).1)⟩)
    ⟨HI.out, BX1.out, fun j r hj => by simp at hj⟩
    (fun e a' X => ∃ q, a' = { tmps := #[.agg #[.slice A n c, .slice B m d], .pointer (some ⟨g, 0, none⟩), .pointer (some ⟨g + 1, 0, none⟩), .pointer (some ⟨g + 1 + 1, 0, none⟩), .pointer (some ⟨q, 0, none⟩), ptrV A (cs.map key) e.1, .agg #[.slice A n c, .slice B m d], .func (.func 151) #[] #[.pointer (some ⟨p, 0, none⟩)], .agg (cP e.1).toArray, ptrV A (cs.map key) e.1, undef, undef, undef, undef, undef, undef, undef, undef, undef, undef, undef, undef, undef, undef, undef, undef, undef, undef, undef, undef, undef, undef], defers := [] } ∧ Blk X q (cP e.1).toArray 93 ∧ 0 ≤ q)
    (fun e a' _ X X' row h hg hr => by
      obtain ⟨q, h1, h2, h3⟩ := h
      exact ⟨q, h1, blk_grown h2 hg (fun r e => (hr r e).2), h3⟩)
    ?assign ?body ?done ?stop
  case assign =>
    rintro l pre ⟨⟨r1, r2, r3, r4, r5, r6⟩, hr⟩ X K hI hK
    obtain ⟨Q, hQ⟩ : ∃ Q, ptrV A (cs.map key) (r1, r2, r3, r4, r5, r6) = Q := ⟨_, rfl⟩
    have HK := Lib.hid (hK { tmps := #[.agg #[.slice A n c, .slice B m d], .pointer (some ⟨g, 0, none⟩), .pointer (some ⟨g + 1, 0, none⟩), .pointer (some ⟨g + 1 + 1, 0, none⟩), .pointer (some ⟨X.heap.size, 0, none⟩), Q, .agg #[.slice A n c, .slice B m d], .func (.func 151) #[] #[.pointer (some ⟨p, 0, none⟩)], .agg #[.int .i64 r1, .int .i64 r2, .int .i64 r3, .int .i64 r4, .int .i64 r5, .int .u64 r6], Q, undef, undef, undef, undef, undef, undef, undef, undef, undef, undef, undef, undef, undef, undef, undef, undef, undef, undef, undef, undef, undef, undef], defers := [] } (X.alloc (.cells #[.int .i64 r1, .int .i64 r2, .int .i64 r3, .int .i64 r4, .int .i64 r5, .int .u64 r6] 93))
      ((KeepsOthers.alloc X _).from _) (fun h => h.bel ((Bel.refl _).alloc _)) ⟨hI.1.bel ((Bel.refl _).alloc _), hI.2.1.bel ((Bel.refl _).alloc _), hI.2.2⟩ ⟨X.heap.size, by rw [← hQ]; rfl, Blk.new _ _ _, Nat.zero_le _⟩)
    show Code.wpIn _ _ _ _ _ { tmps := (#[8, 9].zip #[.agg #[.int .i64 r1, .int .i64 r2, .int .i64 r3, .int .i64 r4, .int .i64 r5, .int .u64 r6], ptrV A (cs.map key) (r1, r2, r3, r4, r5, r6)]).foldl _ _, defers := [] } X
    rw [hQ]
    clear hK hQ
    gi_wp2
    exact HK.out
  case body =>
    rintro l pre ⟨⟨r1, r2, r3, r4, r5, r6⟩, hr⟩ a' X hl hex ⟨hhi, hbx, hgood⟩ ⟨q, rfl, hq, hqb⟩ hlen
    obtain ⟨k, hk⟩ : ∃ k, pre.length = k := ⟨_, rfl⟩
    have HKL := Lib.hid hk
    rw [hk] at hbx hlen
    have HHI := Lib.hid hhi
    have HBX := Lib.hid hbx
    have HGD := Lib.hid hgood
    have HQ := Lib.hid (show Blk X q #[.int .i64 r1, .int .i64 r2, .int .i64 r3, .int .i64 r4, .int .i64 r5, .int .u64 r6] 93 from hq)
    have HPE := Lib.hid (show poE cs (bef none ps k) (r1, r2, r3, r4, r5, r6) = if ¬ (0 ≤ r1 ∧ r1 ≤ 63) then 3 else if foll ordP (bef none ps k) (r1, r2, r3, r4, r5, r6) = false then 9 else if r6 = 0 then 14 else if get ordC cs (r2, r3, r4, r5, 0, 0) = none then 10 else 0 from rfl)
    have HIN := Lib.hid (in_none (cs.map key) (r2, r3, r4, r5, 0, 0))
    have hptr : ptrV A (cs.map key) (r1, r2, r3, r4, r5, r6) = ptrO A (inB ordC (cs.map key) (r2, r3, r4, r5, 0, 0)) (pos ordC (cs.map key) (r2, r3, r4, r5, 0, 0)) := rfl
    have HIC := Lib.hid (in_none cs (r2, r3, r4, r5, 0, 0))
    rw [in_key] at hptr
    have FO := Lib.hid (fun V (hv : Bel X V) => followsP B k d (ps.take k) r1 r2 r3 r4 r5 r6 (bef none ps k) V ((hhi.po.bel hv).part (by omega)) (by omega) (bef_take ps k (by rw [HL.out]; omega)))
    have hkd : k ≤ d := by have := hhi.po.cap; omega
    have hsl := fun V => slice_hP B m d k V hkd
    have HSTOP := Lib.hid (show ∀ (V : World) (E : Int), poE cs (bef none ps k) (r1, r2, r3, r4, r5, r6) = E → E ≠ 0 → Bel X V → KeepsFrom W.heap.size X (V.setCell ⟨g + 1, 0, none⟩ (.int .i64 E)) ∧ CkX w g cs ps .ret (pre ++ [⟨(r1, r2, r3, r4, r5, r6), hr⟩]) (V.setCell ⟨g + 1, 0, none⟩ (.int .i64 E)) from fun V E hE h0 hv =>
      ⟨((KeepsOthers.of_grownBy (Kk.Bel.grownBy hv) (fun j o e => by cases e)).trans (KeepsOthers.setCell _ _ _)).from _, rfl, pre, _, E, rfl, HGD.out, by rw [HKL.out]; exact hE.symm, h0, (HBX.out.bel hv).2.2.1.set 0 _,
        ((HBX.out.bel hv).1).set (by have := (HBX.out.2.2.2.2); show w.heap.size ≤ g + 1; omega) _⟩)
    have HGO := Lib.hid (show ∀ (V : World), poE cs (bef none ps k) (r1, r2, r3, r4, r5, r6) = 0 → Bel X V → KeepsFrom W.heap.size X (V.setCell ⟨g + 1 + 1, 0, none⟩ (.int .i64 ((k : Int) + 1))) ∧ (Hi p A n c B m d (cs.map key) ps X → Hi p A n c B m d (cs.map key) ps (V.setCell ⟨g + 1 + 1, 0, none⟩ (.int .i64 ((k : Int) + 1)))) ∧ CkI w g p A n c B m d cs ps (pre ++ [⟨(r1, r2, r3, r4, r5, r6), hr⟩]) (V.setCell ⟨g + 1 + 1, 0, none⟩ (.int .i64 ((k : Int) + 1))) from fun V hE hv => by
      have hb := HBX.out.bel hv
      have hge : w.heap.size ≤ g := hb.2.2.2.2
      have h3 := (HHI.out.bel hv).set1 hb.2.2.2.1 (by decide) (.int .i64 ((k : Int) + 1))
      refine ⟨((KeepsOthers.of_grownBy (Kk.Bel.grownBy hv) (fun j o e => by cases e)).trans (KeepsOthers.setCell _ _ _)).from _, fun _ => h3, h3, ⟨hb.1.set (by show w.heap.size ≤ g + 2; omega) _, hb.2.1.other (by omega) 0 _, hb.2.2.1.other (by omega) 0 _, ?_, hge⟩, HGD.out.snoc (by rw [HKL.out]; exact hE)⟩
      have := hb.2.2.2.1.set 0 (.int .i64 ((k : Int) + 1))
      have e : (((pre ++ [(⟨(r1, r2, r3, r4, r5, r6), hr⟩ : Ps ps)]).length : Nat) : Int) = (k : Int) + 1 := by rw [List.length_append, HKL.out]; rfl
      rw [e]
      exact this)
    have HAN := Lib.hid (show A = none → inB ordC cs (r2, r3, r4, r5, 0, 0) = false from fun hA => by
      have h1 := HA.out.nil hA
      have h2 := HA.out.cap
      have h3 := HA.out.len
      have : cs = [] := List.length_eq_zero_iff.1 (by omega)
      rw [this]; rfl)
    obtain ⟨E, hE⟩ : ∃ E, poE cs (bef none ps k) (r1, r2, r3, r4, r5, r6) = E := ⟨_, rfl⟩
    obtain ⟨F, hF⟩ : ∃ F, foll ordP (bef none ps k) (r1, r2, r3, r4, r5, r6) = F := ⟨_, rfl⟩
    obtain ⟨I, hI⟩ : ∃ I, inB ordC cs (r2, r3, r4, r5, 0, 0) = I := ⟨_, rfl⟩
    obtain ⟨ac, hac⟩ : ∃ b, decide (0 ≤ r1 ∧ r1 ≤ 63) = b := ⟨_, rfl⟩
    obtain ⟨gn, hgn⟩ : ∃ o, get ordC cs (r2, r3, r4, r5, 0, 0) = o := ⟨_, rfl⟩
    rw [hE, hF, hgn] at HPE
    rw [hE] at HSTOP HGO
    rw [hF] at FO
    rw [hgn, hI] at HIC
    rw [hI] at HAN
    rw [hI] at hptr
    rw [hptr]
    obtain ⟨pk, hpk⟩ : ∃ pk, pos ordC (cs.map key) (r2, r3, r4, r5, 0, 0) = pk := ⟨_, rfl⟩
    rw [hpk]
    have HAC := Lib.hid hac
    have AC := Lib.hid (fun V => isAccount r1 V)
    rw [hac] at AC
    obtain ⟨d0, d1, d2, d3, d4, d5⟩ := rng6 (rngB (C := [.int .i64 r1, .int .i64 r2, .int .i64 r3, .int .i64 r4, .int .i64 r5, .int .u64 r6]) HQ.out)
    rw [Nat.zero_add] at d1 d2 d3 d4 d5
    have e0 := HBX.out.2.2.1.cell 0 rfl
    have ef := HBX.out.2.2.1.frozen 0
    have i0 := HBX.out.2.2.2.1.cell 0 rfl
    have if0 := HBX.out.2.2.2.1.frozen 0
    clear hE hF hI hgn hhi hbx hgood hq hptr hpk hac hk
    show Code.wpIn _ _ _ _ _ { tmps := #[.agg #[.slice A n c, .slice B m d], .pointer (some ⟨g, 0, none⟩), .pointer (some ⟨g + 1, 0, none⟩), .pointer (some ⟨g + 1 + 1, 0, none⟩), .pointer (some ⟨q, 0, none⟩), ptrO A I pk, .agg #[.slice A n c, .slice B m d], .func (.func 151) #[] #[.pointer (some ⟨p, 0, none⟩)], .agg #[.int .i64 r1, .int .i64 r2, .int .i64 r3, .int .i64 r4, .int .i64 r5, .int .u64 r6], ptrO A I pk, undef, undef, undef, undef, undef, undef, undef, undef, undef, undef, undef, undef, undef, undef, undef, undef, undef, undef, undef, undef, undef, undef], defers := [] } X
    gi_wp2_with fail
    refine ⟨by first | trivial | decide, ?_⟩
    refine (callsIn_wide.2 (AC.out _)).mono ?_
    rintro e X1 ⟨rfl, rfl⟩
    cases ac
    · obtain rfl : E = 3 := by rw [HPE.out, if_pos (of_decide_eq_false HAC.out)]
      gi_wp2_with fail
      exact HSTOP.out X 3 rfl (by decide) (Bel.refl _)
    · have hac := of_decide_eq_true HAC.out
      have HPE := Lib.hid (HPE.out.trans (if_neg (fun h => h hac)))
      clear hac
      gi_wp2_with fail
      refine held_in (S := fun V => Bel X V) (by kernel_rfl) (by kernel_rfl) (by rintro ⟨_, _, h⟩; exact h) (Bel.refl _).drew (fun hS0 => ?_)
      obtain ⟨w6, hw6⟩ : ∃ w6, World.drew X = w6 := ⟨_, rfl⟩
      rw [hw6] at hS0 ⊢
      clear hw6
      refine ztk 0 { dst := some 16, op := .fieldAddr 25 (.tmp 1) 1, type := 0, pos := "check.go:73", after := #[], guard := none } (.pointer (some ⟨g, 1, none⟩)) (Or.inl ⟨by rfl, by intro w hSw; clear hSw; go_simp⟩) hS0 ?_
      try simp only [Act.put, zq1, zq2, zq3]
      refine ztk 1 { dst := some 17, op := .load 23 (.tmp 16), type := 23, pos := "check.go:73", after := #[{ on := 0, ground := .data }], guard := none } (.slice B m d) (Or.inl ⟨by rfl, by intro w h; have hcell := ((HBX.out.bel h).2.1.cell 1 rfl); clear h; go_simp⟩) hS0 ?_
      try simp only [Act.put, zq1, zq2, zq3]
      refine ztk 2 { dst := some 18, op := .load 3 (.tmp 3), type := 3, pos := "check.go:73", after := #[], guard := none } (.int .i64 k) (Or.inl ⟨by rfl, by intro w h; have hcell := ((HBX.out.bel h).2.2.2.1.cell 0 rfl); clear h; go_simp⟩) hS0 ?_
      try simp only [Act.put, zq1, zq2, zq3]
      refine ztk 3 { dst := some 19, op := .slice 23 (.tmp 17) none (some (.tmp 18)) none, type := 23, pos := "check.go:73", after := #[{ on := 1, ground := .data }, { on := 2, ground := .data }], guard := none } (.slice B k d) (Or.inl ⟨by rfl, by intro w hSw; clear hSw; go_simp⟩) hS0 ?_
      try simp only [Act.put, zq1, zq2, zq3]
      refine ztk 4 { dst := some 20, op := .load 93 (.tmp 4), type := 93, pos := "check.go:73", after := #[], guard := none } (.agg #[.int .i64 r1, .int .i64 r2, .int .i64 r3, .int .i64 r4, .int .i64 r5, .int .u64 r6]) (yieldsIf_load_mid (by rfl) _ _ rfl _ _ rfl _ _ (fun w h => rng_bel (rngB (C := [.int .i64 r1, .int .i64 r2, .int .i64 r3, .int .i64 r4, .int .i64 r5, .int .u64 r6]) HQ.out) h) Tryz.underlying93 rfl info_p) hS0 ?_
      try simp only [Act.put, zq1, zq2, zq3]
      refine wpAnyH_ready (rs := [5]) (by kernel_rfl) (by simp) ?_
      refine AllReadyH.cons (o := { dst := some 21, op := .call { callee := .value (.func 133), args := #[.tmp 19, .tmp 20, .func 134], argTypes := #[23, 93, 219] }, type := 4, pos := "check.go:73", after := #[{ on := 3, ground := .data }, { on := 4, ground := .data }], guard := none }) rfl (fun K hK => ?_) AllReadyH.nil
      go_simp
      refine (FO.out _ hS0).mono ?_
      rintro e v1 ⟨rfl, kb⟩
      go_wp2_with fail
      refine hK.out _ _ (hS0.trans kb) (fun hS1 => ?_)
      clear hK K
      try simp only [Act.put, zq1, zq2, zq3]
      refine ztk 6 { dst := some 22, op := .unOp .not 4 (.tmp 21), type := 4, pos := "check.go:73", after := #[{ on := 5, ground := .data }], guard := none } (.bool (!F)) (Or.inl ⟨by rfl, by intro w hSw; clear hSw; go_simp⟩) hS1 ?_
      try simp only [Act.put, zq1, zq2, zq3]
      refine ztk 7 { dst := some 15, op := .assign (.tmp 22), type := 4, pos := "check.go:73", after := #[{ on := 6, ground := .data }, { on := 5, ground := .chain }], guard := none } (.bool (!F)) (Or.inl ⟨by rfl, by intro w hSw; clear hSw; go_simp⟩) hS1 ?_
      try simp only [Act.put, zq1, zq2, zq3]
      refine wpAnyH_done (by kernel_rfl) ?_ _
      have HE := Lib.hid hS1
      have Q2 := Lib.hid (HQ.out.bel HE.out)
      have BX2 := Lib.hid (HBX.out.bel HE.out)
      clear d0 d1 d2 d3 d4 d5 e0 ef i0 if0 FO
      obtain ⟨d0, d1, d2, d3, d4, d5⟩ := rng6 (rngB (C := [.int .i64 r1, .int .i64 r2, .int .i64 r3, .int .i64 r4, .int .i64 r5, .int .u64 r6]) Q2.out)
      rw [Nat.zero_add] at d1 d2 d3 d4 d5
      have e0 := BX2.out.2.2.1.cell 0 rfl
      have ef := BX2.out.2.2.1.frozen 0
      have i0 := BX2.out.2.2.2.1.cell 0 rfl
      have if0 := BX2.out.2.2.2.1.frozen 0
      cases F
      · obtain rfl : E = 9 := HPE.out
        gi_wp2_with fail
        exact HSTOP.out _ 9 rfl (by decide) HE.out
      · have HPE := Lib.hid (HPE.out.trans (if_neg (by decide)))
        by_cases h6 : r6 = 0
        · obtain rfl : E = 14 := HPE.out.trans (if_pos h6)
          subst h6
          gi_wp2_with fail
          exact HSTOP.out _ 14 rfl (by decide) HE.out
        · have HPE := Lib.hid (HPE.out.trans (if_neg h6))
          have h6' : (r6 == 0) = false := beq_eq_false_iff_ne.2 h6
          clear h6
          cases I
          · obtain rfl : E = 10 := HPE.out.trans (if_pos (HIC.out.2 rfl))
            have hp0 : ptrO A false pk = .pointer none := by cases A <;> rfl
            have hpq := fun V => peq_nn V
            gi_wp2_with fail
            exact HSTOP.out _ 10 rfl (by decide) HE.out
          · obtain rfl : E = 0 := HPE.out.trans (if_neg (fun hh => by have := HIC.out.1 hh; cases this))
            cases A with
            | none => exact absurd (HAN.out rfl) (by decide)
            | some a =>
              obtain ⟨ab, ao, asx⟩ := a
              have hp0 : ptrO (some ⟨ab, ao, asx⟩) true pk = .pointer (some ⟨ab, ao + pk * 6 + 4, none⟩) := rfl
              have hpq := fun V => peq_sn ⟨ab, ao + pk * 6 + 4, none⟩ V
              have hk1 : (k : Int) < m := by omega
              gi_wp2_with fail
              exact HGO.out _ (by first | rfl | trivial) HE.out
  case done =>
    rintro D xs X hD hxs ⟨hhi, hbx, hgood⟩ hK
    have HS0 := Lib.hid (hgood.done hxs)
    have HBX := Lib.hid hbx
    have HK := Lib.hid hK
    have e0 := hbx.2.2.1.cell 0 rfl
    have ef := hbx.2.2.1.frozen 0
    have HK2 := Lib.hid (show (X.setCell ⟨g + 1, 0, none⟩ (.int .i64 0)).heap[D]? = some (.deferred (some [])) from (KeepsOthers.setCell X ⟨g + 1, 0, none⟩ (.int .i64 0)).same D _ hK rfl)
    obtain rfl : RR = 0 := HRES.out.symm.trans HS0.out
    clear hhi hbx hgood hK hxs
    go_wp2_with fail
    refine ⟨by simp, .inl ⟨_, _, rfl, run_takeDeferred HK2.out, ?_⟩⟩
    have hB2 := blk_grown (HBX.out.2.2.1.set 0 (.int .i64 0)) (grownBy_putObj' (X.setCell ⟨g + 1, 0, none⟩ (.int .i64 0)) D (.deferred none)) (fun r e => by cases e; exact ⟨_, HK2.out, rfl⟩)
    have hc2 := hB2.cell 0 rfl
    exact ⟨.int .i64 0, by simp [results, Tryz.results64, go_sem, hc2], rfl, Kk.Bel.grown (HBX.out.1.set (by have := HBX.out.2.2.2.2; show w.heap.size ≤ g + 1; omega) _) (grownBy_putObj' _ D _) (fun k e => by cases e; have := HG.out; omega)⟩
  case stop =>
    rintro D cd pre X hD hpre ⟨rfl, q, x, E, rfl, hgood, hE, h0, hblk, hbel⟩ hK
    have HS0 := Lib.hid (hgood.stop hpre hE h0)
    obtain rfl : RR = E := HRES.out.symm.trans HS0.out
    have HK2 := Lib.hid hK
    have HBK := Lib.hid hblk
    have HBE := Lib.hid hbel
    clear hgood hpre hE h0 hblk hbel hK
    gi_wp2_with fail
    refine ⟨by simp, .inl ⟨_, _, rfl, run_takeDeferred HK2.out, ?_⟩⟩
    have hB2 := blk_grown HBK.out (grownBy_putObj' X D (.deferred none)) (fun r e => by cases e; exact ⟨_, HK2.out, rfl⟩)
    have hc2 := hB2.cell 0 rfl
    exact ⟨.int .i64 RR, by simp [results, Tryz.results64, go_sem, hc2], rfl, Kk.Bel.grown HBE.out (grownBy_putObj' _ D _) (fun k e => by cases e; have := HG.out; omega)⟩
end Ho
end Go.Proofs.YtneajcoiemkfbaaGreat
end
