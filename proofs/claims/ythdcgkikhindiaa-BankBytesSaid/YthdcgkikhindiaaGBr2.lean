/-
  What the reference's Read answers, given what is read of the bytes. Conditions: at most a million bytes; where there is no fault, the count is not 0.
-/
import Derived.Deep.AppendLies
import Derived.Test.YthdcgkikhindiaaGBr1
import Derived.Test.YthdcgkikhindiaaBH
import Derived.Test.YthdcgkikhindiaaGQRead6
namespace Go.Proofs.Ythdcgkikhindiaa
open Go.RowKit Go.Shelf
set_option linter.unusedVariables false
namespace Bk
open Pm

theorem wp_append_u {w : World} {o : Oper} {a : Act} {K : Act → World → Prop} {Q : Exit → Act → World → Prop} (s x : Operand)
    (ho : o.op = .call { callee := .builtin .append, args := #[s, x], argTypes := #[22, 22] })
    (base : Nat) (v : Value) (k : Nat) (xs : List Value) (hs : a.eval s = v) (hown : w.ownsRow base 23 1 v k xs) (A : Option Addr) (m c : Nat) (zs : List Int) (hx : a.eval x = .slice A m c) (hi : SU w A m c zs)
    (hm : k + m ≤ 1000000000000) (hb : base ≤ w.heap.size)
    (h : ∀ v' w', w'.ownsRow base 23 1 v' (k + m) (xs ++ zs.map (Value.int .u64)) → w.grownBy w' v.ownBlock → K (a.put o.dst v') w') : o.wp Try.prog a w K Q := by
  obtain ⟨i0, h1, hz0, hz1, hz2⟩ := info_parts info_w
  cases A with
  | none =>
    obtain rfl : c = 0 := hi.nil rfl
    obtain rfl : m = 0 := by have := hi.cap; omega
    have hz : zs = [] := List.length_eq_zero_iff.1 hi.ints.1
    subst hz
    have hrun := run_append_owned_none (P := Try.prog) (w := w) base 22 o.type 23 i0 1 Try.underlying22 h1 v k xs hown
    unfold Oper.wp
    simp [execOp, ho, resolve, invoke, builtin, hs, hx, hrun, Result.andThen]
    exact h v w (by simpa using hown) ⟨rfl, rfl, rfl, Nat.le_refl _, fun _ _ _ => rfl⟩
  | some ad =>
    obtain ⟨v', w', hr, h2, h3, _, _⟩ := run_append_own_at (P := Try.prog) w base 22 o.type 23 i0 (.int .u64 0) 1 8 Try.underlying22 h1 hz0 hz1 hz2 rfl (by decide) v k xs hown ad m c (zs.map (Value.int .u64)) (by have := hi.ints.1; simp; omega) (Kk.Ints.news hi.ints) (Kk.ints_ok zs) (by unfold maxLen; omega) (by omega) hb
    unfold Oper.wp execOp
    simp only [ho, resolve, invoke, builtin, Sem.run_bind, Sem.run_pure, Result.andThen_ok, List.map_toArray, List.map_cons, List.map_nil, hs, hx, hr]
    exact h v' w' h2 h3

theorem step_append_u {w : World} {ops : Array Oper} {o : Oper} {a : Act} {K : Act → World → Prop} {Q : Exit → Act → World → Prop} {E : Prop} (hgd : o.guard = none) (s x : Operand)
    (ho : o.op = .call { callee := .builtin .append, args := #[s, x], argTypes := #[22, 22] })
    (base : Nat) (v : Value) (k : Nat) (xs : List Value) (hs : a.eval s = v) (hown : w.ownsRow base 23 1 v k xs) (A : Option Addr) (m c : Nat) (zs : List Int) (hx : a.eval x = .slice A m c) (hi : SU w A m c zs)
    (hm : k + m ≤ 1000000000000) (hb : base ≤ w.heap.size)
    (h : ∀ v' w', w'.ownsRow base 23 1 v' (k + m) (xs ++ zs.map (Value.int .u64)) → w.grownBy w' v.ownBlock → K (a.put o.dst v') w') :
    if Region.wanted o (yielded ops a.tmps) = true then Oper.wp Try.prog o a w K Q else E := by
  rw [if_pos (by simp [Region.wanted, hgd])]
  exact wp_append_u s x ho base v k xs hs hown A m c zs hx hi hm hb h

/-- The memory: the results' blocks, the reader b, the bank's cells T, the accounts' row. -/
structure Qd (w0 : World) (r b T : Nat) (A : Option Addr) (m c : Nat) (raw : List Int) (k : Nat) (f : Option (Int × Int)) (v : Value) (Z P : List Int) (W : World) : Prop where
  at0 : w0.heap.size = r
  bel : Kk.Bel w0 W
  b0 : Kk.Blk W r [.slice none 0 0, .int .u64 0, .int .u64 0, .int .u64 0, .int .u64 0].toArray 26
  b1 : Kk.Blk W (r + 1) [.int .i64 0, .int .i64 0].toArray 49
  bt : Kk.Blk W T (bkC v P).toArray 26
  row : W.ownsRow T 23 1 v Z.length (Z.map (Value.int .u64))
  qt : Cd.QT W b A m c raw k f
  hb : r + 1 < b
  hT : b < T
  hA : 0 < m → ∀ x : Addr, A = some x → x.block < b
theorem Qd.kept {w0 : World} {r b T : Nat} {A : Option Addr} {m c : Nat} {raw : List Int} {k : Nat} {f : Option (Int × Int)} {v : Value} {Z P : List Int} {W V : World} (h : Qd w0 r b T A m c raw k f v Z P W) (hk : Kk.Bel W V) : Qd w0 r b T A m c raw k f v Z P V :=
  ⟨h.at0, h.bel.trans hk, h.b0.bel hk, h.b1.bel hk, h.bt.bel hk, Kk.owns_bel h.row hk, h.qt.bel hk, h.hb, h.hT, h.hA⟩
theorem Qd.read {w0 : World} {r b T : Nat} {A : Option Addr} {m c : Nat} {raw : List Int} {k k' : Nat} {f f' : Option (Int × Int)} {v : Value} {Z P : List Int} {W V : World} (h : Qd w0 r b T A m c raw k f v Z P W) (hr : Cd.QT V b A m c raw k' f') (hk : Kk.Kep (fun i => i = b) W V) : Qd w0 r b T A m c raw k' f' v Z P V := by
  have h1 := h.hb; have h2 := h.hT; have h5 := h.at0
  refine ⟨h.at0, Kk.Kep.bel h.bel hk (fun i hi => by omega), h.b0.kep hk (by omega), h.b1.kep hk (by omega), h.bt.kep hk (by omega), ?_, hr, h.hb, h.hT, h.hA⟩
  exact Kk.Kep.owns hk (fun i hi e => by have h3 := (h.row.lt i hi).1; have e2 : i = b := e; omega) h.row
/-- An append to the row: the bank's cells still name the old one. -/
theorem Qd.app {w0 : World} {r b T : Nat} {A : Option Addr} {m c : Nat} {raw : List Int} {k : Nat} {f : Option (Int × Int)} {v v' : Value} {Z P : List Int} {x : Int} {W V : World} (h : Qd w0 r b T A m c raw k f v Z P W) (ho : V.ownsRow T 23 1 v' (Z.length + 1) (Z.map (Value.int .u64) ++ [x].map (Value.int .u64))) (hg : W.grownBy V v.ownBlock) :
    Qd w0 r b T A m c raw k f v' (Z ++ [x]) P (V.setCell ⟨T, 0, none⟩ v') := by
  have h1 := h.hb; have h2 := h.hT; have h5 := h.at0
  have hne : ∀ i, v.ownBlock = some i → T ≤ i ∧ i ≠ T := fun i hi => ⟨(h.row.lt i hi).1, fun e => h.bt.not_row (by decide) h.row (by rw [hi, e])⟩
  have hk : Kk.Kep (fun i => v.ownBlock = some i) W V := (Kk.Kep.refl _ W).grown hg (fun i hi _ => hi)
  have hb0 := h.b0.kep hk (fun e => by have := (hne r e).1; omega)
  have hb1 := h.b1.kep hk (fun e => by have := (hne (r + 1) e).1; omega)
  have hbt := h.bt.kep hk (fun e => (hne T e).2 rfl)
  have hqt : Cd.QT V b A m c raw k f := h.qt.kep (ck hk) (fun e => by have := (hne b e).1; omega) (fun hm a ha e => by have := (hne _ e).1; have := h.hA hm a ha; omega)
  have hk2 : Kk.Kep (fun i => i = T) V (V.setCell ⟨T, 0, none⟩ v') := Kk.Kep.set_self (Kk.Kep.refl _ V) 0 _
  refine ⟨h.at0, (h.bel.grown hg (fun i hi => by have := (hne i hi).1; omega)).set (by show w0.heap.size ≤ T; omega) _, hb0.other (by omega) _ _, hb1.other (by omega) _ _, ?_, ?_, hqt.kep (ck hk2) (by omega) (fun hm a ha => by have := h.hA hm a ha; omega), h.hb, h.hT, h.hA⟩
  · have h6 := hbt.set 0 v'
    rw [List.setIfInBounds_toArray] at h6
    exact h6
  · rw [List.length_append, List.map_append]
    exact Kk.owns_set ho (fun e => hbt.not_row (by decide) ho e) 0 _
theorem Qd.setP {w0 : World} {r b T : Nat} {A : Option Addr} {m c : Nat} {raw : List Int} {k : Nat} {f : Option (Int × Int)} {v : Value} {Z P : List Int} {W : World} (h : Qd w0 r b T A m c raw k f v Z P W) (i : Nat) (x : Int) : Qd w0 r b T A m c raw k f v Z (P.set i x) (W.setCell ⟨T, 1 + i, none⟩ (.int .u64 x)) := by
  have h1 := h.hb; have h2 := h.hT; have h5 := h.at0
  have hk2 : Kk.Kep (fun i => i = T) W (W.setCell ⟨T, 1 + i, none⟩ (.int .u64 x)) := Kk.Kep.set_self (Kk.Kep.refl _ W) _ _
  refine ⟨h.at0, h.bel.set (by show w0.heap.size ≤ T; omega) _, h.b0.other (by omega) _ _, h.b1.other (by omega) _ _, ?_, Kk.owns_set h.row (fun e => h.bt.not_row (by decide) h.row e) _ _, h.qt.kep (ck hk2) (by omega) (fun hm a ha => by have := h.hA hm a ha; omega), h.hb, h.hT, h.hA⟩
  have h6 := h.bt.set (1 + i) (.int .u64 x)
  rw [List.setIfInBounds_toArray, Nat.add_comm, bkC, List.set_cons_succ, ← List.map_set] at h6
  rw [Nat.add_comm]
  exact h6
theorem Qd.fault {w0 : World} {r b T u : Nat} {A : Option Addr} {m c : Nat} {raw : List Int} {k : Nat} {f : Option (Int × Int)} {v : Value} {Z P : List Int} {C : Array Value} {W : World} (h : Qd w0 r b T A m c raw k f v Z P W) (hu : Kk.Blk W u C 49) (hr : r + 1 < u ∧ T < u) (x : Int) : Qd w0 r b T A m c raw k f v Z P (W.setCell ⟨u, 0, none⟩ (.int .i64 x)) := by
  have h1 := h.hb; have h2 := h.hT; have h5 := h.at0
  have hk2 : Kk.Kep (fun i => i = u) W (W.setCell ⟨u, 0, none⟩ (.int .i64 x)) := Kk.Kep.set_self (Kk.Kep.refl _ W) _ _
  exact ⟨h.at0, h.bel.set (by show w0.heap.size ≤ u; omega) _, h.b0.other (by omega) _ _, h.b1.other (by omega) _ _, h.bt.other (by omega) _ _, Kk.owns_set h.row (fun e => hu.not_row (by decide) h.row e) _ _, h.qt.kep (ck hk2) (by omega) (fun hm a ha => by have := h.hA hm a ha; omega), h.hb, h.hT, h.hA⟩
/-- A fault that is met is one. -/
def Nz (f : Option (Int × Int)) : Prop := ∀ p, f = some p → p.1 ≠ 0
theorem moves_nz {k : Nat} {tl e bad : Int} {k' : Nat} {f' : Option (Int × Int)} (h : Cd.Moves k tl e bad k' f') : Nz f' := by
  rcases h with ⟨_, _, rfl⟩ | ⟨he, _, rfl⟩
  · intro p h; cases h
  · intro p h; injection h with h; subst h; exact he
theorem ru_nz {zs : List Int} {k : Nat} {f : Option (Int × Int)} {x : Int} {k' : Nat} {f' : Option (Int × Int)} (h : Cd.RU zs k f x k' f') (hf : Nz f) : Nz f' := by
  rcases h with ⟨p, _, _, _, rfl⟩ | ⟨_, _, _, _, _, hm, _⟩
  · exact hf
  · exact moves_nz hm
theorem rn_nz {zs : List Int} {k : Nat} {f : Option (Int × Int)} {a b x : Int} {k' : Nat} {f' : Option (Int × Int)} (h : Cd.RN zs k f a b x k' f') (hf : Nz f) : Nz f' := by
  rcases h with ⟨p, _, _, _, rfl⟩ | ⟨_, _, _, _, _, hm, _⟩
  · exact hf
  · exact moves_nz hm
theorem us_nz {zs : List Int} {ke : Nat} {fe : Option (Int × Int)} : ∀ (l : List Int) {k : Nat} {f : Option (Int × Int)}, Us zs ke fe l k f → Nz f → Nz fe
  | [], _, _, h, hf => by rw [← h.2]; exact hf
  | x :: l, _, _, ⟨_, _, h1, h2⟩, hf => us_nz l h2 (ru_nz h1 hf)
theorem end_zero {n ke : Nat} {fe : Option (Int × Int)} (hz : Nz fe) (h : (Cd.endOf n ke fe).1 = 0) : (Cd.endOf n ke fe).2 = 0 := by
  unfold Cd.endOf at h ⊢
  cases fe with
  | some p => exact absurd h (hz p rfl)
  | none =>
    by_cases hk : ke < n
    · simp only [if_pos hk] at h; cases h
    · simp only [if_neg hk]
theorem take_snoc (l : List Int) {i : Nat} (h : i < l.length) : l.take i ++ [l.getD i 0] = l.take (i + 1) := (take_succ' l i h).symm

set_option maxRecDepth 10000 in
set_option maxHeartbeats 8000000 in
theorem readR (B : Option Addr) (m c : Nat) (raw : List Int) (w : World) (hs : Kk.Sl w B m c raw) (hm : m ≤ 1000000) (hb : Cd.Bytes raw) (n : Nat) (l : List Int) (ke : Nat) (fe : Option (Int × Int)) (hr : Run raw n l ke fe) (hn1 : (Cd.endOf raw.length ke fe).1 = 0 → 1 ≤ n) :
    Calls Try.prog 30 #[.slice B m c] w fun e w' => ∃ Y, e = .returned (.tuple #[.agg Y.toArray, .agg #[.int .i64 (rdF raw n l ke fe).1, .int .i64 (rdF raw n l ke fe).2]]) ∧ NB w w' Y (rdZ raw n l ke fe) (rdP raw n l ke fe) := by
  obtain ⟨hn64, hll, hwl, k0, f0, hrn, hus⟩ := hr
  obtain ⟨W0, hW0⟩ : ∃ W0, w.alloc (.cells ZB 26) = W0 := ⟨_, rfl⟩
  obtain ⟨W1, hW1⟩ : ∃ W1, W0.alloc (.cells #[.int .i64 0, .int .i64 0] 49) = W1 := ⟨_, rfl⟩
  obtain ⟨r, hr0⟩ : ∃ r, w.heap.size = r := ⟨_, rfl⟩
  have hs0 : W0.heap.size = r + 1 := by rw [← hW0, ← hr0, World.size_alloc]
  have hs1 : W1.heap.size = r + 2 := by rw [← hW1, World.size_alloc, hs0]
  have B1 := Lib.hid (show Kk.Bel w W1 by rw [← hW1, ← hW0]; exact ((Kk.Bel.refl w).alloc _).alloc _)
  have QB := Lib.hid (show Kk.Blk W1 r [.slice none 0 0, .int .u64 0, .int .u64 0, .int .u64 0, .int .u64 0].toArray 26 by rw [← hW1, ← hW0, ← hr0]; exact (Kk.Blk.new w _ _).alloc _)
  have QF := Lib.hid (show Kk.Blk W1 (r + 1) [.int .i64 0, .int .i64 0].toArray 49 by rw [← hW1, ← hs0]; exact Kk.Blk.new W0 _ _)
  have SL := Lib.hid (show Cd.Sl W1 B m c raw from ⟨(hs.bel B1.out).ints, hs.cap, hs.nil⟩)
  have HR := Lib.hid hr0
  have HS1 := Lib.hid hs1
  have HW0 := Lib.hid (show w.alloc (.cells #[.slice none 0 0, .int .u64 0, .int .u64 0, .int .u64 0, .int .u64 0] 26) = W0 from hW0)
  have HW1 := Lib.hid hW1
  have HRN := Lib.hid hrn
  have HUS := Lib.hid hus
  have HLL := Lib.hid hll
  have HWL := Lib.hid hwl
  have HN := Lib.hid hn64
  have HN1 := Lib.hid hn1
  have HNZ := Lib.hid (show Nz fe from us_nz l hus (rn_nz hrn (fun p h => by cases h)))
  obtain ⟨e1, he1⟩ : ∃ e1, (rdF raw n l ke fe).1 = e1 := ⟨_, rfl⟩
  obtain ⟨e2, he2⟩ : ∃ e2, (rdF raw n l ke fe).2 = e2 := ⟨_, rfl⟩
  rw [he1, he2]
  have HE1 := Lib.hid he1
  have HE2 := Lib.hid he2
  have uB := Try.underlying26
  clear hs hr0 hs0 hs1 hW0 hW1 hrn hus hll hwl hn64 he1 he2 hn1
  go_enter Try.func30, Try.ntmps30
  go_upto_region 1 with fail
  rw [HW0.out, HR.out, HW1.out]
  go_wp2_with fail
  refine (Cd.qNew B m c raw W1 SL.out hm hb).mono ?_
  rintro e w2 ⟨b, A, c2, rfl, hb2, hqs, hA, k2⟩
  have QS := Lib.hid (show Cd.QT w2 b A m c2 raw 0 none from ⟨0, hqs, fun _ => rfl⟩)
  have K2 := Lib.hid (show Kk.Bel W1 w2 from k2)
  have HB := Lib.hid (show r + 1 < b by have := HS1.out; omega)
  have HRB := Lib.hid (hqs.blk.lt)
  have HAL := Lib.hid (show 0 < m → ∀ x : Addr, A = some x → x.block < b from fun h x hx => (hA h x hx).2)
  clear hqs hA k2 hb2
  go_upto_region 3 with fail
  have T3 : Kk.Blk (w2.alloc (.cells ZB 26)) w2.heap.size (bkC (.slice none 0 0) [0, 0, 0, 0]).toArray 26 := Kk.Blk.new _ _ _
  have k3 : Kk.Bel w2 (w2.alloc (.cells ZB 26)) := (Kk.Bel.refl _).alloc _
  obtain ⟨T, hT⟩ : ∃ T, w2.heap.size = T := ⟨_, rfl⟩
  obtain ⟨w3, hw3⟩ : ∃ v, w2.alloc (.cells ZB 26) = v := ⟨_, rfl⟩
  rw [hw3] at T3 k3
  rw [hT] at T3 HRB ⊢
  have HD0 : Hid (Qd w r b T A m c2 raw 0 none (.slice none 0 0) [] [0, 0, 0, 0] w3) :=
    ⟨HR.out, B1.out.trans (K2.out.trans k3), QB.out.bel (K2.out.trans k3), QF.out.bel (K2.out.trans k3), T3, ⟨rfl, .inl ⟨rfl, rfl⟩⟩, QS.out.bel k3, HB.out, HRB.out, HAL.out⟩
  rw [show w2.alloc (.cells #[.slice none 0 0, .int .u64 0, .int .u64 0, .int .u64 0, .int .u64 0] 26) = w3 from hw3]
  have CN := Lib.hid (Cd.tN b A m c2 raw 0 none 1 64 n k0 f0 w3 HD0.out.qt HRN.out (by decide) (by decide))
  clear T3 k3 hT hw3 QB QF K2 QS B1 SL HW0 HW1 HS1
  go_wp2_with fail
  refine CN.out.mono ?_
  rintro e w4 ⟨rfl, hq4, k4⟩
  have HD := Lib.hid (HD0.out.read hq4 (kk k4))
  clear hq4 k4 CN HD0
  have UA := Lib.hid (show ∀ i k f, Us raw ke fe (l.drop i) k f → i < l.length → ∃ k' f', Cd.RU raw k f (l.getD i 0) k' f' ∧ Us raw ke fe (l.drop (i + 1)) k' f' from fun i k f h hi => us_step h hi)
  have hn64 := HN.out
  go_wp2_with fail
  go_loopw [7] (fun u wr => ∃ i : Nat, u = .int .i64 i ∧ i ≤ n ∧ ∃ k f v, Qd w r b T A m c2 raw k f v (l.take i) [0, 0, 0, 0] wr ∧ Us raw ke fe (l.drop i) k f) (fun u _ => n - (intOf u).toNat)
  case atStart => exact ⟨0, rfl, Nat.zero_le _, k0, f0, _, HD.out, HUS.out⟩
  case round =>
    obtain ⟨i, rfl, hi, k, f, v, hqd, hus⟩ := hrel
    have RX := Lib.hid hqd
    have UX := Lib.hid hus
    clear hqd hus HD
    by_cases hi2 : i < n
    · have hi3 : (i : Int) < n := by omega
      obtain ⟨k3, f3, hru, hus3⟩ := UA.out i k f UX.out (by rw [HLL.out]; omega)
      have HU3 := Lib.hid hus3
      have HRU := Lib.hid hru
      obtain ⟨x, hx⟩ : ∃ x, l.getD i 0 = x := ⟨_, rfl⟩
      rw [hx] at HRU
      have HTK := Lib.hid (show l.take i ++ [x] = l.take (i + 1) by rw [← hx]; exact take_snoc l (by rw [HLL.out]; omega))
      have HTL := Lib.hid (show (l.take i).length = i by rw [List.length_take, HLL.out]; omega)
      clear hru hus3 hx
      go_upto_region 7 with fail
      refine wp_region_held_drew (S := fun _ => True) (by kernel_rfl) trivial (fun hS0 => ?_)
      have R0 := RX.out.kept (Kk.Bel.refl _).drew
      obtain ⟨v0, hv0⟩ : ∃ v0, World.drew wr = v0 := ⟨_, rfl⟩
      rw [hv0] at R0 ⊢
      clear hv0
      refine wpAnyH_take (i := 0) (oi := { dst := some 19, op := .fieldAddr 26 (.tmp 5) 0, type := 0, pos := "ref.go:193", after := #[], guard := none }) (v := .pointer (some ⟨T, 0, none⟩)) rfl (by kernel_rfl) (by kernel_rfl) (by kernel_rfl) (fun _ _ _ h => h) (Or.inl ⟨by rfl, by intro w hSw; clear hSw; go_simp⟩) trivial ?_
      try simp only [Act.put, List.setIfInBounds_toArray, List.set_cons_zero, List.set_cons_succ]
      refine wpAnyH_take (i := 2) (oi := { dst := some 21, op := .move (.tmp 4), type := 92, pos := "ref.go:193", after := #[], guard := none }) (v := .pointer (some ⟨b, 0, none⟩)) rfl (by kernel_rfl) (by kernel_rfl) (by kernel_rfl) (fun _ _ _ h => h) (Or.inl ⟨by rfl, by intro w hSw; clear hSw; go_simp⟩) trivial ?_
      try simp only [Act.put, List.setIfInBounds_toArray, List.set_cons_zero, List.set_cons_succ]
      refine wpAnyH_ready (rs := [1, 3]) (by kernel_rfl) (by simp) ?_
      refine AllReadyH.cons (o := { dst := some 20, op := .load 22 (.tmp 19), type := 22, pos := "ref.go:193", after := #[{ on := 0, ground := .data }], guard := none }) rfl (fun K hK => ?_) (AllReadyH.cons (o := { dst := some 22, op := .call { callee := .value (.func 68), args := #[.tmp 21], argTypes := #[92] }, type := 23, pos := "ref.go:193", after := #[{ on := 2, ground := .data }], guard := none }) rfl (fun K hK => ?_) AllReadyH.nil)
      · skip
        have c1 := R0.bt.cell 0 (v := v) rfl
        go_simp
        refine hK.out _ _ trivial (fun _ => ?_)
        clear hK K c1
        try simp only [Act.put, List.setIfInBounds_toArray, List.set_cons_zero, List.set_cons_succ]
        refine wpAnyH_ready (rs := [3]) (by kernel_rfl) (by simp) ?_
        refine AllReadyH.cons (o := { dst := some 22, op := .call { callee := .value (.func 68), args := #[.tmp 21], argTypes := #[92] }, type := 23, pos := "ref.go:193", after := #[{ on := 2, ground := .data }], guard := none }) rfl (fun K hK => ?_) AllReadyH.nil
        go_simp
        refine (Cd.tU b A m c2 raw k f x k3 f3 v0 R0.qt HRU.out).mono ?_
        rintro e v2 ⟨rfl, hq, kq⟩
        go_wp2_with fail
        have R2 := R0.read hq (kk kq)
        clear hq kq
        refine hK.out _ _ trivial (fun _ => ?_)
        clear hK K
        try simp only [Act.put, List.setIfInBounds_toArray, List.set_cons_zero, List.set_cons_succ]
        refine wpAnyH_ready (rs := [4]) (by kernel_rfl) (by simp) ?_
        refine AllReadyH.cons (o := { dst := some 23, op := .buildSlice 22 1 #[(0, .tmp 22)], type := 22, pos := "ref.go:193", after := #[{ on := 3, ground := .data }], guard := none }) rfl (fun K hK => ?_) AllReadyH.nil
        go_simp
        refine hK.out _ _ trivial (fun _ => ?_)
        clear hK K
        try simp only [Act.put, List.setIfInBounds_toArray, List.set_cons_zero, List.set_cons_succ]
        have R3 := R2.kept ((Kk.Bel.refl _).alloc (.cells #[.int .u64 x] 23))
        have LX := su_lit v2 [x]
        obtain ⟨gx, hgx⟩ : ∃ g, (World.heap v2).size = g := ⟨_, rfl⟩
        obtain ⟨v3, hv⟩ : ∃ z, World.alloc v2 (.cells #[.int .u64 x] 23) = z := ⟨_, rfl⟩
        have LX : SU v3 (some ⟨gx, 0, none⟩) 1 1 [x] := by rw [← hv, ← hgx]; exact LX
        rw [hv] at R3
        rw [hv, hgx]
        clear hv hgx
        refine wpAnyH_ready (rs := [5]) (by kernel_rfl) (by simp) ?_
        refine AllReadyH.cons (o := { dst := some 24, op := .call { callee := .builtin .append, args := #[.tmp 20, .tmp 23], argTypes := #[22, 22] }, type := 22, pos := "ref.go:193", after := #[{ on := 1, ground := .data }, { on := 4, ground := .data }, { on := 3, ground := .chain }], guard := none }) rfl (fun K hK => ?_) AllReadyH.nil
        have HR5 := Lib.hid R3
        refine step_append_u rfl (.tmp 20) (.tmp 23) rfl T v (l.take i).length _ rfl HR5.out.row (some ⟨gx, 0, none⟩) 1 1 [x] rfl LX (by rw [HTL.out]; omega) (Nat.le_of_lt HR5.out.bt.lt) ?_
        intro v5 w5 hown5 hgrow5
        refine hK.out _ _ trivial (fun _ => ?_)
        clear hK K
        try simp only [Act.put, List.setIfInBounds_toArray, List.set_cons_zero, List.set_cons_succ]
        have R7 := Lib.hid (HR5.out.app hown5 hgrow5)
        have ct5 : World.cell? w5 ⟨T, 0, none⟩ = some v := ((HR5.out.bt.kep ((Kk.Kep.refl _ _).grown hgrow5 (fun i hi _ => hi)) (fun e => HR5.out.bt.not_row (by decide) HR5.out.row e)).cell 0 rfl)
        have cf5 : World.frozen? w5 ⟨T, 0, none⟩ = false := ((HR5.out.bt.kep ((Kk.Kep.refl _ _).grown hgrow5 (fun i hi _ => hi)) (fun e => HR5.out.bt.not_row (by decide) HR5.out.row e)).frozen 0)
        obtain ⟨A9, c9, hv9, _⟩ := su_of_own (show w5.ownsRow T 23 1 v5 ((l.take i).length + 1) ((l.take i ++ [x]).map (Value.int .u64)) by rw [List.map_append]; exact hown5)
        subst hv9
        clear hown5 hgrow5
        refine wpAnyH_take (i := 6) (oi := { dst := some 25, op := .fieldAddr 26 (.tmp 5) 0, type := 0, pos := "ref.go:193", after := #[{ on := 0, ground := .phase }, { on := 1, ground := .phase }, { on := 2, ground := .phase }, { on := 3, ground := .phase }, { on := 4, ground := .phase }, { on := 5, ground := .phase }], guard := none }) (v := .pointer (some ⟨T, 0, none⟩)) rfl (by kernel_rfl) (by kernel_rfl) (by kernel_rfl) (fun _ _ _ h => h) (Or.inl ⟨by rfl, by intro w hSw; clear hSw; go_simp⟩) trivial ?_
        try simp only [Act.put, List.setIfInBounds_toArray, List.set_cons_zero, List.set_cons_succ]
        refine wpAnyH_ready (rs := [7]) (by kernel_rfl) (by simp) ?_
        refine AllReadyH.cons (o := { dst := none, op := .store 22 (.tmp 25) (.tmp 24), type := 0, pos := "ref.go:193", after := #[{ on := 6, ground := .data }, { on := 5, ground := .data }, { on := 5, ground := .chain }, { on := 0, ground := .phase }, { on := 1, ground := .phase }, { on := 2, ground := .phase }, { on := 3, ground := .phase }, { on := 4, ground := .phase }, { on := 5, ground := .phase }], guard := none }) rfl (fun K hK => ?_) AllReadyH.nil
        go_simp
        refine hK.out _ _ trivial (fun _ => ?_)
        clear hK K
        try simp only [Act.put]
        refine wpAnyH_done (by kernel_rfl) ?_ _
        go_wp2_with fail
        go_roundw
        case rel => exact ⟨i + 1, by go_num, by omega, k3, f3, _, by have h := R7.out; rw [HTK.out] at h; simp only [List.length_take] at h; exact h, HU3.out⟩
        case measure => simp [intOf]; omega
      · skip
        go_simp
        refine (Cd.tU b A m c2 raw k f x k3 f3 v0 R0.qt HRU.out).mono ?_
        rintro e v5 ⟨rfl, hq, kq⟩
        go_wp2_with fail
        have R5 := R0.read hq (kk kq)
        clear hq kq
        refine hK.out _ _ trivial (fun _ => ?_)
        clear hK K
        try simp only [Act.put, List.setIfInBounds_toArray, List.set_cons_zero, List.set_cons_succ]
        refine wpAnyH_ready (rs := [1, 4]) (by kernel_rfl) (by simp) ?_
        refine AllReadyH.cons (o := { dst := some 20, op := .load 22 (.tmp 19), type := 22, pos := "ref.go:193", after := #[{ on := 0, ground := .data }], guard := none }) rfl (fun K hK => ?_) (AllReadyH.cons (o := { dst := some 23, op := .buildSlice 22 1 #[(0, .tmp 22)], type := 22, pos := "ref.go:193", after := #[{ on := 3, ground := .data }], guard := none }) rfl (fun K hK => ?_) AllReadyH.nil)
        · skip
          have c1 := R5.bt.cell 0 (v := v) rfl
          go_simp
          refine hK.out _ _ trivial (fun _ => ?_)
          clear hK K c1
          try simp only [Act.put, List.setIfInBounds_toArray, List.set_cons_zero, List.set_cons_succ]
          refine wpAnyH_ready (rs := [4]) (by kernel_rfl) (by simp) ?_
          refine AllReadyH.cons (o := { dst := some 23, op := .buildSlice 22 1 #[(0, .tmp 22)], type := 22, pos := "ref.go:193", after := #[{ on := 3, ground := .data }], guard := none }) rfl (fun K hK => ?_) AllReadyH.nil
          go_simp
          refine hK.out _ _ trivial (fun _ => ?_)
          clear hK K
          try simp only [Act.put, List.setIfInBounds_toArray, List.set_cons_zero, List.set_cons_succ]
          have R7 := R5.kept ((Kk.Bel.refl _).alloc (.cells #[.int .u64 x] 23))
          have LX := su_lit v5 [x]
          obtain ⟨gx, hgx⟩ : ∃ g, (World.heap v5).size = g := ⟨_, rfl⟩
          obtain ⟨v7, hv⟩ : ∃ z, World.alloc v5 (.cells #[.int .u64 x] 23) = z := ⟨_, rfl⟩
          have LX : SU v7 (some ⟨gx, 0, none⟩) 1 1 [x] := by rw [← hv, ← hgx]; exact LX
          rw [hv] at R7
          rw [hv, hgx]
          clear hv hgx
          refine wpAnyH_ready (rs := [5]) (by kernel_rfl) (by simp) ?_
          refine AllReadyH.cons (o := { dst := some 24, op := .call { callee := .builtin .append, args := #[.tmp 20, .tmp 23], argTypes := #[22, 22] }, type := 22, pos := "ref.go:193", after := #[{ on := 1, ground := .data }, { on := 4, ground := .data }, { on := 3, ground := .chain }], guard := none }) rfl (fun K hK => ?_) AllReadyH.nil
          have HR5 := Lib.hid R7
          refine step_append_u rfl (.tmp 20) (.tmp 23) rfl T v (l.take i).length _ rfl HR5.out.row (some ⟨gx, 0, none⟩) 1 1 [x] rfl LX (by rw [HTL.out]; omega) (Nat.le_of_lt HR5.out.bt.lt) ?_
          intro v5 w5 hown5 hgrow5
          refine hK.out _ _ trivial (fun _ => ?_)
          clear hK K
          try simp only [Act.put, List.setIfInBounds_toArray, List.set_cons_zero, List.set_cons_succ]
          have R7 := Lib.hid (HR5.out.app hown5 hgrow5)
          have ct5 : World.cell? w5 ⟨T, 0, none⟩ = some v := ((HR5.out.bt.kep ((Kk.Kep.refl _ _).grown hgrow5 (fun i hi _ => hi)) (fun e => HR5.out.bt.not_row (by decide) HR5.out.row e)).cell 0 rfl)
          have cf5 : World.frozen? w5 ⟨T, 0, none⟩ = false := ((HR5.out.bt.kep ((Kk.Kep.refl _ _).grown hgrow5 (fun i hi _ => hi)) (fun e => HR5.out.bt.not_row (by decide) HR5.out.row e)).frozen 0)
          obtain ⟨A9, c9, hv9, _⟩ := su_of_own (show w5.ownsRow T 23 1 v5 ((l.take i).length + 1) ((l.take i ++ [x]).map (Value.int .u64)) by rw [List.map_append]; exact hown5)
          subst hv9
          clear hown5 hgrow5
          refine wpAnyH_take (i := 6) (oi := { dst := some 25, op := .fieldAddr 26 (.tmp 5) 0, type := 0, pos := "ref.go:193", after := #[{ on := 0, ground := .phase }, { on := 1, ground := .phase }, { on := 2, ground := .phase }, { on := 3, ground := .phase }, { on := 4, ground := .phase }, { on := 5, ground := .phase }], guard := none }) (v := .pointer (some ⟨T, 0, none⟩)) rfl (by kernel_rfl) (by kernel_rfl) (by kernel_rfl) (fun _ _ _ h => h) (Or.inl ⟨by rfl, by intro w hSw; clear hSw; go_simp⟩) trivial ?_
          try simp only [Act.put, List.setIfInBounds_toArray, List.set_cons_zero, List.set_cons_succ]
          refine wpAnyH_ready (rs := [7]) (by kernel_rfl) (by simp) ?_
          refine AllReadyH.cons (o := { dst := none, op := .store 22 (.tmp 25) (.tmp 24), type := 0, pos := "ref.go:193", after := #[{ on := 6, ground := .data }, { on := 5, ground := .data }, { on := 5, ground := .chain }, { on := 0, ground := .phase }, { on := 1, ground := .phase }, { on := 2, ground := .phase }, { on := 3, ground := .phase }, { on := 4, ground := .phase }, { on := 5, ground := .phase }], guard := none }) rfl (fun K hK => ?_) AllReadyH.nil
          go_simp
          refine hK.out _ _ trivial (fun _ => ?_)
          clear hK K
          try simp only [Act.put]
          refine wpAnyH_done (by kernel_rfl) ?_ _
          go_wp2_with fail
          go_roundw
          case rel => exact ⟨i + 1, by go_num, by omega, k3, f3, _, by have h := R7.out; rw [HTK.out] at h; simp only [List.length_take] at h; exact h, HU3.out⟩
          case measure => simp [intOf]; omega
        · skip
          go_simp
          refine hK.out _ _ trivial (fun _ => ?_)
          clear hK K
          try simp only [Act.put, List.setIfInBounds_toArray, List.set_cons_zero, List.set_cons_succ]
          have R9 := R5.kept ((Kk.Bel.refl _).alloc (.cells #[.int .u64 x] 23))
          have LX := su_lit v5 [x]
          obtain ⟨gx, hgx⟩ : ∃ g, (World.heap v5).size = g := ⟨_, rfl⟩
          obtain ⟨v9, hv⟩ : ∃ z, World.alloc v5 (.cells #[.int .u64 x] 23) = z := ⟨_, rfl⟩
          have LX : SU v9 (some ⟨gx, 0, none⟩) 1 1 [x] := by rw [← hv, ← hgx]; exact LX
          rw [hv] at R9
          rw [hv, hgx]
          clear hv hgx
          refine wpAnyH_ready (rs := [1]) (by kernel_rfl) (by simp) ?_
          refine AllReadyH.cons (o := { dst := some 20, op := .load 22 (.tmp 19), type := 22, pos := "ref.go:193", after := #[{ on := 0, ground := .data }], guard := none }) rfl (fun K hK => ?_) AllReadyH.nil
          have c1 := R9.bt.cell 0 (v := v) rfl
          go_simp
          refine hK.out _ _ trivial (fun _ => ?_)
          clear hK K c1
          try simp only [Act.put, List.setIfInBounds_toArray, List.set_cons_zero, List.set_cons_succ]
          refine wpAnyH_ready (rs := [5]) (by kernel_rfl) (by simp) ?_
          refine AllReadyH.cons (o := { dst := some 24, op := .call { callee := .builtin .append, args := #[.tmp 20, .tmp 23], argTypes := #[22, 22] }, type := 22, pos := "ref.go:193", after := #[{ on := 1, ground := .data }, { on := 4, ground := .data }, { on := 3, ground := .chain }], guard := none }) rfl (fun K hK => ?_) AllReadyH.nil
          have HR5 := Lib.hid R9
          refine step_append_u rfl (.tmp 20) (.tmp 23) rfl T v (l.take i).length _ rfl HR5.out.row (some ⟨gx, 0, none⟩) 1 1 [x] rfl LX (by rw [HTL.out]; omega) (Nat.le_of_lt HR5.out.bt.lt) ?_
          intro v5 w5 hown5 hgrow5
          refine hK.out _ _ trivial (fun _ => ?_)
          clear hK K
          try simp only [Act.put, List.setIfInBounds_toArray, List.set_cons_zero, List.set_cons_succ]
          have R7 := Lib.hid (HR5.out.app hown5 hgrow5)
          have ct5 : World.cell? w5 ⟨T, 0, none⟩ = some v := ((HR5.out.bt.kep ((Kk.Kep.refl _ _).grown hgrow5 (fun i hi _ => hi)) (fun e => HR5.out.bt.not_row (by decide) HR5.out.row e)).cell 0 rfl)
          have cf5 : World.frozen? w5 ⟨T, 0, none⟩ = false := ((HR5.out.bt.kep ((Kk.Kep.refl _ _).grown hgrow5 (fun i hi _ => hi)) (fun e => HR5.out.bt.not_row (by decide) HR5.out.row e)).frozen 0)
          obtain ⟨A9, c9, hv9, _⟩ := su_of_own (show w5.ownsRow T 23 1 v5 ((l.take i).length + 1) ((l.take i ++ [x]).map (Value.int .u64)) by rw [List.map_append]; exact hown5)
          subst hv9
          clear hown5 hgrow5
          refine wpAnyH_take (i := 6) (oi := { dst := some 25, op := .fieldAddr 26 (.tmp 5) 0, type := 0, pos := "ref.go:193", after := #[{ on := 0, ground := .phase }, { on := 1, ground := .phase }, { on := 2, ground := .phase }, { on := 3, ground := .phase }, { on := 4, ground := .phase }, { on := 5, ground := .phase }], guard := none }) (v := .pointer (some ⟨T, 0, none⟩)) rfl (by kernel_rfl) (by kernel_rfl) (by kernel_rfl) (fun _ _ _ h => h) (Or.inl ⟨by rfl, by intro w hSw; clear hSw; go_simp⟩) trivial ?_
          try simp only [Act.put, List.setIfInBounds_toArray, List.set_cons_zero, List.set_cons_succ]
          refine wpAnyH_ready (rs := [7]) (by kernel_rfl) (by simp) ?_
          refine AllReadyH.cons (o := { dst := none, op := .store 22 (.tmp 25) (.tmp 24), type := 0, pos := "ref.go:193", after := #[{ on := 6, ground := .data }, { on := 5, ground := .data }, { on := 5, ground := .chain }, { on := 0, ground := .phase }, { on := 1, ground := .phase }, { on := 2, ground := .phase }, { on := 3, ground := .phase }, { on := 4, ground := .phase }, { on := 5, ground := .phase }], guard := none }) rfl (fun K hK => ?_) AllReadyH.nil
          go_simp
          refine hK.out _ _ trivial (fun _ => ?_)
          clear hK K
          try simp only [Act.put]
          refine wpAnyH_done (by kernel_rfl) ?_ _
          go_wp2_with fail
          go_roundw
          case rel => exact ⟨i + 1, by go_num, by omega, k3, f3, _, by have h := R7.out; rw [HTK.out] at h; simp only [List.length_take] at h; exact h, HU3.out⟩
          case measure => simp [intOf]; omega
    · obtain rfl : i = n := by omega
      go_wp2_with fail
      go_wp2_with fail
      go_loopw [8] (fun u wx => ∃ j : Nat, u = .int .i64 j ∧ j ≤ 4 ∧ ∃ k f P, Qd w r b T A m c2 raw k f v (l.take i) P wx ∧ Us raw ke fe (l.drop (i + j)) k f ∧ P.length = 4 ∧ ∀ q, q < j → P.getD q 0 = l.getD (i + q) 0) (fun u _ => 4 - (intOf u).toNat)
      case atStart => exact ⟨0, rfl, by omega, k, f, _, RX.out, UX.out, rfl, fun q h => absurd h (by omega)⟩
      case round =>
        obtain ⟨j, rfl, hj, k2, f2, P, hqd, hus, hP, hPc⟩ := hrel
        have RX := Lib.hid hqd
        have UX := Lib.hid hus
        have HPL := Lib.hid hP
        have HPC := Lib.hid hPc
        clear hqd hus hP hPc
        by_cases hj2 : j < 4
        · have hj3 : (j : Int) < 4 := by omega
          obtain ⟨k3, f3, hru, hus3⟩ := UA.out (i + j) k2 f2 UX.out (by rw [HLL.out]; omega)
          have CU := Lib.hid (Cd.tU b A m c2 raw k2 f2 _ k3 f3 wr RX.out.qt hru)
          have HU3 := Lib.hid hus3
          obtain ⟨x, hx⟩ : ∃ x, l.getD (i + j) 0 = x := ⟨_, rfl⟩
          rw [hx] at CU
          have HX := Lib.hid hx
          clear hru hus3 hx
          go_wp2_with fail
          refine CU.out.mono ?_
          rintro e w7 ⟨rfl, hq, kq⟩
          have R7 := Lib.hid (RX.out.read hq (kk kq))
          have hc7 : w7.cell? ⟨T, 1 + j, none⟩ = some (.int .u64 (P.getD j 0)) := by
            refine R7.out.bt.cell (1 + j) ?_
            rw [List.getElem?_toArray, Nat.add_comm, bkC, List.getElem?_cons_succ, List.getElem?_map, List.getElem?_eq_getElem (by rw [HPL.out]; exact hj2), Kk.getD_eq _ _ (by rw [HPL.out]; exact hj2)]
            rfl
          have hf7 := R7.out.bt.frozen (1 + j)
          have R8 := Lib.hid (R7.out.setP j x)
          clear hq kq CU
          go_wp2_with fail
          go_roundw
          case rel => exact ⟨j + 1, by go_num, by omega, k3, f3, P.set j x, R8.out, HU3.out, by rw [List.length_set]; exact HPL.out, fun q hq => by
            rcases Nat.lt_or_ge q j with h | h
            · rw [getD_set_ne _ _ (Nat.ne_of_gt h)]; exact HPC.out q h
            · obtain rfl : q = j := by omega
              rw [getD_set _ _ _ (by rw [HPL.out]; exact hj2)]; exact HX.out.symm⟩
          case measure => simp [intOf]; omega
        · obtain rfl : j = 4 := by omega
          have hj3 : ¬ ((4 : Nat) : Int) < 4 := by omega
          have hend : k2 = ke ∧ f2 = fe := by
            have h := UX.out
            rw [List.drop_of_length_le (by rw [HLL.out]; omega)] at h
            exact h
          obtain ⟨rfl, rfl⟩ := hend
          have eP : P = l.drop i := by
            have h := filled (a := i) (l := l) (n := 4) (by rw [HLL.out]; omega) HPL.out HPC.out
            rw [h]
            exact List.take_of_length_le (by rw [List.length_drop, HLL.out]; omega)
          have EP := Lib.hid eP
          obtain ⟨x, hx⟩ : ∃ x, (Cd.endOf raw.length k2 f2).1 = x := ⟨_, rfl⟩
          obtain ⟨y, hy⟩ : ∃ y, (Cd.endOf raw.length k2 f2).2 = y := ⟨_, rfl⟩
          have CE := Lib.hid (show Calls Try.prog 69 #[.pointer (some ⟨b, 0, none⟩)] wr fun e w' => e = .returned (.agg #[.int .i64 x, .int .i64 y]) ∧ Kk.Bel wr w' by rw [← hx, ← hy]; exact Cd.tEnd b A m c2 raw k2 f2 wr RX.out.qt)
          have HX := Lib.hid hx
          have HY := Lib.hid hy
          have HY0 := Lib.hid (show x = 0 → y = 0 from fun h => by rw [← hy]; exact end_zero HNZ.out (by rw [hx]; exact h))
          have HN1' := Lib.hid (show x = 0 → 1 ≤ i from fun h => HN1.out (by rw [hx]; exact h))
          obtain ⟨Z, hZ⟩ : ∃ Z, l.take i = Z := ⟨_, rfl⟩
          have HZL := Lib.hid (show Z.length = i by rw [← hZ, List.length_take, HLL.out]; omega)
          have HFX := Lib.hid (show rdF raw i l k2 f2 = if x = 0 then (chk Z P, 0) else (x, y) by unfold rdF; rw [← eP, hZ, ← hx, ← hy])
          have HZP := Lib.hid (show rdZ raw i l k2 f2 = (if e1 = 0 then Z else []) ∧ rdP raw i l k2 f2 = (if e1 = 0 then P else [0, 0, 0, 0]) by unfold rdZ rdP; rw [HE1.out, ← eP, hZ]; exact ⟨rfl, rfl⟩)
          have HGD := Lib.hid (show Good Z P from ⟨by rw [← hZ]; exact words_take HWL.out i, by rw [eP]; exact words_drop HWL.out i, HPL.out, by rw [HZL.out]; omega⟩)
          rw [hZ] at RX
          clear hx hy eP hZ UX UA HUS HRN
          have uF := Try.underlying49
          go_wp2_with fail
          refine CE.out.mono ?_
          rintro e w7 ⟨rfl, k7⟩
          have R7 := Lib.hid (RX.out.kept k7)
          clear k7 CE RX
          go_upto_region 13 with fail
          obtain ⟨u, hu⟩ : ∃ u, w7.heap.size = u := ⟨_, rfl⟩
          obtain ⟨w8, hw8⟩ : ∃ w8, w7.alloc (.cells #[.int .i64 x, .int .i64 y] 49) = w8 := ⟨_, rfl⟩
          rw [hw8, hu]
          have R8 := Lib.hid (R7.out.kept (show Kk.Bel w7 w8 by rw [← hw8]; exact (Kk.Bel.refl _).alloc _))
          have U8 := Lib.hid (show Kk.Blk w8 u [.int .i64 x, .int .i64 y].toArray 49 by rw [← hw8, ← hu]; exact Kk.Blk.new w7 _ _)
          have HRU := Lib.hid (show r + 1 < u ∧ T < u by have h1 := R7.out.bt.lt; have h2 := R7.out.b1.lt; omega)
          clear hw8 hu R7
          have hru1 := HRU.out
          have hrT1 : r + 1 < T := by have h1 := R8.out.hb; have h2 := R8.out.hT; omega
          obtain ⟨Y, hY⟩ : ∃ Y, Y = bkC v P := ⟨_, rfl⟩
          have HFBR := Lib.hid (show ∀ (V : World) {k f}, Qd w r b T A m c2 raw k f v Z P V → FB w V (.agg Y.toArray) Z P from fun V {k f} h => ⟨v, by rw [hY], by rw [← h.at0] at *; exact ⟨Kk.owns_mono h.row (by have := h.hT; have := h.hb; have := h.at0; omega), h.bel⟩⟩)
          have HBV := Lib.hid (show BV w8 Y Z P from (FB.same (HFBR.out w8 R8.out) HGD.out).2)
          have HYL := Lib.hid (HBV.out.len)
          have YI := Lib.hid (show (Try.prog.info? 26).map (·.size) = some Y.length by rw [HYL.out]; exact info_bank)
          have YI2 := Lib.hid (show (Try.prog.info? 26).map (·.size) = some Y.toArray.size by rw [List.size_toArray, HYL.out]; exact info_bank)
          have YO := Lib.hid HBV.out.one
          have hcu := U8.out.cell 0 (v := .int .i64 x) rfl
          have hfu := U8.out.frozen 0
          by_cases hx0 : x = 0
          · subst hx0
            obtain rfl : y = 0 := HY0.out rfl
            have hn1 := HN1'.out rfl
            have hF := HFX.out
            rw [if_pos rfl] at hF
            obtain ⟨q, hq⟩ : ∃ q, chk Z P = q := ⟨_, rfl⟩
            have he1 : q = e1 := by rw [← HE1.out, hF, ← hq]
            have he2 : (0 : Int) = e2 := by rw [← HE2.out, hF]
            subst he1 he2
            have CK := Lib.hid (checkR Y Z P w8 HBV.out)
            rw [hq] at CK
            have HQ := Lib.hid hq
            have RB := Lib.hid (rngB R8.out.bt)
            rw [← hY] at RB
            have HYE := Lib.hid hY
            clear hF hq hY
            go_wp2_with ((with_reducible refine wpList_load_g ?_ 26 (.tmp 5) ?_ T 0 ?_ Y _ RB.out uB ?_ YI.out ?_); rfl; rfl; rfl; rfl)
            refine CK.out.mono ?_
            rintro e wl ⟨rfl, kl⟩
            have RL := Lib.hid (R8.out.kept kl)
            have UL := Lib.hid (U8.out.bel kl)
            have hcl := UL.out.cell 0 (v := .int .i64 0) rfl
            have hfl := UL.out.frozen 0
            clear kl CK hcu hfu RB
            by_cases hq0 : q = 0
            · subst hq0
              have HRD := Lib.hid (show rdZ raw i l k2 f2 = Z ∧ rdP raw i l k2 f2 = P from HZP.out)
              have iF := Lib.hid (show (Try.prog.info? 49).map (·.size) = some ([.int .i64 0, .int .i64 0] : List Value).length from info_flt)
              go_upto_region 17 with fail
              refine wp_region_held_drew (S := fun V => V.rangeAt u 0 [.int .i64 0, .int .i64 0] ∧ V.rangeAt T 0 Y) (by kernel_rfl) (⟨rng_bel (rngB UL.out) (Kk.Bel.refl _).drew, rng_bel (show wl.rangeAt T 0 Y by rw [HYE.out]; exact rngB RL.out.bt) (Kk.Bel.refl _).drew⟩) (fun hS0 => ?_)
              have R9 := Lib.hid (RL.out.kept (Kk.Bel.refl _).drew)
              obtain ⟨w9, hw9⟩ : ∃ v, World.drew wl = v := ⟨_, rfl⟩
              rw [hw9] at hS0 R9 ⊢
              clear hw9
              refine wpAnyH_take (i := 0) (oi := { dst := some 51, op := .load 26 (.tmp 5), type := 26, pos := "ref.go:205", after := #[], guard := none }) (v := .agg Y.toArray) rfl (by kernel_rfl) (by kernel_rfl) (by kernel_rfl) (fun _ _ _ h => h) (yieldsIf_load_mid (by rfl) _ _ rfl _ _ rfl _ _ (fun w h => h.2) uB rfl YI.out) hS0 ?_
              try simp only [Act.put, List.setIfInBounds_toArray, List.set_cons_zero, List.set_cons_succ]
              refine wpAnyH_take (i := 1) (oi := { dst := some 52, op := .load 49 (.tmp 9), type := 49, pos := "ref.go:205", after := #[{ on := 2, ground := .gcOnly .lateStores }], guard := none }) (v := .agg #[.int .i64 0, .int .i64 0]) rfl (by kernel_rfl) (by kernel_rfl) (by kernel_rfl) (fun _ _ _ h => h) (yieldsIf_load_mid (by rfl) _ _ rfl _ _ rfl _ _ (fun w h => h.1) uF rfl iF.out) hS0 ?_
              try simp only [Act.put, List.setIfInBounds_toArray, List.set_cons_zero, List.set_cons_succ]
              refine wpAnyH_ready (rs := [2]) (by kernel_rfl) (by simp) ?_
              refine AllReadyH.cons (o := { dst := none, op := .store 26 (.tmp 2) (.tmp 51), type := 0, pos := "ref.go:205", after := #[{ on := 0, ground := .data }, { on := 0, ground := .phase }, { on := 1, ground := .textOnly .lateStores }], guard := none }) rfl (fun K hK => ?_) AllReadyH.nil
              rw [if_pos (by rfl)]
              refine wp_store_mid 26 (.tmp 2) (.tmp 51) rfl r 0 Y.toArray rfl rfl (bthere R9.out.b0 0 _ (by rw [List.size_toArray, HYL.out]; exact Nat.le_refl 5)) YI2.out YO.out ?_
              have hS2 := And.intro (rng_kep hS0.1 (kep_setCells r Y 0 w9) (by omega)) (rng_kep hS0.2 (kep_setCells r Y 0 w9) (by omega))
              have QZ := Lib.hid (blk5 R9.out.b0 rfl Y HYL.out)
              have QF := Lib.hid (R9.out.b1.kep (kep_setCells r Y 0 w9) (by omega))
              have BZ := Lib.hid (bel_setCells R9.out.bel (by rw [HR.out]; exact Nat.le_refl r) 0 Y)
              have FBN := Lib.hid ((show FB w w9 (.agg Y.toArray) Z P from HFBR.out w9 R9.out).set (g := r) (Y := Y) (o := 0) R9.out.b0 (by decide) (by rw [HR.out]; exact Nat.le_refl _))
              refine hK.out _ _ hS2 (fun _ => ?_)
              clear hK K
              try simp only [Act.put]
              obtain ⟨w7', hw7⟩ : ∃ w7', World.setCells w9 r 0 Y = w7' := ⟨_, rfl⟩
              rw [hw7] at hS2 QZ QF BZ FBN ⊢
              clear hw7
              refine wpAnyH_ready (rs := [3]) (by kernel_rfl) (by simp) ?_
              refine AllReadyH.cons (o := { dst := none, op := .store 49 (.tmp 3) (.tmp 52), type := 0, pos := "ref.go:205", after := #[{ on := 1, ground := .data }, { on := 2, ground := .chain }, { on := 0, ground := .phase }, { on := 1, ground := .phase }, { on := 2, ground := .phase }], guard := none }) rfl (fun K hK => ?_) AllReadyH.nil
              rw [if_pos (by rfl)]
              refine wp_store_mid 49 (.tmp 3) (.tmp 52) rfl (r + 1) 0 #[.int .i64 0, .int .i64 0] rfl rfl (bthere QF.out 0 _ (Nat.le_refl 2)) info_flt (flt_one _ _) ?_
              have hS3 := And.intro (rng_kep hS2.1 (kep_setCells (r + 1) [.int .i64 0, .int .i64 0] 0 w7') (by omega)) (rng_kep hS2.2 (kep_setCells (r + 1) [.int .i64 0, .int .i64 0] 0 w7') (by omega))
              have QZ2 := QZ.out.kep (kep_setCells (r + 1) [.int .i64 0, .int .i64 0] 0 w7') (by omega)
              have QF2 := blk2 QF.out rfl [.int .i64 0, .int .i64 0] rfl
              have BZ2 := bel_setCells BZ.out (g := r + 1) (by rw [HR.out]; omega) 0 [.int .i64 0, .int .i64 0]
              have FBM := FBN.out.set (g := r + 1) (Y := [.int .i64 0, .int .i64 0]) (o := 0) QF.out (by decide) (by rw [HR.out]; omega)
              refine hK.out _ _ hS3 (fun _ => ?_)
              clear hK K
              refine wpAnyH_done (by kernel_rfl) ?_ _
              go_wp2_with fail
              refine bodyPost_ret (res_cc Try.results30 _ _ ⟨r, 0, none⟩ ⟨r + 1, 0, none⟩ (.agg Y.toArray) (.agg #[.int .i64 0, .int .i64 0]) rfl rfl (load_b QZ2 Try.underlying26 rfl YI.out) (load_f QF2)) rfl ⟨_, rfl, ?_⟩
              rw [HRD.out.1, HRD.out.2]
              exact FB.same FBM HGD.out
            · have hq12 : q = 12 := by
                have h := HQ.out
                unfold chk at h
                rw [if_neg (by rw [HZL.out]; omega), if_neg (by rw [HZL.out]; omega)] at h
                split at h
                · exact h.symm
                · exact absurd h.symm hq0
              subst hq12
              have HRD := Lib.hid (show rdZ raw i l k2 f2 = [] ∧ rdP raw i l k2 f2 = [0, 0, 0, 0] from HZP.out)
              have iF := Lib.hid (show (Try.prog.info? 49).map (·.size) = some ([.int .i64 12, .int .i64 0] : List Value).length from info_flt)
              have RL2 := Lib.hid (Qd.fault RL.out UL.out HRU.out 12)
              have UL2 := Lib.hid (UL.out.set 0 (.int .i64 12))
              go_upto_region 15 with fail
              obtain ⟨wm, hwm⟩ : ∃ v, World.setCell wl ⟨u, 0, none⟩ (.int .i64 12) = v := ⟨_, rfl⟩
              rw [hwm] at RL2 UL2 ⊢
              clear hwm hcl hfl
              have hcl := UL2.out.cell 0 (v := .int .i64 12) rfl
              have RL := RL2
              have UL : Hid (Kk.Blk wm u [.int .i64 12, .int .i64 0].toArray 49) := UL2
              go_upto_region 16 with fail
              refine wp_region_held_drew (S := fun V => V.rangeAt u 0 [.int .i64 12, .int .i64 0]) (by kernel_rfl) (rng_bel (rngB UL.out) (Kk.Bel.refl _).drew) (fun hS0 => ?_)
              have R9 := Lib.hid (RL.out.kept (Kk.Bel.refl _).drew)
              obtain ⟨w9, hw9⟩ : ∃ v, World.drew wm = v := ⟨_, rfl⟩
              rw [hw9] at hS0 R9 ⊢
              clear hw9
              refine wpAnyH_take (i := 0) (oi := { dst := some 49, op := .build 26 #[], type := 26, pos := "ref.go:203", after := #[], guard := none }) (v := .agg #[.slice none 0 0, .int .u64 0, .int .u64 0, .int .u64 0, .int .u64 0]) rfl (by kernel_rfl) (by kernel_rfl) (by kernel_rfl) (fun _ _ _ h => h) (Or.inl ⟨by rfl, by intro w hSw; clear hSw; go_simp⟩) hS0 ?_
              try simp only [Act.put, List.setIfInBounds_toArray, List.set_cons_zero, List.set_cons_succ]
              refine wpAnyH_take (i := 1) (oi := { dst := some 50, op := .load 49 (.tmp 9), type := 49, pos := "ref.go:203", after := #[{ on := 2, ground := .gcOnly .lateStores }], guard := none }) (v := .agg #[.int .i64 12, .int .i64 0]) rfl (by kernel_rfl) (by kernel_rfl) (by kernel_rfl) (fun _ _ _ h => h) (yieldsIf_load_mid (by rfl) _ _ rfl _ _ rfl _ _ (fun w h => h) uF rfl iF.out) hS0 ?_
              try simp only [Act.put, List.setIfInBounds_toArray, List.set_cons_zero, List.set_cons_succ]
              refine wpAnyH_ready (rs := [2]) (by kernel_rfl) (by simp) ?_
              refine AllReadyH.cons (o := { dst := none, op := .store 26 (.tmp 2) (.tmp 49), type := 0, pos := "ref.go:203", after := #[{ on := 0, ground := .data }, { on := 0, ground := .phase }, { on := 1, ground := .textOnly .lateStores }], guard := none }) rfl (fun K hK => ?_) AllReadyH.nil
              rw [if_pos (by rfl)]
              refine wp_store_mid 26 (.tmp 2) (.tmp 49) rfl r 0 #[.slice none 0 0, .int .u64 0, .int .u64 0, .int .u64 0, .int .u64 0] rfl rfl (bthere R9.out.b0 0 _ (Nat.le_refl 5)) info_bank (one5 (v := .slice none 0 0) rfl) ?_
              have hS2 := rng_kep hS0 (kep_setCells r [.slice none 0 0, .int .u64 0, .int .u64 0, .int .u64 0, .int .u64 0] 0 w9) (by omega)
              have QZ := Lib.hid (blk5 R9.out.b0 rfl [.slice none 0 0, .int .u64 0, .int .u64 0, .int .u64 0, .int .u64 0] rfl)
              have QF := Lib.hid (R9.out.b1.kep (kep_setCells r [.slice none 0 0, .int .u64 0, .int .u64 0, .int .u64 0, .int .u64 0] 0 w9) (by omega))
              have BZ := Lib.hid (bel_setCells R9.out.bel (by rw [HR.out]; exact Nat.le_refl r) 0 [.slice none 0 0, .int .u64 0, .int .u64 0, .int .u64 0, .int .u64 0])
              refine hK.out _ _ hS2 (fun _ => ?_)
              clear hK K
              try simp only [Act.put]
              obtain ⟨w7', hw7⟩ : ∃ w7', World.setCells w9 r 0 [.slice none 0 0, .int .u64 0, .int .u64 0, .int .u64 0, .int .u64 0] = w7' := ⟨_, rfl⟩
              rw [hw7] at hS2 QZ QF BZ ⊢
              clear hw7
              refine wpAnyH_ready (rs := [3]) (by kernel_rfl) (by simp) ?_
              refine AllReadyH.cons (o := { dst := none, op := .store 49 (.tmp 3) (.tmp 50), type := 0, pos := "ref.go:203", after := #[{ on := 1, ground := .data }, { on := 2, ground := .chain }, { on := 0, ground := .phase }, { on := 1, ground := .phase }, { on := 2, ground := .phase }], guard := none }) rfl (fun K hK => ?_) AllReadyH.nil
              rw [if_pos (by rfl)]
              refine wp_store_mid 49 (.tmp 3) (.tmp 50) rfl (r + 1) 0 #[.int .i64 12, .int .i64 0] rfl rfl (bthere QF.out 0 _ (Nat.le_refl 2)) info_flt (flt_one _ _) ?_
              have hS3 := rng_kep hS2 (kep_setCells (r + 1) [.int .i64 12, .int .i64 0] 0 w7') (by omega)
              have QZ2 := QZ.out.kep (kep_setCells (r + 1) [.int .i64 12, .int .i64 0] 0 w7') (by omega)
              have QF2 := blk2 QF.out rfl [.int .i64 12, .int .i64 0] rfl
              have BZ2 := bel_setCells BZ.out (g := r + 1) (by rw [HR.out]; omega) 0 [.int .i64 12, .int .i64 0]
              refine hK.out _ _ hS3 (fun _ => ?_)
              clear hK K
              refine wpAnyH_done (by kernel_rfl) ?_ _
              go_wp2_with fail
              refine bodyPost_ret (res_cc Try.results30 _ _ ⟨r, 0, none⟩ ⟨r + 1, 0, none⟩ (.agg [.slice none 0 0, .int .u64 0, .int .u64 0, .int .u64 0, .int .u64 0].toArray) (.agg #[.int .i64 12, .int .i64 0]) rfl rfl (load_b QZ2 Try.underlying26 rfl info_bank) (load_f QF2)) rfl ⟨_, rfl, ?_⟩
              rw [HRD.out.1, HRD.out.2]
              exact FB.same (fb_zero BZ2) good_zero
          · have hx1 : (x == 0) = false := by simpa using hx0
            have hx2 : (x != 0) = true := by simpa using hx0
            have hF := HFX.out
            rw [if_neg hx0] at hF
            obtain rfl : x = e1 := by rw [← HE1.out, hF]
            obtain rfl : y = e2 := by rw [← HE2.out, hF]
            have HRD := Lib.hid (show rdZ raw i l k2 f2 = [] ∧ rdP raw i l k2 f2 = [0, 0, 0, 0] by rw [HZP.out.1, HZP.out.2, if_neg hx0, if_neg hx0]; exact ⟨rfl, rfl⟩)
            have iF := Lib.hid (show (Try.prog.info? 49).map (·.size) = some ([.int .i64 x, .int .i64 y] : List Value).length from info_flt)
            obtain ⟨wl, hwl⟩ : ∃ v, v = w8 := ⟨_, rfl⟩
            rw [← hwl] at R8 U8 hcu hfu ⊢
            have RL := R8
            have UL := U8
            clear hwl hF
            go_upto_region 16 with fail
            refine wp_region_held_drew (S := fun V => V.rangeAt u 0 [.int .i64 x, .int .i64 y]) (by kernel_rfl) (rng_bel (rngB UL.out) (Kk.Bel.refl _).drew) (fun hS0 => ?_)
            have R9 := Lib.hid (RL.out.kept (Kk.Bel.refl _).drew)
            obtain ⟨w9, hw9⟩ : ∃ v, World.drew wl = v := ⟨_, rfl⟩
            rw [hw9] at hS0 R9 ⊢
            clear hw9
            refine wpAnyH_take (i := 0) (oi := { dst := some 49, op := .build 26 #[], type := 26, pos := "ref.go:203", after := #[], guard := none }) (v := .agg #[.slice none 0 0, .int .u64 0, .int .u64 0, .int .u64 0, .int .u64 0]) rfl (by kernel_rfl) (by kernel_rfl) (by kernel_rfl) (fun _ _ _ h => h) (Or.inl ⟨by rfl, by intro w hSw; clear hSw; go_simp⟩) hS0 ?_
            try simp only [Act.put, List.setIfInBounds_toArray, List.set_cons_zero, List.set_cons_succ]
            refine wpAnyH_take (i := 1) (oi := { dst := some 50, op := .load 49 (.tmp 9), type := 49, pos := "ref.go:203", after := #[{ on := 2, ground := .gcOnly .lateStores }], guard := none }) (v := .agg #[.int .i64 x, .int .i64 y]) rfl (by kernel_rfl) (by kernel_rfl) (by kernel_rfl) (fun _ _ _ h => h) (yieldsIf_load_mid (by rfl) _ _ rfl _ _ rfl _ _ (fun w h => h) uF rfl iF.out) hS0 ?_
            try simp only [Act.put, List.setIfInBounds_toArray, List.set_cons_zero, List.set_cons_succ]
            refine wpAnyH_ready (rs := [2]) (by kernel_rfl) (by simp) ?_
            refine AllReadyH.cons (o := { dst := none, op := .store 26 (.tmp 2) (.tmp 49), type := 0, pos := "ref.go:203", after := #[{ on := 0, ground := .data }, { on := 0, ground := .phase }, { on := 1, ground := .textOnly .lateStores }], guard := none }) rfl (fun K hK => ?_) AllReadyH.nil
            rw [if_pos (by rfl)]
            refine wp_store_mid 26 (.tmp 2) (.tmp 49) rfl r 0 #[.slice none 0 0, .int .u64 0, .int .u64 0, .int .u64 0, .int .u64 0] rfl rfl (bthere R9.out.b0 0 _ (Nat.le_refl 5)) info_bank (one5 (v := .slice none 0 0) rfl) ?_
            have hS2 := rng_kep hS0 (kep_setCells r [.slice none 0 0, .int .u64 0, .int .u64 0, .int .u64 0, .int .u64 0] 0 w9) (by omega)
            have QZ := Lib.hid (blk5 R9.out.b0 rfl [.slice none 0 0, .int .u64 0, .int .u64 0, .int .u64 0, .int .u64 0] rfl)
            have QF := Lib.hid (R9.out.b1.kep (kep_setCells r [.slice none 0 0, .int .u64 0, .int .u64 0, .int .u64 0, .int .u64 0] 0 w9) (by omega))
            have BZ := Lib.hid (bel_setCells R9.out.bel (by rw [HR.out]; exact Nat.le_refl r) 0 [.slice none 0 0, .int .u64 0, .int .u64 0, .int .u64 0, .int .u64 0])
            refine hK.out _ _ hS2 (fun _ => ?_)
            clear hK K
            try simp only [Act.put]
            obtain ⟨w7', hw7⟩ : ∃ w7', World.setCells w9 r 0 [.slice none 0 0, .int .u64 0, .int .u64 0, .int .u64 0, .int .u64 0] = w7' := ⟨_, rfl⟩
            rw [hw7] at hS2 QZ QF BZ ⊢
            clear hw7
            refine wpAnyH_ready (rs := [3]) (by kernel_rfl) (by simp) ?_
            refine AllReadyH.cons (o := { dst := none, op := .store 49 (.tmp 3) (.tmp 50), type := 0, pos := "ref.go:203", after := #[{ on := 1, ground := .data }, { on := 2, ground := .chain }, { on := 0, ground := .phase }, { on := 1, ground := .phase }, { on := 2, ground := .phase }], guard := none }) rfl (fun K hK => ?_) AllReadyH.nil
            rw [if_pos (by rfl)]
            refine wp_store_mid 49 (.tmp 3) (.tmp 50) rfl (r + 1) 0 #[.int .i64 x, .int .i64 y] rfl rfl (bthere QF.out 0 _ (Nat.le_refl 2)) info_flt (flt_one _ _) ?_
            have hS3 := rng_kep hS2 (kep_setCells (r + 1) [.int .i64 x, .int .i64 y] 0 w7') (by omega)
            have QZ2 := QZ.out.kep (kep_setCells (r + 1) [.int .i64 x, .int .i64 y] 0 w7') (by omega)
            have QF2 := blk2 QF.out rfl [.int .i64 x, .int .i64 y] rfl
            have BZ2 := bel_setCells BZ.out (g := r + 1) (by rw [HR.out]; omega) 0 [.int .i64 x, .int .i64 y]
            refine hK.out _ _ hS3 (fun _ => ?_)
            clear hK K
            refine wpAnyH_done (by kernel_rfl) ?_ _
            go_wp2_with fail
            refine bodyPost_ret (res_cc Try.results30 _ _ ⟨r, 0, none⟩ ⟨r + 1, 0, none⟩ (.agg [.slice none 0 0, .int .u64 0, .int .u64 0, .int .u64 0, .int .u64 0].toArray) (.agg #[.int .i64 x, .int .i64 y]) rfl rfl (load_b QZ2 Try.underlying26 rfl info_bank) (load_f QF2)) rfl ⟨_, rfl, ?_⟩
            rw [HRD.out.1, HRD.out.2]
            exact FB.same (fb_zero BZ2) good_zero
end Bk
end Go.Proofs.Ythdcgkikhindiaa
