/-
  Texts of this claim, put together: Ho26, Ho27, Ho28, Ho29. What each one says, and under which conditions, stands ahead of it.
-/
import Derived.Test.YtneajcoiemkfbaaGreatTk
import Derived.Test.YtneajcoiemkfbaaGreatCJ

section
/-
  A list of losses of one's own, of five cells each; what a cut leaves of a class. Conditions: as each theorem says.
-/
namespace Go.Proofs.YtneajcoiemkfbaaGreat
open Go.RowKit Go.Shelf
set_option linter.unusedVariables false
set_option linter.unusedSimpArgs false
namespace Ho
open Kk Pm

/-- A loss: the stamp, the amount. -/
def cL : R6 → List Value
  | (a, b, d, e, t, _) => [.int .i64 a, .int .i64 b, .int .i64 d, .int .i64 e, .int .u64 t]
theorem cL_len (r : R6) : (cL r).length = 5 := by obtain ⟨a, b, d, e, t, u⟩ := r; rfl
def flatL (l : List R6) : List Value := l.flatMap cL
theorem flatL_len : ∀ l : List R6, (flatL l).length = l.length * 5
  | [] => rfl
  | r :: l => by
    have := flatL_len l
    unfold flatL at this ⊢
    rw [List.flatMap_cons, List.length_append, cL_len, this, List.length_cons]; omega
theorem flatL_app (a b : List R6) : flatL (a ++ b) = flatL a ++ flatL b := by simp [flatL]
theorem flatL_one : ∀ l : List R6, ∀ u ∈ flatL l, u.oneCell' = true := fun l u hu => by
  obtain ⟨r, _, hr⟩ := List.mem_flatMap.1 hu
  obtain ⟨a, b, d, e, t, x⟩ := r
  simp [cL] at hr
  rcases hr with rfl | rfl | rfl | rfl | rfl <;> rfl
def OwnL (w : World) (base : Nat) (v : Value) (l : List R6) : Prop := w.ownsRow base 84 5 v l.length (flatL l)
theorem OwnL.bel {w w' : World} {base : Nat} {v : Value} {l : List R6} (h : OwnL w base v l) (hb : Bel w w') : OwnL w' base v l := Kk.owns_bel h hb
theorem OwnL.kep {w w' : World} {base : Nat} {v : Value} {l : List R6} {S : Nat → Prop} (h : OwnL w base v l) (hk : Kep S w w') (hs : ∀ i, v.ownBlock = some i → ¬ S i) : OwnL w' base v l := Kep.owns hk hs h
theorem OwnL.nil_ (w : World) (base : Nat) : OwnL w base (.slice none 0 0) [] := World.ownsRow_nil w base _ 5
theorem OwnL.mono {w : World} {b b' : Nat} {v : Value} {l : List R6} (h : OwnL w b v l) (hb : b' ≤ b) : OwnL w b' v l := World.ownsRow.mono h hb
theorem ownL_blk {w : World} {base b : Nat} {v : Value} {l : List R6} (h : OwnL w base v l) (hb : v.ownBlock = some b) : base ≤ b ∧ ∃ C, Blk w b C 84 := by
  rcases h.2 with ⟨rfl, _⟩ | ⟨g, cap, cur, rfl, hge, hg, _⟩
  · cases hb
  · obtain rfl : g = b := Option.some.inj hb
    exact ⟨hge, _, hg⟩
theorem ownL_slice {w : World} {base : Nat} {v : Value} {l : List R6} (h : OwnL w base v l) : ∃ A c, v = .slice A l.length c := by
  rcases h.2 with ⟨rfl, h0⟩ | ⟨g, cap, cur, rfl, _⟩
  · exact ⟨none, 0, by rw [h0]⟩
  · exact ⟨_, _, rfl⟩
theorem zero_l : (Tryz.prog.info? 84).map (fun i => (i.zero, i.size, i.bytes)) = some (some (.agg #[.int .i64 0, .int .i64 0, .int .i64 0, .int .i64 0, .int .u64 0]), 5, 40) := by kernel_rfl
/-- One more loss. -/
theorem wpList_append_L {w : World} {ops : Array Oper} {rest : List Oper} {o : Oper} {a : Act} {Q : Exit → Act → World → Prop} (hgd : o.guard = none) (s x : Operand)
    (ho : o.op = .call { callee := .builtin .append, args := #[s, x], argTypes := #[33, 33] })
    (base : Nat) (v : Value) (l : List R6) (hs : a.eval s = v) (hown : OwnL w base v l) (g : Nat) (r : R6) (hx : a.eval x = .slice (some ⟨g, 0, none⟩) 1 1) (hi : Blk w g (cL r).toArray 84)
    (hm : l.length ≤ 1000000) (hb : base ≤ w.heap.size)
    (h : ∀ v' w', OwnL w' base v' (l ++ [r]) → w.grownBy w' v.ownBlock → wpList Tryz.prog ops Q rest (a.put o.dst v') w') : wpList Tryz.prog ops Q (o :: rest) a w := by
  obtain ⟨i0, h1, hz0, hz1, hz2⟩ := info_parts zero_l
  refine wpList_append_own w hgd s x 33 ho base 84 i0 (.agg #[.int .i64 0, .int .i64 0, .int .i64 0, .int .i64 0, .int .u64 0]) 5 40 Tryz.underlying33 h1 hz0 hz1 hz2 rfl (by decide) v l.length (flatL l) hs hown ⟨g, 0, none⟩ 1 1 (flatL [r]) hx (by rw [flatL_len]; rfl) (fun j u hj => ?_) (flatL_one [r]) (by unfold maxLen; omega) (by omega) hb ?_
  · rw [add_at, Nat.zero_add]
    refine hi.cell j ?_
    rw [List.getElem?_toArray]
    simpa [flatL] using hj
  · intro v' w' h2 h3 _
    refine h v' w' ?_ h3
    unfold OwnL
    rw [flatL_app, List.length_append]
    exact h2
/-- What a valid class is after a cut. -/
theorem cut_ok {T S p : Int} (h : Sh.chk T S = 0) (t0 : 0 ≤ T) (t1 : T ≤ 18446744073709551615) (p0 : 0 ≤ p) (p1 : p ≤ 1000000000) : Sh.cutE T S p = 0 ∧ 0 ≤ Sh.cutN T S p ∧ Sh.cutN T S p ≤ T := by
  have hp := Sh.part_of' t0 t1 p0 p1
  have h0 : Sh.cutE T S p = 0 := by
    unfold Sh.cutE
    rw [h, fE_go, hp.2.1]; rfl
  refine ⟨h0, ?_⟩
  unfold Sh.cutN
  rw [if_pos h0, hp.1]
  exact ⟨hp.2.2.1, by have := hp.2.2.2; omega⟩
end Ho
end Go.Proofs.YtneajcoiemkfbaaGreat
end

section
/-
  What a book's cut tells and makes. Conditions: the book is a valid holding of at most a million rows; amounts are words.
-/
namespace Go.Proofs.YtneajcoiemkfbaaGreat
open Go.RowKit Go.Shelf
set_option linter.unusedVariables false
set_option linter.unusedSimpArgs false
namespace Ho
open Kk Pm

/-- The classes of which the first k are cut. -/
def cutL (v h p : Int) (cs : List R6) (k : Nat) : List R6 := (cs.take k).map (cutR v h p) ++ cs.drop k
theorem cutL_len (v h p : Int) (cs : List R6) (k : Nat) : (cutL v h p cs k).length = cs.length := by
  unfold cutL
  rw [List.length_append, List.length_map, List.length_take, List.length_drop]; omega
theorem cutL_at (v h p : Int) (cs : List R6) (k : Nat) (hk : k < cs.length) : (cutL v h p cs k)[k]? = cs[k]? := by
  unfold cutL
  rw [List.getElem?_append_right (by rw [List.length_map, List.length_take]; omega), List.length_map, List.length_take, Nat.min_eq_left (by omega), Nat.sub_self, List.getElem?_drop, Nat.add_zero]
theorem cutL_set (v h p : Int) (cs : List R6) (k : Nat) (r : R6) (hr : cs[k]? = some r) : (cutL v h p cs k).set k (cutR v h p r) = cutL v h p cs (k + 1) := by
  have hk : k < cs.length := (List.getElem?_eq_some_iff.1 hr).1
  unfold cutL
  rw [List.set_append_right _ _ (by rw [List.length_map, List.length_take]; omega), List.length_map, List.length_take, Nat.min_eq_left (by omega), Nat.sub_self, List.take_add_one, hr, List.map_append]
  have hd : cs.drop k = r :: cs.drop (k + 1) := by
    rw [List.drop_eq_getElem_cons hk]
    congr 1
    rw [List.getElem?_eq_getElem hk] at hr
    exact Option.some.inj hr
  rw [hd]
  simp
theorem cutR_no (v h p : Int) (r : R6) (hb : bkR v h r = false) : cutR v h p r = r := by
  obtain ⟨a, b, d, e, t, s⟩ := r
  unfold bkR at hb
  unfold cutR
  simp [hb]
theorem cutR_yes (v h p a b d e t s : Int) (hb : bkR v h (a, b, d, e, t, s) = true) : cutR v h p (a, b, d, e, t, s) = (a, b, d, e, Sh.cutT t s p, Sh.cutS t s p) := by
  unfold bkR at hb
  unfold cutR
  simp [hb]
theorem cutL_no (v h p : Int) (cs : List R6) (k : Nat) (r : R6) (hr : cs[k]? = some r) (hb : bkR v h r = false) : cutL v h p cs k = cutL v h p cs (k + 1) := by
  rw [← cutL_set v h p cs k r hr, cutR_no v h p r hb]
  have hk : k < cs.length := (List.getElem?_eq_some_iff.1 hr).1
  refine List.ext_getElem? fun j => ?_
  rw [List.getElem?_set]
  split
  · rename_i e
    subst e
    rw [if_pos (by rw [cutL_len]; exact hk), cutL_at v h p cs k hk, hr]
  · rfl
theorem cutR_key (v h p : Int) (x y : R6) : ordC (cutR v h p x) (cutR v h p y) = ordC x y := by
  obtain ⟨a, b, d, e, t, s⟩ := x
  obtain ⟨a', b', d', e', t', s'⟩ := y
  unfold cutR
  by_cases h1 : Sm.bkB a b d e v h 0 = true <;> by_cases h2 : Sm.bkB a' b' d' e' v h 0 = true <;> simp [h1, h2, ordC]
theorem cut_srt (v h p : Int) {cs : List R6} (hs : Srt ordC cs) : Srt ordC (cs.map (cutR v h p)) := by
  unfold Srt at hs ⊢
  rw [List.pairwise_map]
  exact hs.imp fun hxy => by rw [cutR_key]; exact hxy
/-- What the first k classes lost. -/
def losL (v h p : Int) (cs : List R6) (k : Nat) : List R6 := ((cs.take k).filter (bkR v h)).map (losR p)
theorem losL_next (v h p : Int) (cs : List R6) (k : Nat) (r : R6) (hr : cs[k]? = some r) : losL v h p cs (k + 1) = losL v h p cs k ++ (if bkR v h r then [losR p r] else []) := by
  unfold losL
  rw [List.take_add_one, hr, List.filter_append, List.map_append]
  congr 1
  show (List.filter _ [r]).map _ = _
  by_cases hb : bkR v h r = true <;> simp [hb]
theorem losL_len (v h p : Int) (cs : List R6) (k : Nat) : (losL v h p cs k).length ≤ cs.length := by
  unfold losL
  rw [List.length_map]
  exact Nat.le_trans (List.length_filter_le _ _) (by rw [List.length_take]; omega)
theorem losL_sum (v h p : Int) (cs : List R6) (hok : ∀ r ∈ cs, 0 ≤ tok (losR p r) ∧ tok (losR p r) ≤ tok r) : ∀ k, 0 ≤ sumT (losL v h p cs k) ∧ sumT (losL v h p cs k) ≤ sumT (cs.take k)
  | 0 => by simp [losL, sumT]
  | k + 1 => by
    have ih := losL_sum v h p cs hok k
    cases hr : cs[k]? with
    | none =>
      have e : cs.take (k + 1) = cs.take k := by rw [List.take_add_one, hr]; simp
      unfold losL at ih ⊢
      rw [e]; exact ih
    | some r =>
      obtain ⟨h1, h2⟩ := hok r (List.mem_of_getElem? hr)
      rw [losL_next v h p cs k r hr, sumT_take cs k r hr]
      split
      · have : sumT (losL v h p cs k ++ [losR p r]) = sumT (losL v h p cs k) + tok (losR p r) := by simp [sumT]
        rw [this]; omega
      · rw [List.append_nil]; omega
theorem BK.pool {w : World} {base p gc n c i : Nat} {k2 : Value} {cs ps : List R6} {a b d e t s T S : Int} (h : BK w base p (.slice (some ⟨gc, 0, none⟩) n c) k2 cs ps) (hr : cs[i]? = some (a, b, d, e, t, s)) :
    BK ((w.setCell ⟨gc, i * 6 + 4, none⟩ (.int .u64 T)).setCell ⟨gc, i * 6 + 5, none⟩ (.int .u64 S)) base p (.slice (some ⟨gc, 0, none⟩) n c) k2 (cs.set i (a, b, d, e, T, S)) ps ∧ Kep (fun x => x = gc) w ((w.setCell ⟨gc, i * 6 + 4, none⟩ (.int .u64 T)).setCell ⟨gc, i * 6 + 5, none⟩ (.int .u64 S)) := by
  have hi := (List.getElem?_eq_some_iff.1 hr).1
  obtain ⟨g, cap, e1, hge, hrb, hcap⟩ := rb_own c6C h.oc (by omega)
  injection e1 with e1 e2 e3
  injection e1 with e1
  injection e1 with e1
  subst e1 e3
  have r1 := hrb.set c6C (o := 4) (by decide) hr (r' := (a, b, d, e, T, s)) (v := .int .u64 T) rfl
  have r2 := r1.set c6C (i := i) (o := 5) (by decide) (r := (a, b, d, e, T, s)) (by rw [List.getElem?_set_self hi]) (r' := (a, b, d, e, T, S)) (v := .int .u64 S) rfl
  rw [List.set_set] at r2
  have hk : Kep (fun x => x = gc) w ((w.setCell ⟨gc, i * 6 + 4, none⟩ (.int .u64 T)).setCell ⟨gc, i * 6 + 5, none⟩ (.int .u64 S)) := Kep.set (S := fun x => x = gc) (Kep.set (S := fun x => x = gc) (Kep.refl _ _) rfl _) rfl _
  obtain ⟨C, hC⟩ := own_blk h.oc rfl
  refine ⟨⟨h.blk.kep hk (fun e => absurd (blk_ty (e ▸ h.blk) hC) (by decide)), ?_, h.op.kep hk (fun x e e' => own_ne h.op hC (by decide) (e' ▸ e))⟩, hk⟩
  have := own_rb r2 hge hcap
  rw [List.length_set] at this
  have e5 : n = cs.length := e2
  rw [e5]
  exact this
end Ho
end Go.Proofs.YtneajcoiemkfbaaGreat
end

section
/-
  What a book's cut tells and makes: the walk. Conditions: the book is a valid holding of at most a million rows; amounts are words.
-/
namespace Go.Proofs.YtneajcoiemkfbaaGreat
open Go.RowKit Go.Shelf
set_option linter.unusedVariables false
set_option linter.unusedSimpArgs false
namespace Ho
open Kk Pm

theorem BK.kep {w w' : World} {base p : Nat} {k1 k2 : Value} {cs ps : List R6} {S : Nat → Prop} (h : BK w base p k1 k2 cs ps) (hk : Kep S w w') (hp : ¬ S p) (h1 : ∀ i, k1.ownBlock = some i → ¬ S i) (h2 : ∀ i, k2.ownBlock = some i → ¬ S i) : BK w' base p k1 k2 cs ps := ⟨h.blk.kep hk hp, h.oc.kep hk h1, h.op.kep hk h2⟩
/-- What cut tells. -/
def bKE (v h x : Int) : Int := if ¬ (0 ≤ v ∧ v ≤ 31) ∨ ¬ (1 ≤ h ∧ h ≤ 4294967296) ∨ 1000000000 < x then 3 else 0
set_option maxRecDepth 100000 in
set_option maxHeartbeats 8000000 in
theorem cut_ (base p : Nat) (k1 k2 : Value) (cs ps : List R6) (v h x : Int) (w : World) (hbk : BK w base p k1 k2 cs ps) (hok : Ok cs ps) (hm : ps.length ≤ 1000000) (hwc : ∀ r ∈ cs, Wd r) (x0 : 0 ≤ x) (x1 : x ≤ 18446744073709551615) (hbs : base ≤ w.heap.size) :
    Calls Tryz.prog 118 #[.pointer (some ⟨p, 0, none⟩), .int .i64 v, .int .i64 h, .int .u64 x] w fun r w' => ∃ lv,
      r = .returned (.tuple #[lv, .int .u64 (if bKE v h x = 0 then sumT (losL v h x cs cs.length) else 0), .int .i64 (bKE v h x)]) ∧ OwnL w' w.heap.size lv (if bKE v h x = 0 then losL v h x cs cs.length else []) ∧
      Kep (fun b => b = p ∨ k1.ownBlock = some b ∨ k2.ownBlock = some b) w w' ∧
      (bKE v h x = 0 → ∃ k1' k2', BK w' base p k1' k2' ((cs.map (cutR v h x)).filter full) (ps.filter fun r => !decide (polT (cs.map (cutR v h x)) (stp r) = 0 ∧ polS (cs.map (cutR v h x)) (stp r) = 0))) := by
  have hn : cs.length ≤ 1000000 := Nat.le_trans hok.len (by decide)
  obtain ⟨A1, c1, rfl, hr1, _, _⟩ := hbk.oc.rs c6C
  obtain ⟨A2, c2, rfl, _⟩ := hbk.op.rs c6P
  have HB := Lib.hid hbk
  have HNC := Lib.hid hr1.cap
  obtain ⟨n, hnl⟩ : ∃ n, cs.length = n := ⟨_, rfl⟩
  obtain ⟨m, hml⟩ : ∃ n, ps.length = n := ⟨_, rfl⟩
  have HNL := Lib.hid hnl
  have HML := Lib.hid hml
  rw [hnl, hml] at HB
  rw [hnl] at HNC hn
  have hE : bKE v h x = if ¬ (0 ≤ v ∧ v ≤ 31) ∨ ¬ (1 ≤ h ∧ h ≤ 4294967296) ∨ 1000000000 < x then 3 else 0 := rfl
  obtain ⟨E, hE2⟩ : ∃ E, bKE v h x = E := ⟨_, rfl⟩
  rw [hE2] at hE ⊢
  rw [hnl, hml]
  have HE := Lib.hid hE
  have HOK := Lib.hid hok
  have HWC := Lib.hid hwc
  have IV := Lib.hid (fun V => isValidator v V)
  have IH := Lib.hid (fun V => isHeight h V)
  obtain ⟨y1, hy1⟩ : ∃ y, decide (0 ≤ v ∧ v ≤ 31) = y := ⟨_, rfl⟩
  obtain ⟨y2, hy2⟩ : ∃ y, decide (1 ≤ h ∧ h ≤ 4294967296) = y := ⟨_, rfl⟩
  rw [hy1] at IV
  rw [hy2] at IH
  have HY1 := Lib.hid hy1
  have HY2 := Lib.hid hy2
  have HBS := Lib.hid hbs
  have b0 := HB.out.blk.cell 0 rfl
  have HC0 := Lib.hid (show cutL v h x cs 0 = cs by simp [cutL])
  obtain ⟨qs, hqs⟩ : ∃ l, (ps.filter fun r => !decide (polT (cs.map (cutR v h x)) (stp r) = 0 ∧ polS (cs.map (cutR v h x)) (stp r) = 0)) = l := ⟨_, rfl⟩
  rw [hqs]
  have HQS := Lib.hid hqs
  have HSL := Lib.hid (show sumT cs ≤ 4611686018427387904 from hok.tot)
  clear hqs hbk hnl hml hE hE2 hok hwc hy1 hy2 hr1 hbs
  go_enter Tryz.func118, Tryz.ntmps118
  go_wp2_with fail
  refine (IV.out _).mono ?_
  rintro r V0 ⟨rfl, rfl⟩
  cases y1
  · obtain rfl : E = 3 := by rw [HE.out, if_pos (.inl (of_decide_eq_false HY1.out))]
    go_wp2_with fail
    go_ret3
    first
      | exact ⟨_, rfl, OwnL.nil_ _ _, Kep.refl _ _⟩
      | exact ⟨_, rfl, OwnL.nil_ _ _, Kep.refl _ _, fun h => absurd h (by decide)⟩
  go_wp2_with fail
  refine (IH.out _).mono ?_
  rintro r V0 ⟨rfl, rfl⟩
  cases y2
  · obtain rfl : E = 3 := by rw [HE.out, if_pos (.inr (.inl (of_decide_eq_false HY2.out)))]
    go_wp2_with fail
    go_ret3
    first
      | exact ⟨_, rfl, OwnL.nil_ _ _, Kep.refl _ _⟩
      | exact ⟨_, rfl, OwnL.nil_ _ _, Kep.refl _ _, fun h => absurd h (by decide)⟩
  by_cases hx : 1000000000 < x
  · obtain rfl : E = 3 := by rw [HE.out, if_pos (.inr (.inr hx))]
    go_wp2_with fail
    go_ret3
    first
      | exact ⟨_, rfl, OwnL.nil_ _ _, Kep.refl _ _⟩
      | exact ⟨_, rfl, OwnL.nil_ _ _, Kep.refl _ _, fun h => absurd h (by decide)⟩
  obtain rfl : E = 0 := by rw [HE.out, if_neg]; rintro (h1 | h1 | h1); exact h1 (of_decide_eq_true HY1.out); exact h1 (of_decide_eq_true HY2.out); exact hx h1
  have hx1 : decide (1000000000 < x) = false := decide_eq_false hx
  have HX := Lib.hid (show x ≤ 1000000000 by omega)
  clear HE HY1 HY2 IV IH hx
  have HCO := Lib.hid (fun r (hr : r ∈ cs) => show Sh.cutE (tok r) (shr r) x = 0 ∧ 0 ≤ tok (losR x r) ∧ tok (losR x r) ≤ tok r from by
    have h1 := (HOK.out.cl r hr).2.1
    obtain ⟨w1, w2, _, _⟩ := HWC.out r hr
    obtain ⟨a, b, d, e, t, s⟩ := r
    exact cut_ok h1 w1 w2 x0 HX.out)
  go_wp2_with fail
  go_loopw [8, 9, 33] (fun s8 s9 s33 wr => ∃ (k : Nat) (sm : Int), s33 = .int .i64 k ∧ k ≤ n ∧ s9 = .int .u64 sm ∧ Hid (sm = sumT (losL v h x cs k)) ∧ Hid (OwnL wr w.heap.size s8 (losL v h x cs k)) ∧ Hid (BK wr base p (.slice A1 n c1) (.slice A2 m c2) (cutL v h x cs k) ps) ∧ Hid (Kep (fun b => b = p ∨ (Value.slice A1 n c1).ownBlock = some b ∨ (Value.slice A2 m c2).ownBlock = some b) w wr)) (fun _ _ s33 _ => n - (intOf s33).toNat)
  case atStart => exact ⟨0, 0, rfl, Nat.zero_le _, rfl, Lib.hid rfl, Lib.hid (OwnL.nil_ _ _), Lib.hid (by rw [HC0.out]; exact HB.out), Lib.hid (Kep.refl _ _)⟩
  case round =>
    obtain ⟨k, sm, rfl, hk, rfl, hsm, hol, hbk, hkp⟩ := hrel
    by_cases hlt : k < n
    · have hcn : k < cs.length := by rw [HNL.out]; exact hlt
      obtain ⟨⟨r1, r2, r3, r4, r5, r6⟩, hr⟩ : ∃ r, cs[k]? = some r := ⟨cs[k], List.getElem?_eq_getElem hcn⟩
      have HRL := Lib.hid ((cutL_at v h x cs k hcn).trans hr)
      obtain ⟨gc, cap, e1, hge, hrb, hcap⟩ := rb_own c6C hbk.out.oc (by rw [cutL_len]; omega)
      rw [cutL_len, HNL.out] at e1
      injection e1 with e1 e2 e3
      subst e1 e3
      obtain ⟨_, _, he, hgl, hrow⟩ := (hrb.rs c6C).at (by rw [cutL_len]; exact hcn) HRL.out
      injection he with he
      injection he with he1 he2
      subst he1 he2
      rw [Nat.zero_add] at hrow
      obtain ⟨c0, c1', c2', c3, c4, c5⟩ := rng6 (rowC hrow)
      obtain ⟨t0, t1, s0, s1⟩ := HWC.out _ (List.mem_of_getElem? hr)
      have BKD := Lib.hid (fun V => backed_ r1 r2 r3 r4 r5 r6 v h V)
      have CX := Lib.hid (fun V => Sh.cutX r5 r6 x V t0 t1 s0 s1 x0 x1)
      have hco := HCO.out _ (List.mem_of_getElem? hr)
      have HSU := Lib.hid (losL_sum v h x cs (fun r hr => (HCO.out r hr).2) (k + 1))
      have HTK := Lib.hid (sumT_le HWC.out (k + 1))
      have HNX := Lib.hid (losL_next v h x cs k _ hr)
      have HST := Lib.hid (cutL_set v h x cs k _ hr)
      have HNO := Lib.hid (cutL_no v h x cs k _ hr)
      have HYE := Lib.hid (cutR_yes v h x r1 r2 r3 r4 r5 r6)
      obtain ⟨T2, hT2⟩ : ∃ y, Sh.cutT r5 r6 x = y := ⟨_, rfl⟩
      obtain ⟨S2, hS2⟩ : ∃ y, Sh.cutS r5 r6 x = y := ⟨_, rfl⟩
      obtain ⟨N2, hN2⟩ : ∃ y, Sh.cutN r5 r6 x = y := ⟨_, rfl⟩
      rw [hT2, hS2, hN2, show Sh.cutE r5 r6 x = 0 from hco.1] at CX
      rw [hT2, hS2] at HYE
      have HN2 := Lib.hid (show losR x (r1, r2, r3, r4, r5, r6) = (r1, r2, r3, r4, N2, 0) by rw [← hN2]; rfl)
      obtain ⟨y, hy⟩ : ∃ y, bkR v h (r1, r2, r3, r4, r5, r6) = y := ⟨_, rfl⟩
      rw [hy] at BKD HNX HNO HYE
      have HGL := Lib.hid hgl
      have hlt3 : (k : Int) < n := by omega
      clear hr hrow hrb hge hcap e2 hgl t0 t1 s0 s1 hco hT2 hS2 hN2 hy hcn
      go_upto_region 6 with fail
      obtain ⟨V, hV⟩ : ∃ V, wr.alloc (.cells #[.int .i64 r1, .int .i64 r2, .int .i64 r3, .int .i64 r4, .int .u64 r5, .int .u64 r6] 90) = V := ⟨_, rfl⟩
      have BV := Lib.hid (show Bel wr V by rw [← hV]; exact (Bel.refl _).alloc _)
      have P0 := Lib.hid (show Blk V wr.heap.size #[.int .i64 r1, .int .i64 r2, .int .i64 r3, .int .i64 r4, .int .u64 r5, .int .u64 r6] 90 by rw [← hV]; exact Blk.new _ _ _)
      rw [hV]
      obtain ⟨q, hq⟩ : ∃ q, wr.heap.size = q := ⟨_, rfl⟩
      have HQG := Lib.hid (show ¬ q = gc by have := HGL.out; omega)
      rw [hq] at P0 ⊢
      clear hV hq c0 c1' c2' c3 c4 c5
      obtain ⟨c0, c1', c2', c3, c4, c5⟩ := rng6 (rngB (C := [.int .i64 r1, .int .i64 r2, .int .i64 r3, .int .i64 r4, .int .u64 r5, .int .u64 r6]) P0.out)
      rw [Nat.zero_add] at c1' c2' c3 c4 c5
      go_wp2_with fail
      refine (BKD.out _).mono ?_
      rintro r V2 ⟨rfl, kb⟩
      have B2 := Lib.hid (BV.out.trans kb)
      have P2 := Lib.hid (P0.out.bel kb)
      clear kb c0 c1' c2' c3 c4 c5 BKD
      cases y
      · go_wp2_with fail
        go_roundw
        case rel => exact ⟨k + 1, sm, by go_num, by omega, rfl, Lib.hid (by rw [HNX.out]; simpa using hsm.out), Lib.hid (by rw [HNX.out]; simpa using hol.out.bel B2.out), Lib.hid (by rw [← HNO.out (by first | rfl | trivial)]; exact hbk.out.bel B2.out), Lib.hid (hkp.out.trans (Kep.of_bel B2.out))⟩
        case measure => simp [intOf]; omega
      · obtain ⟨c0, c1', c2', c3, c4, c5⟩ := rng6 (rngB (C := [.int .i64 r1, .int .i64 r2, .int .i64 r3, .int .i64 r4, .int .u64 r5, .int .u64 r6]) P2.out)
        rw [Nat.zero_add] at c1' c2' c3 c4 c5
        go_wp2_with fail
        refine (CX.out _).mono ?_
        rintro r V3 ⟨rfl, kb⟩
        have B3 := Lib.hid (B2.out.trans kb)
        have P3 := Lib.hid (P2.out.bel kb)
        clear kb c0 c1' c2' c3 c4 c5 CX
        go_upto_region 10 with fail
        obtain ⟨Z, hZ⟩ : ∃ Z, V3.alloc (.cells #[.int .u64 T2, .int .u64 S2] 46) = Z := ⟨_, rfl⟩
        have BZ := Lib.hid (show Bel wr Z by rw [← hZ]; exact B3.out.alloc _)
        have PZ := Lib.hid (show Blk Z V3.heap.size #[.int .u64 T2, .int .u64 S2] 46 by rw [← hZ]; exact Blk.new _ _ _)
        have PQ := Lib.hid (show Blk Z q _ _ by rw [← hZ]; exact P3.out.alloc _)
        rw [hZ]
        obtain ⟨gz, hgz⟩ : ∃ g, V3.heap.size = g := ⟨_, rfl⟩
        rw [hgz] at PZ ⊢
        clear hZ hgz
        have HZ := Lib.hid (hbk.out.bel BZ.out)
        have HGC := Lib.hid (own_blk HZ.out.oc rfl)
        have NP := Lib.hid (show ¬ p = gc from fun e => by obtain ⟨C, hC⟩ := HGC.out; exact absurd (blk_ty (e ▸ HZ.out.blk) hC) (by decide))
        have NZ := Lib.hid (show ¬ gz = gc from fun e => by obtain ⟨C, hC⟩ := HGC.out; exact absurd (blk_ty (e ▸ PZ.out) hC) (by decide))
        refine wp_region_held_drew (S := fun V => Kep (fun b => b = gc) Z V) (by kernel_rfl) (Kep.drew (Kep.refl _ _)) (fun hS0 => ?_)
        have HD := Lib.hid (show Bel Z Z.drew from (Bel.refl _).drew)
        obtain ⟨w7, hw7⟩ : ∃ w7, World.drew Z = w7 := ⟨_, rfl⟩
        rw [hw7] at hS0 HD ⊢
        clear hw7
        have H7 := Lib.hid (HZ.out.bel HD.out)
        obtain ⟨g', cap', e1, _, hrb, _⟩ := rb_own c6C H7.out.oc (by rw [cutL_len, HNL.out]; omega)
        injection e1 with e1 e2 e3
        injection e1 with e1
        injection e1 with e1
        subst e1
        obtain ⟨_, _, he, _, hrow⟩ := (hrb.rs c6C).at (by rw [cutL_len, HNL.out]; exact hlt) HRL.out
        injection he with he
        injection he with he1 he2
        subst he1 he2
        rw [Nat.zero_add] at hrow
        obtain ⟨_, _, _, _, x4, x5⟩ := rng6 (rowC hrow)
        have f4 := hrb.frozen (k * 6 + 4)
        have f5 := hrb.frozen (k * 6 + 5)
        clear hrb hrow e2 e3
        refine ztk 0 { dst := some 54, op := .move (.tmp 0), type := 152, pos := "book.go:75", after := #[], guard := none } (.pointer (some ⟨p, 0, none⟩)) (Or.inl ⟨by rfl, by intro w hSw; clear hSw; go_simp⟩) hS0 ?_
        try simp only [Act.put, zq1, zq2, zq3]
        refine ztk 1 { dst := some 55, op := Op.nilCheck (.tmp 54), type := 0, pos := "book.go:75", after := #[{ on := 0, ground := .data }], guard := none } (.pointer (some ⟨p, 0, none⟩)) (Or.inl ⟨by rfl, by intro w hSw; clear hSw; go_simp⟩) hS0 ?_
        try simp only [Act.put, zq1, zq2, zq3]
        refine ztk 2 { dst := some 56, op := .fieldAddr 210 (.tmp 55) 0, type := 0, pos := "book.go:75", after := #[{ on := 1, ground := .data }], guard := none } (.pointer (some ⟨p, 0, none⟩)) (Or.inl ⟨by rfl, by intro w hSw; clear hSw; go_simp⟩) hS0 ?_
        try simp only [Act.put, zq1, zq2, zq3]
        refine ztk 3 { dst := some 57, op := .load 22 (.tmp 56), type := 22, pos := "book.go:75", after := #[{ on := 2, ground := .data }], guard := none } (.slice (some ⟨gc, 0, none⟩) n c1) (Or.inl ⟨by rfl, by intro w h; have hcell := ((HZ.out.blk.kep h NP.out).cell 0 rfl); clear h; go_simp⟩) hS0 ?_
        try simp only [Act.put, zq1, zq2, zq3]
        refine ztk 4 { dst := some 58, op := .move (.tmp 11), type := 3, pos := "book.go:75", after := #[], guard := none } (.int .i64 k) (Or.inl ⟨by rfl, by intro w hSw; clear hSw; go_simp⟩) hS0 ?_
        try simp only [Act.put, zq1, zq2, zq3]
        refine ztk 5 { dst := some 59, op := .load 46 (.tmp 13), type := 46, pos := "book.go:75", after := #[], guard := none } (.agg #[.int .u64 T2, .int .u64 S2]) (yieldsIf_load_mid (by rfl) _ _ rfl _ _ rfl _ _ (fun w h => rngB (C := [.int .u64 T2, .int .u64 S2]) (PZ.out.kep h NZ.out)) Tryz.underlying46 rfl info_q) hS0 ?_
        try simp only [Act.put, zq1, zq2, zq3]
        refine ztk 6 { dst := some 60, op := .indexAddr 22 (.tmp 57) (.tmp 58), type := 0, pos := "book.go:75", after := #[{ on := 3, ground := .data }, { on := 4, ground := .data }, { on := 0, ground := .phase }, { on := 1, ground := .phase }, { on := 2, ground := .phase }, { on := 3, ground := .phase }, { on := 4, ground := .phase }, { on := 5, ground := .phase }], guard := none } (.pointer (some ⟨gc, k * 6, none⟩)) (Or.inl ⟨by rfl, by intro w hSw; clear hSw; go_simp⟩) hS0 ?_
        try simp only [Act.put, zq1, zq2, zq3]
        refine ztk 7 { dst := some 61, op := .fieldAddr 90 (.tmp 60) 1, type := 0, pos := "book.go:75", after := #[{ on := 6, ground := .data }, { on := 0, ground := .phase }, { on := 1, ground := .phase }, { on := 2, ground := .phase }, { on := 3, ground := .phase }, { on := 4, ground := .phase }, { on := 5, ground := .phase }], guard := none } (.pointer (some ⟨gc, k * 6 + 4, none⟩)) (Or.inl ⟨by rfl, by intro w hSw; clear hSw; go_simp⟩) hS0 ?_
        try simp only [Act.put, zq1, zq2, zq3]
        refine wpAnyH_ready (rs := [8]) (by kernel_rfl) (by simp) ?_
        refine AllReadyH.cons (o := { dst := none, op := .store 46 (.tmp 61) (.tmp 59), type := 0, pos := "book.go:75", after := #[{ on := 7, ground := .data }, { on := 5, ground := .data }, { on := 0, ground := .phase }, { on := 1, ground := .phase }, { on := 2, ground := .phase }, { on := 3, ground := .phase }, { on := 4, ground := .phase }, { on := 5, ground := .phase }], guard := none }) rfl (fun K hK => ?_) AllReadyH.nil
        go_simp
        refine hK.out _ _ ((hS0.set rfl _).set rfl _) (fun hS1 => ?_)
        clear hK K
        try simp only [Act.put, zq1, zq2, zq3]
        refine wpAnyH_done (by kernel_rfl) ?_ _
        have HKX := Lib.hid hS1
        obtain ⟨hbx, hk7⟩ := H7.out.pool HRL.out (T := T2) (S := S2)
        have hset : (cutL v h x cs k).set k (r1, r2, r3, r4, T2, S2) = cutL v h x cs (k + 1) := by rw [← HST.out, HYE.out (by first | rfl | trivial)]
        rw [hset] at hbx
        obtain ⟨X, hX⟩ : ∃ X, (w7.setCell ⟨gc, k * 6 + 4, none⟩ (.int .u64 T2)).setCell ⟨gc, k * 6 + 4 + 1, none⟩ (.int .u64 S2) = X := ⟨_, rfl⟩
        have HBX := Lib.hid (show BK X base p _ _ _ ps by rw [← hX]; exact hbx)
        rw [hX] at HKX ⊢
        have PX := Lib.hid (PQ.out.kep HKX.out HQG.out)
        have OX := Lib.hid ((hol.out.bel BZ.out).kep HKX.out (fun i e e' => by
          obtain ⟨_, C, hC⟩ := ownL_blk (hol.out.bel BZ.out) e
          obtain ⟨D, hD⟩ := HGC.out
          exact absurd (blk_ty (e' ▸ hC) hD) (by decide)))
        have KX := Lib.hid (hkp.out.trans ((Kep.of_bel BZ.out).trans (HKX.out.mono (T := fun b => b = p ∨ (Value.slice (some ⟨gc, 0, none⟩) n c1).ownBlock = some b ∨ (Value.slice A2 m c2).ownBlock = some b) (fun i _ e => .inr (.inl (by rw [e]; rfl))))))
        have hnx : losL v h x cs (k + 1) = losL v h x cs k ++ [(r1, r2, r3, r4, N2, 0)] := by rw [HNX.out, ← HN2.out]; rfl
        have HNX2 := Lib.hid hnx
        have HSM := Lib.hid (show sm + N2 = sumT (losL v h x cs (k + 1)) by
          rw [hnx, show sumT (losL v h x cs k ++ [(r1, r2, r3, r4, N2, 0)]) = sumT (losL v h x cs k) + N2 by simp [sumT, tok], ← hsm.out])
        have hwr : IntKind.u64.wrap (sm + N2) = sm + N2 := IntWalk.u64_in _ (by have h1 := HSU.out; have h2 := HTK.out; have h3 := HSL.out; rw [← HSM.out] at h1; omega)
        obtain ⟨c0, c1', c2', c3, c4, c5⟩ := rng6 (rngB (C := [.int .i64 r1, .int .i64 r2, .int .i64 r3, .int .i64 r4, .int .u64 r5, .int .u64 r6]) PX.out)
        rw [Nat.zero_add] at c1' c2' c3 c4 c5
        have HLL := Lib.hid (losL_len v h x cs k)
        clear hX hbx hk7 hset hnx hS0 hS1 x4 x5 f4 f5 HST HYE HNO HNX HSU HTK
        go_wp2_with (at_builtin; refine wpList_append_L rfl _ _ rfl w.heap.size _ (losL v h x cs k) rfl (OX.out.bel ((Bel.refl X).alloc _)) X.heap.size (r1, r2, r3, r4, N2, 0) rfl (Blk.new _ _ _) (by have := HLL.out; have := HNL.out; omega) (by have := KX.out.size; simp; omega) ?_; intro v' w9 hown' hgrow)
        have HO2 := Lib.hid hown'
        have hkg := Kep.grown (S := fun b => _ = some b) (Kep.refl _ _) hgrow (fun k e _ => e)
        have hla := fun i e => ownL_blk (OX.out.bel ((Bel.refl X).alloc (.cells (cL (r1, r2, r3, r4, N2, 0)).toArray 84))) (b := i) e
        have hba := HBX.out.bel ((Bel.refl X).alloc (.cells (cL (r1, r2, r3, r4, N2, 0)).toArray 84))
        have HB9 := Lib.hid (hba.kep hkg (fun e => by obtain ⟨_, C, hC⟩ := hla _ e; exact absurd (blk_ty hC hba.blk) (by decide)) (fun i e e' => by obtain ⟨_, C, hC⟩ := hla _ e'; obtain ⟨D, hD⟩ := own_blk hba.oc e; exact absurd (blk_ty hC hD) (by decide)) (fun i e e' => by obtain ⟨_, C, hC⟩ := hla _ e'; obtain ⟨D, hD⟩ := own_blk hba.op e; exact absurd (blk_ty hC hD) (by decide)))
        have HK9 := Lib.hid (kep_after (KX.out.trans (Kep.of_bel ((Bel.refl X).alloc (.cells (cL (r1, r2, r3, r4, N2, 0)).toArray 84)))) hkg (fun i e => (hla _ e).1))
        clear hown' hgrow hkg hla hba c0 c1' c2' c3 c4 c5
        go_wp2_with fail
        go_roundw
        case rel => exact ⟨k + 1, sm + N2, by go_num, by omega, rfl, HSM, Lib.hid (by rw [HNX2.out]; exact HO2.out), HB9, HK9⟩
        case measure => simp [intOf]; omega
    · obtain rfl : k = n := by omega
      have hcm : cutL v h x cs k = cs.map (cutR v h x) := by
        unfold cutL
        rw [List.take_of_length_le (by rw [HNL.out]; exact Nat.le_refl _), List.drop_eq_nil_of_le (by rw [HNL.out]; exact Nat.le_refl _), List.append_nil]
      have hb2 := hbk.out
      rw [hcm] at hb2
      have DR := Lib.hid (drop_ base p _ _ _ ps wr hb2 (by rw [List.length_map, HNL.out]; omega) hm (cut_srt v h x HOK.out.sc))
      have HS := Lib.hid hsm.out
      clear hb2 hcm hsm
      go_wp2_with fail
      refine DR.out.mono ?_
      rintro r V1 ⟨rfl, k1', k2', hbz, hkz⟩
      rw [HQS.out] at hbz
      have HBZ := Lib.hid hbz
      have HKZ := Lib.hid (hkp.out.trans hkz)
      have HOL := Lib.hid (hol.out.kep hkz (fun i e h => by
        obtain ⟨_, C, hC⟩ := ownL_blk hol.out e
        exact hbk.out.not_in hC (by decide) (by decide) (by decide) h))
      clear hbz hkz
      go_wp2_with fail
      go_ret3
      rw [← HS.out]
      first
        | exact ⟨_, rfl, HOL.out, HKZ.out, fun _ => ⟨_, _, HBZ.out⟩⟩
        | exact ⟨_, rfl, HOL.out, HKZ.out, ⟨_, _, HBZ.out⟩⟩
end Ho
end Go.Proofs.YtneajcoiemkfbaaGreat
end

section
/-
  What holding.Cut answers. Conditions: the holding has at most a million rows; amounts are words.
-/
namespace Go.Proofs.YtneajcoiemkfbaaGreat
open Go.RowKit Go.Shelf
set_option linter.unusedVariables false
set_option linter.unusedSimpArgs false
namespace Ho
open Kk Pm

set_option maxRecDepth 100000 in
set_option maxHeartbeats 4000000 in
theorem cutS1 (base p q1 q2 q3 q4 : Nat) (u k1 k2 : Value) (cs ps : List R6) (v h x : Int) (w : World) (hbk : BK w base p k1 k2 cs ps) (hok : Ok cs ps) (hm : ps.length ≤ 1000000) (hwc : ∀ r ∈ cs, Wd r) (x0 : 0 ≤ x) (x1 : x ≤ 18446744073709551615) (hbs : base ≤ w.heap.size)
    (h1 : Blk w q1 #[.int .i64 v] 3) (h2 : Blk w q2 #[.int .i64 h] 3) (h3 : Blk w q3 #[.int .u64 x] 32) (h4 : Blk w q4 #[u] 33) :
    Calls Tryz.prog 117 #[.pointer (some ⟨p, 0, none⟩), .pointer (some ⟨q1, 0, none⟩), .pointer (some ⟨q2, 0, none⟩), .pointer (some ⟨q3, 0, none⟩), .pointer (some ⟨q4, 0, none⟩)] w fun r w' =>
      r = .returned (.tuple #[.int .u64 (if bKE v h x = 0 then sumT (losL v h x cs cs.length) else 0), .int .i64 (bKE v h x)]) ∧ Kep (fun b => (b = p ∨ k1.ownBlock = some b ∨ k2.ownBlock = some b) ∨ b = q4) w w' ∧
      (bKE v h x = 0 → ∃ k1' k2', BK w' base p k1' k2' ((cs.map (cutR v h x)).filter full) (ps.filter fun r => !decide (polT (cs.map (cutR v h x)) (stp r) = 0 ∧ polS (cs.map (cutR v h x)) (stp r) = 0))) ∧
      ∃ lv, Blk w' q4 #[lv] 33 ∧ OwnL w' w.heap.size lv (if bKE v h x = 0 then losL v h x cs cs.length else []) := by
  have J := Lib.hid (cut_ base p k1 k2 cs ps v h x w hbk hok hm hwc x0 x1 hbs)
  have HB := Lib.hid hbk
  have H4 := Lib.hid h4
  obtain ⟨E, hE⟩ : ∃ E, bKE v h x = E := ⟨_, rfl⟩
  obtain ⟨M, hM⟩ : ∃ M, (if E = 0 then sumT (losL v h x cs cs.length) else 0) = M := ⟨_, rfl⟩
  obtain ⟨LS, hL⟩ : ∃ M, (if E = 0 then losL v h x cs cs.length else []) = M := ⟨_, rfl⟩
  obtain ⟨cs', hc'⟩ : ∃ l, (cs.map (cutR v h x)).filter full = l := ⟨_, rfl⟩
  obtain ⟨ps', hp'⟩ : ∃ l, (ps.filter fun r => !decide (polT (cs.map (cutR v h x)) (stp r) = 0 ∧ polS (cs.map (cutR v h x)) (stp r) = 0)) = l := ⟨_, rfl⟩
  rw [hE, hM, hL, hc', hp'] at J
  rw [hE, hM, hL, hc', hp']
  have c1 := h1.cell 0 rfl
  have c2 := h2.cell 0 rfl
  have c3 := h3.cell 0 rfl
  clear hbk h1 h2 h3 h4 hok hwc hm hE hM hL hc' hp' hbs
  go_enter Tryz.func117, Tryz.ntmps117
  go_wp2_with fail
  refine J.out.mono ?_
  rintro r V ⟨lv, rfl, ho, hk, hp⟩
  obtain ⟨A, c, rfl⟩ := ownL_slice ho
  have H4V := Lib.hid (H4.out.kep hk (HB.out.not_in H4.out (by decide) (by decide) (by decide)))
  have HO := Lib.hid ho
  have HK := Lib.hid hk
  have HP := Lib.hid hp
  obtain ⟨nl, hnl⟩ : ∃ n, LS.length = n := ⟨_, rfl⟩
  rw [hnl] at HO ⊢
  have d0 := H4V.out.cell 0 rfl
  have f0 := H4V.out.frozen 0
  clear ho hk hp hnl
  go_wp2_with fail
  go_ret2
  have hk4 : Kep (fun b => b = q4) V (V.setCell ⟨q4, 0, none⟩ (.slice A nl c)) := Kep.set (S := fun b => b = q4) (Kep.refl _ _) rfl _
  refine ⟨rfl, (HK.out.mono (fun _ _ h => .inl h)).trans (hk4.mono (fun _ _ h => .inr h)), fun hE => ?_, _, H4V.out.set 0 _, HO.out.kep hk4 (fun i e e' => by obtain ⟨_, C, hC⟩ := ownL_blk HO.out e; exact absurd (blk_ty (e' ▸ hC) H4V.out) (by decide))⟩
  obtain ⟨l1, l2, hb⟩ := HP.out hE
  exact ⟨l1, l2, hb.kep hk4 (fun e => absurd (blk_ty (e ▸ hb.blk) H4V.out) (by decide)) (fun i e e' => own_ne hb.oc H4V.out (by decide) (e' ▸ e)) (fun i e e' => own_ne hb.op H4V.out (by decide) (e' ▸ e))⟩
theorem res_cttt {fn : Func} {p q s u : Tmp} {tp : TypeId} (h : fn.results = #[.cell p tp, .tmp q, .tmp s, .tmp u]) (tmps : Array Value) (w : World) (a : Addr) (X U V Z : Value)
    (hp : tmps.getD p undef = .pointer (some a)) (hq : tmps.getD q undef = U) (hs : tmps.getD s undef = V) (hu : tmps.getD u undef = Z) (hX : (loadVar tp a).run Tryz.prog w = .ok X w) :
    (results fn tmps).run Tryz.prog w = .ok (.tuple #[X, U, V, Z]) w := by
  have hp' : tmps[p]?.getD undef = .pointer (some a) := by simpa using hp
  have hq' : tmps[q]?.getD undef = U := by simpa using hq
  have hs' : tmps[s]?.getD undef = V := by simpa using hs
  have hu' : tmps[u]?.getD undef = Z := by simpa using hu
  simp [results, h, hp', hq', hs', hu', asAddr, hX]
set_option maxRecDepth 100000 in
set_option maxHeartbeats 8000000 in
theorem Cut_ (A : Option Addr) (n c : Nat) (B : Option Addr) (m d0 : Nat) (cs ps : List R6) (v h x : Int) (w : World) (hh : HH w A n c B m d0 cs ps) (x0 : 0 ≤ x) (x1 : x ≤ 18446744073709551615) :
    Calls Tryz.prog 48 #[.agg #[.slice A n c, .slice B m d0], .int .i64 v, .int .i64 h, .int .u64 x] w fun r w' => ∃ v1 v2 lv,
      r = .returned (.tuple #[.agg #[v1, v2], lv, .int .u64 (if chE cs ps (bKE v h x) = 0 then sumT (losL v h x cs cs.length) else 0), .int .i64 (chE cs ps (bKE v h x))]) ∧
      OwnR cC 90 w' w.heap.size v1 (if chE cs ps (bKE v h x) = 0 then (cs.map (cutR v h x)).filter full else []) ∧ OwnR cP 93 w' w.heap.size v2 (if chE cs ps (bKE v h x) = 0 then ps.filter fun r => !decide (polT (cs.map (cutR v h x)) (stp r) = 0 ∧ polS (cs.map (cutR v h x)) (stp r) = 0) else []) ∧
      OwnL w' w.heap.size lv (if chE cs ps (bKE v h x) = 0 then losL v h x cs cs.length else []) ∧ Bel w w' := by
  obtain ⟨W, hW⟩ : ∃ W, (((((w.alloc (.cells #[.slice A n c, .slice B m d0] 25)).alloc (.cells #[.int .i64 v] 3)).alloc (.cells #[.int .i64 h] 3)).alloc (.cells #[.int .u64 x] 32)).alloc (.cells #[.slice none 0 0, .slice none 0 0] 25)).alloc (.cells #[.slice none 0 0] 33) = W := ⟨_, rfl⟩
  have B0 := Lib.hid (show Bel w W by rw [← hW]; exact ((((((Bel.refl w).alloc _).alloc _).alloc _).alloc _).alloc _).alloc _)
  have PG := Lib.hid (show Blk W (w.heap.size) #[.slice A n c, .slice B m d0] 25 by rw [← hW]; refine Blk.alloc ?_ _; refine Blk.alloc ?_ _; refine Blk.alloc ?_ _; refine Blk.alloc ?_ _; refine Blk.alloc ?_ _; have h := Blk.new (w) #[.slice A n c, .slice B m d0] 25; simpa using h)
  have P1 := Lib.hid (show Blk W (w.heap.size + 1) #[.int .i64 v] 3 by rw [← hW]; refine Blk.alloc ?_ _; refine Blk.alloc ?_ _; refine Blk.alloc ?_ _; refine Blk.alloc ?_ _; have h := Blk.new (w.alloc (.cells #[.slice A n c, .slice B m d0] 25)) #[.int .i64 v] 3; simpa using h)
  have P2 := Lib.hid (show Blk W (w.heap.size + 1 + 1) #[.int .i64 h] 3 by rw [← hW]; refine Blk.alloc ?_ _; refine Blk.alloc ?_ _; refine Blk.alloc ?_ _; have h := Blk.new ((w.alloc (.cells #[.slice A n c, .slice B m d0] 25)).alloc (.cells #[.int .i64 v] 3)) #[.int .i64 h] 3; simpa using h)
  have P3 := Lib.hid (show Blk W (w.heap.size + 1 + 1 + 1) #[.int .u64 x] 32 by rw [← hW]; refine Blk.alloc ?_ _; refine Blk.alloc ?_ _; have h := Blk.new (((w.alloc (.cells #[.slice A n c, .slice B m d0] 25)).alloc (.cells #[.int .i64 v] 3)).alloc (.cells #[.int .i64 h] 3)) #[.int .u64 x] 32; simpa using h)
  have PR := Lib.hid (show Blk W (w.heap.size + 1 + 1 + 1 + 1) #[.slice none 0 0, .slice none 0 0] 25 by rw [← hW]; refine Blk.alloc ?_ _; have h := Blk.new ((((w.alloc (.cells #[.slice A n c, .slice B m d0] 25)).alloc (.cells #[.int .i64 v] 3)).alloc (.cells #[.int .i64 h] 3)).alloc (.cells #[.int .u64 x] 32)) #[.slice none 0 0, .slice none 0 0] 25; simpa using h)
  have PL := Lib.hid (show Blk W (w.heap.size + 1 + 1 + 1 + 1 + 1) #[.slice none 0 0] 33 by rw [← hW]; have h := Blk.new (((((w.alloc (.cells #[.slice A n c, .slice B m d0] 25)).alloc (.cells #[.int .i64 v] 3)).alloc (.cells #[.int .i64 h] 3)).alloc (.cells #[.int .u64 x] 32)).alloc (.cells #[.slice none 0 0, .slice none 0 0] 25)) #[.slice none 0 0] 33; simpa using h)
  obtain ⟨g, hg⟩ : ∃ g, w.heap.size = g := ⟨_, rfl⟩
  have HG := Lib.hid hg
  have HGW := Lib.hid (show g + 1 + 1 + 1 + 1 + 1 < W.heap.size by rw [← hg]; exact PL.out.lt)
  rw [hg] at PG P1 P2 P3 PR PL
  have CH := Lib.hid (changed_ A n c B m d0 cs ps ((cs.map (cutR v h x)).filter full) (ps.filter fun r => !decide (polT (cs.map (cutR v h x)) (stp r) = 0 ∧ polS (cs.map (cutR v h x)) (stp r) = 0)) 117 #[.pointer (some ⟨g + 1, 0, none⟩), .pointer (some ⟨g + 1 + 1, 0, none⟩), .pointer (some ⟨g + 1 + 1 + 1, 0, none⟩), .pointer (some ⟨g + 1 + 1 + 1 + 1 + 1, 0, none⟩)] (if bKE v h x = 0 then sumT (losL v h x cs cs.length) else 0) (bKE v h x) (fun b => b = g + 1 + 1 + 1 + 1 + 1)
    (fun V => ∃ lv, Blk V (g + 1 + 1 + 1 + 1 + 1) #[lv] 33 ∧ OwnL V W.heap.size lv (losL v h x cs cs.length)) (fun V => ∃ lv, Blk V (g + 1 + 1 + 1 + 1 + 1) #[lv] 33 ∧ OwnL V W.heap.size lv []) W (hh.bel B0.out) (fun b hb => by rw [hb]; exact HGW.out) (fun args w => rfl)
    (fun V V' g' C hC hge hk => by
      have hst : ∀ l, (∃ lv, Blk V (g + 1 + 1 + 1 + 1 + 1) #[lv] 33 ∧ OwnL V W.heap.size lv l) → ∃ lv, Blk V' (g + 1 + 1 + 1 + 1 + 1) #[lv] 33 ∧ OwnL V' W.heap.size lv l := fun l ⟨lv, h1, h2⟩ =>
        ⟨lv, h1.kep hk (fun e => by have := HGW.out; omega), h2.kep hk (fun i e e' => by obtain ⟨_, D, hD⟩ := ownL_blk h2 e; exact absurd (blk_ty (e' ▸ hD) hC) (by decide))⟩
      exact ⟨hst _, hst _⟩)
    (fun V hb => ⟨_, PL.out.bel hb, OwnL.nil_ _ _⟩)
    (fun hok base p k1 k2 V hb hp hbs hbV hbk => (cutS1 base p (g + 1) (g + 1 + 1) (g + 1 + 1 + 1) (g + 1 + 1 + 1 + 1 + 1) (.slice none 0 0) k1 k2 cs ps v h x V hbk hok (Nat.le_trans (Nat.le_of_eq hh.pos.len) hh.pm) hh.wc x0 x1 hbV (P1.out.bel hb) (P2.out.bel hb) (P3.out.bel hb) (PL.out.bel hb)).mono (by
      rintro r V' ⟨rfl, hk, hp', lv, hl1, hl2⟩
      refine ⟨rfl, hk, fun hE => ⟨⟨lv, hl1, ?_⟩, hp' hE⟩, fun hE => ⟨lv, hl1, ?_⟩⟩
      · rw [if_pos hE] at hl2; exact hl2.mono (Below.size hb)
      · rw [if_neg hE] at hl2; exact hl2.mono (Below.size hb))))
  obtain ⟨E, hE⟩ : ∃ E, chE cs ps (bKE v h x) = E := ⟨_, rfl⟩
  have hM : (if E = 0 then (if bKE v h x = 0 then sumT (losL v h x cs cs.length) else 0) else 0) = (if E = 0 then sumT (losL v h x cs cs.length) else 0) := by
    by_cases h0 : E = 0
    · have h1 : bKE v h x = 0 := by
        by_cases hc : chkH cs ps = 0
        · have h2 := (chE_ways cs ps (bKE v h x)).2 hc
          rw [hE] at h2; rw [← h2]; exact h0
        · have := (chE_ways cs ps (bKE v h x)).1 hc; omega
      rw [if_pos h0, if_pos h0, if_pos h1]
    · rw [if_neg h0, if_neg h0]
  rw [hE] at CH ⊢
  rw [hM] at CH
  obtain ⟨M, hM2⟩ : ∃ M, (if E = 0 then sumT (losL v h x cs cs.length) else 0) = M := ⟨_, rfl⟩
  rw [hM2] at CH ⊢
  obtain ⟨cs', hc'⟩ : ∃ l, (if E = 0 then (cs.map (cutR v h x)).filter full else []) = l := ⟨_, rfl⟩
  obtain ⟨ps', hp'⟩ : ∃ l, (if E = 0 then ps.filter fun r => !decide (polT (cs.map (cutR v h x)) (stp r) = 0 ∧ polS (cs.map (cutR v h x)) (stp r) = 0) else []) = l := ⟨_, rfl⟩
  obtain ⟨ls, hl'⟩ : ∃ l, (if E = 0 then losL v h x cs cs.length else []) = l := ⟨_, rfl⟩
  rw [hc', hp'] at CH ⊢
  rw [hl']
  have HL := Lib.hid hl'
  have g0 := PG.out.cell 0 rfl
  have g1 := PG.out.cell 1 rfl
  clear hM hM2 hE hc' hp' hl' hh
  go_enter Tryz.func48, Tryz.ntmps48
  go_upto_region 2 with fail
  try rw [hW]
  try rw [hg]
  clear hW hg
  go_wp2_with fail
  refine CH.out.mono ?_
  rintro r V ⟨k1, k2, rfl, h1, h2, hk, hr1, hr0⟩
  obtain ⟨lv, hl1, hl2⟩ : ∃ lv, Blk V (g + 1 + 1 + 1 + 1 + 1) #[lv] 33 ∧ OwnL V W.heap.size lv ls := by
    by_cases h0 : E = 0
    · have := hr1 h0; rw [← HL.out, if_pos h0]; exact this
    · have := hr0 h0; rw [← HL.out, if_neg h0]; exact this
  obtain ⟨A3, c3, rfl, _⟩ := h1.rs c6C
  obtain ⟨B3, d3, rfl, _⟩ := h2.rs c6P
  obtain ⟨L3, l3, rfl⟩ := ownL_slice hl2
  have PV := Lib.hid (PR.out.kep hk (show ¬ (g + 1 + 1 + 1 + 1 = g + 1 + 1 + 1 + 1 + 1) by omega))
  obtain ⟨n3, hn3⟩ : ∃ n, cs'.length = n := ⟨_, rfl⟩
  obtain ⟨m3, hm3⟩ : ∃ n, ps'.length = n := ⟨_, rfl⟩
  obtain ⟨j3, hj3⟩ : ∃ n, ls.length = n := ⟨_, rfl⟩
  rw [hn3] at h1 ⊢
  rw [hm3] at h2 ⊢
  rw [hj3] at hl1 hl2
  have BV := Lib.hid (Kep.bel B0.out hk (fun k h => by have := HG.out; omega))
  have H1 := Lib.hid (h1.mono (Below.size B0.out))
  have H2 := Lib.hid (h2.mono (Below.size B0.out))
  have H3 := Lib.hid (hl2.mono (Below.size B0.out))
  have HL1 := Lib.hid hl1
  clear h1 h2 hk hn3 hm3 hj3 g0 g1 hr1 hr0 hl1 hl2
  go_upto_region 3 with fail
  obtain ⟨Z, hZ⟩ : ∃ Z, V.alloc (.cells #[.slice A3 n3 c3, .slice B3 m3 d3] 25) = Z := ⟨_, rfl⟩
  have BZ := Lib.hid (show Bel V Z by rw [← hZ]; exact (Bel.refl V).alloc _)
  have PZ := Lib.hid (show Blk Z V.heap.size #[.slice A3 n3 c3, .slice B3 m3 d3] 25 by rw [← hZ]; exact Blk.new _ _ _)
  rw [hZ]
  obtain ⟨gz, hgz⟩ : ∃ g, V.heap.size = g := ⟨_, rfl⟩
  have NZ := Lib.hid (show ¬ gz = g + 1 + 1 + 1 + 1 by have := PV.out.lt; omega)
  rw [hgz] at PZ ⊢
  clear hZ hgz
  refine wp_region_held_drew (S := fun V => Kep (fun b => b = g + 1 + 1 + 1 + 1) Z V) (by kernel_rfl) (Kep.drew (Kep.refl _ _)) (fun hS0 => ?_)
  have HD := Lib.hid (show Bel Z Z.drew from (Bel.refl _).drew)
  obtain ⟨w7, hw7⟩ : ∃ w7, World.drew Z = w7 := ⟨_, rfl⟩
  rw [hw7] at hS0 HD ⊢
  clear hw7
  have P7 := Lib.hid ((PV.out.bel BZ.out).bel HD.out)
  have r0 := P7.out.cell 0 rfl
  have r1 := P7.out.cell 1 rfl
  have rf0 := P7.out.frozen 0
  have rf1 := P7.out.frozen 1
  refine ztk 0 { dst := some 23, op := .load 25 (.tmp 13), type := 25, pos := "holding.go:27", after := #[], guard := none } (.agg #[.slice A3 n3 c3, .slice B3 m3 d3]) (yieldsIf_load_mid (by rfl) _ _ rfl _ _ rfl _ _ (fun w h => rngB (C := [.slice A3 n3 c3, .slice B3 m3 d3]) (PZ.out.kep h NZ.out)) Tryz.underlying25 rfl info_h) hS0 ?_
  try simp only [Act.put, zq1, zq2, zq3]
  refine ztk 1 { dst := some 24, op := .load 33 (.tmp 12), type := 33, pos := "holding.go:27", after := #[{ on := 4, ground := .gcOnly .lateStores }], guard := none } (.slice L3 j3 l3) (Or.inl ⟨by rfl, by intro w h; have hcell := (((HL1.out.bel BZ.out).kep h (by omega)).cell 0 rfl); clear h; go_simp⟩) hS0 ?_
  try simp only [Act.put, zq1, zq2, zq3]
  refine ztk 2 { dst := some 25, op := .move (.tmp 14), type := 32, pos := "holding.go:27", after := #[{ on := 5, ground := .gcOnly .lateStores }], guard := none } (.int .u64 M) (Or.inl ⟨by rfl, by intro w hSw; clear hSw; go_simp⟩) hS0 ?_
  try simp only [Act.put, zq1, zq2, zq3]
  refine ztk 3 { dst := some 26, op := .move (.tmp 15), type := 30, pos := "holding.go:27", after := #[{ on := 6, ground := .gcOnly .lateStores }], guard := none } (.int .i64 E) (Or.inl ⟨by rfl, by intro w hSw; clear hSw; go_simp⟩) hS0 ?_
  try simp only [Act.put, zq1, zq2, zq3]
  refine wpAnyH_ready (rs := [4]) (by kernel_rfl) (by simp) ?_
  refine AllReadyH.cons (o := { dst := none, op := .store 25 (.tmp 8) (.tmp 23), type := 0, pos := "holding.go:27", after := #[{ on := 0, ground := .data }, { on := 0, ground := .phase }, { on := 1, ground := .textOnly .lateStores }, { on := 2, ground := .textOnly .lateStores }, { on := 3, ground := .textOnly .lateStores }], guard := none }) rfl (fun K hK => ?_) AllReadyH.nil
  go_simp
  refine hK.out _ _ ((hS0.set rfl _).set rfl _) (fun hS1 => ?_)
  clear hK K
  try simp only [Act.put, zq1, zq2, zq3]
  refine ztk 5 { dst := some 9, op := .assign (.tmp 24), type := 33, pos := "holding.go:27", after := #[{ on := 1, ground := .data }, { on := 4, ground := .chain }, { on := 0, ground := .phase }, { on := 1, ground := .phase }, { on := 2, ground := .textOnly .lateStores }, { on := 3, ground := .textOnly .lateStores }, { on := 4, ground := .phase }], guard := none } (.slice L3 j3 l3) (Or.inl ⟨by rfl, by intro w hSw; clear hSw; go_simp⟩) hS1 ?_
  try simp only [Act.put, zq1, zq2, zq3]
  refine ztk 6 { dst := some 10, op := .assign (.tmp 25), type := 32, pos := "holding.go:27", after := #[{ on := 2, ground := .data }, { on := 5, ground := .chain }, { on := 0, ground := .phase }, { on := 1, ground := .phase }, { on := 2, ground := .phase }, { on := 3, ground := .textOnly .lateStores }, { on := 4, ground := .phase }, { on := 5, ground := .phase }], guard := none } (.int .u64 M) (Or.inl ⟨by rfl, by intro w hSw; clear hSw; go_simp⟩) hS1 ?_
  try simp only [Act.put, zq1, zq2, zq3]
  refine ztk 7 { dst := some 11, op := .assign (.tmp 26), type := 30, pos := "holding.go:27", after := #[{ on := 3, ground := .data }, { on := 6, ground := .chain }, { on := 0, ground := .phase }, { on := 1, ground := .phase }, { on := 2, ground := .phase }, { on := 3, ground := .phase }, { on := 4, ground := .phase }, { on := 5, ground := .phase }, { on := 6, ground := .phase }], guard := none } (.int .i64 E) (Or.inl ⟨by rfl, by intro w hSw; clear hSw; go_simp⟩) hS1 ?_
  try simp only [Act.put, zq1, zq2, zq3]
  refine wpAnyH_done (by kernel_rfl) ?_ _
  have HKX := Lib.hid hS1
  have P9 := Lib.hid (show Blk ((w7.setCell ⟨g + 1 + 1 + 1 + 1, 0, none⟩ (.slice A3 n3 c3)).setCell ⟨g + 1 + 1 + 1 + 1, 1, none⟩ (.slice B3 m3 d3)) (g + 1 + 1 + 1 + 1) #[.slice A3 n3 c3, .slice B3 m3 d3] 25 from (P7.out.set 0 _).set 1 _)
  go_wp2_with fail
  refine bodyPost_ret (v := .tuple #[.agg #[.slice A3 n3 c3, .slice B3 m3 d3], .slice L3 j3 l3, .int .u64 M, .int .i64 E]) (res_cttt rfl _ _ ⟨g + 1 + 1 + 1 + 1, 0, none⟩ _ _ _ _ rfl rfl rfl rfl (Pm.load_b (C := [.slice A3 n3 c3, .slice B3 m3 d3]) P9.out Tryz.underlying25 rfl info_h)) rfl ?_
  refine ⟨_, _, _, rfl, ?_, ?_, ?_, ?_⟩
  · exact (H1.out.bel BZ.out).kep HKX.out (fun i e e' => own_ne (H1.out.bel BZ.out) (PV.out.bel BZ.out) (by decide) (e' ▸ e))
  · exact (H2.out.bel BZ.out).kep HKX.out (fun i e e' => own_ne (H2.out.bel BZ.out) (PV.out.bel BZ.out) (by decide) (e' ▸ e))
  · exact (H3.out.bel BZ.out).kep HKX.out (fun i e e' => by obtain ⟨_, C, hC⟩ := ownL_blk (H3.out.bel BZ.out) e; exact absurd (blk_ty (e' ▸ hC) (PV.out.bel BZ.out)) (by decide))
  · exact Kep.bel (BV.out.trans BZ.out) HKX.out (fun k hk => by have := HG.out; omega)
end Ho
end Go.Proofs.YtneajcoiemkfbaaGreat
end
