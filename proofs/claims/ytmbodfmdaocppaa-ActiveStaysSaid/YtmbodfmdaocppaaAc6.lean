/-
  The iterator over what those in a set have; what active.Sum and Floor answer. Conditions: at most a million elements.
-/
import Derived.Test.YtmbodfmdaocppaaAcT
import Derived.Test.YtmbodfmdaocppaaAcM3
import Derived.Test.YtmbodfmdaocppaaBits
import Derived.Test.YtmbodfmdaocppaaRIn
import Derived.RangeFuncWrites
import Derived.RangeFuncNested
namespace Go.Proofs.Ytmbodfmdaocppaa
open Go.RowKit Go.Shelf
set_option linter.unusedVariables false
set_option linter.unusedSimpArgs false
attribute [local go_sem] Oper.semAt_some
namespace Ac
open Kk Pm Ro

/-- What an iterator goes through: it stands. -/
structure Ow (p q : Nat) (T : Option Addr) (tn tc : Nat) (t : List Int) (M : Option Addr) (mn mc : Nat) (m : List Bool) (W : World) : Prop where
  bm : Blk W p #[.slice M mn mc] 23
  bt : Blk W q #[.slice T tn tc] 22
  tok : Rw.RS uR W T tn tc t
  may : Rw.RS bR W M mn mc m
section
variable {p q : Nat} {T : Option Addr} {tn tc : Nat} {t : List Int} {M : Option Addr} {mn mc : Nat} {m : List Bool} {W W' : World}
theorem Ow.grown {row : Option Nat} (h : Ow p q T tn tc t M mn mc m W) (hg : W.grownBy W' row) (hr : ∀ r, row = some r → ∃ o : Obj, W.heap[r]? = some o ∧ o.isCells = false) : Ow p q T tn tc t M mn mc m W' :=
  ⟨Rw.blk_grown h.bm hg hr, Rw.blk_grown h.bt hg hr, h.tok.grown hg hr, h.may.grown hg hr⟩
theorem Ow.bel (h : Ow p q T tn tc t M mn mc m W) (hb : Bel W W') : Ow p q T tn tc t M mn mc m W' := h.grown (Kk.Bel.grownBy hb) (fun r e => by cases e)
theorem Ow.set {g : Nat} {v : Value} (h : Ow p q T tn tc t M mn mc m W) (h1 : g ≠ p) (h2 : g ≠ q) (h3 : 0 < tn → ∀ x, T = some x → x.block ≠ g) (h4 : 0 < mn → ∀ x, M = some x → x.block ≠ g) : Ow p q T tn tc t M mn mc m (W.setCell ⟨g, 0, none⟩ v) := by
  have hk : Kep (fun b => b = g) W (W.setCell ⟨g, 0, none⟩ v) := Kep.set_self (Kep.refl _ _) _ _
  exact ⟨h.bm.kep hk (fun e => h1 e.symm), h.bt.kep hk (fun e => h2 e.symm), h.tok.kep2 hk h3, h.may.kep2 hk h4⟩
theorem old_ne {α : Type} {K : Rw.Row α} {w : World} {A : Option Addr} {n c : Nat} {l : List α} (h : Rw.RS K w A n c l) {g : Nat} (hg : w.heap.size ≤ g) : 0 < n → ∀ x, A = some x → x.block ≠ g := fun h0 x hx => by
  obtain ⟨b, o, e, hlt, _⟩ := h.row h0
  rw [hx] at e
  injection e with e
  subst e
  show b ≠ g
  omega
end
abbrev Os (t : List Int) (m : List Bool) (n : Nat) := { x : Int // x ∈ owL t m n }
abbrev val {t : List Int} {m : List Bool} {n : Nat} (l : List (Os t m n)) : List Int := l.map (fun e => e.1)

set_option maxRecDepth 100000 in
set_option maxHeartbeats 4000000 in
theorem iter_in (p q : Nat) (T : Option Addr) (tn tc : Nat) (t : List Int) (M : Option Addr) (mn mc : Nat) (m : List Bool) (htn : tn ≤ 1000000) (hmn : mn ≤ 1000000) (N : Nat) (hN : 1 ≤ N) (l : Nat) (J Jx : List (Os t m mn) → World → Prop)
    (hJ : ∀ s V V', J s V → Bel V V' → J s V')
    (hY : ∀ pre e V, J pre V → pre.length < mn → YieldAt Fence.wide (N - 1) Try.prog l #[.int .u64 (e : Os t m mn).1] V fun r V' => (r = .returned (.bool true) ∧ J (pre ++ [e]) V' ∧ (Ow p q T tn tc t M mn mc m V → Ow p q T tn tc t M mn mc m V')) ∨ (r = .returned (.bool false) ∧ Jx (pre ++ [e]) V'))
    (W : World) (hW : Ow p q T tn tc t M mn mc m W) (h0 : J [] W) :
    CallsIn Fence.wide N Try.prog 48 #[.func (.yield l) #[] #[], .pointer (some ⟨p, 0, none⟩), .pointer (some ⟨q, 0, none⟩)] W fun e V => (∃ v, e = .returned v) ∧ ((∃ xs : List (Os t m mn), val xs = owL t m mn ∧ J xs V) ∨ (∃ pre : List (Os t m mn), val pre <+: owL t m mn ∧ Jx pre V)) := by
  have HJ := Lib.hid hJ
  have HLN := Lib.hid hW.may.len
  have b0 := hW.bm.cell 0 rfl
  have HW := Lib.hid hW
  clear hJ hW
  refine callsIn_of_wp Try.func48 rfl trivial ?_ rfl
  simp only [Try.ntmps48, List.size_toArray, List.length_cons, List.length_nil, Nat.reduceAdd, Nat.reduceSub, Array.replicate_succ, Array.replicate_zero, List.push_toArray, List.append_toArray, List.nil_append, List.cons_append]
  gi_wp2_with fail
  gi_loopw [10] (fun s wr => ∃ (pre : List (Os t m mn)) (k : Nat), s = .int .i64 k ∧ k ≤ mn ∧ pre.length ≤ k ∧ val pre = owL t m k ∧ Ow p q T tn tc t M mn mc m wr ∧ J pre wr) (fun s _ => mn - (intOf s).toNat)
  case atStart => exact ⟨[], 0, rfl, Nat.zero_le _, Nat.le_refl _, rfl, HW.out, h0⟩
  case round =>
    obtain ⟨pre, k, rfl, hk, hpl, hpt, hi, hj⟩ := hrel
    have HPL := Lib.hid hpl
    have HPT := Lib.hid hpt
    have HI := Lib.hid hi
    clear hpl hpt hi
    have hw1 : k < mn → IntKind.i64.wrap ((k : Int) + 1) = ((k + 1 : Nat) : Int) := fun h => by rw [IntWalk.i64_in _ (by omega)]; omega
    by_cases hlt : k < mn
    · replace hw1 := hw1 hlt
      obtain ⟨b, o, rfl, hb, hc⟩ := flag_at HI.out.may hlt
      obtain ⟨x, hx⟩ : ∃ x, isb m k = x := ⟨_, rfl⟩
      rw [hx] at hc
      have HS := Lib.hid (owL_succ t m k)
      rw [hx] at HS
      have hlt3 : (k : Int) < mn := by omega
      have hlt0 : (0 : Int) ≤ k := by omega
      cases x with
      | false =>
        have HN := Lib.hid (show val pre = owL t m (k + 1) from HPT.out.trans (HS.out.trans (if_neg (by decide))).symm)
        clear HS hx
        gi_wp2
        go_roundw
        case rel => exact ⟨pre, k + 1, rfl, by omega, by have := HPL.out; omega, HN.out, HI.out, hj⟩
        case measure => simp [intOf]; omega
      | true =>
        have HIN := Lib.hid (show tk t k ∈ owL t m mn from List.mem_map.2 ⟨k, List.mem_filter.2 ⟨List.mem_range.2 hlt, hx⟩, rfl⟩)
        have HYE := Lib.hid (fun V => hY pre ⟨tk t k, HIN.out⟩ V)
        have HN := Lib.hid (show val (pre ++ [(⟨tk t k, HIN.out⟩ : Os t m mn)]) = owL t m (k + 1) by rw [HS.out, if_pos rfl, ← HPT.out]; simp)
        have CA := Lib.hid (at_w T tn tc t k wr HI.out.tok (by omega) (by omega))
        have c1 := HI.out.bt.cell 0 rfl
        clear HS hx
        gi_wp2_with fail
        refine ⟨by first | trivial | decide, ?_⟩
        refine (callsIn_wide.2 CA.out).mono ?_
        rintro e V2 ⟨rfl, rfl⟩
        obtain ⟨fn, tmps, assign, body, hy, hR⟩ := HYE.out wr hj (by have := HPL.out; omega)
        have HHY := Lib.hid hy
        replace hy := HHY.out
        gi_wp2
        refine hR.mono ?_
        rintro e W3 (⟨rfl, hJ3, hk3⟩ | ⟨rfl, hJx3⟩)
        · have HK3 := Lib.hid (hk3 HI.out)
          clear hk3
          gi_wp2
          go_roundw
          case rel => exact ⟨_, k + 1, rfl, by omega, by have := HPL.out; simp; omega, HN.out, HK3.out, hJ3⟩
          case measure => simp [intOf]; omega
        · gi_wp2
          refine bodyPost_ret (results_none rfl _ _ _) rfl ?_
          refine ⟨⟨_, rfl⟩, .inr ⟨_, ?_, hJx3⟩⟩
          rw [HN.out]
          exact owL_pre t m mn (k + 1) (by omega)
    · obtain rfl : k = mn := by omega
      gi_wp2
      go_end0
      exact ⟨⟨_, rfl⟩, .inl ⟨pre, HPT.out, hj⟩⟩

theorem seq (N : Nat) (hN : 1 ≤ N) {p q : Nat} {T : Option Addr} {tn tc : Nat} {t : List Int} {M : Option Addr} {mn mc : Nat} {m : List Bool} (htn : tn ≤ 1000000) (hmn : mn ≤ 1000000) {w0 : World} (h0 : Ow p q T tn tc t M mn mc m w0) :
    SeqStopsK Fence.wide N Try.prog 48 #[.pointer (some ⟨p, 0, none⟩), .pointer (some ⟨q, 0, none⟩)] (fun e : Os t m mn => #[.int .u64 e.1]) (fun V V' => Ow p q T tn tc t M mn mc m V → Ow p q T tn tc t M mn mc m V') (fun xs => val xs = owL t m mn) (fun pre => val pre <+: owL t m mn) mn w0 :=
  fun l J Jx W hW hJ hJx hY hj => iter_in p q T tn tc t M mn mc m htn hmn N hN l J Jx (fun s V V' hs hb => hJ s V V' none hs (Kk.Bel.grownBy hb) (fun r e => by cases e)) hY W (h0.bel hW) hj
theorem owned_ (T : Option Addr) (tn tc : Nat) (t : List Int) (M : Option Addr) (mn mc : Nat) (m : List Bool) (w : World) (ht : Rw.RS uR w T tn tc t) (hm : Rw.RS bR w M mn mc m) : Calls Try.prog 39 #[.slice T tn tc, .slice M mn mc] w fun e w' => ∃ p q, e = .returned (.func (.func 48) #[] #[.pointer (some ⟨p, 0, none⟩), .pointer (some ⟨q, 0, none⟩)]) ∧ Bel w w' ∧ w.heap.size ≤ p ∧ w.heap.size ≤ q ∧ Ow p q T tn tc t M mn mc m w' := by
  obtain ⟨W, hW⟩ : ∃ W, (w.alloc (.cells #[.slice T tn tc] 22)).alloc (.cells #[.slice M mn mc] 23) = W := ⟨_, rfl⟩
  have BW := Lib.hid (show Bel w W by rw [← hW]; exact ((Bel.refl _).alloc _).alloc _)
  have P0 := Lib.hid (show Blk W w.heap.size #[.slice T tn tc] 22 by rw [← hW]; exact (Blk.new _ _ _).alloc _)
  have P1 := Lib.hid (show Blk W (w.heap.size + 1) #[.slice M mn mc] 23 by rw [← hW]; have h := Blk.new (w.alloc (.cells #[.slice T tn tc] 22)) #[.slice M mn mc] 23; simpa using h)
  have HO := Lib.hid (show Ow (w.heap.size + 1) w.heap.size T tn tc t M mn mc m W from ⟨P1.out, P0.out, ht.bel BW.out, hm.bel BW.out⟩)
  clear ht hm
  go_enter Try.func39, Try.ntmps39
  go_wp2
  try rw [hW]
  clear hW
  go_ret
  exact ⟨_, _, rfl, BW.out, by simp, by simp, HO.out⟩
/-- Between two rounds of Sum. -/
structure SuI (w : World) (g p q : Nat) (T : Option Addr) (tn tc : Nat) (t : List Int) (M : Option Addr) (mn mc : Nat) (m : List Bool) (pre : List (Os t m mn)) (V : World) : Prop where
  ow : Ow p q T tn tc t M mn mc m V
  bs : Blk V g #[.int .u64 (val pre).sum] 36
  le : (val pre).sum ≤ 18446744073709551615
  bel : Bel w V
structure SuX (w : World) (g : Nat) (t : List Int) (m : List Bool) (mn : Nat) (cd : Code) (pre : List (Os t m mn)) (V : World) : Prop where
  cd : cd = .ret
  bs : Blk V g #[.int .u64 18446744073709551615] 36
  gt : 18446744073709551615 < (val pre).sum
  bel : Bel w V
set_option maxRecDepth 100000 in
set_option maxHeartbeats 4000000 in
theorem sum_ (T : Option Addr) (tn tc : Nat) (t : List Int) (M : Option Addr) (mn mc : Nat) (m : List Bool) (w : World) (ht : Rw.RS uR w T tn tc t) (hm : Rw.RS bR w M mn mc m) (htn : tn ≤ 1000000) (hmn : mn ≤ 1000000) (hw : Wds t) :
    Calls Try.prog 23 #[.slice T tn tc, .slice M mn mc] w fun e w' => e = .returned (.int .u64 (su (owL t m mn))) ∧ Bel w w' := by
  obtain ⟨W, hW⟩ : ∃ W, w.alloc (.cells #[.int .u64 0] 36) = W := ⟨_, rfl⟩
  have BW := Lib.hid (show Bel w W by rw [← hW]; exact (Bel.refl _).alloc _)
  have P0 := Lib.hid (show Blk W w.heap.size #[.int .u64 0] 36 by rw [← hW]; exact Blk.new _ _ _)
  have CO := Lib.hid (owned_ T tn tc t M mn mc m W (ht.bel BW.out) (hm.bel BW.out))
  obtain ⟨RR, hRR⟩ : ∃ RR, su (owL t m mn) = RR := ⟨_, rfl⟩
  have HRR := Lib.hid hRR
  have HW := Lib.hid (owL_w hw (m := m) mn)
  rw [hRR]
  have HO1 := Lib.hid (old_ne ht (Nat.le_refl _))
  have HO2 := Lib.hid (old_ne hm (Nat.le_refl _))
  clear hRR ht hm hw
  refine callsIn_wide.1 (callsIn_of_wp_marks (F := Fence.wide) (n := 9) Try.func23 rfl trivial ?_ rfl)
  simp only [Try.ntmps23, List.size_toArray, List.length_cons, List.length_nil, Nat.reduceAdd, Nat.reduceSub, Array.replicate_succ, Array.replicate_zero, List.push_toArray, List.append_toArray, List.nil_append, List.cons_append]
  refine wpIn_wide.2 ?_
  go_upto_region 1 with fail
  try rw [hW]
  obtain ⟨g, hg⟩ : ∃ g, w.heap.size = g := ⟨_, rfl⟩
  have HGE := Lib.hid hg
  rw [hg] at P0 HO1 HO2 ⊢
  clear hg hW
  go_wp2_with fail
  refine CO.out.mono ?_
  rintro e W1 ⟨p, q, rfl, kb, hp, hq, ho⟩
  have BX := Lib.hid (BW.out.trans kb)
  have SEQ := Lib.hid (seq 8 (by decide) htn hmn ho)
  have HIO := Lib.hid (show SuI w g p q T tn tc t M mn mc m [] W1 from ⟨ho, P0.out.bel kb, by show ([] : List Int).sum ≤ _; decide, BX.out⟩)
  have HGW := Lib.hid (Below.size BX.out)
  clear kb hp hq ho P0 CO
  go_wp2_with fail
  refine (wpIn_wide (n := 9)).1 ?_
  refine wpIn_rangeFunc_ownH (α := Os t m mn) rfl (by decide) (gf := 48) (lb := #[.pointer (some ⟨p, 0, none⟩), .pointer (some ⟨q, 0, none⟩)]) rfl trivial (enters_of Try.func48 (by kernel_rfl) rfl)
    SEQ.out (fun h k x => k (h x)) (fun X l o o' _ ho hc _ h => h.grown (grownBy_putObj' X l o') (fun r e => by cases e; exact ⟨o, ho, hc⟩)) (Below.refl _ _) (fun _ => rfl)
    (fun pre V => SuI w g p q T tn tc t M mn mc m pre V) (fun cd pre V => SuX w g t m mn cd pre V)
    (fun s X X' row h hg hr => ⟨h.ow.grown hg (fun r e => (hr r e).2), Rw.blk_grown h.bs hg (fun r e => (hr r e).2), h.le, Kk.Bel.grown h.bel hg (fun k e => Nat.le_trans HGW.out (hr k e).1)⟩)
    (fun cd s X X' row h hg hr => ⟨h.cd, Rw.blk_grown h.bs hg (fun r e => (hr r e).2), h.gt, Kk.Bel.grown h.bel hg (fun k e => Nat.le_trans HGW.out (hr k e).1)⟩)
    HIO.out
    (fun e a' X => a' = { tmps := #[.slice T tn tc, .slice M mn mc, undef, undef, .pointer (some ⟨g, 0, none⟩), .int .u64 e.1, undef, .slice T tn tc, .slice M mn mc, .func (.func 48) #[] #[.pointer (some ⟨p, 0, none⟩), .pointer (some ⟨q, 0, none⟩)], .int .u64 e.1, undef, undef, undef, undef, undef, undef, undef, undef, undef], defers := [] })
    (fun e a' _ X X' row h hg hr => h)
    ?assign ?body ?done ?stop
  case assign =>
    rintro l pre ⟨x, hx⟩ X K hI hK
    have HK := Lib.hid (hK { tmps := #[.slice T tn tc, .slice M mn mc, undef, undef, .pointer (some ⟨g, 0, none⟩), .int .u64 x, undef, .slice T tn tc, .slice M mn mc, .func (.func 48) #[] #[.pointer (some ⟨p, 0, none⟩), .pointer (some ⟨q, 0, none⟩)], .int .u64 x, undef, undef, undef, undef, undef, undef, undef, undef, undef], defers := [] } X ((KeepsOthers.refl X).from _) (fun h => h) hI rfl)
    show Code.wpIn _ _ _ _ _ { tmps := ((#[10] : Array Tmp).zip #[Value.int .u64 x]).foldl _ _, defers := [] } X
    clear hK
    gi_wp2
    exact HK.out
  case body =>
    rintro l pre ⟨x, hx⟩ a' X hl hex hI rfl hlen
    have hxb := HW.out x hx
    obtain ⟨s, hs⟩ : ∃ s, (val pre).sum = s := ⟨_, rfl⟩
    have h0 : 0 ≤ s := by
      rw [← hs]
      refine sum_nonneg fun y hy => ?_
      obtain ⟨e, _, rfl⟩ := List.mem_map.1 hy
      exact (HW.out _ e.2).1
    have hle := hI.le
    have hbs := hI.bs
    rw [hs] at hle hbs
    have HNX := Lib.hid (show (val (pre ++ [(⟨x, hx⟩ : Os t m mn)])).sum = s + x by rw [← hs]; simp)
    have HII := Lib.hid hI
    have HBS := Lib.hid hbs
    have c0 := hbs.cell 0 rfl
    have fz := hbs.frozen 0
    have HA := add64_0 s x h0 hxb.1
    have HX := Lib.hid hx
    have hne1 : g ≠ p := fun e => absurd (Rw.blk_ty hbs (e ▸ hI.ow.bm)) (by decide)
    have hne2 : g ≠ q := fun e => absurd (Rw.blk_ty hbs (e ▸ hI.ow.bt)) (by decide)
    clear hI hbs hlen hs
    show Code.wpIn _ _ _ _ _ { tmps := #[.slice T tn tc, .slice M mn mc, undef, undef, .pointer (some ⟨g, 0, none⟩), .int .u64 x, undef, .slice T tn tc, .slice M mn mc, .func (.func 48) #[] #[.pointer (some ⟨p, 0, none⟩), .pointer (some ⟨q, 0, none⟩)], .int .u64 x, undef, undef, undef, undef, undef, undef, undef, undef, undef], defers := [] } X
    by_cases hov : s + x ≤ 18446744073709551615
    · have hlo : lo (s + x) = s + x := by unfold lo; omega
      have hhi : hi (s + x) = 0 := by unfold hi; omega
      rw [hlo, hhi] at HA
      have HF := Lib.hid (show KeepsFrom W1.heap.size X (X.setCell ⟨g, 0, none⟩ (.int .u64 (s + x))) ∧ (Ow p q T tn tc t M mn mc m X → Ow p q T tn tc t M mn mc m (X.setCell ⟨g, 0, none⟩ (.int .u64 (s + x)))) ∧ SuI w g p q T tn tc t M mn mc m (pre ++ [⟨x, hx⟩]) (X.setCell ⟨g, 0, none⟩ (.int .u64 (s + x))) from
        ⟨(KeepsOthers.setCell _ _ _).from _, fun h => h.set hne1 hne2 HO1.out HO2.out, HII.out.ow.set hne1 hne2 HO1.out HO2.out, by rw [HNX.out]; exact HBS.out.set 0 _, by rw [HNX.out]; exact hov, HII.out.bel.set (p := ⟨g, 0, none⟩) (by have := HGE.out; show w.heap.size ≤ g; omega) _⟩)
      clear HNX HII
      gi_wp2_with fail
      refine ⟨by first | trivial | decide, ?_⟩
      gi_wp2_with fail
      exact HF.out
    · have hhi : hi (s + x) = 1 := by unfold hi; omega
      obtain ⟨y, hy⟩ : ∃ y, lo (s + x) = y := ⟨_, rfl⟩
      rw [hhi, hy] at HA
      have HB2 := HBS.out.set 0 (.int .u64 y)
      have c2 := HB2.cell 0 (v := .int .u64 y) rfl
      have f2 := HB2.frozen 0
      have HF := Lib.hid (show KeepsFrom W1.heap.size X ((X.setCell ⟨g, 0, none⟩ (.int .u64 y)).setCell ⟨g, 0, none⟩ (.int .u64 18446744073709551615)) ∧ SuX w g t m mn .ret (pre ++ [⟨x, hx⟩]) ((X.setCell ⟨g, 0, none⟩ (.int .u64 y)).setCell ⟨g, 0, none⟩ (.int .u64 18446744073709551615)) from
        ⟨((KeepsOthers.setCell _ _ _).trans (KeepsOthers.setCell _ _ _)).from _, rfl, HB2.set 0 _, by rw [HNX.out]; omega, (HII.out.bel.set (p := ⟨g, 0, none⟩) (by have := HGE.out; show w.heap.size ≤ g; omega) _).set (p := ⟨g, 0, none⟩) (by have := HGE.out; show w.heap.size ≤ g; omega) _⟩)
      clear HNX HII HB2 hhi hy
      gi_wp2_with fail
      refine ⟨by first | trivial | decide, ?_⟩
      gi_wp2_with fail
      exact HF.out
  case done =>
    rintro D xs X hD hxs hI hK
    have hcu := hI.bs
    have hle := hI.le
    rw [hxs] at hcu hle
    have HR2 := Lib.hid (HRR.out.symm.trans (su_ok hle))
    rw [← HR2.out] at hcu
    have HCU := Lib.hid hcu
    have HBE := Lib.hid hI.bel
    have s0 := hcu.cell 0 rfl
    have sf := hcu.frozen 0
    have HK2 := Lib.hid (show (X.setCell ⟨g, 0, none⟩ (.int .u64 RR)).heap[D]? = some (.deferred (some [])) from (KeepsOthers.setCell X ⟨g, 0, none⟩ (.int .u64 RR)).same D _ hK rfl)
    clear hI hK hcu hle hxs
    go_wp2_with fail
    refine ⟨by simp, .inl ⟨_, _, rfl, run_takeDeferred HK2.out, ?_⟩⟩
    have hB3 := Rw.blk_grown (HCU.out.set 0 (.int .u64 RR)) (grownBy_putObj' _ D (.deferred none)) (fun r e => by cases e; exact ⟨_, HK2.out, rfl⟩)
    have hc2 := hB3.cell 0 rfl
    exact ⟨.int .u64 RR, by simp [results, Try.results23, go_sem, hc2], rfl, Kk.Bel.grown (HBE.out.set (p := ⟨g, 0, none⟩) (by have := HGE.out; show w.heap.size ≤ g; omega) _) (grownBy_putObj' _ D _) (fun k e => by cases e; have := HGW.out; omega)⟩
  case stop =>
    rintro D cd pre X hD hpre ⟨rfl, hbs, hgt, hbel⟩ hK
    obtain rfl : RR = 18446744073709551615 := HRR.out.symm.trans (su_stop (fun x hx => (HW.out x hx).1) hpre hgt)
    have HK2 := Lib.hid hK
    have HBK := Lib.hid hbs
    have HBE := Lib.hid hbel
    clear hpre hgt hbs hbel hK
    gi_wp2_with fail
    refine ⟨by simp, .inl ⟨_, _, rfl, run_takeDeferred HK2.out, ?_⟩⟩
    have hB2 := Rw.blk_grown HBK.out (grownBy_putObj' X D (.deferred none)) (fun r e => by cases e; exact ⟨_, HK2.out, rfl⟩)
    have hc2 := hB2.cell 0 rfl
    exact ⟨.int .u64 18446744073709551615, by simp [results, Try.results23, go_sem, hc2], rfl, Kk.Bel.grown HBE.out (grownBy_putObj' _ D _) (fun k e => by cases e; have := HGW.out; omega)⟩
end Ac
end Go.Proofs.Ytmbodfmdaocppaa
