/-
  What active.Floor and Quorum answer. Conditions: at most a million elements; tokens are words.
-/
import Derived.Test.YtmbodfmdaocppaaAc6
import Derived.Test.YtmbodfmdaocppaaDiv
namespace Go.Proofs.Ytmbodfmdaocppaa
open Go.RowKit Go.Shelf
set_option linter.unusedVariables false
set_option linter.unusedSimpArgs false
attribute [local go_sem] Oper.semAt_some
namespace Ac
open Kk Pm Ro

/-- Between two rounds of Floor. -/
structure FlI (w : World) (g p q : Nat) (T : Option Addr) (tn tc : Nat) (t : List Int) (M : Option Addr) (mn mc : Nat) (m : List Bool) (pre : List (Os t m mn)) (V : World) : Prop where
  ow : Ow p q T tn tc t M mn mc m V
  bs : Blk V g #[.int .u64 (flo (val pre)).1] 36
  bb : Blk V (g + 1) #[.bool (flo (val pre)).2] 4
  bel : Bel w V
set_option maxRecDepth 100000 in
set_option maxHeartbeats 4000000 in
theorem floor_ (T : Option Addr) (tn tc : Nat) (t : List Int) (M : Option Addr) (mn mc : Nat) (m : List Bool) (w : World) (ht : Rw.RS uR w T tn tc t) (hm : Rw.RS bR w M mn mc m) (htn : tn ≤ 1000000) (hmn : mn ≤ 1000000) (hw : Wds t) :
    Calls Try.prog 22 #[.slice T tn tc, .slice M mn mc] w fun e w' => e = .returned (.tuple #[.int .u64 (flo (owL t m mn)).1, .bool (flo (owL t m mn)).2]) ∧ Bel w w' := by
  obtain ⟨W, hW⟩ : ∃ W, (w.alloc (.cells #[.int .u64 0] 36)).alloc (.cells #[.bool false] 4) = W := ⟨_, rfl⟩
  have BW := Lib.hid (show Bel w W by rw [← hW]; exact ((Bel.refl _).alloc _).alloc _)
  have P0 := Lib.hid (show Blk W w.heap.size #[.int .u64 0] 36 by rw [← hW]; exact (Blk.new _ _ _).alloc _)
  have P1 := Lib.hid (show Blk W (w.heap.size + 1) #[.bool false] 4 by rw [← hW]; have h := Blk.new (w.alloc (.cells #[.int .u64 0] 36)) #[.bool false] 4; simpa using h)
  have CO := Lib.hid (owned_ T tn tc t M mn mc m W (ht.bel BW.out) (hm.bel BW.out))
  obtain ⟨R1, hR1⟩ : ∃ R1, (flo (owL t m mn)).1 = R1 := ⟨_, rfl⟩
  obtain ⟨R2, hR2⟩ : ∃ R2, (flo (owL t m mn)).2 = R2 := ⟨_, rfl⟩
  have HR1 := Lib.hid hR1
  have HR2 := Lib.hid hR2
  have HW := Lib.hid (owL_w hw (m := m) mn)
  rw [hR1, hR2]
  have HO1 := Lib.hid (old_ne ht (Nat.le_refl _))
  have HO2 := Lib.hid (old_ne hm (Nat.le_refl _))
  have HO3 := Lib.hid (old_ne ht (Nat.le_succ _))
  have HO4 := Lib.hid (old_ne hm (Nat.le_succ _))
  clear hR1 hR2 ht hm hw
  refine callsIn_wide.1 (callsIn_of_wp_marks (F := Fence.wide) (n := 9) Try.func22 rfl trivial ?_ rfl)
  simp only [Try.ntmps22, List.size_toArray, List.length_cons, List.length_nil, Nat.reduceAdd, Nat.reduceSub, Array.replicate_succ, Array.replicate_zero, List.push_toArray, List.append_toArray, List.nil_append, List.cons_append]
  refine wpIn_wide.2 ?_
  go_upto_region 1 with fail
  try rw [hW]
  obtain ⟨g, hg⟩ : ∃ g, w.heap.size = g := ⟨_, rfl⟩
  have HGE := Lib.hid hg
  rw [hg] at P0 P1 HO1 HO2 ⊢
  rw [Nat.succ_eq_add_one, hg] at HO3 HO4
  clear hg hW
  go_wp2_with fail
  refine CO.out.mono ?_
  rintro e W1 ⟨p, q, rfl, kb, hp, hq, ho⟩
  have BX := Lib.hid (BW.out.trans kb)
  have SEQ := Lib.hid (seq 8 (by decide) htn hmn ho)
  have HIO := Lib.hid (show FlI w g p q T tn tc t M mn mc m [] W1 from ⟨ho, P0.out.bel kb, P1.out.bel kb, BX.out⟩)
  have HGW := Lib.hid (Below.size BX.out)
  clear kb hp hq ho P0 P1 CO
  go_wp2_with fail
  refine (wpIn_wide (n := 9)).1 ?_
  refine wpIn_rangeFunc_ownH (α := Os t m mn) rfl (by decide) (gf := 48) (lb := #[.pointer (some ⟨p, 0, none⟩), .pointer (some ⟨q, 0, none⟩)]) rfl trivial (enters_of Try.func48 (by kernel_rfl) rfl)
    SEQ.out (fun h k x => k (h x)) (fun X l o o' _ ho hc _ h => h.grown (grownBy_putObj' X l o') (fun r e => by cases e; exact ⟨o, ho, hc⟩)) (Below.refl _ _) (fun _ => rfl)
    (fun pre V => FlI w g p q T tn tc t M mn mc m pre V) (fun cd pre V => False)
    (fun s X X' row h hg hr => ⟨h.ow.grown hg (fun r e => (hr r e).2), Rw.blk_grown h.bs hg (fun r e => (hr r e).2), Rw.blk_grown h.bb hg (fun r e => (hr r e).2), Kk.Bel.grown h.bel hg (fun k e => Nat.le_trans HGW.out (hr k e).1)⟩)
    (fun cd s X X' row h hg hr => h)
    HIO.out
    (fun e a' X => a' = { tmps := #[.slice T tn tc, .slice M mn mc, undef, undef, .pointer (some ⟨g, 0, none⟩), .pointer (some ⟨g + 1, 0, none⟩), .int .u64 e.1, .slice T tn tc, .slice M mn mc, .func (.func 48) #[] #[.pointer (some ⟨p, 0, none⟩), .pointer (some ⟨q, 0, none⟩)], .int .u64 e.1, undef, undef, undef, undef, undef, undef, undef, undef, undef, undef], defers := [] })
    (fun e a' _ X X' row h hg hr => h)
    ?assign ?body ?done ?stop
  case assign =>
    rintro l pre ⟨x, hx⟩ X K hI hK
    have HK := Lib.hid (hK { tmps := #[.slice T tn tc, .slice M mn mc, undef, undef, .pointer (some ⟨g, 0, none⟩), .pointer (some ⟨g + 1, 0, none⟩), .int .u64 x, .slice T tn tc, .slice M mn mc, .func (.func 48) #[] #[.pointer (some ⟨p, 0, none⟩), .pointer (some ⟨q, 0, none⟩)], .int .u64 x, undef, undef, undef, undef, undef, undef, undef, undef, undef, undef], defers := [] } X ((KeepsOthers.refl X).from _) (fun h => h) hI rfl)
    show Code.wpIn _ _ _ _ _ { tmps := ((#[10] : Array Tmp).zip #[Value.int .u64 x]).foldl _ _, defers := [] } X
    clear hK
    gi_wp2
    exact HK.out
  case body =>
    rintro l pre ⟨x, hx⟩ a' X hl hex hI rfl hlen
    obtain ⟨s, hs⟩ : ∃ s, (flo (val pre)).1 = s := ⟨_, rfl⟩
    obtain ⟨z, hz⟩ : ∃ z, (flo (val pre)).2 = z := ⟨_, rfl⟩
    have hbs := hI.bs
    have hbb := hI.bb
    rw [hs] at hbs
    rw [hz] at hbb
    have HNX := Lib.hid (show flo (val (pre ++ [(⟨x, hx⟩ : Os t m mn)])) = if z = false ∨ x < s then (x, true) else (s, z) by
      rw [show val (pre ++ [(⟨x, hx⟩ : Os t m mn)]) = val pre ++ [x] by simp, foldl_snoc]
      unfold flS
      rw [hs, hz]
      split
      · rfl
      · rw [← hs, ← hz])
    have HII := Lib.hid hI
    have HBS := Lib.hid hbs
    have HBB := Lib.hid hbb
    have c0 := hbs.cell 0 rfl
    have fz := hbs.frozen 0
    have d0 := hbb.cell 0 rfl
    have HX := Lib.hid hx
    have hne1 : g ≠ p := fun e => absurd (Rw.blk_ty hbs (e ▸ hI.ow.bm)) (by decide)
    have hne2 : g ≠ q := fun e => absurd (Rw.blk_ty hbs (e ▸ hI.ow.bt)) (by decide)
    have hne3 : g + 1 ≠ p := fun e => absurd (Rw.blk_ty hbb (e ▸ hI.ow.bm)) (by decide)
    have hne4 : g + 1 ≠ q := fun e => absurd (Rw.blk_ty hbb (e ▸ hI.ow.bt)) (by decide)
    have HB3 := hbb.other (b' := g) (by omega) 0 (.int .u64 x)
    have f2 := HB3.frozen 0
    have d2 := HB3.cell 0 rfl
    have HB4 := ((hbs.set 0 (.int .u64 x)).other (b' := g + 1) (by omega) 0 (.bool true))
    have HYES := Lib.hid (fun h : z = false ∨ x < s => (show KeepsFrom W1.heap.size X ((X.setCell ⟨g, 0, none⟩ (.int .u64 x)).setCell ⟨g + 1, 0, none⟩ (.bool true)) ∧ (Ow p q T tn tc t M mn mc m X → Ow p q T tn tc t M mn mc m ((X.setCell ⟨g, 0, none⟩ (.int .u64 x)).setCell ⟨g + 1, 0, none⟩ (.bool true))) ∧ FlI w g p q T tn tc t M mn mc m (pre ++ [⟨x, hx⟩]) ((X.setCell ⟨g, 0, none⟩ (.int .u64 x)).setCell ⟨g + 1, 0, none⟩ (.bool true)) from
        ⟨((KeepsOthers.setCell _ _ _).trans (KeepsOthers.setCell _ _ _)).from _, fun h => (h.set hne1 hne2 HO1.out HO2.out).set hne3 hne4 HO3.out HO4.out, (HII.out.ow.set hne1 hne2 HO1.out HO2.out).set hne3 hne4 HO3.out HO4.out, by rw [HNX.out, if_pos h]; exact HB4, by rw [HNX.out, if_pos h]; exact HB3.set 0 _, (HII.out.bel.set (p := ⟨g, 0, none⟩) (by have := HGE.out; show w.heap.size ≤ g; omega) _).set (p := ⟨g + 1, 0, none⟩) (by have := HGE.out; show w.heap.size ≤ g + 1; omega) _⟩))
    have HNO := Lib.hid (fun h : ¬ (z = false ∨ x < s) => (show KeepsFrom W1.heap.size X X ∧ (Ow p q T tn tc t M mn mc m X → Ow p q T tn tc t M mn mc m X) ∧ FlI w g p q T tn tc t M mn mc m (pre ++ [⟨x, hx⟩]) X from
        ⟨(KeepsOthers.refl X).from _, fun h => h, HII.out.ow, by rw [HNX.out, if_neg h]; exact HBS.out, by rw [HNX.out, if_neg h]; exact HBB.out, HII.out.bel⟩))
    clear hI hbs hlen hs hbb hz HB4 HB3 hne1 hne2 hne3 hne4 HNX HII
    show Code.wpIn _ _ _ _ _ { tmps := #[.slice T tn tc, .slice M mn mc, undef, undef, .pointer (some ⟨g, 0, none⟩), .pointer (some ⟨g + 1, 0, none⟩), .int .u64 x, .slice T tn tc, .slice M mn mc, .func (.func 48) #[] #[.pointer (some ⟨p, 0, none⟩), .pointer (some ⟨q, 0, none⟩)], .int .u64 x, undef, undef, undef, undef, undef, undef, undef, undef, undef, undef], defers := [] } X
    cases z with
    | false =>
      have HF := Lib.hid (HYES.out (.inl rfl))
      clear HYES HNO
      gi_wp2_with fail
      exact HF.out
    | true =>
      by_cases hlt : x < s
      · have HF := Lib.hid (HYES.out (.inr hlt))
        clear HYES HNO
        gi_wp2_with fail
        exact HF.out
      · have HF := Lib.hid (HNO.out (by simp [hlt]))
        clear HYES HNO
        gi_wp2_with fail
        exact HF.out
  case done =>
    rintro D xs X hD hxs hI hK
    have hcu := hI.bs
    have hcb := hI.bb
    rw [hxs, HR1.out] at hcu
    rw [hxs, HR2.out] at hcb
    have HCU := Lib.hid hcu
    have HCB := Lib.hid hcb
    have HBE := Lib.hid hI.bel
    have s0 := hcu.cell 0 rfl
    have sf := hcu.frozen 0
    have t0 := hcb.cell 0 rfl
    have tf := hcb.frozen 0
    have HK0 := Lib.hid hK
    clear hI hK hcu hcb hxs
    go_wp2_with fail
    have e1 := (HCB.out.other (b' := g) (by omega) 0 (.int .u64 R1)).cell 0 rfl
    have e2 := (HCB.out.other (b' := g) (by omega) 0 (.int .u64 R1)).frozen 0
    go_region
    have HK2 := Lib.hid (show (((X.setCell ⟨g, 0, none⟩ (.int .u64 R1)).setCell ⟨g + 1, 0, none⟩ (.bool R2)).drew).heap[D]? = some (.deferred (some [])) from (KeepsOthers.setCell _ _ _).same D _ ((KeepsOthers.setCell X ⟨g, 0, none⟩ (.int .u64 R1)).same D _ HK0.out rfl) rfl)
    have HB3 := Lib.hid (show Blk (((X.setCell ⟨g, 0, none⟩ (.int .u64 R1)).setCell ⟨g + 1, 0, none⟩ (.bool R2)).drew) g #[.int .u64 R1] 36 from ((HCU.out.set 0 (.int .u64 R1)).other (b' := g + 1) (by omega) 0 (.bool R2)).bel ((Bel.refl _).drew))
    have HB4 := Lib.hid (show Blk (((X.setCell ⟨g, 0, none⟩ (.int .u64 R1)).setCell ⟨g + 1, 0, none⟩ (.bool R2)).drew) (g + 1) #[.bool R2] 4 from ((HCB.out.other (b' := g) (by omega) 0 (.int .u64 R1)).set 0 (.bool R2)).bel ((Bel.refl _).drew))
    have HBB := Lib.hid (show Bel w (((X.setCell ⟨g, 0, none⟩ (.int .u64 R1)).setCell ⟨g + 1, 0, none⟩ (.bool R2)).drew) from ((HBE.out.set (p := ⟨g, 0, none⟩) (by have := HGE.out; show w.heap.size ≤ g; omega) _).set (p := ⟨g + 1, 0, none⟩) (by have := HGE.out; show w.heap.size ≤ g + 1; omega) _).drew)
    obtain ⟨Y, hY⟩ : ∃ Y, (((X.setCell ⟨g, 0, none⟩ (.int .u64 R1)).setCell ⟨g + 1, 0, none⟩ (.bool R2)).drew) = Y := ⟨_, rfl⟩
    rw [hY] at HK2 HB3 HB4 HBB ⊢
    clear hY
    go_wp2_with fail
    refine ⟨by simp, .inl ⟨_, _, rfl, run_takeDeferred HK2.out, ?_⟩⟩
    have hB3 := Rw.blk_grown HB3.out (grownBy_putObj' _ D (.deferred none)) (fun r e => by cases e; exact ⟨_, HK2.out, rfl⟩)
    have hB4 := Rw.blk_grown HB4.out (grownBy_putObj' _ D (.deferred none)) (fun r e => by cases e; exact ⟨_, HK2.out, rfl⟩)
    have hc3 := hB3.cell 0 rfl
    have hc4 := hB4.cell 0 rfl
    exact ⟨.tuple #[.int .u64 R1, .bool R2], by simp [results, Try.results22, go_sem, hc3, hc4], rfl, Kk.Bel.grown HBB.out (grownBy_putObj' _ D _) (fun k e => by cases e; have := HGW.out; omega)⟩
  case stop =>
    rintro D cd pre X hD hpre hF hK
    exact hF.elim

/-- Quorum. -/
def quo (s : Int) : Int := 2 * s / 3 + 1
set_option maxRecDepth 100000 in
set_option maxHeartbeats 2000000 in
theorem quorum_ (s : Int) (w : World) (h0 : 0 ≤ s) (h1 : s ≤ 18446744073709551615) : Calls Try.prog 24 #[.int .u64 s] w fun e w' => e = .returned (.int .u64 (quo s)) ∧ Bel w w' := by
  obtain ⟨n, rfl⟩ := Int.eq_ofNat_of_zero_le h0
  have HA := add64_0 (n : Int) n h0 h0
  obtain ⟨hh, hhe⟩ : ∃ hh : Nat, hi ((n : Int) + n) = hh := ⟨((n + n) / 18446744073709551616), by unfold hi; omega⟩
  obtain ⟨ll, hle⟩ : ∃ ll : Nat, lo ((n : Int) + n) = ll := ⟨((n + n) % 18446744073709551616), by unfold lo; omega⟩
  rw [hhe, hle] at HA
  have hb : hh ≤ 1 := by unfold hi at hhe; omega
  have hl : ll < 18446744073709551616 := by unfold lo at hle; omega
  have hs : hh * 18446744073709551616 + ll = n + n := by unfold hi at hhe; unfold lo at hle; omega
  have HD := Lib.hid (fun V => Div64.any hh ll 3 V (by omega) (by omega) hl)
  rw [hs] at HD
  obtain ⟨q, hq⟩ : ∃ q, (n + n) / 3 = q := ⟨_, rfl⟩
  obtain ⟨r, hr⟩ : ∃ r, (n + n) % 3 = r := ⟨_, rfl⟩
  rw [hq, hr] at HD
  have hw1 : IntKind.u64.wrap ((q : Int) + 1) = ((q : Int) + 1) := IntWalk.u64_in _ (by omega)
  have HQ := Lib.hid (show quo (n : Int) = (q : Int) + 1 by unfold quo; omega)
  rw [HQ.out]
  clear hhe hle hs hq hr
  go_enter Try.func24, Try.ntmps24
  go_wp2_with fail
  refine (HD.out _).mono ?_
  rintro e w2 ⟨rfl, k, rfl⟩
  go_wp2_with fail
  go_ret
  exact ⟨rfl, (Bel.refl _).drewN k⟩
end Ac
end Go.Proofs.Ytmbodfmdaocppaa
