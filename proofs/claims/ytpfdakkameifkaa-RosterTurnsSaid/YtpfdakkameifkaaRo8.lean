/-
  What roster.hold, the changes of Jail, Unjail, Punish, and changed answer of any list. Conditions: at most a million validators; operators are ints.
-/
import Derived.Test.YtpfdakkameifkaaRo7
import Derived.BigQuiet
namespace Go.Proofs.Ytpfdakkameifkaa
open Go.RowKit Go.Shelf
set_option linter.unusedVariables false
set_option linter.unusedSimpArgs false
namespace Ro
open Kk Pm

theorem bel_drewN (w : World) (n : Nat) : Bel w (w.drewN n) := ⟨rfl, rfl, rfl, Nat.le_refl _, fun _ _ => rfl⟩
theorem rb_cells {w : World} {g cap k : Nat} {l : List V6} {r1 r2 r3 r4 : Int} {r5 r6 : Bool} (h : Rw.RB vR 66 w g l cap) (hr : l[k]? = some (r1, r2, r3, r4, r5, r6)) :
    w.cell? ⟨g, k * 6, none⟩ = some (.int .i64 r1) ∧ w.cell? ⟨g, k * 6 + 1, none⟩ = some (.int .u64 r2) ∧ w.cell? ⟨g, k * 6 + 2, none⟩ = some (.int .i64 r3) ∧ w.cell? ⟨g, k * 6 + 3, none⟩ = some (.int .i64 r4) ∧ w.cell? ⟨g, k * 6 + 4, none⟩ = some (.bool r5) ∧ w.cell? ⟨g, k * 6 + 5, none⟩ = some (.bool r6) := by
  obtain ⟨b, o, e, _, hc⟩ := h.rs.at (List.getElem?_eq_some_iff.1 hr).1 hr
  injection e with e
  injection e with e1 e2
  subst e1 e2
  have := rng6 (show w.rangeAt g (0 + k * 6) [.int .i64 r1, .int .u64 r2, .int .i64 r3, .int .i64 r4, .bool r5, .bool r6] from hc)
  rw [Nat.zero_add] at this
  exact this
/-- A validator held: a status until a height. -/
def hldF (s tl : Int) : V6 → V6
  | (o, m, _, u, a, p) => (o, m, s, max u tl, a, p)
set_option maxRecDepth 10000 in
set_option maxHeartbeats 1000000 in
theorem hold (g cap k : Nat) (l : List V6) (r1 r2 r3 r4 : Int) (r5 r6 : Bool) (s tl : Int) (V : World) (h : Rw.RB vR 66 V g l cap) (hr : l[k]? = some (r1, r2, r3, r4, r5, r6)) :
    Calls Try.prog 65 #[.pointer (some ⟨g, k * 6, none⟩), .int .i64 s, .int .i64 tl] V fun e V' => e = .returned (.int .i64 (if untB tl = false then 3 else 0)) ∧ Kep (fun b => b = g) V V' ∧ (untB tl = true → Rw.RB vR 66 V' g (l.set k (r1, r2, s, max r4 tl, r5, r6)) cap) := by
  obtain ⟨c0, c1, c2, c3, c4, c5⟩ := rb_cells h hr
  have IU := isUntil tl V
  have f2 := h.frozen (k * 6 + 2)
  have f3 := h.frozen (k * 6 + 3)
  have S1 : Rw.RB vR 66 (V.setCell ⟨g, k * 6 + 2, none⟩ (.int .i64 s)) g (l.set k (r1, r2, s, r4, r5, r6)) cap := h.set (o := 2) (by decide) hr rfl
  have S2 : Rw.RB vR 66 ((V.setCell ⟨g, k * 6 + 2, none⟩ (.int .i64 s)).setCell ⟨g, k * 6 + 3, none⟩ (.int .i64 (max r4 tl))) g ((l.set k (r1, r2, s, r4, r5, r6)).set k (r1, r2, s, max r4 tl, r5, r6)) cap := S1.set (o := 3) (r := (r1, r2, s, r4, r5, r6)) (by decide) (by rw [List.getElem?_set_self (List.getElem?_eq_some_iff.1 hr).1]) rfl
  rw [List.set_set] at S2
  have HS2 := Lib.hid S2
  have HK2 := Lib.hid (show Kep (fun b => b = g) V ((V.setCell ⟨g, k * 6 + 2, none⟩ (.int .i64 s)).setCell ⟨g, k * 6 + 3, none⟩ (.int .i64 (max r4 tl))) from Kep.set_self (Kep.set_self (Kep.refl _ _) _ _) _ _)
  clear h hr S1 S2
  cases hu : untB tl
  · rw [hu] at IU
    have H : Calls Try.prog 65 #[.pointer (some ⟨g, k * 6, none⟩), .int .i64 s, .int .i64 tl] V fun e V' => e = .returned (.int .i64 3) ∧ V = V' := by
      clear hu HS2 HK2
      go_enter Try.func65, Try.ntmps65
      go_wp2_with fail
      refine IU.mono ?_
      rintro e w1 ⟨rfl, rfl⟩
      go_wp2_with fail
      go_ret
      exact ⟨rfl, rfl⟩
    refine H.mono ?_
    rintro e V' ⟨rfl, rfl⟩
    exact ⟨rfl, Kep.refl _ _, fun h => by cases h⟩
  · rw [hu] at IU
    have H : Calls Try.prog 65 #[.pointer (some ⟨g, k * 6, none⟩), .int .i64 s, .int .i64 tl] V fun e V' => e = .returned (.int .i64 0) ∧ Kep (fun b => b = g) V V' ∧ Rw.RB vR 66 V' g (l.set k (r1, r2, s, max r4 tl, r5, r6)) cap := by
      clear hu
      go_enter Try.func65, Try.ntmps65
      go_wp2_with fail
      refine IU.mono ?_
      rintro e w1 ⟨rfl, rfl⟩
      go_wp2_with fail
      · have e : max r4 tl = tl := by omega
        have h2 := HK2.out
        have h3 := HS2.out
        rw [e] at h2 h3
        go_ret
        refine ⟨rfl, h2, ?_⟩
        rw [e]
        exact h3
      · have e : max r4 tl = r4 := by omega
        have h2 := HK2.out
        have h3 := HS2.out
        rw [e] at h2 h3
        go_ret
        refine ⟨rfl, h2, ?_⟩
        rw [e]
        exact h3
    refine H.mono ?_
    rintro e V' ⟨rfl, h2, h3⟩
    exact ⟨rfl, h2, fun _ => h3⟩
/-- A function value that changes a validator. -/
def Cl (w : World) (l : List V6) (F : Nat) (lb : Array Value) (e : V6 → Int) (f : V6 → V6) : Prop :=
  ∀ (V : World) (g cap k : Nat) (r : V6), Bel w V → w.heap.size ≤ g → Rw.RB vR 66 V g l cap → l[k]? = some r → Calls Try.prog F (#[.pointer (some ⟨g, k * 6, none⟩)] ++ lb) V fun x V' => x = .returned (.int .i64 (e r)) ∧ Kep (fun b => b = g) V V' ∧ (e r = 0 → Rw.RB vR 66 V' g (l.set k (f r)) cap)
/-- What a change tells. -/
def CgR (w w' : World) (l : List V6) (v E : Int) (f : V6 → V6) (e : Ending) : Prop :=
  ∃ x, e = .returned (.tuple #[x, .int .i64 E]) ∧ OwnV w' w.heap.size x (upd l v E f) ∧ Bel w w'
theorem cgR_no {w w' : World} {l : List V6} {v E : Int} {f : V6 → V6} (hb : Bel w w') (hx : E ≠ 0) : CgR w w' l v E f (.returned (.tuple #[.slice none 0 0, .int .i64 E])) := by
  refine ⟨.slice none 0 0, rfl, ?_, hb⟩
  unfold upd; rw [if_neg hx]; exact Rw.OwnR.nil_ _ _ _ _
theorem nth_some {l : List V6} {k : Nat} {r : V6} (h : l[k]? = some r) : nth l k = some r := by
  unfold nth; rw [if_pos (by omega), Int.toNat_natCast, h]
theorem nth_none {l : List V6} {v : Int} (h : v < 0 ∨ (l.length : Int) ≤ v) : nth l v = none := by
  unfold nth
  by_cases h0 : 0 ≤ v
  · rw [if_pos h0, List.getElem?_eq_none (by omega)]
  · rw [if_neg h0]
theorem upd_at {l : List V6} {k : Nat} {r : V6} (h : l[k]? = some r) (f : V6 → V6) : upd l k 0 f = l.set k (f r) := by
  unfold upd; rw [if_pos rfl, nth_some h, Int.toNat_natCast]
theorem upd_len {l : List V6} {v E : Int} {f : V6 → V6} (h : E = 0) (h2 : nth l v ≠ none) : (upd l v E f).length = l.length := by
  unfold upd
  rw [if_pos h]
  cases hn : nth l v with
  | none => exact absurd hn h2
  | some r => exact List.length_set
set_option maxRecDepth 100000 in
set_option maxHeartbeats 4000000 in
theorem changed (A : Option Addr) (n c : Nat) (l : List V6) (v : Int) (F : Nat) (lb : Array Value) (e : V6 → Int) (f : V6 → V6) (w : World) (hi : Rw.RS vR w A n c l) (hn : n ≤ 1000000) (hO : ∀ r ∈ l, I64 (op r))
    (eg : ∀ args w, (callFunc F args).run Try.prog w = .ok (.enter F args) w) (hF : Cl w l F lb e f) :
    Calls Try.prog 63 #[.slice A n c, .int .i64 v, .func (.func F) #[] lb] w fun x w' => CgR w w' l v (cgE l v e) f x := by
  have HI := Lib.hid hi
  have HLN := Lib.hid hi.len
  have CK := Lib.hid (check A n c l w hi (by omega) hO)
  have HF := Lib.hid hF
  have CN := Lib.hid (fun V (hv : Bel w V) => clone A n c l V (hi.bel hv) (by omega))
  obtain ⟨e1, he1⟩ : ∃ e, (chk l).1 = e := ⟨_, rfl⟩
  obtain ⟨e2, he2⟩ : ∃ e, (chk l).2 = e := ⟨_, rfl⟩
  obtain ⟨E, hE⟩ : ∃ E, cgE l v e = E := ⟨_, rfl⟩
  have HE := Lib.hid hE
  unfold cgE at HE
  rw [he1] at HE
  rw [he1, he2] at CK
  rw [hE]
  clear hi he1 he2 hE hO hF
  go_enter Try.func63, Try.ntmps63
  go_wp2_with fail
  refine CK.out.mono ?_
  rintro x w1 ⟨rfl, kb⟩
  have K1 := Lib.hid kb
  clear kb CK
  by_cases h0 : e1 = 0
  case neg =>
    have hne : (e1 != 0) = true := by rw [bne_iff_ne]; exact h0
    obtain rfl : e1 = E := by have := HE.out; rwa [if_pos h0] at this
    go_wp2_with fail
    go_ret2
    exact cgR_no K1.out h0
  subst h0
  have HE := Lib.hid (show (nth l v).elim 10 e = E by have := HE.out; rwa [if_neg (by decide)] at this)
  by_cases hv0 : v < 0
  · obtain rfl : E = 10 := by have := HE.out; rw [nth_none (.inl hv0)] at this; exact this.symm
    go_wp2_with fail
    go_ret2
    exact cgR_no K1.out (by decide)
  obtain ⟨k, rfl⟩ : ∃ k : Nat, v = k := ⟨v.toNat, by omega⟩
  by_cases hlt : k < n
  case neg =>
    obtain rfl : E = 10 := by have := HE.out; rw [nth_none (.inr (by rw [HLN.out]; omega))] at this; exact this.symm
    have hge : (k : Int) ≥ n := by omega
    have hlt3 : ¬ (k : Int) < n := by omega
    go_wp2_with fail
    go_ret2
    exact cgR_no K1.out (by decide)
  have hlt3 : (k : Int) < n := by omega
  have hlt4 : ¬ (k : Int) ≥ n := by omega
  have CN := Lib.hid (CN.out w1 K1.out)
  obtain ⟨r, hr⟩ := HI.out.get hlt
  have HR := Lib.hid hr
  have HE := Lib.hid (show e r = E by have := HE.out; rwa [nth_some hr] at this)
  clear hr
  go_wp2_with fail
  refine CN.out.mono ?_
  rintro x w2 ⟨vc, rfl, ho, kb⟩
  obtain ⟨g, cap, rfl, hg, hrb, hcm⟩ := Rw.rb_own vR ho (by rw [HLN.out]; omega)
  rw [HLN.out]
  have K2 := Lib.hid (K1.out.trans kb)
  have HG := Lib.hid (Nat.le_trans (Below.size K1.out) hg)
  have HCM := Lib.hid hcm
  have FC := Lib.hid (HF.out w2 g cap k r K2.out HG.out hrb HR.out)
  rw [HE.out] at FC
  clear ho kb hg hcm hrb CN HF
  go_wp2_with fail
  refine FC.out.mono ?_
  rintro x w3 ⟨rfl, hk, hs⟩
  have K3 := Lib.hid (show Bel w w3 from Kep.bel K2.out hk (fun i hi => by rw [hi]; exact HG.out))
  have HS := Lib.hid hs
  clear hk hs FC
  by_cases hE : E = 0
  case neg =>
    have hne : (E != 0) = true := by rw [bne_iff_ne]; exact hE
    go_wp2_with fail
    go_ret2
    exact cgR_no K3.out hE
  subst hE
  go_wp2_with fail
  go_ret2
  refine ⟨_, rfl, ?_, K3.out⟩
  rw [upd_at HR.out]
  have := own_rb (HS.out (by first | rfl | trivial)) HG.out HCM.out
  rw [List.length_set, HLN.out] at this
  exact this
set_option maxRecDepth 10000 in
set_option maxHeartbeats 2000000 in
theorem jail1 (w : World) (l : List V6) (p : Nat) (tl : Int) (hP : Blk w p #[.int .i64 tl] 3) : Cl w l 64 #[.pointer (some ⟨p, 0, none⟩)] (jaE tl) (jaF tl) := by
  intro V g cap k r hb hg h hr
  obtain ⟨r1, r2, r3, r4, r5, r6⟩ := r
  show Calls Try.prog 64 #[.pointer (some ⟨g, k * 6, none⟩), .pointer (some ⟨p, 0, none⟩)] V _
  obtain ⟨c0, c1, c2, c3, c4, c5⟩ := rb_cells h hr
  have HP := Lib.hid (hP.bel hb)
  have HH := Lib.hid h
  have HR := Lib.hid hr
  have PE := Lib.hid (permits r3 V)
  obtain ⟨E, hE⟩ : ∃ E, jaE tl (r1, r2, r3, r4, r5, r6) = E := ⟨_, rfl⟩
  rw [hE]
  have HE := Lib.hid (show (if r3 = 4 then 20 else if untB tl = false then (3 : Int) else 0) = E from hE)
  show Calls _ _ _ _ fun x V' => x = .returned (.int .i64 E) ∧ Kep (fun b => b = g) V V' ∧ (E = 0 → Rw.RB vR 66 V' g (l.set k (r1, r2, 3, max r4 tl, r5, r6)) cap)
  clear hb h hr hE c0 c1 c3 c4 c5 hP
  unfold rts at PE
  go_enter Try.func64, Try.ntmps64
  go_wp2_with fail
  refine PE.out.mono ?_
  rintro x V1 ⟨rfl, kb⟩
  have KB := Lib.hid kb
  clear kb PE
  by_cases h4 : r3 = 4
  · obtain rfl : E = 20 := by have := HE.out; rw [if_pos h4] at this; exact this.symm
    have hfd : ∀ W, (Instr.field 75 (.agg #[.bool (!decide (r3 = 4)), .bool (decide (r3 = 1) || decide (r3 = 2)), .bool (decide (r3 = 2))]) 0).run Try.prog W = .ok (.bool false) W := fun W => by rw [decide_eq_true h4]; kernel_rfl
    clear h4
    go_wp2_with fail
    go_ret
    first | exact ⟨rfl, Kep.of_bel KB.out, fun h => by cases h⟩ | exact ⟨rfl, Kep.of_bel KB.out⟩
  · have HE := Lib.hid (show (if untB tl = false then (3 : Int) else 0) = E by have := HE.out; rwa [if_neg h4] at this)
    have hfd : ∀ W, (Instr.field 75 (.agg #[.bool (!decide (r3 = 4)), .bool (decide (r3 = 1) || decide (r3 = 2)), .bool (decide (r3 = 2))]) 0).run Try.prog W = .ok (.bool true) W := fun W => by rw [decide_eq_false h4]; kernel_rfl
    have HO := Lib.hid (hold g cap k l r1 r2 r3 r4 r5 r6 3 tl V1 (HH.out.bel KB.out) HR.out)
    rw [HE.out] at HO
    have p0 := (HP.out.bel KB.out).cell 0 rfl
    clear h4 c2
    go_wp2_with fail
    refine HO.out.mono ?_
    rintro x V2 ⟨rfl, hk, hs⟩
    have HK := Lib.hid ((Kep.of_bel KB.out).trans hk)
    have HS := Lib.hid hs
    clear hk hs HO
    go_wp2_with fail
    go_ret
    refine ⟨rfl, HK.out, fun h0 => HS.out ?_⟩
    subst h0
    have := HE.out
    cases hu : untB tl
    · rw [hu, if_pos rfl] at this; cases this
    · rfl
set_option maxRecDepth 10000 in
set_option maxHeartbeats 4000000 in
theorem unjail1 (w : World) (l : List V6) (p q : Nat) (by_ h_ : Int) (hP : Blk w p #[.int .i64 by_] 3) (hQ : Blk w q #[.int .i64 h_] 3) : Cl w l 67 #[.pointer (some ⟨p, 0, none⟩), .pointer (some ⟨q, 0, none⟩)] (unE by_ h_) (setS 1) := by
  intro V g cap k r hb hg h hr
  obtain ⟨r1, r2, r3, r4, r5, r6⟩ := r
  show Calls Try.prog 67 #[.pointer (some ⟨g, k * 6, none⟩), .pointer (some ⟨p, 0, none⟩), .pointer (some ⟨q, 0, none⟩)] V _
  obtain ⟨c0, c1, c2, c3, c4, c5⟩ := rb_cells h hr
  have HP := Lib.hid (hP.bel hb)
  have HQ := Lib.hid (hQ.bel hb)
  have HH := Lib.hid h
  have HR := Lib.hid hr
  have PE := Lib.hid (permits r3 V)
  obtain ⟨E, hE⟩ : ∃ E, unE by_ h_ (r1, r2, r3, r4, r5, r6) = E := ⟨_, rfl⟩
  rw [hE]
  have HE := Lib.hid (show (if by_ ≠ r1 then (24 : Int) else if r3 = 4 then 20 else if (decide (r3 = 1) || decide (r3 = 2)) = true then 11 else if h_ < r4 then 21 else 0) = E from hE)
  show Calls _ _ _ _ fun x V' => x = .returned (.int .i64 E) ∧ Kep (fun b => b = g) V V' ∧ (E = 0 → Rw.RB vR 66 V' g (l.set k (r1, r2, 1, r4, r5, r6)) cap)
  clear hb h hr hE c0 c1 c3 c4 c5 hP hQ
  unfold rts at PE
  go_enter Try.func67, Try.ntmps67
  go_wp2_with fail
  refine PE.out.mono ?_
  rintro x V1 ⟨rfl, kb⟩
  have KB := Lib.hid kb
  clear kb PE c2
  obtain ⟨y4, hy4⟩ : ∃ y, decide (r3 = 4) = y := ⟨_, rfl⟩
  obtain ⟨yf, hyf⟩ : ∃ y, (decide (r3 = 1) || decide (r3 = 2)) = y := ⟨_, rfl⟩
  obtain ⟨y2, hy2⟩ : ∃ y, decide (r3 = 2) = y := ⟨_, rfl⟩
  have HE := Lib.hid (show (if by_ ≠ r1 then (24 : Int) else if y4 = true then 20 else if yf = true then 11 else if h_ < r4 then 21 else 0) = E by
    have := HE.out
    rw [hyf] at this
    rw [← this, ← hy4]
    by_cases h4 : r3 = 4 <;> simp [h4])
  rw [hy4, hyf, hy2]
  clear hy4 hyf hy2
  go_upto_region 2 with fail
  have R0 := Lib.hid (Blk.new V1 #[.bool (!y4), .bool yf, .bool y2] 75)
  obtain ⟨V2, hV2⟩ : ∃ W, V1.alloc (.cells #[.bool (!y4), .bool yf, .bool y2] 75) = W := ⟨_, rfl⟩
  have B2 := Lib.hid (show Bel V V2 by rw [← hV2]; exact KB.out.alloc _)
  rw [hV2] at R0 ⊢
  obtain ⟨d, hd⟩ : ∃ d, V1.heap.size = d := ⟨_, rfl⟩
  rw [hd] at R0 ⊢
  clear hV2 hd
  have c0 := (rb_cells (HH.out.bel B2.out) HR.out).1
  have p0 := (HP.out.bel B2.out).cell 0 rfl
  obtain ⟨z, hz⟩ : ∃ z, (by_ != r1) = z := ⟨_, rfl⟩
  have HZ := Lib.hid (show z = true ↔ by_ ≠ r1 by rw [← hz]; exact bne_iff_ne)
  go_quiet (fail)
  rename_i nq
  obtain ⟨V3, hV3⟩ : ∃ W, V2.drewN nq = W := ⟨_, rfl⟩
  have B3 := Lib.hid (show Bel V V3 by rw [← hV3]; exact B2.out.trans (bel_drewN V2 nq))
  have R3 := Lib.hid (show Blk V3 d _ _ by rw [← hV3]; exact R0.out.bel (bel_drewN V2 nq))
  rw [hV3]
  try rw [hz]
  clear hV3 c0 p0 hz
  cases z with
  | true =>
    obtain rfl : E = 24 := by have := HE.out; rw [if_pos (HZ.out.1 rfl)] at this; exact this.symm
    go_wp2_with fail
    go_ret
    first | exact ⟨rfl, Kep.of_bel B3.out, fun h => by cases h⟩ | exact ⟨rfl, Kep.of_bel B3.out⟩
  | false =>
    have HE := Lib.hid (show (if y4 = true then (20 : Int) else if yf = true then 11 else if h_ < r4 then 21 else 0) = E by
      have := HE.out
      rwa [if_neg (fun h => by have := HZ.out.2 h; cases this)] at this)
    clear HZ
    have d0 := R3.out.cell 0 rfl
    have d1 := R3.out.cell 1 rfl
    cases y4 with
    | true =>
      obtain rfl : E = 20 := HE.out.symm
      go_wp2_with fail
      go_ret
      first | exact ⟨rfl, Kep.of_bel B3.out, fun h => by cases h⟩ | exact ⟨rfl, Kep.of_bel B3.out⟩
    | false =>
      cases yf with
      | true =>
        obtain rfl : E = 11 := HE.out.symm
        go_wp2_with fail
        go_ret
        first | exact ⟨rfl, Kep.of_bel B3.out, fun h => by cases h⟩ | exact ⟨rfl, Kep.of_bel B3.out⟩
      | false =>
        have HE := Lib.hid (show (if h_ < r4 then (21 : Int) else 0) = E from HE.out)
        have c3 := (rb_cells (HH.out.bel B3.out) HR.out).2.2.2.1
        have q0 := (HQ.out.bel B3.out).cell 0 rfl
        obtain ⟨z, hz⟩ : ∃ z, decide (h_ < r4) = z := ⟨_, rfl⟩
        have HE := Lib.hid (show (if z = true then (21 : Int) else 0) = E by rw [← HE.out, ← hz]; by_cases h : h_ < r4 <;> simp [h])
        go_upto_region 8 with fail
        go_quiet (fail)
        obtain ⟨V4, hV4⟩ : ∃ W, V3.drewN nq = W := ⟨_, rfl⟩
        have B4 := Lib.hid (show Bel V V4 by rw [← hV4]; exact B3.out.trans (bel_drewN V3 nq))
        rw [hV4]
        try rw [hz]
        clear hV4 c3 q0 hz d0 d1
        cases z with
        | true =>
          obtain rfl : E = 21 := HE.out.symm
          go_wp2_with fail
          go_ret
          first | exact ⟨rfl, Kep.of_bel B4.out, fun h => by cases h⟩ | exact ⟨rfl, Kep.of_bel B4.out⟩
        | false =>
          obtain rfl : E = 0 := HE.out.symm
          have c2 := (rb_cells (HH.out.bel B4.out) HR.out).2.2.1
          have f2 := (HH.out.bel B4.out).frozen (k * 6 + 2)
          have HS := Lib.hid ((HH.out.bel B4.out).set (o := 2) (r' := (r1, r2, 1, r4, r5, r6)) (v := .int .i64 1) (by decide) HR.out rfl)
          have HK := Lib.hid ((Kep.of_bel (S := fun b => b = g) B4.out).trans (Kep.set_self (Kep.refl _ V4) (k * 6 + 2) (.int .i64 1)))
          go_wp2_with fail
          go_ret
          first | exact ⟨rfl, HK.out, fun _ => HS.out⟩ | exact ⟨rfl, HK.out, HS.out⟩
set_option maxRecDepth 10000 in
set_option maxHeartbeats 2000000 in
theorem punish1 (w : World) (l : List V6) (p q : Nat) (cl tl : Int) (hP : Blk w p #[.int .i64 cl] 3) (hQ : Blk w q #[.int .i64 tl] 3) : Cl w l 68 #[.pointer (some ⟨p, 0, none⟩), .pointer (some ⟨q, 0, none⟩)] (fun _ => if untB tl = false then 3 else 0) (puF cl tl) := by
  intro V g cap k r hb hg h hr
  obtain ⟨r1, r2, r3, r4, r5, r6⟩ := r
  show Calls Try.prog 68 #[.pointer (some ⟨g, k * 6, none⟩), .pointer (some ⟨p, 0, none⟩), .pointer (some ⟨q, 0, none⟩)] V _
  obtain ⟨c0, c1, c2, c3, c4, c5⟩ := rb_cells h hr
  have f4 := h.frozen (k * 6 + 4)
  have f5 := h.frozen (k * 6 + 5)
  have P0 := hP.bel hb
  have Q0 := hQ.bel hb
  have p0 := P0.cell 0 rfl
  have hk0 := (List.getElem?_eq_some_iff.1 hr).1
  have hqg : q ≠ g := by have := hQ.lt; omega
  have q4 := ((Kep.set_self (Kep.refl (fun b => b = g) V) (k * 6 + 4) (.bool true)).cell (S := fun b => b = g) hqg (Q0.cell 0 rfl))
  have q5 := ((Kep.set_self (Kep.refl (fun b => b = g) V) (k * 6 + 5) (.bool true)).cell (S := fun b => b = g) hqg (Q0.cell 0 rfl))
  have K4 := Lib.hid (Kep.set_self (Kep.refl (fun b => b = g) V) (k * 6 + 4) (.bool true))
  have K5 := Lib.hid (Kep.set_self (Kep.refl (fun b => b = g) V) (k * 6 + 5) (.bool true))
  have S4 := h.set (o := 4) (r' := (r1, r2, r3, r4, true, r6)) (v := .bool true) (by decide) hr rfl
  have S5 := h.set (o := 5) (r' := (r1, r2, r3, r4, r5, true)) (v := .bool true) (by decide) hr rfl
  have H4 := hold g cap k _ r1 r2 r3 r4 true r6 4 tl _ S4 (List.getElem?_set_self hk0)
  have H5 := hold g cap k _ r1 r2 r3 r4 r5 true 3 tl _ S5 (List.getElem?_set_self hk0)
  rw [List.set_set] at H4 H5
  have HO4 := Lib.hid H4
  have HO5 := Lib.hid H5
  obtain ⟨E, hE⟩ : ∃ E, (if untB tl = false then (3 : Int) else 0) = E := ⟨_, rfl⟩
  rw [hE] at HO4 HO5
  have HU := Lib.hid (show E = 0 → untB tl = true from fun h0 => by
    subst h0
    cases hu : untB tl
    · rw [hu, if_pos rfl] at hE; cases hE
    · rfl)
  show Calls _ _ _ _ fun x V' => x = .returned (.int .i64 (if untB tl = false then (3 : Int) else 0)) ∧ Kep (fun b => b = g) V V' ∧ ((if untB tl = false then (3 : Int) else 0) = 0 → Rw.RB vR 66 V' g (l.set k (if cl = 1 then (r1, r2, 4, max r4 tl, true, r6) else (r1, r2, 3, max r4 tl, r5, true))) cap)
  rw [hE]
  clear hb h hr hE hP hQ P0 Q0 S4 S5 H4 H5 c0 c1 c2 c3 hk0 hqg
  go_enter Try.func68, Try.ntmps68
  by_cases h1 : cl = 1
  · subst h1
    go_wp2_with fail
    refine HO4.out.mono ?_
    rintro x V2 ⟨rfl, hk, hs⟩
    have HK := Lib.hid (K4.out.trans hk)
    have HS := Lib.hid hs
    clear hk hs HO4
    go_wp2_with fail
    go_ret
    exact ⟨rfl, HK.out, fun h0 => HS.out (HU.out h0)⟩
  · have e1 : (cl == 1) = false := beq_eq_false_iff_ne.2 h1
    rw [if_neg h1]
    clear h1
    go_wp2_with fail
    refine HO5.out.mono ?_
    rintro x V2 ⟨rfl, hk, hs⟩
    have HK := Lib.hid (K5.out.trans hk)
    have HS := Lib.hid hs
    clear hk hs HO5
    go_wp2_with fail
    go_ret
    exact ⟨rfl, HK.out, fun h0 => HS.out (HU.out h0)⟩
end Ro
end Go.Proofs.Ytpfdakkameifkaa
