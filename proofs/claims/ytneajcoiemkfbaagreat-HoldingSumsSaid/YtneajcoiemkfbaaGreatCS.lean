/-
  Texts of this claim, put together: Ho42, Ho43, HoLift. What each one says, and under which conditions, stands ahead of it.
-/
import Derived.Deep.Slices
import Derived.Test.YtneajcoiemkfbaaGreatTk
import Derived.Test.YtneajcoiemkfbaaGreatCR
import Derived.Test.YtneajcoiemkfbaaGreatCO
import Derived.Test.YtneajcoiemkfbaaGreatCP
import Derived.Test.YtneajcoiemkfbaaGreatCT

section
/-
  What near acts make of a holding that may be may be; what becomes of the tokens; the law's held. Conditions: as each theorem says.
-/
namespace Go.Proofs.YtneajcoiemkfbaaGreat
open Go.RowKit Go.Shelf
set_option linter.unusedVariables false
set_option linter.unusedSimpArgs false
namespace Ho
open Kk Pm

theorem chE_go {cs ps : List R6} (h : Ok cs ps) (E : Int) : chE cs ps E = E := (chE_ways cs ps E).2 ((ok_iff cs ps).2 h)
/-- What an act that is near, and not refused, makes. -/
theorem act_keeps {cs ps : List R6} (h : Hd6 cs ps) {k o a b d e v ht x : Int} (na : NearA k o a b d e v ht x) (hE : aE cs ps (k, o, a, b, d, e, v, ht, x) = 0) :
    Hd6 (aC cs ps (k, o, a, b, d, e, v, ht, x)) (aP cs ps (k, o, a, b, d, e, v, ht, x)) ∧ (aP cs ps (k, o, a, b, d, e, v, ht, x)).length ≤ ps.length + 1 ∧
      (k = 0 → sumT (aC cs ps (k, o, a, b, d, e, v, ht, x)) = sumT cs + x) ∧ (¬ k = 0 → sumT (aC cs ps (k, o, a, b, d, e, v, ht, x)) + aN cs ps (k, o, a, b, d, e, v, ht, x) = sumT cs ∧ 0 ≤ aN cs ps (k, o, a, b, d, e, v, ht, x)) ∧ (k = 2 → sumT (aL cs ps (k, o, a, b, d, e, v, ht, x)) = aN cs ps (k, o, a, b, d, e, v, ht, x)) ∧ (¬ k = 2 → aL cs ps (k, o, a, b, d, e, v, ht, x) = []) := by
  by_cases k0 : k = 0
  · subst k0
    have hj : bJE o a b d e (polT cs (a, b, d, e, 0, 0)) (polS cs (a, b, d, e, 0, 0)) cs.length (sumT cs) x = 0 := by
      have h1 : chE cs ps (bJE o a b d e (polT cs (a, b, d, e, 0, 0)) (polS cs (a, b, d, e, 0, 0)) cs.length (sumT cs) x) = 0 := hE
      rwa [chE_go h.ok] at h1
    obtain ⟨h1, h2, h3, h4⟩ := join_ok h rfl rfl na.x0 hj
    have eC : aC cs ps (0, o, a, b, d, e, v, ht, x) = _ := if_pos hE
    have eP : aP cs ps (0, o, a, b, d, e, v, ht, x) = _ := if_pos hE
    rw [eC, eP]
    exact ⟨h1, h4, fun _ => h2, fun c => absurd rfl c, fun c => absurd c (by decide), fun _ => rfl⟩
  · by_cases k1 : k = 1
    · subst k1
      have hj : bLE (polT cs (a, b, d, e, 0, 0)) (polS cs (a, b, d, e, 0, 0)) (shs ps (o, a, b, d, e, 0)) x = 0 := by
        have h1 : chE cs ps (bLE (polT cs (a, b, d, e, 0, 0)) (polS cs (a, b, d, e, 0, 0)) (shs ps (o, a, b, d, e, 0)) x) = 0 := hE
        rwa [chE_go h.ok] at h1
      obtain ⟨h1, h2, h3, _, h4⟩ := leave_ok h rfl rfl na.x0 hj
      have eC : aC cs ps (1, o, a, b, d, e, v, ht, x) = _ := if_pos hE
      have eP : aP cs ps (1, o, a, b, d, e, v, ht, x) = _ := if_pos hE
      have eN : aN cs ps (1, o, a, b, d, e, v, ht, x) = _ := if_pos hE
      rw [eC, eP, eN]
      exact ⟨h1, h4, fun c => absurd c (by decide), fun _ => ⟨h2, h3⟩, fun c => absurd c (by decide), fun _ => rfl⟩
    · have k2 : k = 2 := by have := na.k0; have := na.k2; omega
      subst k2
      have hj : bKE v ht x = 0 := by
        have h1 : chE cs ps (bKE v ht x) = 0 := hE
        rwa [chE_go h.ok] at h1
      obtain ⟨h1, h2, h3, _, h4⟩ := cut_keeps h na.x0 hj
      have eC : aC cs ps (2, o, a, b, d, e, v, ht, x) = _ := if_pos hE
      have eP : aP cs ps (2, o, a, b, d, e, v, ht, x) = _ := if_pos hE
      have eN : aN cs ps (2, o, a, b, d, e, v, ht, x) = _ := if_pos hE
      have eL : aL cs ps (2, o, a, b, d, e, v, ht, x) = _ := if_pos hE
      rw [eC, eP, eN, eL]
      exact ⟨h1, by omega, fun c => absurd c (by decide), fun _ => ⟨h2, h3⟩, fun _ => rfl, fun c => absurd rfl c⟩
theorem held_ (y : Bool) (w : World) : Calls Tryz.prog 53 #[.int .i64 0, .bool y] w fun r w' => r = .returned (.int .i64 (if y then 0 else 11)) ∧ w = w' := by
  go_enter Tryz.func53, Tryz.ntmps53
  cases y
  · go_wp2
    go_ret
    exact ⟨rfl, rfl⟩
  · go_wp2
    go_ret
    exact ⟨rfl, rfl⟩
/-- Acts in memory. -/
def Acts (w : World) (A : Option Addr) (n : Nat) : Prop := 0 < n → ∃ b o, A = some ⟨b, o, none⟩ ∧ b < w.heap.size ∧ ∀ i, i < n → ∃ k o' a b' d e v h x, ActW k o' a b' d e v h x ∧ w.rangeAt b (o + i * 9) [.int .i64 k, .int .i64 o', .int .i64 a, .int .i64 b', .int .i64 d, .int .i64 e, .int .i64 v, .int .i64 h, .int .u64 x]
theorem Acts.bel {w w' : World} {A : Option Addr} {n : Nat} (h : Acts w A n) (hb : Bel w w') : Acts w' A n := fun hn => by
  obtain ⟨b, o, e, hlt, hc⟩ := h hn
  refine ⟨b, o, e, Nat.lt_of_lt_of_le hlt (Below.size hb), fun i hi => ?_⟩
  obtain ⟨k, o', a, b', d, e, v, h, x, ha, hr⟩ := hc i hi
  exact ⟨k, o', a, b', d, e, v, h, x, ha, rng_bel hr hb⟩
/-- A variable that holds a holding that may be, in newer memory. -/
structure Vo (V : World) (g : Nat) (A : Option Addr) (n c : Nat) (B : Option Addr) (m d : Nat) (cs ps : List R6) : Prop where
  blk : Blk V g #[.slice A n c, .slice B m d] 25
  oc : OwnR cC 90 V (g + 1) (.slice A n c) cs
  op : OwnR cP 93 V (g + 1) (.slice B m d) ps
  hd : Hd6 cs ps
theorem Vo.bel {V V' : World} {g : Nat} {A : Option Addr} {n c : Nat} {B : Option Addr} {m d : Nat} {cs ps : List R6} (h : Vo V g A n c B m d cs ps) (hb : Bel V V') : Vo V' g A n c B m d cs ps := ⟨h.blk.bel hb, h.oc.bel hb, h.op.bel hb, h.hd⟩
theorem Vo.hh {V : World} {g : Nat} {A : Option Addr} {n c : Nat} {B : Option Addr} {m d : Nat} {cs ps : List R6} (h : Vo V g A n c B m d cs ps) (hm : ps.length ≤ 1000000) : HH V A n c B m d cs ps := by
  have h1 := own_rsC h.oc
  have h2 := own_rsP h.op
  have e1 := h1.len
  have e2 := h2.len
  exact ⟨h1, h2, by have := h.hd.ok.len; omega, by omega, h.hd.wc, h.hd.wp⟩
/-- The variable is set to another one. -/
theorem Vo.put {V : World} {g : Nat} {A : Option Addr} {n c : Nat} {B : Option Addr} {m d : Nat} {cs ps : List R6} (h : Vo V g A n c B m d cs ps) {A' : Option Addr} {n' c' : Nat} {B' : Option Addr} {m' d' base : Nat} {cs' ps' : List R6} (o1 : OwnR cC 90 V base (.slice A' n' c') cs') (o2 : OwnR cP 93 V base (.slice B' m' d') ps') (hb : g + 1 ≤ base) (hd : Hd6 cs' ps') :
    Vo ((V.setCell ⟨g, 0, none⟩ (.slice A' n' c')).setCell ⟨g, 1, none⟩ (.slice B' m' d')) g A' n' c' B' m' d' cs' ps' := by
  have K : Kep (fun b => b = g) V ((V.setCell ⟨g, 0, none⟩ (.slice A' n' c')).setCell ⟨g, 1, none⟩ (.slice B' m' d')) := Kep.set (S := fun b => b = g) (Kep.set (S := fun b => b = g) (Kep.refl _ _) rfl _) rfl _
  exact ⟨(h.blk.set 0 _).set 1 _, (o1.mono hb).kep K (fun i e e' => by have := own_ge o1 e; omega), (o2.mono hb).kep K (fun i e e' => by have := own_ge o2 e; omega), hd⟩
/-- Losses, as numbers from the head on. -/
theorem sumT_tk (l : List R6) (k : Nat) (r : R6) (h : l[k]? = some r) : sumT (l.take (k + 1)) = sumT (l.take k) + tok r := by
  rw [List.take_add_one, h]
  unfold sumT
  rw [List.map_append, List.sum_append]
  simp
theorem sumT_pre (l : List R6) (h : ∀ r ∈ l, 0 ≤ tok r) (k : Nat) : 0 ≤ sumT (l.take k) ∧ sumT (l.take k) ≤ sumT l := by
  have h0 : ∀ l : List R6, (∀ r ∈ l, 0 ≤ tok r) → 0 ≤ sumT l := fun l => by
    induction l with
    | nil => intro _; exact Int.le_refl _
    | cons y l ih =>
      intro h
      have h1 := ih fun r hr => h r (List.mem_cons_of_mem _ hr)
      have h2 := h y List.mem_cons_self
      have : sumT (y :: l) = tok y + sumT l := by simp [sumT]
      omega
  refine ⟨h0 _ fun r hr => h r (List.mem_of_mem_take hr), ?_⟩
  have h1 := h0 (l.drop k) fun r hr => h r (List.mem_of_mem_drop hr)
  have h2 : sumT l = sumT (l.take k) + sumT (l.drop k) := by
    unfold sumT
    rw [← List.sum_append, ← List.map_append, List.take_append_drop]
  omega
theorem los_pos {cs ps : List R6} (h : Hd6 cs ps) {k o a b d e v ht x : Int} (na : NearA k o a b d e v ht x) : ∀ r ∈ aL cs ps (k, o, a, b, d, e, v, ht, x), 0 ≤ tok r := by
  intro r hr
  by_cases k2 : k = 2
  · subst k2
    have hr' : r ∈ (if aE cs ps (2, o, a, b, d, e, v, ht, x) = 0 then losL v ht x cs cs.length else []) := hr
    split at hr'
    · unfold losL at hr'
      rw [List.take_length] at hr'
      obtain ⟨q, hq, rfl⟩ := List.mem_map.1 hr'
      have hq' := (List.mem_filter.1 hq).1
      exact (cutR_is (v := v) (h := ht) na.x0 (na.x2 rfl) (h.wc q hq') (h.ok.cl q hq').2.1).2.2.2.2.1
    · cases hr'
  · have : aL cs ps (k, o, a, b, d, e, v, ht, x) = [] := if_neg k2
    rw [this] at hr
    cases hr
end Ho
end Go.Proofs.YtneajcoiemkfbaaGreat
end

section
/-
  The law HoldingSums returns true. Conditions: the acts' numbers are of their kinds.
-/
namespace Go.Proofs.YtneajcoiemkfbaaGreat
open Go.RowKit Go.Shelf
set_option linter.unusedVariables false
set_option linter.unusedSimpArgs false
namespace Ho
open Kk Pm

theorem los_len (cs ps : List R6) (k o a b d e v ht x : Int) : (aL cs ps (k, o, a, b, d, e, v, ht, x)).length ≤ cs.length := by
  by_cases k2 : k = 2
  · subst k2
    have h : aL cs ps (2, o, a, b, d, e, v, ht, x) = if aE cs ps (2, o, a, b, d, e, v, ht, x) = 0 then losL v ht x cs cs.length else [] := rfl
    rw [h]
    split
    · unfold losL
      rw [List.length_map, List.take_length]
      exact List.length_filter_le _ _
    · exact Nat.zero_le _
  · have : aL cs ps (k, o, a, b, d, e, v, ht, x) = [] := if_neg k2
    rw [this]
    exact Nat.zero_le _
/-- One that keeps Check silent: what Check tells. -/
theorem chk_of {V : World} {A : Option Addr} {n c : Nat} {B : Option Addr} {m d : Nat} {cs ps : List R6} (hh : HH V A n c B m d cs ps) (hd : Ok cs ps) : Calls Tryz.prog 14 #[.agg #[.slice A n c, .slice B m d]] V fun e w' => e = .returned (.int .i64 0) ∧ Bel V w' := by
  have h := hh.chk
  rw [(ok_iff cs ps).2 hd] at h
  exact h
theorem all_of {V : World} {A : Option Addr} {n c : Nat} {B : Option Addr} {m d : Nat} {cs ps : List R6} (hh : HH V A n c B m d cs ps) (hd : Ok cs ps) : Calls Tryz.prog 30 #[.agg #[.slice A n c, .slice B m d]] V fun e w' => e = .returned (.tuple #[.int .u64 (sumT cs), .int .i64 0]) ∧ Bel V w' := by
  have h := all_ A n c B m d cs ps V hh
  rw [(ok_iff cs ps).2 hd, if_pos rfl] at h
  exact h

set_option maxRecDepth 100000 in
set_option maxHeartbeats 16000000 in
theorem sumsLaw (A : Option Addr) (n c : Nat) (w : World) (hn : n ≤ 9223372036854775807) (ha : Acts w A n) : Calls Tryz.prog 7 #[.slice A n c] w fun r w' => r = .returned (.bool true) ∧ Bel w w' := by
  have HA := Lib.hid ha
  clear ha
  have KN := Lib.hid (known w)
  go_enter Tryz.func7, Tryz.ntmps7
  go_wp2_with fail
  refine KN.out.mono ?_
  rintro r W ⟨rfl, kb⟩
  have BW := Lib.hid kb
  clear kb KN
  by_cases h30 : n ≤ 30
  case neg =>
    have h31 : (30 : Int) < n := by omega
    go_wp2_with fail
    go_ret
    exact ⟨rfl, BW.out⟩
  have h31 : ¬ (30 : Int) < n := by omega
  obtain ⟨V, hV⟩ : ∃ V, W.alloc (.cells #[.slice none 0 0, .slice none 0 0] 25) = V := ⟨_, rfl⟩
  have BV := Lib.hid (show Bel w V by rw [← hV]; exact BW.out.alloc _)
  have VO := Lib.hid (show Vo V W.heap.size none 0 0 none 0 0 [] [] from ⟨by rw [← hV]; exact Blk.new _ _ _, OwnR.nil_ _ _ _ _, OwnR.nil_ _ _ _ _, Hd6.nil_⟩)
  have HGE := Lib.hid (show w.heap.size ≤ W.heap.size from Below.size BW.out)
  go_upto_region 5 with fail
  try rw [hV]
  obtain ⟨g, hg⟩ : ∃ g, W.heap.size = g := ⟨_, rfl⟩
  rw [hg] at VO HGE ⊢
  clear hg hV BW
  go_wp2_with fail
  go_loopw [5] (fun i wr => ∃ k : Nat, i = .int .i64 k ∧ k ≤ n ∧ ∃ A1 n1 c1 A2 n2 c2 cs ps, Hid (Vo wr g A1 n1 c1 A2 n2 c2 cs ps ∧ ps.length ≤ k ∧ Bel w wr)) (fun i _ => n - (intOf i).toNat)
  case atStart => exact ⟨0, rfl, Nat.zero_le _, _, _, _, _, _, _, _, _, Lib.hid ⟨VO.out, Nat.le_refl _, BV.out⟩⟩
  case round =>
    obtain ⟨i, rfl, hi, A1, n1, c1, A2, n2, c2, cs, ps, hh⟩ := hrel
    have VX := Lib.hid hh.out.1
    have HPL := Lib.hid hh.out.2.1
    have BL := Lib.hid hh.out.2.2
    clear hh BV VO
    by_cases hlt : i < n
    case neg =>
      obtain rfl : i = n := by omega
      go_wp2_with fail
      go_ret
      exact ⟨rfl, BL.out⟩
    obtain ⟨bl, ol, rfl, _, hrows⟩ := HA.out (by omega)
    obtain ⟨k, o, a, b, d, e, v, h, x, haw, hrow⟩ := hrows i hlt
    have HAW := Lib.hid haw
    have HRW := Lib.hid (rng_bel hrow BL.out)
    have hlt3 : (i : Int) < n := by omega
    have hi0 : (0 : Int) ≤ i := by omega
    have HH1 := Lib.hid (VX.out.hh (by have := HPL.out; omega))
    have NR := Lib.hid (fun U (hU : Bel wr U) => near A1 n1 c1 A2 n2 c2 cs ps k o a b d e v h x U (HH1.out.bel hU) VX.out.hd.ok HAW.out)
    clear haw hrow hrows
    go_upto_region 8 with fail
    go_cut [6] (fun s6 wx => ∃ (q : Nat) (k' o' a' b' d' e' v' h' x' : Int), s6 = .pointer (some ⟨q, 0, none⟩) ∧ Hid (NearA k' o' a' b' d' e' v' h' x' ∧ Blk wx q [.int .i64 k', .int .i64 o', .int .i64 a', .int .i64 b', .int .i64 d', .int .i64 e', .int .i64 v', .int .i64 h', .int .u64 x'].toArray 39 ∧ Bel wr wx))
    case first =>
      refine wp_region_held_drew (S := fun Vx => Bel wr Vx) (by kernel_rfl) (Bel.refl _).drew (fun hS0 => ?_)
      obtain ⟨w6, hw6⟩ : ∃ w6, World.drew wr = w6 := ⟨_, rfl⟩
      rw [hw6] at hS0 ⊢
      clear hw6
      refine ztk 0 { dst := some 28, op := .load 25 (.tmp 4), type := 25, pos := "outright.go:108", after := #[], guard := none } (.agg #[.slice A1 n1 c1, .slice A2 n2 c2]) (yieldsIf_load_mid (by rfl) _ _ rfl _ _ rfl _ _ (fun w h => rng_bel (rngB (C := [.slice A1 n1 c1, .slice A2 n2 c2]) VX.out.blk) h) Tryz.underlying25 rfl info_h) hS0 ?_
      try simp only [Act.put, zq1, zq2, zq3]
      refine ztk 1 { dst := some 29, op := .move (.tmp 0), type := 26, pos := "outright.go:108", after := #[], guard := none } (.slice (some ⟨bl, ol, none⟩) n c) (Or.inl ⟨by rfl, by intro w hSw; clear hSw; go_simp⟩) hS0 ?_
      try simp only [Act.put, zq1, zq2, zq3]
      refine ztk 2 { dst := some 30, op := .move (.tmp 5), type := 3, pos := "outright.go:108", after := #[], guard := none } (.int .i64 i) (Or.inl ⟨by rfl, by intro w hSw; clear hSw; go_simp⟩) hS0 ?_
      try simp only [Act.put, zq1, zq2, zq3]
      refine ztk 3 { dst := some 31, op := .indexAddr 26 (.tmp 29) (.tmp 30), type := 0, pos := "outright.go:108", after := #[{ on := 1, ground := .data }, { on := 2, ground := .data }], guard := none } (.pointer (some ⟨bl, ol + i * 9, none⟩)) (Or.inl ⟨by rfl, by intro w hSw; clear hSw; go_simp⟩) hS0 ?_
      try simp only [Act.put, zq1, zq2, zq3]
      refine ztk 4 { dst := some 32, op := .load 39 (.tmp 31), type := 39, pos := "outright.go:108", after := #[{ on := 3, ground := .data }], guard := none } (.agg #[.int .i64 k, .int .i64 o, .int .i64 a, .int .i64 b, .int .i64 d, .int .i64 e, .int .i64 v, .int .i64 h, .int .u64 x]) (yieldsIf_load_mid (by rfl) _ _ rfl _ _ rfl _ _ (fun w h => rng_bel HRW.out h) Tryz.underlying39 rfl (by kernel_rfl)) hS0 ?_
      try simp only [Act.put, zq1, zq2, zq3]
      refine wpAnyH_ready (rs := [5, 6]) (by kernel_rfl) (by simp) ?_
      refine AllReadyH.cons (o := { dst := some 33, op := .call { callee := .value (.func 52), args := #[.tmp 28, .tmp 32], argTypes := #[25, 39] }, type := 39, pos := "outright.go:108", after := #[{ on := 0, ground := .data }, { on := 4, ground := .data }], guard := none }) rfl (fun K hK => ?_) (AllReadyH.cons (o := { dst := some 6, op := .alloc 39, type := 0, pos := "outright.go:108", after := #[], guard := none }) rfl (fun K hK => ?_) AllReadyH.nil)
      · go_simp
        refine (NR.out _ hS0).mono ?_
        rintro e v1 ⟨k', o', a', b', d', e', v', h', x', rfl, hna, kb⟩
        go_wp2_with fail
        refine hK.out _ _ (hS0.trans kb) (fun hS1 => ?_)
        clear hK K
        try simp only [Act.put, zq1, zq2, zq3]
        refine wpAnyH_ready (rs := [6]) (by kernel_rfl) (by simp) ?_
        refine AllReadyH.cons (o := { dst := some 6, op := .alloc 39, type := 0, pos := "outright.go:108", after := #[], guard := none }) rfl (fun K hK => ?_) AllReadyH.nil
        go_simp
        refine hK.out _ _ (hS1.alloc _) (fun hS2 => ?_)
        clear hK K
        try simp only [Act.put, zq1, zq2, zq3]
        have gnb := Blk.new v1 #[.int .i64 0, .int .i64 0, .int .i64 0, .int .i64 0, .int .i64 0, .int .i64 0, .int .i64 0, .int .i64 0, .int .u64 0] 39
        have gnl := Lib.hid (Below.size hS1)
        generalize hvq : World.alloc v1 (Obj.cells #[.int .i64 0, .int .i64 0, .int .i64 0, .int .i64 0, .int .i64 0, .int .i64 0, .int .i64 0, .int .i64 0, .int .u64 0] 39) = v2 at gnb hS2 ⊢
        have gnk : Bel v1 v2 := by rw [← hvq]; exact (Bel.refl _).alloc _
        clear hvq
        obtain ⟨gn, hgq⟩ : ∃ g, (World.heap v1).size = g := ⟨_, rfl⟩
        rw [hgq] at gnb gnl ⊢
        clear hgq
        have gnb := Lib.hid gnb
        refine wpAnyH_ready (rs := [7]) (by kernel_rfl) (by simp) ?_
        refine AllReadyH.cons (o := { dst := none, op := .store 39 (.tmp 6) (.tmp 33), type := 0, pos := "outright.go:108", after := #[{ on := 6, ground := .data }, { on := 5, ground := .data }, { on := 5, ground := .chain }, { on := 0, ground := .phase }, { on := 1, ground := .phase }, { on := 2, ground := .phase }, { on := 3, ground := .phase }, { on := 4, ground := .phase }, { on := 5, ground := .phase }, { on := 6, ground := .phase }], guard := none }) rfl (fun K hK => ?_) AllReadyH.nil
        have QB : Blk v2 gn #[.int .i64 0, .int .i64 0, .int .i64 0, .int .i64 0, .int .i64 0, .int .i64 0, .int .i64 0, .int .i64 0, .int .u64 0] 39 := by first | exact gnb.out | exact gnb.out.bel kb
        obtain ⟨q0, q1, q2, q3, q4, q5, q6, q7, q8⟩ : (_ ∧ _ ∧ _ ∧ _ ∧ _ ∧ _ ∧ _ ∧ _ ∧ _) := ⟨QB.cell 0 rfl, QB.cell 1 rfl, QB.cell 2 rfl, QB.cell 3 rfl, QB.cell 4 rfl, QB.cell 5 rfl, QB.cell 6 rfl, QB.cell 7 rfl, QB.cell 8 rfl⟩
        obtain ⟨qf0, qf1, qf2, qf3, qf4, qf5, qf6, qf7, qf8⟩ : (_ ∧ _ ∧ _ ∧ _ ∧ _ ∧ _ ∧ _ ∧ _ ∧ _) := ⟨QB.frozen 0, QB.frozen 1, QB.frozen 2, QB.frozen 3, QB.frozen 4, QB.frozen 5, QB.frozen 6, QB.frozen 7, QB.frozen 8⟩
        go_simp
        refine hK.out _ _ (((((((((hS2.set (p := ⟨gn, 0, none⟩) gnl.out _).set (p := ⟨gn, 1, none⟩) gnl.out _).set (p := ⟨gn, 2, none⟩) gnl.out _).set (p := ⟨gn, 3, none⟩) gnl.out _).set (p := ⟨gn, 4, none⟩) gnl.out _).set (p := ⟨gn, 5, none⟩) gnl.out _).set (p := ⟨gn, 6, none⟩) gnl.out _).set (p := ⟨gn, 7, none⟩) gnl.out _).set (p := ⟨gn, 8, none⟩) gnl.out _) (fun hS3 => ?_)
        clear hK K
        try simp only [Act.put, zq1, zq2, zq3]
        refine wpAnyH_done (by kernel_rfl) ?_ _
        have RB := Lib.hid (bset (Y := [.int .i64 k', .int .i64 o', .int .i64 a', .int .i64 b', .int .i64 d', .int .i64 e', .int .i64 v', .int .i64 h', .int .u64 0]) (Y' := [.int .i64 k', .int .i64 o', .int .i64 a', .int .i64 b', .int .i64 d', .int .i64 e', .int .i64 v', .int .i64 h', .int .u64 x']) (bset (Y := [.int .i64 k', .int .i64 o', .int .i64 a', .int .i64 b', .int .i64 d', .int .i64 e', .int .i64 v', .int .i64 0, .int .u64 0]) (Y' := [.int .i64 k', .int .i64 o', .int .i64 a', .int .i64 b', .int .i64 d', .int .i64 e', .int .i64 v', .int .i64 h', .int .u64 0]) (bset (Y := [.int .i64 k', .int .i64 o', .int .i64 a', .int .i64 b', .int .i64 d', .int .i64 e', .int .i64 0, .int .i64 0, .int .u64 0]) (Y' := [.int .i64 k', .int .i64 o', .int .i64 a', .int .i64 b', .int .i64 d', .int .i64 e', .int .i64 v', .int .i64 0, .int .u64 0]) (bset (Y := [.int .i64 k', .int .i64 o', .int .i64 a', .int .i64 b', .int .i64 d', .int .i64 0, .int .i64 0, .int .i64 0, .int .u64 0]) (Y' := [.int .i64 k', .int .i64 o', .int .i64 a', .int .i64 b', .int .i64 d', .int .i64 e', .int .i64 0, .int .i64 0, .int .u64 0]) (bset (Y := [.int .i64 k', .int .i64 o', .int .i64 a', .int .i64 b', .int .i64 0, .int .i64 0, .int .i64 0, .int .i64 0, .int .u64 0]) (Y' := [.int .i64 k', .int .i64 o', .int .i64 a', .int .i64 b', .int .i64 d', .int .i64 0, .int .i64 0, .int .i64 0, .int .u64 0]) (bset (Y := [.int .i64 k', .int .i64 o', .int .i64 a', .int .i64 0, .int .i64 0, .int .i64 0, .int .i64 0, .int .i64 0, .int .u64 0]) (Y' := [.int .i64 k', .int .i64 o', .int .i64 a', .int .i64 b', .int .i64 0, .int .i64 0, .int .i64 0, .int .i64 0, .int .u64 0]) (bset (Y := [.int .i64 k', .int .i64 o', .int .i64 0, .int .i64 0, .int .i64 0, .int .i64 0, .int .i64 0, .int .i64 0, .int .u64 0]) (Y' := [.int .i64 k', .int .i64 o', .int .i64 a', .int .i64 0, .int .i64 0, .int .i64 0, .int .i64 0, .int .i64 0, .int .u64 0]) (bset (Y := [.int .i64 k', .int .i64 0, .int .i64 0, .int .i64 0, .int .i64 0, .int .i64 0, .int .i64 0, .int .i64 0, .int .u64 0]) (Y' := [.int .i64 k', .int .i64 o', .int .i64 0, .int .i64 0, .int .i64 0, .int .i64 0, .int .i64 0, .int .i64 0, .int .u64 0]) (bset (Y := [.int .i64 0, .int .i64 0, .int .i64 0, .int .i64 0, .int .i64 0, .int .i64 0, .int .i64 0, .int .i64 0, .int .u64 0]) (Y' := [.int .i64 k', .int .i64 0, .int .i64 0, .int .i64 0, .int .i64 0, .int .i64 0, .int .i64 0, .int .i64 0, .int .u64 0]) (QB) 0 (.int .i64 k') rfl) 1 (.int .i64 o') rfl) 2 (.int .i64 a') rfl) 3 (.int .i64 b') rfl) 4 (.int .i64 d') rfl) 5 (.int .i64 e') rfl) 6 (.int .i64 v') rfl) 7 (.int .i64 h') rfl) 8 (.int .u64 x') rfl)
        have HE := Lib.hid hS3
        clear q0 q1 q2 q3 q4 q5 q6 q7 q8 qf0 qf1 qf2 qf3 qf4 qf5 qf6 qf7 qf8
        go_wp2_with fail
        go_meet
        exact ⟨gn, k', o', a', b', d', e', v', h', x', rfl, Lib.hid ⟨hna, RB.out, HE.out⟩⟩
      · go_simp
        refine hK.out _ _ (hS0.alloc _) (fun hS1 => ?_)
        clear hK K
        try simp only [Act.put, zq1, zq2, zq3]
        have gnb := Blk.new w6 #[.int .i64 0, .int .i64 0, .int .i64 0, .int .i64 0, .int .i64 0, .int .i64 0, .int .i64 0, .int .i64 0, .int .u64 0] 39
        have gnl := Lib.hid (Below.size hS0)
        generalize hvq : World.alloc w6 (Obj.cells #[.int .i64 0, .int .i64 0, .int .i64 0, .int .i64 0, .int .i64 0, .int .i64 0, .int .i64 0, .int .i64 0, .int .u64 0] 39) = v1 at gnb hS1 ⊢
        have gnk : Bel w6 v1 := by rw [← hvq]; exact (Bel.refl _).alloc _
        clear hvq
        obtain ⟨gn, hgq⟩ : ∃ g, (World.heap w6).size = g := ⟨_, rfl⟩
        rw [hgq] at gnb gnl ⊢
        clear hgq
        have gnb := Lib.hid gnb
        refine wpAnyH_ready (rs := [5]) (by kernel_rfl) (by simp) ?_
        refine AllReadyH.cons (o := { dst := some 33, op := .call { callee := .value (.func 52), args := #[.tmp 28, .tmp 32], argTypes := #[25, 39] }, type := 39, pos := "outright.go:108", after := #[{ on := 0, ground := .data }, { on := 4, ground := .data }], guard := none }) rfl (fun K hK => ?_) AllReadyH.nil
        go_simp
        refine (NR.out _ hS1).mono ?_
        rintro e v2 ⟨k', o', a', b', d', e', v', h', x', rfl, hna, kb⟩
        go_wp2_with fail
        refine hK.out _ _ (hS1.trans kb) (fun hS2 => ?_)
        clear hK K
        try simp only [Act.put, zq1, zq2, zq3]
        refine wpAnyH_ready (rs := [7]) (by kernel_rfl) (by simp) ?_
        refine AllReadyH.cons (o := { dst := none, op := .store 39 (.tmp 6) (.tmp 33), type := 0, pos := "outright.go:108", after := #[{ on := 6, ground := .data }, { on := 5, ground := .data }, { on := 5, ground := .chain }, { on := 0, ground := .phase }, { on := 1, ground := .phase }, { on := 2, ground := .phase }, { on := 3, ground := .phase }, { on := 4, ground := .phase }, { on := 5, ground := .phase }, { on := 6, ground := .phase }], guard := none }) rfl (fun K hK => ?_) AllReadyH.nil
        have QB : Blk v2 gn #[.int .i64 0, .int .i64 0, .int .i64 0, .int .i64 0, .int .i64 0, .int .i64 0, .int .i64 0, .int .i64 0, .int .u64 0] 39 := by first | exact gnb.out | exact gnb.out.bel kb
        obtain ⟨q0, q1, q2, q3, q4, q5, q6, q7, q8⟩ : (_ ∧ _ ∧ _ ∧ _ ∧ _ ∧ _ ∧ _ ∧ _ ∧ _) := ⟨QB.cell 0 rfl, QB.cell 1 rfl, QB.cell 2 rfl, QB.cell 3 rfl, QB.cell 4 rfl, QB.cell 5 rfl, QB.cell 6 rfl, QB.cell 7 rfl, QB.cell 8 rfl⟩
        obtain ⟨qf0, qf1, qf2, qf3, qf4, qf5, qf6, qf7, qf8⟩ : (_ ∧ _ ∧ _ ∧ _ ∧ _ ∧ _ ∧ _ ∧ _ ∧ _) := ⟨QB.frozen 0, QB.frozen 1, QB.frozen 2, QB.frozen 3, QB.frozen 4, QB.frozen 5, QB.frozen 6, QB.frozen 7, QB.frozen 8⟩
        go_simp
        refine hK.out _ _ (((((((((hS2.set (p := ⟨gn, 0, none⟩) gnl.out _).set (p := ⟨gn, 1, none⟩) gnl.out _).set (p := ⟨gn, 2, none⟩) gnl.out _).set (p := ⟨gn, 3, none⟩) gnl.out _).set (p := ⟨gn, 4, none⟩) gnl.out _).set (p := ⟨gn, 5, none⟩) gnl.out _).set (p := ⟨gn, 6, none⟩) gnl.out _).set (p := ⟨gn, 7, none⟩) gnl.out _).set (p := ⟨gn, 8, none⟩) gnl.out _) (fun hS3 => ?_)
        clear hK K
        try simp only [Act.put, zq1, zq2, zq3]
        refine wpAnyH_done (by kernel_rfl) ?_ _
        have RB := Lib.hid (bset (Y := [.int .i64 k', .int .i64 o', .int .i64 a', .int .i64 b', .int .i64 d', .int .i64 e', .int .i64 v', .int .i64 h', .int .u64 0]) (Y' := [.int .i64 k', .int .i64 o', .int .i64 a', .int .i64 b', .int .i64 d', .int .i64 e', .int .i64 v', .int .i64 h', .int .u64 x']) (bset (Y := [.int .i64 k', .int .i64 o', .int .i64 a', .int .i64 b', .int .i64 d', .int .i64 e', .int .i64 v', .int .i64 0, .int .u64 0]) (Y' := [.int .i64 k', .int .i64 o', .int .i64 a', .int .i64 b', .int .i64 d', .int .i64 e', .int .i64 v', .int .i64 h', .int .u64 0]) (bset (Y := [.int .i64 k', .int .i64 o', .int .i64 a', .int .i64 b', .int .i64 d', .int .i64 e', .int .i64 0, .int .i64 0, .int .u64 0]) (Y' := [.int .i64 k', .int .i64 o', .int .i64 a', .int .i64 b', .int .i64 d', .int .i64 e', .int .i64 v', .int .i64 0, .int .u64 0]) (bset (Y := [.int .i64 k', .int .i64 o', .int .i64 a', .int .i64 b', .int .i64 d', .int .i64 0, .int .i64 0, .int .i64 0, .int .u64 0]) (Y' := [.int .i64 k', .int .i64 o', .int .i64 a', .int .i64 b', .int .i64 d', .int .i64 e', .int .i64 0, .int .i64 0, .int .u64 0]) (bset (Y := [.int .i64 k', .int .i64 o', .int .i64 a', .int .i64 b', .int .i64 0, .int .i64 0, .int .i64 0, .int .i64 0, .int .u64 0]) (Y' := [.int .i64 k', .int .i64 o', .int .i64 a', .int .i64 b', .int .i64 d', .int .i64 0, .int .i64 0, .int .i64 0, .int .u64 0]) (bset (Y := [.int .i64 k', .int .i64 o', .int .i64 a', .int .i64 0, .int .i64 0, .int .i64 0, .int .i64 0, .int .i64 0, .int .u64 0]) (Y' := [.int .i64 k', .int .i64 o', .int .i64 a', .int .i64 b', .int .i64 0, .int .i64 0, .int .i64 0, .int .i64 0, .int .u64 0]) (bset (Y := [.int .i64 k', .int .i64 o', .int .i64 0, .int .i64 0, .int .i64 0, .int .i64 0, .int .i64 0, .int .i64 0, .int .u64 0]) (Y' := [.int .i64 k', .int .i64 o', .int .i64 a', .int .i64 0, .int .i64 0, .int .i64 0, .int .i64 0, .int .i64 0, .int .u64 0]) (bset (Y := [.int .i64 k', .int .i64 0, .int .i64 0, .int .i64 0, .int .i64 0, .int .i64 0, .int .i64 0, .int .i64 0, .int .u64 0]) (Y' := [.int .i64 k', .int .i64 o', .int .i64 0, .int .i64 0, .int .i64 0, .int .i64 0, .int .i64 0, .int .i64 0, .int .u64 0]) (bset (Y := [.int .i64 0, .int .i64 0, .int .i64 0, .int .i64 0, .int .i64 0, .int .i64 0, .int .i64 0, .int .i64 0, .int .u64 0]) (Y' := [.int .i64 k', .int .i64 0, .int .i64 0, .int .i64 0, .int .i64 0, .int .i64 0, .int .i64 0, .int .i64 0, .int .u64 0]) (QB) 0 (.int .i64 k') rfl) 1 (.int .i64 o') rfl) 2 (.int .i64 a') rfl) 3 (.int .i64 b') rfl) 4 (.int .i64 d') rfl) 5 (.int .i64 e') rfl) 6 (.int .i64 v') rfl) 7 (.int .i64 h') rfl) 8 (.int .u64 x') rfl)
        have HE := Lib.hid hS3
        clear q0 q1 q2 q3 q4 q5 q6 q7 q8 qf0 qf1 qf2 qf3 qf4 qf5 qf6 qf7 qf8
        go_wp2_with fail
        go_meet
        exact ⟨gn, k', o', a', b', d', e', v', h', x', rfl, Lib.hid ⟨hna, RB.out, HE.out⟩⟩
    case rest =>
      obtain ⟨q, k', o', a', b', d', e', v', h', x', rfl, hh⟩ := hcut
      have HNA := Lib.hid hh.out.1
      have XB := Lib.hid hh.out.2.1
      have BC := Lib.hid hh.out.2.2
      clear hh NR HAW HRW
      have VC := Lib.hid (VX.out.bel BC.out)
      have HH2 := Lib.hid (HH1.out.bel BC.out)
      have HT := Lib.hid VX.out.hd.ok.tot
      have AL := Lib.hid (fun U (hU : Bel wc U) => all_of (HH2.out.bel hU) VX.out.hd.ok)
      have DO := Lib.hid (fun U (hU : Bel wc U) => does_ A1 n1 c1 A2 n2 c2 cs ps k' o' a' b' d' e' v' h' x' U (HH2.out.bel hU) HNA.out.x0 HNA.out.x1)
      have AK := Lib.hid (fun hE => act_keeps VX.out.hd HNA.out hE)
      have HLP := Lib.hid (los_pos VX.out.hd HNA.out)
      have HLN := Lib.hid (Nat.le_trans (los_len cs ps k' o' a' b' d' e' v' h' x') VX.out.hd.ok.len)
      obtain ⟨EE, hEE⟩ : ∃ E, aE cs ps (k', o', a', b', d', e', v', h', x') = E := ⟨_, rfl⟩
      obtain ⟨NN, hNN⟩ : ∃ N, aN cs ps (k', o', a', b', d', e', v', h', x') = N := ⟨_, rfl⟩
      obtain ⟨CC, hCC⟩ : ∃ l, aC cs ps (k', o', a', b', d', e', v', h', x') = l := ⟨_, rfl⟩
      obtain ⟨PP, hPP⟩ : ∃ l, aP cs ps (k', o', a', b', d', e', v', h', x') = l := ⟨_, rfl⟩
      obtain ⟨LL, hLL⟩ : ∃ l, aL cs ps (k', o', a', b', d', e', v', h', x') = l := ⟨_, rfl⟩
      rw [hEE, hNN, hCC, hPP, hLL] at DO AK
      rw [hLL] at HLP HLN
      have u0 := VC.out.blk.cell 0 rfl
      have u1 := VC.out.blk.cell 1 rfl
      obtain ⟨TT, hTT⟩ : ∃ T, sumT cs = T := ⟨_, rfl⟩
      rw [hTT] at AL AK HT
      clear hEE hNN hCC hPP hLL hTT HH1 VX
      go_wp2_with fail
      refine (AL.out _ (Bel.refl _)).mono ?_
      rintro r U1 ⟨rfl, kb⟩
      have B1 := Lib.hid kb
      clear kb u0 u1
      have u0 := (VC.out.blk.bel B1.out).cell 0 rfl
      have u1 := (VC.out.blk.bel B1.out).cell 1 rfl
      have HXR := Lib.hid (rngB (XB.out.bel B1.out))
      go_wp2_with ((with_reducible refine Rw.load_g ?_ 39 (.tmp 6) ?_ q 0 ?_ [.int .i64 k', .int .i64 o', .int .i64 a', .int .i64 b', .int .i64 d', .int .i64 e', .int .i64 v', .int .i64 h', .int .u64 x'] _ HXR.out Tryz.underlying39 ?_ ?_ ?_); rfl; rfl; rfl; rfl; kernel_rfl)
      refine (DO.out _ B1.out).mono ?_
      rintro r U2 ⟨v1, v2, lv, rfl, _, _, ol', kb, hown⟩
      obtain ⟨own1, own2⟩ := hown HNA.out.k0 HNA.out.k2
      obtain ⟨F1, f1, e1, s1, _⟩ := own1.rs c6C
      obtain ⟨F2, f2, e2, s2, _⟩ := own2.rs c6P
      obtain ⟨F3, f3, e3⟩ := ownL_slice ol'
      subst e1 e2 e3
      have LSL := Lib.hid (rsL ol')
      have BU2 := Lib.hid (B1.out.trans kb)
      obtain ⟨N1, hN1⟩ : ∃ N, CC.length = N := ⟨_, rfl⟩
      obtain ⟨N2, hN2⟩ : ∃ N, PP.length = N := ⟨_, rfl⟩
      obtain ⟨N3, hN3⟩ : ∃ N, LL.length = N := ⟨_, rfl⟩
      rw [hN1] at own1 s1 ⊢
      rw [hN2] at own2 s2 ⊢
      rw [hN3] at LSL HLN ⊢
      obtain ⟨V2, hV2⟩ : ∃ V2, U2.alloc (.cells #[.slice F1 N1 f1, .slice F2 N2 f2] 25) = V2 := ⟨_, rfl⟩
      have BV2 := Lib.hid (show Bel U2 V2 by rw [← hV2]; exact (Bel.refl U2).alloc _)
      have PG := Lib.hid (show Blk V2 U2.heap.size #[.slice F1 N1 f1, .slice F2 N2 f2] 25 by rw [← hV2]; exact Blk.new _ _ _)
      have O1 := Lib.hid (own1.bel BV2.out)
      have O2 := Lib.hid (own2.bel BV2.out)
      have HBS := Lib.hid (show g + 1 ≤ U1.heap.size from Nat.le_trans VC.out.blk.lt (Below.size B1.out))
      have BT := Lib.hid (BU2.out.trans BV2.out)
      have LS2 := Lib.hid (LSL.out.bel BV2.out)
      have HN3 := Lib.hid hN3
      clear own1 own2 ol' kb s1 s2 hN1 hN2 hN3 u0 u1 HXR DO LSL hown
      go_upto_region 11 with fail
      try rw [hV2]
      obtain ⟨gg, hgg⟩ : ∃ g, U2.heap.size = g := ⟨_, rfl⟩
      rw [hgg] at PG ⊢
      clear hgg hV2 BV2
      have w0 := PG.out.cell 0 rfl
      have w1 := PG.out.cell 1 rfl
      by_cases hE0 : EE = 0
      case neg =>
        have hEb : (EE != 0) = true := by rw [bne_iff_ne]; exact hE0
        have NX := Lib.hid (show Vo V2 g A1 n1 c1 A2 n2 c2 cs ps ∧ ps.length ≤ i + 1 ∧ Bel w V2 from ⟨VC.out.bel BT.out, by have := HPL.out; omega, BL.out.trans (BC.out.trans BT.out)⟩)
        go_wp2_with fail
        go_roundw
        case rel => exact ⟨i + 1, by go_num, by omega, _, _, _, _, _, _, _, _, NX⟩
        case measure => simp [intOf]; omega
      subst hE0
      obtain ⟨hd, hpl, hk0, hkn, hk2, hkl⟩ := AK.out rfl
      have HD := Lib.hid hd
      have HPP := Lib.hid hpl
      have HS1 := Lib.hid (show (k' = 0 → sumT CC = TT + x') ∧ (¬ k' = 0 → sumT CC + NN = TT ∧ 0 ≤ NN) ∧ sumT LL ≤ 4611686018427387904 ∧ (k' = 2 → sumT LL = NN) from ⟨hk0, hkn, by
        by_cases h2 : k' = 2
        · have h3 := hk2 h2
          obtain ⟨h4, h5⟩ := hkn (by omega)
          have h6 := HT.out
          have h7 : 0 ≤ sumT CC := by
            have := (sumT_pre CC (fun r hr => (hd.wc r hr).1) 0)
            have e0 : sumT (CC.take 0) = 0 := rfl
            omega
          omega
        · rw [hkl h2]
          show (0 : Int) ≤ _
          decide, hk2⟩)
      have h7 := (sumT_pre CC (fun r hr => (hd.wc r hr).1) 0)
      have e0 : sumT (CC.take 0) = 0 := rfl
      have HTC := Lib.hid (show 0 ≤ sumT CC ∧ sumT CC ≤ 4611686018427387904 from ⟨by omega, hd.ok.tot⟩)
      have HHG := Lib.hid (show HH V2 F1 N1 f1 F2 N2 f2 CC PP from by
        have h1 := own_rsC O1.out
        have h2 := own_rsP O2.out
        have e1 := h1.len
        have e2 := h2.len
        exact ⟨h1, h2, by have := hd.ok.len; omega, by have := HPL.out; omega, hd.wc, hd.wp⟩)
      have AG := Lib.hid (fun U (hU : Bel V2 U) => all_of (HHG.out.bel hU) HD.out.ok)
      have CG := Lib.hid (fun U (hU : Bel V2 U) => chk_of (HHG.out.bel hU) HD.out.ok)
      obtain ⟨NW, hNW⟩ : ∃ T, sumT CC = T := ⟨_, rfl⟩
      rw [hNW] at AG HS1 HTC
      clear hd hpl hk0 hkn hk2 hkl AK hNW h7 e0
      go_wp2_with fail
      refine (AG.out _ (Bel.refl _)).mono ?_
      rintro r U3 ⟨rfl, kb⟩
      have B3 := Lib.hid kb
      clear kb w0 w1
      go_upto_region 17 with fail
      go_wp2_with fail
      go_loopw [15, 16] (fun s j wr2 => ∃ m : Nat, j = .int .i64 m ∧ m ≤ N3 ∧ s = .int .u64 (sumT (LL.take m)) ∧ Hid (Bel V2 wr2)) (fun _ j _ => N3 - (intOf j).toNat)
      case atStart => exact ⟨0, rfl, Nat.zero_le _, rfl, B3⟩
      case round =>
        obtain ⟨m, rfl, hm, rfl, hb⟩ := hrel
        by_cases hml : m < N3
        · have hml3 : (m : Int) < N3 := by omega
          have hN1k : N3 ≤ 1024 := HLN.out
          have hm0 : (0 : Int) ≤ m := by omega
          obtain ⟨AF, cF, eF, rF⟩ := (LS2.out.bel hb.out).slice
          have hLm : m < LL.length := by rw [HN3.out]; exact hml
          obtain ⟨⟨t1, t2, t3, t4, t5, t6⟩, hlr⟩ : ∃ y, LL[m]? = some y := ⟨_, List.getElem?_eq_getElem hLm⟩
          have hmr : (LL.map r5)[m]? = some (t1, t2, t3, t4, t5) := by rw [List.getElem?_map, hlr]; rfl
          injection eF with eF1 eF2 eF3
          subst eF1 eF3
          obtain ⟨b3, o3, rfl, _, hrow⟩ := rF.at (by rw [List.length_map]; exact hLm) hmr
          have ct := hrow 4 (.int .u64 t5) rfl
          replace ct : World.cell? _ ⟨b3, o3 + m * 5 + 4, none⟩ = some (.int .u64 t5) := ct
          have hs : sumT (LL.take (m + 1)) = sumT (LL.take m) + t5 := sumT_take LL m _ hlr
          have hp1 := sumT_pre LL HLP.out m
          have hp2 := sumT_pre LL HLP.out (m + 1)
          have hp3 := HS1.out.2.2.1
          obtain ⟨S0, hS0⟩ : ∃ z, sumT (LL.take m) = z := ⟨_, rfl⟩
          obtain ⟨S1, hS1⟩ : ∃ z, sumT (LL.take (m + 1)) = z := ⟨_, rfl⟩
          rw [hS0, hS1] at hs
          rw [hS0] at hp1
          rw [hS1] at hp2
          have wq : IntKind.u64.wrap (S0 + t5) = S1 := by rw [hs]; exact IntWalk.u64_in _ ⟨by omega, by omega⟩
          have HS0 := Lib.hid hS1
          rw [hS0]
          clear hLm hlr hmr rF eF2 hrow hs hp1 hp2 hp3 hS0 hS1
          go_wp2_with fail
          go_roundw
          case rel => exact ⟨m + 1, by go_num, by omega, by rw [HS0.out], hb⟩
          case measure => simp [intOf]; omega
        · obtain rfl : m = N3 := by omega
          rw [show LL.take m = LL from List.take_of_length_le (by rw [HN3.out]; exact Nat.le_refl _)]
          obtain ⟨SL, hSL⟩ : ∃ z, sumT LL = z := ⟨_, rfl⟩
          rw [hSL] at HS1 ⊢
          obtain ⟨Z, hZ⟩ : ∃ Z, wr = Z := ⟨_, rfl⟩
          rw [hZ] at hb ⊢
          have BZ := Lib.hid (BT.out.trans hb.out)
          have HB := Lib.hid hb.out
          have p0 := (XB.out.bel BZ.out).cell 0 rfl
          have p8 := (XB.out.bel BZ.out).cell 8 rfl
          have hx0 := HNA.out.x0
          have hx1 := HNA.out.x1
          have hs := HS1.out
          have ht := HT.out
          have htc := HTC.out
          have hkk := HNA.out
          clear hb hZ hSL
          have HKK := Lib.hid hkk
          clear hkk
          by_cases c0 : k' = 0
          case pos =>
            subst c0
            have e1 := hs.1 rfl
            have wq : IntKind.u64.wrap (TT + x') = NW := by rw [e1]; exact IntWalk.u64_in _ ⟨by omega, by omega⟩
            have eq1 : (NW == NW) = true := by simp
            clear e1 hs
            clear hx0 hx1 ht htc
            go_wp2_with fail
            refine (held_ true _).mono ?_
            rintro r Z1 ⟨rfl, rfl⟩
            have w0 := (PG.out.bel HB.out).cell 0 rfl
            have w1 := (PG.out.bel HB.out).cell 1 rfl
            clear p0 p8
            go_wp2_with fail
            refine (CG.out _ HB.out).mono ?_
            rintro r Z2 ⟨rfl, kb⟩
            have BE := Lib.hid (HB.out.trans kb)
            have VE := Lib.hid (VC.out.bel (BZ.out.trans kb))
            have BEE := Lib.hid (BL.out.trans (BC.out.trans (BZ.out.trans kb)))
            clear kb w0 w1
            have w0 := (PG.out.bel BE.out).cell 0 rfl
            have w1 := (PG.out.bel BE.out).cell 1 rfl
            have z0 := VE.out.blk.cell 0 rfl
            have z1 := VE.out.blk.cell 1 rfl
            have zf0 := VE.out.blk.frozen 0
            have zf1 := VE.out.blk.frozen 1
            have NX := Lib.hid (show Vo ((Z2.setCell ⟨g, 0, none⟩ (.slice F1 N1 f1)).setCell ⟨g, 1, none⟩ (.slice F2 N2 f2)) g F1 N1 f1 F2 N2 f2 CC PP ∧ PP.length ≤ i + 1 ∧ Bel w ((Z2.setCell ⟨g, 0, none⟩ (.slice F1 N1 f1)).setCell ⟨g, 1, none⟩ (.slice F2 N2 f2)) from
              ⟨VE.out.put (O1.out.bel BE.out) (O2.out.bel BE.out) HBS.out HD.out, by have := HPL.out; have := HPP.out; omega, (BEE.out.set (p := ⟨g, 0, none⟩) HGE.out _).set (p := ⟨g, 1, none⟩) HGE.out _⟩)
            go_wp2_with fail
            go_roundw
            case rel => exact ⟨i + 1, by go_num, by omega, _, _, _, _, _, _, _, _, NX⟩
            case measure => simp [intOf]; omega
          by_cases c1 : k' = 1
          case pos =>
            subst c1
            have e1 := hs.2.1 (by decide)
            have wq : IntKind.u64.wrap (NW + NN) = TT := by rw [e1.1]; exact IntWalk.u64_in _ ⟨by omega, by omega⟩
            have eq1 : (TT == TT) = true := by simp
            clear e1 hs
            clear hx0 hx1 ht htc
            go_wp2_with fail
            refine (held_ true _).mono ?_
            rintro r Z1 ⟨rfl, rfl⟩
            have w0 := (PG.out.bel HB.out).cell 0 rfl
            have w1 := (PG.out.bel HB.out).cell 1 rfl
            clear p0 p8
            go_wp2_with fail
            refine (CG.out _ HB.out).mono ?_
            rintro r Z2 ⟨rfl, kb⟩
            have BE := Lib.hid (HB.out.trans kb)
            have VE := Lib.hid (VC.out.bel (BZ.out.trans kb))
            have BEE := Lib.hid (BL.out.trans (BC.out.trans (BZ.out.trans kb)))
            clear kb w0 w1
            have w0 := (PG.out.bel BE.out).cell 0 rfl
            have w1 := (PG.out.bel BE.out).cell 1 rfl
            have z0 := VE.out.blk.cell 0 rfl
            have z1 := VE.out.blk.cell 1 rfl
            have zf0 := VE.out.blk.frozen 0
            have zf1 := VE.out.blk.frozen 1
            have NX := Lib.hid (show Vo ((Z2.setCell ⟨g, 0, none⟩ (.slice F1 N1 f1)).setCell ⟨g, 1, none⟩ (.slice F2 N2 f2)) g F1 N1 f1 F2 N2 f2 CC PP ∧ PP.length ≤ i + 1 ∧ Bel w ((Z2.setCell ⟨g, 0, none⟩ (.slice F1 N1 f1)).setCell ⟨g, 1, none⟩ (.slice F2 N2 f2)) from
              ⟨VE.out.put (O1.out.bel BE.out) (O2.out.bel BE.out) HBS.out HD.out, by have := HPL.out; have := HPP.out; omega, (BEE.out.set (p := ⟨g, 0, none⟩) HGE.out _).set (p := ⟨g, 1, none⟩) HGE.out _⟩)
            go_wp2_with fail
            go_roundw
            case rel => exact ⟨i + 1, by go_num, by omega, _, _, _, _, _, _, _, _, NX⟩
            case measure => simp [intOf]; omega
          have c2 : k' = 2 := by have := HNA.out.k0; have := HNA.out.k2; omega
          subst c2
          have e1 := hs.2.1 (by decide)
          obtain rfl : SL = NN := hs.2.2.2 rfl
          have wq : IntKind.u64.wrap (NW + SL) = TT := by rw [e1.1]; exact IntWalk.u64_in _ ⟨by omega, by omega⟩
          have eq1 : (TT == TT) = true := by simp
          have eq2 : (SL == SL) = true := by simp
          clear e1 hs c0 c1
          clear hx0 hx1 ht htc
          go_wp2_with fail
          refine (held_ true _).mono ?_
          rintro r Z1 ⟨rfl, rfl⟩
          have w0 := (PG.out.bel HB.out).cell 0 rfl
          have w1 := (PG.out.bel HB.out).cell 1 rfl
          clear p0 p8
          go_wp2_with fail
          refine (CG.out _ HB.out).mono ?_
          rintro r Z2 ⟨rfl, kb⟩
          have BE := Lib.hid (HB.out.trans kb)
          have VE := Lib.hid (VC.out.bel (BZ.out.trans kb))
          have BEE := Lib.hid (BL.out.trans (BC.out.trans (BZ.out.trans kb)))
          clear kb w0 w1
          have w0 := (PG.out.bel BE.out).cell 0 rfl
          have w1 := (PG.out.bel BE.out).cell 1 rfl
          have z0 := VE.out.blk.cell 0 rfl
          have z1 := VE.out.blk.cell 1 rfl
          have zf0 := VE.out.blk.frozen 0
          have zf1 := VE.out.blk.frozen 1
          have NX := Lib.hid (show Vo ((Z2.setCell ⟨g, 0, none⟩ (.slice F1 N1 f1)).setCell ⟨g, 1, none⟩ (.slice F2 N2 f2)) g F1 N1 f1 F2 N2 f2 CC PP ∧ PP.length ≤ i + 1 ∧ Bel w ((Z2.setCell ⟨g, 0, none⟩ (.slice F1 N1 f1)).setCell ⟨g, 1, none⟩ (.slice F2 N2 f2)) from
            ⟨VE.out.put (O1.out.bel BE.out) (O2.out.bel BE.out) HBS.out HD.out, by have := HPL.out; have := HPP.out; omega, (BEE.out.set (p := ⟨g, 0, none⟩) HGE.out _).set (p := ⟨g, 1, none⟩) HGE.out _⟩)
          go_wp2_with fail
          go_roundw
          case rel => exact ⟨i + 1, by go_num, by omega, _, _, _, _, _, _, _, _, NX⟩
          case measure => simp [intOf]; omega
end Ho
end Go.Proofs.YtneajcoiemkfbaaGreat
end

section
/-
  What structs of integers, as they come in as arguments, tell a walk. No condition.
-/
namespace Go.Proofs.YtneajcoiemkfbaaGreat
open Go.ChangeShapes Go.WideShapes Go.ChangeAt Go.RowKit
set_option linter.unusedVariables false
set_option linter.unusedSimpArgs false

theorem take_one {l : List Value} {o : Nat} {v : Value} (h : (l.drop o).take 1 = [v]) : l[o]? = some v := by
  have : ((l.drop o).take 1)[0]? = some v := by rw [h]; rfl
  simpa [List.getElem?_take, List.getElem?_drop] using this

set_option maxRecDepth 10000 in
theorem stamp_of {H : Type} {enc : TypeId × Value → H} {W : World} {cs : List Value} {fuel : Nat} {u : DataW H × List MemPlace} (hsz : cs.length = 4)
    (hf : DataW.trod enc Tryz.prog W 0 (fun _ => true) true fuel 37 cs = some u) : ∃ z0 z1 z2 z3 : Int, (-9223372036854775808 ≤ z0 ∧ z0 ≤ 9223372036854775807 ∧ -9223372036854775808 ≤ z1 ∧ z1 ≤ 9223372036854775807 ∧ -9223372036854775808 ≤ z2 ∧ z2 ≤ 9223372036854775807 ∧ -9223372036854775808 ≤ z3 ∧ z3 ≤ 9223372036854775807) ∧ cs = [.int .i64 z0, .int .i64 z1, .int .i64 z2, .int .i64 z3] := by
  obtain ⟨xs, n, _, _, hl, hlen, hg⟩ := DataW.trod_struct Tryz.underlying37 hf
  have hlen : xs.length = 4 := hlen
  have get : ∀ i, i < 4 → xs[i]? = some (xs.getD i (.nil, [])) := fun i hi => by
    rw [List.getD_eq_getElem?_getD, List.getElem?_eq_getElem (by omega)]
    rfl
  have one : ∀ (t : TypeId) (k : IntKind) (o : Nat) (u : DataW H × List MemPlace), Tryz.prog.underlying t = some (.int k) → DataW.trod enc Tryz.prog W 0 (fun _ => true) true n t ((cs.drop o).take 1) = some u → ∃ z, (cs.drop o).take 1 = [.int k z] ∧ (Lit.int k z).wf = true := fun t k o u ht hu => by
    obtain ⟨z, hz, _, hw⟩ := DataW.trod_int ht hu
    exact ⟨z, hz, hw⟩
  have q0 : DataW.trod enc Tryz.prog W 0 (fun _ => true) true n 3 ((cs.drop 0).take (Tryz.prog.cellsOf 3)) = some (xs.getD 0 (.nil, [])) := (hg 0 _ rfl).trans (get 0 (by decide))
  rw [show Tryz.prog.cellsOf 3 = 1 by kernel_rfl] at q0
  obtain ⟨z0, c0, w0⟩ := one _ _ 0 _ Tryz.underlying3 q0
  have q1 : DataW.trod enc Tryz.prog W 0 (fun _ => true) true n 3 ((cs.drop 1).take (Tryz.prog.cellsOf 3)) = some (xs.getD 1 (.nil, [])) := (hg 1 _ rfl).trans (get 1 (by decide))
  rw [show Tryz.prog.cellsOf 3 = 1 by kernel_rfl] at q1
  obtain ⟨z1, c1, w1⟩ := one _ _ 1 _ Tryz.underlying3 q1
  have q2 : DataW.trod enc Tryz.prog W 0 (fun _ => true) true n 3 ((cs.drop 2).take (Tryz.prog.cellsOf 3)) = some (xs.getD 2 (.nil, [])) := (hg 2 _ rfl).trans (get 2 (by decide))
  rw [show Tryz.prog.cellsOf 3 = 1 by kernel_rfl] at q2
  obtain ⟨z2, c2, w2⟩ := one _ _ 2 _ Tryz.underlying3 q2
  have q3 : DataW.trod enc Tryz.prog W 0 (fun _ => true) true n 3 ((cs.drop 3).take (Tryz.prog.cellsOf 3)) = some (xs.getD 3 (.nil, [])) := (hg 3 _ rfl).trans (get 3 (by decide))
  rw [show Tryz.prog.cellsOf 3 = 1 by kernel_rfl] at q3
  obtain ⟨z3, c3, w3⟩ := one _ _ 3 _ Tryz.underlying3 q3
  refine ⟨z0, z1, z2, z3, ⟨(i64_of_wf w0).1, (i64_of_wf w0).2, (i64_of_wf w1).1, (i64_of_wf w1).2, (i64_of_wf w2).1, (i64_of_wf w2).2, (i64_of_wf w3).1, (i64_of_wf w3).2⟩, ?_⟩
  match cs, hsz with
  | [v0, v1, v2, v3], _ =>
    simp only [List.drop_succ_cons, List.drop_zero, List.take_succ_cons, List.take_zero, List.cons.injEq, and_true, List.drop, List.take] at c0 c1 c2 c3
    simp [c0, c1, c2, c3]

set_option maxRecDepth 10000 in
theorem stamp_in {H : Type} {enc : TypeId × Value → H} {W : World} {r : Reach} {b0 : Nat} {v : Value} {d : DataW H} {p : List MemPlace}
    (hv : Value.okWide Tryz.prog W r b0 37 v) (h : DataW.Trod enc Tryz.prog W 0 (fun _ => true) true 37 v d p) :
    ∃ z0 z1 z2 z3 : Int, v = .agg #[.int .i64 z0, .int .i64 z1, .int .i64 z2, .int .i64 z3] ∧ (-9223372036854775808 ≤ z0 ∧ z0 ≤ 9223372036854775807 ∧ -9223372036854775808 ≤ z1 ∧ z1 ≤ 9223372036854775807 ∧ -9223372036854775808 ≤ z2 ∧ z2 ≤ 9223372036854775807 ∧ -9223372036854775808 ≤ z3 ∧ z3 ≤ 9223372036854775807) := by
  obtain ⟨cs, rfl, hsz⟩ := okWide_struct Tryz.underlying37 hv
  have hsz : cs.size = 4 := hsz.trans (by kernel_rfl)
  obtain ⟨fuel, hf⟩ := h
  obtain ⟨z0, z1, z2, z3, hb, e⟩ := stamp_of (cs := cs.toList) (by simpa using hsz) hf
  refine ⟨z0, z1, z2, z3, ?_, hb⟩
  have : cs = [.int .i64 z0, .int .i64 z1, .int .i64 z2, .int .i64 z3].toArray := by rw [← e]
  rw [this]

set_option maxRecDepth 10000 in
theorem act_of {H : Type} {enc : TypeId × Value → H} {W : World} {cs : List Value} {fuel : Nat} {u : DataW H × List MemPlace} (hsz : cs.length = 9)
    (hf : DataW.trod enc Tryz.prog W 0 (fun _ => true) true fuel 39 cs = some u) : ∃ z0 z1 z2 z3 z4 z5 z6 z7 z8 : Int, (-9223372036854775808 ≤ z0 ∧ z0 ≤ 9223372036854775807 ∧ -9223372036854775808 ≤ z1 ∧ z1 ≤ 9223372036854775807 ∧ -9223372036854775808 ≤ z2 ∧ z2 ≤ 9223372036854775807 ∧ -9223372036854775808 ≤ z3 ∧ z3 ≤ 9223372036854775807 ∧ -9223372036854775808 ≤ z4 ∧ z4 ≤ 9223372036854775807 ∧ -9223372036854775808 ≤ z5 ∧ z5 ≤ 9223372036854775807 ∧ -9223372036854775808 ≤ z6 ∧ z6 ≤ 9223372036854775807 ∧ -9223372036854775808 ≤ z7 ∧ z7 ≤ 9223372036854775807 ∧ 0 ≤ z8 ∧ z8 ≤ 18446744073709551615) ∧ cs = [.int .i64 z0, .int .i64 z1, .int .i64 z2, .int .i64 z3, .int .i64 z4, .int .i64 z5, .int .i64 z6, .int .i64 z7, .int .u64 z8] := by
  obtain ⟨xs, n, _, _, hl, hlen, hg⟩ := DataW.trod_struct Tryz.underlying39 hf
  have hlen : xs.length = 6 := hlen
  have get : ∀ i, i < 6 → xs[i]? = some (xs.getD i (.nil, [])) := fun i hi => by
    rw [List.getD_eq_getElem?_getD, List.getElem?_eq_getElem (by omega)]
    rfl
  have one : ∀ (t : TypeId) (k : IntKind) (o : Nat) (u : DataW H × List MemPlace), Tryz.prog.underlying t = some (.int k) → DataW.trod enc Tryz.prog W 0 (fun _ => true) true n t ((cs.drop o).take 1) = some u → ∃ z, (cs.drop o).take 1 = [.int k z] ∧ (Lit.int k z).wf = true := fun t k o u ht hu => by
    obtain ⟨z, hz, _, hw⟩ := DataW.trod_int ht hu
    exact ⟨z, hz, hw⟩
  have q0 : DataW.trod enc Tryz.prog W 0 (fun _ => true) true n 3 ((cs.drop 0).take (Tryz.prog.cellsOf 3)) = some (xs.getD 0 (.nil, [])) := (hg 0 _ rfl).trans (get 0 (by decide))
  rw [show Tryz.prog.cellsOf 3 = 1 by kernel_rfl] at q0
  obtain ⟨z0, c0, w0⟩ := one _ _ 0 _ Tryz.underlying3 q0
  have q1 : DataW.trod enc Tryz.prog W 0 (fun _ => true) true n 3 ((cs.drop 1).take (Tryz.prog.cellsOf 3)) = some (xs.getD 1 (.nil, [])) := (hg 1 _ rfl).trans (get 1 (by decide))
  rw [show Tryz.prog.cellsOf 3 = 1 by kernel_rfl] at q1
  obtain ⟨z1, c1, w1⟩ := one _ _ 1 _ Tryz.underlying3 q1
  have q2 : DataW.trod enc Tryz.prog W 0 (fun _ => true) true n 37 ((cs.drop 2).take (Tryz.prog.cellsOf 37)) = some (xs.getD 2 (.nil, [])) := (hg 2 _ rfl).trans (get 2 (by decide))
  rw [show Tryz.prog.cellsOf 37 = 4 by kernel_rfl] at q2
  obtain ⟨z2, z3, z4, z5, ⟨l2, h2, l3, h3, l4, h4, l5, h5⟩, c2⟩ := stamp_of (by rw [List.length_take, List.length_drop, hsz]; rfl) q2
  have q3 : DataW.trod enc Tryz.prog W 0 (fun _ => true) true n 3 ((cs.drop 6).take (Tryz.prog.cellsOf 3)) = some (xs.getD 3 (.nil, [])) := (hg 3 _ rfl).trans (get 3 (by decide))
  rw [show Tryz.prog.cellsOf 3 = 1 by kernel_rfl] at q3
  obtain ⟨z6, c3, w3⟩ := one _ _ 6 _ Tryz.underlying3 q3
  have q4 : DataW.trod enc Tryz.prog W 0 (fun _ => true) true n 3 ((cs.drop 7).take (Tryz.prog.cellsOf 3)) = some (xs.getD 4 (.nil, [])) := (hg 4 _ rfl).trans (get 4 (by decide))
  rw [show Tryz.prog.cellsOf 3 = 1 by kernel_rfl] at q4
  obtain ⟨z7, c4, w4⟩ := one _ _ 7 _ Tryz.underlying3 q4
  have q5 : DataW.trod enc Tryz.prog W 0 (fun _ => true) true n 32 ((cs.drop 8).take (Tryz.prog.cellsOf 32)) = some (xs.getD 5 (.nil, [])) := (hg 5 _ rfl).trans (get 5 (by decide))
  rw [show Tryz.prog.cellsOf 32 = 1 by kernel_rfl] at q5
  obtain ⟨z8, c5, w5⟩ := one _ _ 8 _ Tryz.underlying32 q5
  refine ⟨z0, z1, z2, z3, z4, z5, z6, z7, z8, ⟨(i64_of_wf w0).1, (i64_of_wf w0).2, (i64_of_wf w1).1, (i64_of_wf w1).2, l2, h2, l3, h3, l4, h4, l5, h5, (i64_of_wf w3).1, (i64_of_wf w3).2, (i64_of_wf w4).1, (i64_of_wf w4).2, (u64_of_wf w5).1, (u64_of_wf w5).2⟩, ?_⟩
  match cs, hsz with
  | [v0, v1, v2, v3, v4, v5, v6, v7, v8], _ =>
    simp only [List.drop_succ_cons, List.drop_zero, List.take_succ_cons, List.take_zero, List.cons.injEq, and_true, List.drop, List.take] at c0 c1 c2 c3 c4 c5
    simp [c0, c1, c2, c3, c4, c5]

set_option maxRecDepth 10000 in
theorem act_in {H : Type} {enc : TypeId × Value → H} {W : World} {r : Reach} {b0 : Nat} {v : Value} {d : DataW H} {p : List MemPlace}
    (hv : Value.okWide Tryz.prog W r b0 39 v) (h : DataW.Trod enc Tryz.prog W 0 (fun _ => true) true 39 v d p) :
    ∃ z0 z1 z2 z3 z4 z5 z6 z7 z8 : Int, v = .agg #[.int .i64 z0, .int .i64 z1, .int .i64 z2, .int .i64 z3, .int .i64 z4, .int .i64 z5, .int .i64 z6, .int .i64 z7, .int .u64 z8] ∧ (-9223372036854775808 ≤ z0 ∧ z0 ≤ 9223372036854775807 ∧ -9223372036854775808 ≤ z1 ∧ z1 ≤ 9223372036854775807 ∧ -9223372036854775808 ≤ z2 ∧ z2 ≤ 9223372036854775807 ∧ -9223372036854775808 ≤ z3 ∧ z3 ≤ 9223372036854775807 ∧ -9223372036854775808 ≤ z4 ∧ z4 ≤ 9223372036854775807 ∧ -9223372036854775808 ≤ z5 ∧ z5 ≤ 9223372036854775807 ∧ -9223372036854775808 ≤ z6 ∧ z6 ≤ 9223372036854775807 ∧ -9223372036854775808 ≤ z7 ∧ z7 ≤ 9223372036854775807 ∧ 0 ≤ z8 ∧ z8 ≤ 18446744073709551615) := by
  obtain ⟨cs, rfl, hsz⟩ := okWide_struct Tryz.underlying39 hv
  have hsz : cs.size = 9 := hsz.trans (by kernel_rfl)
  obtain ⟨fuel, hf⟩ := h
  obtain ⟨z0, z1, z2, z3, z4, z5, z6, z7, z8, hb, e⟩ := act_of (cs := cs.toList) (by simpa using hsz) hf
  refine ⟨z0, z1, z2, z3, z4, z5, z6, z7, z8, ?_, hb⟩
  have : cs = [.int .i64 z0, .int .i64 z1, .int .i64 z2, .int .i64 z3, .int .i64 z4, .int .i64 z5, .int .i64 z6, .int .i64 z7, .int .u64 z8].toArray := by rw [← e]
  rw [this]

set_option maxRecDepth 10000 in
theorem act_row {H : Type} {enc : TypeId × Value → H} {W : World} {A : Option Addr} {len cap : Nat} {d : DataW H} {p : List MemPlace} {fuel : Nat}
    (hf : DataW.trod enc Tryz.prog W 0 (fun _ => true) true fuel 26 (Value.slice A len cap).cells.toList = some (d, p)) : Ho.Acts W A len ∧ len ≤ maxLen := by
  have e46 : Tryz.prog.cellsOf 39 = 9 := by kernel_rfl
  rcases DataW.trod_slice Tryz.underlying26 hf with ⟨hcs, _⟩ | ⟨a, l, c, elems, rest, n, _, hcs, _, _, hle, hcap, hel, hi, _⟩
  · simp [Value.cells] at hcs
    obtain ⟨rfl, rfl, rfl⟩ := hcs
    exact ⟨fun h => absurd h (by omega), by simp [maxLen]⟩
  · simp [Value.cells] at hcs
    obtain ⟨rfl, rfl, rfl⟩ := hcs
    refine ⟨fun hn => ?_, Nat.le_trans hle hcap⟩
    have key : ∀ i, i < len → ∃ (cs : List Value) (z0 z1 z2 z3 z4 z5 z6 z7 z8 : Int), (-9223372036854775808 ≤ z0 ∧ z0 ≤ 9223372036854775807 ∧ -9223372036854775808 ≤ z1 ∧ z1 ≤ 9223372036854775807 ∧ -9223372036854775808 ≤ z2 ∧ z2 ≤ 9223372036854775807 ∧ -9223372036854775808 ≤ z3 ∧ z3 ≤ 9223372036854775807 ∧ -9223372036854775808 ≤ z4 ∧ z4 ≤ 9223372036854775807 ∧ -9223372036854775808 ≤ z5 ∧ z5 ≤ 9223372036854775807 ∧ -9223372036854775808 ≤ z6 ∧ z6 ≤ 9223372036854775807 ∧ -9223372036854775808 ≤ z7 ∧ z7 ≤ 9223372036854775807 ∧ 0 ≤ z8 ∧ z8 ≤ 18446744073709551615) ∧ cs = [.int .i64 z0, .int .i64 z1, .int .i64 z2, .int .i64 z3, .int .i64 z4, .int .i64 z5, .int .i64 z6, .int .i64 z7, .int .u64 z8] ∧ ∀ j v, cs[j]? = some v → W.cell? ((a.add (i * 9)).add j) = some v := fun i hil => by
      have h := hi i hil
      rw [e46, List.getElem?_eq_getElem (by omega)] at h
      obtain ⟨cs', hc, ht⟩ := Option.bind_eq_some_iff.1 h
      obtain ⟨_, hcl, hat⟩ := World.cells?_some hc
      obtain ⟨z0, z1, z2, z3, z4, z5, z6, z7, z8, hb, e⟩ := act_of (by simpa using hcl) ht
      refine ⟨cs', z0, z1, z2, z3, z4, z5, z6, z7, z8, hb, e, fun j v hv => ?_⟩
      have hj : j < 9 := by
        have := (List.getElem?_eq_some_iff.1 hv).1
        omega
      rw [hat j hj]
      exact hv
    obtain ⟨b, o, s⟩ := a
    obtain ⟨cs0, x0, x1, x2, x3, x4, x5, x6, x7, x8, hb0, e0, h0⟩ := key 0 hn
    have hc0 := h0 0 (.int .i64 x0) (by rw [e0]; rfl)
    have hs : s = none := by simpa [Addr.add] using World.cell?_spot hc0
    subst hs
    refine ⟨b, o, rfl, World.block_lt_of_cell? W ⟨b, o, none⟩ (by simpa [Addr.add] using hc0), fun i hil => ?_⟩
    obtain ⟨cs, z0, z1, z2, z3, z4, z5, z6, z7, z8, hb, e, hc⟩ := key i hil
    refine ⟨z0, z1, z2, z3, z4, z5, z6, z7, z8, (by obtain ⟨g0, g1, g2, g3, g4, g5, g6, g7, g8, g9, g10, g11, g12, g13, g14, g15, g16, g17⟩ := hb; exact ⟨g0, g1, g2, g3, g4, g5, g6, g7, g8, g9, g10, g11, g12, g13, g14, g15, g16, g17⟩), fun j v hv => ?_⟩
    have h1 := hc j v (by rw [e]; exact hv)
    rw [Go.Deep.add_add] at h1
    have h2 : (⟨b, o, none⟩ : Addr).add (i * 9 + j) = ⟨b, o + i * 9 + j, none⟩ := by
      unfold Addr.add
      by_cases e : i * 9 + j = 0
      · rw [if_pos e]
        first | (simp; done) | (simp; omega)
      · rw [if_neg e]
        first | rfl | (rw [Nat.add_assoc]; done) | (simp; done) | (simp; omega) | (simp [Nat.add_assoc]; done)
    rwa [h2] at h1

end Go.Proofs.YtneajcoiemkfbaaGreat
end
