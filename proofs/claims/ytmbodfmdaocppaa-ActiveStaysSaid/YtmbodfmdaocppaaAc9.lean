/-
  What distraintref17 answers of any lists: who counts, how many are ahead, Rank and Choose. Conditions: at most a million elements.
-/
import Derived.Test.YtmbodfmdaocppaaAc8
namespace Go.Proofs.Ytmbodfmdaocppaa
open Go.RowKit Go.Shelf
set_option linter.unusedVariables false
set_option linter.unusedSimpArgs false
namespace Ac
open Kk Pm Ro

set_option maxHeartbeats 1000000 in
theorem counts_r (T : Option Addr) (tn tc : Nat) (t : List Int) (M : Option Addr) (mn mc : Nat) (m : List Bool) (i : Nat) (w : World) (ht : Rw.RS uR w T tn tc t) (hm : Rw.RS bR w M mn mc m) (htn : tn ≤ 1000000) (hmn : mn ≤ 1000000) (hi : i ≤ 1000000) :
    Calls Try.prog 36 #[.slice T tn tc, .slice M mn mc, .int .i64 i] w fun e w' => e = .returned (.bool (cn t m i)) ∧ w = w' := by
  have CI := Lib.hid (is_r M mn mc m i w hm (by omega) (by omega))
  have CT := Lib.hid (tok_r T tn tc t i w ht (by omega) (by omega))
  have HC := Lib.hid (show cn t m i = (isb m i && decide (0 < tk t i)) from rfl)
  clear ht hm
  generalize isb m i = x at *
  generalize tk t i = z at *
  generalize cn t m i = r at *
  go_enter Try.func36, Try.ntmps36
  go_wp2_with fail
  refine CI.out.mono ?_
  rintro e w1 ⟨rfl, rfl⟩
  cases x with
  | false =>
    go_wp2_with fail
    go_ret
    exact ⟨by rw [HC.out]; rfl, rfl⟩
  | true =>
    go_wp2_with fail
    refine CT.out.mono ?_
    rintro e w1 ⟨rfl, rfl⟩
    go_wp2_with fail
    go_ret
    exact ⟨by rw [HC.out]; rfl, rfl⟩
set_option maxRecDepth 100000 in
set_option maxHeartbeats 2000000 in
theorem ahead_r (T : Option Addr) (tn tc : Nat) (t : List Int) (M : Option Addr) (mn mc : Nat) (m : List Bool) (i : Nat) (w : World) (ht : Rw.RS uR w T tn tc t) (hm : Rw.RS bR w M mn mc m) (htn : tn ≤ 1000000) (hmn : mn ≤ 1000000) (hi : i ≤ 1000000) :
    Calls Try.prog 37 #[.slice T tn tc, .slice M mn mc, .int .i64 i] w fun e w' => e = .returned (.int .i64 (ah t m i)) ∧ w = w' := by
  have CC := Lib.hid (fun k (hk : k ≤ 1000000) => counts_r T tn tc t M mn mc m k w ht hm htn hmn hk)
  have CT := Lib.hid (fun k (hk : k ≤ 1000000) => tok_r T tn tc t k w ht (by omega) (by omega : k ≤ 1000000000))
  obtain ⟨N, hN⟩ : ∃ N, max tn mn = N := ⟨_, rfl⟩
  have hNi := fun V => max_run (tn : Int) (mn : Int) V
  rw [show max (tn : Int) (mn : Int) = (N : Int) by omega] at hNi
  have hNb : N ≤ 1000000 := by omega
  have HA := Lib.hid (show ah t m i = cnt (fun k => cn t m k && rich t k i) N by unfold ah all; rw [ht.len, hm.len, hN])
  clear ht hm hN
  go_enter Try.func37, Try.ntmps37
  go_wp2_with fail
  go_loopw [7, 8] (fun s7 s8 wr => ∃ k : Nat, ∃ c : Nat, s8 = .int .i64 k ∧ s7 = .int .i64 c ∧ k ≤ N ∧ c ≤ k ∧ w = wr ∧ Hid (c = cnt (fun k => cn t m k && rich t k i) k)) (fun _ s8 _ => N - (intOf s8).toNat)
  case atStart => exact ⟨0, 0, rfl, rfl, Nat.zero_le _, Nat.le_refl _, rfl, Lib.hid rfl⟩
  case round =>
    obtain ⟨k, c, rfl, rfl, hk, hck, rfl, hc⟩ := hrel
    have hw1 : k < N → IntKind.i64.wrap ((k : Int) + 1) = ((k + 1 : Nat) : Int) := fun h => by rw [IntWalk.i64_in _ (by omega)]; omega
    have hw2 : k < N → IntKind.i64.wrap ((c : Int) + 1) = ((c + 1 : Nat) : Int) := fun h => by rw [IntWalk.i64_in _ (by omega)]; omega
    by_cases hlt : k < N
    · replace hw1 := hw1 hlt
      replace hw2 := hw2 hlt
      have hlt3 : (k : Int) < N := by omega
      have C1 := Lib.hid (CT.out k (by omega))
      have C2 := Lib.hid (CT.out i hi)
      have C3 := Lib.hid (CC.out k (by omega))
      have HS := Lib.hid (show ∀ (c' : Nat) (b : Bool), (cn t m k && rich t k i) = b → c' = (if b = true then c + 1 else c) → c' = cnt (fun k => cn t m k && rich t k i) (k + 1) from fun c' b hb h => by
        show c' = cnt (fun k => cn t m k && rich t k i) k + (if (cn t m k && rich t k i) = true then 1 else 0)
        rw [hb, h, ← hc.out]
        cases b <;> simp)
      have HR := Lib.hid (show rich t k i = decide (tk t i < tk t k ∨ (tk t k = tk t i ∧ k < i)) from rfl)
      obtain ⟨x, hx⟩ : ∃ x, cn t m k = x := ⟨_, rfl⟩
      obtain ⟨r, hr⟩ : ∃ r, rich t k i = r := ⟨_, rfl⟩
      rw [hx] at C3
      rw [hx, hr] at HS
      rw [hr] at HR
      clear hx hr
      generalize tk t k = a at *
      generalize tk t i = b at *
      go_wp2_with fail
      refine C1.out.mono ?_
      rintro e w1 ⟨rfl, rfl⟩
      go_wp2_with fail
      refine C2.out.mono ?_
      rintro e w1 ⟨rfl, rfl⟩
      go_wp2_with fail
      refine C3.out.mono ?_
      rintro e w1 ⟨rfl, rfl⟩
      clear C1 C2 C3
      cases x with
      | false =>
        have HF := Lib.hid (HS.out c false (by simp) rfl)
        clear HS HR
        go_wp2_with fail
        go_roundw
        case rel => exact ⟨k + 1, c, rfl, rfl, by omega, by omega, trivial, HF⟩
        case measure => simp [intOf]; omega
      | true =>
        by_cases h1 : b < a
        · have HF := Lib.hid (HS.out (c + 1) true (by rw [HR.out]; simp [h1]) rfl)
          clear HS HR
          go_wp2_with fail
          go_roundw
          case rel => exact ⟨k + 1, c + 1, rfl, rfl, by omega, by omega, trivial, HF⟩
          case measure => simp [intOf]; omega
        · by_cases h2 : a = b
          · subst h2
            by_cases h3 : k < i
            · have h33 : (k : Int) < i := by omega
              have HF := Lib.hid (HS.out (c + 1) true (by rw [HR.out]; simp [h3]) rfl)
              clear HS HR
              go_wp2_with fail
              go_roundw
              case rel => exact ⟨k + 1, c + 1, rfl, rfl, by omega, by omega, trivial, HF⟩
              case measure => simp [intOf]; omega
            · have h33 : ¬ (k : Int) < i := by omega
              have HF := Lib.hid (HS.out c false (by rw [HR.out]; simp [h3]) rfl)
              clear HS HR
              go_wp2_with fail
              go_roundw
              case rel => exact ⟨k + 1, c, rfl, rfl, by omega, by omega, trivial, HF⟩
              case measure => simp [intOf]; omega
          · have h22 : (a == b) = false := by simpa using h2
            have HF := Lib.hid (HS.out c false (by rw [HR.out]; simp [h1, h2]) rfl)
            clear HS HR
            go_wp2_with fail
            go_roundw
            case rel => exact ⟨k + 1, c, rfl, rfl, by omega, by omega, trivial, HF⟩
            case measure => simp [intOf]; omega
    · obtain rfl : k = N := by omega
      have HF := Lib.hid (show ah t m i = c by rw [HA.out, hc.out])
      clear hc
      go_wp2_with fail
      go_ret
      exact ⟨by rw [HF.out]; rfl, rfl⟩

/-- What the reference's Choose has so far. -/
def chT (t : List Int) (m : List Bool) (most : Int) (k : Nat) : List Bool := (List.range k).map fun i => cn t m i && decide ((ah t m i : Int) < most)
theorem chT_succ (t : List Int) (m : List Bool) (most : Int) (k : Nat) : chT t m most (k + 1) = chT t m most k ++ [cn t m k && decide ((ah t m k : Int) < most)] := by
  unfold chT
  rw [List.range_succ, List.map_append]; rfl
set_option maxRecDepth 100000 in
set_option maxHeartbeats 2000000 in
theorem choose_r (T : Option Addr) (tn tc : Nat) (t : List Int) (M : Option Addr) (mn mc : Nat) (m : List Bool) (most : Int) (w : World) (ht : Rw.RS uR w T tn tc t) (hm : Rw.RS bR w M mn mc m) (htn : tn ≤ 1000000) (hmn : mn ≤ 1000000) :
    Calls Try.prog 16 #[.slice T tn tc, .slice M mn mc, .int .i64 most] w fun e w' => ∃ v, e = .returned v ∧ OwnB w' w.heap.size v (ch t m most) ∧ Bel w w' := by
  have CC := Lib.hid (fun k (hk : k ≤ 1000000) V (hv : Bel w V) => counts_r T tn tc t M mn mc m k V (ht.bel hv) (hm.bel hv) htn hmn hk)
  have CA := Lib.hid (fun k (hk : k ≤ 1000000) V (hv : Bel w V) => ahead_r T tn tc t M mn mc m k V (ht.bel hv) (hm.bel hv) htn hmn hk)
  obtain ⟨N, hN⟩ : ∃ N, max tn mn = N := ⟨_, rfl⟩
  have hNi := fun V => max_run (tn : Int) (mn : Int) V
  rw [show max (tn : Int) (mn : Int) = (N : Int) by omega] at hNi
  have hNb : N ≤ 1000000 := by omega
  have HA := Lib.hid (show ch t m most = chT t m most N by unfold ch all chT; rw [ht.len, hm.len, hN])
  clear ht hm hN
  go_enter Try.func16, Try.ntmps16
  go_wp2_with fail
  go_loopw [7, 8] (fun s7 s8 wr => ∃ k : Nat, s8 = .int .i64 k ∧ k ≤ N ∧ Hid (OwnB wr w.heap.size s7 (chT t m most k) ∧ Bel w wr)) (fun _ s8 _ => N - (intOf s8).toNat)
  case atStart => exact ⟨0, rfl, Nat.zero_le _, Lib.hid ⟨Rw.OwnR.nil_ _ _ _ _, Bel.refl _⟩⟩
  case round =>
    obtain ⟨k, rfl, hk, hh⟩ := hrel
    have HO := Lib.hid hh.out.1
    have HB := Lib.hid hh.out.2
    clear hh
    by_cases hlt : k < N
    · have hlt3 : (k : Int) < N := by omega
      have hw1 : IntKind.i64.wrap ((k : Int) + 1) = ((k + 1 : Nat) : Int) := by rw [IntWalk.i64_in _ (by omega)]; omega
      have C1 := Lib.hid (CC.out k (by omega) _ HB.out)
      have C2 := Lib.hid (CA.out k (by omega) _ HB.out)
      have HS := Lib.hid (chT_succ t m most k)
      have HLN := Lib.hid (show (chT t m most k).length = k by simp [chT])
      generalize cn t m k = x at *
      generalize ah t m k = a at *
      go_wp2_with fail
      refine C1.out.mono ?_
      rintro e w1 ⟨rfl, rfl⟩
      have FIN := fun (b : Bool) (W : World) (hW : Bel wr W) => Lib.hid (show OwnB (W.alloc (.cells #[.bool b] 4)) w.heap.size u7 (chT t m most k) ∧ Rw.RS bR (W.alloc (.cells #[.bool b] 4)) (some ⟨W.heap.size, 0, none⟩) 1 1 [b] ∧ w.heap.size ≤ (W.alloc (.cells #[.bool b] 4)).heap.size ∧ Bel w (W.alloc (.cells #[.bool b] 4)) from
        ⟨HO.out.bel (hW.alloc _), Rw.rs_one bR (r := b) (Blk.new W #[.bool b] 4), Below.size (HB.out.trans (hW.alloc _)), HB.out.trans (hW.alloc _)⟩)
      have FIN := Lib.hid FIN
      cases x with
      | false =>
        have F := FIN.out false wr (Bel.refl _)
        have HS2 := Lib.hid (show chT t m most (k + 1) = chT t m most k ++ [false] from HS.out)
        clear HS FIN
        go_wp2_with (at_builtin; refine append_bs rfl _ _ 23 rfl Try.underlying23 w.heap.size _ (chT t m most k) rfl F.out.1 (some ⟨wr.heap.size, 0, none⟩) 1 1 _ rfl F.out.2.1 (by have := HLN.out; omega) F.out.2.2.1 ?_; intro v4 w4 hO4 hg4)
        have HF := Lib.hid (show OwnB w4 w.heap.size v4 (chT t m most (k + 1)) ∧ Bel w w4 from ⟨by rw [HS2.out]; exact hO4, F.out.2.2.2.grown hg4 (fun k hk => Rw.own_ge F.out.1 hk)⟩)
        clear hO4 hg4
        go_wp2_with fail
        go_roundw
        case rel => exact ⟨k + 1, rfl, by omega, HF⟩
        case measure => simp [intOf]; omega
      | true =>
        go_wp2_with fail
        refine C2.out.mono ?_
        rintro e w1 ⟨rfl, rfl⟩
        obtain ⟨b, hb⟩ : ∃ b, decide ((a : Int) < most) = b := ⟨_, rfl⟩
        have F := FIN.out b wr (Bel.refl _)
        have HS2 := Lib.hid (show chT t m most (k + 1) = chT t m most k ++ [b] from by rw [HS.out, ← hb]; rfl)
        clear HS FIN
        go_wp2_with (at_builtin; refine append_bs rfl _ _ 23 rfl Try.underlying23 w.heap.size _ (chT t m most k) rfl F.out.1 (some ⟨wr.heap.size, 0, none⟩) 1 1 _ rfl F.out.2.1 (by have := HLN.out; omega) F.out.2.2.1 ?_; intro v4 w4 hO4 hg4)
        have HF := Lib.hid (show OwnB w4 w.heap.size v4 (chT t m most (k + 1)) ∧ Bel w w4 from ⟨by rw [HS2.out]; exact hO4, F.out.2.2.2.grown hg4 (fun k hk => Rw.own_ge F.out.1 hk)⟩)
        clear hO4 hg4
        go_wp2_with fail
        go_roundw
        case rel => exact ⟨k + 1, rfl, by omega, HF⟩
        case measure => simp [intOf]; omega
    · obtain rfl : k = N := by omega
      go_wp2_with fail
      go_ret
      exact ⟨_, rfl, by rw [HA.out]; exact HO.out, HB.out⟩
/-- What the reference's Rank has so far. -/
def rkR (t : List Int) (m : List Bool) (N n : Nat) : List Nat := (List.range n).flatMap fun n => (List.range N).filter fun i => cn t m i && decide (ah t m i = n)
def rkI (t : List Int) (m : List Bool) (n k : Nat) : List Nat := (List.range k).filter fun i => cn t m i && decide (ah t m i = n)
theorem rkR_succ (t : List Int) (m : List Bool) (N n : Nat) : rkR t m N (n + 1) = rkR t m N n ++ rkI t m n N := by
  unfold rkR rkI
  rw [List.range_succ, List.flatMap_append]
  simp
theorem rkI_succ (t : List Int) (m : List Bool) (n k : Nat) : rkI t m n (k + 1) = if (cn t m k && decide (ah t m k = n)) = true then rkI t m n k ++ [k] else rkI t m n k := by
  unfold rkI
  rw [List.range_succ, List.filter_append]
  by_cases h : (cn t m k && decide (ah t m k = n)) = true
  · rw [if_pos h, List.filter_cons, if_pos h]; rfl
  · rw [if_neg h, List.filter_cons, if_neg h]; simp
theorem rkI_len (t : List Int) (m : List Bool) (n k : Nat) : (rkI t m n k).length ≤ k := by
  unfold rkI
  exact Nat.le_trans (List.length_filter_le _ _) (by simp)
theorem rkR_len (t : List Int) (m : List Bool) (N : Nat) : ∀ n, (rkR t m N n).length ≤ n * N
  | 0 => by simp [rkR]
  | n + 1 => by
    rw [rkR_succ, List.length_append, Nat.add_one_mul]
    have := rkR_len t m N n
    have := rkI_len t m n N
    omega
set_option maxRecDepth 100000 in
set_option maxHeartbeats 2000000 in
theorem rank_r (T : Option Addr) (tn tc : Nat) (t : List Int) (M : Option Addr) (mn mc : Nat) (m : List Bool) (w : World) (ht : Rw.RS uR w T tn tc t) (hm : Rw.RS bR w M mn mc m) (htn : tn ≤ 10000) (hmn : mn ≤ 10000) :
    Calls Try.prog 14 #[.slice T tn tc, .slice M mn mc] w fun e w' => ∃ v, e = .returned v ∧ OwnI w' w.heap.size v (rk t m) ∧ Bel w w' := by
  have CC := Lib.hid (fun k (hk : k ≤ 1000000) V (hv : Bel w V) => counts_r T tn tc t M mn mc m k V (ht.bel hv) (hm.bel hv) (by omega) (by omega) hk)
  have CA := Lib.hid (fun k (hk : k ≤ 1000000) V (hv : Bel w V) => ahead_r T tn tc t M mn mc m k V (ht.bel hv) (hm.bel hv) (by omega) (by omega) hk)
  obtain ⟨N, hN⟩ : ∃ N, max tn mn = N := ⟨_, rfl⟩
  have hNi := fun V => max_run (tn : Int) (mn : Int) V
  rw [show max (tn : Int) (mn : Int) = (N : Int) by omega] at hNi
  have hNb : N ≤ 10000 := by omega
  have HA := Lib.hid (show rk t m = rkR t m N N by unfold rk all rkR; rw [ht.len, hm.len, hN])
  clear ht hm hN
  go_enter Try.func14, Try.ntmps14
  go_wp2_with fail
  go_loopw [5, 7] (fun s5 s7 wr => ∃ n : Nat, s7 = .int .i64 n ∧ n ≤ N ∧ Hid (OwnI wr w.heap.size s5 (rkR t m N n) ∧ Bel w wr)) (fun _ s7 _ => N - (intOf s7).toNat)
  case atStart => exact ⟨0, rfl, Nat.zero_le _, Lib.hid ⟨Rw.OwnR.nil_ _ _ _ _, Bel.refl _⟩⟩
  case round =>
    obtain ⟨n, rfl, hn, hh⟩ := hrel
    by_cases hlt : n < N
    · have hlt3 : (n : Int) < N := by omega
      have hwn : IntKind.i64.wrap ((n : Int) + 1) = ((n + 1 : Nat) : Int) := by rw [IntWalk.i64_in _ (by omega)]; omega
      have HLB := Lib.hid (show (rkR t m N n).length ≤ 100000000 from Nat.le_trans (rkR_len t m N n) (Nat.le_trans (Nat.mul_le_mul (show n ≤ 10000 by omega) hNb) (by decide)))
      have H0 := Lib.hid (show OwnI wr w.heap.size u5 (rkR t m N n ++ rkI t m n 0) ∧ Bel w wr from ⟨by simpa [rkI] using hh.out.1, hh.out.2⟩)
      clear hh
      go_wp2_with fail
      go_loopw [5, 8] (fun s5 s8 wq => ∃ k : Nat, s8 = .int .i64 k ∧ k ≤ N ∧ Hid (OwnI wq w.heap.size s5 (rkR t m N n ++ rkI t m n k) ∧ Bel w wq)) (fun _ s8 _ => N - (intOf s8).toNat)
      case atStart => exact ⟨0, rfl, Nat.zero_le _, H0⟩
      case round =>
        obtain ⟨k, rfl, hk, hh⟩ := hrel
        have HO := Lib.hid hh.out.1
        have HB := Lib.hid hh.out.2
        clear hh H0
        by_cases hlk : k < N
        · have hlk3 : (k : Int) < N := by omega
          have hwk : IntKind.i64.wrap ((k : Int) + 1) = ((k + 1 : Nat) : Int) := by rw [IntWalk.i64_in _ (by omega)]; omega
          have C1 := Lib.hid (CC.out k (by omega) _ HB.out)
          have C2 := Lib.hid (CA.out k (by omega) _ HB.out)
          have HS := Lib.hid (rkI_succ t m n k)
          have HLN := Lib.hid (rkI_len t m n k)
          generalize cn t m k = x at *
          generalize ah t m k = a at *
          go_wp2_with fail
          refine C1.out.mono ?_
          rintro e w1 ⟨rfl, rfl⟩
          cases x with
          | false =>
            have HF := Lib.hid (show OwnI wr w.heap.size u5 (rkR t m N n ++ rkI t m n (k + 1)) ∧ Bel w wr from ⟨by rw [HS.out]; exact HO.out, HB.out⟩)
            clear HS
            go_wp2_with fail
            go_roundw
            case rel => exact ⟨k + 1, rfl, by omega, HF⟩
            case measure => simp [intOf]; omega
          | true =>
            go_wp2_with fail
            refine C2.out.mono ?_
            rintro e w1 ⟨rfl, rfl⟩
            by_cases han : a = n
            · subst han
              have hb : ((a : Int) == a) = true := by simp
              have HS2 := Lib.hid (show rkR t m N a ++ rkI t m a (k + 1) = (rkR t m N a ++ rkI t m a k) ++ [k] by rw [HS.out]; simp)
              have HX := Lib.hid (Rw.rs_one iR (r := k) (Blk.new wr #[.int .i64 k] 3))
              have HO3 := Lib.hid (HO.out.bel ((Bel.refl wr).alloc (.cells #[.int .i64 k] 3)))
              have HB3 := Lib.hid (HB.out.alloc (.cells #[.int .i64 k] 3))
              clear HS
              go_wp2_with (at_builtin; refine append_i rfl _ _ 27 rfl Try.underlying27 w.heap.size _ _ rfl HO3.out ⟨wr.heap.size, 0, none⟩ 1 1 [k] rfl HX.out (by have := HLN.out; have := HLB.out; rw [List.length_append]; omega) (Below.size HB3.out) ?_; intro v4 w4 hO4 hg4)
              have HF := Lib.hid (show OwnI w4 w.heap.size v4 (rkR t m N a ++ rkI t m a (k + 1)) ∧ Bel w w4 from ⟨by rw [HS2.out]; exact hO4, HB3.out.grown hg4 (fun k hk => Rw.own_ge HO3.out hk)⟩)
              clear hO4 hg4
              go_wp2_with fail
              go_roundw
              case rel => exact ⟨k + 1, rfl, by omega, HF⟩
              case measure => simp [intOf]; omega
            · have hb : ((a : Int) == n) = false := by simp; omega
              have HF := Lib.hid (show OwnI wr w.heap.size u5 (rkR t m N n ++ rkI t m n (k + 1)) ∧ Bel w wr from ⟨by rw [HS.out, if_neg (by simp [han])]; exact HO.out, HB.out⟩)
              clear HS
              go_wp2_with fail
              go_roundw
              case rel => exact ⟨k + 1, rfl, by omega, HF⟩
              case measure => simp [intOf]; omega
        · obtain rfl : k = N := by omega
          have HF := Lib.hid (show OwnI wr w.heap.size u5 (rkR t m k (n + 1)) ∧ Bel w wr from ⟨by rw [rkR_succ]; exact HO.out, HB.out⟩)
          go_wp2_with fail
          go_roundw
          case rel => exact ⟨n + 1, rfl, by omega, HF⟩
          case measure => simp [intOf]; omega
    · obtain rfl : n = N := by omega
      go_wp2_with fail
      go_ret
      exact ⟨_, rfl, by rw [HA.out]; exact hh.out.1, hh.out.2⟩
end Ac
end Go.Proofs.Ytmbodfmdaocppaa
