/-
  What the reference's reader answers: N.
  Conditions: the reader is one that the reference's NewReader made of at most 10^6 bytes.
-/
import Derived.Test.YtpfdakkameifkaaGQRead2
namespace Go.Proofs.Ytpfdakkameifkaa
open Go.RowKit Go.Shelf
set_option linter.unusedVariables false
namespace Cd

/-- As QS; where a fault stands the place is left open. -/
def QT (w : World) (b : Nat) (A : Option Addr) (n c : Nat) (zs : List Int) (k : Nat) (f : Option (Int × Int)) : Prop := ∃ k2, QS w b A n c zs k2 f ∧ (f = none → k2 = k)
theorem QT.bel {w w' : World} {b : Nat} {A : Option Addr} {n c : Nat} {zs : List Int} {k : Nat} {f : Option (Int × Int)} (h : QT w b A n c zs k f) (hk : Bel w w') : QT w' b A n c zs k f := by
  obtain ⟨k2, h1, h2⟩ := h
  exact ⟨k2, h1.bel hk, h2⟩
theorem QT.kep {S : Nat → Prop} {w w' : World} {b : Nat} {A : Option Addr} {n c : Nat} {zs : List Int} {k : Nat} {f : Option (Int × Int)} (h : QT w b A n c zs k f) (hk : Kep S w w') (h1 : ¬ S b) (h2 : 0 < n → ∀ x : Addr, A = some x → ¬ S x.block) : QT w' b A n c zs k f := by
  obtain ⟨k2, h3, h4⟩ := h
  exact ⟨k2, h3.kep hk h1 h2, h4⟩
theorem atOf_some (k k2 : Nat) {f : Option (Int × Int)} (h : f = none → k2 = k) : atOf k2 f = atOf k f := by
  cases f with
  | none => rw [h rfl]
  | some q => rfl
theorem leftOf_some (n k k2 : Nat) {f : Option (Int × Int)} (h : f = none → k2 = k) : leftOf n k2 f = leftOf n k f := by
  cases f with
  | none => rw [h rfl]
  | some q => rfl
theorem endOf_some (n k k2 : Nat) {f : Option (Int × Int)} (h : f = none → k2 = k) : endOf n k2 f = endOf n k f := by
  cases f with
  | none => rw [h rfl]
  | some q => rfl
theorem tAt (b : Nat) (A : Option Addr) (n c : Nat) (zs : List Int) (k : Nat) (f : Option (Int × Int)) (w : World) (h : QT w b A n c zs k f) :
    Calls Try.prog 88 #[.pointer (some ⟨b, 0, none⟩)] w fun r w' => r = .returned (.int .i64 (atOf k f)) ∧ w = w' := by
  obtain ⟨k2, h1, h2⟩ := h
  rw [← atOf_some k k2 h2]
  exact qAt b A n c zs k2 f w h1
theorem tEnd (b : Nat) (A : Option Addr) (n c : Nat) (zs : List Int) (k : Nat) (f : Option (Int × Int)) (w : World) (h : QT w b A n c zs k f) :
    Calls Try.prog 91 #[.pointer (some ⟨b, 0, none⟩)] w fun r w' => r = .returned (fault (endOf zs.length k f)) ∧ Bel w w' := by
  obtain ⟨k2, h1, h2⟩ := h
  rw [← endOf_some _ k k2 h2]
  exact qEnd b A n c zs k2 f w h1
theorem tFail (b : Nat) (A : Option Addr) (n c : Nat) (zs : List Int) (k : Nat) (f : Option (Int × Int)) (e p : Int) (w : World) (h : QT w b A n c zs k f) :
    Calls Try.prog 90 #[.pointer (some ⟨b, 0, none⟩), .int .i64 e, .int .i64 p] w fun r w' => r = .returned (.tuple #[]) ∧ QT w' b A n c zs k (failOf f e p) ∧ Kep (fun i => i = b) w w' := by
  obtain ⟨k2, h1, h2⟩ := h
  refine (qFail b A n c zs k2 f e p w h1).mono fun r w' hr => ⟨hr.1, ⟨k2, hr.2.1, fun hn => h2 ?_⟩, hr.2.2⟩
  cases f with
  | none => rfl
  | some q => unfold failOf at hn; split at hn <;> cases hn
theorem tU (b : Nat) (A : Option Addr) (n c : Nat) (zs : List Int) (k : Nat) (f : Option (Int × Int)) (x : Int) (k' : Nat) (f' : Option (Int × Int)) (w : World) (h : QT w b A n c zs k f) (hr : RU zs k f x k' f') :
    Calls Try.prog 89 #[.pointer (some ⟨b, 0, none⟩)] w fun r w' => r = .returned (.int .u64 x) ∧ QT w' b A n c zs k' f' ∧ Kep (fun i => i = b) w w' := by
  obtain ⟨k2, h1, h2⟩ := h
  rcases hr with ⟨p, rfl, rfl, rfl, rfl⟩ | ⟨rfl, hr⟩
  · exact (qU b A n c zs k2 (some p) 0 k2 (some p) w h1 (.inl ⟨p, rfl, rfl, rfl, rfl⟩)).mono fun r w' hr => ⟨hr.1, ⟨k2, hr.2.1, fun h => by cases h⟩, hr.2.2⟩
  · obtain rfl := h2 rfl
    exact (qU b A n c zs k2 none x k' f' w h1 (.inr ⟨rfl, hr⟩)).mono fun r w' hr => ⟨hr.1, ⟨k', hr.2.1, fun _ => rfl⟩, hr.2.2⟩

theorem way_zero {zs : List Int} {k x tl e bad : Int} (h : Way zs k x tl e bad) (he : e ≠ 0) : x = 0 := by
  rcases h with ⟨_, h, _⟩ | ⟨_, _, _, h, _⟩ | ⟨_, _, _, _, _, _, _, _, _, _, _, h, _⟩
  · exact h
  · exact h
  · exact absurd h he
theorem way_to {zs : List Int} {k x tl bad : Int} (h : Way zs k x tl 0 bad) : ∃ t : Nat, tl = t ∧ t ≤ zs.length := by
  rcases h with ⟨_, _, _, h, _⟩ | ⟨_, _, _, _, _, _, h⟩ | ⟨k, j, _, _, h, _, _, _, _, _, h2, _⟩
  · omega
  · rcases h with ⟨h, _⟩ | ⟨h, _⟩ | ⟨h, _⟩ <;> omega
  · exact ⟨k + j + 1, by omega, by omega⟩

set_option maxRecDepth 100000 in
set_option maxHeartbeats 2000000 in
theorem tN (b : Nat) (A : Option Addr) (n c : Nat) (zs : List Int) (k : Nat) (f : Option (Int × Int)) (least most x : Int) (k' : Nat) (f' : Option (Int × Int)) (w : World) (h : QT w b A n c zs k f) (hr : RN zs k f least most x k' f') (l1 : least ≤ 9223372036854775807) (m1 : most ≤ 9223372036854775807) :
    Calls Try.prog 87 #[.pointer (some ⟨b, 0, none⟩), .int .i64 least, .int .i64 most] w fun r w' => r = .returned (.int .i64 x) ∧ QT w' b A n c zs k' f' ∧ Kep (fun i => i = b) w w' := by
  obtain ⟨k2, hq, h2⟩ := h
  have k1 : w.cell? ⟨b, 1, none⟩ = some (.int .i64 (k2 : Int)) := hq.blk.cell 1 rfl
  rcases hr with ⟨p, rfl, rfl, rfl, rfl⟩ | ⟨rfl, tl, e, bad, ⟨x0, t0, e0, b0, hw, h0, h1, hcs⟩, hm, hk', hx⟩
  · have U := Lib.hid (qU b A n c zs k2 (some p) 0 k2 (some p) w hq (.inl ⟨p, rfl, rfl, rfl, rfl⟩))
    have he : p.1 ≠ 0 := hq.flt _ rfl
    have fe : (p.1 != 0) = true := by rw [bne_iff_ne]; exact he
    have fe2 : (p.1 == 0) = false := by rw [beq_eq_false_iff_ne]; exact he
    clear hq h2 he
    go_enter Try.func87, Try.ntmps87
    go_wp2_with fail
    refine (U.out).mono ?_
    rintro r w1 ⟨rfl, hq, hk⟩
    have c2 : w1.cell? ⟨b, 2, none⟩ = some (.int .i64 p.1) := hq.blk.cell 2 rfl
    have HQ := Lib.hid hq
    have HK := Lib.hid hk
    clear hq hk
    go_wp2
    go_ret
    exact ⟨rfl, ⟨k2, HQ.out, fun h => by cases h⟩, HK.out⟩
  obtain rfl := h2 rfl
  clear h2
  rcases hcs with ⟨he, rfl, rfl, rfl, rfl⟩ | ⟨rfl, hx0, rfl, rfl, rfl, rfl⟩ | ⟨rfl, hx1, hx2, rfl, rfl, rfl, rfl⟩
  · obtain ⟨h, _⟩ | ⟨_, rfl, rfl⟩ := hm
    · exact absurd h he
    have U := Lib.hid (qU b A n c zs k' none x0 k' (some (e, bad)) w hq (.inr ⟨rfl, _, _, _, hw, .inr ⟨he, rfl, rfl⟩, hk', way_zero hw⟩))
    have fe : (e != 0) = true := by rw [bne_iff_ne]; exact he
    have fe2 : (e == 0) = false := by rw [beq_eq_false_iff_ne]; exact he
    clear hq he hw hx hk'
    go_enter Try.func87, Try.ntmps87
    go_wp2_with fail
    refine (U.out).mono ?_
    rintro r w1 ⟨rfl, hq, hk⟩
    have c2 : w1.cell? ⟨b, 2, none⟩ = some (.int .i64 e) := hq.blk.cell 2 rfl
    have HQ := Lib.hid hq
    have HK := Lib.hid hk
    clear hq hk
    go_wp2
    go_ret
    exact ⟨rfl, ⟨k', HQ.out, fun h => by cases h⟩, HK.out⟩
  · obtain ⟨h, _⟩ | ⟨_, rfl, rfl⟩ := hm
    · exact absurd h (by decide)
    obtain ⟨t, rfl, ht⟩ := way_to hw
    have U := Lib.hid (qU b A n c zs k' none x0 t none w hq (.inr ⟨rfl, _, _, _, hw, .inl ⟨rfl, rfl, rfl⟩, ht, fun h => absurd rfl h⟩))
    have hcs : (most < 0 ∧ x0 ≤ 0 ∧ max most 0 = 0) ∨ (most < 0 ∧ 0 < x0 ∧ max most 0 = 0) ∨ (0 ≤ most ∧ most < x0 ∧ max most 0 = most) ∨ (0 ≤ most ∧ x0 ≤ most ∧ 0 < least ∧ x0 < least ∧ max most 0 = most) := by omega
    clear hq hw hx hk' hx0
    rcases hcs with ⟨g1, g2, e1⟩ | ⟨g1, g2, e1⟩ | ⟨g1, g2, e1⟩ | ⟨g1, g2, g3, g4, e1⟩
    all_goals
      go_enter Try.func87, Try.ntmps87
      go_wp2_with fail
      refine (U.out).mono ?_
      rintro r w1 ⟨rfl, hq, hk⟩
      have c2 : w1.cell? ⟨b, 2, none⟩ = some (.int .i64 0) := hq.blk.cell 2 rfl
      have FL := Lib.hid (qFail b A n c zs t none 3 (k' : Int) w1 hq)
      have HK := Lib.hid hk
      clear hq hk
      go_wp2_with fail
      refine (FL.out).mono ?_
      rintro r w2 ⟨rfl, hq, hk⟩
      have hq : QS w2 b A n c zs t (some (3, (k' : Int))) := hq
      have c2 : w2.cell? ⟨b, 2, none⟩ = some (.int .i64 3) := hq.blk.cell 2 rfl
      have HQ := Lib.hid hq
      have HK2 := Lib.hid (HK.out.trans hk)
      clear hq hk
      go_wp2
      go_ret
      exact ⟨rfl, ⟨t, HQ.out, fun h => by cases h⟩, HK2.out⟩
  · obtain ⟨_, rfl, rfl⟩ | ⟨h, _⟩ := hm
    · have U := Lib.hid (qU b A n c zs k2 none x k' none w hq (.inr ⟨rfl, _, _, _, hw, .inl ⟨rfl, rfl, rfl⟩, hk', hx⟩))
      have m0 : 0 ≤ most := by omega
      have g1 : x ≤ most := hx2
      have e1 : max most 0 = most := by omega
      clear hq hw
      go_enter Try.func87, Try.ntmps87
      go_wp2_with fail
      refine (U.out).mono ?_
      rintro r w1 ⟨rfl, hq, hk⟩
      have c2 : w1.cell? ⟨b, 2, none⟩ = some (.int .i64 0) := hq.blk.cell 2 rfl
      have HQ := Lib.hid hq
      have HK := Lib.hid hk
      clear hq hk
      go_wp2
      all_goals
        go_ret
        exact ⟨rfl, ⟨k', HQ.out, fun _ => rfl⟩, HK.out⟩
    · exact absurd rfl h
end Cd
end Go.Proofs.Ytpfdakkameifkaa
