/-
  What container/heap answers of a ranking. Conditions: at most a million validators.
-/
import Derived.Test.YtmbodfmdaocppaaAcB
namespace Go.Proofs.Ytmbodfmdaocppaa
open Go.RowKit Go.Shelf
set_option linter.unusedVariables false
set_option linter.unusedSimpArgs false
namespace Ac
open Kk Pm Ro

theorem m_less (p : Nat) (w : World) : (method 198 51 (.pointer (some ⟨p, 0, none⟩)) "Less").run Try.prog w = .ok (70, .pointer (some ⟨p, 0, none⟩)) w := by kernel_rfl
theorem m_push (p : Nat) (w : World) : (method 198 51 (.pointer (some ⟨p, 0, none⟩)) "Push").run Try.prog w = .ok (72, .pointer (some ⟨p, 0, none⟩)) w := by kernel_rfl
theorem m_pop (p : Nat) (w : World) : (method 198 51 (.pointer (some ⟨p, 0, none⟩)) "Pop").run Try.prog w = .ok (71, .pointer (some ⟨p, 0, none⟩)) w := by kernel_rfl
theorem m_swap0 (p : Nat) (w : World) : (method 198 51 (.pointer (some ⟨p, 0, none⟩)) "Swap").run Try.prog w = (do let v ← loadVar 54 ⟨p, 0, none⟩; pure (73, v) : Sem (FuncId × Value)).run Try.prog w := by kernel_rfl
theorem m_len0 (p : Nat) (w : World) : (method 198 51 (.pointer (some ⟨p, 0, none⟩)) "Len").run Try.prog w = (do let v ← loadVar 54 ⟨p, 0, none⟩; pure (34, v) : Sem (FuncId × Value)).run Try.prog w := by kernel_rfl
theorem load0 {p : Nat} {w : World} {A : Option Addr} {n c : Nat} (h : w.cell? ⟨p, 0, none⟩ = some (.slice A n c)) : (loadVar 54 ⟨p, 0, none⟩).run Try.prog w = .ok (.slice A n c) w := by
  go_simp
theorem m_swap {p : Nat} {w : World} {A : Option Addr} {n c : Nat} (h : w.cell? ⟨p, 0, none⟩ = some (.slice A n c)) : (method 198 51 (.pointer (some ⟨p, 0, none⟩)) "Swap").run Try.prog w = .ok (73, .slice A n c) w := by
  rw [m_swap0, Sem.run_bind, load0 h]; rfl
theorem m_len {p : Nat} {w : World} {A : Option Addr} {n c : Nat} (h : w.cell? ⟨p, 0, none⟩ = some (.slice A n c)) : (method 198 51 (.pointer (some ⟨p, 0, none⟩)) "Len").run Try.prog w = .ok (34, .slice A n c) w := by
  rw [m_len0, Sem.run_bind, load0 h]; rfl

set_option maxRecDepth 100000 in
set_option maxHeartbeats 1000000 in
theorem up_ {p g cap : Nat} {T : Option Addr} {tn tc : Nat} {t : List Int} {f : Nat → Nat} {n j : Nat} {S : Nat → Prop} (w : World) (h : Rg w p g cap T tn tc t f n) (hB : Bag S f n) (hU : Up t f n j) (hj : j < n) (ht : tn ≤ 1000000000) :
    Calls Try.prog 51 #[.iface 51 (.pointer (some ⟨p, 0, none⟩)), .int .i64 j] w fun e w' => e = .returned (.tuple #[]) ∧ ∃ f', Rg w' p g cap T tn tc t f' n ∧ Bag S f' n ∧ Heap t f' n ∧ Kep (fun b => b = g) w w' := by
  have H0 := Lib.hid (show ∃ f', Rg w p g cap T tn tc t f' n ∧ Bag S f' n ∧ Up t f' n j ∧ Kep (fun b => b = g) w w from ⟨f, h, hB, hU, Kep.refl _ _⟩)
  have hfew := h.few
  have ML := m_less p
  clear h hB hU
  go_enter Try.func51, Try.ntmps51
  go_wp2_with fail
  go_loopw [1] (fun s1 wr => ∃ k : Nat, s1 = .int .i64 k ∧ k < n ∧ Hid (∃ f', Rg wr p g cap T tn tc t f' n ∧ Bag S f' n ∧ Up t f' n k ∧ Kep (fun b => b = g) w wr)) (fun s1 _ => (intOf s1).toNat)
  case atStart => exact ⟨j, rfl, hj, H0⟩
  case round =>
    obtain ⟨k, rfl, hk, hh⟩ := hrel
    clear H0 hj
    by_cases h0 : k = 0
    · subst h0
      go_wp2_with fail
      go_end0
      obtain ⟨f', hR, hB, hU, hK⟩ := hh.out
      exact ⟨rfl, f', hR, hB, hU.done (.inl rfl), hK⟩
    · obtain ⟨q, hq⟩ : ∃ q, (k - 1) / 2 = q := ⟨_, rfl⟩
      obtain ⟨f', hR, hB, hU, hK⟩ := hh.out
      have hne : ((q : Int) == (k : Int)) = false := by simp; omega
      have hw1 : IntKind.i64.wrap ((k : Int) - 1) = ((k - 1 : Nat) : Int) := by rw [IntWalk.i64_in _ (by omega)]; omega
      have hd : ((k - 1 : Nat) : Int).tdiv 2 = (q : Int) := by rw [Int.tdiv_eq_ediv_of_nonneg (by omega)]; omega
      have CL := Lib.hid (less_ k q wr hR hk (by omega) ht)
      obtain ⟨z, hz⟩ : ∃ z, rich t (f' k) (f' q) = z := ⟨_, rfl⟩
      rw [hz] at CL
      have HZ := Lib.hid hz
      have HR := Lib.hid hR
      have HB := Lib.hid hB
      have HU := Lib.hid hU
      have HK := Lib.hid hK
      have HQ := Lib.hid hq
      have h00 : 0 < k := by omega
      have hqn : q < n := by omega
      clear hR hB hU hK hz h0
      go_wp2_with fail
      refine CL.out.mono ?_
      rintro e w1 ⟨rfl, kb⟩
      have HR1 := Lib.hid (HR.out.bel kb)
      have HK1 := Lib.hid (HK.out.trans (Kep.of_bel kb))
      clear kb CL HR HK
      cases z with
      | false =>
        clear hh
        go_wp2_with fail
        go_end0
        exact ⟨rfl, f', HR1.out, HB.out, HU.out.done (.inr (by rw [HQ.out]; exact HZ.out)), HK1.out⟩
      | true =>
        have MS := m_swap (HR1.out.blk.cell 0 rfl)
        have CS := Lib.hid (swapR q k w1 HR1.out hqn hk)
        have NU := Lib.hid (HU.out.step h00 hk HQ.out HZ.out)
        have NB := Lib.hid (HB.out.sw hqn hk)
        clear hh
        go_wp2_with fail
        refine CS.out.mono ?_
        rintro e w2 ⟨rfl, hr, kb⟩
        have HR2 := Lib.hid hr
        have HK2 := Lib.hid (HK1.out.trans kb)
        clear hr kb
        go_wp2_with fail
        go_roundw
        case rel => exact ⟨q, rfl, hqn, Lib.hid ⟨_, HR2.out, NB.out, NU.out, HK2.out⟩⟩
        case measure => simp [intOf]; omega
end Ac
end Go.Proofs.Ytmbodfmdaocppaa
