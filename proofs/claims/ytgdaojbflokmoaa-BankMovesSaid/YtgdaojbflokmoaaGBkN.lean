/-
  The law BankKeeps returns true. Conditions: what the slices hold is of its kinds.
-/
import Derived.Test.YtgdaojbflokmoaaBI
import Derived.Test.YtgdaojbflokmoaaGBkK
namespace Go.Proofs.Ytgdaojbflokmoaa
open Go.RowKit Go.Shelf
set_option linter.unusedVariables false
namespace Bk
open Pm

theorem NB.then_ {w0 W V : World} {Y : List Value} {zs ps : List Int} (h : NB w0 W Y zs ps) (k : Kk.Bel W V) : NB w0 V Y zs ps := FB.same (h.1.then_ k) h.2.good
def Acts (w : World) (A : Option Addr) (n : Nat) : Prop := 0 < n → ∃ b o, A = some ⟨b, o, none⟩ ∧ b < w.heap.size ∧ ∀ i, i < n → ∃ a f t m, ActB a f t m ∧ w.rangeAt b (o + i * 4) [.int .i64 a, .int .i64 f, .int .i64 t, .int .u64 m]
theorem info_act : (Try.prog.info? 41).map (·.size) = some 4 := by kernel_rfl
/-- What a move that is done leaves. -/
theorem d_keeps {zs ps : List Int} {a f t m : Int} (hg : Good zs ps) (hc : chk zs ps = 0) (hn : Near a m) (h : dE zs ps a f t m = 0) :
    Good (dZ zs ps a f t m) (dP zs ps a f t m) ∧ chk (dZ zs ps a f t m) (dP zs ps a f t m) = 0 ∧ (dZ zs ps a f t m).sum + (dP zs ps a f t m).sum = zs.sum + ps.sum ∧ (dZ zs ps a f t m).length = zs.length ∧ ps.getD 2 0 ≤ (dP zs ps a f t m).getD 2 0 := by
  have key : ∀ {pf pt : Bool} {f t m least : Int}, 0 ≤ m → xE zs ps pf pt f t m least = 0 → Good (xZ zs ps pf pt f t m least) (xP zs ps pf pt f t m least) ∧ chk (xZ zs ps pf pt f t m least) (xP zs ps pf pt f t m least) = 0 ∧ (xZ zs ps pf pt f t m least).sum + (xP zs ps pf pt f t m least).sum = zs.sum + ps.sum ∧ (xZ zs ps pf pt f t m least).length = zs.length ∧ ps.getD 2 0 ≤ (xP zs ps pf pt f t m least).getD 2 0 := fun {pf pt f t m least} m0 hx => by
    obtain ⟨_, _, i, j, _, _, hm⟩ := moved hg m0 hx
    obtain ⟨c1, c2, c3⟩ := chk_ok hc
    refine ⟨hm.good, chk_of (by rw [hm.zl]; exact c1) (by rw [hm.zl]; exact c2) (by rw [hm.sum]; exact c3), hm.sum, hm.zl, ?_⟩
    have h2 := hm.at_ true 2
    have e1 : bal zs ps true 2 = ps.getD 2 0 := rfl
    have e2 : bal (xZ zs ps pf pt f t m least) (xP zs ps pf pt f t m least) true 2 = (xP zs ps pf pt f t m least).getD 2 0 := rfl
    have h3 : ((2 : Nat) : Int) = 2 := rfl
    rw [h3, e1, e2, if_neg hm.unburned] at h2
    rw [h2]
    split <;> omega
  obtain ⟨a0, a4, m0, m1⟩ := hn
  have ha : a = 0 ∨ a = 1 ∨ a = 2 ∨ a = 3 ∨ a = 4 := by omega
  rcases ha with rfl | rfl | rfl | rfl | rfl
  · exact key m0 h
  · exact key m0 h
  · exact key m0 h
  · exact key m0 h
  · exact key m0 h

end Bk
end Go.Proofs.Ytgdaojbflokmoaa
