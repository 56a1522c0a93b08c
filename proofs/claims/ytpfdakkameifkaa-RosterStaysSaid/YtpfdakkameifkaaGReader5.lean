/-
  What item of a reader answers in this program where the item is bytes, and what U, N and Blob answer.
  Conditions: the reader is one that NewReader made of at most 10^6 bytes.
-/
import Derived.Test.YtpfdakkameifkaaGReader4
namespace Go.Proofs.Ytpfdakkameifkaa
open Go.RowKit Go.Shelf
set_option linter.unusedVariables false
namespace Cd

theorem own_ne {w : World} {base : Nat} {e : TypeId} {size : Nat} {v : Value} {n : Nat} {xs : List Value} (h : w.ownsRow base e size v n xs) {b : Nat} (hb : b < base) : v.ownBlock ≠ some b := fun e => by
  have := (h.lt _ e).1
  omega
theorem own_set2 {w w1 : World} {v : Value} {n : Nat} {xs : List Value} {o : Obj} (h : w1.ownsRow (w.alloc o).drew.heap.size 5 1 v n xs) {u1 u2 : Value} : Hid (((w1.setCell ⟨w.heap.size, 0, none⟩ u1).setCell ⟨w.heap.size, 1, none⟩ u2).ownsRow w.heap.size 5 1 v n xs) := by
  have hne : v.ownBlock ≠ some w.heap.size := fun e => by have := (h.lt _ e).1; simp at this; omega
  exact owns_set (owns_set (owns_mono h (by simp)) hne 0 _) hne 1 _



def RU (zs : List Int) (k : Nat) (f : Option (Int × Int)) (x : Int) (k' : Nat) (f' : Option (Int × Int)) : Prop :=
  (∃ p, f = some p ∧ x = 0 ∧ k' = k ∧ f' = f) ∨ (f = none ∧ ∃ tl e bad, Way zs k x tl e bad ∧ Moves k tl e bad k' f' ∧ k' ≤ zs.length ∧ (e ≠ 0 → x = 0))
def RN (zs : List Int) (k : Nat) (f : Option (Int × Int)) (least most x : Int) (k' : Nat) (f' : Option (Int × Int)) : Prop :=
  (∃ p, f = some p ∧ x = 0 ∧ k' = k ∧ f' = f) ∨ (f = none ∧ ∃ tl e bad, NWay zs k least most x tl e bad ∧ Moves k tl e bad k' f' ∧ k' ≤ zs.length ∧ (e ≠ 0 → x = 0))
def RB (zs : List Int) (k : Nat) (f : Option (Int × Int)) (most : Int) (ys : List Int) (k' : Nat) (f' : Option (Int × Int)) : Prop :=
  (∃ p, f = some p ∧ ys = [] ∧ k' = k ∧ f' = f) ∨ (f = none ∧ ∃ tl e bad, BWay zs k most ys tl e bad ∧ Moves k tl e bad k' f' ∧ k' ≤ zs.length ∧ (e ≠ 0 → ys = []))

theorem rU (b : Nat) (zs : List Int) (k : Nat) (f : Option (Int × Int)) (x : Int) (k' : Nat) (f' : Option (Int × Int)) (w : World) (h : RS w b zs k f) (hr : RU zs k f x k' f') :
    Calls Try.prog 106 #[.pointer (some ⟨b, 0, none⟩)] w fun e w' => e = .returned (.int .u64 x) ∧ RS w' b zs k' f' ∧ Kep (fun i => i = b) w w' := by
  obtain ⟨A, n, c, F, hs, hf⟩ := h
  rcases hr with ⟨p, rfl, rfl, rfl, rfl⟩ | ⟨rfl, tl, e, bad, hw, hm, hk, hx⟩
  · obtain ⟨_, _⟩ | ⟨e, q, fb, h1, rfl, h3, h4, h5⟩ := hf
    · contradiction
    have IT := Lib.hid (itemU_fault b A n c zs k' ⟨fb, 0, none⟩ (.func (.func 104) #[] #[]) w hs)
    have HR : Hid (RS w b zs k' (some p)) := ⟨A, n, c, _, hs, .inr ⟨e, q, fb, h1, rfl, h3, h4, h5⟩⟩
    clear hs h1 h3 h4 h5
    go_enter Try.func106, Try.ntmps106
    go_wp2_with fail
    refine (IT.out).mono ?_
    rintro e w' ⟨rfl, rfl⟩
    go_wp2
    go_ret
    exact ⟨rfl, HR.out, Kep.refl _ _⟩
  · obtain ⟨_, rfl⟩ | ⟨e, q, fb, h1, _⟩ := hf
    · have IT := Lib.hid (itemU b A n c zs k x tl e bad k' f' w hs hw hm (by rw [← hs.sl.len]; exact hk) hx)
      clear hs hw hm hk hx
      go_enter Try.func106, Try.ntmps106
      go_wp2_with fail
      refine (IT.out).mono ?_
      rintro e w' ⟨rfl, h1, h2⟩
      have H1 := Lib.hid h1
      have H2 := Lib.hid h2
      clear h1 h2
      go_wp2
      go_ret
      exact ⟨rfl, H1.out, H2.out⟩
    · cases h1
end Cd
end Go.Proofs.Ytpfdakkameifkaa
