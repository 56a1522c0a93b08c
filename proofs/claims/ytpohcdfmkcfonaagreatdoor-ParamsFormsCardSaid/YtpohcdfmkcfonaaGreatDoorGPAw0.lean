/-
  What Check, Text and Bytes make of the default record, and Check of the zero record: no walk. No condition.
-/
import Derived.Test.YtpohcdfmkcfonaaGreatDoorPT
import Derived.Test.YtpohcdfmkcfonaaGreatDoorGPByt
namespace Go.Proofs.YtpohcdfmkcfonaaGreatDoor
open Go.RowKit Go.Shelf Go.Sort
set_option linter.unusedVariables false
namespace Pm
open Kk

theorem okF_dv : ∀ j, j < 11 → okF dv j = true := fun j hj => by
  rw [okF_fv kinds_dv j hj]
  match j, hj with
  | 0, _ => decide
  | 1, _ => decide
  | 2, _ => decide
  | 3, _ => decide
  | 4, _ => decide
  | 5, _ => decide
  | 6, _ => decide
  | 7, _ => decide
  | 8, _ => decide
  | 9, _ => decide
  | 10, _ => decide
  | n + 11, h => omega
theorem chk_dv : Chk dv 0 0 := .inr (.inr ⟨okF_dv, by decide, rfl, rfl⟩)
theorem kinds_zr : Kinds zr := by
  intro i hi
  unfold zr
  exact ⟨fun _ => by omega, fun _ => by omega⟩
theorem chk_zr : Chk zr 3 0 := .inl ⟨0, by omega, fun j hj => by omega, by rw [okF_fv kinds_zr 0 (by omega)]; decide, rfl, rfl⟩
theorem encs_dv : (encs dv 11).length = 17 := by decide
def nd (n : Nat) : Nat := (Lib.decDigits n).length
theorem nd_lt {n : Nat} (h : n < 10) : nd n = 1 := by unfold nd; rw [Lib.decDigits_one h]; rfl
theorem nd_ge {n : Nat} (h : ¬ n < 10) : nd n = nd (n / 10) + 1 := by
  unfold nd
  rw [Lib.decDigits, dif_neg h]
  simp
theorem text_dv : (textB dv 11).size = 132 := by
  have e0 : ∀ (i : Nat) (v : Int), (lineB i v).size = (nm i).size + 1 + nd v.toNat + 1 := fun i v => by
    unfold lineB nd
    simp only [ByteArray.size_append]
    rfl
  simp only [textB, ByteArray.size_append, e0]
  rw [show (dv 0).toNat = 100 from rfl, show (dv 1).toNat = 100 from rfl, show (dv 2).toNat = 10 from rfl, show (dv 3).toNat = 8 from rfl, show (dv 4).toNat = 7 from rfl, show (dv 5).toNat = 8 from rfl, show (dv 6).toNat = 20 from rfl, show (dv 7).toNat = 50000000 from rfl, show (dv 8).toNat = 3 from rfl, show (dv 9).toNat = 50 from rfl, show (dv 10).toNat = 100000000 from rfl]
  have h10 : nd 10 = 2 := by rw [nd_ge (by decide), nd_lt (by decide)]
  have h20 : nd 20 = 2 := by rw [nd_ge (by decide), nd_lt (by decide)]
  have h50 : nd 50 = 2 := by rw [nd_ge (by decide), nd_lt (by decide)]
  have h100 : nd 100 = 3 := by rw [nd_ge (by decide), nd_ge (by decide), nd_lt (by decide)]
  have h5 : nd 50000000 = 8 := by rw [nd_ge (by decide), nd_ge (by decide), nd_ge (by decide), nd_ge (by decide), nd_ge (by decide), nd_ge (by decide), nd_ge (by decide), nd_lt (by decide)]
  have h1 : nd 100000000 = 9 := by rw [nd_ge (by decide), nd_ge (by decide), nd_ge (by decide), nd_ge (by decide), nd_ge (by decide), nd_ge (by decide), nd_ge (by decide), nd_ge (by decide), nd_lt (by decide)]
  rw [h10, h20, h50, h100, h5, h1, nd_lt (n := 8) (by decide), nd_lt (n := 7) (by decide), nd_lt (n := 3) (by decide)]
  rfl
/-- Names are unlike. -/
theorem nm_inj : ∀ i j, i < 11 → j < 11 → nm i = nm j → i = j := by
  intro i j hi hj h
  have h2 : (nm i).data = (nm j).data := by rw [h]
  have key : ∀ a : Fin 11, ∀ b : Fin 11, (nm a).data = (nm b).data → a = b := by decide
  exact congrArg Fin.val (key ⟨i, hi⟩ ⟨j, hj⟩ h2)
theorem At.uniq {s : ByteArray} {i j : Nat} (h : At s i) (k : At s j) : i = j := nm_inj i j h.1 k.1 (by rw [h.2.1, k.2.1])
theorem at_base : At ⟨#[98, 97, 115, 101]⟩ 7 := ⟨by omega, rfl, fun j hj h => by
  have := nm_inj j 7 (by omega) (by omega) h
  omega⟩
theorem gt_base {n a : Int} (h : Gt dv ⟨#[98, 97, 115, 101]⟩ n a) : n = 50000000 ∧ a = 0 := by
  rcases h with ⟨rfl, _, i, hi, rfl⟩ | ⟨ha, _, hf⟩
  · obtain rfl := hi.uniq at_base
    exact ⟨rfl, rfl⟩
  · rcases hf with ⟨b, hb⟩ | ⟨_, hno, _⟩
    · exact absurd (hb.uniq chk_dv).1 ha
    · exact absurd rfl (hno 7 (by omega))
theorem txt_dv {s : ByteArray} {a : Int} (h : Txt dv s a) : s.size = 132 ∧ a = 0 := by
  rcases h with ⟨rfl, _, rfl⟩ | ⟨ha, _, b, hb⟩
  · exact ⟨text_dv, rfl⟩
  · exact absurd (hb.uniq chk_dv).1 ha
theorem byt_dv {zs : List Int} {a : Int} (h : Byt dv zs a) : zs.length = 17 ∧ a = 0 := by
  rcases h with ⟨rfl, _, rfl⟩ | ⟨ha, _, b, hb⟩
  · exact ⟨encs_dv, rfl⟩
  · exact absurd (hb.uniq chk_dv).1 ha
end Pm
end Go.Proofs.YtpohcdfmkcfonaaGreatDoor
