/-
  What the known bytes and the known texts are read as, and the default record's text: no walk. No condition.
-/
import Derived.Test.YtkblbcdinibncaaDoorGPKn0
import Derived.Test.YtkblbcdinibncaaDoorPD
namespace Go.Proofs.YtkblbcdinibncaaDoor
open Go.RowKit Go.Shelf
set_option linter.unusedVariables false
namespace Pm
open Kk

theorem val_one (zs : List Int) (k : Nat) {z : Int} (hz : zs.getD k 0 = z) (h0 : 0 ≤ z) (h1 : z < 128) : Cd.val zs k (0 + 1) = z := by
  have h : Cd.val zs k (0 + 1) = zs.getD k 0 % 128 + 128 * Cd.val zs (k + 1) 0 := Cd.val_front zs k 0
  have h2 : Cd.val zs (k + 1) 0 = 0 := rfl
  rw [h, h2, hz]
  omega
theorem way_one {zs : List Int} {k : Nat} {z : Int} (hz : zs.getD k 0 = z) (hk : k < zs.length) (h0 : 0 ≤ z) (h1 : z < 128) : Cd.Way zs k z ((k + 1 : Nat) : Int) 0 0 := by
  refine .inr (.inr ⟨k, 0, rfl, by decide, hk, fun i hi => absurd hi (by omega), by rw [Nat.add_zero, hz]; exact h1, fun h => absurd h (by omega), fun h => absurd h (by omega), (val_one zs k hz h0 h1).symm, by push_cast; omega, rfl, rfl⟩)
theorem rn_ok {zs : List Int} {k : Nat} {z least most : Int} (hz : zs.getD k 0 = z) (hk : k < zs.length) (h0 : 0 ≤ z) (h1 : z < 128) (hl : least ≤ z) (hm : z ≤ most) : Cd.RN zs k none least most z (k + 1) none :=
  .inr ⟨rfl, ((k + 1 : Nat) : Int), 0, 0, ⟨z, _, 0, 0, way_one hz hk h0 h1, h0, by omega, .inr (.inr ⟨rfl, hl, hm, rfl, rfl, rfl, rfl⟩)⟩, .inl ⟨rfl, rfl, rfl⟩, by omega, fun h => absurd rfl h⟩
theorem rn_no {zs : List Int} {k : Nat} {z least most : Int} (hz : zs.getD k 0 = z) (hk : k < zs.length) (h0 : 0 ≤ z) (h1 : z < 128) (hb : z < least ∨ most < z) : Cd.RN zs k none least most 0 k (some (3, (k : Int))) :=
  .inr ⟨rfl, 0, 3, (k : Int), ⟨z, _, 0, 0, way_one hz hk h0 h1, h0, by omega, .inr (.inl ⟨rfl, hb, rfl, rfl, rfl, rfl⟩)⟩, .inr ⟨by decide, rfl, rfl⟩, by omega, fun _ => rfl⟩
/-- Nothing is left to read. -/
theorem rn_short (zs : List Int) (least most : Int) : Cd.RN zs zs.length none least most 0 zs.length (some (6, (zs.length : Int))) :=
  .inr ⟨rfl, 0, 6, (zs.length : Int), ⟨0, 0, 6, (zs.length : Int), .inr (.inl ⟨zs.length, rfl, Nat.le_refl _, rfl, rfl, rfl, .inl ⟨rfl, by omega, fun i hi => absurd hi (by omega)⟩⟩), by decide, by decide, .inl ⟨by decide, rfl, rfl, rfl, rfl⟩⟩, .inr ⟨by decide, rfl, rfl⟩, Nat.le_refl _, fun _ => rfl⟩

theorem to_none : To [] (zer zr 11) 0 (some (6, 0)) 11 zr 0 none := by
  refine ⟨0, 0, some (6, 0), rn_short [] _ _, .inl rfl, ?_⟩
  exact to_fault [] (6, 0) 10 (upd zr 0 0) 0
theorem to_zero : To [0] (zer zr 11) 0 (some (3, 0)) 11 zr 0 none := by
  refine ⟨0, 0, some (3, 0), rn_no (z := 0) rfl (by decide) (by decide) (by decide) (.inl (by decide)), .inl rfl, ?_⟩
  exact to_fault [0] (3, 0) 10 (upd zr 0 0) 0
theorem to_56 : To [5, 6] (zer (upd (upd zr 0 5) 1 6) 9) 2 (some (9, 1)) 11 zr 0 none := by
  refine ⟨5, 1, none, rn_ok (z := 5) rfl (by decide) (by decide) (by decide) (by decide) (by decide), .inr (by decide), ?_⟩
  refine ⟨6, 2, none, rn_ok (z := 6) rfl (by decide) (by decide) (by decide) (by decide) (by decide), .inr (by decide), ?_⟩
  exact to_fault [5, 6] (9, 1) 9 (upd (upd zr 0 5) 1 6) 2

/-- The default record's text. -/
def TD : List UInt8 := [117, 110, 98, 111, 110, 100, 105, 110, 103, 32, 49, 48, 48, 10, 109, 97, 120, 97, 103, 101, 32, 49, 48, 48, 10, 101, 112, 111, 99, 104, 108, 101, 110, 32, 49, 48, 10, 119, 105, 110, 100, 111, 119, 32, 56, 10, 101, 110, 116, 114, 105, 101, 115, 32, 55, 10, 109, 97, 120, 97, 99, 116, 105, 118, 101, 32, 56, 10, 106, 97, 105, 108, 116, 105, 109, 101, 32, 50, 48, 10, 98, 97, 115, 101, 32, 53, 48, 48, 48, 48, 48, 48, 48, 10, 109, 117, 108, 116, 32, 51, 10, 99, 111, 114, 114, 119, 105, 110, 100, 111, 119, 32, 53, 48, 10, 114, 101, 119, 97, 114, 100, 32, 49, 48, 48, 48, 48, 48, 48, 48, 48, 10]
theorem textB_dv : textB dv 11 = ⟨TD.toArray⟩ := by
  have s1 : ∀ n, n < 10 → Lib.decDigits n = [UInt8.ofNat (48 + n)] := fun n h => Lib.decDigits_one h
  have s2 : ∀ n, ¬ n < 10 → Lib.decDigits n = Lib.decDigits (n / 10) ++ [UInt8.ofNat (48 + n % 10)] := fun n h => by rw [Lib.decDigits, dif_neg h]
  have d100 : Lib.decDigits 100 = [49, 48, 48] := by rw [s2 _ (by decide), s2 _ (by decide), s1 _ (by decide)]; rfl
  have d10 : Lib.decDigits 10 = [49, 48] := by rw [s2 _ (by decide), s1 _ (by decide)]; rfl
  have d8 : Lib.decDigits 8 = [56] := by rw [s1 _ (by decide)]; rfl
  have d7 : Lib.decDigits 7 = [55] := by rw [s1 _ (by decide)]; rfl
  have d3 : Lib.decDigits 3 = [51] := by rw [s1 _ (by decide)]; rfl
  have d20 : Lib.decDigits 20 = [50, 48] := by rw [s2 _ (by decide), s1 _ (by decide)]; rfl
  have d50 : Lib.decDigits 50 = [53, 48] := by rw [s2 _ (by decide), s1 _ (by decide)]; rfl
  have d5 : Lib.decDigits 50000000 = [53, 48, 48, 48, 48, 48, 48, 48] := by rw [s2 _ (by decide), s2 _ (by decide), s2 _ (by decide), s2 _ (by decide), s2 _ (by decide), s2 _ (by decide), s2 _ (by decide), s1 _ (by decide)]; rfl
  have d1 : Lib.decDigits 100000000 = [49, 48, 48, 48, 48, 48, 48, 48, 48] := by rw [s2 _ (by decide), s2 _ (by decide), s2 _ (by decide), s2 _ (by decide), s2 _ (by decide), s2 _ (by decide), s2 _ (by decide), s2 _ (by decide), s1 _ (by decide)]; rfl
  simp only [textB, lineB]
  rw [show (dv 0).toNat = 100 from rfl, show (dv 1).toNat = 100 from rfl, show (dv 2).toNat = 10 from rfl, show (dv 3).toNat = 8 from rfl, show (dv 4).toNat = 7 from rfl, show (dv 5).toNat = 8 from rfl, show (dv 6).toNat = 20 from rfl, show (dv 7).toNat = 50000000 from rfl, show (dv 8).toNat = 3 from rfl, show (dv 9).toNat = 50 from rfl, show (dv 10).toNat = 100000000 from rfl]
  rw [d100, d10, d8, d7, d3, d20, d50, d5, d1]
  rfl
theorem prs_of {p : (Nat → Int) × Int × Int} {a b : Int} (h : p.2 = (a, b)) : p = (p.1, a, b) := by rw [← h]
theorem prs_short : (prs 0 zr (pcs 131 (TD.take 131))).2 = (6, 10) := by decide +kernel
theorem prs_long : (prs 0 zr (pcs 133 (TD ++ [120]))).2 = (4, 11) := by decide +kernel
theorem prs_form : (prs 0 zr (pcs 15 [117, 110, 98, 111, 110, 100, 105, 110, 103, 32, 48, 49, 48, 48, 10])).2 = (5, 0) := by decide +kernel
theorem prs_range : (prs 0 zr (pcs 12 [117, 110, 98, 111, 110, 100, 105, 110, 103, 32, 48, 10])).2 = (3, 0) := by decide +kernel
theorem td_cut : (TD.take 25).drop 14 = [109, 97, 120, 97, 103, 101, 32, 49, 48, 48, 10] := by decide
end Pm
end Go.Proofs.YtkblbcdinibncaaDoor
