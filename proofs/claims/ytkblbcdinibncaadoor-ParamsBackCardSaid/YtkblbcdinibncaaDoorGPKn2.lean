/-
  What Get and Set make of the default record in the chapter's examples: no walk. No condition.
-/
import Derived.Test.YtkblbcdinibncaaDoorGPKn1
namespace Go.Proofs.YtkblbcdinibncaaDoor
open Go.RowKit Go.Shelf
set_option linter.unusedVariables false
namespace Pm
open Kk

theorem kinds_fin {x : Nat → Int} (h : ∀ i : Fin 11, (isU i = true → 0 ≤ x i ∧ x i ≤ 18446744073709551615) ∧ (isU i = false → -9223372036854775808 ≤ x i ∧ x i ≤ 9223372036854775807)) : Kinds x := fun i hi => h ⟨i, hi⟩
theorem all_fin {x : Nat → Int} (h : ∀ i : Fin 11, okF x i = true) : ∀ j, j < 11 → okF x j = true := fun j hj => h ⟨j, hj⟩
theorem at_fin {s : ByteArray} {i : Nat} (hi : i < 11) (h : nm i = s) : At s i := ⟨hi, h, fun j hj e => by
  have := nm_inj j i (by omega) hi (e.trans h.symm)
  omega⟩
/-- The default with a MaxAge of 101; with an Unbonding of 0 and a MaxAge of -1. -/
def old_ : Nat → Int := upd dv 1 101
def low_ : Nat → Int := upd (upd dv 0 0) 1 (-1)
theorem kinds_old : Kinds old_ := kinds_fin (by decide)
theorem kinds_low : Kinds low_ := kinds_fin (by decide)
theorem chk_old : Chk old_ 9 1 := .inr (.inl ⟨all_fin (by decide), by decide, rfl, rfl⟩)
theorem chk_low : Chk low_ 3 0 := .inl ⟨0, by omega, fun j hj => by omega, by decide, rfl, rfl⟩
theorem st_bad {s : ByteArray} {n : Int} {y : Nat → Int} {a : Int} {i : Nat} {c d : Int} (hat : At s i) (hc : Chk (upd dv i (sv i n)) c d) (hc0 : c ≠ 0) (h : St dv s n y a) : a = c ∧ y = zr := by
  rcases h with ⟨rfl, _, j, hj, rfl, hk⟩ | ⟨ha, rfl, (⟨b, hb⟩ | ⟨_, hno, _⟩) | ⟨_, j, b, hj, hk⟩⟩
  · obtain rfl := hj.uniq hat
    exact absurd (hk.uniq hc).1.symm hc0
  · exact absurd (hb.uniq chk_dv).1 ha
  · exact absurd hat.2.1 (hno i hat.1)
  · obtain rfl := hj.uniq hat
    exact ⟨(hk.uniq hc).1, rfl⟩
theorem st_ok {s : ByteArray} {n : Int} {y : Nat → Int} {a : Int} {i : Nat} (hat : At s i) (hc : Chk (upd dv i (sv i n)) 0 0) (h : St dv s n y a) : a = 0 ∧ y = upd dv i (sv i n) := by
  rcases h with ⟨rfl, _, j, hj, rfl, hk⟩ | ⟨ha, rfl, (⟨b, hb⟩ | ⟨_, hno, _⟩) | ⟨_, j, b, hj, hk⟩⟩
  · obtain rfl := hj.uniq hat
    exact ⟨rfl, rfl⟩
  · exact absurd (hb.uniq chk_dv).1 ha
  · exact absurd hat.2.1 (hno i hat.1)
  · obtain rfl := hj.uniq hat
    exact absurd (hk.uniq hc).1 ha
theorem st_1 {y : Nat → Int} {a : Int} (h : St dv ⟨#[117, 110, 98, 111, 110, 100, 105, 110, 103]⟩ 99 y a) : a = 9 ∧ y = zr :=
  st_bad (i := 0) (d := 1) (at_fin (by omega) rfl) (by rw [sv_num 0 99 (by decide) (by decide)]; exact .inr (.inl ⟨all_fin (by decide), by decide, rfl, rfl⟩)) (by decide) h
theorem st_2 {y : Nat → Int} {a : Int} (h : St dv ⟨#[109, 117, 108, 116]⟩ 1001 y a) : a = 3 ∧ y = zr :=
  st_bad (i := 8) (d := 8) (at_fin (by omega) rfl) (.inl ⟨8, by omega, fun j hj => by
    have h8 : ∀ i : Fin 8, okF (upd dv 8 (sv 8 1001)) i = true := by decide
    exact h8 ⟨j, hj⟩, by decide, rfl, rfl⟩) (by decide) h
theorem st_3 {y : Nat → Int} {a : Int} (h : St dv ⟨#[114, 101, 119, 97, 114, 100]⟩ 0 y a) : a = 0 ∧ y = upd dv 10 0 :=
  st_ok (i := 10) (at_fin (by omega) rfl) (.inr (.inr ⟨all_fin (by decide), by decide, rfl, rfl⟩)) h
theorem gt_Base {n a : Int} (h : Gt dv ⟨#[66, 97, 115, 101]⟩ n a) : a = 10 ∧ n = 0 := by
  rcases h with ⟨rfl, _, i, hi, rfl⟩ | ⟨ha, hn, hf⟩
  · exfalso
    have key : ∀ a : Fin 11, (nm a).data ≠ #[66, 97, 115, 101] := by decide
    exact key ⟨i, hi.1⟩ (congrArg ByteArray.data hi.2.1)
  · rcases hf with ⟨b, hb⟩ | ⟨_, hno, h10⟩
    · exact absurd (hb.uniq chk_dv).1 ha
    · exact ⟨h10, hn⟩
theorem txt_dv2 {s : ByteArray} {a : Int} (h : Txt dv s a) : s = ⟨TD.toArray⟩ ∧ a = 0 := by
  rcases h with ⟨rfl, _, rfl⟩ | ⟨ha, _, b, hb⟩
  · exact ⟨textB_dv, rfl⟩
  · exact absurd (hb.uniq chk_dv).1 ha
end Pm
end Go.Proofs.YtkblbcdinibncaaDoor
