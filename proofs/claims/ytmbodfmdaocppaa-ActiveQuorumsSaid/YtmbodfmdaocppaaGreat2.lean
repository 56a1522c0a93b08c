/-
  What digit, trim, SumGreat, LessGreat and SameGreat of distraintkit answer in this program: contracts.
  Conditions: the slices are great numbers of at most some thousand digits.
-/
import Derived.Test.YtmbodfmdaocppaaGreat
namespace Go.Proofs.Ytmbodfmdaocppaa
open Go.RowKit Go.Shelf
set_option linter.unusedVariables false
namespace Gt

theorem digit (A : Option Addr) (n c : Nat) (zs : List Int) (i : Nat) (w : World) (hi : Ints .u64 w A n zs) (hn : n ≤ 9223372036854775807) :
    Calls Try.prog 42 #[.slice A n c, .int .i64 (i : Int)] w fun e w' => e = .returned (.int .u64 (zs.getD i 0)) ∧ w = w' := by
  by_cases h : i < n
  · obtain ⟨b, o, rfl, hbw, hc⟩ := hi.2 (by omega)
    have hck := hc i h
    clear hc hi
    generalize zs.getD i 0 = z at *
    go_enter Try.func42, Try.ntmps42
    go_wp2
    go_ret
    exact ⟨rfl, rfl⟩
  · rw [getD_ge (by rw [hi.1]; omega)]
    clear hi
    go_enter Try.func42, Try.ntmps42
    go_wp2
    go_ret
    exact ⟨rfl, rfl⟩

theorem Ints.take {k : IntKind} {w : World} {A : Option Addr} {n m : Nat} {zs : List Int} (h : Ints k w A n zs) (hm : m ≤ n) : Ints k w A m (zs.take m) := by
  refine ⟨by rw [List.length_take, h.1]; omega, fun h0 => ?_⟩
  obtain ⟨b, o, e, hb, hc⟩ := h.2 (by omega)
  refine ⟨b, o, e, hb, fun i hi => ?_⟩
  rw [hc i (by omega)]
  simp [List.getD_eq_getElem?_getD, hi]
theorem getD_take {zs : List Int} {m i : Nat} : (zs.take m).getD i 0 = if i < m then zs.getD i 0 else 0 := by
  simp only [List.getD_eq_getElem?_getD, List.getElem?_take]
  split <;> simp
theorem dig_take {zs : List Int} (h : Dig zs) (m : Nat) : Dig (zs.take m) := by
  intro i
  rw [getD_take]
  split
  · exact h i
  · exact ⟨by decide, by decide⟩

set_option maxHeartbeats 400000 in
theorem trim (A : Option Addr) (n c : Nat) (zs : List Int) (w : World) (hi : Ints .u64 w A n zs) (hd : Dig zs) (hc : n ≤ c) (hcm : c ≤ 9223372036854775807) :
    Calls Try.prog 43 #[.slice A n c] w fun e w' => ∃ v, e = .returned v ∧ Gr w' v (valTo zs n) n ∧ Bel w w' := by
  have HI := Lib.hid hi
  have HD := Lib.hid hd
  clear hi hd
  go_enter Try.func43, Try.ntmps43
  go_wp2_with fail
  go_loopw [3] (fun i wr => ∃ m : Nat, m ≤ n ∧ i = .int .i64 m ∧ valTo zs m = valTo zs n ∧ Bel w wr) (fun i _ => (intOf i).toNat)
  case atStart => exact ⟨n, Nat.le_refl _, rfl, rfl, Bel.refl _⟩
  case round =>
    obtain ⟨m, hm, rfl, hv, hb⟩ := hrel
    have HV := Lib.hid hv
    clear hv
    by_cases h0 : m = 0
    · subst h0
      go_wp2
      go_ret
      refine ⟨_, rfl, ⟨_, 0, _, [], rfl, Ints.nil_, dig_nil, fun h => absurd h (by omega), ?_, by omega⟩, hb⟩
      exact HV.out
    · obtain ⟨k, rfl⟩ : ∃ k, m = k + 1 := ⟨m - 1, by omega⟩
      obtain ⟨b, o, rfl, hbw, hcell⟩ := (HI.out.bel hb).2 (by omega)
      have hck := hcell k (by omega)
      clear hcell h0
      by_cases hz : zs.getD k 0 = 0
      · rw [hz] at hck
        have hv' : valTo zs (k + 1) = valTo zs k := by
          show valTo zs k + zs.getD k 0 * _ = _
          rw [hz]; omega
        have HV' := Lib.hid (hv'.symm.trans HV.out)
        clear hv' hz
        go_wp2
        go_roundw
        case rel => exact ⟨k, by omega, by go_num, HV'.out, hb⟩
        case measure => simp [intOf]
      · generalize hz' : zs.getD k 0 = z at *
        have HZ := Lib.hid hz'
        have hzb : (z == 0) = false := beq_eq_false_iff_ne.2 hz
        have HZ0 := Lib.hid hz
        clear hz hz'
        go_wp2
        go_ret
        refine ⟨_, rfl, ⟨_, k + 1, _, zs.take (k + 1), rfl, Ints.take (HI.out.bel hb) hm, dig_take HD.out _, ?_, ?_, hm⟩, hb⟩
        · intro _
          rw [getD_take, if_pos (by omega), Nat.add_sub_cancel, HZ.out]
          exact HZ0.out
        · rw [← HV.out]
          exact valTo_congr fun i hi => by rw [getD_take, if_pos hi]
end Gt
end Go.Proofs.Ytmbodfmdaocppaa
