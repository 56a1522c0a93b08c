/-
  What the functions of distraintkit on great numbers answer in this program: contracts. A great number is a slice of digits to the base 65536, the last one not 0.
  Conditions: the slices are great numbers of at most some thousand digits.
-/
import Derived.Test.YtmbodfmdaocppaaFixSum
import Derived.Test.YtmbodfmdaocppaaGreatArith
namespace Go.Proofs.Ytmbodfmdaocppaa
open Go.RowKit Go.Shelf
set_option linter.unusedVariables false
theorem Try.info_u64 : (Try.prog.info? 36).map (fun i => (i.zero, i.size, i.bytes)) = some (some (.int .u64 0), 1, 8) := by kernel_rfl
namespace Gt

/-- The value v is the great number P, of at most L digits. -/
def Gr (w : World) (v : Value) (P : Int) (L : Nat) : Prop :=
  ∃ A n c zs, v = .slice A n c ∧ Ints .u64 w A n zs ∧ Dig zs ∧ Full zs n ∧ valTo zs n = P ∧ n ≤ L
theorem Gr.bel {w w' : World} {v : Value} {P : Int} {L : Nat} (h : Gr w v P L) (hb : Bel w w') : Gr w' v P L := by
  obtain ⟨A, n, c, zs, rfl, hi, r⟩ := h
  exact ⟨A, n, c, zs, rfl, hi.bel hb, r⟩

/-- A row of the call's own reads as numbers. -/
theorem ints_of_own {w : World} {base : Nat} {e : TypeId} {v : Value} {n : Nat} {zs : List Int} (h : w.ownsRow base e 1 v n (zs.map (Value.int .u64))) :
    ∃ A c, v = .slice A n c ∧ Ints .u64 w A n zs ∧ n ≤ c := by
  have hl : zs.length = n := by simpa using h.1
  rcases h.2 with ⟨rfl, rfl⟩ | ⟨g, cap, cur, rfl, hb, hg, hnc, r⟩
  · have : zs = [] := List.length_eq_zero_iff.1 hl
    subst this
    exact ⟨none, 0, rfl, Ints.nil_, Nat.le_refl _⟩
  · refine ⟨_, _, rfl, ⟨hl, fun hn => ⟨g, 0, rfl, ?_, fun i hi => ?_⟩⟩, hnc⟩
    · exact (Array.getElem?_eq_some_iff.1 hg).1
    · have := h.cellAt i (by omega)
      rw [Nat.zero_add, this, List.getElem?_map, List.getElem?_eq_getElem (by omega), List.getD_eq_getElem?_getD, List.getElem?_eq_getElem (by omega)]
      rfl

theorem great_step {N P : Int} {k : Nat} {ys : List Int} (h : valTo ys ys.length + N * 65536 ^ ys.length = P) : valTo (ys ++ [N % 65536]) (ys.length + 1) + N / 65536 * 65536 ^ (ys.length + 1) = P := by
  rw [valTo_snoc, pow_succ, ← h]
  have e : N * 65536 ^ ys.length = (N % 65536) * 65536 ^ ys.length + N / 65536 * (65536 ^ ys.length * 65536) := by
    have := Int.emod_add_mul_ediv N 65536
    generalize (65536 : Int) ^ ys.length = p at *
    conv => lhs; rw [← this]
    rw [Int.add_mul, Int.mul_comm 65536, Int.mul_assoc, Int.mul_comm 65536 p]
  omega

theorem great_round {M P : Int} {ys : List Int} (hm : 0 < M) (hM : M < 65536 ^ (4 - ys.length)) (hl : ys.length < 4) (hd : Dig ys) (hv : valTo ys ys.length + M * 65536 ^ ys.length = P) :
    M / 65536 < 65536 ^ (4 - (ys ++ [M % 65536]).length) ∧ Dig (ys ++ [M % 65536]) ∧ (0 < M / 65536 ∨ Full (ys ++ [M % 65536]) (ys ++ [M % 65536]).length) ∧
      valTo (ys ++ [M % 65536]) (ys ++ [M % 65536]).length + M / 65536 * 65536 ^ (ys ++ [M % 65536]).length = P := by
  have e : (ys ++ [M % 65536]).length = ys.length + 1 := by simp
  rw [e]
  refine ⟨?_, dig_snoc hd (by omega) (by omega), ?_, great_step (k := 0) hv⟩
  · rw [show 4 - ys.length = (4 - (ys.length + 1)) + 1 by omega, pow_succ] at hM
    generalize (65536 : Int) ^ (4 - (ys.length + 1)) = p at *
    omega
  · rcases Int.lt_or_le 0 (M / 65536) with h | h
    · exact .inl h
    · right
      intro _
      rw [Nat.add_sub_cancel, getD_snoc_at]
      omega

set_option maxHeartbeats 400000 in
theorem great (N : Int) (w : World) (n0 : 0 ≤ N) (n1 : N ≤ 18446744073709551615) :
    Calls Try.prog 29 #[.int .u64 N] w fun e w' => ∃ v, e = .returned v ∧ Gr w' v N 4 ∧ Bel w w' := by
  obtain ⟨i0, hi, hz0, hz1, hz2⟩ := info_parts Try.info_u64
  go_enter Try.func29, Try.ntmps29
  go_wp2_with fail
  go_loopw [0, 3] (fun x v wr => ∃ (M : Int) (ys : List Int), 0 ≤ M ∧ M ≤ 18446744073709551615 ∧ x = .int .u64 M ∧ M < 65536 ^ (4 - ys.length) ∧ ys.length ≤ 4 ∧ wr.ownsRow w.heap.size 36 1 v ys.length (ys.map (Value.int .u64)) ∧ Dig ys ∧ (0 < M ∨ Full ys ys.length) ∧ valTo ys ys.length + M * 65536 ^ ys.length = N ∧ Bel w wr) (fun x _ _ => (intOf x).toNat)
  case atStart => exact ⟨N, [], n0, n1, rfl, by simpa using (by omega : N < 65536 ^ 4), by simp, World.ownsRow_nil _ _ _ _, dig_nil, by right; intro h; simp at h, by simp [valTo], Bel.refl _⟩
  case round =>
    obtain ⟨M, ys, m0, m1, rfl, hM, hy, hown, hd, hf, hv, hb⟩ := hrel
    by_cases hm : 0 < M
    · have hl : ys.length < 4 := by
        rcases Nat.lt_or_ge ys.length 4 with h | h
        · exact h
        · rw [show 4 - ys.length = 0 by omega, Int.pow_zero] at hM; omega
      have R := Lib.hid (great_round hm hM hl hd hv)
      have HV := Lib.hid hown
      clear hM hv hf hd hown
      go_wp2_with (at_builtin; refine wpList_append_own _ rfl _ _ 22 rfl w.heap.size 36 i0 (.int .u64 0) 1 8 Try.underlying22 hi hz0 hz1 hz2 rfl (by decide) _ _ _ rfl (HV.out.alloc _) ⟨wr.heap.size, 0, none⟩ 1 1 [.int .u64 (M % 65536)] rfl rfl ?c1 ?c2 ?c3 ?c4 ?c5 ?_)
      case c1 =>
        intro j u hj
        match j, hj with
        | 0, hj => simp at hj; subst hj; simp [Addr.add]
      case c2 => intro u hu; simp at hu; subst hu; rfl
      case c3 => unfold maxLen; omega
      case c4 => omega
      case c5 => have := Below.size hb; simp; omega
      · intro v' w1 hown' hgrow _
        have hb' : Bel w w1 := Below.grown (hb.alloc _) hgrow (by have := Below.size hb; simp; omega) (fun k hk => (HV.out.lt k hk).1)
        clear hgrow
        have HO := Lib.hid hown'
        clear hown'
        go_wp2
        go_roundw
        case rel => exact ⟨M / 65536, ys ++ [M % 65536], by omega, by omega, rfl, R.out.1, by simp; omega, by simpa using HO.out, R.out.2.1, R.out.2.2.1, by simpa using R.out.2.2.2, hb'⟩
        case measure => simp [intOf]; omega
    · obtain rfl : M = 0 := by omega
      have F := Lib.hid (hf.resolve_left (by omega))
      have V := Lib.hid hv
      have O := Lib.hid hown
      clear hf hv hown hM
      go_wp2
      go_ret
      obtain ⟨A, c, rfl, hints, _⟩ := ints_of_own O.out
      exact ⟨_, rfl, ⟨A, _, c, ys, rfl, hints, hd, F.out, by have := V.out; simpa using this, hy⟩, hb⟩
end Gt
end Go.Proofs.Ytmbodfmdaocppaa
