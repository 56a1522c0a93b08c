/-
  Texts of this claim, put together: GreatArith, Great, Great2, Great3, Great4, Great5. What each one says, and under which conditions, stands ahead of it.
-/
import Derived.Below
import Derived.Test.YtneajcoiemkfbaaGreatGFixSum

section
/-
  Plain arithmetic of great numbers as lists of digits to the base 65536 (no Go program in sight): what a list of digits comes to, and how that grows, is cut and is compared.
  Conditions: digits are from 0 to 65535.
-/
namespace Go.Proofs.YtneajcoiemkfbaaGreat
namespace Gt

/-- What the first k digits come to. -/
def valTo (zs : List Int) : Nat → Int
  | 0 => 0
  | k + 1 => valTo zs k + zs.getD k 0 * 65536 ^ k
def Dig (zs : List Int) : Prop := ∀ i, 0 ≤ zs.getD i 0 ∧ zs.getD i 0 ≤ 65535
theorem dig_nil : Dig [] := fun i => by simp
theorem pow_pos (k : Nat) : (0 : Int) < 65536 ^ k := Int.pow_pos (by decide)
theorem pow_succ (k : Nat) : (65536 : Int) ^ (k + 1) = 65536 ^ k * 65536 := Int.pow_succ _ _
theorem valTo_nil (k : Nat) : valTo [] k = 0 := by
  induction k with
  | zero => rfl
  | succ k ih => show valTo [] k + _ = 0; rw [ih]; simp
theorem valTo_congr {xs ys : List Int} {k : Nat} (h : ∀ i, i < k → xs.getD i 0 = ys.getD i 0) : valTo xs k = valTo ys k := by
  induction k with
  | zero => rfl
  | succ k ih =>
    show valTo xs k + _ = valTo ys k + _
    rw [ih fun i hi => h i (by omega), h k (by omega)]
theorem getD_snoc_lt {ys : List Int} {y : Int} {i : Nat} (h : i < ys.length) : (ys ++ [y]).getD i 0 = ys.getD i 0 := by
  simp [List.getD_eq_getElem?_getD, List.getElem?_append_left h]
theorem getD_snoc_at {ys : List Int} {y : Int} : (ys ++ [y]).getD ys.length 0 = y := by
  simp [List.getD_eq_getElem?_getD]
theorem getD_ge {ys : List Int} {i : Nat} (h : ys.length ≤ i) : ys.getD i 0 = 0 := by
  simp [List.getD_eq_getElem?_getD, List.getElem?_eq_none h]
theorem dig_snoc {ys : List Int} {y : Int} (h : Dig ys) (y0 : 0 ≤ y) (y1 : y ≤ 65535) : Dig (ys ++ [y]) := by
  intro i
  rcases Nat.lt_trichotomy i ys.length with hi | hi | hi
  · rw [getD_snoc_lt hi]; exact h i
  · subst hi; rw [getD_snoc_at]; exact ⟨y0, y1⟩
  · rw [getD_ge (by simp; omega)]; exact ⟨by decide, by decide⟩
theorem valTo_snoc {ys : List Int} {y : Int} : valTo (ys ++ [y]) (ys.length + 1) = valTo ys ys.length + y * 65536 ^ ys.length := by
  show valTo (ys ++ [y]) ys.length + (ys ++ [y]).getD ys.length 0 * _ = _
  rw [getD_snoc_at, valTo_congr fun i hi => getD_snoc_lt hi]
theorem valTo_beyond {zs : List Int} {k : Nat} (h : zs.length ≤ k) : valTo zs k = valTo zs zs.length := by
  induction k with
  | zero => rw [show zs.length = 0 by omega]
  | succ k ih =>
    rcases Nat.lt_or_ge k zs.length with hlt | hge
    · rw [show zs.length = k + 1 by omega]
    · show valTo zs k + zs.getD k 0 * _ = _
      rw [ih hge, getD_ge hge]; omega
theorem valTo_bounds {zs : List Int} (h : Dig zs) (k : Nat) : 0 ≤ valTo zs k ∧ valTo zs k < 65536 ^ k := by
  induction k with
  | zero => exact ⟨Int.le_refl _, show (0 : Int) < 65536 ^ 0 by decide⟩
  | succ k ih =>
    have hd := h k
    have h1 : 0 ≤ zs.getD k 0 * 65536 ^ k := Int.mul_nonneg hd.1 (Int.le_of_lt (pow_pos k))
    have h2 : zs.getD k 0 * 65536 ^ k ≤ 65535 * 65536 ^ k := Int.mul_le_mul_of_nonneg_right hd.2 (Int.le_of_lt (pow_pos k))
    show 0 ≤ valTo zs k + _ ∧ valTo zs k + _ < _
    rw [pow_succ]
    generalize zs.getD k 0 * 65536 ^ k = t at *
    generalize (65536 : Int) ^ k = p at *
    omega
/-- A list whose last digit is not 0. -/
def Full (zs : List Int) (n : Nat) : Prop := 0 < n → zs.getD (n - 1) 0 ≠ 0
theorem valTo_full {zs : List Int} (h : Dig zs) {n : Nat} (hf : Full zs n) (hn : 0 < n) : 65536 ^ (n - 1) ≤ valTo zs n := by
  obtain ⟨k, rfl⟩ : ∃ k, n = k + 1 := ⟨n - 1, by omega⟩
  have hk : zs.getD k 0 ≠ 0 := hf hn
  have h1 := (valTo_bounds h k).1
  have h2 := h k
  have h3 : 1 * 65536 ^ k ≤ zs.getD k 0 * 65536 ^ k := Int.mul_le_mul_of_nonneg_right (by omega) (Int.le_of_lt (pow_pos k))
  show 65536 ^ k ≤ valTo zs k + zs.getD k 0 * 65536 ^ k
  generalize zs.getD k 0 * 65536 ^ k = t at *
  generalize (65536 : Int) ^ k = p at *
  omega
theorem pow_mono {a b : Nat} (h : a ≤ b) : (65536 : Int) ^ a ≤ 65536 ^ b := by
  induction b with
  | zero => rw [show a = 0 by omega]; exact Int.le_refl _
  | succ b ih =>
    rcases Nat.lt_or_ge b a with hlt | hge
    · rw [show a = b + 1 by omega]; exact Int.le_refl _
    · have := ih hge
      have := pow_pos b
      rw [pow_succ]; omega
/-- Fewer digits: a lesser number. -/
theorem less_len {xs ys : List Int} (hx : Dig xs) (hy : Dig ys) {n m : Nat} (hf : Full ys m) (h : n < m) : valTo xs n < valTo ys m := by
  have h1 := (valTo_bounds hx n).2
  have h2 := valTo_full hy hf (by omega)
  have h3 : (65536 : Int) ^ n ≤ 65536 ^ (m - 1) := pow_mono (by omega)
  omega
/-- The digit at k decides, where those above are the same. -/
theorem less_digit {xs ys : List Int} (hx : Dig xs) (hy : Dig ys) {k n : Nat} (hk : k < n) (he : ∀ i, k < i → i < n → xs.getD i 0 = ys.getD i 0) (h : xs.getD k 0 < ys.getD k 0) : valTo xs n < valTo ys n := by
  induction n with
  | zero => omega
  | succ n ih =>
    rcases Nat.lt_or_ge k n with hlt | hge
    · show valTo xs n + xs.getD n 0 * _ < valTo ys n + ys.getD n 0 * _
      rw [he n hlt (by omega)]
      have := ih hlt fun i h1 h2 => he i h1 (by omega)
      omega
    · obtain rfl : k = n := by omega
      have h1 := (valTo_bounds hx k).2
      have h2 := (valTo_bounds hy k).1
      have h3 : (xs.getD k 0 + 1) * 65536 ^ k ≤ ys.getD k 0 * 65536 ^ k := Int.mul_le_mul_of_nonneg_right (by omega) (Int.le_of_lt (pow_pos k))
      rw [Int.add_mul] at h3
      show valTo xs k + xs.getD k 0 * _ < valTo ys k + ys.getD k 0 * _
      generalize xs.getD k 0 * 65536 ^ k = s at *
      generalize ys.getD k 0 * 65536 ^ k = t at *
      generalize (65536 : Int) ^ k = p at *
      omega
end Gt
end Go.Proofs.YtneajcoiemkfbaaGreat
end

section
/-
  What the functions of distraintkit on great numbers answer in this program: contracts. A great number is a slice of digits to the base 65536, the last one not 0.
  Conditions: the slices are great numbers of at most some thousand digits.
-/
namespace Go.Proofs.YtneajcoiemkfbaaGreat
open Go.RowKit Go.Shelf
set_option linter.unusedVariables false
theorem Tryz.info_u64 : (Tryz.prog.info? 32).map (fun i => (i.zero, i.size, i.bytes)) = some (some (.int .u64 0), 1, 8) := by kernel_rfl
namespace Gt

/-- The value v is the great number P, of at most L digits. -/
def Gr (w : World) (v : Value) (P : Int) (L : Nat) : Prop :=
  ∃ A n c zs, v = .slice A n c ∧ Ints .u64 w A n zs ∧ Dig zs ∧ Full zs n ∧ valTo zs n = P ∧ n ≤ L
theorem Gr.bel {w w' : World} {v : Value} {P : Int} {L : Nat} (h : Gr w v P L) (hb : Bel w w') : Gr w' v P L := by
  obtain ⟨A, n, c, zs, rfl, hi, r⟩ := h
  exact ⟨A, n, c, zs, rfl, hi.bel hb, r⟩

/-- A row of the call's own reads as numbers. -/
theorem ints_of_own {w : World} {base : Nat} {e : TypeId} {v : Value} {n : Nat} {zs : List Int} (h : w.ownsRow base e 1 v n (zs.map (Value.int .u64))) :
    ∃ A c, v = .slice A n c ∧ Ints .u64 w A n zs ∧ n ≤ c := by
  have hl : zs.length = n := by simpa using h.1
  rcases h.2 with ⟨rfl, rfl⟩ | ⟨g, cap, cur, rfl, hb, hg, hnc, r⟩
  · have : zs = [] := List.length_eq_zero_iff.1 hl
    subst this
    exact ⟨none, 0, rfl, Ints.nil_, Nat.le_refl _⟩
  · refine ⟨_, _, rfl, ⟨hl, fun hn => ⟨g, 0, rfl, ?_, fun i hi => ?_⟩⟩, hnc⟩
    · exact (Array.getElem?_eq_some_iff.1 hg).1
    · have := h.cellAt i (by omega)
      rw [Nat.zero_add, this, List.getElem?_map, List.getElem?_eq_getElem (by omega), List.getD_eq_getElem?_getD, List.getElem?_eq_getElem (by omega)]
      rfl

theorem great_step {N P : Int} {k : Nat} {ys : List Int} (h : valTo ys ys.length + N * 65536 ^ ys.length = P) : valTo (ys ++ [N % 65536]) (ys.length + 1) + N / 65536 * 65536 ^ (ys.length + 1) = P := by
  rw [valTo_snoc, pow_succ, ← h]
  have e : N * 65536 ^ ys.length = (N % 65536) * 65536 ^ ys.length + N / 65536 * (65536 ^ ys.length * 65536) := by
    have := Int.emod_add_mul_ediv N 65536
    generalize (65536 : Int) ^ ys.length = p at *
    conv => lhs; rw [← this]
    rw [Int.add_mul, Int.mul_comm 65536, Int.mul_assoc, Int.mul_comm 65536 p]
  omega

theorem great_round {M P : Int} {ys : List Int} (hm : 0 < M) (hM : M < 65536 ^ (4 - ys.length)) (hl : ys.length < 4) (hd : Dig ys) (hv : valTo ys ys.length + M * 65536 ^ ys.length = P) :
    M / 65536 < 65536 ^ (4 - (ys ++ [M % 65536]).length) ∧ Dig (ys ++ [M % 65536]) ∧ (0 < M / 65536 ∨ Full (ys ++ [M % 65536]) (ys ++ [M % 65536]).length) ∧
      valTo (ys ++ [M % 65536]) (ys ++ [M % 65536]).length + M / 65536 * 65536 ^ (ys ++ [M % 65536]).length = P := by
  have e : (ys ++ [M % 65536]).length = ys.length + 1 := by simp
  rw [e]
  refine ⟨?_, dig_snoc hd (by omega) (by omega), ?_, great_step (k := 0) hv⟩
  · rw [show 4 - ys.length = (4 - (ys.length + 1)) + 1 by omega, pow_succ] at hM
    generalize (65536 : Int) ^ (4 - (ys.length + 1)) = p at *
    omega
  · rcases Int.lt_or_le 0 (M / 65536) with h | h
    · exact .inl h
    · right
      intro _
      rw [Nat.add_sub_cancel, getD_snoc_at]
      omega

set_option maxHeartbeats 400000 in
theorem great (N : Int) (w : World) (n0 : 0 ≤ N) (n1 : N ≤ 18446744073709551615) :
    Calls Tryz.prog 59 #[.int .u64 N] w fun e w' => ∃ v, e = .returned v ∧ Gr w' v N 4 ∧ Bel w w' := by
  obtain ⟨i0, hi, hz0, hz1, hz2⟩ := info_parts Tryz.info_u64
  go_enter Tryz.func59, Tryz.ntmps59
  go_wp2_with fail
  go_loopw [0, 3] (fun x v wr => ∃ (M : Int) (ys : List Int), 0 ≤ M ∧ M ≤ 18446744073709551615 ∧ x = .int .u64 M ∧ M < 65536 ^ (4 - ys.length) ∧ ys.length ≤ 4 ∧ wr.ownsRow w.heap.size 32 1 v ys.length (ys.map (Value.int .u64)) ∧ Dig ys ∧ (0 < M ∨ Full ys ys.length) ∧ valTo ys ys.length + M * 65536 ^ ys.length = N ∧ Bel w wr) (fun x _ _ => (intOf x).toNat)
  case atStart => exact ⟨N, [], n0, n1, rfl, by simpa using (by omega : N < 65536 ^ 4), by simp, World.ownsRow_nil _ _ _ _, dig_nil, by right; intro h; simp at h, by simp [valTo], Bel.refl _⟩
  case round =>
    obtain ⟨M, ys, m0, m1, rfl, hM, hy, hown, hd, hf, hv, hb⟩ := hrel
    by_cases hm : 0 < M
    · have hl : ys.length < 4 := by
        rcases Nat.lt_or_ge ys.length 4 with h | h
        · exact h
        · rw [show 4 - ys.length = 0 by omega, Int.pow_zero] at hM; omega
      have R := Lib.hid (great_round hm hM hl hd hv)
      have HV := Lib.hid hown
      clear hM hv hf hd hown
      go_wp2_with (at_builtin; refine wpList_append_own _ rfl _ _ 96 rfl w.heap.size 32 i0 (.int .u64 0) 1 8 Tryz.underlying96 hi hz0 hz1 hz2 rfl (by decide) _ _ _ rfl (HV.out.alloc _) ⟨wr.heap.size, 0, none⟩ 1 1 [.int .u64 (M % 65536)] rfl rfl ?c1 ?c2 ?c3 ?c4 ?c5 ?_)
      case c1 =>
        intro j u hj
        match j, hj with
        | 0, hj => simp at hj; subst hj; simp [Addr.add]
      case c2 => intro u hu; simp at hu; subst hu; rfl
      case c3 => unfold maxLen; omega
      case c4 => omega
      case c5 => have := Below.size hb; simp; omega
      · intro v' w1 hown' hgrow _
        have hb' : Bel w w1 := Below.grown (hb.alloc _) hgrow (by have := Below.size hb; simp; omega) (fun k hk => (HV.out.lt k hk).1)
        clear hgrow
        have HO := Lib.hid hown'
        clear hown'
        go_wp2
        go_roundw
        case rel => exact ⟨M / 65536, ys ++ [M % 65536], by omega, by omega, rfl, R.out.1, by simp; omega, by simpa using HO.out, R.out.2.1, R.out.2.2.1, by simpa using R.out.2.2.2, hb'⟩
        case measure => simp [intOf]; omega
    · obtain rfl : M = 0 := by omega
      have F := Lib.hid (hf.resolve_left (by omega))
      have V := Lib.hid hv
      have O := Lib.hid hown
      clear hf hv hown hM
      go_wp2
      go_ret
      obtain ⟨A, c, rfl, hints, _⟩ := ints_of_own O.out
      exact ⟨_, rfl, ⟨A, _, c, ys, rfl, hints, hd, F.out, by have := V.out; simpa using this, hy⟩, hb⟩
end Gt
end Go.Proofs.YtneajcoiemkfbaaGreat
end

section
/-
  What digit, trim, SumGreat, LessGreat and SameGreat of distraintkit answer in this program: contracts.
  Conditions: the slices are great numbers of at most some thousand digits.
-/
namespace Go.Proofs.YtneajcoiemkfbaaGreat
open Go.RowKit Go.Shelf
set_option linter.unusedVariables false
namespace Gt

theorem digit (A : Option Addr) (n c : Nat) (zs : List Int) (i : Nat) (w : World) (hi : Ints .u64 w A n zs) (hn : n ≤ 9223372036854775807) :
    Calls Tryz.prog 127 #[.slice A n c, .int .i64 (i : Int)] w fun e w' => e = .returned (.int .u64 (zs.getD i 0)) ∧ w = w' := by
  by_cases h : i < n
  · obtain ⟨b, o, rfl, hbw, hc⟩ := hi.2 (by omega)
    have hck := hc i h
    clear hc hi
    generalize zs.getD i 0 = z at *
    go_enter Tryz.func127, Tryz.ntmps127
    go_wp2
    go_ret
    exact ⟨rfl, rfl⟩
  · rw [getD_ge (by rw [hi.1]; omega)]
    clear hi
    go_enter Tryz.func127, Tryz.ntmps127
    go_wp2
    go_ret
    exact ⟨rfl, rfl⟩

theorem Ints.take {k : IntKind} {w : World} {A : Option Addr} {n m : Nat} {zs : List Int} (h : Ints k w A n zs) (hm : m ≤ n) : Ints k w A m (zs.take m) := by
  refine ⟨by rw [List.length_take, h.1]; omega, fun h0 => ?_⟩
  obtain ⟨b, o, e, hb, hc⟩ := h.2 (by omega)
  refine ⟨b, o, e, hb, fun i hi => ?_⟩
  rw [hc i (by omega)]
  simp [List.getD_eq_getElem?_getD, hi]
theorem getD_take {zs : List Int} {m i : Nat} : (zs.take m).getD i 0 = if i < m then zs.getD i 0 else 0 := by
  simp only [List.getD_eq_getElem?_getD, List.getElem?_take]
  split <;> simp
theorem dig_take {zs : List Int} (h : Dig zs) (m : Nat) : Dig (zs.take m) := by
  intro i
  rw [getD_take]
  split
  · exact h i
  · exact ⟨by decide, by decide⟩

set_option maxHeartbeats 400000 in
theorem trim (A : Option Addr) (n c : Nat) (zs : List Int) (w : World) (hi : Ints .u64 w A n zs) (hd : Dig zs) (hc : n ≤ c) (hcm : c ≤ 9223372036854775807) :
    Calls Tryz.prog 128 #[.slice A n c] w fun e w' => ∃ v, e = .returned v ∧ Gr w' v (valTo zs n) n ∧ Bel w w' := by
  have HI := Lib.hid hi
  have HD := Lib.hid hd
  clear hi hd
  go_enter Tryz.func128, Tryz.ntmps128
  go_wp2_with fail
  go_loopw [3] (fun i wr => ∃ m : Nat, m ≤ n ∧ i = .int .i64 m ∧ valTo zs m = valTo zs n ∧ Bel w wr) (fun i _ => (intOf i).toNat)
  case atStart => exact ⟨n, Nat.le_refl _, rfl, rfl, Bel.refl _⟩
  case round =>
    obtain ⟨m, hm, rfl, hv, hb⟩ := hrel
    have HV := Lib.hid hv
    clear hv
    by_cases h0 : m = 0
    · subst h0
      go_wp2
      go_ret
      refine ⟨_, rfl, ⟨_, 0, _, [], rfl, Ints.nil_, dig_nil, fun h => absurd h (by omega), ?_, by omega⟩, hb⟩
      exact HV.out
    · obtain ⟨k, rfl⟩ : ∃ k, m = k + 1 := ⟨m - 1, by omega⟩
      obtain ⟨b, o, rfl, hbw, hcell⟩ := (HI.out.bel hb).2 (by omega)
      have hck := hcell k (by omega)
      clear hcell h0
      by_cases hz : zs.getD k 0 = 0
      · rw [hz] at hck
        have hv' : valTo zs (k + 1) = valTo zs k := by
          show valTo zs k + zs.getD k 0 * _ = _
          rw [hz]; omega
        have HV' := Lib.hid (hv'.symm.trans HV.out)
        clear hv' hz
        go_wp2
        go_roundw
        case rel => exact ⟨k, by omega, by go_num, HV'.out, hb⟩
        case measure => simp [intOf]
      · generalize hz' : zs.getD k 0 = z at *
        have HZ := Lib.hid hz'
        have hzb : (z == 0) = false := beq_eq_false_iff_ne.2 hz
        have HZ0 := Lib.hid hz
        clear hz hz'
        go_wp2
        go_ret
        refine ⟨_, rfl, ⟨_, k + 1, _, zs.take (k + 1), rfl, Ints.take (HI.out.bel hb) hm, dig_take HD.out _, ?_, ?_, hm⟩, hb⟩
        · intro _
          rw [getD_take, if_pos (by omega), Nat.add_sub_cancel, HZ.out]
          exact HZ0.out
        · rw [← HV.out]
          exact valTo_congr fun i hi => by rw [getD_take, if_pos hi]
end Gt
end Go.Proofs.YtneajcoiemkfbaaGreat
end

section
/-
  What LessGreat and SameGreat of distraintkit answer in this program: how two great numbers compare.
  Conditions: the slices are great numbers of at most some thousand digits.
-/
namespace Go.Proofs.YtneajcoiemkfbaaGreat
open Go.RowKit Go.Shelf
set_option linter.unusedVariables false
namespace Gt

/-- a slice's own form of a great number -/
def GrS (w : World) (A : Option Addr) (n : Nat) (zs : List Int) (P : Int) (L : Nat) : Prop := Ints .u64 w A n zs ∧ Dig zs ∧ Full zs n ∧ valTo zs n = P ∧ n ≤ L
theorem Gr.open_ {w : World} {v : Value} {P : Int} {L : Nat} (h : Gr w v P L) : ∃ A n c zs, v = .slice A n c ∧ GrS w A n zs P L := by
  obtain ⟨A, n, c, zs, rfl, a, b, d, e, f⟩ := h
  exact ⟨A, n, c, zs, rfl, a, b, d, e, f⟩

set_option maxHeartbeats 800000 in
theorem less (v u : Value) (P Q : Int) (L M : Nat) (w : World) (hp : Gr w v P L) (hq : Gr w u Q M) (hL : L ≤ 100000) (hM : M ≤ 100000) :
    Calls Tryz.prog 60 #[v, u] w fun e w' => e = .returned (.bool (decide (P < Q))) ∧ Bel w w' := by
  obtain ⟨A, n, c, xs, rfl, hi, hd, hf, rfl, hn⟩ := hp.open_
  obtain ⟨B, m, c', ys, rfl, hi', hd', hf', rfl, hm⟩ := hq.open_
  clear hp hq
  have HI := Lib.hid hi; have HI' := Lib.hid hi'; have HD := Lib.hid hd; have HD' := Lib.hid hd'; have HF := Lib.hid hf; have HF' := Lib.hid hf'
  clear hi hi' hd hd' hf hf'
  rcases Nat.lt_trichotomy n m with hlt | heq | hgt
  · have E := Lib.hid (decide_eq_true (less_len HD.out HD'.out HF'.out hlt))
    rw [E.out]
    go_enter Tryz.func60, Tryz.ntmps60
    go_wp2
    go_ret
    exact ⟨by first | rfl | (simp; omega) | simp, Bel.refl _⟩
  · subst heq
    go_enter Tryz.func60, Tryz.ntmps60
    go_wp2_with fail
    go_loopw [5] (fun i wr => ∃ k : Nat, k ≤ n ∧ i = .int .i64 ((k : Int) - 1) ∧ (∀ i, k ≤ i → i < n → xs.getD i 0 = ys.getD i 0) ∧ Bel w wr) (fun i _ => (intOf i + 1).toNat)
    case atStart => exact ⟨n, Nat.le_refl _, rfl, fun i h1 h2 => absurd h1 (by omega), Bel.refl _⟩
    case round =>
      obtain ⟨k, hk, rfl, he, hb⟩ := hrel
      have HE := Lib.hid he
      clear he
      rcases k with _ | k
      · have E := Lib.hid (show decide (valTo xs n < valTo ys n) = false from decide_eq_false (by rw [valTo_congr fun i hi => HE.out i (Nat.zero_le _) hi]; omega))
        rw [show ((0 : Nat) : Int) - 1 = -1 from rfl]
        go_wp2
        go_ret
        exact ⟨by rw [E.out]; rfl, hb⟩
      · rw [show ((k + 1 : Nat) : Int) - 1 = k by omega]
        obtain ⟨b, o, rfl, hbw, hcell⟩ := (HI.out.bel hb).2 (by omega)
        obtain ⟨b', o', rfl, hbw', hcell'⟩ := (HI'.out.bel hb).2 (by omega)
        have hck := hcell k (by omega)
        have hck' := hcell' k (by omega)
        clear hcell hcell'
        rcases Int.lt_trichotomy (xs.getD k 0) (ys.getD k 0) with h | h | h
        · have E := Lib.hid (decide_eq_true (less_digit HD.out HD'.out (show k < n by omega) (fun i h1 h2 => HE.out i (by omega) h2) h))
          generalize xs.getD k 0 = x at hck h
          generalize ys.getD k 0 = y at hck' h
          have hne : (x != y) = true := by rw [bne_iff_ne]; omega
          go_wp2
          go_quiet (fail)
          go_wp2
          go_quiet (fail)
          go_wp2
          go_ret
          exact ⟨by rw [E.out]; first | rfl | simp [h], (hb.drewN _).drewN _⟩
        · have h' := Lib.hid h
          rw [h] at hck
          generalize ys.getD k 0 = y at hck hck'
          clear h
          go_wp2
          go_quiet (fail)
          go_wp2
          go_roundw
          case rel =>
            refine ⟨k, by omega, rfl, fun i h1 h2 => ?_, hb.drewN _⟩
            rcases Nat.lt_or_ge k i with h3 | h3
            · exact HE.out i h3 h2
            · obtain rfl : i = k := by omega
              exact h'.out
          case measure => simp [intOf]
        · have E := Lib.hid (less_digit HD'.out HD.out (show k < n by omega) (fun i h1 h2 => (HE.out i (by omega) h2).symm) h)
          have E' := Lib.hid (show decide (valTo xs n < valTo ys n) = false from decide_eq_false (by have := E.out; omega))
          generalize xs.getD k 0 = x at hck h
          generalize ys.getD k 0 = y at hck' h
          have hne : (x != y) = true := by rw [bne_iff_ne]; omega
          go_wp2
          go_quiet (fail)
          go_wp2
          go_quiet (fail)
          go_wp2
          go_ret
          exact ⟨by rw [E'.out]; first | rfl | (simp; omega), (hb.drewN _).drewN _⟩
  · have E := Lib.hid (less_len HD'.out HD.out HF.out hgt)
    have E' := Lib.hid (show decide (valTo xs n < valTo ys m) = false from decide_eq_false (by have := E.out; omega))
    rw [E'.out]
    go_enter Tryz.func60, Tryz.ntmps60
    go_wp2
    go_ret
    exact ⟨by first | rfl | (simp; omega) | simp, Bel.refl _⟩

end Gt
end Go.Proofs.YtneajcoiemkfbaaGreat
end

section
/-
  What SumGreat of distraintkit answers in this program: the sum of two great numbers.
  Conditions: the slices are great numbers of at most some thousand digits.
-/
namespace Go.Proofs.YtneajcoiemkfbaaGreat
open Go.RowKit Go.Shelf
set_option linter.unusedVariables false
namespace Gt

theorem ints_of_own' {w : World} {base : Nat} {e : TypeId} {v : Value} {n : Nat} {zs : List Int} (h : w.ownsRow base e 1 v n (zs.map (Value.int .u64))) :
    ∃ A c, v = .slice A n c ∧ Ints .u64 w A n zs ∧ n ≤ c ∧ c ≤ 9223372036854775807 := by
  obtain ⟨A, c, rfl, hi, hn⟩ := ints_of_own h
  refine ⟨A, c, rfl, hi, hn, ?_⟩
  rcases h.2 with ⟨h1, rfl⟩ | ⟨g, cap, cur, h1, hb, hg, hnc, hcm, r⟩
  · injection h1 with _ _ h2; omega
  · injection h1 with _ _ h2; unfold maxLen at hcm; omega

theorem one_cell (w : World) (u : Value) {t : TypeId} : ∀ (j : Nat) (u' : Value), [u][j]? = some u' → (w.alloc (.cells #[u] t)).cell? ((⟨w.heap.size, 0, none⟩ : Addr).add j) = some u' := by
  intro j u' hj
  match j, hj with
  | 0, hj => simp at hj; subst hj; simp [Addr.add]
theorem one_ok (z : Int) {k : IntKind} : ∀ u ∈ [Value.int k z], u.oneCell' = true := by
  intro u hu
  simp at hu
  subst hu
  rfl

theorem sum_round {zs xs ys : List Int} {c : Int} {i : Nat} (hl : zs.length = i) (h : valTo zs i + c * 65536 ^ i = valTo xs i + valTo ys i) :
    valTo (zs ++ [(c + xs.getD i 0 + ys.getD i 0) % 65536]) (i + 1) + (c + xs.getD i 0 + ys.getD i 0) / 65536 * 65536 ^ (i + 1) = valTo xs (i + 1) + valTo ys (i + 1) := by
  subst hl
  rw [valTo_snoc, pow_succ]
  show _ = valTo xs zs.length + xs.getD zs.length 0 * 65536 ^ zs.length + (valTo ys zs.length + ys.getD zs.length 0 * 65536 ^ zs.length)
  have e := Int.emod_add_mul_ediv (c + xs.getD zs.length 0 + ys.getD zs.length 0) 65536
  generalize (c + xs.getD zs.length 0 + ys.getD zs.length 0) % 65536 = r at *
  generalize hq : (c + xs.getD zs.length 0 + ys.getD zs.length 0) / 65536 = q at *
  generalize xs.getD zs.length 0 = x at *
  generalize ys.getD zs.length 0 = y at *
  generalize (65536 : Int) ^ zs.length = p at *
  have e2 : r * p + q * (p * 65536) = (c + x + y) * p := by rw [← e, Int.add_mul, Int.mul_comm 65536 q, Int.mul_assoc, Int.mul_comm 65536 p]
  rw [Int.add_mul, Int.add_mul] at e2
  omega

set_option maxHeartbeats 800000 in
set_option maxRecDepth 4000 in
theorem sum (v u : Value) (P Q : Int) (L M : Nat) (w : World) (hp : Gr w v P L) (hq : Gr w u Q M) (hL : L ≤ 100000) (hM : M ≤ 100000) :
    Calls Tryz.prog 61 #[v, u] w fun e w' => ∃ r, e = .returned r ∧ Gr w' r (P + Q) (L + M + 1) ∧ Bel w w' := by
  obtain ⟨A, n, c, xs, rfl, hx, hdx, hfx, rfl, hn⟩ := hp.open_
  obtain ⟨B, m, c', ys, rfl, hy, hdy, hfy, rfl, hm⟩ := hq.open_
  clear hp hq
  have HX := Lib.hid hx; have HY := Lib.hid hy; have DX := Lib.hid hdx; have DY := Lib.hid hdy
  clear hx hy hdx hdy hfx hfy
  have DG := Lib.hid (fun w' (hb : Bel w w') i => digit A n c xs i w' (HX.out.bel hb) (by omega))
  have DG' := Lib.hid (fun w' (hb : Bel w w') i => digit B m c' ys i w' (HY.out.bel hb) (by omega))
  obtain ⟨i0, hi, hz0, hz1, hz2⟩ := info_parts Tryz.info_u64
  go_enter Tryz.func61, Tryz.ntmps61
  go_wp2_with fail
  go_loopw [5, 6, 7] (fun o c i wr => ∃ (k : Nat) (q : Int) (zs : List Int), i = .int .i64 k ∧ c = .int .u64 q ∧ 0 ≤ q ∧ q ≤ 1 ∧ k ≤ max n m + 1 ∧ (k = max n m + 1 → q = 0) ∧ zs.length = k ∧ wr.ownsRow w.heap.size 32 1 o k (zs.map (Value.int .u64)) ∧ Dig zs ∧ valTo zs k + q * 65536 ^ k = valTo xs k + valTo ys k ∧ Bel w wr) (fun _ _ i _ => max n m + 1 - (intOf i).toNat)
  case atStart => exact ⟨0, 0, [], rfl, rfl, by omega, by omega, by omega, by omega, rfl, World.ownsRow_nil _ _ _ _, dig_nil, by simp [valTo], Bel.refl _⟩
  case round =>
    obtain ⟨k, q, zs, rfl, rfl, q0, q1, hk, hkq, hl, hown, hd, hv, hb⟩ := hrel
    have HV := Lib.hid hv
    have HO := Lib.hid hown
    have HL := Lib.hid hl
    have HD := Lib.hid hd
    have HKQ := Lib.hid hkq
    have hstep := Lib.hid (sum_round hl hv)
    obtain ⟨x0, x1⟩ := DX.out k
    obtain ⟨y0, y1⟩ := DY.out k
    have HXG := Lib.hid (fun (h : n ≤ k) => getD_ge (ys := xs) (i := k) (by rw [HX.out.1]; exact h))
    have HYG := Lib.hid (fun (h : m ≤ k) => getD_ge (ys := ys) (i := k) (by rw [HY.out.1]; exact h))
    have D1 := Lib.hid (DG.out wr hb k)
    have D2 := Lib.hid (DG'.out wr hb k)
    clear hv hown hl hd hkq
    by_cases hgo : k < max n m ∨ (max n m ≤ k ∧ 0 < q)
    · have hkm : k ≤ max n m := by
        rcases hgo with h | ⟨_, h⟩
        · omega
        · rcases Nat.lt_or_ge (max n m) k with h' | h'
          · have := HKQ.out (by omega); omega
          · exact h'
      have HEND := Lib.hid (fun (h : k + 1 = max n m + 1) => (⟨HXG.out (by omega), HYG.out (by omega)⟩ : xs.getD k 0 = 0 ∧ ys.getD k 0 = 0))
      generalize hgx : xs.getD k 0 = x at *
      generalize hgy : ys.getD k 0 = y at *
      have GX := Lib.hid hgx
      have GY := Lib.hid hgy
      clear hgx hgy
      rcases hgo with hgo | ⟨hge, hgo⟩
      all_goals
        go_wp2_with fail
        refine (D1.out).mono ?_
        rintro e w' ⟨rfl, rfl⟩
        go_wp2_with fail
        refine (D2.out).mono ?_
        rintro e w' ⟨rfl, rfl⟩
        go_wp2_with (at_builtin; refine wpList_append_own _ rfl _ _ 96 rfl w.heap.size 32 i0 (.int .u64 0) 1 8 Tryz.underlying96 hi hz0 hz1 hz2 rfl (by decide) _ _ _ rfl (HO.out.alloc _) ⟨wr.heap.size, 0, none⟩ 1 1 [.int .u64 ((q + x + y) % 65536)] rfl rfl (one_cell _ _) (one_ok _) (by unfold maxLen; omega) (by omega) (by have := Below.size hb; simp; omega) ?_; intro v' w1 hown' hgrow hnil)
        have hb' : Bel w w1 := Below.grown (hb.alloc _) hgrow (by have := Below.size hb; simp; omega) (fun k hk => (HO.out.lt k hk).1)
        clear hgrow hnil
        have HO' := Lib.hid hown'
        clear hown'
        go_wp2
        go_roundw
        case rel =>
          refine ⟨k + 1, (q + x + y) / 65536, zs ++ [(q + x + y) % 65536], by go_num, rfl, by omega, by omega, by omega, ?_, by rw [List.length_append, HL.out]; rfl, by rw [List.map_append]; exact HO'.out, dig_snoc HD.out (by omega) (by omega), hstep.out, hb'⟩
          intro h
          obtain ⟨h1, h2⟩ := HEND.out h
          omega
        case measure => simp [intOf]; omega
    · obtain rfl : q = 0 := by omega
      have hge : max n m ≤ k := by omega
      obtain ⟨A', c'', rfl, hints, hcc, hcm⟩ := ints_of_own' HO.out
      have HI := Lib.hid hints
      have T := Lib.hid (trim A' k c'' zs wr hints HD.out hcc hcm)
      have E : Hid (valTo zs k = valTo xs n + valTo ys m) := by
        have h1 := HV.out
        rw [valTo_beyond (zs := xs) (k := k) (by rw [HX.out.1]; omega), valTo_beyond (zs := ys) (k := k) (by rw [HY.out.1]; omega), HX.out.1, HY.out.1] at h1
        show _ = _
        omega
      clear hints hgo
      go_wp2_with fail
      refine (T.out).mono ?_
      rintro e w' ⟨r, rfl, hg, hb'⟩
      go_wp2
      go_ret
      refine ⟨r, rfl, ?_, hb.trans hb'⟩
      rw [E.out] at hg
      obtain ⟨A1, n1, c1, zs1, e1, r1, r2, r3, r4, r5⟩ := hg
      exact ⟨A1, n1, c1, zs1, e1, r1, r2, r3, r4, by omega⟩
end Gt
end Go.Proofs.YtneajcoiemkfbaaGreat
end

section
/-
  What TimesGreat of distraintkit answers in this program: the product of two great numbers.
  Conditions: the slices are great numbers of at most some thousand digits.
-/
namespace Go.Proofs.YtneajcoiemkfbaaGreat
open Go.RowKit Go.Shelf
set_option linter.unusedVariables false
namespace Gt

theorem getD_set {os : List Int} {p j : Nat} {d : Int} (hp : p < os.length) : (os.set p d).getD j 0 = if j = p then d else os.getD j 0 := by
  simp only [List.getD_eq_getElem?_getD, List.getElem?_set]
  split
  · rename_i h; subst h; simp
  · rename_i h; rw [if_neg (fun e => h e.symm)]
theorem valTo_set {os : List Int} {p n : Nat} {d : Int} (hp : p < os.length) : valTo (os.set p d) n = valTo os n + if p < n then (d - os.getD p 0) * 65536 ^ p else 0 := by
  induction n with
  | zero => simp [valTo]
  | succ n ih =>
    show valTo (os.set p d) n + (os.set p d).getD n 0 * _ = valTo os n + os.getD n 0 * _ + _
    rw [ih, getD_set hp]
    rcases Nat.lt_trichotomy p n with h | h | h
    · rw [if_pos h, if_neg (by omega), if_pos (by omega)]; omega
    · subst h
      rw [if_neg (by omega), if_pos rfl, if_pos (by omega), Int.sub_mul]; omega
    · rw [if_neg (by omega), if_neg (by omega), if_neg (by omega)]; omega
theorem dig_set {os : List Int} {p : Nat} {d : Int} (hp : p < os.length) (h : Dig os) (d0 : 0 ≤ d) (d1 : d ≤ 65535) : Dig (os.set p d) := by
  intro j
  rw [getD_set hp]
  split
  · exact ⟨d0, d1⟩
  · exact h j
theorem map_set {os : List Int} {p : Nat} {d : Int} {k : IntKind} : (os.map (Value.int k)).set p (.int k d) = (os.set p d).map (Value.int k) := by
  rw [List.map_set]

/-- what holds in the inner loop -/
structure Inner (os0 os ys : List Int) (x q V : Int) (N i k m : Nat) : Prop where
  len : os.length = N
  dig : Dig os
  q0 : 0 ≤ q
  q1 : q ≤ 65535
  val : valTo os N + q * 65536 ^ (i + k) = V + x * 65536 ^ i * valTo ys k
  far : ∀ j, i + k ≤ j → os.getD j 0 = os0.getD j 0
  fin : k = m + 1 → q = 0

theorem Inner.step {os0 os ys : List Int} {x q V : Int} {N i k m : Nat} (I : Inner os0 os ys x q V N i k m) (hN : i + m < N) (hk : k ≤ m) (x0 : 0 ≤ x) (x1 : x ≤ 65535)
    (hy : Dig ys) (hym : ys.getD m 0 = 0) (hz : os0.getD (i + m) 0 = 0) :
    Inner os0 (os.set (i + k) ((q + os.getD (i + k) 0 + x * ys.getD k 0) % 65536)) ys x ((q + os.getD (i + k) 0 + x * ys.getD k 0) / 65536) V N i (k + 1) m := by
  have hp : i + k < os.length := by rw [I.len]; omega
  have ho := I.dig (i + k)
  have hyk := hy k
  have m0 : 0 ≤ x * ys.getD k 0 := Int.mul_nonneg x0 hyk.1
  have m1 : x * ys.getD k 0 ≤ 65535 * 65535 := by
    have h1 : x * ys.getD k 0 ≤ 65535 * ys.getD k 0 := Int.mul_le_mul_of_nonneg_right x1 hyk.1
    omega
  have q0 := I.q0; have q1 := I.q1
  refine ⟨by rw [List.length_set]; exact I.len, dig_set hp I.dig (by omega) (by omega), by omega, by omega, ?_, fun j hj => ?_, fun hkm => ?_⟩
  · rw [valTo_set hp, if_pos (by omega), show i + (k + 1) = (i + k) + 1 by omega, pow_succ]
    have hv := I.val
    have e := Int.emod_add_mul_ediv (q + os.getD (i + k) 0 + x * ys.getD k 0) 65536
    show _ = V + x * 65536 ^ i * (valTo ys k + ys.getD k 0 * 65536 ^ k)
    rw [Int.mul_add]
    have e2 : x * 65536 ^ i * (ys.getD k 0 * 65536 ^ k) = x * ys.getD k 0 * 65536 ^ (i + k) := by
      rw [Int.pow_add, Int.mul_assoc, Int.mul_assoc, Int.mul_left_comm (65536 ^ i)]
    rw [e2]
    generalize (q + os.getD (i + k) 0 + x * ys.getD k 0) / 65536 = t at *
    generalize (q + os.getD (i + k) 0 + x * ys.getD k 0) % 65536 = r at *
    generalize x * ys.getD k 0 = z at *
    generalize os.getD (i + k) 0 = o at *
    generalize (65536 : Int) ^ (i + k) = p at *
    have e3 : (r - o) * p + t * (p * 65536) = q * p + z * p := by
      have : r - o + t * 65536 = q + z := by omega
      rw [← Int.add_mul, ← this, Int.add_mul, Int.mul_assoc, Int.mul_comm 65536 p]
    omega
  · rw [getD_set hp, if_neg (by omega)]
    exact I.far j (by omega)
  · obtain rfl : k = m := by omega
    have h1 := I.far (i + k) (Nat.le_refl _)
    rw [h1, hz, hym]
    simp
    omega

theorem digitQ (A : Option Addr) (n c : Nat) (zs : List Int) (i : Nat) (w : World) (hi : Ints .u64 w A n zs) (hn : n ≤ 9223372036854775807) :
    Calls Tryz.prog 127 #[.slice A n c, .int .i64 (i : Int)] w fun e w' => e = .returned (.int .u64 (zs.getD i 0)) ∧ w' = w :=
  (digit A n c zs i w hi hn).mono fun _ _ h => ⟨h.1, h.2.symm⟩

theorem cell_of_own {w : World} {base g cap : Nat} {e : TypeId} {n : Nat} {zs : List Int} (h : w.ownsRow base e 1 (.slice (some ⟨g, 0, none⟩) n cap) n (zs.map (Value.int .u64))) {j : Nat} (hj : j < n) :
    w.cell? ⟨g, j, none⟩ = some (.int .u64 (zs.getD j 0)) := by
  have hl : zs.length = n := by simpa using h.1
  rw [h.cellAt j (by omega), List.getElem?_map, List.getElem?_eq_getElem (by omega), List.getD_eq_getElem?_getD, List.getElem?_eq_getElem (by omega)]
  rfl

theorem made_zero (n : Nat) : (madeCells (Value.int .u64 0).cells (n * 1)).toList = (List.replicate n (0 : Int)).map (Value.int .u64) := by
  rw [Nat.mul_one]
  refine List.ext_getElem? fun i => ?_
  rw [Array.getElem?_toList, List.getElem?_map, List.getElem?_replicate]
  show (madeCells #[Value.int .u64 0] n)[i]? = _
  by_cases hi : i < n
  · simp [madeCells, hi, Nat.mod_one]
  · simp [madeCells, hi]
theorem getD_zero (n j : Nat) : (List.replicate n (0 : Int)).getD j 0 = 0 := by
  simp only [List.getD_eq_getElem?_getD, List.getElem?_replicate]
  split <;> rfl
theorem dig_zero (n : Nat) : Dig (List.replicate n (0 : Int)) := fun j => by rw [getD_zero]; exact ⟨by decide, by decide⟩
theorem valTo_zero (n k : Nat) : valTo (List.replicate n (0 : Int)) k = 0 := by
  rw [valTo_congr (ys := []) fun i _ => by rw [getD_zero]; rfl]
  exact valTo_nil k

set_option maxRecDepth 100000 in
set_option maxHeartbeats 800000 in
theorem times (v u : Value) (P Q : Int) (L M : Nat) (w : World) (hp : Gr w v P L) (hq : Gr w u Q M) (hL : L ≤ 100000) (hM : M ≤ 100000) :
    Calls Tryz.prog 58 #[v, u] w fun e w' => ∃ r, e = .returned r ∧ Gr w' r (P * Q) (L + M + 1) ∧ Bel w w' := by
  obtain ⟨A, n, c, xs, rfl, hx, hdx, hfx, rfl, hn⟩ := hp.open_
  obtain ⟨B, m, c', ys, rfl, hy, hdy, hfy, rfl, hm⟩ := hq.open_
  clear hp hq
  have HX := Lib.hid hx; have HY := Lib.hid hy; have DX := Lib.hid hdx; have DY := Lib.hid hdy
  clear hx hy hdx hdy hfx hfy
  have DG := Lib.hid (fun w' (hb : Bel w w') i => digitQ B m c' ys i w' (HY.out.bel hb) (by omega))
  obtain ⟨i0, hi, hz0, hz1, hz2⟩ := info_parts Tryz.info_u64
  go_enter Tryz.func58, Tryz.ntmps58
  go_wp2_with (at_make; refine wpList_make_full _ rfl _ _ 96 rfl w.heap.size 32 i0 (.int .u64 0) 1 Tryz.underlying96 hi hz0 hz1 .i64 .i64 _ _ (n + m + 1) rfl rfl (by omega) (by omega) (by rw [hz2]; omega) (by unfold maxLen; omega) (Nat.le_refl _) ?_; intro w0 hown0 hgrow0)
  have hb0 : Bel w w0 := Below.grown (Bel.refl w) hgrow0 (Nat.le_refl _) (by intro k hk; cases hk)
  have hown1 : w0.ownsRow w.heap.size 32 1 (.slice (some ⟨w.heap.size, 0, none⟩) (n + m + 1) (n + m + 1)) (n + m + 1) ((List.replicate (n + m + 1) (0 : Int)).map (Value.int .u64)) := by
    have e := hown0
    rw [made_zero] at e
    exact e
  clear hgrow0 hown0
  have HO0 := Lib.hid hown1
  clear hown1
  obtain ⟨g, hg⟩ : ∃ g, g = w.heap.size := ⟨_, rfl⟩
  have HG := Lib.hid hg
  rw [← hg]
  rw [← hg] at HO0
  clear hg
  go_loopw [6] (fun i wr => ∃ (k : Nat) (os : List Int), i = .int .i64 k ∧ k ≤ n ∧ os.length = n + m + 1 ∧ wr.ownsRow g 32 1 (.slice (some ⟨g, 0, none⟩) (n + m + 1) (n + m + 1)) (n + m + 1) (os.map (Value.int .u64)) ∧ Dig os ∧ valTo os (n + m + 1) = valTo xs k * valTo ys m ∧ (∀ j, k + m ≤ j → os.getD j 0 = 0) ∧ Bel w wr) (fun i _ => n - (intOf i).toNat)
  case atStart =>
    refine ⟨0, List.replicate (n + m + 1) 0, rfl, by omega, by simp, HO0.out, dig_zero _, ?_, fun j _ => getD_zero _ _, hb0⟩
    rw [valTo_zero]; simp [valTo]
  case round =>
    obtain ⟨i, os, rfl, hi', hlen, hown, hdo, hvo, hzo, hb⟩ := hrel
    have HL := Lib.hid hlen; have HO := Lib.hid hown; have HD := Lib.hid hdo; have HV := Lib.hid hvo; have HZ := Lib.hid hzo
    clear hlen hown hdo hvo hzo
    obtain ⟨wo, rfl⟩ : ∃ wo : World, wo = wr := ⟨_, rfl⟩
    by_cases hlt : i < n
    · obtain ⟨b, o, rfl, hbw, hcx⟩ := (HX.out).2 (by omega)
      have hcx' := hcx i hlt
      obtain ⟨x0, x1⟩ := DX.out i
      have hstep : valTo xs (i + 1) = valTo xs i + xs.getD i 0 * 65536 ^ i := rfl
      clear hcx
      generalize xs.getD i 0 = x at *
      have HS := Lib.hid hstep
      have HC := Lib.hid hcx'
      clear hstep hcx'
      go_wp2_with fail
      go_loopw [7, 8] (fun c k wr => ∃ (q : Int) (k' : Nat) (os' : List Int), c = .int .u64 q ∧ k = .int .i64 k' ∧ k' ≤ m + 1 ∧ Inner os os' ys x q (valTo os (n + m + 1)) (n + m + 1) i k' m ∧ wr.ownsRow g 32 1 (.slice (some ⟨g, 0, none⟩) (n + m + 1) (n + m + 1)) (n + m + 1) (os'.map (Value.int .u64)) ∧ Bel w wr) (fun _ k _ => m + 1 - (intOf k).toNat)
      case atStart =>
        exact ⟨0, 0, os, rfl, rfl, by omega, ⟨HL.out, HD.out, by omega, by omega, by simp [valTo], fun _ _ => rfl, by omega⟩, HO.out, hb⟩
      case round =>
        obtain ⟨q, k, os', rfl, rfl, hk, I, hown', hb'⟩ := hrel
        have HI := Lib.hid I
        have HO' := Lib.hid hown'
        have q0 := I.q0; have q1 := I.q1
        clear I hown'
        by_cases hkm : k ≤ m
        · have IS := Lib.hid (HI.out.step (by omega) hkm x0 x1 DY.out (getD_ge (by rw [HY.out.1]; exact Nat.le_refl _)) (HZ.out _ (Nat.le_refl _)))
          have c1 := cell_of_own HO'.out (j := i + k) (by omega)
          have f1 := HO'.out.frozenAt (i + k)
          have c2 : wr.cell? ⟨b, o + i, none⟩ = some (.int .u64 x) := (Below.cell (p := ⟨b, o + i, none⟩) hb' hbw).trans HC.out
          obtain ⟨y0, y1⟩ := DY.out k
          obtain ⟨o0, o1⟩ := HI.out.dig (i + k)
          have D := Lib.hid (fun n => DG.out (wr.drewN n) (hb'.drewN n) k)
          have HST := Lib.hid (fun u => HO'.out.stored (i + k) u)
          have hxy : 0 ≤ x * ys.getD k 0 ∧ x * ys.getD k 0 ≤ 4294836225 := by
            refine ⟨Int.mul_nonneg x0 y0, ?_⟩
            have h1 : x * ys.getD k 0 ≤ 65535 * ys.getD k 0 := Int.mul_le_mul_of_nonneg_right x1 y0
            omega
          obtain ⟨hxy0, hxy1⟩ := hxy
          generalize ys.getD k 0 = y at *
          generalize hoo : os'.getD (i + k) 0 = oo at *
          have HOO := Lib.hid hoo
          clear hoo
          have g1 : (0 : Int) ≤ (i : Int) + (k : Int) := by omega
          have g2 : (i : Int) + (k : Int) < (n : Int) + (m : Int) + 1 := by omega
          have g3 : (i : Int) < (n : Int) := by omega
          have g0 : IntKind.i64.wrap ((i : Int) + (k : Int)) = (i : Int) + (k : Int) := IntWalk.i64_in _ (by omega)
          have g4 : ((i : Int) + (k : Int)).toNat = i + k := by omega
          have u1 : IntKind.u64.wrap (q + oo) = q + oo := by rw [IntKind.wrap_u64]; omega
          have u2 : IntKind.u64.wrap (x * y) = x * y := by rw [IntKind.wrap_u64]; omega
          have u3 : IntKind.u64.wrap (q + oo + x * y) = q + oo + x * y := by rw [IntKind.wrap_u64]; omega
          go_wp2_with fail
          go_quiet ((go_at_call 127; exact Calls.quiet_of_same (D.out _)))
          clear g0 g4 u1 u2 u3
          go_wp2_with fail
          go_roundw
          case rel =>
            refine ⟨_, k + 1, _, rfl, by go_num, by omega, IS.out, ?_, Bel.set (hb'.drewN _) (by rw [← HG.out]; exact Nat.le_refl _) _⟩
            have h := fun n' => (World.ownsRow.stored (w := wr.drewN n') HO'.out (i + k) (.int .u64 ((q + oo + x * y) % 65536))).1
            simp only [map_set] at h
            exact h _
          case measure => simp [intOf]; omega
        · obtain rfl : k = m + 1 := by omega
          have hq : q = 0 := HI.out.fin rfl
          subst hq
          go_wp2
          go_roundw
          case rel =>
            refine ⟨i + 1, os', by go_num, by omega, HI.out.len, HO'.out, HI.out.dig, ?_, fun j hj => ?_, hb'⟩
            · have h1 := HI.out.val
              rw [valTo_beyond (zs := ys) (k := m + 1) (by rw [HY.out.1]; omega), HY.out.1, HV.out] at h1
              rw [HS.out, Int.add_mul, ← h1]
              omega
            · rw [HI.out.far j (by omega)]
              exact HZ.out j (by omega)
          case measure => simp [intOf]; omega
    · obtain rfl : i = n := by omega
      obtain ⟨A', c'', he, hints, hcc, hcm⟩ := ints_of_own' HO.out
      injection he with he1 he2 he3
      subst he1 he3
      have T := Lib.hid (trim _ _ _ os wo hints HD.out hcc hcm)
      clear hints
      go_wp2_with fail
      refine (T.out).mono ?_
      rintro e w' ⟨r, rfl, hg, hb'⟩
      go_wp2
      go_ret
      refine ⟨r, rfl, ?_, hb.trans hb'⟩
      rw [HV.out] at hg
      obtain ⟨A1, n1, c1, zs1, e1, r1, r2, r3, r4, r5⟩ := hg
      exact ⟨A1, n1, c1, zs1, e1, r1, r2, r3, r4, by omega⟩
end Gt
end Go.Proofs.YtneajcoiemkfbaaGreat
end
