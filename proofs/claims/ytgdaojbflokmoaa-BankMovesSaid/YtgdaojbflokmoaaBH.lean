/-
  Texts of this claim, put together: BkR, Bk9, BkA0, BkA, BkE, BkF. What each one says, and under which conditions, stands ahead of it.
-/
import Derived.Laws.StructEq
import Derived.Test.YtgdaojbflokmoaaBC
import Derived.Test.YtgdaojbflokmoaaBG
import Derived.Test.YtgdaojbflokmoaaBB

section
/-
  The mathematics of reading a bank's bytes: some of them are read of any bytes; its own bytes are read as it. No program, no condition.
-/
namespace Go.Proofs.Ytgdaojbflokmoaa
open Go.RowKit Go.Shelf
set_option linter.unusedVariables false
namespace Bk
open Cd

theorem val_one (zs : List Int) (k : Nat) {z : Int} (hz : zs.getD k 0 = z) (h0 : 0 ≤ z) (h1 : z < 128) : val zs k (0 + 1) = z := by
  have h : val zs k (0 + 1) = zs.getD k 0 % 128 + 128 * val zs (k + 1) 0 := val_front zs k 0
  have h2 : val zs (k + 1) 0 = 0 := rfl
  rw [h, h2, hz]
  omega
/-- N reads some number of any bytes. -/
theorem rn_of (zs : List Int) (hb : Bytes zs) (k : Nat) (hk : k ≤ zs.length) (least most : Int) : ∃ x k' f', RN zs k none least most x k' f' ∧ k' ≤ zs.length ∧ ((f' = none ∧ least ≤ x ∧ x ≤ most ∧ zs.take k ++ enc x = zs.take k') ∨ (∃ e, e ≠ 0 ∧ f' = some (e, (k : Int)) ∧ k' = k ∧ x = 0)) := by
  obtain ⟨x, k', f', hr, h0, h1, ho⟩ := ru_of zs hb k hk
  rcases hr with ⟨p, h, _⟩ | ⟨_, tl, e, bad, hw, hm, hle, hx⟩
  · cases h
  rcases hm with ⟨rfl, hk', rfl⟩ | ⟨he, rfl, rfl⟩
  · rcases ho with ⟨_, h2, h3⟩ | ⟨_, _, h2, _⟩
    · by_cases hb1 : least ≤ x ∧ x ≤ most
      · exact ⟨x, k', none, .inr ⟨rfl, tl, 0, 0, ⟨x, tl, 0, bad, hw, h0, h1, .inr (.inr ⟨rfl, hb1.1, hb1.2, rfl, rfl, rfl, rfl⟩)⟩, .inl ⟨rfl, hk', rfl⟩, hle, fun h => absurd rfl h⟩, hle, .inl ⟨rfl, hb1.1, hb1.2, h3⟩⟩
      · refine ⟨0, k, some (3, (k : Int)), .inr ⟨rfl, 0, 3, (k : Int), ⟨x, tl, 0, bad, hw, h0, h1, .inr (.inl ⟨rfl, by omega, rfl, rfl, rfl, rfl⟩)⟩, .inr ⟨by decide, rfl, rfl⟩, hk, fun _ => rfl⟩, hk, .inr ⟨3, by decide, rfl, rfl, rfl⟩⟩
    · cases h2
  · have hx0 : x = 0 := hx he
    subst hx0
    rcases ho with ⟨h2, _⟩ | ⟨e', he', h2, _⟩
    · cases h2
    · injection h2 with h2
      injection h2 with h2 h3
      subst h2
      subst h3
      exact ⟨0, k', some (e, (k' : Int)), .inr ⟨rfl, 0, e, (k' : Int), ⟨0, tl, e, (k' : Int), hw, by decide, by decide, .inl ⟨he, rfl, rfl, rfl, rfl⟩⟩, .inr ⟨he, rfl, rfl⟩, hk, fun _ => rfl⟩, hk, .inr ⟨e, he, rfl, rfl, rfl⟩⟩
/-- How a number's bytes look, wherever they stand. -/
theorem encN_shape (f : Nat) : ∀ n, 0 ≤ n → n < top f → ∃ j, j ≤ f ∧ (encN f n).length = j + 1 ∧ (∀ i, i < j → 128 ≤ (encN f n).getD i 0) ∧ (encN f n).getD j 0 < 128 ∧ (0 < j → 0 < (encN f n).getD j 0) ∧ (j = f → (encN f n).getD j 0 < 2 ∨ f = 0) ∧ (f = 0 → (encN f n).getD j 0 < 2) ∧
    ∀ (zs : List Int) (k : Nat), (∀ i, i ≤ j → zs.getD (k + i) 0 = (encN f n).getD i 0) → val zs k (j + 1) = n := by
  induction f with
  | zero =>
    intro n h0 h1
    have ht : top 0 = 2 := rfl
    refine ⟨0, Nat.le_refl _, rfl, fun i hi => absurd hi (by omega), ?_, fun h => absurd h (by omega), fun _ => .inr rfl, fun _ => ?_, fun zs k h => ?_⟩
    · show n < 128; omega
    · show n < 2; omega
    · exact val_one zs k (h 0 (Nat.le_refl _)) h0 (by omega)
  | succ f ih =>
    intro n h0 h1
    have ht : top (f + 1) = 128 * top f := rfl
    rcases Int.lt_or_le n 128 with h | h
    · rw [encN_small _ h]
      refine ⟨0, Nat.zero_le _, rfl, fun i hi => absurd hi (by omega), h, fun h => absurd h (by omega), fun h => absurd h (by omega), fun h => absurd h (by omega), fun zs k hz => ?_⟩
      exact val_one zs k (hz 0 (Nat.le_refl _)) h0 h
    · rw [encN_great _ h]
      obtain ⟨j, h2, h3, h4, h5, h6, h7, h8, h9⟩ := ih (n / 128) (by omega) (by omega)
      have hd : ∀ i, ((n % 128 + 128) :: encN f (n / 128)).getD (i + 1) 0 = (encN f (n / 128)).getD i 0 := fun i => by simp
      refine ⟨j + 1, by omega, by rw [List.length_cons, h3], fun i hi => ?_, by rw [hd]; exact h5, fun _ => ?_, fun hj => .inl ?_, fun h => absurd h (by omega), fun zs k hz => ?_⟩
      · match i, hi with
        | 0, _ => show (128 : Int) ≤ n % 128 + 128; omega
        | i + 1, hi => rw [hd]; exact h4 i (by omega)
      · rw [hd]
        rcases Nat.eq_zero_or_pos j with rfl | hp
        · have hl : encN f (n / 128) = [n / 128] := by
            rcases Int.lt_or_le (n / 128) 128 with h' | h'
            · exact encN_small _ h'
            · exfalso
              cases f with
              | zero => have : top 0 = 2 := rfl; omega
              | succ f =>
                rw [encN_great _ h', List.length_cons] at h3
                have := (encN_len f (n / 128 / 128)).1
                omega
          rw [hl]
          show 0 < n / 128
          omega
        · exact h6 hp
      · rw [hd]
        rcases h7 (by omega) with h | h
        · exact h
        · exact h8 h
      · have hz0 : zs.getD k 0 = n % 128 + 128 := hz 0 (Nat.zero_le _)
        rw [val_front, hz0, h9 zs (k + 1) (fun i hi => by
          have := hz (i + 1) (by omega)
          rw [hd] at this
          rw [← this, Nat.add_assoc, Nat.add_comm 1 i])]
        show (n % 128 + 128) % 128 + 128 * (n / 128) = n
        omega
/-- A number's bytes are read as it. -/
theorem way_enc (pre post : List Int) (x : Int) (h0 : 0 ≤ x) (h1 : x ≤ 18446744073709551615) : Cd.Way (pre ++ enc x ++ post) pre.length x ((pre.length + (enc x).length : Nat) : Int) 0 0 := by
  obtain ⟨j, a1, a2, a3, a4, a5, a6, a7, a8⟩ := encN_shape 9 x h0 (by rw [top9]; omega)
  have hg : ∀ i, i ≤ j → (pre ++ enc x ++ post).getD (pre.length + i) 0 = (encN 9 x).getD i 0 := fun i hi => by
    have hl : i < (enc x).length := by show i < (encN 9 x).length; omega
    rw [List.getD_eq_getElem?_getD, List.getD_eq_getElem?_getD, List.append_assoc, List.getElem?_append_right (by omega), Nat.add_sub_cancel_left, List.getElem?_append_left hl]
    rfl
  have hlen : (enc x).length = j + 1 := a2
  refine .inr (.inr ⟨pre.length, j, rfl, by omega, by simp; omega, fun i hi => by rw [hg i (by omega)]; exact a3 i hi, by rw [hg j (Nat.le_refl _)]; exact a4, fun h => by rw [hg j (Nat.le_refl _)]; exact a5 h, fun h => ?_, (a8 _ _ hg).symm, by rw [hlen]; push_cast; omega, rfl, rfl⟩)
  rw [hg j (Nat.le_refl _)]
  have := a5 (by omega)
  rcases a6 (by omega) with h | h
  · omega
  · omega
theorem rn_enc (pre post : List Int) (x least most : Int) (h0 : 0 ≤ x) (h1 : x ≤ 18446744073709551615) (hl : least ≤ x) (hm : x ≤ most) : RN (pre ++ enc x ++ post) pre.length none least most x (pre.length + (enc x).length) none :=
  .inr ⟨rfl, _, 0, 0, ⟨x, _, 0, 0, way_enc pre post x h0 h1, h0, h1, .inr (.inr ⟨rfl, hl, hm, rfl, rfl, rfl, rfl⟩)⟩, .inl ⟨rfl, rfl, rfl⟩, by simp, fun h => absurd rfl h⟩
theorem ru_enc (pre post : List Int) (x : Int) (h0 : 0 ≤ x) (h1 : x ≤ 18446744073709551615) : RU (pre ++ enc x ++ post) pre.length none x (pre.length + (enc x).length) none :=
  .inr ⟨rfl, _, 0, 0, way_enc pre post x h0 h1, .inl ⟨rfl, rfl, rfl⟩, by simp, fun h => absurd rfl h⟩

/-- Numbers, one behind the other. -/
def encs (l : List Int) : List Int := (l.map enc).flatten
theorem encs_cons (x : Int) (l : List Int) : encs (x :: l) = enc x ++ encs l := by simp [encs]
theorem encs_app (a b : List Int) : encs (a ++ b) = encs a ++ encs b := by simp [encs]
theorem encs_len (l : List Int) : (encs l).length ≤ 10 * l.length := by
  induction l with
  | nil => exact Nat.le_refl _
  | cons x r ih =>
    have := (enc_len x).2
    rw [encs_cons, List.length_append, List.length_cons]
    omega
/-- The numbers l are read from k on. -/
def Us (zs : List Int) (ke : Nat) (fe : Option (Int × Int)) : List Int → Nat → Option (Int × Int) → Prop
  | [], k, f => k = ke ∧ f = fe
  | x :: l, k, f => ∃ k' f', RU zs k f x k' f' ∧ Us zs ke fe l k' f'
/-- What is read of a bank's bytes: n, then n + 4 numbers. -/
def Run (zs : List Int) (n : Nat) (l : List Int) (ke : Nat) (fe : Option (Int × Int)) : Prop :=
  n ≤ 64 ∧ l.length = n + 4 ∧ Words l ∧ ∃ k0 f0, RN zs 0 none 1 64 n k0 f0 ∧ Us zs ke fe l k0 f0
theorem us_fault (zs : List Int) (k : Nat) (p : Int × Int) : ∀ n, Us zs k (some p) (List.replicate n 0) k (some p)
  | 0 => ⟨rfl, rfl⟩
  | n + 1 => ⟨k, some p, .inl ⟨p, rfl, rfl, rfl, rfl⟩, us_fault zs k p n⟩
theorem words_rep (n : Nat) : Words (List.replicate n 0) := words_of (fun z hz => by rw [(List.mem_replicate.1 hz).2]; decide)
theorem words_cons {x : Int} {l : List Int} (h0 : 0 ≤ x) (h1 : x ≤ 18446744073709551615) (h : Words l) : Words (x :: l) := words_of (fun z hz => by
  rcases List.mem_cons.1 hz with rfl | hz
  · exact ⟨h0, h1⟩
  · exact Words.mem h z hz)
theorem us_of (zs : List Int) (hb : Bytes zs) : ∀ (n k : Nat), k ≤ zs.length → ∃ l ke fe, l.length = n ∧ Words l ∧ Us zs ke fe l k none ∧ ke ≤ zs.length ∧ ((fe = none ∧ zs.take k ++ encs l = zs.take ke) ∨ ∃ e p, e ≠ 0 ∧ fe = some (e, p)) := by
  intro n
  induction n with
  | zero => exact fun k hk => ⟨[], k, none, rfl, words_nil, ⟨rfl, rfl⟩, hk, .inl ⟨rfl, by simp [encs]⟩⟩
  | succ n ih =>
    intro k hk
    obtain ⟨x, k', f', hr, h0, h1, ho⟩ := ru_of zs hb k hk
    rcases ho with ⟨rfl, h2, h3⟩ | ⟨e, he, rfl, rfl⟩
    · obtain ⟨l, ke, fe, hl, hw, hu, hke, ho⟩ := ih k' h2
      refine ⟨x :: l, ke, fe, by rw [List.length_cons, hl], words_cons h0 h1 hw, ⟨k', none, hr, hu⟩, hke, ho.imp (fun h => ⟨h.1, ?_⟩) id⟩
      rw [encs_cons, ← List.append_assoc, h3]
      exact h.2
    · exact ⟨x :: List.replicate n 0, k', some (e, (k' : Int)), by simp, words_cons h0 h1 (words_rep n), ⟨k', _, hr, us_fault zs k' _ n⟩, hk, .inr ⟨e, _, he, rfl⟩⟩
theorem run_some (zs : List Int) (hb : Bytes zs) : ∃ n l ke fe, Run zs n l ke fe ∧ ((endOf zs.length ke fe).1 = 0 → 1 ≤ n ∧ zs = enc n ++ encs l) := by
  obtain ⟨x, k0, f0, hr, hk, ho⟩ := rn_of zs hb 0 (Nat.zero_le _) 1 64
  rcases ho with ⟨rfl, h1, h2, h3⟩ | ⟨e, he, rfl, rfl, rfl⟩
  · obtain ⟨n, rfl⟩ := Int.eq_ofNat_of_zero_le (a := x) (by omega)
    obtain ⟨l, ke, fe, hl, hw, hu, hke, ho⟩ := us_of zs hb (n + 4) k0 hk
    refine ⟨n, l, ke, fe, ⟨by omega, hl, hw, k0, none, hr, hu⟩, fun he => ⟨by omega, ?_⟩⟩
    rcases ho with ⟨rfl, h4⟩ | ⟨e, p, hne, rfl⟩
    · rw [← h3] at h4
      have hke2 : ke = zs.length := by
        unfold endOf at he
        by_cases h : ke < zs.length
        · simp only [if_pos h] at he; cases he
        · omega
      rw [hke2, List.take_length] at h4
      simpa using h4.symm
    · exact absurd he hne
  · refine ⟨0, List.replicate 4 0, 0, some (e, 0), ⟨by omega, rfl, words_rep 4, 0, _, hr, us_fault zs 0 _ 4⟩, fun h => absurd h he⟩
theorem us_own (pre : List Int) : ∀ (l : List Int) (post : List Int), Words l → Us (pre ++ encs l ++ post) (pre ++ encs l).length none l pre.length none := by
  intro l
  induction l generalizing pre with
  | nil => exact fun post _ => by simp [encs, Us]
  | cons x l ih =>
    intro post hw
    obtain ⟨x0, x1⟩ := Words.mem hw x (List.mem_cons_self ..)
    have hw2 : Words l := words_of fun z hz => Words.mem hw z (List.mem_cons_of_mem _ hz)
    have h1 := ru_enc pre (encs l ++ post) x x0 x1
    have h2 := ih (pre ++ enc x) post hw2
    rw [encs_cons]
    refine ⟨(pre ++ enc x).length, none, ?_, ?_⟩
    · rw [List.length_append]
      have e : pre ++ (enc x ++ encs l) ++ post = pre ++ enc x ++ (encs l ++ post) := by simp
      rw [e]; exact h1
    · have e : pre ++ (enc x ++ encs l) ++ post = pre ++ enc x ++ encs l ++ post := by simp
      have e2 : pre ++ (enc x ++ encs l) = pre ++ enc x ++ encs l := by simp
      rw [e, e2]; exact h2
theorem run_own (n : Nat) (l : List Int) (h1 : 1 ≤ n) (hn : n ≤ 64) (hl : l.length = n + 4) (hw : Words l) : Run (enc n ++ encs l) n l (enc n ++ encs l).length none := by
  refine ⟨hn, hl, hw, (enc n).length, none, ?_, ?_⟩
  · have := rn_enc [] (encs l) n 1 64 (by omega) (by omega) (by omega) (by omega)
    simpa using this
  · have := us_own (enc n) l [] hw
    rwa [List.append_nil] at this
end Bk
end Go.Proofs.Ytgdaojbflokmoaa
end

section
/-
  What bank.Bytes answers. Conditions: the amounts are words.
-/
namespace Go.Proofs.Ytgdaojbflokmoaa
open Go.RowKit Go.Shelf
set_option linter.unusedVariables false
namespace Bk
open Pm

/-- A bank's bytes. -/
def bytesB (zs ps : List Int) : List Int := if chk zs ps = 0 then Cd.enc zs.length ++ encs (zs ++ ps) else []
theorem words_at {zs : List Int} (h : Words zs) (i : Nat) : 0 ≤ zs.getD i 0 ∧ zs.getD i 0 ≤ 18446744073709551615 := h i
theorem take_succ' (zs : List Int) (i : Nat) (h : i < zs.length) : zs.take (i + 1) = zs.take i ++ [zs.getD i 0] := by
  rw [List.take_add_one, List.getElem?_eq_getElem h, Kk.getD_eq _ _ h]
  rfl
theorem encs_one (x : Int) : encs [x] = Cd.enc x := by simp [encs]

end Bk
end Go.Proofs.Ytgdaojbflokmoaa
end

section
/-
  The memory while bank.Read runs. No walk.
-/
namespace Go.Proofs.Ytgdaojbflokmoaa
open Go.RowKit Go.Shelf
set_option linter.unusedVariables false
namespace Bk
open Pm

theorem kk {S : Nat → Prop} {a w : World} (h : Cd.Kep S a w) : Kk.Kep S a w := ⟨h.os, h.tape, h.output, h.size, h.block⟩
theorem ck {S : Nat → Prop} {a w : World} (h : Kk.Kep S a w) : Cd.Kep S a w := ⟨h.os, h.tape, h.output, h.size, h.block⟩
theorem made_zero (n : Nat) : (madeCells (Value.int .u64 0).cells (n * 1)).toList = (List.replicate n (0 : Int)).map (Value.int .u64) := by
  rw [Nat.mul_one]
  refine List.ext_getElem? fun i => ?_
  rw [Array.getElem?_toList, List.getElem?_map, List.getElem?_replicate]
  show (madeCells #[Value.int .u64 0] n)[i]? = _
  by_cases hi : i < n
  · simp [madeCells, hi, Nat.mod_one]
  · simp [madeCells, hi]

/-- What is told of a bank's bytes. -/
def rdF (raw : List Int) (n : Nat) (l : List Int) (ke : Nat) (fe : Option (Int × Int)) : Int × Int := if (Cd.endOf raw.length ke fe).1 = 0 then (chk (l.take n) (l.drop n), 0) else Cd.endOf raw.length ke fe
def rdZ (raw : List Int) (n : Nat) (l : List Int) (ke : Nat) (fe : Option (Int × Int)) : List Int := if (rdF raw n l ke fe).1 = 0 then l.take n else []
def rdP (raw : List Int) (n : Nat) (l : List Int) (ke : Nat) (fe : Option (Int × Int)) : List Int := if (rdF raw n l ke fe).1 = 0 then l.drop n else [0, 0, 0, 0]
theorem words_take {l : List Int} (h : Words l) (n : Nat) : Words (l.take n) := words_of fun z hz => Words.mem h z (List.mem_of_mem_take hz)
theorem words_drop {l : List Int} (h : Words l) (n : Nat) : Words (l.drop n) := words_of fun z hz => Words.mem h z (List.mem_of_mem_drop hz)
theorem us_step {zs : List Int} {ke : Nat} {fe : Option (Int × Int)} {l : List Int} {i k : Nat} {f : Option (Int × Int)} (h : Us zs ke fe (l.drop i) k f) (hi : i < l.length) : ∃ k' f', Cd.RU zs k f (l.getD i 0) k' f' ∧ Us zs ke fe (l.drop (i + 1)) k' f' := by
  rw [List.drop_eq_getElem_cons hi] at h
  rw [Kk.getD_eq _ _ hi]
  exact h
theorem filled {l Z : List Int} {a n : Nat} (hl : a + n ≤ l.length) (hZ : Z.length = n) (h : ∀ i, i < n → Z.getD i 0 = l.getD (a + i) 0) : Z = (l.drop a).take n := by
  refine List.ext_getElem (by simp; omega) fun i h1 h2 => ?_
  have := h i (by omega)
  rw [Kk.getD_eq _ _ h1, Kk.getD_eq _ _ (by omega)] at this
  simp [this]
end Bk
end Go.Proofs.Ytgdaojbflokmoaa
end

section
/-
  What bank.Read answers, given what is read of the bytes. Conditions: at most a million bytes.
-/
namespace Go.Proofs.Ytgdaojbflokmoaa
open Go.RowKit Go.Shelf
set_option linter.unusedVariables false
namespace Bk
open Pm

theorem flt_one (e p : Int) : (#[.int .i64 e, .int .i64 p] : Array Value).all (·.oneCell') = true := by simp; exact ⟨rfl, rfl⟩
theorem blk2 {w : World} {b : Nat} {C : List Value} {t : TypeId} (h : Kk.Blk w b C.toArray t) (hl : C.length = 2) (Y : List Value) (hY : Y.length = 2) : Kk.Blk (w.setCells b 0 Y) b Y.toArray t :=
  bwhole h (by simp [hl, hY])

theorem zc_len : ([.slice none 0 0, .int .u64 0, .int .u64 0, .int .u64 0, .int .u64 0] : List Value).length = 5 := rfl

end Bk
end Go.Proofs.Ytgdaojbflokmoaa
end

section
/-
  The law's reads. Conditions: at most a million bytes.
-/
namespace Go.Proofs.Ytgdaojbflokmoaa
open Go.RowKit Go.Shelf
set_option linter.unusedVariables false
namespace Bk
open Pm

end Bk
end Go.Proofs.Ytgdaojbflokmoaa
end

section
/-
  What the law's walks need besides: == of two faults, and what is read of some short bytes. No condition.
-/
namespace Go.Proofs.Ytgdaojbflokmoaa
open Go.RowKit Go.Shelf
set_option linter.unusedVariables false
namespace Bk
open Pm

theorem part0 {P : Program} {t : TypeId} {q : IntKind} (hu : P.underlying t = some (.int q)) {xs : Array Value} {i : Nat} {v : Value} (hx : xs[i]? = some v) (w : World) : (part t xs i).run P w = .ok v w := by
  simp [part, isAgg, run_underlying hu, hx]
theorem way_one {zs : List Int} {k : Nat} {z : Int} (hz : zs.getD k 0 = z) (hk : k < zs.length) (h0 : 0 ≤ z) (h1 : z < 128) : Cd.Way zs k z ((k + 1 : Nat) : Int) 0 0 := by
  refine .inr (.inr ⟨k, 0, rfl, by decide, hk, fun i hi => absurd hi (by omega), by rw [Nat.add_zero, hz]; exact h1, fun h => absurd h (by omega), fun h => absurd h (by omega), (val_one zs k hz h0 h1).symm, by push_cast; omega, rfl, rfl⟩)
theorem rn_ok {zs : List Int} {k : Nat} {z least most : Int} (hz : zs.getD k 0 = z) (hk : k < zs.length) (h0 : 0 ≤ z) (h1 : z < 128) (hl : least ≤ z) (hm : z ≤ most) : Cd.RN zs k none least most z (k + 1) none :=
  .inr ⟨rfl, ((k + 1 : Nat) : Int), 0, 0, ⟨z, _, 0, 0, way_one hz hk h0 h1, h0, by omega, .inr (.inr ⟨rfl, hl, hm, rfl, rfl, rfl, rfl⟩)⟩, .inl ⟨rfl, rfl, rfl⟩, by omega, fun h => absurd rfl h⟩
theorem rn_no {zs : List Int} {k : Nat} {z least most : Int} (hz : zs.getD k 0 = z) (hk : k < zs.length) (h0 : 0 ≤ z) (h1 : z < 128) (hb : z < least ∨ most < z) : Cd.RN zs k none least most 0 k (some (3, (k : Int))) :=
  .inr ⟨rfl, 0, 3, (k : Int), ⟨z, _, 0, 0, way_one hz hk h0 h1, h0, by omega, .inr (.inl ⟨rfl, hb, rfl, rfl, rfl, rfl⟩)⟩, .inr ⟨by decide, rfl, rfl⟩, by omega, fun _ => rfl⟩
/-- Nothing is left to read. -/
theorem rn_short (zs : List Int) (least most : Int) : Cd.RN zs zs.length none least most 0 zs.length (some (6, (zs.length : Int))) :=
  .inr ⟨rfl, 0, 6, (zs.length : Int), ⟨0, 0, 6, (zs.length : Int), .inr (.inl ⟨zs.length, rfl, Nat.le_refl _, rfl, rfl, rfl, .inl ⟨rfl, by omega, fun i hi => absurd hi (by omega)⟩⟩), by decide, by decide, .inl ⟨by decide, rfl, rfl, rfl, rfl⟩⟩, .inr ⟨by decide, rfl, rfl⟩, Nat.le_refl _, fun _ => rfl⟩

/-- What != of two structs answers, as an operation of a region. -/
theorem exec_neq {a : Act} {o : Oper} {t t2 : TypeId} {x y : Operand} (ho : o.op = .binOp .neq t x y t2) (xs ys : Array Value) (hx : a.eval x = .agg xs) (hy : a.eval y = .agg ys) (hm : Try.prog.eqGuardType Try.prog.depth t = false)
    {b : Bool} (hb : ∀ w, (binOp .neq t (.agg xs) (.agg ys)).run Try.prog w = .ok (.bool b) w) (w : World) : (execOp a.eval o).run Try.prog w = .ok (.value (.bool b)) w := by
  unfold execOp
  simp only [ho, hx, hy, Sem.run_bind, run_eqGuard_agg (hm := hm), Result.andThen_ok, hb, Sem.run_pure]
/-- What == of two structs answers, as an operation of a region. -/
theorem exec_eql {a : Act} {o : Oper} {t t2 : TypeId} {x y : Operand} (ho : o.op = .binOp .eql t x y t2) (xs ys : Array Value) (hx : a.eval x = .agg xs) (hy : a.eval y = .agg ys) (hm : Try.prog.eqGuardType Try.prog.depth t = false)
    {b : Bool} (hb : ∀ w, (binOp .eql t (.agg xs) (.agg ys)).run Try.prog w = .ok (.bool b) w) (w : World) : (execOp a.eval o).run Try.prog w = .ok (.value (.bool b)) w := by
  unfold execOp
  simp only [ho, hx, hy, Sem.run_bind, run_eqGuard_agg (hm := hm), Result.andThen_ok, hb, Sem.run_pure]
/-- An operation that yields a value, whether it is guarded or not, as an arm of a walk. -/
theorem wpList_val {ops : Array Oper} {rest : List Oper} {o : Oper} {a : Act} {w : World} {Q : Exit → Act → World → Prop} (hw : Region.wanted o (yielded ops a.tmps) = true) (V : Value) (hr : ∀ w, (execOp a.eval o).run Try.prog w = .ok (.value V) w)
    (h : wpList Try.prog ops Q rest (a.put o.dst V) w) : wpList Try.prog ops Q (o :: rest) a w :=
  wpList_step fun K hK => by
    rw [if_pos hw]
    unfold Oper.wp
    rw [hr]
    exact hK _ _ h
theorem ru_ok {zs : List Int} {k : Nat} {z : Int} (hz : zs.getD k 0 = z) (hk : k < zs.length) (h0 : 0 ≤ z) (h1 : z < 128) : Cd.RU zs k none z (k + 1) none :=
  .inr ⟨rfl, ((k + 1 : Nat) : Int), 0, 0, way_one hz hk h0 h1, .inl ⟨rfl, rfl, rfl⟩, by omega, fun h => absurd rfl h⟩
theorem ru_short (zs : List Int) : Cd.RU zs zs.length none 0 zs.length (some (6, (zs.length : Int))) :=
  .inr ⟨rfl, 0, 6, (zs.length : Int), .inr (.inl ⟨zs.length, rfl, Nat.le_refl _, rfl, rfl, rfl, .inl ⟨rfl, by omega, fun i hi => absurd hi (by omega)⟩⟩), .inr ⟨by decide, rfl, rfl⟩, Nat.le_refl _, fun _ => rfl⟩
theorem run_a : Run [1, 0, 0, 0, 0] 1 [0, 0, 0, 0, 0] 5 (some (6, 5)) := by
  refine ⟨by omega, rfl, words_rep 5, 1, none, rn_ok (z := 1) rfl (by decide) (by decide) (by decide) (by decide) (by decide), ?_⟩
  refine ⟨2, none, ru_ok (z := 0) rfl (by decide) (by decide) (by decide), 3, none, ru_ok (z := 0) rfl (by decide) (by decide) (by decide), 4, none, ru_ok (z := 0) rfl (by decide) (by decide) (by decide), 5, none, ru_ok (z := 0) rfl (by decide) (by decide) (by decide), 5, some (6, 5), ru_short [1, 0, 0, 0, 0], rfl, rfl⟩
theorem run_b : Run [0] 0 [0, 0, 0, 0] 0 (some (3, 0)) :=
  ⟨by omega, rfl, words_rep 4, 0, some (3, 0), rn_no (z := 0) rfl (by decide) (by decide) (by decide) (.inl (by decide)), us_fault [0] 0 (3, 0) 4⟩
theorem run_c : Run [1, 0] 1 [0, 0, 0, 0, 0] 2 (some (6, 2)) := by
  refine ⟨by omega, rfl, words_rep 5, 1, none, rn_ok (z := 1) rfl (by decide) (by decide) (by decide) (by decide) (by decide), ?_⟩
  exact ⟨2, none, ru_ok (z := 0) rfl (by decide) (by decide) (by decide), 2, some (6, 2), ru_short [1, 0], us_fault [1, 0] 2 (6, 2) 3⟩
theorem wpList_make_g (w : World) {ops : Array Oper} {rest : List Oper} {o : Oper} {a : Act} {Q : Exit → Act → World → Prop}
    (hw : Region.wanted o (yielded ops a.tmps) = true) (l c : Operand) (hop : o.op = Op.makeSlice 22 l c) (n : Nat) (hl : a.eval l = .int .i64 n) (hc : a.eval c = .int .i64 n) (hn : n ≤ 1000000)
    (hK : ∀ w', w'.ownsRow w.heap.size 23 1 (.slice (some ⟨w.heap.size, 0, none⟩) n n) n ((List.replicate n (0 : Int)).map (Value.int .u64)) → Kk.Bel w w' → wpList Try.prog ops Q rest (a.put o.dst (.slice (some ⟨w.heap.size, 0, none⟩) n n)) w') :
    wpList Try.prog ops Q (o :: rest) a w := by
  obtain ⟨i0, hi, hz0, hz1, hz2⟩ := info_parts info_w
  refine wpList_step fun K hK' => ?_
  rw [if_pos hw]
  obtain ⟨w', hrun, r1, r2⟩ := run_make_full (P := Try.prog) w w.heap.size 22 23 i0 (.int .u64 0) 1 Try.underlying22 hi hz0 hz1 .i64 .i64 n (by rw [hz2]; omega) (by unfold maxLen; omega) (Nat.le_refl _)
  rw [made_zero] at r1
  unfold Oper.wp
  simp [execOp, hop, hl, hc, hrun, Result.andThen]
  exact hK' _ _ (hK w' r1 (Kk.Bel.grown (Kk.Bel.refl w) r2 (by intro k hk; cases hk)))
theorem bytes_small {zs : List Int} (h : ∀ z ∈ zs, 0 ≤ z ∧ z ≤ 255) : Cd.Bytes zs := by
  intro i
  rw [List.getD_eq_getElem?_getD]
  rcases Nat.lt_or_ge i zs.length with hi | hi
  · rw [List.getElem?_eq_getElem hi]
    exact h _ (List.getElem_mem hi)
  · rw [List.getElem?_eq_none hi]
    exact ⟨by decide, by decide⟩
end Bk
end Go.Proofs.Ytgdaojbflokmoaa
end
