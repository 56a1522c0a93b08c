/-
  Texts of this claim, put together: BkR, Bk9, BkA0, BkA, BkE, BkF. What each one says, and under which conditions, stands ahead of it.
-/
import Derived.Laws.StructEq
import Derived.Test.YthdcgkikhindiaaBC
import Derived.Test.YthdcgkikhindiaaBG
import Derived.Test.YthdcgkikhindiaaBB

section
/-
  The mathematics of reading a bank's bytes: some of them are read of any bytes; its own bytes are read as it. No program, no condition.
-/
namespace Go.Proofs.Ythdcgkikhindiaa
open Go.RowKit Go.Shelf
set_option linter.unusedVariables false
namespace Bk
open Cd

theorem val_one (zs : List Int) (k : Nat) {z : Int} (hz : zs.getD k 0 = z) (h0 : 0 ≤ z) (h1 : z < 128) : val zs k (0 + 1) = z := by
  have h : val zs k (0 + 1) = zs.getD k 0 % 128 + 128 * val zs (k + 1) 0 := val_front zs k 0
  have h2 : val zs (k + 1) 0 = 0 := rfl
  rw [h, h2, hz]
  omega
/-- N reads some number of any bytes. -/
theorem rn_of (zs : List Int) (hb : Bytes zs) (k : Nat) (hk : k ≤ zs.length) (least most : Int) : ∃ x k' f', RN zs k none least most x k' f' ∧ k' ≤ zs.length ∧ ((f' = none ∧ least ≤ x ∧ x ≤ most ∧ zs.take k ++ enc x = zs.take k') ∨ (∃ e, e ≠ 0 ∧ f' = some (e, (k : Int)) ∧ k' = k ∧ x = 0)) := by
  obtain ⟨x, k', f', hr, h0, h1, ho⟩ := ru_of zs hb k hk
  rcases hr with ⟨p, h, _⟩ | ⟨_, tl, e, bad, hw, hm, hle, hx⟩
  · cases h
  rcases hm with ⟨rfl, hk', rfl⟩ | ⟨he, rfl, rfl⟩
  · rcases ho with ⟨_, h2, h3⟩ | ⟨_, _, h2, _⟩
    · by_cases hb1 : least ≤ x ∧ x ≤ most
      · exact ⟨x, k', none, .inr ⟨rfl, tl, 0, 0, ⟨x, tl, 0, bad, hw, h0, h1, .inr (.inr ⟨rfl, hb1.1, hb1.2, rfl, rfl, rfl, rfl⟩)⟩, .inl ⟨rfl, hk', rfl⟩, hle, fun h => absurd rfl h⟩, hle, .inl ⟨rfl, hb1.1, hb1.2, h3⟩⟩
      · refine ⟨0, k, some (3, (k : Int)), .inr ⟨rfl, 0, 3, (k : Int), ⟨x, tl, 0, bad, hw, h0, h1, .inr (.inl ⟨rfl, by omega, rfl, rfl, rfl, rfl⟩)⟩, .inr ⟨by decide, rfl, rfl⟩, hk, fun _ => rfl⟩, hk, .inr ⟨3, by decide, rfl, rfl, rfl⟩⟩
    · cases h2
  · have hx0 : x = 0 := hx he
    subst hx0
    rcases ho with ⟨h2, _⟩ | ⟨e', he', h2, _⟩
    · cases h2
    · injection h2 with h2
      injection h2 with h2 h3
      subst h2
      subst h3
      exact ⟨0, k', some (e, (k' : Int)), .inr ⟨rfl, 0, e, (k' : Int), ⟨0, tl, e, (k' : Int), hw, by decide, by decide, .inl ⟨he, rfl, rfl, rfl, rfl⟩⟩, .inr ⟨he, rfl, rfl⟩, hk, fun _ => rfl⟩, hk, .inr ⟨e, he, rfl, rfl, rfl⟩⟩
/-- How a number's bytes look, wherever they stand. -/
theorem encN_shape (f : Nat) : ∀ n, 0 ≤ n → n < top f → ∃ j, j ≤ f ∧ (encN f n).length = j + 1 ∧ (∀ i, i < j → 128 ≤ (encN f n).getD i 0) ∧ (encN f n).getD j 0 < 128 ∧ (0 < j → 0 < (encN f n).getD j 0) ∧ (j = f → (encN f n).getD j 0 < 2 ∨ f = 0) ∧ (f = 0 → (encN f n).getD j 0 < 2) ∧
    ∀ (zs : List Int) (k : Nat), (∀ i, i ≤ j → zs.getD (k + i) 0 = (encN f n).getD i 0) → val zs k (j + 1) = n := by
  induction f with
  | zero =>
    intro n h0 h1
    have ht : top 0 = 2 := rfl
    refine ⟨0, Nat.le_refl _, rfl, fun i hi => absurd hi (by omega), ?_, fun h => absurd h (by omega), fun _ => .inr rfl, fun _ => ?_, fun zs k h => ?_⟩
    · show n < 128; omega
    · show n < 2; omega
    · exact val_one zs k (h 0 (Nat.le_refl _)) h0 (by omega)
  | succ f ih =>
    intro n h0 h1
    have ht : top (f + 1) = 128 * top f := rfl
    rcases Int.lt_or_le n 128 with h | h
    · rw [encN_small _ h]
      refine ⟨0, Nat.zero_le _, rfl, fun i hi => absurd hi (by omega), h, fun h => absurd h (by omega), fun h => absurd h (by omega), fun h => absurd h (by omega), fun zs k hz => ?_⟩
      exact val_one zs k (hz 0 (Nat.le_refl _)) h0 h
    · rw [encN_great _ h]
      obtain ⟨j, h2, h3, h4, h5, h6, h7, h8, h9⟩ := ih (n / 128) (by omega) (by omega)
      have hd : ∀ i, ((n % 128 + 128) :: encN f (n / 128)).getD (i + 1) 0 = (encN f (n / 128)).getD i 0 := fun i => by simp
      refine ⟨j + 1, by omega, by rw [List.length_cons, h3], fun i hi => ?_, by rw [hd]; exact h5, fun _ => ?_, fun hj => .inl ?_, fun h => absurd h (by omega), fun zs k hz => ?_⟩
      · match i, hi with
        | 0, _ => show (128 : Int) ≤ n % 128 + 128; omega
        | i + 1, hi => rw [hd]; exact h4 i (by omega)
      · rw [hd]
        rcases Nat.eq_zero_or_pos j with rfl | hp
        · have hl : encN f (n / 128) = [n / 128] := by
            rcases Int.lt_or_le (n / 128) 128 with h' | h'
            · exact encN_small _ h'
            · exfalso
              cases f with
              | zero => have : top 0 = 2 := rfl; omega
              | succ f =>
                rw [encN_great _ h', List.length_cons] at h3
                have := (encN_len f (n / 128 / 128)).1
                omega
          rw [hl]
          show 0 < n / 128
          omega
        · exact h6 hp
      · rw [hd]
        rcases h7 (by omega) with h | h
        · exact h
        · exact h8 h
      · have hz0 : zs.getD k 0 = n % 128 + 128 := hz 0 (Nat.zero_le _)
        rw [val_front, hz0, h9 zs (k + 1) (fun i hi => by
          have := hz (i + 1) (by omega)
          rw [hd] at this
          rw [← this, Nat.add_assoc, Nat.add_comm 1 i])]
        show (n % 128 + 128) % 128 + 128 * (n / 128) = n
        omega
/-- A number's bytes are read as it. -/
theorem way_enc (pre post : List Int) (x : Int) (h0 : 0 ≤ x) (h1 : x ≤ 18446744073709551615) : Cd.Way (pre ++ enc x ++ post) pre.length x ((pre.length + (enc x).length : Nat) : Int) 0 0 := by
  obtain ⟨j, a1, a2, a3, a4, a5, a6, a7, a8⟩ := encN_shape 9 x h0 (by rw [top9]; omega)
  have hg : ∀ i, i ≤ j → (pre ++ enc x ++ post).getD (pre.length + i) 0 = (encN 9 x).getD i 0 := fun i hi => by
    have hl : i < (enc x).length := by show i < (encN 9 x).length; omega
    rw [List.getD_eq_getElem?_getD, List.getD_eq_getElem?_getD, List.append_assoc, List.getElem?_append_right (by omega), Nat.add_sub_cancel_left, List.getElem?_append_left hl]
    rfl
  have hlen : (enc x).length = j + 1 := a2
  refine .inr (.inr ⟨pre.length, j, rfl, by omega, by simp; omega, fun i hi => by rw [hg i (by omega)]; exact a3 i hi, by rw [hg j (Nat.le_refl _)]; exact a4, fun h => by rw [hg j (Nat.le_refl _)]; exact a5 h, fun h => ?_, (a8 _ _ hg).symm, by rw [hlen]; push_cast; omega, rfl, rfl⟩)
  rw [hg j (Nat.le_refl _)]
  have := a5 (by omega)
  rcases a6 (by omega) with h | h
  · omega
  · omega
theorem rn_enc (pre post : List Int) (x least most : Int) (h0 : 0 ≤ x) (h1 : x ≤ 18446744073709551615) (hl : least ≤ x) (hm : x ≤ most) : RN (pre ++ enc x ++ post) pre.length none least most x (pre.length + (enc x).length) none :=
  .inr ⟨rfl, _, 0, 0, ⟨x, _, 0, 0, way_enc pre post x h0 h1, h0, h1, .inr (.inr ⟨rfl, hl, hm, rfl, rfl, rfl, rfl⟩)⟩, .inl ⟨rfl, rfl, rfl⟩, by simp, fun h => absurd rfl h⟩
theorem ru_enc (pre post : List Int) (x : Int) (h0 : 0 ≤ x) (h1 : x ≤ 18446744073709551615) : RU (pre ++ enc x ++ post) pre.length none x (pre.length + (enc x).length) none :=
  .inr ⟨rfl, _, 0, 0, way_enc pre post x h0 h1, .inl ⟨rfl, rfl, rfl⟩, by simp, fun h => absurd rfl h⟩

/-- Numbers, one behind the other. -/
def encs (l : List Int) : List Int := (l.map enc).flatten
theorem encs_cons (x : Int) (l : List Int) : encs (x :: l) = enc x ++ encs l := by simp [encs]
theorem encs_app (a b : List Int) : encs (a ++ b) = encs a ++ encs b := by simp [encs]
theorem encs_len (l : List Int) : (encs l).length ≤ 10 * l.length := by
  induction l with
  | nil => exact Nat.le_refl _
  | cons x r ih =>
    have := (enc_len x).2
    rw [encs_cons, List.length_append, List.length_cons]
    omega
/-- The numbers l are read from k on. -/
def Us (zs : List Int) (ke : Nat) (fe : Option (Int × Int)) : List Int → Nat → Option (Int × Int) → Prop
  | [], k, f => k = ke ∧ f = fe
  | x :: l, k, f => ∃ k' f', RU zs k f x k' f' ∧ Us zs ke fe l k' f'
/-- What is read of a bank's bytes: n, then n + 4 numbers. -/
def Run (zs : List Int) (n : Nat) (l : List Int) (ke : Nat) (fe : Option (Int × Int)) : Prop :=
  n ≤ 64 ∧ l.length = n + 4 ∧ Words l ∧ ∃ k0 f0, RN zs 0 none 1 64 n k0 f0 ∧ Us zs ke fe l k0 f0
theorem us_fault (zs : List Int) (k : Nat) (p : Int × Int) : ∀ n, Us zs k (some p) (List.replicate n 0) k (some p)
  | 0 => ⟨rfl, rfl⟩
  | n + 1 => ⟨k, some p, .inl ⟨p, rfl, rfl, rfl, rfl⟩, us_fault zs k p n⟩
theorem words_rep (n : Nat) : Words (List.replicate n 0) := words_of (fun z hz => by rw [(List.mem_replicate.1 hz).2]; decide)
theorem words_cons {x : Int} {l : List Int} (h0 : 0 ≤ x) (h1 : x ≤ 18446744073709551615) (h : Words l) : Words (x :: l) := words_of (fun z hz => by
  rcases List.mem_cons.1 hz with rfl | hz
  · exact ⟨h0, h1⟩
  · exact Words.mem h z hz)
theorem us_of (zs : List Int) (hb : Bytes zs) : ∀ (n k : Nat), k ≤ zs.length → ∃ l ke fe, l.length = n ∧ Words l ∧ Us zs ke fe l k none ∧ ke ≤ zs.length ∧ ((fe = none ∧ zs.take k ++ encs l = zs.take ke) ∨ ∃ e p, e ≠ 0 ∧ fe = some (e, p)) := by
  intro n
  induction n with
  | zero => exact fun k hk => ⟨[], k, none, rfl, words_nil, ⟨rfl, rfl⟩, hk, .inl ⟨rfl, by simp [encs]⟩⟩
  | succ n ih =>
    intro k hk
    obtain ⟨x, k', f', hr, h0, h1, ho⟩ := ru_of zs hb k hk
    rcases ho with ⟨rfl, h2, h3⟩ | ⟨e, he, rfl, rfl⟩
    · obtain ⟨l, ke, fe, hl, hw, hu, hke, ho⟩ := ih k' h2
      refine ⟨x :: l, ke, fe, by rw [List.length_cons, hl], words_cons h0 h1 hw, ⟨k', none, hr, hu⟩, hke, ho.imp (fun h => ⟨h.1, ?_⟩) id⟩
      rw [encs_cons, ← List.append_assoc, h3]
      exact h.2
    · exact ⟨x :: List.replicate n 0, k', some (e, (k' : Int)), by simp, words_cons h0 h1 (words_rep n), ⟨k', _, hr, us_fault zs k' _ n⟩, hk, .inr ⟨e, _, he, rfl⟩⟩
theorem run_some (zs : List Int) (hb : Bytes zs) : ∃ n l ke fe, Run zs n l ke fe ∧ ((endOf zs.length ke fe).1 = 0 → 1 ≤ n ∧ zs = enc n ++ encs l) := by
  obtain ⟨x, k0, f0, hr, hk, ho⟩ := rn_of zs hb 0 (Nat.zero_le _) 1 64
  rcases ho with ⟨rfl, h1, h2, h3⟩ | ⟨e, he, rfl, rfl, rfl⟩
  · obtain ⟨n, rfl⟩ := Int.eq_ofNat_of_zero_le (a := x) (by omega)
    obtain ⟨l, ke, fe, hl, hw, hu, hke, ho⟩ := us_of zs hb (n + 4) k0 hk
    refine ⟨n, l, ke, fe, ⟨by omega, hl, hw, k0, none, hr, hu⟩, fun he => ⟨by omega, ?_⟩⟩
    rcases ho with ⟨rfl, h4⟩ | ⟨e, p, hne, rfl⟩
    · rw [← h3] at h4
      have hke2 : ke = zs.length := by
        unfold endOf at he
        by_cases h : ke < zs.length
        · simp only [if_pos h] at he; cases he
        · omega
      rw [hke2, List.take_length] at h4
      simpa using h4.symm
    · exact absurd he hne
  · refine ⟨0, List.replicate 4 0, 0, some (e, 0), ⟨by omega, rfl, words_rep 4, 0, _, hr, us_fault zs 0 _ 4⟩, fun h => absurd h he⟩
theorem us_own (pre : List Int) : ∀ (l : List Int) (post : List Int), Words l → Us (pre ++ encs l ++ post) (pre ++ encs l).length none l pre.length none := by
  intro l
  induction l generalizing pre with
  | nil => exact fun post _ => by simp [encs, Us]
  | cons x l ih =>
    intro post hw
    obtain ⟨x0, x1⟩ := Words.mem hw x (List.mem_cons_self ..)
    have hw2 : Words l := words_of fun z hz => Words.mem hw z (List.mem_cons_of_mem _ hz)
    have h1 := ru_enc pre (encs l ++ post) x x0 x1
    have h2 := ih (pre ++ enc x) post hw2
    rw [encs_cons]
    refine ⟨(pre ++ enc x).length, none, ?_, ?_⟩
    · rw [List.length_append]
      have e : pre ++ (enc x ++ encs l) ++ post = pre ++ enc x ++ (encs l ++ post) := by simp
      rw [e]; exact h1
    · have e : pre ++ (enc x ++ encs l) ++ post = pre ++ enc x ++ encs l ++ post := by simp
      have e2 : pre ++ (enc x ++ encs l) = pre ++ enc x ++ encs l := by simp
      rw [e, e2]; exact h2
theorem run_own (n : Nat) (l : List Int) (h1 : 1 ≤ n) (hn : n ≤ 64) (hl : l.length = n + 4) (hw : Words l) : Run (enc n ++ encs l) n l (enc n ++ encs l).length none := by
  refine ⟨hn, hl, hw, (enc n).length, none, ?_, ?_⟩
  · have := rn_enc [] (encs l) n 1 64 (by omega) (by omega) (by omega) (by omega)
    simpa using this
  · have := us_own (enc n) l [] hw
    rwa [List.append_nil] at this
end Bk
end Go.Proofs.Ythdcgkikhindiaa
end

section
/-
  What bank.Bytes answers. Conditions: the amounts are words.
-/
namespace Go.Proofs.Ythdcgkikhindiaa
open Go.RowKit Go.Shelf
set_option linter.unusedVariables false
namespace Bk
open Pm

/-- A bank's bytes. -/
def bytesB (zs ps : List Int) : List Int := if chk zs ps = 0 then Cd.enc zs.length ++ encs (zs ++ ps) else []
theorem after_ok {w : World} {b : Nat} {L r : Int} {out more : List Int} {base : Nat} (h : Cd.After w b L r out more base) (hl : ((out ++ more).length : Int) ≤ L) : ∃ v, Cd.WS w b L v 0 (out ++ more) base := by
  rcases h with ⟨_, _, h⟩ | ⟨_, h, _⟩
  · exact h
  · omega
theorem bel_own {a w w' : World} {b : Nat} {v : Value} {L err : Int} {out : List Int} {base : Nat} (h : Kk.Bel a w) (hw : Cd.WS w b L v err out base) (hb : a.heap.size ≤ b) (hbase : a.heap.size ≤ base) (k : Cd.Kep (Cd.Own2 b v) w w') : Kk.Bel a w' :=
  Kk.Kep.bel h ⟨k.os, k.tape, k.output, k.size, k.block⟩ (fun i hi => by
    rcases hi with rfl | hi
    · exact hb
    · exact Nat.le_trans hbase (hw.row.lt i hi).1)
theorem words_at {zs : List Int} (h : Words zs) (i : Nat) : 0 ≤ zs.getD i 0 ∧ zs.getD i 0 ≤ 18446744073709551615 := h i
theorem take_succ' (zs : List Int) (i : Nat) (h : i < zs.length) : zs.take (i + 1) = zs.take i ++ [zs.getD i 0] := by
  rw [List.take_add_one, List.getElem?_eq_getElem h, Kk.getD_eq _ _ h]
  rfl
theorem encs_one (x : Int) : encs [x] = Cd.enc x := by simp [encs]

set_option maxRecDepth 10000 in
set_option maxHeartbeats 4000000 in
theorem bytesV (Y : List Value) (zs ps : List Int) (w : World) (h : BV w Y zs ps) :
    Calls Try.prog 26 #[.agg Y.toArray] w fun e w' => ∃ v, e = .returned (.tuple #[v, .int .i64 (chk zs ps)]) ∧ Kk.Fresh w w' v (bytesB zs ps) := by
  have hYL := h.len
  have CK := Lib.hid (fun V (hb : Kk.Bel w V) => checkV Y zs ps V (h.bel hb))
  obtain ⟨A, c, hY, hs, hz, hp, h4, hn⟩ := h
  obtain ⟨W0, hW0⟩ : ∃ W0, w.alloc (.cells Y.toArray 26) = W0 := ⟨_, rfl⟩
  have B0 := Lib.hid (show Kk.Bel w W0 by rw [← hW0]; exact (Kk.Bel.refl w).alloc _)
  have r0 : W0.rangeAt w.heap.size 0 Y := by rw [← hW0]; exact rngB (Kk.Blk.new w _ 26)
  obtain ⟨p, hp0⟩ : ∃ p, w.heap.size = p := ⟨_, rfl⟩
  rw [hp0] at r0
  have R0 := Lib.hid r0
  have c0 : W0.cell? ⟨p, 0, none⟩ = some (.slice A zs.length c) := by rw [hY] at r0; exact bk_slice r0
  have PSU := Lib.hid (fun V (hb : Kk.Bel W0 V) => show SU V (some ⟨p, 1, none⟩) 4 4 ps by rw [hY] at r0; exact pools_su (rng_bel r0 hb) h4)
  have ZS := Lib.hid (fun V (hb : Kk.Bel W0 V) => (hs.bel B0.out).bel hb)
  have iY := Lib.hid (show (Try.prog.info? 26).map (·.size) = some Y.length by rw [hYL]; exact info_bank)
  have uB := Try.underlying26
  have HZ := Lib.hid hz
  have HPS := Lib.hid hp
  have HP := Lib.hid hp0
  have HW0 := Lib.hid hW0
  have H4 := Lib.hid h4
  obtain ⟨q, hq⟩ : ∃ q, chk zs ps = q := ⟨_, rfl⟩
  rw [hq] at CK
  rw [hq]
  have HQ := Lib.hid hq
  clear hs hz hp h4 hp0 hW0 hq r0 hY hYL
  go_enter Try.func26, Try.ntmps26
  go_upto_region 1 with fail
  rw [HW0.out, HP.out]
  go_wp2_with ((with_reducible refine wpList_load_mid ?_ 26 (.tmp 1) ?_ p 0 ?_ Y _ R0.out uB ?_ iY.out ?_); rfl; rfl; rfl; rfl)
  refine (CK.out _ B0.out).mono ?_
  rintro e w1 ⟨rfl, k1⟩
  have B1 := Lib.hid k1
  clear k1 CK
  by_cases hq0 : q = 0
  · subst hq0
    obtain ⟨hn0, hn64, hle⟩ := chk_ok HQ.out
    have HB := Lib.hid (show bytesB zs ps = Cd.enc zs.length ++ encs (zs ++ ps) by unfold bytesB; rw [if_pos HQ.out])
    have c1 := cell_bel c0 B1.out
    go_wp2_with fail
    refine (Cd.newWriter 1048576 w1 (by decide) (by decide)).mono ?_
    rintro e w2 ⟨rfl, hws, k2⟩
    obtain ⟨b, hb⟩ : ∃ b, w1.heap.size = b := ⟨_, rfl⟩
    rw [hb] at hws ⊢
    have HBs := Lib.hid hb
    have B2 := Lib.hid (show Kk.Bel w1 w2 from k2)
    have WS2 := Lib.hid hws
    have WN := Lib.hid (fun V (h : Cd.WS V b 1048576 (.slice none 0 0) 0 [] b) => Cd.wN b 1048576 (.slice none 0 0) [] b zs.length V h (by omega) (by omega))
    clear hws k2 hb c1
    have c2 := cell_bel c0 (B1.out.trans B2.out)
    go_wp2_with fail
    refine (WN.out _ WS2.out).mono ?_
    rintro e w3 ⟨r, rfl, ha, k3⟩
    have B3 := Lib.hid (bel_own (Kk.Bel.refl w1 |>.trans B2.out) WS2.out (by rw [HBs.out]; exact Nat.le_refl _) (by rw [HBs.out]; exact Nat.le_refl _) k3)
    have hel := (Cd.enc_len (zs.length : Int)).2
    obtain ⟨v3, hws⟩ := after_ok ha (by rw [List.nil_append]; omega)
    rw [List.nil_append] at hws
    have WS3 := Lib.hid hws
    clear hws ha k3 WN WS2 B2 c2 hel
    have c3 := cell_bel c0 (B1.out.trans B3.out)
    go_upto_region 8 with fail
    refine wp_region_held_drew (S := fun V => Kk.Bel w3 V) (by kernel_rfl) (Kk.Bel.refl _).drew (fun hS0 => ?_)
    obtain ⟨w6, hw6⟩ : ∃ w6, World.drew w3 = w6 := ⟨_, rfl⟩
    rw [hw6] at hS0 ⊢
    clear hw6
    refine wpAnyH_take (i := 0) (oi := { dst := some 28, op := .fieldAddr 26 (.tmp 1) 0, type := 0, pos := "encode.go:18", after := #[], guard := none }) (v := .pointer (some ⟨p, 0, none⟩)) rfl (by kernel_rfl) (by kernel_rfl) (by kernel_rfl) (fun _ _ _ h => h) (Or.inl ⟨by rfl, by intro w hSw; clear hSw; go_simp⟩) hS0 ?_
    try simp only [Act.put, List.setIfInBounds_toArray, List.set_cons_zero, List.set_cons_succ]
    refine wpAnyH_take (i := 1) (oi := { dst := some 29, op := .load 22 (.tmp 28), type := 22, pos := "encode.go:18", after := #[{ on := 0, ground := .data }], guard := none }) (v := .slice A zs.length c) rfl (by kernel_rfl) (by kernel_rfl) (by kernel_rfl) (fun _ _ _ h => h) (Or.inl ⟨by rfl, by intro w h; have hcell := (cell_bel c3 h); clear h; go_simp⟩) hS0 ?_
    try simp only [Act.put, List.setIfInBounds_toArray, List.set_cons_zero, List.set_cons_succ]
    refine wpAnyH_take (i := 2) (oi := { dst := some 30, op := .fieldAddr 26 (.tmp 1) 1, type := 0, pos := "encode.go:18", after := #[], guard := none }) (v := .pointer (some ⟨p, 1, none⟩)) rfl (by kernel_rfl) (by kernel_rfl) (by kernel_rfl) (fun _ _ _ h => h) (Or.inl ⟨by rfl, by intro w hSw; clear hSw; go_simp⟩) hS0 ?_
    try simp only [Act.put, List.setIfInBounds_toArray, List.set_cons_zero, List.set_cons_succ]
    refine wpAnyH_take (i := 3) (oi := { dst := some 31, op := .slice 24 (.tmp 30) none none none, type := 22, pos := "encode.go:18", after := #[{ on := 2, ground := .data }], guard := none }) (v := .slice (some ⟨p, 1, none⟩) 4 4) rfl (by kernel_rfl) (by kernel_rfl) (by kernel_rfl) (fun _ _ _ h => h) (Or.inl ⟨by rfl, by intro w hSw; clear hSw; go_simp⟩) hS0 ?_
    try simp only [Act.put, List.setIfInBounds_toArray, List.set_cons_zero, List.set_cons_succ]
    refine wpAnyH_take (i := 6) (oi := { dst := some 34, op := .move (.const (Value.int IntKind.i64 0)), type := 3, pos := "encode.go:18", after := #[], guard := none }) (v := .int .i64 0) rfl (by kernel_rfl) (by kernel_rfl) (by kernel_rfl) (fun _ _ _ h => h) (Or.inl ⟨by rfl, by intro w hSw; clear hSw; go_simp⟩) hS0 ?_
    try simp only [Act.put, List.setIfInBounds_toArray, List.set_cons_zero, List.set_cons_succ]
    refine wpAnyH_ready (rs := [4]) (by kernel_rfl) (by simp) ?_
    refine AllReadyH.cons (o := { dst := some 32, op := .buildSlice 83 2 #[(0, .tmp 29), (1, .tmp 31)], type := 83, pos := "encode.go:18", after := #[{ on := 1, ground := .data }, { on := 3, ground := .data }], guard := none }) rfl (fun K hK => ?_) AllReadyH.nil
    go_simp
    refine hK.out _ _ (hS0.alloc _) (fun hS1 => ?_)
    clear hK K
    try simp only [Act.put, List.setIfInBounds_toArray, List.set_cons_zero, List.set_cons_succ]
    obtain ⟨g, hg⟩ : ∃ g, (World.heap w6).size = g := ⟨_, rfl⟩
    have R1 : Kk.Blk (World.alloc w6 (.cells #[.slice A zs.length c, .slice (some ⟨p, 1, none⟩) 4 4] 22)) g #[.slice A zs.length c, .slice (some ⟨p, 1, none⟩) 4 4] 22 := by rw [← hg]; exact Kk.Blk.new w6 _ 22
    obtain ⟨v1, hv⟩ : ∃ v, World.alloc w6 (.cells #[.slice A zs.length c, .slice (some ⟨p, 1, none⟩) 4 4] 22) = v := ⟨_, rfl⟩
    rw [hv] at R1 hS1 ⊢
    rw [hg]
    clear hv hg
    refine wpAnyH_take (i := 5) (oi := { dst := some 33, op := .call { callee := .builtin .len, args := #[.tmp 32], argTypes := #[83] }, type := 3, pos := "encode.go:18", after := #[{ on := 4, ground := .data }], guard := none }) (v := .int .i64 2) rfl (by kernel_rfl) (by kernel_rfl) (by kernel_rfl) (fun _ _ _ h => h) (Or.inl ⟨by rfl, by intro w hSw; clear hSw; go_simp⟩) hS1 ?_
    try simp only [Act.put, List.setIfInBounds_toArray, List.set_cons_zero, List.set_cons_succ]
    refine wpAnyH_done (by kernel_rfl) ?_ _
    have KV := Lib.hid (B3.out.trans hS1)
    have WSV := Lib.hid (WS3.out.kep (Cd.Kep.of_bel (S := fun _ => False) (show Bel w3 v1 from hS1)) (by simp) (by simp))
    have RV := Lib.hid R1
    clear R1 hS0 hS1 WS3 c3 c0
    have HN0 := Lib.hid hn0
    have HN64 := Lib.hid hn64
    clear hn0 hn64 hle
    go_wp2_with fail
    go_loopw [34] (fun u wr => ∃ j : Nat, u = .int .i64 j ∧ j ≤ 2 ∧ Kk.Bel w1 wr ∧ Kk.Blk wr g #[.slice A zs.length c, .slice (some ⟨p, 1, none⟩) 4 4] 22 ∧ ∃ v, Cd.WS wr b 1048576 v 0 (Cd.enc zs.length ++ encs (if j = 0 then [] else if j = 1 then zs else zs ++ ps)) b) (fun u _ => 2 - (intOf u).toNat)
    case atStart => exact ⟨0, rfl, by omega, KV.out, RV.out, v3, by simpa [encs] using WSV.out⟩
    case round =>
      obtain ⟨j, rfl, hj, hbel, hrg, v, hws⟩ := hrel
      have KR := Lib.hid hbel
      have RG := Lib.hid hrg
      have WR := Lib.hid hws
      clear hbel hrg hws
      by_cases hj2 : j < 2
      · have hL : ∃ (A' : Option Addr) (n' c' : Nat) (L pre : List Int), wr.cell? ⟨g, j, none⟩ = some (.slice A' n' c') ∧ (∀ V, Kk.Bel w1 V → SU V A' n' c' L) ∧ Words L ∧ n' ≤ 64 ∧ pre.length ≤ 64 ∧ (if j = 0 then [] else if j = 1 then zs else zs ++ ps) = pre ∧ (if j + 1 = 0 then [] else if j + 1 = 1 then zs else zs ++ ps) = pre ++ L := by
          rcases (show j = 0 ∨ j = 1 by omega) with rfl | rfl
          · exact ⟨A, zs.length, c, zs, [], RG.out.cell 0 rfl, fun V hV => ZS.out V (B1.out.trans hV), HZ.out, HN64.out, by simp, rfl, by simp⟩
          · exact ⟨some ⟨p, 1, none⟩, 4, 4, ps, zs, RG.out.cell 1 rfl, fun V hV => PSU.out V (B1.out.trans hV), HPS.out, by omega, HN64.out, rfl, by simp⟩
        obtain ⟨A', n', c', L, pre, hcell, hsu, hwL, hn', hpre, he1, he2⟩ := hL
        rw [he1] at WR
        have hj3 : (j : Int) < 2 := by omega
        have HE2 := Lib.hid he2
        have HSU := Lib.hid hsu
        have HWL := Lib.hid hwL
        have HLL := Lib.hid (hsu w1 (Kk.Bel.refl _)).len
        clear he1 he2 hsu hwL
        go_wp2_with fail
        go_loopw [40] (fun u wx => ∃ i : Nat, u = .int .i64 i ∧ i ≤ n' ∧ Kk.Bel w1 wx ∧ Kk.Blk wx g #[.slice A zs.length c, .slice (some ⟨p, 1, none⟩) 4 4] 22 ∧ ∃ v, Cd.WS wx b 1048576 v 0 (Cd.enc zs.length ++ encs (pre ++ L.take i)) b) (fun u _ => n' - (intOf u).toNat)
        case atStart => exact ⟨0, rfl, by omega, KR.out, RG.out, v, by simpa using WR.out⟩
        case round =>
          obtain ⟨i, rfl, hi, hbel, hrg, v5, hws⟩ := hrel
          have KX := Lib.hid hbel
          have RX := Lib.hid hrg
          have WX := Lib.hid hws
          clear hbel hrg hws
          by_cases hi2 : i < n'
          · have hi3 : (i : Int) < n' := by omega
            obtain ⟨ga, oa, rfl, hga, hce⟩ := (HSU.out wr KX.out).ints.cell hi2
            obtain ⟨x0, x1⟩ := words_at HWL.out i
            have HT := Lib.hid (take_succ' L i (by rw [HLL.out]; exact hi2))
            obtain ⟨x, hx⟩ : ∃ x, L.getD i 0 = x := ⟨_, rfl⟩
            rw [hx] at hce x0 x1 HT
            have WU := Lib.hid (Cd.wU b 1048576 v5 _ b x wr WX.out x0 x1)
            clear hx
            go_wp2_with fail
            refine WU.out.mono ?_
            rintro e w9 ⟨r, rfl, ha, k9⟩
            have hlen1 := (Cd.enc_len (zs.length : Int)).2
            have hlen2 := (Cd.enc_len x).2
            have hlen3 := encs_len (pre ++ L.take i)
            have hlen4 : (L.take i).length = i := by rw [List.length_take, HLL.out]; omega
            rw [List.length_append, hlen4] at hlen3
            obtain ⟨v9, hws⟩ := after_ok ha (by rw [List.length_append, List.length_append]; omega)
            have KB := Lib.hid (bel_own KX.out WX.out (by rw [HBs.out]; exact Nat.le_refl _) (by rw [HBs.out]; exact Nat.le_refl _) k9)
            have RB : Kk.Blk w9 g #[.slice A zs.length c, .slice (some ⟨p, 1, none⟩) 4 4] 22 := RX.out.kep (show Kk.Kep _ wr w9 from ⟨k9.os, k9.tape, k9.output, k9.size, k9.block⟩) (by
              rintro (rfl | h)
              · have h1 := (show wr.heap[g]? = _ from WX.out.blk).symm.trans (show wr.heap[g]? = _ from RX.out)
                injection h1 with h1
                injection h1 with _ h1
                cases h1
              · exact RX.out.not_row (by decide) WX.out.row h)
            have WB := Lib.hid hws
            have RBH := Lib.hid RB
            clear ha k9 hlen1 hlen2 hlen3 hlen4 hws RB WU
            go_wp2_with fail
            go_roundw
            case rel =>
              exact ⟨i + 1, by go_num, by omega, KB.out, RBH.out, v9, by rw [HT.out, ← List.append_assoc, encs_app, encs_one, ← List.append_assoc]; exact WB.out⟩
            case measure => simp [intOf]; omega
          · obtain rfl : i = n' := by omega
            have HW := Lib.hid (show Cd.WS wr b 1048576 v5 0 (Cd.enc zs.length ++ encs (pre ++ L)) b by
              have h := WX.out
              rwa [List.take_of_length_le (by rw [HLL.out]; omega)] at h)
            clear WX
            go_wp2_with fail
            go_roundw
            case rel => exact ⟨j + 1, by go_num, by omega, KX.out, RX.out, v5, by rw [HE2.out]; exact HW.out⟩
            case measure => simp [intOf]; omega
      · obtain rfl : j = 2 := by omega
        have WD := Lib.hid (Cd.wdone b 1048576 v _ b wr WR.out)
        go_wp2_with fail
        refine WD.out.mono ?_
        rintro e w9 ⟨u, rfl, hf⟩
        have HF := Lib.hid hf
        clear hf WD
        go_wp2_with fail
        go_ret2
        refine ⟨_, rfl, ?_⟩
        rw [HB.out]
        have hf := HF.out
        simp only [if_neg (show ¬ (2 : Nat) = 0 by decide), if_neg (show ¬ (2 : Nat) = 1 by decide)] at hf
        exact ⟨Kk.owns_mono hf.1 (Below.size (B0.out.trans (B1.out.trans KR.out))), (B0.out.trans (B1.out.trans KR.out)).trans hf.2⟩
  · have hq1 : (q != 0) = true := by simpa using hq0
    have HB := Lib.hid (show bytesB zs ps = [] by unfold bytesB; rw [if_neg (by rw [HQ.out]; exact hq0)])
    go_wp2
    go_ret2
    exact ⟨_, rfl, by rw [HB.out]; exact ⟨⟨rfl, .inl ⟨rfl, rfl⟩⟩, B0.out.trans B1.out⟩⟩
end Bk
end Go.Proofs.Ythdcgkikhindiaa
end

section
/-
  The memory while bank.Read runs. No walk.
-/
namespace Go.Proofs.Ythdcgkikhindiaa
open Go.RowKit Go.Shelf
set_option linter.unusedVariables false
namespace Bk
open Pm

theorem kk {S : Nat → Prop} {a w : World} (h : Cd.Kep S a w) : Kk.Kep S a w := ⟨h.os, h.tape, h.output, h.size, h.block⟩
theorem ck {S : Nat → Prop} {a w : World} (h : Kk.Kep S a w) : Cd.Kep S a w := ⟨h.os, h.tape, h.output, h.size, h.block⟩
/-- A reader whose fault lies in no block of S. -/
def RE (S : Nat → Prop) (w : World) (b : Nat) (A : Option Addr) (n c : Nat) (zs : List Int) (k : Nat) (f : Option (Int × Int)) : Prop :=
  ∃ F, Cd.RSt w b A n c zs k F ∧ Cd.Flt w b F f ∧ ∀ x : Addr, F = some x → ¬ S x.block
theorem RE.rs {S : Nat → Prop} {w : World} {b : Nat} {A : Option Addr} {n c : Nat} {zs : List Int} {k : Nat} {f : Option (Int × Int)} (h : RE S w b A n c zs k f) : Cd.RS w b zs k f := by
  obtain ⟨F, h1, h2, _⟩ := h
  exact ⟨A, n, c, F, h1, h2⟩
theorem RE.rst {S : Nat → Prop} {w : World} {b : Nat} {A : Option Addr} {n c : Nat} {zs : List Int} {k : Nat} (h : RE S w b A n c zs k none) : Cd.RSt w b A n c zs k none := by
  obtain ⟨F, h1, ⟨_, rfl⟩ | ⟨_, _, _, h2, _⟩, _⟩ := h
  · exact h1
  · cases h2
theorem RE.fault {S : Nat → Prop} {w : World} {b : Nat} {A : Option Addr} {n c : Nat} {zs : List Int} {k : Nat} {p : Int × Int} (h : RE S w b A n c zs k (some p)) : ∃ x, Cd.RSt w b A n c zs k (some x) := by
  obtain ⟨F, h1, ⟨h2, _⟩ | ⟨_, _, fb, _, rfl, _⟩, _⟩ := h
  · cases h2
  · exact ⟨_, h1⟩
theorem RE.bel {S : Nat → Prop} {w w' : World} {b : Nat} {A : Option Addr} {n c : Nat} {zs : List Int} {k : Nat} {f : Option (Int × Int)} (h : RE S w b A n c zs k f) (hk : Bel w w') : RE S w' b A n c zs k f := by
  obtain ⟨F, h1, h2, h3⟩ := h
  exact ⟨F, h1.bel hk, h2.bel hk, h3⟩
theorem RE.kep {S : Nat → Prop} {w w' : World} {b : Nat} {A : Option Addr} {n c : Nat} {zs : List Int} {k : Nat} {f : Option (Int × Int)} (h : RE S w b A n c zs k f) (hk : Kk.Kep S w w') (hb : ¬ S b) (hA : 0 < n → ∀ x : Addr, A = some x → ¬ S x.block) : RE S w' b A n c zs k f := by
  obtain ⟨F, h1, h2, h3⟩ := h
  exact ⟨F, h1.kep0 (ck hk) hb hA, h2.kep (ck hk) h3, h3⟩
theorem RX.re {w : World} {b : Nat} {A : Option Addr} {n c : Nat} {zs : List Int} {k : Nat} {f : Option (Int × Int)} {base : Nat} (h : Cd.RX w b A n c zs k f base) {S : Nat → Prop} (hd : ∀ i, S i → i < base) : RE S w b A n c zs k f := by
  obtain ⟨F, h1, h2, h3⟩ := h
  exact ⟨F, h1, h2, fun x hx hs => by have := h3 x hx; have := hd _ hs; omega⟩
/-- Blocks that are not there yet. -/
theorem RE.new {S T : Nat → Prop} {w : World} {b : Nat} {A : Option Addr} {n c : Nat} {zs : List Int} {k : Nat} {f : Option (Int × Int)} (h : RE S w b A n c zs k f) (hT : ∀ i, T i → w.heap.size ≤ i) : RE T w b A n c zs k f := by
  obtain ⟨F, h1, h2, h3⟩ := h
  refine ⟨F, h1, h2, fun x hx hs => ?_⟩
  rcases h2 with ⟨_, rfl⟩ | ⟨e, p, fb, _, rfl, _, hb, _⟩
  · cases hx
  · injection hx with hx
    subst hx
    have := hT _ hs
    have := hb.lt
    simp at *
    omega
theorem zU (S : Nat → Prop) (b : Nat) (A : Option Addr) (n c : Nat) (zs : List Int) (k : Nat) (f : Option (Int × Int)) (x : Int) (k' : Nat) (f' : Option (Int × Int)) (w : World) (h : RE S w b A n c zs k f) (hr : Cd.RU zs k f x k' f') (hd : ∀ i, S i → i < w.heap.size) :
    Calls Try.prog 64 #[.pointer (some ⟨b, 0, none⟩)] w fun e w' => e = .returned (.int .u64 x) ∧ RE S w' b A n c zs k' f' ∧ Kk.Kep (fun i => i = b) w w' := by
  rcases id hr with ⟨p, rfl, rfl, rfl, rfl⟩ | ⟨rfl, _⟩
  · obtain ⟨x, hx⟩ := h.fault
    exact (Cd.uF b A n c zs k' x w hx).mono fun e w' he => ⟨he.1, h.bel he.2, Kk.Kep.of_bel he.2⟩
  · exact (Cd.rUx b A n c zs k x k' f' w h.rst hr).mono fun e w' he => ⟨he.1, RX.re he.2.1 hd, kk he.2.2⟩
theorem zN (S : Nat → Prop) (b : Nat) (A : Option Addr) (n c : Nat) (zs : List Int) (k : Nat) (f : Option (Int × Int)) (least most x : Int) (k' : Nat) (f' : Option (Int × Int)) (w : World) (h : RE S w b A n c zs k f) (hr : Cd.RN zs k f least most x k' f') (hm : most ≤ 9223372036854775807) (hd : ∀ i, S i → i < w.heap.size) :
    Calls Try.prog 63 #[.pointer (some ⟨b, 0, none⟩), .int .i64 least, .int .i64 most] w fun e w' => e = .returned (.int .i64 x) ∧ RE S w' b A n c zs k' f' ∧ Kk.Kep (fun i => i = b) w w' := by
  rcases id hr with ⟨p, rfl, rfl, rfl, rfl⟩ | ⟨rfl, _⟩
  · obtain ⟨x, hx⟩ := h.fault
    exact (Cd.nF b A n c zs k' x least most w hx).mono fun e w' he => ⟨he.1, h.bel he.2, Kk.Kep.of_bel he.2⟩
  · exact (Cd.rNx b A n c zs k least most x k' f' w h.rst hr hm).mono fun e w' he => ⟨he.1, RX.re he.2.1 hd, kk he.2.2⟩

theorem made_zero (n : Nat) : (madeCells (Value.int .u64 0).cells (n * 1)).toList = (List.replicate n (0 : Int)).map (Value.int .u64) := by
  rw [Nat.mul_one]
  refine List.ext_getElem? fun i => ?_
  rw [Array.getElem?_toList, List.getElem?_map, List.getElem?_replicate]
  show (madeCells #[Value.int .u64 0] n)[i]? = _
  by_cases hi : i < n
  · simp [madeCells, hi, Nat.mod_one]
  · simp [madeCells, hi]

/-- The memory: the results' blocks r, r + 1, the reader b, the accounts' row g, the bank's cells T, the list of lists s. -/
structure Rd (w0 : World) (r b g T s : Nat) (A : Option Addr) (m c : Nat) (raw : List Int) (k : Nat) (f : Option (Int × Int)) (n : Nat) (Z P : List Int) (W : World) : Prop where
  at0 : w0.heap.size = r
  bel : Kk.Bel w0 W
  b0 : Kk.Blk W r [.slice none 0 0, .int .u64 0, .int .u64 0, .int .u64 0, .int .u64 0].toArray 26
  b1 : Kk.Blk W (r + 1) [.int .i64 0, .int .i64 0].toArray 49
  bt : Kk.Blk W T (bkC (.slice (some ⟨g, 0, none⟩) n n) P).toArray 26
  bs : Kk.Blk W s #[.slice (some ⟨g, 0, none⟩) n n, .slice (some ⟨T, 1, none⟩) 4 4] 22
  row : W.ownsRow r 23 1 (.slice (some ⟨g, 0, none⟩) n n) n (Z.map (Value.int .u64))
  rd : RE (fun i => i = g ∨ i = T) W b A m c raw k f
  hb : r + 1 < b
  hg : b < g
  hT : g < T
  hs : T < s
  hA : 0 < m → ∀ x : Addr, A = some x → x.block < g
theorem Rd.kept {w0 : World} {r b g T s : Nat} {A : Option Addr} {m c : Nat} {raw : List Int} {k : Nat} {f : Option (Int × Int)} {n : Nat} {Z P : List Int} {W V : World} (h : Rd w0 r b g T s A m c raw k f n Z P W) (hk : Kk.Bel W V) : Rd w0 r b g T s A m c raw k f n Z P V :=
  ⟨h.at0, h.bel.trans hk, h.b0.bel hk, h.b1.bel hk, h.bt.bel hk, h.bs.bel hk, Kk.owns_bel h.row hk, h.rd.bel hk, h.hb, h.hg, h.hT, h.hs, h.hA⟩
theorem Rd.glt {w0 : World} {r b g T s : Nat} {A : Option Addr} {m c : Nat} {raw : List Int} {k : Nat} {f : Option (Int × Int)} {n : Nat} {Z P : List Int} {W : World} (h : Rd w0 r b g T s A m c raw k f n Z P W) : ∀ i, (i = g ∨ i = T) → i < W.heap.size := by
  have h1 := h.bt.lt
  have h2 := h.hT
  rintro i (rfl | rfl) <;> omega
theorem Rd.read {w0 : World} {r b g T s : Nat} {A : Option Addr} {m c : Nat} {raw : List Int} {k k' : Nat} {f f' : Option (Int × Int)} {n : Nat} {Z P : List Int} {W V : World} (h : Rd w0 r b g T s A m c raw k f n Z P W) (hr : RE (fun i => i = g ∨ i = T) V b A m c raw k' f') (hk : Kk.Kep (fun i => i = b) W V) : Rd w0 r b g T s A m c raw k' f' n Z P V := by
  have h1 := h.hb; have h2 := h.hg; have h3 := h.hT; have h4 := h.hs; have h5 := h.at0
  refine ⟨h.at0, Kk.Kep.bel h.bel hk (fun i hi => by omega), h.b0.kep hk (by omega), h.b1.kep hk (by omega), h.bt.kep hk (by omega), h.bs.kep hk (by omega), ?_, hr, h.hb, h.hg, h.hT, h.hs, h.hA⟩
  exact Kk.Kep.owns hk (fun i hi e => by have h6 : g = i := Option.some.inj hi; have e2 : i = b := e; omega) h.row
theorem Rd.setZ {w0 : World} {r b g T s : Nat} {A : Option Addr} {m c : Nat} {raw : List Int} {k : Nat} {f : Option (Int × Int)} {n : Nat} {Z P : List Int} {W : World} (h : Rd w0 r b g T s A m c raw k f n Z P W) (i : Nat) (x : Int) : Rd w0 r b g T s A m c raw k f n (Z.set i x) P (W.setCell ⟨g, i, none⟩ (.int .u64 x)) := by
  have h1 := h.hb; have h2 := h.hg; have h3 := h.hT; have h4 := h.hs; have h5 := h.at0
  have hk : Kk.Kep (fun j => j = g ∨ j = T) W (W.setCell ⟨g, i, none⟩ (.int .u64 x)) := (Kk.Kep.set_self (Kk.Kep.refl _ W) i _).mono (fun j _ e => .inl e)
  refine ⟨h.at0, h.bel.set (by show w0.heap.size ≤ g; omega) _, h.b0.other (by omega) _ _, h.b1.other (by omega) _ _, h.bt.other (by omega) _ _, h.bs.other (by omega) _ _, ?_, h.rd.kep hk (by omega) (fun hm a ha => by have := h.hA hm a ha; omega), h.hb, h.hg, h.hT, h.hs, h.hA⟩
  have h6 := (h.row.stored i (.int .u64 x)).1
  rw [← List.map_set] at h6
  exact h6
theorem Rd.setP {w0 : World} {r b g T s : Nat} {A : Option Addr} {m c : Nat} {raw : List Int} {k : Nat} {f : Option (Int × Int)} {n : Nat} {Z P : List Int} {W : World} (h : Rd w0 r b g T s A m c raw k f n Z P W) (i : Nat) (x : Int) : Rd w0 r b g T s A m c raw k f n Z (P.set i x) (W.setCell ⟨T, 1 + i, none⟩ (.int .u64 x)) := by
  have h1 := h.hb; have h2 := h.hg; have h3 := h.hT; have h4 := h.hs; have h5 := h.at0
  have hk : Kk.Kep (fun j => j = g ∨ j = T) W (W.setCell ⟨T, 1 + i, none⟩ (.int .u64 x)) := (Kk.Kep.set_self (Kk.Kep.refl _ W) (1 + i) _).mono (fun j _ e => .inr e)
  refine ⟨h.at0, h.bel.set (by show w0.heap.size ≤ T; omega) _, h.b0.other (by omega) _ _, h.b1.other (by omega) _ _, ?_, h.bs.other (by omega) _ _, Kk.owns_set h.row (by intro e; have h6 : g = T := Option.some.inj e; omega) _ _, h.rd.kep hk (by omega) (fun hm a ha => by have := h.hA hm a ha; omega), h.hb, h.hg, h.hT, h.hs, h.hA⟩
  have h6 := h.bt.set (1 + i) (.int .u64 x)
  rw [List.setIfInBounds_toArray, Nat.add_comm, bkC, List.set_cons_succ, ← List.map_set] at h6
  rw [Nat.add_comm]
  exact h6
/-- What is told of a bank's bytes. -/
def rdF (raw : List Int) (n : Nat) (l : List Int) (ke : Nat) (fe : Option (Int × Int)) : Int × Int := if (Cd.endOf raw.length ke fe).1 = 0 then (chk (l.take n) (l.drop n), 0) else Cd.endOf raw.length ke fe
def rdZ (raw : List Int) (n : Nat) (l : List Int) (ke : Nat) (fe : Option (Int × Int)) : List Int := if (rdF raw n l ke fe).1 = 0 then l.take n else []
def rdP (raw : List Int) (n : Nat) (l : List Int) (ke : Nat) (fe : Option (Int × Int)) : List Int := if (rdF raw n l ke fe).1 = 0 then l.drop n else [0, 0, 0, 0]
theorem words_take {l : List Int} (h : Words l) (n : Nat) : Words (l.take n) := words_of fun z hz => Words.mem h z (List.mem_of_mem_take hz)
theorem words_drop {l : List Int} (h : Words l) (n : Nat) : Words (l.drop n) := words_of fun z hz => Words.mem h z (List.mem_of_mem_drop hz)
theorem us_step {zs : List Int} {ke : Nat} {fe : Option (Int × Int)} {l : List Int} {i k : Nat} {f : Option (Int × Int)} (h : Us zs ke fe (l.drop i) k f) (hi : i < l.length) : ∃ k' f', Cd.RU zs k f (l.getD i 0) k' f' ∧ Us zs ke fe (l.drop (i + 1)) k' f' := by
  rw [List.drop_eq_getElem_cons hi] at h
  rw [Kk.getD_eq _ _ hi]
  exact h
theorem filled {l Z : List Int} {a n : Nat} (hl : a + n ≤ l.length) (hZ : Z.length = n) (h : ∀ i, i < n → Z.getD i 0 = l.getD (a + i) 0) : Z = (l.drop a).take n := by
  refine List.ext_getElem (by simp; omega) fun i h1 h2 => ?_
  have := h i (by omega)
  rw [Kk.getD_eq _ _ h1, Kk.getD_eq _ _ (by omega)] at this
  simp [this]
end Bk
end Go.Proofs.Ythdcgkikhindiaa
end

section
/-
  What bank.Read answers, given what is read of the bytes. Conditions: at most a million bytes.
-/
namespace Go.Proofs.Ythdcgkikhindiaa
open Go.RowKit Go.Shelf
set_option linter.unusedVariables false
namespace Bk
open Pm

theorem load_f {w : World} {b : Nat} {e p : Int} (h : Kk.Blk w b [.int .i64 e, .int .i64 p].toArray 49) : (loadVar 49 ⟨b, 0, none⟩).run Try.prog w = .ok (.agg #[.int .i64 e, .int .i64 p]) w := load_b h Try.underlying49 rfl (by kernel_rfl)
theorem flt_one (e p : Int) : (#[.int .i64 e, .int .i64 p] : Array Value).all (·.oneCell') = true := by simp; exact ⟨rfl, rfl⟩
theorem info_flt : (Try.prog.info? 49).map (·.size) = some 2 := by kernel_rfl
theorem blk2 {w : World} {b : Nat} {C : List Value} {t : TypeId} (h : Kk.Blk w b C.toArray t) (hl : C.length = 2) (Y : List Value) (hY : Y.length = 2) : Kk.Blk (w.setCells b 0 Y) b Y.toArray t :=
  bwhole h (by simp [hl, hY])

theorem zc_len : ([.slice none 0 0, .int .u64 0, .int .u64 0, .int .u64 0, .int .u64 0] : List Value).length = 5 := rfl

set_option maxRecDepth 10000 in
set_option maxHeartbeats 8000000 in
theorem readV (B : Option Addr) (m c : Nat) (raw : List Int) (w : World) (hs : Kk.Sl w B m c raw) (hm : m ≤ 1000000) (hb : Cd.Bytes raw) (n : Nat) (l : List Int) (ke : Nat) (fe : Option (Int × Int)) (hr : Run raw n l ke fe) :
    Calls Try.prog 29 #[.slice B m c] w fun e w' => ∃ Y, e = .returned (.tuple #[.agg Y.toArray, .agg #[.int .i64 (rdF raw n l ke fe).1, .int .i64 (rdF raw n l ke fe).2]]) ∧ NB w w' Y (rdZ raw n l ke fe) (rdP raw n l ke fe) := by
  obtain ⟨hn64, hll, hwl, k0, f0, hrn, hus⟩ := hr
  obtain ⟨W0, hW0⟩ : ∃ W0, w.alloc (.cells #[.slice none 0 0, .int .u64 0, .int .u64 0, .int .u64 0, .int .u64 0] 26) = W0 := ⟨_, rfl⟩
  obtain ⟨W1, hW1⟩ : ∃ W1, W0.alloc (.cells #[.int .i64 0, .int .i64 0] 49) = W1 := ⟨_, rfl⟩
  obtain ⟨r, hr0⟩ : ∃ r, w.heap.size = r := ⟨_, rfl⟩
  have hs0 : W0.heap.size = r + 1 := by rw [← hW0, ← hr0, World.size_alloc]
  have hs1 : W1.heap.size = r + 2 := by rw [← hW1, World.size_alloc, hs0]
  have B1 := Lib.hid (show Kk.Bel w W1 by rw [← hW1, ← hW0]; exact ((Kk.Bel.refl w).alloc _).alloc _)
  have QB := Lib.hid (show Kk.Blk W1 r [.slice none 0 0, .int .u64 0, .int .u64 0, .int .u64 0, .int .u64 0].toArray 26 by rw [← hW1, ← hW0, ← hr0]; exact (Kk.Blk.new w _ _).alloc _)
  have QF := Lib.hid (show Kk.Blk W1 (r + 1) [.int .i64 0, .int .i64 0].toArray 49 by rw [← hW1, ← hs0]; exact Kk.Blk.new W0 _ _)
  have SL := Lib.hid (show Cd.Sl W1 B m c raw from ⟨(hs.bel B1.out).ints, hs.cap, hs.nil⟩)
  have HR := Lib.hid hr0
  have HS1 := Lib.hid hs1
  have HW0 := Lib.hid hW0
  have HW1 := Lib.hid hW1
  have HRN := Lib.hid hrn
  have HUS := Lib.hid hus
  have HLL := Lib.hid hll
  have HWL := Lib.hid hwl
  have HN := Lib.hid hn64
  obtain ⟨e1, he1⟩ : ∃ e1, (rdF raw n l ke fe).1 = e1 := ⟨_, rfl⟩
  obtain ⟨e2, he2⟩ : ∃ e2, (rdF raw n l ke fe).2 = e2 := ⟨_, rfl⟩
  rw [he1, he2]
  have HE1 := Lib.hid he1
  have HE2 := Lib.hid he2
  have uB := Try.underlying26
  clear hs hr0 hs0 hs1 hW0 hW1 hrn hus hll hwl hn64 he1 he2
  go_enter Try.func29, Try.ntmps29
  go_upto_region 1 with fail
  rw [HW0.out, HR.out, HW1.out]
  go_wp2_with fail
  refine (Cd.newReader B m c raw W1 SL.out hm hb).mono ?_
  rintro e w2 ⟨b, A, c2, rfl, hb2, hrs, hA, k2⟩
  have RS := Lib.hid (show RE (fun _ => False) w2 b A m c2 raw 0 none from ⟨none, hrs, .inl ⟨rfl, rfl⟩, fun x hx => by cases hx⟩)
  have K2 := Lib.hid (show Kk.Bel W1 w2 from k2)
  have HB := Lib.hid (show r + 1 < b by have := HS1.out; omega)
  have HRB := Lib.hid (hrs.blk.lt)
  have HAL := Lib.hid (show 0 < m → ∀ x : Addr, A = some x → x.block < w2.heap.size from fun hm0 x hx => by
    obtain ⟨gb, go, e, hlt, _⟩ := hrs.sl.ints.2 hm0
    rw [e] at hx
    injection hx with hx
    rw [← hx]
    exact hlt)
  have HAB := Lib.hid (show 0 < m → ∀ x : Addr, A = some x → x.block ≠ b from fun hm0 x hx => hrs.apart x hx)
  clear hrs hA k2 hb2
  have CN := Lib.hid (zN (fun _ => False) b A m c2 raw 0 none 1 64 n k0 f0 w2 RS.out HRN.out (by decide) (by simp))
  go_wp2_with fail
  refine CN.out.mono ?_
  rintro e w3 ⟨rfl, hre, k3⟩
  have RS3 := Lib.hid hre
  have K3 := Lib.hid (show Kk.Bel W1 w3 from Kk.Kep.bel K2.out k3 (fun i hi => by rw [hi, HS1.out]; have := HB.out; omega))
  have HRB3 := Lib.hid (show b < w3.heap.size from Nat.lt_of_lt_of_le HRB.out k3.size)
  have HAL3 := Lib.hid (show 0 < m → ∀ x : Addr, A = some x → x.block < w3.heap.size from fun hm0 x hx => Nat.lt_of_lt_of_le (HAL.out hm0 x hx) k3.size)
  clear hre k3 CN RS K2 HRB HAL
  obtain ⟨i0, hi, hz0, hz1, hz2⟩ := info_parts info_w
  have HI := Lib.hid hi
  have HZ0 := Lib.hid hz0
  have HZ1 := Lib.hid hz1
  have HZ2 := Lib.hid hz2
  clear hi hz0 hz1 hz2
  go_wp2_with (at_make; refine wpList_make_full _ rfl _ _ 22 rfl w3.heap.size 23 i0 (.int .u64 0) 1 Try.underlying22 HI.out HZ0.out HZ1.out .i64 .i64 _ _ n rfl rfl rfl rfl (by rw [HZ2.out]; have := HN.out; omega) (by unfold maxLen; have := HN.out; omega) (Nat.le_refl _) ?_; intro w4 hown4 hgrow4)
  have K4 := Lib.hid (show Kk.Bel w3 w4 from Kk.Bel.grown (Kk.Bel.refl w3) hgrow4 (by intro k hk; cases hk))
  have O4 := Lib.hid (show w4.ownsRow w3.heap.size 23 1 (.slice (some ⟨w3.heap.size, 0, none⟩) n n) n ((List.replicate n (0 : Int)).map (Value.int .u64)) by rw [made_zero] at hown4; exact hown4)
  have HGT := Lib.hid (show w3.heap.size < w4.heap.size from (O4.out.lt _ rfl).2)
  obtain ⟨g, hg⟩ : ∃ g, w3.heap.size = g := ⟨_, rfl⟩
  obtain ⟨T, hT⟩ : ∃ T, w4.heap.size = T := ⟨_, rfl⟩
  obtain ⟨W5, hW5⟩ : ∃ W5, w4.alloc (.cells #[.slice (some ⟨g, 0, none⟩) n n, .int .u64 0, .int .u64 0, .int .u64 0, .int .u64 0] 26) = W5 := ⟨_, rfl⟩
  rw [hg, hT]
  rw [hW5]
  rw [hg, hT] at HGT
  rw [hg] at O4 HRB3 HAL3
  have K5 := Lib.hid (show Kk.Bel w4 W5 by rw [← hW5]; exact (Kk.Bel.refl _).alloc _)
  have T5 := Lib.hid (show Kk.Blk W5 T (bkC (.slice (some ⟨g, 0, none⟩) n n) [0, 0, 0, 0]).toArray 26 by rw [← hW5, ← hT]; exact Kk.Blk.new w4 _ _)
  have O5 := Lib.hid (Kk.owns_bel O4.out K5.out)
  have B35 := Lib.hid (show Kk.Bel w3 W5 from K4.out.trans K5.out)
  have RS5 := Lib.hid (RE.new (T := fun i => i = g ∨ i = T) RS3.out (by rintro i (rfl | rfl) <;> rw [hg] <;> have := HGT.out <;> omega))
  have HG := Lib.hid hg
  have hsz5 := Lib.hid (show W5.heap.size = T + 1 by rw [← hW5, ← hT, World.size_alloc])
  clear hgrow4 hown4 hg hT hW5 O4 RS3
  have ct := T5.out.cell 0 (v := .slice (some ⟨g, 0, none⟩) n n) rfl
  refine wp_region_held_drew (S := fun V => Kk.Bel W5 V) (by kernel_rfl) (Kk.Bel.refl _).drew (fun hS0 => ?_)
  obtain ⟨w6, hw6⟩ : ∃ w6, World.drew W5 = w6 := ⟨_, rfl⟩
  rw [hw6] at hS0 ⊢
  clear hw6
  refine wpAnyH_take (i := 0) (oi := { dst := some 17, op := .fieldAddr 26 (.tmp 5) 0, type := 0, pos := "encode.go:30", after := #[], guard := none }) (v := .pointer (some ⟨T, 0, none⟩)) rfl (by kernel_rfl) (by kernel_rfl) (by kernel_rfl) (fun _ _ _ h => h) (Or.inl ⟨by rfl, by intro w hSw; clear hSw; go_simp⟩) hS0 ?_
  try simp only [Act.put, List.setIfInBounds_toArray, List.set_cons_zero, List.set_cons_succ]
  refine wpAnyH_take (i := 1) (oi := { dst := some 18, op := .load 22 (.tmp 17), type := 22, pos := "encode.go:30", after := #[{ on := 0, ground := .data }], guard := none }) (v := .slice (some ⟨g, 0, none⟩) n n) rfl (by kernel_rfl) (by kernel_rfl) (by kernel_rfl) (fun _ _ _ h => h) (Or.inl ⟨by rfl, by intro w h; have hcell := (cell_bel ct h); clear h; go_simp⟩) hS0 ?_
  try simp only [Act.put, List.setIfInBounds_toArray, List.set_cons_zero, List.set_cons_succ]
  refine wpAnyH_take (i := 2) (oi := { dst := some 19, op := .fieldAddr 26 (.tmp 5) 1, type := 0, pos := "encode.go:30", after := #[], guard := none }) (v := .pointer (some ⟨T, 1, none⟩)) rfl (by kernel_rfl) (by kernel_rfl) (by kernel_rfl) (fun _ _ _ h => h) (Or.inl ⟨by rfl, by intro w hSw; clear hSw; go_simp⟩) hS0 ?_
  try simp only [Act.put, List.setIfInBounds_toArray, List.set_cons_zero, List.set_cons_succ]
  refine wpAnyH_take (i := 3) (oi := { dst := some 20, op := .slice 24 (.tmp 19) none none none, type := 22, pos := "encode.go:30", after := #[{ on := 2, ground := .data }], guard := none }) (v := .slice (some ⟨T, 1, none⟩) 4 4) rfl (by kernel_rfl) (by kernel_rfl) (by kernel_rfl) (fun _ _ _ h => h) (Or.inl ⟨by rfl, by intro w hSw; clear hSw; go_simp⟩) hS0 ?_
  try simp only [Act.put, List.setIfInBounds_toArray, List.set_cons_zero, List.set_cons_succ]
  refine wpAnyH_take (i := 6) (oi := { dst := some 23, op := .move (.const (Value.int IntKind.i64 0)), type := 3, pos := "encode.go:30", after := #[], guard := none }) (v := .int .i64 0) rfl (by kernel_rfl) (by kernel_rfl) (by kernel_rfl) (fun _ _ _ h => h) (Or.inl ⟨by rfl, by intro w hSw; clear hSw; go_simp⟩) hS0 ?_
  try simp only [Act.put, List.setIfInBounds_toArray, List.set_cons_zero, List.set_cons_succ]
  refine wpAnyH_ready (rs := [4]) (by kernel_rfl) (by simp) ?_
  refine AllReadyH.cons (o := { dst := some 21, op := .buildSlice 83 2 #[(0, .tmp 18), (1, .tmp 20)], type := 83, pos := "encode.go:30", after := #[{ on := 1, ground := .data }, { on := 3, ground := .data }], guard := none }) rfl (fun K hK => ?_) AllReadyH.nil
  go_simp
  refine hK.out _ _ (hS0.alloc _) (fun hS1 => ?_)
  clear hK K
  try simp only [Act.put, List.setIfInBounds_toArray, List.set_cons_zero, List.set_cons_succ]
  obtain ⟨s, hs⟩ : ∃ s, (World.heap w6).size = s := ⟨_, rfl⟩
  have R1 : Kk.Blk (World.alloc w6 (.cells #[.slice (some ⟨g, 0, none⟩) n n, .slice (some ⟨T, 1, none⟩) 4 4] 22)) s #[.slice (some ⟨g, 0, none⟩) n n, .slice (some ⟨T, 1, none⟩) 4 4] 22 := by rw [← hs]; exact Kk.Blk.new w6 _ 22
  have HTS := Lib.hid (show T < s by have h1 := Below.size hS0; rw [hsz5.out, hs] at h1; omega)
  obtain ⟨v1, hv⟩ : ∃ v, World.alloc w6 (.cells #[.slice (some ⟨g, 0, none⟩) n n, .slice (some ⟨T, 1, none⟩) 4 4] 22) = v := ⟨_, rfl⟩
  rw [hv] at R1 hS1 ⊢
  rw [hs]
  clear hv hs
  refine wpAnyH_take (i := 5) (oi := { dst := some 22, op := .call { callee := .builtin .len, args := #[.tmp 21], argTypes := #[83] }, type := 3, pos := "encode.go:30", after := #[{ on := 4, ground := .data }], guard := none }) (v := .int .i64 2) rfl (by kernel_rfl) (by kernel_rfl) (by kernel_rfl) (fun _ _ _ h => h) (Or.inl ⟨by rfl, by intro w hSw; clear hSw; go_simp⟩) hS1 ?_
  try simp only [Act.put, List.setIfInBounds_toArray, List.set_cons_zero, List.set_cons_succ]
  refine wpAnyH_done (by kernel_rfl) ?_ _
  have RD0 : Hid (Rd w r b g T s A m c2 raw k0 f0 n (List.replicate n 0) [0, 0, 0, 0] v1) := by
    have h35 := B35.out.trans hS1
    have h1 := (K3.out.trans h35)
    exact ⟨HR.out, B1.out.trans h1, QB.out.bel h1, QF.out.bel h1, T5.out.bel hS1, R1, Kk.owns_mono (Kk.owns_bel O5.out hS1) (by have h2 := HB.out; have h3 := HRB3.out; omega), (RS5.out.bel h35), HB.out, HRB3.out, HGT.out, HTS.out, HAL3.out⟩
  clear R1 hS0 hS1 ct RS5 O5 T5 QB QF B35 K3 K4 K5 B1 HW0 HW1 HS1 HG hsz5 SL HAB HRB3 HAL3 HI HZ0 HZ1 HZ2
  have UA := Lib.hid (show ∀ i k f, Us raw ke fe (l.drop i) k f → i < l.length → ∃ k' f', Cd.RU raw k f (l.getD i 0) k' f' ∧ Us raw ke fe (l.drop (i + 1)) k' f' from fun i k f h hi => us_step h hi)
  go_wp2_with fail
  go_loopw [23] (fun u wr => ∃ j : Nat, u = .int .i64 j ∧ j ≤ 2 ∧ ∃ k f Z P, Rd w r b g T s A m c2 raw k f n Z P wr ∧ Us raw ke fe (l.drop (if j = 0 then 0 else if j = 1 then n else n + 4)) k f ∧ Z.length = n ∧ P.length = 4 ∧ (1 ≤ j → ∀ i, i < n → Z.getD i 0 = l.getD i 0) ∧ (2 ≤ j → ∀ i, i < 4 → P.getD i 0 = l.getD (n + i) 0)) (fun u _ => 2 - (intOf u).toNat)
  case atStart => exact ⟨0, rfl, by omega, k0, f0, _, _, RD0.out, HUS.out, by simp, rfl, fun h => absurd h (by omega), fun h => absurd h (by omega)⟩
  case round =>
    obtain ⟨j, rfl, hj, k, f, Z, P, hrd, hus, hZ, hP, hZc, hPc⟩ := hrel
    have RR := Lib.hid hrd
    have UR := Lib.hid hus
    have HZ := Lib.hid hZ
    have HPL := Lib.hid hP
    have HZC := Lib.hid hZc
    have HPC := Lib.hid hPc
    clear hrd hus hZ hP hZc hPc
    rcases (show j = 0 ∨ j = 1 ∨ j = 2 by omega) with rfl | rfl | rfl
    · have hcell := RR.out.bs.cell 0 rfl
      have hj3 : ((0 : Nat) : Int) < 2 := by omega
      go_wp2_with fail
      go_loopw [29] (fun u wx => ∃ i : Nat, u = .int .i64 i ∧ i ≤ n ∧ ∃ k f Z, Rd w r b g T s A m c2 raw k f n Z P wx ∧ Us raw ke fe (l.drop i) k f ∧ Z.length = n ∧ (∀ q, q < i → Z.getD q 0 = l.getD q 0)) (fun u _ => n - (intOf u).toNat)
      case atStart => exact ⟨0, rfl, by omega, k, f, Z, RR.out, UR.out, HZ.out, fun q h => absurd h (by omega)⟩
      case round =>
        obtain ⟨i, rfl, hi, k2, f2, Z2, hrd, hus, hZ, hZc⟩ := hrel
        have RX := Lib.hid hrd
        have UX := Lib.hid hus
        have HZ2 := Lib.hid hZ
        have HZC2 := Lib.hid hZc
        clear hrd hus hZ hZc
        by_cases hi2 : i < n
        · have hi3 : (i : Int) < n := by omega
          have hn64 := HN.out
          obtain ⟨k3, f3, hru, hus3⟩ := UA.out i k2 f2 UX.out (by rw [HLL.out]; omega)
          have CU := Lib.hid (zU _ b A m c2 raw k2 f2 _ k3 f3 wr RX.out.rd hru RX.out.glt)
          have HU3 := Lib.hid hus3
          obtain ⟨x, hx⟩ : ∃ x, l.getD i 0 = x := ⟨_, rfl⟩
          rw [hx] at CU
          have HX := Lib.hid hx
          clear hru hus3 hx
          go_wp2_with fail
          refine CU.out.mono ?_
          rintro e w7 ⟨rfl, hre, k7⟩
          have R7 := Lib.hid (RX.out.read hre k7)
          have hc7 : w7.cell? ⟨g, i, none⟩ = some (.int .u64 (Z2.getD i 0)) := by
            rw [R7.out.row.cellAt i (by simpa [HZ2.out] using hi2), List.getElem?_map, List.getElem?_eq_getElem (by rw [HZ2.out]; exact hi2), Kk.getD_eq _ _ (by rw [HZ2.out]; exact hi2)]
            rfl
          have hf7 := R7.out.row.frozenAt i
          have R8 := Lib.hid (R7.out.setZ i x)
          clear hre k7 CU
          go_wp2_with fail
          go_roundw
          case rel => exact ⟨i + 1, by go_num, by omega, k3, f3, Z2.set i x, R8.out, HU3.out, by rw [List.length_set]; exact HZ2.out, fun q hq => by
            rcases Nat.lt_or_ge q i with h | h
            · rw [getD_set_ne _ _ (Nat.ne_of_gt h)]; exact HZC2.out q h
            · obtain rfl : q = i := by omega
              rw [getD_set _ _ _ (by rw [HZ2.out]; exact hi2)]; exact HX.out.symm⟩
          case measure => simp [intOf]; omega
        · obtain rfl : i = n := by omega
          go_wp2_with fail
          go_roundw
          case rel => exact ⟨1, by go_num, by omega, k2, f2, Z2, P, RX.out, UX.out, HZ2.out, HPL.out, fun _ => HZC2.out, fun h => absurd h (by omega)⟩
          case measure => simp [intOf]
    · have hcell := RR.out.bs.cell 1 rfl
      have hj3 : ((1 : Nat) : Int) < 2 := by omega
      go_wp2_with fail
      go_loopw [29] (fun u wx => ∃ i : Nat, u = .int .i64 i ∧ i ≤ 4 ∧ ∃ k f P, Rd w r b g T s A m c2 raw k f n Z P wx ∧ Us raw ke fe (l.drop (n + i)) k f ∧ P.length = 4 ∧ (∀ q, q < i → P.getD q 0 = l.getD (n + q) 0)) (fun u _ => 4 - (intOf u).toNat)
      case atStart => exact ⟨0, rfl, by omega, k, f, P, RR.out, UR.out, HPL.out, fun q h => absurd h (by omega)⟩
      case round =>
        obtain ⟨i, rfl, hi, k2, f2, P2, hrd, hus, hP, hPc⟩ := hrel
        have RX := Lib.hid hrd
        have UX := Lib.hid hus
        have HP2 := Lib.hid hP
        have HPC2 := Lib.hid hPc
        clear hrd hus hP hPc
        by_cases hi2 : i < 4
        · have hi3 : (i : Int) < 4 := by omega
          obtain ⟨k3, f3, hru, hus3⟩ := UA.out (n + i) k2 f2 UX.out (by rw [HLL.out]; omega)
          have CU := Lib.hid (zU _ b A m c2 raw k2 f2 _ k3 f3 wr RX.out.rd hru RX.out.glt)
          have HU3 := Lib.hid hus3
          obtain ⟨x, hx⟩ : ∃ x, l.getD (n + i) 0 = x := ⟨_, rfl⟩
          rw [hx] at CU
          have HX := Lib.hid hx
          clear hru hus3 hx
          go_wp2_with fail
          refine CU.out.mono ?_
          rintro e w7 ⟨rfl, hre, k7⟩
          have R7 := Lib.hid (RX.out.read hre k7)
          have hc7 : w7.cell? ⟨T, 1 + i, none⟩ = some (.int .u64 (P2.getD i 0)) := by
            refine R7.out.bt.cell (1 + i) ?_
            rw [List.getElem?_toArray, Nat.add_comm, bkC, List.getElem?_cons_succ, List.getElem?_map, List.getElem?_eq_getElem (by rw [HP2.out]; exact hi2), Kk.getD_eq _ _ (by rw [HP2.out]; exact hi2)]
            rfl
          have hf7 := R7.out.bt.frozen (1 + i)
          have R8 := Lib.hid (R7.out.setP i x)
          clear hre k7 CU
          go_wp2_with fail
          go_roundw
          case rel => exact ⟨i + 1, by go_num, by omega, k3, f3, P2.set i x, R8.out, HU3.out, by rw [List.length_set]; exact HP2.out, fun q hq => by
            rcases Nat.lt_or_ge q i with h | h
            · rw [getD_set_ne _ _ (Nat.ne_of_gt h)]; exact HPC2.out q h
            · obtain rfl : q = i := by omega
              rw [getD_set _ _ _ (by rw [HP2.out]; exact hi2)]; exact HX.out.symm⟩
          case measure => simp [intOf]; omega
        · obtain rfl : i = 4 := by omega
          go_wp2_with fail
          go_roundw
          case rel => exact ⟨2, by go_num, by omega, k2, f2, Z, P2, RX.out, UX.out, HZ.out, HP2.out, fun _ => HZC.out (by omega), fun _ => HPC2.out⟩
          case measure => simp [intOf]
    · have hend : k = ke ∧ f = fe := by
        have h := UR.out
        rw [if_neg (by decide), if_neg (by decide), List.drop_of_length_le (by rw [HLL.out]; omega)] at h
        exact h
      obtain ⟨rfl, rfl⟩ := hend
      have eZ : Z = l.take n := by have h := filled (a := 0) (l := l) (by rw [HLL.out]; omega) HZ.out (fun i hi => by rw [Nat.zero_add]; exact HZC.out (by omega) i hi); simpa using h
      have eP : P = l.drop n := by
        have h := filled (a := n) (l := l) (n := 4) (by rw [HLL.out]; omega) HPL.out (HPC.out (by omega))
        rw [h]
        exact List.take_of_length_le (by rw [List.length_drop, HLL.out]; omega)
      have CE := Lib.hid (Cd.rEnd b raw k f wr RR.out.rd.rs)
      obtain ⟨x, hx⟩ : ∃ x, (Cd.endOf raw.length k f).1 = x := ⟨_, rfl⟩
      obtain ⟨y, hy⟩ : ∃ y, (Cd.endOf raw.length k f).2 = y := ⟨_, rfl⟩
      have CE := Lib.hid (show Calls Try.prog 65 #[.pointer (some ⟨b, 0, none⟩)] wr fun e w' => e = .returned (.agg #[.int .i64 x, .int .i64 y]) ∧ Kk.Bel wr w' by rw [← hx, ← hy]; exact CE.out)
      have HX := Lib.hid hx
      have HY := Lib.hid hy
      have EZ := Lib.hid eZ
      have EP := Lib.hid eP
      clear hx hy eZ eP
      go_wp2_with fail
      refine CE.out.mono ?_
      rintro e w7 ⟨rfl, k7⟩
      have R7 := Lib.hid (RR.out.kept k7)
      clear k7 CE UR
      go_upto_region 13 with fail
      obtain ⟨u, hu⟩ : ∃ u, w7.heap.size = u := ⟨_, rfl⟩
      obtain ⟨w8, hw8⟩ : ∃ w8, w7.alloc (.cells #[.int .i64 x, .int .i64 y] 49) = w8 := ⟨_, rfl⟩
      rw [hw8, hu]
      have R8 := Lib.hid (R7.out.kept (show Kk.Bel w7 w8 by rw [← hw8]; exact (Kk.Bel.refl _).alloc _))
      have U8 := Lib.hid (show Kk.Blk w8 u [.int .i64 x, .int .i64 y].toArray 49 by rw [← hw8, ← hu]; exact Kk.Blk.new w7 _ _)
      have HRU := Lib.hid (show r + 1 < u by have h1 := R7.out.b1.lt; omega)
      clear hw8 hu R7
      have hcu := U8.out.cell 0 (v := .int .i64 x) rfl
      have RF8 := Lib.hid (rngB U8.out)
      have uF := Try.underlying49
      have iF := Lib.hid (show (Try.prog.info? 49).map (·.size) = some ([.int .i64 x, .int .i64 y] : List Value).length from info_flt)
      by_cases hx0 : x = 0
      · subst hx0
        have hF := show rdF raw n l k f = (chk (l.take n) (l.drop n), 0) by unfold rdF; rw [if_pos HX.out]
        have hq : chk Z P = e1 := by rw [EZ.out, EP.out, ← HE1.out, hF]
        have h20 : e2 = 0 := by rw [← HE2.out, hF]
        subst h20
        have R9 := Lib.hid (rngB R8.out.bt)
        obtain ⟨Y, hY⟩ : ∃ Y, Y = bkC (.slice (some ⟨g, 0, none⟩) n n) P := ⟨_, rfl⟩
        rw [← hY] at R9
        have hgood : Good Z P := ⟨by rw [EZ.out]; exact words_take HWL.out n, by rw [EP.out]; exact words_drop HWL.out n, HPL.out, by rw [HZ.out]; have := HN.out; omega⟩
        have hbv : BV w8 Y Z P := by
          obtain ⟨A9, c9, e9, hsu⟩ := su_of_own R8.out.row
          injection e9 with a9 b9 c9'
          subst a9 c9'
          exact ⟨some ⟨g, 0, none⟩, n, by rw [hY, HZ.out], by rw [HZ.out]; exact hsu, hgood⟩
        have hfb : FB w w8 (.agg Y.toArray) Z P := by
          refine ⟨_, by rw [hY], ?_, R8.out.bel⟩
          rw [HZ.out, R8.out.at0]
          exact R8.out.row
        have HYL := Lib.hid (hbv.len)
        have YI := Lib.hid (show (Try.prog.info? 26).map (·.size) = some Y.length by rw [HYL.out]; exact info_bank)
        have YI2 := Lib.hid (show (Try.prog.info? 26).map (·.size) = some Y.toArray.size by rw [List.size_toArray, HYL.out]; exact info_bank)
        have YO := Lib.hid hbv.one
        have HBV := Lib.hid hbv
        have HFB := Lib.hid hfb
        have CK := Lib.hid (checkV Y Z P w8 hbv)
        rw [hq] at CK
        have HQ := Lib.hid hq
        have HRD : Hid (rdZ raw n l k f = (if e1 = 0 then Z else []) ∧ rdP raw n l k f = (if e1 = 0 then P else [0, 0, 0, 0])) := by
          unfold rdZ rdP
          rw [HE1.out, EZ.out, EP.out]
          exact ⟨rfl, rfl⟩
        clear hbv hfb hgood hF hq hY
        go_wp2_with ((with_reducible refine wpList_load_mid ?_ 26 (.tmp 5) ?_ T 0 ?_ Y _ R9.out uB ?_ YI.out ?_); rfl; rfl; rfl; rfl)
        refine CK.out.mono ?_
        rintro e w9 ⟨rfl, k9⟩
        have R10 := Lib.hid (R8.out.kept k9)
        have RT := Lib.hid (rng_bel R9.out k9)
        have HBV9 := Lib.hid (HBV.out.bel k9)
        have HFB9 := Lib.hid (HFB.out.then_ k9)
        clear k9 CK R8 HBV HFB R9
        have T0 := Lib.hid (show w9.there r 0 Y.toArray.size from bthere R10.out.b0 0 _ (by rw [List.size_toArray, HYL.out]; exact Nat.le_refl 5))
        by_cases hq0 : e1 = 0
        · subst hq0
          have F3 := Lib.hid (HFB9.out.set (g := r) (Y := Y) (o := 0) R10.out.b0 (by decide) (by rw [HR.out]; exact Nat.le_refl _))
          have B3 := Lib.hid (HBV9.out)
          have h1 := R10.out.b1.kep (kep_setCells r Y 0 w9) (by omega)
          have T1 := Lib.hid (show (w9.setCells r 0 Y).there (r + 1) 0 (#[.int .i64 0, .int .i64 0] : Array Value).size from bthere h1 0 _ (Nat.le_refl 2))
          have I1 := Lib.hid (show (Try.prog.info? 49).map (·.size) = some (#[.int .i64 0, .int .i64 0] : Array Value).size from info_flt)
          have O1 := Lib.hid (flt_one 0 0)
          have QZ := Lib.hid (blk5 R10.out.b0 rfl Y HYL.out)
          have QF := Lib.hid h1
          clear h1
          go_wp2_with (first | ((with_reducible refine wpList_load_mid ?_ 26 (.tmp 5) ?_ T 0 ?_ Y _ RT.out uB ?_ YI.out ?_); rfl; rfl; rfl; rfl) | ((with_reducible refine wpList_store_mid ?_ 26 (.tmp 2) (.tmp 53) ?_ r 0 Y.toArray ?_ ?_ T0.out YI2.out YO.out ?_); rfl; rfl; rfl; rfl) | ((with_reducible refine wpList_store_mid ?_ 49 (.tmp 3) (.tmp 54) ?_ (r + 1) 0 #[.int .i64 0, .int .i64 0] ?_ ?_ ?_ I1.out O1.out ?_); rfl; rfl; rfl; rfl; exact T1.out))
          have F4 := Lib.hid (F3.out.set (g := r + 1) (Y := [.int .i64 0, .int .i64 0]) (o := 0) QF.out (by decide) (by rw [HR.out]; omega))
          have QZ2 := QZ.out.kep (kep_setCells (r + 1) [.int .i64 0, .int .i64 0] 0 _) (by omega)
          have QF2 := blk2 QF.out rfl [.int .i64 0, .int .i64 0] rfl
          refine bodyPost_ret (res_cc Try.results29 _ _ ⟨r, 0, none⟩ ⟨r + 1, 0, none⟩ (.agg Y.toArray) (.agg #[.int .i64 0, .int .i64 0]) rfl rfl (load_b QZ2 Try.underlying26 rfl YI.out) (load_f QF2)) rfl ⟨Y, rfl, ?_⟩
          rw [HRD.out.1, HRD.out.2]
          exact FB.same F4.out HBV9.out.good
        · have hq1 : (e1 != 0) = true := by simpa using hq0
          have h1 := R10.out.b1.kep (kep_setCells r [.slice none 0 0, .int .u64 0, .int .u64 0, .int .u64 0, .int .u64 0] 0 w9) (by omega)
          have TZ := Lib.hid (show w9.there r 0 (#[.slice none 0 0, .int .u64 0, .int .u64 0, .int .u64 0, .int .u64 0] : Array Value).size from bthere R10.out.b0 0 _ (Nat.le_refl 5))
          have IZ := Lib.hid (show (Try.prog.info? 26).map (·.size) = some (#[.slice none 0 0, .int .u64 0, .int .u64 0, .int .u64 0, .int .u64 0] : Array Value).size from info_bank)
          have OZ := Lib.hid (one5 (v := .slice none 0 0) (a := 0) (b := 0) (c := 0) (d := 0) rfl)
          have T1 := Lib.hid (show (w9.setCells r 0 [.slice none 0 0, .int .u64 0, .int .u64 0, .int .u64 0, .int .u64 0]).there (r + 1) 0 (#[.int .i64 e1, .int .i64 0] : Array Value).size from bthere h1 0 _ (Nat.le_refl 2))
          have I1 := Lib.hid (show (Try.prog.info? 49).map (·.size) = some (#[.int .i64 e1, .int .i64 0] : Array Value).size from info_flt)
          have O1 := Lib.hid (flt_one e1 0)
          have QF := Lib.hid h1
          clear h1
          go_wp2_with (first | ((with_reducible refine wpList_store_mid ?_ 26 (.tmp 2) (.tmp 50) ?_ r 0 #[.slice none 0 0, .int .u64 0, .int .u64 0, .int .u64 0, .int .u64 0] ?_ ?_ TZ.out IZ.out OZ.out ?_); rfl; rfl; rfl; rfl) | ((with_reducible refine wpList_store_mid ?_ 49 (.tmp 3) (.tmp 52) ?_ (r + 1) 0 #[.int .i64 e1, .int .i64 0] ?_ ?_ ?_ I1.out O1.out ?_); rfl; rfl; rfl; rfl; exact T1.out))
          have QZ := blk5 R10.out.b0 rfl [.slice none 0 0, .int .u64 0, .int .u64 0, .int .u64 0, .int .u64 0] rfl
          have QZ2 := QZ.kep (kep_setCells (r + 1) [.int .i64 e1, .int .i64 0] 0 _) (by omega)
          have QF2 := blk2 QF.out rfl [.int .i64 e1, .int .i64 0] rfl
          refine bodyPost_ret (res_cc Try.results29 _ _ ⟨r, 0, none⟩ ⟨r + 1, 0, none⟩ (.agg [.slice none 0 0, .int .u64 0, .int .u64 0, .int .u64 0, .int .u64 0].toArray) (.agg #[.int .i64 e1, .int .i64 0]) rfl rfl (load_b QZ2 Try.underlying26 rfl info_bank) (load_f QF2)) rfl ⟨_, rfl, ?_⟩
          rw [HRD.out.1, HRD.out.2, if_neg hq0, if_neg hq0]
          exact FB.same (fb_zero (bel_setCells (bel_setCells R10.out.bel (by rw [HR.out]; exact Nat.le_refl _) 0 _) (by rw [HR.out]; omega) 0 _)) good_zero
      · have hF := show rdF raw n l k f = Cd.endOf raw.length k f by unfold rdF; rw [if_neg (by rw [HX.out]; exact hx0)]
        obtain rfl : x = e1 := by rw [← HX.out, ← HE1.out, hF]
        obtain rfl : y = e2 := by rw [← HY.out, ← HE2.out, hF]
        have HRD : Hid (rdZ raw n l k f = [] ∧ rdP raw n l k f = [0, 0, 0, 0]) := by
          unfold rdZ rdP
          rw [HE1.out, if_neg hx0, if_neg hx0]
          exact ⟨rfl, rfl⟩
        clear hF
        have hx1 : (x != 0) = true := by simpa using hx0
        have hne : r ≠ u ∧ r + 1 ≠ u := by have := HRU.out; omega
        have h1 := R8.out.b1.kep (kep_setCells r [.slice none 0 0, .int .u64 0, .int .u64 0, .int .u64 0, .int .u64 0] 0 w8) (by omega)
        go_upto_region 14 with fail
        refine wp_region_held_drew (S := fun V => V.rangeAt u 0 [.int .i64 x, .int .i64 y]) (by kernel_rfl) (rng_bel RF8.out (Kk.Bel.refl _).drew) (fun hS0 => ?_)
        have R9 := Lib.hid (R8.out.kept (Kk.Bel.refl w8).drew)
        obtain ⟨w6, hw6⟩ : ∃ w6, World.drew w8 = w6 := ⟨_, rfl⟩
        rw [hw6] at hS0 R9 ⊢
        clear hw6 h1
        refine wpAnyH_take (i := 0) (oi := { dst := some 44, op := .build 26 #[], type := 26, pos := "encode.go:36", after := #[], guard := none }) (v := .agg #[.slice none 0 0, .int .u64 0, .int .u64 0, .int .u64 0, .int .u64 0]) rfl (by kernel_rfl) (by kernel_rfl) (by kernel_rfl) (fun _ _ _ h => h) (Or.inl ⟨by rfl, by intro w hSw; clear hSw; go_simp⟩) hS0 ?_
        try simp only [Act.put, List.setIfInBounds_toArray, List.set_cons_zero, List.set_cons_succ]
        refine wpAnyH_take (i := 1) (oi := { dst := some 45, op := .load 49 (.tmp 9), type := 49, pos := "encode.go:36", after := #[{ on := 2, ground := .gcOnly .lateStores }], guard := none }) (v := .agg #[.int .i64 x, .int .i64 y]) rfl (by kernel_rfl) (by kernel_rfl) (by kernel_rfl) (fun _ _ _ h => h) (yieldsIf_load_mid (by rfl) _ _ rfl _ _ rfl _ _ (fun w h => h) uF rfl iF.out) hS0 ?_
        try simp only [Act.put, List.setIfInBounds_toArray, List.set_cons_zero, List.set_cons_succ]
        refine wpAnyH_ready (rs := [2]) (by kernel_rfl) (by simp) ?_
        refine AllReadyH.cons (o := { dst := none, op := .store 26 (.tmp 2) (.tmp 44), type := 0, pos := "encode.go:36", after := #[{ on := 0, ground := .data }, { on := 0, ground := .phase }, { on := 1, ground := .textOnly .lateStores }], guard := none }) rfl (fun K hK => ?_) AllReadyH.nil
        rw [if_pos (by rfl)]
        refine wp_store_mid 26 (.tmp 2) (.tmp 44) rfl r 0 #[.slice none 0 0, .int .u64 0, .int .u64 0, .int .u64 0, .int .u64 0] rfl rfl (bthere R9.out.b0 0 _ (Nat.le_refl 5)) info_bank (one5 (v := .slice none 0 0) rfl) ?_
        have hS2 := rng_kep hS0 (kep_setCells r [.slice none 0 0, .int .u64 0, .int .u64 0, .int .u64 0, .int .u64 0] 0 w6) (by omega)
        have QZ := Lib.hid (blk5 R9.out.b0 rfl [.slice none 0 0, .int .u64 0, .int .u64 0, .int .u64 0, .int .u64 0] rfl)
        have QF := Lib.hid (R9.out.b1.kep (kep_setCells r [.slice none 0 0, .int .u64 0, .int .u64 0, .int .u64 0, .int .u64 0] 0 w6) (by omega))
        have BZ := Lib.hid (bel_setCells R9.out.bel (by rw [HR.out]; exact Nat.le_refl r) 0 [.slice none 0 0, .int .u64 0, .int .u64 0, .int .u64 0, .int .u64 0])
        refine hK.out _ _ hS2 (fun _ => ?_)
        clear hK K
        try simp only [Act.put]
        obtain ⟨w7', hw7⟩ : ∃ w7', World.setCells w6 r 0 [.slice none 0 0, .int .u64 0, .int .u64 0, .int .u64 0, .int .u64 0] = w7' := ⟨_, rfl⟩
        rw [hw7] at hS2 QZ QF BZ ⊢
        clear hw7
        refine wpAnyH_ready (rs := [3]) (by kernel_rfl) (by simp) ?_
        refine AllReadyH.cons (o := { dst := none, op := .store 49 (.tmp 3) (.tmp 45), type := 0, pos := "encode.go:36", after := #[{ on := 1, ground := .data }, { on := 2, ground := .chain }, { on := 0, ground := .phase }, { on := 1, ground := .phase }, { on := 2, ground := .phase }], guard := none }) rfl (fun K hK => ?_) AllReadyH.nil
        rw [if_pos (by rfl)]
        refine wp_store_mid 49 (.tmp 3) (.tmp 45) rfl (r + 1) 0 #[.int .i64 x, .int .i64 y] rfl rfl (bthere QF.out 0 _ (Nat.le_refl 2)) info_flt (flt_one x y) ?_
        have hS3 := rng_kep hS2 (kep_setCells (r + 1) [.int .i64 x, .int .i64 y] 0 w7') (by omega)
        have QZ2 := QZ.out.kep (kep_setCells (r + 1) [.int .i64 x, .int .i64 y] 0 w7') (by omega)
        have QF2 := blk2 QF.out rfl [.int .i64 x, .int .i64 y] rfl
        have BZ2 := bel_setCells BZ.out (g := r + 1) (by rw [HR.out]; omega) 0 [.int .i64 x, .int .i64 y]
        refine hK.out _ _ hS3 (fun _ => ?_)
        clear hK K
        refine wpAnyH_done (by kernel_rfl) ?_ _
        go_wp2_with fail
        refine bodyPost_ret (res_cc Try.results29 _ _ ⟨r, 0, none⟩ ⟨r + 1, 0, none⟩ (.agg [.slice none 0 0, .int .u64 0, .int .u64 0, .int .u64 0, .int .u64 0].toArray) (.agg #[.int .i64 x, .int .i64 y]) rfl rfl (load_b QZ2 Try.underlying26 rfl info_bank) (load_f QF2)) rfl ⟨_, rfl, ?_⟩
        rw [HRD.out.1, HRD.out.2]
        exact FB.same (fb_zero BZ2) good_zero
end Bk
end Go.Proofs.Ythdcgkikhindiaa
end

section
/-
  The law's reads. Conditions: at most a million bytes.
-/
namespace Go.Proofs.Ythdcgkikhindiaa
open Go.RowKit Go.Shelf
set_option linter.unusedVariables false
namespace Bk
open Pm

set_option maxRecDepth 10000 in
set_option maxHeartbeats 4000000 in
theorem reads (B : Option Addr) (m c : Nat) (raw : List Int) (w : World) (hs : Kk.Sl w B m c raw) (hm : m ≤ 1000000) (hb : Cd.Bytes raw) (n : Nat) (l : List Int) (ke : Nat) (fe : Option (Int × Int)) (hr : Run raw n l ke fe) :
    Calls Try.prog 37 #[.slice B m c] w fun e w' => e = .returned (.agg #[.int .i64 (rdF raw n l ke fe).1, .int .i64 (rdF raw n l ke fe).2]) ∧ Kk.Bel w w' := by
  obtain ⟨W0, hW0⟩ : ∃ W0, w.alloc (.cells #[.int .i64 0, .int .i64 0] 49) = W0 := ⟨_, rfl⟩
  obtain ⟨r, hr0⟩ : ∃ r, w.heap.size = r := ⟨_, rfl⟩
  have B0 := Lib.hid (show Kk.Bel w W0 by rw [← hW0]; exact (Kk.Bel.refl w).alloc _)
  have Q0 := Lib.hid (show Kk.Blk W0 r [.int .i64 0, .int .i64 0].toArray 49 by rw [← hW0, ← hr0]; exact Kk.Blk.new w _ _)
  have CR := Lib.hid (readV B m c raw W0 (hs.bel B0.out) hm hb n l ke fe hr)
  obtain ⟨x, hx⟩ : ∃ x, (rdF raw n l ke fe).1 = x := ⟨_, rfl⟩
  obtain ⟨y, hy⟩ : ∃ y, (rdF raw n l ke fe).2 = y := ⟨_, rfl⟩
  rw [hx, hy] at CR
  rw [hx, hy]
  have HW0 := Lib.hid hW0
  have HR := Lib.hid hr0
  have uF := Try.underlying49
  clear hx hy hs hr hW0 hr0
  go_enter Try.func37, Try.ntmps37
  go_upto_region 1 with fail
  rw [HW0.out, HR.out]
  go_wp2_with fail
  refine CR.out.mono ?_
  rintro e w1 ⟨X, rfl, hnb⟩
  have NN := Lib.hid hnb
  have Q1 := Lib.hid (Q0.out.bel hnb.bel)
  obtain ⟨q, hq⟩ : ∃ q, w1.heap.size = q := ⟨_, rfl⟩
  obtain ⟨w2, hw2⟩ : ∃ v, w1.alloc (.cells ZB 26) = v := ⟨_, rfl⟩
  obtain ⟨w3, hw3⟩ : ∃ v, w2.alloc (.cells #[.int .i64 0, .int .i64 0] 49) = v := ⟨_, rfl⟩
  have hs2 : w2.heap.size = q + 1 := by rw [← hw2, World.size_alloc, hq]
  have b3 : Kk.Bel w1 w3 := by rw [← hw3, ← hw2]; exact ((Kk.Bel.refl _).alloc _).alloc _
  have q3 : Kk.Blk w3 q [.slice none 0 0, .int .u64 0, .int .u64 0, .int .u64 0, .int .u64 0].toArray 26 := by rw [← hw3, ← hw2, ← hq]; exact (Kk.Blk.new w1 _ _).alloc _
  have f3 : Kk.Blk w3 (q + 1) [.int .i64 0, .int .i64 0].toArray 49 := by rw [← hw3, ← hs2]; exact Kk.Blk.new w2 _ _
  have hqr : r < q := by rw [← hq]; exact Q1.out.lt
  have hXL := hnb.2.len
  have T3 := Lib.hid (blk_there q3 rfl hXL)
  have I3 := Lib.hid hnb.infoA
  have O3 := Lib.hid hnb.one
  have f4 := f3.kep (kep_setCells q X 0 w3) (by omega)
  have T4 := Lib.hid (show (w3.setCells q 0 X).there (q + 1) 0 (#[.int .i64 x, .int .i64 y] : Array Value).size from bthere f4 0 _ (Nat.le_refl 2))
  have I4 := Lib.hid (show (Try.prog.info? 49).map (·.size) = some (#[.int .i64 x, .int .i64 y] : Array Value).size from info_flt)
  have O4 := Lib.hid (flt_one x y)
  have f5 := blk2 f4 rfl [.int .i64 x, .int .i64 y] rfl
  obtain ⟨w4, hw4⟩ : ∃ v, (w3.setCells q 0 X).setCells (q + 1) 0 [.int .i64 x, .int .i64 y] = v := ⟨_, rfl⟩
  have F5 := Lib.hid (show Kk.Blk w4 (q + 1) [.int .i64 x, .int .i64 y].toArray 49 by rw [← hw4]; exact f5)
  have Q5 := Lib.hid (show Kk.Blk w4 r [.int .i64 0, .int .i64 0].toArray 49 by rw [← hw4]; exact ((Q1.out.bel b3).kep (kep_setCells q X 0 w3) (by omega)).kep (kep_setCells (q + 1) _ 0 _) (by omega))
  have K5 := Lib.hid (show Kk.Bel w w4 by rw [← hw4]; exact bel_setCells (bel_setCells (B0.out.trans (NN.out.bel.trans b3)) (by rw [HR.out]; omega) 0 X) (by rw [HR.out]; omega) 0 _)
  have R5 := Lib.hid (rngB F5.out)
  have I5 := Lib.hid (show (Try.prog.info? 49).map (·.size) = some ([.int .i64 x, .int .i64 y] : List Value).length from info_flt)
  have T5 := Lib.hid (show w4.there r 0 (#[.int .i64 x, .int .i64 y] : Array Value).size from bthere Q5.out 0 _ (Nat.le_refl 2))
  have HW2 := Lib.hid (show w1.alloc (.cells #[.slice none 0 0, .int .u64 0, .int .u64 0, .int .u64 0, .int .u64 0] 26) = w2 from hw2)
  have HQ := Lib.hid hq
  have HW4 := Lib.hid hw4
  have hw2 := HW2.out
  clear b3 q3 f3 f4 f5 hqr hXL hnb CR hw4 NN
  go_upto_region 2 with (first | ((with_reducible refine wpList_store_mid ?_ 26 (.tmp 3) (.tmp 8) ?_ q 0 X.toArray ?_ ?_ T3.out I3.out O3.out ?_); rfl; rfl; rfl; rfl) | ((with_reducible refine wpList_store_mid ?_ 49 (.tmp 4) (.tmp 9) ?_ (q + 1) 0 #[.int .i64 x, .int .i64 y] ?_ ?_ T4.out I4.out O4.out ?_); rfl; rfl; rfl; rfl))
  rw [HW4.out]
  clear hw2 hq hw3 hs2 T3 T4
  go_wp2_with (first | ((with_reducible refine wpList_load_mid ?_ 49 (.tmp 4) ?_ (q + 1) 0 ?_ _ _ R5.out uF ?_ I5.out ?_); rfl; rfl; rfl; rfl) | ((with_reducible refine wpList_store_mid ?_ 49 (.tmp 2) (.tmp 10) ?_ r 0 #[.int .i64 x, .int .i64 y] ?_ ?_ T5.out I4.out O4.out ?_); rfl; rfl; rfl; rfl))
  have QE := blk2 Q5.out rfl [.int .i64 x, .int .i64 y] rfl
  exact bodyPost_ret (res_c Try.results37 _ _ ⟨r, 0, none⟩ (.agg #[.int .i64 x, .int .i64 y]) rfl (load_f QE)) rfl ⟨rfl, bel_setCells K5.out (by rw [HR.out]; exact Nat.le_refl _) 0 _⟩
end Bk
end Go.Proofs.Ythdcgkikhindiaa
end

section
/-
  What the law's walks need besides: == of two faults, and what is read of some short bytes. No condition.
-/
namespace Go.Proofs.Ythdcgkikhindiaa
open Go.RowKit Go.Shelf
set_option linter.unusedVariables false
namespace Bk
open Pm

theorem part0 {P : Program} {t : TypeId} {q : IntKind} (hu : P.underlying t = some (.int q)) {xs : Array Value} {i : Nat} {v : Value} (hx : xs[i]? = some v) (w : World) : (part t xs i).run P w = .ok v w := by
  simp [part, isAgg, run_underlying hu, hx]
theorem eqIn_fault (e p e' p' : Int) (W : World) : (Op.equalIn 10000 49 (.agg #[.int .i64 e, .int .i64 p]) (.agg #[.int .i64 e', .int .i64 p'])).run Try.prog W = .ok (e == e' && p == p') W := by
  have hS : Try.prog.underlying 49 = some (.struct (Try.prog.fieldsOf 49)) := by kernel_rfl
  rw [show (10000 : Nat) = 9999 + 1 from rfl, run_equalIn_struct W 9999 _ _ _ hS (by kernel_rfl)]
  simp only [Program.fieldsOf, Try.underlying49]
  have p1 : ∀ w, (part 30 #[Value.int .i64 e, .int .i64 p] 0).run Try.prog w = .ok (.int .i64 e) w := fun w => part0 Try.underlying30 rfl w
  have p2 : ∀ w, (part 30 #[Value.int .i64 e', .int .i64 p'] 0).run Try.prog w = .ok (.int .i64 e') w := fun w => part0 Try.underlying30 rfl w
  have p3 : ∀ w, (part 3 #[Value.int .i64 e, .int .i64 p] 1).run Try.prog w = .ok (.int .i64 p) w := fun w => part0 Try.underlying3 rfl w
  have p4 : ∀ w, (part 3 #[Value.int .i64 e', .int .i64 p'] 1).run Try.prog w = .ok (.int .i64 p') w := fun w => part0 Try.underlying3 rfl w
  have q1 : (Op.equalIn 9999 30 (.int .i64 e) (.int .i64 e')).run Try.prog W = .ok (e == e') W := run_equalIn_int W 9998 _ _ _ _ _ Try.underlying30
  have q2 : (Op.equalIn 9999 3 (.int .i64 p) (.int .i64 p')).run Try.prog W = .ok (p == p') W := run_equalIn_int W 9998 _ _ _ _ _ Try.underlying3
  simp only [Op.eqFields]
  cases hq : (e == e') <;> simp [Sem.run_ite, p1, p2, p3, p4, q1, q2, hq]
  by_cases h2 : p = p' <;> simp [h2]
theorem eql_fault (e p e' p' : Int) (W : World) : (binOp .eql 49 (.agg #[.int .i64 e, .int .i64 p]) (.agg #[.int .i64 e', .int .i64 p'])).run Try.prog W = .ok (.bool (e == e' && p == p')) W := by
  rw [run_eql_struct, eqIn_fault]
  rfl
theorem neq_fault (e p e' p' : Int) (W : World) : (binOp .neq 49 (.agg #[.int .i64 e, .int .i64 p]) (.agg #[.int .i64 e', .int .i64 p'])).run Try.prog W = .ok (.bool (!(e == e' && p == p'))) W := by
  rw [run_neq_struct, eqIn_fault]
  rfl
theorem way_one {zs : List Int} {k : Nat} {z : Int} (hz : zs.getD k 0 = z) (hk : k < zs.length) (h0 : 0 ≤ z) (h1 : z < 128) : Cd.Way zs k z ((k + 1 : Nat) : Int) 0 0 := by
  refine .inr (.inr ⟨k, 0, rfl, by decide, hk, fun i hi => absurd hi (by omega), by rw [Nat.add_zero, hz]; exact h1, fun h => absurd h (by omega), fun h => absurd h (by omega), (val_one zs k hz h0 h1).symm, by push_cast; omega, rfl, rfl⟩)
theorem rn_ok {zs : List Int} {k : Nat} {z least most : Int} (hz : zs.getD k 0 = z) (hk : k < zs.length) (h0 : 0 ≤ z) (h1 : z < 128) (hl : least ≤ z) (hm : z ≤ most) : Cd.RN zs k none least most z (k + 1) none :=
  .inr ⟨rfl, ((k + 1 : Nat) : Int), 0, 0, ⟨z, _, 0, 0, way_one hz hk h0 h1, h0, by omega, .inr (.inr ⟨rfl, hl, hm, rfl, rfl, rfl, rfl⟩)⟩, .inl ⟨rfl, rfl, rfl⟩, by omega, fun h => absurd rfl h⟩
theorem rn_no {zs : List Int} {k : Nat} {z least most : Int} (hz : zs.getD k 0 = z) (hk : k < zs.length) (h0 : 0 ≤ z) (h1 : z < 128) (hb : z < least ∨ most < z) : Cd.RN zs k none least most 0 k (some (3, (k : Int))) :=
  .inr ⟨rfl, 0, 3, (k : Int), ⟨z, _, 0, 0, way_one hz hk h0 h1, h0, by omega, .inr (.inl ⟨rfl, hb, rfl, rfl, rfl, rfl⟩)⟩, .inr ⟨by decide, rfl, rfl⟩, by omega, fun _ => rfl⟩
/-- Nothing is left to read. -/
theorem rn_short (zs : List Int) (least most : Int) : Cd.RN zs zs.length none least most 0 zs.length (some (6, (zs.length : Int))) :=
  .inr ⟨rfl, 0, 6, (zs.length : Int), ⟨0, 0, 6, (zs.length : Int), .inr (.inl ⟨zs.length, rfl, Nat.le_refl _, rfl, rfl, rfl, .inl ⟨rfl, by omega, fun i hi => absurd hi (by omega)⟩⟩), by decide, by decide, .inl ⟨by decide, rfl, rfl, rfl, rfl⟩⟩, .inr ⟨by decide, rfl, rfl⟩, Nat.le_refl _, fun _ => rfl⟩

/-- What != of two structs answers, as an operation of a region. -/
theorem exec_neq {a : Act} {o : Oper} {t t2 : TypeId} {x y : Operand} (ho : o.op = .binOp .neq t x y t2) (xs ys : Array Value) (hx : a.eval x = .agg xs) (hy : a.eval y = .agg ys) (hm : Try.prog.eqGuardType Try.prog.depth t = false)
    {b : Bool} (hb : ∀ w, (binOp .neq t (.agg xs) (.agg ys)).run Try.prog w = .ok (.bool b) w) (w : World) : (execOp a.eval o).run Try.prog w = .ok (.value (.bool b)) w := by
  unfold execOp
  simp only [ho, hx, hy, Sem.run_bind, run_eqGuard_agg (hm := hm), Result.andThen_ok, hb, Sem.run_pure]
/-- What == of two structs answers, as an operation of a region. -/
theorem exec_eql {a : Act} {o : Oper} {t t2 : TypeId} {x y : Operand} (ho : o.op = .binOp .eql t x y t2) (xs ys : Array Value) (hx : a.eval x = .agg xs) (hy : a.eval y = .agg ys) (hm : Try.prog.eqGuardType Try.prog.depth t = false)
    {b : Bool} (hb : ∀ w, (binOp .eql t (.agg xs) (.agg ys)).run Try.prog w = .ok (.bool b) w) (w : World) : (execOp a.eval o).run Try.prog w = .ok (.value (.bool b)) w := by
  unfold execOp
  simp only [ho, hx, hy, Sem.run_bind, run_eqGuard_agg (hm := hm), Result.andThen_ok, hb, Sem.run_pure]
/-- An operation that yields a value, whether it is guarded or not, as an arm of a walk. -/
theorem wpList_val {ops : Array Oper} {rest : List Oper} {o : Oper} {a : Act} {w : World} {Q : Exit → Act → World → Prop} (hw : Region.wanted o (yielded ops a.tmps) = true) (V : Value) (hr : ∀ w, (execOp a.eval o).run Try.prog w = .ok (.value V) w)
    (h : wpList Try.prog ops Q rest (a.put o.dst V) w) : wpList Try.prog ops Q (o :: rest) a w :=
  wpList_step fun K hK => by
    rw [if_pos hw]
    unfold Oper.wp
    rw [hr]
    exact hK _ _ h
theorem ru_ok {zs : List Int} {k : Nat} {z : Int} (hz : zs.getD k 0 = z) (hk : k < zs.length) (h0 : 0 ≤ z) (h1 : z < 128) : Cd.RU zs k none z (k + 1) none :=
  .inr ⟨rfl, ((k + 1 : Nat) : Int), 0, 0, way_one hz hk h0 h1, .inl ⟨rfl, rfl, rfl⟩, by omega, fun h => absurd rfl h⟩
theorem ru_short (zs : List Int) : Cd.RU zs zs.length none 0 zs.length (some (6, (zs.length : Int))) :=
  .inr ⟨rfl, 0, 6, (zs.length : Int), .inr (.inl ⟨zs.length, rfl, Nat.le_refl _, rfl, rfl, rfl, .inl ⟨rfl, by omega, fun i hi => absurd hi (by omega)⟩⟩), .inr ⟨by decide, rfl, rfl⟩, Nat.le_refl _, fun _ => rfl⟩
theorem run_a : Run [1, 0, 0, 0, 0] 1 [0, 0, 0, 0, 0] 5 (some (6, 5)) := by
  refine ⟨by omega, rfl, words_rep 5, 1, none, rn_ok (z := 1) rfl (by decide) (by decide) (by decide) (by decide) (by decide), ?_⟩
  refine ⟨2, none, ru_ok (z := 0) rfl (by decide) (by decide) (by decide), 3, none, ru_ok (z := 0) rfl (by decide) (by decide) (by decide), 4, none, ru_ok (z := 0) rfl (by decide) (by decide) (by decide), 5, none, ru_ok (z := 0) rfl (by decide) (by decide) (by decide), 5, some (6, 5), ru_short [1, 0, 0, 0, 0], rfl, rfl⟩
theorem run_b : Run [0] 0 [0, 0, 0, 0] 0 (some (3, 0)) :=
  ⟨by omega, rfl, words_rep 4, 0, some (3, 0), rn_no (z := 0) rfl (by decide) (by decide) (by decide) (.inl (by decide)), us_fault [0] 0 (3, 0) 4⟩
theorem run_c : Run [1, 0] 1 [0, 0, 0, 0, 0] 2 (some (6, 2)) := by
  refine ⟨by omega, rfl, words_rep 5, 1, none, rn_ok (z := 1) rfl (by decide) (by decide) (by decide) (by decide) (by decide), ?_⟩
  exact ⟨2, none, ru_ok (z := 0) rfl (by decide) (by decide) (by decide), 2, some (6, 2), ru_short [1, 0], us_fault [1, 0] 2 (6, 2) 3⟩
theorem wpList_make_g (w : World) {ops : Array Oper} {rest : List Oper} {o : Oper} {a : Act} {Q : Exit → Act → World → Prop}
    (hw : Region.wanted o (yielded ops a.tmps) = true) (l c : Operand) (hop : o.op = Op.makeSlice 22 l c) (n : Nat) (hl : a.eval l = .int .i64 n) (hc : a.eval c = .int .i64 n) (hn : n ≤ 1000000)
    (hK : ∀ w', w'.ownsRow w.heap.size 23 1 (.slice (some ⟨w.heap.size, 0, none⟩) n n) n ((List.replicate n (0 : Int)).map (Value.int .u64)) → Kk.Bel w w' → wpList Try.prog ops Q rest (a.put o.dst (.slice (some ⟨w.heap.size, 0, none⟩) n n)) w') :
    wpList Try.prog ops Q (o :: rest) a w := by
  obtain ⟨i0, hi, hz0, hz1, hz2⟩ := info_parts info_w
  refine wpList_step fun K hK' => ?_
  rw [if_pos hw]
  obtain ⟨w', hrun, r1, r2⟩ := run_make_full (P := Try.prog) w w.heap.size 22 23 i0 (.int .u64 0) 1 Try.underlying22 hi hz0 hz1 .i64 .i64 n (by rw [hz2]; omega) (by unfold maxLen; omega) (Nat.le_refl _)
  rw [made_zero] at r1
  unfold Oper.wp
  simp [execOp, hop, hl, hc, hrun, Result.andThen]
  exact hK' _ _ (hK w' r1 (Kk.Bel.grown (Kk.Bel.refl w) r2 (by intro k hk; cases hk)))
theorem bytes_small {zs : List Int} (h : ∀ z ∈ zs, 0 ≤ z ∧ z ≤ 255) : Cd.Bytes zs := by
  intro i
  rw [List.getD_eq_getElem?_getD]
  rcases Nat.lt_or_ge i zs.length with hi | hi
  · rw [List.getElem?_eq_getElem hi]
    exact h _ (List.getElem_mem hi)
  · rw [List.getElem?_eq_none hi]
    exact ⟨by decide, by decide⟩
end Bk
end Go.Proofs.Ythdcgkikhindiaa
end
