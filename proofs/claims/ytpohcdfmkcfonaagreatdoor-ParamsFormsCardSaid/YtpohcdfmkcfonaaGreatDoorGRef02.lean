/-
  What distraintref02.Put and distraintref02.Get answer in this program: the same as codec's.
  Conditions: a word; a slice that reads as bytes, of at most 10^9 of them.
-/
import Derived.Test.YtpohcdfmkcfonaaGreatDoorGGet2
namespace Go.Proofs.YtpohcdfmkcfonaaGreatDoor
open Go.RowKit Go.Shelf
set_option linter.unusedVariables false
namespace Cd

theorem Bel.grownBy {w w' : World} (h : Bel w w') : w.grownBy w' none := ⟨Below.os h, Below.tape h, Below.output h, Below.size h, fun k hk _ => Below.block h k hk⟩
theorem owns_bel {w w' : World} {base : Nat} {e : TypeId} {size : Nat} {v : Value} {n : Nat} {xs : List Value} (h : w.ownsRow base e size v n xs) (hb : Bel w w') : w'.ownsRow base e size v n xs := by
  refine h.kept (Bel.grownBy hb) ?_
  cases v.ownBlock with
  | none => exact .inl rfl
  | some g => exact .inr (by simp)
theorem owns_mono {w : World} {base base' : Nat} {e : TypeId} {size : Nat} {v : Value} {n : Nat} {xs : List Value} (h : w.ownsRow base e size v n xs) (hb : base' ≤ base) : w.ownsRow base' e size v n xs := by
  refine ⟨h.1, h.2.imp id fun ⟨g, cap, cur, h1, h2, r⟩ => ⟨g, cap, cur, h1, Nat.le_trans hb h2, r⟩⟩

/-- New bytes. -/
def Fresh (w w' : World) (v : Value) (zs : List Int) : Prop := w'.ownsRow w.heap.size 5 1 v zs.length (zs.map (Value.int .u8)) ∧ Bel w w'

theorem one_ok (z : Int) {k : IntKind} : ∀ u ∈ [Value.int k z], u.oneCell' = true := by
  intro u hu
  simp at hu
  subst hu
  rfl
theorem ints_ok (zs : List Int) {k : IntKind} : ∀ u ∈ zs.map (Value.int k), u.oneCell' = true := by
  intro u hu
  obtain ⟨z, _, rfl⟩ := List.mem_map.1 hu
  rfl
/-- The cells of a slice that reads as numbers, as an append takes them. -/
theorem Ints.news {k : IntKind} {w : World} {A : Addr} {n : Nat} {zs : List Int} (h : Ints k w (some A) n zs) : ∀ j u, (zs.map (Value.int k))[j]? = some u → w.cell? (A.add j) = some u := by
  intro j u hj
  have hl := h.1
  have hjn : j < n := by
    rcases Nat.lt_or_ge j n with h' | h'
    · exact h'
    · rw [List.getElem?_eq_none (by simp; omega)] at hj; cases hj
  obtain ⟨b, o, e, _, hc⟩ := h.cell hjn
  injection e with e
  subst e
  rw [List.getElem?_map, List.getElem?_eq_getElem (by omega)] at hj
  rw [getD_eq _ _ (by omega)] at hc
  simp at hj
  subst hj
  rw [← hc]
  unfold Addr.add
  by_cases h0 : j = 0
  · simp [h0]
  · simp [h0]

set_option maxRecDepth 100000 in
set_option maxHeartbeats 1000000 in
theorem ref_putN (f : Nat) : ∀ (x : Int) (w : World), 0 ≤ x → x < top f → f ≤ 9 →
    Calls Tryz.prog 28 #[.int .u64 x] w fun e w' => ∃ v, e = .returned v ∧ Fresh w w' v (encN f x) := by
  have low : ∀ (f : Nat) (x : Int) (w : World), 0 ≤ x → x < 128 → Calls Tryz.prog 28 #[.int .u64 x] w fun e w' => ∃ v, e = .returned v ∧ Fresh w w' v (encN f x) := by
    intro f x w x0 x1
    have E := Lib.hid (encN_small f x1)
    go_enter Tryz.func28, Tryz.ntmps28
    go_wp2_with fail
    go_ret
    refine ⟨_, rfl, ?_⟩
    rw [E.out]
    exact ⟨World.ownsRow_lit w #[.int .u8 x] 1 (Nat.le_refl _) (by unfold maxLen; omega) rfl, (Bel.refl _).alloc _⟩
  induction f with
  | zero => intro x w x0 x1 _; exact low 0 x w x0 (by have : top 0 = 2 := rfl; omega)
  | succ f ih =>
    intro x w x0 x1 hf
    rcases Int.lt_or_le x 128 with hlt | hge
    · exact low (f + 1) x w x0 hlt
    · obtain ⟨i0, hi, hz0, hz1, hz2⟩ := info_parts Tryz.info_u8
      have ht : top (f + 1) = 128 * top f := rfl
      have h1 : x / 128 < top f := by omega
      have hx : x ≤ 18446744073709551615 := by
        have h := top_mono hf
        rw [top9] at h
        omega
      have E := Lib.hid (encN_great f hge)
      have IH := Lib.hid (fun w' => ih (x / 128) w' (by omega) h1 (by omega))
      have e1 : bits .or .u8 (x % 128) 128 = x % 128 + 128 := by rw [or128 (by omega) (by omega)]; omega
      have hl := encN_len f (x / 128)
      clear ih h1 x1 ht low
      go_enter Tryz.func28, Tryz.ntmps28
      go_wp2_with fail
      refine (IH.out _).mono ?_
      rintro e w1 ⟨v, rfl, hv, hb⟩
      have own0 := World.ownsRow_lit w #[.int .u8 (x % 128 + 128)] (base := w.heap.size) (e := 5) (size := 1) 1 (Nat.le_refl _) (by unfold maxLen; omega) rfl
      have own1 := owns_bel own0 hb
      obtain ⟨A, c, rfl, hA, hAc, hcm⟩ := ints_of_own hv
      obtain ⟨b, o, rfl, _, _⟩ := hA.cell (i := 0) (by omega)
      have NW := Lib.hid (Ints.news hA)
      have HO := Lib.hid own1
      have OK := Lib.hid (ints_ok (encN f (x / 128)) (k := .u8))
      clear hA own0 own1 hv
      go_wp2_with (at_builtin; refine wpList_append_own _ rfl _ _ 25 rfl w.heap.size 5 i0 (.int .u8 0) 1 1 Tryz.underlying25 hi hz0 hz1 hz2 rfl (by decide) _ _ _ rfl HO.out _ (encN f (x / 128)).length _ _ rfl (by simp) NW.out OK.out (by unfold maxLen; omega) (by omega) (by have := Below.size hb; simp at this; omega) ?_; intro v' w2 hown' hgrow _)
      have HOW := Lib.hid hown'
      clear hown'
      have hb2 : Bel w w2 := Bel.grown (((Bel.refl w).alloc _).trans hb) hgrow (fun k hk => (HO.out.lt k hk).1)
      clear hgrow
      go_wp2
      go_ret
      refine ⟨_, rfl, ?_⟩
      rw [E.out]
      exact ⟨by have h := HOW.out; rw [Nat.add_comm] at h; exact h, hb2⟩

theorem ref_put (x : Int) (w : World) (x0 : 0 ≤ x) (x1 : x ≤ 18446744073709551615) :
    Calls Tryz.prog 28 #[.int .u64 x] w fun e w' => ∃ v, e = .returned v ∧ Fresh w w' v (enc x) :=
  ref_putN 9 x w x0 (by rw [top9]; omega) (Nat.le_refl _)
end Cd
end Go.Proofs.YtpohcdfmkcfonaaGreatDoor
