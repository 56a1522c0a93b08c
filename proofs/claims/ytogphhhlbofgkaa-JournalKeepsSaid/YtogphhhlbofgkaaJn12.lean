/-
  Touched: the touched cells, in order: maps.Keys and slices.Sorted by their contracts. Condition: the journal lies in memory as JD says.
-/
import Derived.Test.YtogphhhlbofgkaaJn11
import Derived.Test.YtogphhhlbofgkaaKeys
import Derived.Shelf.AbstractIn
namespace Go.Proofs.Ytogphhhlbofgkaa
open Go.RowKit Go.Shelf Go.Maps Go.Sort
set_option linter.unusedVariables false
namespace Jn
open Kk Pm Bk

theorem sortsA (m : Nat) : AnyZI.SortsIn Try.prog Try.sortedA_ren Fence.wide m :=
  ⟨fun blk off cap ss W hH hblk hsz => callsIn_wide.2 (AnyM.slices_Sort_int Try.sortA blk off cap ss W hH hblk hsz),
   fun p cap W => callsIn_wide.2 (AnyM.slices_Sort_int_none Try.sortA p cap W)⟩
theorem keysC (mb : Nat) (W : World) : Calls Try.prog 65 #[.map (some mb)] W fun e w' => e = .returned (.func (.func 77) #[] #[.pointer (some ⟨W.heap.size, 0, none⟩)]) ∧ w' = W.alloc (.cells #[.map (some mb)] 93) :=
  callsIn_wide.1 (AnyZI.keys_in Try.keysA Fence.wide 5 trivial rfl (some mb) W)
theorem namedZ_sorted (n : Nat) (t : Nat → Bool) : (namedZ n t).Pairwise (fun a b => leI a b = true) := by
  unfold namedZ named
  refine List.pairwise_map.2 ((List.Pairwise.filter _ List.pairwise_lt_range).imp ?_)
  intro a b h
  simp only [leI, decide_eq_true_eq]
  omega
theorem sort_named (n : Nat) (t : Nat → Bool) (ss : List Int) (h : ss.Perm (namedZ n t)) : ss.mergeSort leI = namedZ n t := by
  rw [mergeSort_of_perm_i h]
  have tr : ∀ a b c : Int, leI a b = true → leI b c = true → leI a c = true := fun a b c h1 h2 => by simp only [leI, decide_eq_true_eq] at *; exact Int.le_trans h1 h2
  have tot : ∀ a b : Int, (leI a b || leI b a) = true := fun a b => by simp only [leI, Bool.or_eq_true, decide_eq_true_eq]; exact Int.le_total a b
  refine List.Perm.eq_of_pairwise (le := fun a b => leI a b = true) (fun a b _ _ h1 h2 => ?_) (List.pairwise_mergeSort tr tot _) (namedZ_sorted n t) (List.mergeSort_perm _ leI)
  simp only [leI, decide_eq_true_eq] at h1 h2
  exact Int.le_antisymm h1 h2
theorem sortedC (mb n : Nat) (t : Nat → Bool) (w : World) (h : TMap w mb n t) (hn : n ≤ 4096) :
    Calls Try.prog 64 #[.func (.func 77) #[] #[.pointer (some ⟨w.heap.size, 0, none⟩)]] (w.alloc (.cells #[.map (some mb)] 93)) fun e w' => ∃ v, e = .returned v ∧ w'.ownsRow w.heap.size 3 1 v (namedZ n t).length ((namedZ n t).map (Value.int .i64)) ∧ Bel w w' := by
  obtain ⟨D, hown, h1, h2, h3⟩ := h
  have hp := keys_perm hown h1 h2 h3
  have hbl := hown.lt
  have hsz : Maps.size D ≤ n := by
    obtain ⟨es, clock, hb, F, hs, rfl⟩ := hown
    simp only [Maps.size, length_read]
    exact hs
  have hseq : SeqGives Fence.wide 2 Try.prog 77 #[.pointer (some ⟨w.heap.size, 0, none⟩)] encZ (fun ss => ss.Perm (intKeys D)) (Maps.size D) (w.alloc (.cells #[.map (some mb)] 93)) :=
    AnyZI.keys_gives (ρ := Try.keysA_ren) { Try.keysA with } Fence.wide _ trivial rfl (by omega) w.heap.size mb n D _ (by simp) (by simp) (by
      obtain ⟨es, clock, hb, Ft, hs, hD⟩ := hown
      exact ⟨es, clock, (Below.heap_alloc _ _ mb hbl).trans hb, Ft, hs, hD⟩)
  have cS := AnyZI.sorted_in Try.sortedA Fence.wide 5 trivial trivial trivial trivial rfl (by omega) (sortsA _) (enters_of Try.func76 (by kernel_rfl) rfl) 77 #[.pointer (some ⟨w.heap.size, 0, none⟩)] trivial (enters_of Try.func77 (by kernel_rfl) rfl) _ _ (by unfold maxLen; omega) (by omega) _ hseq
  refine (callsIn_wide.1 cS).mono ?_
  rintro e w' ⟨v, ss, rfl, hS, hrow, hnil, hb⟩
  have e1 := sort_named n t ss (hS.trans hp.symm)
  have e2 : ss.length = (namedZ n t).length := (hS.trans hp.symm).length_eq
  refine ⟨v, rfl, ?_, ((Bel.refl w).alloc _).trans hb⟩
  have hr : w'.ownsRow (w.alloc (.cells #[.map (some mb)] 93)).heap.size 3 1 v ss.length ((ss.mergeSort leI).map encZ) := hrow
  rw [e1, e2] at hr
  exact owns_mono hr (by simp)

/-- The cells that are touched in the topmost level. -/
def tchZ (n : Nat) : List Lv → List Int
  | [] => []
  | lv :: _ => namedZ n lv.2
/-- New ints. -/
def FreshI (w w' : World) (v : Value) (zs : List Int) : Prop := w'.ownsRow w.heap.size 3 1 v zs.length (zs.map (Value.int .i64)) ∧ Bel w w'

set_option maxRecDepth 100000 in
set_option maxHeartbeats 1000000 in
theorem touchedD {w : World} {M I : Nat → Prop} {pj : Nat} {zs : List Int} {L : List Lv} (h : JD w M I pj zs L) :
    Calls Try.prog 28 #[.pointer (some ⟨pj, 0, none⟩)] w fun e w' => ∃ v, e = .returned v ∧ FreshI w w' v (tchZ zs.length L) := by
  cases L with
  | nil =>
    have CO := Lib.hid (checkOpen_no h)
    clear h
    go_enter Try.func28, Try.ntmps28
    go_wp2_with fail
    refine CO.out.mono ?_
    rintro e w1 ⟨rfl, rfl⟩
    go_wp2
    go_ret
    exact ⟨_, rfl, ⟨rfl, .inl ⟨rfl, rfl⟩⟩, Bel.refl _⟩
  | cons lv L =>
    have CO := Lib.hid (checkOpen_yes h)
    obtain ⟨ls, ⟨cb, cap, nw, v, rs, hx⟩, hd⟩ := h
    cases ls with
    | nil => exact hd.elim
    | cons t ls =>
    cases rs with
    | nil => exact hx.stk.elim
    | cons r rs =>
    obtain ⟨m, mb⟩ := r
    obtain ⟨g, cp, rfl, hcp, k0, k1, kf0, kf1, hgw⟩ := hx.lev.top
    have hlen : rs.length = ls.length := RStack.len ls hx.stk.2.2.2
    have hdp := hx.deep
    simp only [List.length_cons] at hdp
    have c3 := hx.c3
    have hm := hx.most
    have TM := Lib.hid (hx.stk.2.1.congr (t' := lv.2) hd.2.1)
    have TMD := Lib.hid (TM.out.keep (S := fun _ => False) (Kep.of_bel ((Bel.refl w).drew)) id)
    have KEEP := Lib.hid (show ∀ W, Bel w W → W.cell? ⟨pj, 3, none⟩ = some (.slice (some ⟨g, 0, none⟩) (rs.length + 1) cp) ∧ W.cell? ⟨g, rs.length * 2 + 1, none⟩ = some (.map (some mb)) ∧ Bel w W from fun W hW => ⟨cell_bel c3 hW, cell_bel k1 hW, hW⟩)
    have SC := Lib.hid (sortedC mb zs.length lv.2 w.drew TMD.out hm)
    have KC := Lib.hid (keysC mb w.drew)
    have hk : rs.length ≤ 64 := by omega
    clear hx hd k0 kf0 kf1 hlen hdp
    generalize rs.length = k at *
    have hk2 : (k : Int) ≤ 64 := by omega
    have hk0 : (0 : Int) ≤ k := by omega
    have hkk : (k : Int) < (k : Int) + 1 := by omega
    have hwr : IntKind.i64.wrap (k : Int) = k := by rw [IntKind.wrap_i64]; omega
    have hwr2 : IntKind.i64.wrap ((k : Int) + 1 - 1) = k := by rw [IntKind.wrap_i64]; omega
    show Calls _ _ _ _ fun e w' => ∃ v, e = .returned v ∧ FreshI w w' v (namedZ zs.length lv.2)
    go_enter Try.func28, Try.ntmps28
    go_wp2_with fail
    refine CO.out.mono ?_
    rintro e w1 ⟨rfl, rfl⟩
    go_wp2_with fail
    go_still_tail 13, (by kernel_rfl)
    change wpList _ _ _ _ _ w.drew
    go_wp2_with (first
      | (go_at_call 65; refine KC.out.mono ?_; rintro e w2 ⟨rfl, rfl⟩)
      | (go_at_call 64; refine SC.out.mono ?_; rintro e w3 ⟨v, rfl, hv, b3⟩; have HV := Lib.hid (And.intro hv b3); clear hv b3))
    go_ret
    exact ⟨_, rfl, HV.out.1, ((Bel.refl w).drew).trans HV.out.2⟩
end Jn
end Go.Proofs.Ytogphhhlbofgkaa
