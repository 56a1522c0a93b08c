/-
  What a law's argument that is a slice of slices of bytes, as it comes in, tells a walk. Condition: no slice takes more room than the form's reach.
-/
import Derived.Deep.Slices
import Derived.Test.YtgalhpejihmhkaaDoorGL
import Derived.Test.YtgalhpejihmhkaaDoorGKLst
namespace Go.Proofs.YtgalhpejihmhkaaDoor
open Go.ChangeShapes Go.WideShapes Go.ChangeAt Go.RowKit
set_option linter.unusedVariables false

theorem sl_in {H : Type} {enc : TypeId × Value → H} {W : World} {t e : TypeId} {A : Option Addr} {len cap : Nat} {d : DataW H} {p : List MemPlace} {fuel : Nat}
    (ht : Tryd.prog.underlying t = some (.slice e)) (he : Tryd.prog.underlying e = some (.int .u8)) (hc : Tryd.prog.cellsOf e = 1)
    (hf : DataW.trod enc Tryd.prog W 0 (fun _ => true) true fuel t (Value.slice A len cap).cells.toList = some (d, p)) :
    ∃ zs, Kk.Sl W A len cap zs ∧ Kk.By zs ∧ cap ≤ maxLen := by
  rcases open_ints ht he hc hf with ⟨hcs, _⟩ | ⟨x, l, c, zs, hcs, _, hl, hm, hz, _, hcell, hwz⟩
  · simp [Value.cells] at hcs
    obtain ⟨rfl, rfl, rfl⟩ := hcs
    exact ⟨[], ⟨Kk.Ints.nil_, Nat.le_refl _, fun _ => rfl⟩, fun z hz => by simp at hz, by simp [maxLen]⟩
  · simp [Value.cells] at hcs
    obtain ⟨rfl, rfl, rfl⟩ := hcs
    have hz' : zs.length = cap := by simpa using hz
    refine ⟨zs.take len, ⟨⟨by rw [List.length_take]; omega, fun hn => ?_⟩, hl, fun h => by cases h⟩, fun z h => u8_of_wf (hwz z (List.mem_of_mem_take h)), hm⟩
    obtain ⟨b, o, s⟩ := x
    have h0 := hcell 0 (by omega)
    have hs : s = none := by simpa [Addr.add] using World.cell?_spot h0
    subst hs
    refine ⟨b, o, rfl, World.block_lt_of_cell? W ⟨b, o, none⟩ (by simpa [Addr.add] using h0), fun i hi => ?_⟩
    have h1 := hcell i (by omega)
    have h2 : (zs.take len).getD i 0 = zs.getD i 0 := by simp [List.getD_eq_getElem?_getD, hi]
    rw [h2, ← h1]
    unfold Addr.add
    by_cases hi0 : i = 0
    · subst hi0; simp
    · simp [hi0]

theorem weightsAll_mem {H : Type} {P : Program} {e : TypeId} {q : Nat → Bool} : ∀ {l : List (DataW H)} {d : DataW H}, (DataW.weightsAll P e l).all q = true → d ∈ l → (d.weights P e).all q = true
  | [], _, _, h => by cases h
  | x :: r, d, ha, h => by
    rw [DataW.weightsAll, List.all_append, Bool.and_eq_true] at ha
    rcases List.mem_cons.1 h with rfl | h
    · exact ha.1
    · exact weightsAll_mem ha.2 h
/-- A slice takes its room. -/
theorem room_of {H : Type} {enc : TypeId × Value → H} {W : World} {t e : TypeId} {A : Option Addr} {len cap : Nat} {d : DataW H} {p : List MemPlace} {fuel : Nat} {B : Nat} (ht : Tryd.prog.underlying t = some (.slice e)) (hB : 1 ≤ Tryd.prog.bytesOf e)
    (hf : DataW.trod enc Tryd.prog W 0 (fun _ => true) true fuel t (Value.slice A len cap).cells.toList = some (d, p)) (hw : (d.weights Tryd.prog t).all (· ≤ B) = true) : len ≤ B := by
  rcases DataW.trod_slice ht hf with ⟨hcs, _⟩ | ⟨a, l, c, elems, rest, n, _, hcs, hx, _, hle, hcap, hel, hi, _⟩
  · simp [Value.cells] at hcs
    omega
  · simp [Value.cells] at hcs
    obtain ⟨_, rfl, rfl⟩ := hcs
    have hd : d = .slice (elems.map (·.1)) (rest.map (·.1)) := congrArg Prod.fst hx
    rw [hd, DataW.weights, ht] at hw
    simp only [List.all_cons, Bool.and_eq_true, decide_eq_true_eq, List.length_map] at hw
    have h1 := hw.1
    have h2 : (elems.length + rest.length) * 1 ≤ (elems.length + rest.length) * Tryd.prog.bytesOf e := Nat.mul_le_mul_left _ hB
    omega

set_option maxRecDepth 20000 in
theorem lists_in {H : Type} {enc : TypeId × Value → H} {W : World} {A : Option Addr} {len cap : Nat} {d : DataW H} {p : List MemPlace} {fuel : Nat}
    (hf : DataW.trod enc Tryd.prog W 0 (fun _ => true) true fuel 130 (Value.slice A len cap).cells.toList = some (d, p)) (hw : (d.weights Tryd.prog 130).all (· ≤ reachBytes) = true) :
    ∃ zss, Kk.Lst W A len zss ∧ len ≤ 140737488355328 := by
  have e1 : Tryd.prog.cellsOf 29 = 1 := by kernel_rfl
  have e2 : Tryd.prog.cellsOf 5 = 1 := by kernel_rfl
  have hlen := room_of Tryd.underlying130 (by decide +kernel) hf hw
  have hlen2 : len ≤ 140737488355328 := Nat.le_trans hlen (by decide)
  rcases DataW.trod_slice Tryd.underlying130 hf with ⟨hcs, _⟩ | ⟨a, l, c, elems, rest, n, _, hcs, hx, _, hle, hcap, hel, hi, _⟩
  · simp [Value.cells] at hcs
    obtain ⟨rfl, rfl, rfl⟩ := hcs
    exact ⟨[], ⟨rfl, fun h => absurd h (by omega)⟩, hlen2⟩
  · simp [Value.cells] at hcs
    obtain ⟨rfl, rfl, rfl⟩ := hcs
    have hd : d = .slice (elems.map (·.1)) (rest.map (·.1)) := congrArg Prod.fst hx
    rw [hd, DataW.weights, Tryd.underlying130] at hw
    simp only [List.all_cons, Bool.and_eq_true, List.all_append] at hw
    have key : ∀ i, i < len → ∃ P m k zs, W.cell? (a.add i) = some (.slice P m k) ∧ Kk.One W P m k zs := fun i hil => by
      have h := hi i hil
      rw [e1, Nat.mul_one, List.getElem?_eq_getElem (by omega)] at h
      obtain ⟨cs', hc, ht⟩ := Option.bind_eq_some_iff.1 h
      obtain ⟨_, hcl, hat⟩ := World.cells?_some hc
      have hwi := weightsAll_mem hw.2.1 (List.mem_map.2 ⟨_, List.getElem_mem (show i < elems.length by omega), rfl⟩)
      obtain ⟨v, rfl⟩ : ∃ v, cs' = [v] := List.length_eq_one_iff.1 hcl
      have hv : W.cell? (a.add i) = some v := by
        have := hat 0 (by decide)
        rw [Go.Deep.add_add] at this
        simpa using this
      obtain ⟨P, m, k, rfl⟩ : ∃ P m k, v = .slice P m k := by
        rcases DataW.trod_slice Tryd.underlying29 ht with ⟨h1, _⟩ | ⟨a', l', c', _, _, _, _, h1, _⟩
        · injection h1 with h1; exact ⟨_, _, _, h1⟩
        · injection h1 with h1; exact ⟨_, _, _, h1⟩
      have ht' : DataW.trod enc Tryd.prog W 0 (fun _ => true) true n 29 (Value.slice P m k).cells.toList = some (elems[i].1, elems[i].2) := by simpa [Value.cells] using ht
      obtain ⟨zs, h1, h2, h3⟩ := sl_in Tryd.underlying29 Tryd.underlying5 e2 ht'
      have h4 := room_of Tryd.underlying29 (by decide +kernel) ht' hwi
      exact ⟨P, m, k, zs, hv, h1, h2, Nat.le_trans h4 (by decide), h3⟩
    rcases Nat.eq_zero_or_pos len with h0 | hn
    · subst h0
      exact ⟨[], ⟨rfl, fun h => absurd h (by omega)⟩, hlen2⟩
    obtain ⟨b, o, s⟩ := a
    obtain ⟨P0, m0, k0, z0, hc0, _⟩ := key 0 hn
    have hs : s = none := by simpa [Addr.add] using World.cell?_spot hc0
    subst hs
    have key2 : ∀ i, ∃ zs : List Int, i < len → ∃ P m k, W.cell? ⟨b, o + i, none⟩ = some (.slice P m k) ∧ Kk.One W P m k zs := fun i => by
      by_cases h : i < len
      · obtain ⟨P, m, k, zs, h1, h2⟩ := key i h
        refine ⟨zs, fun _ => ⟨P, m, k, ?_, h2⟩⟩
        rw [← h1]
        unfold Addr.add
        by_cases hi0 : i = 0
        · subst hi0; simp
        · simp [hi0]
      · exact ⟨[], fun h' => absurd h' h⟩
    obtain ⟨f, hf2⟩ := Classical.axiomOfChoice key2
    refine ⟨(List.range len).map f, ⟨by simp, fun _ => ⟨b, o, rfl, World.block_lt_of_cell? W ⟨b, o, none⟩ (by simpa [Addr.add] using hc0), fun i hil => ?_⟩⟩, hlen2⟩
    obtain ⟨P, m, k, h1, h2⟩ := hf2 i hil
    refine ⟨P, m, k, h1, ?_⟩
    rw [show ((List.range len).map f).getD i [] = f i by rw [List.getD_eq_getElem?_getD, List.getElem?_map, List.getElem?_range hil]; rfl]
    exact h2
end Go.Proofs.YtgalhpejihmhkaaDoor
