/-
  What arguments that are hashes, states and texts, as they come in, tell a walk. No condition.
-/
import Derived.Test.YtaniijpppmipbaaDoorKLift
import Derived.ChangeMaps5
namespace Go.Proofs.YtaniijpppmipbaaDoor
open Go.ChangeShapes Go.WideShapes Go.ChangeAt Go.RowKit
set_option linter.unusedVariables false

theorem u8_of_wf {x : Int} (h : (Lit.int .u8 x).wf = true) : 0 ≤ x ∧ x ≤ 255 := by
  simp [Lit.wf, IntKind.min, IntKind.max, IntKind.signed, IntKind.bits] at h
  exact ⟨by omega, by omega⟩
theorem u64_of_wf {x : Int} (h : (Lit.int .u64 x).wf = true) : 0 ≤ x ∧ x ≤ 18446744073709551615 := by
  simp [Lit.wf, IntKind.min, IntKind.max, IntKind.signed, IntKind.bits] at h
  exact ⟨by omega, by omega⟩
theorem take_one {l : List Value} {o : Nat} {v : Value} (h : (l.drop o).take 1 = [v]) : l[o]? = some v := by
  have : ((l.drop o).take 1)[0]? = some v := by rw [h]; rfl
  simpa [List.getElem?_take, List.getElem?_drop] using this
theorem ints_map {q : IntKind} : ∀ (L : List Value), (∀ v ∈ L, ∃ z, v = Value.int q z ∧ (Lit.int q z).wf = true) → ∃ hs : List Int, L = hs.map (Value.int q) ∧ ∀ z ∈ hs, (Lit.int q z).wf = true
  | [], _ => ⟨[], rfl, fun z h => by cases h⟩
  | v :: L, h => by
    obtain ⟨z, rfl, hz⟩ := h v (List.mem_cons_self ..)
    obtain ⟨hs, rfl, hw⟩ := ints_map L (fun v hv => h v (List.mem_cons_of_mem _ hv))
    exact ⟨z :: hs, rfl, fun y hy => by
      rcases List.mem_cons.1 hy with rfl | hy
      · exact hz
      · exact hw y hy⟩
theorem okWide_arr {P : Program} {w : World} {r : Reach} {b0 n : Nat} {t e : TypeId} {v : Value} (ht : P.underlying t = some (.array n e)) (h : Value.okWide P w r b0 t v) : ∃ cs, v = .agg cs := by
  simp only [Value.okWide, ht] at h
  obtain ⟨cs, h1, _⟩ := h
  exact ⟨cs, h1⟩
theorem arr_in {H : Type} {enc : TypeId × Value → H} {W : World} {r : Reach} {b0 n : Nat} {t e : TypeId} {q : IntKind} {v : Value} {d : DataW H} {p : List MemPlace}
    (ht : Tryd.prog.underlying t = some (.array n e)) (he : Tryd.prog.underlying e = some (.int q)) (hc : Tryd.prog.cellsOf e = 1) (hn : Tryd.prog.cellsOf t = n)
    (hv : Value.okWide Tryd.prog W r b0 t v) (h : DataW.Trod enc Tryd.prog W 0 (fun _ => true) true t v d p) :
    ∃ zs : List Int, v = .agg (zs.map (Value.int q)).toArray ∧ zs.length = n ∧ ∀ z ∈ zs, (Lit.int q z).wf = true := by
  obtain ⟨cs, rfl⟩ := okWide_arr ht hv
  obtain ⟨fuel, hf⟩ := h
  have hf : DataW.trod enc Tryd.prog W 0 (fun _ => true) true fuel t cs.toList = some (d, p) := hf
  obtain ⟨xs, m, _, _, hl, hxs, hi⟩ := DataW.trod_array ht hf
  rw [hn] at hl
  obtain ⟨zs, hz, hw⟩ := ints_map (q := q) cs.toList (fun v hv => by
    obtain ⟨i, hi2, rfl⟩ := List.getElem_of_mem hv
    have h7 := hi i (by omega)
    rw [hc, Nat.mul_one, List.getElem?_eq_getElem (by omega)] at h7
    obtain ⟨z, hz, _, hw⟩ := DataW.trod_int he h7
    have := take_one hz
    rw [List.getElem?_eq_getElem hi2] at this
    exact ⟨z, Option.some.inj this, hw⟩)
  refine ⟨zs, by rw [← hz], ?_, hw⟩
  have := congrArg List.length hz
  rw [List.length_map] at this
  omega
theorem hash_in {H : Type} {enc : TypeId × Value → H} {W : World} {r : Reach} {b0 : Nat} {v : Value} {d : DataW H} {p : List MemPlace} (hv : Value.okWide Tryd.prog W r b0 31 v) (h : DataW.Trod enc Tryd.prog W 0 (fun _ => true) true 31 v d p) :
    ∃ z : List Int, v = Kk.hsV z ∧ (z.length = 32 ∧ Kk.By z) := by
  obtain ⟨z, rfl, h1, h2⟩ := arr_in Tryd.underlying31 Tryd.underlying5 (by kernel_rfl) (by kernel_rfl) hv h
  exact ⟨z, rfl, h1, fun x hx => u8_of_wf (h2 x hx)⟩
theorem state_in {H : Type} {enc : TypeId × Value → H} {W : World} {r : Reach} {b0 : Nat} {v : Value} {d : DataW H} {p : List MemPlace} (hv : Value.okWide Tryd.prog W r b0 25 v) (h : DataW.Trod enc Tryd.prog W 0 (fun _ => true) true 25 v d p) :
    ∃ K : List Kk.Wd, v = .agg (K.map Kk.V).toArray ∧ K.length = 25 := by
  obtain ⟨z, rfl, h1, h2⟩ := arr_in Tryd.underlying25 Tryd.underlying24 (by kernel_rfl) (by kernel_rfl) hv h
  refine ⟨z.map (BitVec.ofInt 64), ?_, by rw [List.length_map, h1]⟩
  rw [List.map_map]
  congr 2
  apply List.map_congr_left
  intro x hx
  obtain ⟨a, b⟩ := u64_of_wf (h2 x hx)
  show Value.int .u64 x = Value.int .u64 (Kk.U (BitVec.ofInt 64 x))
  rw [Kk.U_ofInt a b]
theorem open_string {H : Type} {enc : TypeId × Value → H} {P : Program} {w : World} {base b0 : Nat} {sp : Nat → Bool} {held : Bool} {r : Reach} {t : TypeId} {v : Value} {d : DataW H} {ps : List MemPlace} (ht : P.underlying t = some .string) (hval : Value.okWide P w r b0 t v) (hd : DataW.Trod enc P w base sp held t v d ps) :
    ∃ s : ByteArray, v = .string s ∧ d = .lit (.string s.data.toList) ∧ ps = [] ∧ s.size ≤ maxLen := Go.ChangeMaps.open_string ht hval hd
theorem shut_string {H : Type} {enc : TypeId × Value → H} {P : Program} {w : World} {base : Nat} {sp : Nat → Bool} {held : Bool} {t : TypeId} {s : ByteArray} (ht : P.underlying t = some .string) (hs : s.size ≤ maxLen) : DataW.Trod enc P w base sp held t (.string s) (.lit (.string s.data.toList)) [] := Go.ChangeMaps.shut_string ht hs
end Go.Proofs.YtaniijpppmipbaaDoor
