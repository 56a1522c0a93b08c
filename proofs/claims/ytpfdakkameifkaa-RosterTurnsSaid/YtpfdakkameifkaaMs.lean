/-
  A map that the call has made and counts in (m[k]++): an entry is found or made, then stored into. No condition but that the key is one.
-/
import Derived.Test.YtpfdakkameifkaaPMem
import Derived.Maps.OwnOps
import Derived.Maps.Views
import Derived.Maps.OwnSet
import Derived.WideKeyEntry
import Derived.DeepKeys4
namespace Go.Proofs.Ytpfdakkameifkaa
open Go.RowKit Go.Shelf
set_option linter.unusedVariables false
namespace Ms
open Go.Maps Go.WideElems Go.WideMaps Go.ChangeMaps Kk Pm

theorem arr_twice {α : Type} (a : Array α) (b : Nat) (x y : α) : (a.setIfInBounds b x).setIfInBounds b y = a.setIfInBounds b y := by
  apply Array.ext (by simp)
  intro i h1 h2
  rw [Array.getElem_setIfInBounds (by simpa using h1), Array.getElem_setIfInBounds (by simpa using h1)]
  rw [Array.getElem_setIfInBounds (by simpa using h1)]
  split <;> rfl
theorem setBlock_twice (w : World) (b : Nat) (x y : Obj) : setBlock (setBlock w b x) b y = setBlock w b y := by
  unfold setBlock
  rw [arr_twice]
section
variable {H : Type} {P : Program} {w : World} {t k e : TypeId} {R : Value → Option (DataW H × List MemPlace)} {b n : Nat} {D : DataW H}
theorem grown_set {es : Array MapEntry} {clock : Nat} (hb : w.heap[b]? = some (.map es clock)) (o : Obj) : w.grownBy (setBlock w b o) (some b) :=
  ⟨rfl, rfl, rfl, by simp [setBlock], fun i _ hi => heap_setBlock_other hb _ (fun e => hi (by rw [e]))⟩
/-- The two halves of m[k] op= v. -/
theorem own_entry (h : w.ownsMap P k R b n D) (K : KeyLaw P k) (ht : P.underlying t = some (.map k e)) {z : Value} (hz : ∀ u : World, (zeroValue e).run P u = .ok z u) {zd : DataW H} {zp : List MemPlace} (hR : R z = some (zd, zp)) (hn : n < maxLen) {key : Value} {kl : Lit} (hkey : keyOf P k key = some kl) :
    ∃ (v0 : Value) (st : Int) (W1 : World) (D1 : DataW H), (Instr.mapEntry t (.map (some b)) key).run P w = .ok (.tuple #[v0, .int .i64 st]) W1 ∧ w.grownBy W1 (some b) ∧ (W1.ownsMap P k R b (n + 1) D1 ∧ ∀ kl', D1.atKey kl' zd = D.atKey kl' zd) ∧
      ∀ (val : Value) (d : DataW H) (ps : List MemPlace), R val = some (d, ps) → ∃ W2, (Instr.entryStore t (.map (some b)) (.int .i64 st) val).run P W1 = .ok () W2 ∧ W2.ownsMap P k R b (n + 1) (D.put kl d) ∧ w.grownBy W2 (some b) := by
  have h0 := h
  obtain ⟨es, clock, hb, F, hs, rfl⟩ := h
  obtain ⟨v0, st, es1, clock1, h1, _, h2⟩ := entry_then_store K ht hz hb F hkey
  have hD1 : ∃ D1, (setBlock w b (.map es1 clock1)).ownsMap P k R b (n + 1) D1 ∧ ∀ kl', D1.atKey kl' zd = (DataW.map ((es.toList.map (rg P k R)).foldr DataW.insert [])).atKey kl' zd := by
    rcases K.find w hkey es.toList F.keys with ⟨f1, f2⟩ | ⟨j, e0, f1, f2, f3⟩
    · have h1' : (Instr.mapEntry t (.map (some b)) key).run P w = .ok (.tuple #[z, goInt clock]) (setBlock w b (.map (es.push ⟨key, z, clock⟩) (clock + 1))) := by
        simp [Instr.mapEntry, run_underlying ht, MapKept.run_getObj_map hb, K.check w false hkey, f1, hz, MapKept.run_setObj_map _ hb, Result.andThen, setBlock]
      have hu : (Instr.mapUpdate t (.map (some b)) key z).run P w = .ok () (setBlock w b (.map (es.push ⟨key, z, clock⟩) (clock + 1))) := by
        simp [Instr.mapUpdate, run_underlying ht, MapKept.run_getObj_map hb, K.check w false hkey, f1, MapKept.run_setObj_map _ hb, Result.andThen, setBlock]
      obtain ⟨w', h5, h6, h7⟩ := h0.update (Keyed.of_law K) ht hn hkey hR
      rw [hu] at h5
      injection h5 with _ h5
      rw [h1] at h1'
      injection h1' with _ h1'
      refine ⟨(DataW.map ((es.toList.map (rg P k R)).foldr DataW.insert [])).put kl zd, ?_, fun kl' => ?_⟩
      · rw [h1', h5]; exact h6
      · by_cases hk : kl' = kl
        · subst hk
          rw [atKey_put_same ⟨_, rfl⟩ ((Keyed.of_law K).key hkey)]
          rcases Maps.fit_look false (Keyed.of_law K) ht (hz w) hb F hkey with ⟨_, _, hat⟩ | ⟨e0, y, q1, q2, _⟩
          · exact (hat zd).symm
          · exact absurd q2 (f2 e0 q1)
        · rw [atKey_put_other hk]
    · have hj : es[j]? = some e0 := by simpa using f2
      have hsame : es.modify j (fun e => { e with key := key }) = es := by
        apply Array.ext'
        rw [Array.toList_modify, modify_eq_set _ _ _ _ f2]
        have : ({ e0 with key := key } : MapEntry) = e0 := by rw [← f3]
        rw [this]
        exact set_self _ _ _ f2
      have h1' : (Instr.mapEntry t (.map (some b)) key).run P w = .ok (.tuple #[e0.val, goInt e0.born]) (setBlock w b (.map es clock)) := by
        simp [Instr.mapEntry, run_underlying ht, MapKept.run_getObj_map hb, K.check w false hkey, f1, hj, f3, K.stays w hkey, hsame, MapKept.run_setObj_map _ hb, Result.andThen, setBlock]
      rw [h1] at h1'
      injection h1' with _ h1'
      rw [h1']
      exact ⟨DataW.map ((es.toList.map (rg P k R)).foldr DataW.insert []), ⟨es, clock, heap_setBlock_same hb _, F, by omega, rfl⟩, fun kl' => rfl⟩
  obtain ⟨D1, q1, q2⟩ := hD1
  refine ⟨v0, st, setBlock w b (.map es1 clock1), D1, h1, grown_set hb _, ⟨q1, q2⟩, fun val d ps hv => ?_⟩
  obtain ⟨es', clock', h3, h4⟩ := h2 (setBlock w b (.map es1 clock1)) val (heap_setBlock_same hb _)
  obtain ⟨w', h5, h6, h7⟩ := h0.update (Keyed.of_law K) ht hn hkey hv
  rw [h4] at h5
  injection h5 with _ h5
  subst h5
  refine ⟨_, h3, ?_, ?_⟩
  · rw [setBlock_twice]; exact h6
  · rw [setBlock_twice]; exact h7
end
theorem kep_grown {w w' : World} {b : Nat} (h : w.grownBy w' (some b)) : Kep (fun i => i = b) w w' :=
  ⟨h.os, h.tape, h.output, h.size, fun i hi hb => h.block i hi (fun e => hb (by injection e))⟩
end Ms
end Go.Proofs.Ytpfdakkameifkaa
