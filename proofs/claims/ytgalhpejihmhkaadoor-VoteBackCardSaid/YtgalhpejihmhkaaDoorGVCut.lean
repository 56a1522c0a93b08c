/-
  A string of bytes cut short: the first k of n, as a part of the same block.
-/
import Derived.Test.YtgalhpejihmhkaaDoorGVKn
import Derived.Test.YtgalhpejihmhkaaDoorGVRdM
import Derived.Test.YtgalhpejihmhkaaDoorGVSame
namespace Go.Proofs.YtgalhpejihmhkaaDoor
open Go.RowKit Go.Shelf
set_option linter.unusedVariables false
namespace Vt
open Kk

theorem sliceN (g n k c : Nat) (hk : k ≤ n) (hn : n ≤ c) (hc : 0 < c) (W : World) : (Instr.slice 29 (.slice (some ⟨g, 0, none⟩) n c) none (some (.int .i64 k)) none).run Tryd.prog W = .ok (.slice (some ⟨g, 0, none⟩) k c) W := by
  rw [slice_h (some ⟨g, 0, none⟩) n c k W (by omega) (by omega), if_neg (by omega)]
  rfl
theorem srcN (g n c : Nat) (b : Nat) (W : World) (xs ys : List Int) (hn : n = (xs ++ ys).length) (h0 : 0 < n) (hc : n ≤ c) (hm : c ≤ maxLen) (hb : By xs) (h : W.ownsRow b 5 1 (.slice (some ⟨g, 0, none⟩) n c) n ((xs ++ ys).map (Value.int .u8))) : Kk.Src W (some ⟨g, 0, none⟩) xs.length c xs := by
  obtain ⟨A, c', e, hi, _⟩ := ints_of_own h
  injection e with e1 e2 e3
  subst e1
  obtain ⟨b', o', e, hlt, hcl⟩ := hi.2 h0
  injection e with e
  injection e with e4 e5
  subst e4
  subst e5
  have hle : xs.length ≤ n := by rw [hn, List.length_append]; omega
  refine ⟨⟨rfl, fun _ => ⟨g, 0, rfl, hlt, fun i hi2 => ?_⟩⟩, by omega, hm, hb⟩
  rw [hcl i (by omega), List.getD_eq_getElem?_getD, List.getD_eq_getElem?_getD, List.getElem?_append_left hi2]
/-- A vote that may be: what its writing gives, and its bounds. -/
theorem att_may (v s t tag : Int) (hs : List Int) (h : errOf (attI v s t hs ++ tagI tag) = 0) : (0 ≤ v ∧ v ≤ 31) ∧ (0 ≤ s ∧ s ≤ 4294967296) ∧ (0 ≤ t ∧ t ≤ 4294967296) ∧ chkE v s t = 0 := by
  have hc : chkE v s t = 0 := by
    simp only [attI, tagI, List.cons_append, errOf] at h
    by_cases hx : chkE v s t = 0
    · exact hx
    · rw [if_pos hx] at h
      exact absurd h hx
  have hk : ([(v, 0, 31), (s, 0, 4294967296), (t, 0, 4294967296)] : List (Int × Int × Int)).all okB = true := by
    by_cases hn : ([(v, 0, 31), (s, 0, 4294967296), (t, 0, 4294967296)] : List (Int × Int × Int)).all okB = true
    · exact hn
    · unfold chkE wthE at hc
      rw [if_neg hn] at hc
      exact absurd hc (by decide)
  simp [okB] at hk
  refine ⟨?_, ?_, ?_, hc⟩ <;> omega
theorem att_err (v s t tag : Int) (hs : List Int) : errOf (attI v s t hs ++ tagI tag) = chkE v s t := by
  simp only [attI, tagI, List.cons_append, List.nil_append, errOf]
  by_cases hx : chkE v s t = 0 <;> simp [hx]
theorem att_err' (v s t : Int) (hs : List Int) : errOf (attI v s t hs) = chkE v s t := by
  simp only [errOf]
  by_cases hx : chkE v s t = 0 <;> simp [hx]
theorem att_bytes (v s t tag : Int) (hs : List Int) : bytesOf (attI v s t hs ++ tagI tag) = Cd.enc 1 ++ Cd.enc v ++ Cd.enc s ++ Cd.enc t ++ hs ++ Cd.enc tag := by
  simp [bytesOf, attI, tagI]
theorem att_bytes' (v s t : Int) (hs : List Int) : bytesOf (attI v s t hs) = Cd.enc 1 ++ Cd.enc v ++ Cd.enc s ++ Cd.enc t ++ hs := by
  simp [bytesOf, attI]
theorem prop_may (v s tag : Int) (hs : List Int) (h : errOf (propI v s hs ++ tagI tag) = 0) : (0 ≤ v ∧ v ≤ 31) ∧ (1 ≤ s ∧ s ≤ 4294967296) ∧ chkBE v s = 0 := by
  have hc : chkBE v s = 0 := by
    simp only [propI, tagI, List.cons_append, errOf] at h
    by_cases hx : chkBE v s = 0
    · exact hx
    · rw [if_pos hx] at h
      exact absurd h hx
  have hk : ([(v, 0, 31), (s, 1, 4294967296)] : List (Int × Int × Int)).all okB = true := by
    by_cases hn : ([(v, 0, 31), (s, 1, 4294967296)] : List (Int × Int × Int)).all okB = true
    · exact hn
    · unfold chkBE wthE at hc
      rw [if_neg hn] at hc
      exact absurd hc (by decide)
  simp [okB] at hk
  refine ⟨?_, ?_, hc⟩ <;> omega
theorem prop_err (v s tag : Int) (hs : List Int) : errOf (propI v s hs ++ tagI tag) = chkBE v s := by
  simp only [propI, tagI, List.cons_append, List.nil_append, errOf]
  by_cases hx : chkBE v s = 0 <;> simp [hx]
theorem prop_err' (v s : Int) (hs : List Int) : errOf (propI v s hs) = chkBE v s := by
  simp only [errOf]
  by_cases hx : chkBE v s = 0 <;> simp [hx]
theorem prop_bytes (v s tag : Int) (hs : List Int) : bytesOf (propI v s hs ++ tagI tag) = Cd.enc 2 ++ Cd.enc v ++ Cd.enc s ++ hs ++ Cd.enc tag := by
  simp [bytesOf, propI, tagI]
theorem prop_bytes' (v s : Int) (hs : List Int) : bytesOf (propI v s hs) = Cd.enc 2 ++ Cd.enc v ++ Cd.enc s ++ hs := by
  simp [bytesOf, propI]
end Vt
end Go.Proofs.YtgalhpejihmhkaaDoor
