/-
  What digits.number answers in this program: the number that at most ten digits are. No condition.
-/
import Derived.Laws.RangeAny
import Derived.Laws.RangeString
import Derived.Lib.SlicesS
import Derived.Lib.Strings
import Derived.Test.YtpohcdfmkcfonaaGreatDoorGPMem
namespace Go.Proofs.YtpohcdfmkcfonaaGreatDoor
open Go.RowKit Go.Shelf
set_option linter.unusedVariables false
namespace Pm
open Kk

def dv10 (a : Int) (l : List UInt8) : Int := l.foldl (fun a c => a * 10 + ((c.toNat : Int) - 48)) a
def dig (c : UInt8) : Bool := decide (48 ≤ c.toNat ∧ c.toNat ≤ 57)
def isNum (l : List UInt8) : Bool := !l.isEmpty && decide (l.length ≤ 10) && !(decide (1 < l.length) && l.head? == some 48) && l.all dig
/-- The number, and whether there is one. -/
def numOf (l : List UInt8) : Int := if isNum l then dv10 0 l else 0
def NumE (d : ByteArray) (w : World) (e : Ending) (w' : World) : Prop := e = .returned (.tuple #[.int .u64 (numOf d.data.toList), .bool (isNum d.data.toList)]) ∧ Bel w w'
theorem dv10_app (a : Int) (l : List UInt8) (c : UInt8) : dv10 a (l ++ [c]) = dv10 a l * 10 + ((c.toNat : Int) - 48) := by
  unfold dv10
  rw [List.foldl_append]
  rfl
def p10 : Nat → Int
  | 0 => 1
  | n + 1 => 10 * p10 n
theorem dv10_g : ∀ (l : List UInt8) (a : Int) (n : Nat), 0 ≤ a → a < p10 n → l.all dig = true → 0 ≤ dv10 a l ∧ dv10 a l < p10 (n + l.length)
  | [], a, n, h0, h1, _ => ⟨h0, h1⟩
  | c :: l, a, n, h0, h1, h => by
    rw [List.all_cons, Bool.and_eq_true] at h
    have hc : 48 ≤ c.toNat ∧ c.toNat ≤ 57 := by simpa [dig] using h.1
    have hp : p10 (n + 1) = 10 * p10 n := rfl
    have := dv10_g l (a * 10 + ((c.toNat : Int) - 48)) (n + 1) (by omega) (by omega) h.2
    rw [show n + 1 + l.length = n + (c :: l).length by simp; omega] at this
    exact this
theorem dv10_b (l : List UInt8) (h : l.all dig = true) : 0 ≤ dv10 0 l ∧ dv10 0 l < p10 l.length := by
  have := dv10_g l 0 0 (Int.le_refl 0) (by decide) h
  rwa [Nat.zero_add] at this
theorem p10_le : ∀ n, n ≤ 10 → p10 n ≤ 10000000000 := by
  intro n hn
  match n, hn with
  | 0, _ => decide
  | 1, _ => decide
  | 2, _ => decide
  | 3, _ => decide
  | 4, _ => decide
  | 5, _ => decide
  | 6, _ => decide
  | 7, _ => decide
  | 8, _ => decide
  | 9, _ => decide
  | 10, _ => decide
  | n + 11, h => omega
theorem take_snoc (d : ByteArray) (k : Nat) (h : k < d.size) : d.data.toList.take (k + 1) = d.data.toList.take k ++ [d[k]] := by
  rw [List.take_succ_eq_append_getElem (by simpa using h)]
  rfl
theorem bel_iter (w : World) (s : ByteArray) (pos : Nat) : Bel w (w.iter s pos) := (Bel.refl w).alloc _
theorem head_eq (d : ByteArray) (h : 0 < d.size) : d.data.toList.head? = some d[0] := by
  rw [List.head?_eq_getElem?, List.getElem?_eq_getElem (by simpa using h)]
  rfl

set_option maxRecDepth 100000 in
set_option maxHeartbeats 2000000 in
theorem number (d : ByteArray) (w : World) : Calls Tryz.prog 57 #[.string d] w (NumE d w) := by
  have hsz := Lib.size_eq d
  by_cases h0 : d.size = 0
  · have HN := Lib.hid (show isNum d.data.toList = false by
      have : d.data.toList = [] := List.length_eq_zero_iff.1 (by omega)
      rw [this]; rfl)
    have HM := Lib.hid (show numOf d.data.toList = 0 by unfold numOf; rw [HN.out]; rfl)
    have hb : d.toList = [] := by
      rw [ByteArray.toList_eq]
      exact List.length_eq_zero_iff.1 (by omega)
    clear hsz
    go_enter Tryz.func57, Tryz.ntmps57
    go_wp2
    go_ret2
    exact ⟨by rw [HN.out, HM.out]; rfl, Bel.refl _⟩
  · have he2 : d.toList.isEmpty = false := by
      rw [ByteArray.toList_eq]
      cases hh : d.data.toList with
      | nil => rw [hh] at hsz; exact absurd hsz h0
      | cons a b => rfl
    have he1 : (d.toList == []) = false := by
      cases hh : d.toList with
      | nil => rw [hh] at he2; cases he2
      | cons a b => rfl
    by_cases h10 : 10 < d.size
    · have HN := Lib.hid (show isNum d.data.toList = false by
        unfold isNum
        rw [show decide (d.data.toList.length ≤ 10) = false by simp; omega]
        simp)
      have HM := Lib.hid (show numOf d.data.toList = 0 by unfold numOf; rw [HN.out]; rfl)
      have hi : (10 : Int) < (d.size : Int) := by omega
      clear hsz
      go_enter Tryz.func57, Tryz.ntmps57
      go_wp2
      go_ret2
      exact ⟨by rw [HN.out, HM.out]; rfl, Bel.refl _⟩
    · have hi : ¬ (10 : Int) < (d.size : Int) := by omega
      have hi2 : ¬ (d.size : Int) > 10 := by omega
      have hp0 : 0 < d.size := by omega
      by_cases hz : 1 < d.size ∧ d[0]'hp0 = 48
      · obtain ⟨z1, z2⟩ := hz
        have HN := Lib.hid (show isNum d.data.toList = false by
          unfold isNum
          rw [head_eq d (by omega), z2, show decide (1 < d.data.toList.length) = true by simp; omega]
          simp)
        have HM := Lib.hid (show numOf d.data.toList = 0 by unfold numOf; rw [HN.out]; rfl)
        have z3 : (1 : Int) < (d.size : Int) := by omega
        have z4 : ((d[0]'hp0).toNat : Int) = 48 := by rw [z2]; rfl
        clear hsz z2
        go_enter Tryz.func57, Tryz.ntmps57
        go_wp2
        go_ret2
        exact ⟨by rw [HN.out, HM.out]; rfl, Bel.refl _⟩
      · have HZ := Lib.hid hz
        have HS := Lib.hid hsz
        have HI := Lib.hid h10
        have ISN := Lib.hid (show isNum d.data.toList = d.data.toList.all dig by
          have e0 : d.data.toList.isEmpty = false := by rw [← ByteArray.toList_eq]; exact he2
          have e1 : decide (d.data.toList.length ≤ 10) = true := by simp; omega
          have e2 : (decide (1 < d.data.toList.length) && d.data.toList.head? == some 48) = false := by
            rw [head_eq d hp0]
            by_cases q : 1 < d.size
            · have : d[0]'hp0 ≠ 48 := fun h => hz ⟨q, h⟩
              simp [this]
            · have : decide (1 < d.data.toList.length) = false := by simp; omega
              rw [this]; rfl
          unfold isNum
          rw [e0, e1, e2]
          rfl)
        by_cases q : 1 < d.size
        · have z4 : ¬ ((d[0]'hp0).toNat : Int) = 48 := fun h => hz ⟨q, UInt8.toNat_inj.1 (by show (d[0]'hp0).toNat = 48; omega)⟩
          have q1 : (1 : Int) < (d.size : Int) := by omega
          clear hz hsz h10
          go_enter Tryz.func57, Tryz.ntmps57
          go_upto_region 3 with fail
          clear z4 q1 hi hi2 he1 he2
          go_wp2_with fail
          go_loopw [2] (fun u2 wr => ∃ pos : Nat, wr = w.iter d pos ∧ pos ≤ d.size ∧ u2 = .int .u64 (dv10 0 (d.data.toList.take pos)) ∧ (d.data.toList.take pos).all dig = true) (fun _ wr => d.size - wr.iterPos w.heap.size)
          case atStart => exact ⟨0, rfl, Nat.zero_le _, rfl, rfl⟩
          case round =>
            obtain ⟨pos, rfl, hpos, rfl, hall⟩ := hrel
            have hb := dv10_b _ hall
            have hp := p10_le pos (by have := HI.out; omega)
            have hl : (d.data.toList.take pos).length = pos := by rw [List.length_take]; have := HS.out; omega
            rw [hl] at hb
            have b0 := hb.1
            have b1 : dv10 0 (d.data.toList.take pos) < 10000000000 := by omega
            have HAL := Lib.hid hall
            clear hb hp hl hall
            by_cases hlt : pos < d.size
            · have hnx : ∀ ty, (Instr.next (.pointer (some ⟨w.heap.size, 0, none⟩)) true ty).run Tryz.prog (w.iter d pos) = _ := fun ty => run_next_any w d pos ty hlt
              have TS := Lib.hid (take_snoc d pos hlt)
              by_cases ha : (d[pos]'hlt).toNat < 128
              · rw [decode_ascii d pos hlt ha] at hnx
                obtain ⟨c, hc⟩ : ∃ c : Nat, (d[pos]'hlt).toNat = c := ⟨_, rfl⟩
                have HC := Lib.hid hc
                rw [hc] at hnx ha
                obtain ⟨v, hv⟩ : ∃ v, dv10 0 (d.data.toList.take pos) = v := ⟨_, rfl⟩
                have HV := Lib.hid hv
                rw [hv] at b0 b1 ⊢
                clear hc hv
                by_cases c1 : 48 ≤ c
                · by_cases c2 : c ≤ 57
                  · have d1 : ¬ (c : Int) < 48 := by omega
                    have d2 : ¬ (57 : Int) < (c : Int) := by omega
                    have d3 : (48 : Int) ≤ (c : Int) := by omega
                    have d4 : (c : Int) ≤ 57 := by omega
                    go_wp2_with fail
                    refine ⟨⟨pos + 1, rfl, by omega, ?_, ?_⟩, ?_⟩
                    · rw [TS.out, dv10_app, HV.out, HC.out]
                    · rw [TS.out, List.all_append, HAL.out]
                      simp [dig, HC.out, c1, c2]
                    · simp; omega
                  · have HN := Lib.hid (show isNum d.data.toList = false by
                      rw [ISN.out, List.all_eq_false]
                      exact ⟨d[pos]'hlt, Array.getElem_mem_toList _, by simp [dig, HC.out]; omega⟩)
                    have HM := Lib.hid (show numOf d.data.toList = 0 by unfold numOf; rw [HN.out]; rfl)
                    have d1 : ¬ (c : Int) < 48 := by omega
                    have d2 : (57 : Int) < (c : Int) := by omega
                    go_wp2_with fail
                    go_ret2
                    exact ⟨by rw [HN.out, HM.out]; rfl, bel_iter _ _ _⟩
                · have HN := Lib.hid (show isNum d.data.toList = false by
                    rw [ISN.out, List.all_eq_false]
                    exact ⟨d[pos]'hlt, Array.getElem_mem_toList _, by simp [dig, HC.out]; omega⟩)
                  have HM := Lib.hid (show numOf d.data.toList = 0 by unfold numOf; rw [HN.out]; rfl)
                  have d1 : (c : Int) < 48 := by omega
                  go_wp2_with fail
                  go_ret2
                  exact ⟨by rw [HN.out, HM.out]; rfl, bel_iter _ _ _⟩
              · have hh := (decode_high d pos hlt (by omega)).1
                have HN := Lib.hid (show isNum d.data.toList = false by
                  rw [ISN.out, List.all_eq_false]
                  exact ⟨d[pos]'hlt, Array.getElem_mem_toList _, by simp [dig]; omega⟩)
                have HM := Lib.hid (show numOf d.data.toList = 0 by unfold numOf; rw [HN.out]; rfl)
                obtain ⟨c, hc⟩ : ∃ c : Nat, (Utf8.decode d pos).1 = c := ⟨_, rfl⟩
                rw [hc] at hnx hh
                have d1 : ¬ (c : Int) < 48 := by omega
                have d2 : (57 : Int) < (c : Int) := by omega
                clear hc ha
                go_wp2_with fail
                go_ret2
                exact ⟨by rw [HN.out, HM.out]; rfl, bel_iter _ _ _⟩
            · obtain rfl : pos = d.size := by omega
              have hnx : ∀ ty, (Instr.next (.pointer (some ⟨w.heap.size, 0, none⟩)) true ty).run Tryz.prog (w.iter d d.size) = _ := fun ty => run_next_end w d d.size ty hlt
              have ht : d.data.toList.take d.size = d.data.toList := List.take_of_length_le (by have := HS.out; omega)
              have HT := Lib.hid ht
              clear ht
              go_wp2_with fail
              go_ret2
              refine ⟨?_, bel_iter _ _ _⟩
              have h2 := HAL.out
              rw [HT.out] at h2 ⊢
              unfold numOf
              rw [ISN.out, h2, if_pos rfl]
              rfl
        · have q1 : ¬ (1 : Int) < (d.size : Int) := by omega
          have q2 : (d.size : Int) = 1 := by omega
          clear hz hsz h10
          go_enter Tryz.func57, Tryz.ntmps57
          go_upto_region 3 with fail
          clear q1 q2 hi hi2 he1 he2
          go_wp2_with fail
          go_loopw [2] (fun u2 wr => ∃ pos : Nat, wr = w.iter d pos ∧ pos ≤ d.size ∧ u2 = .int .u64 (dv10 0 (d.data.toList.take pos)) ∧ (d.data.toList.take pos).all dig = true) (fun _ wr => d.size - wr.iterPos w.heap.size)
          case atStart => exact ⟨0, rfl, Nat.zero_le _, rfl, rfl⟩
          case round =>
            obtain ⟨pos, rfl, hpos, rfl, hall⟩ := hrel
            have hb := dv10_b _ hall
            have hp := p10_le pos (by have := HI.out; omega)
            have hl : (d.data.toList.take pos).length = pos := by rw [List.length_take]; have := HS.out; omega
            rw [hl] at hb
            have b0 := hb.1
            have b1 : dv10 0 (d.data.toList.take pos) < 10000000000 := by omega
            have HAL := Lib.hid hall
            clear hb hp hl hall
            by_cases hlt : pos < d.size
            · have hnx : ∀ ty, (Instr.next (.pointer (some ⟨w.heap.size, 0, none⟩)) true ty).run Tryz.prog (w.iter d pos) = _ := fun ty => run_next_any w d pos ty hlt
              have TS := Lib.hid (take_snoc d pos hlt)
              by_cases ha : (d[pos]'hlt).toNat < 128
              · rw [decode_ascii d pos hlt ha] at hnx
                obtain ⟨c, hc⟩ : ∃ c : Nat, (d[pos]'hlt).toNat = c := ⟨_, rfl⟩
                have HC := Lib.hid hc
                rw [hc] at hnx ha
                obtain ⟨v, hv⟩ : ∃ v, dv10 0 (d.data.toList.take pos) = v := ⟨_, rfl⟩
                have HV := Lib.hid hv
                rw [hv] at b0 b1 ⊢
                clear hc hv
                by_cases c1 : 48 ≤ c
                · by_cases c2 : c ≤ 57
                  · have d1 : ¬ (c : Int) < 48 := by omega
                    have d2 : ¬ (57 : Int) < (c : Int) := by omega
                    have d3 : (48 : Int) ≤ (c : Int) := by omega
                    have d4 : (c : Int) ≤ 57 := by omega
                    go_wp2_with fail
                    refine ⟨⟨pos + 1, rfl, by omega, ?_, ?_⟩, ?_⟩
                    · rw [TS.out, dv10_app, HV.out, HC.out]
                    · rw [TS.out, List.all_append, HAL.out]
                      simp [dig, HC.out, c1, c2]
                    · simp; omega
                  · have HN := Lib.hid (show isNum d.data.toList = false by
                      rw [ISN.out, List.all_eq_false]
                      exact ⟨d[pos]'hlt, Array.getElem_mem_toList _, by simp [dig, HC.out]; omega⟩)
                    have HM := Lib.hid (show numOf d.data.toList = 0 by unfold numOf; rw [HN.out]; rfl)
                    have d1 : ¬ (c : Int) < 48 := by omega
                    have d2 : (57 : Int) < (c : Int) := by omega
                    go_wp2_with fail
                    go_ret2
                    exact ⟨by rw [HN.out, HM.out]; rfl, bel_iter _ _ _⟩
                · have HN := Lib.hid (show isNum d.data.toList = false by
                    rw [ISN.out, List.all_eq_false]
                    exact ⟨d[pos]'hlt, Array.getElem_mem_toList _, by simp [dig, HC.out]; omega⟩)
                  have HM := Lib.hid (show numOf d.data.toList = 0 by unfold numOf; rw [HN.out]; rfl)
                  have d1 : (c : Int) < 48 := by omega
                  go_wp2_with fail
                  go_ret2
                  exact ⟨by rw [HN.out, HM.out]; rfl, bel_iter _ _ _⟩
              · have hh := (decode_high d pos hlt (by omega)).1
                have HN := Lib.hid (show isNum d.data.toList = false by
                  rw [ISN.out, List.all_eq_false]
                  exact ⟨d[pos]'hlt, Array.getElem_mem_toList _, by simp [dig]; omega⟩)
                have HM := Lib.hid (show numOf d.data.toList = 0 by unfold numOf; rw [HN.out]; rfl)
                obtain ⟨c, hc⟩ : ∃ c : Nat, (Utf8.decode d pos).1 = c := ⟨_, rfl⟩
                rw [hc] at hnx hh
                have d1 : ¬ (c : Int) < 48 := by omega
                have d2 : (57 : Int) < (c : Int) := by omega
                clear hc ha
                go_wp2_with fail
                go_ret2
                exact ⟨by rw [HN.out, HM.out]; rfl, bel_iter _ _ _⟩
            · obtain rfl : pos = d.size := by omega
              have hnx : ∀ ty, (Instr.next (.pointer (some ⟨w.heap.size, 0, none⟩)) true ty).run Tryz.prog (w.iter d d.size) = _ := fun ty => run_next_end w d d.size ty hlt
              have ht : d.data.toList.take d.size = d.data.toList := List.take_of_length_le (by have := HS.out; omega)
              have HT := Lib.hid ht
              clear ht
              go_wp2_with fail
              go_ret2
              refine ⟨?_, bel_iter _ _ _⟩
              have h2 := HAL.out
              rw [HT.out] at h2 ⊢
              unfold numOf
              rw [ISN.out, h2, if_pos rfl]
              rfl
end Pm
end Go.Proofs.YtpohcdfmkcfonaaGreatDoor
