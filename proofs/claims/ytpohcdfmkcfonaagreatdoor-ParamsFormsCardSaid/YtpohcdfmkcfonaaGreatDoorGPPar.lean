/-
  What field.parse answers of a line, and what it lays into the record. Condition: the line has less than 2^63 bytes.
-/
import Derived.Test.YtpohcdfmkcfonaaGreatDoorPA
import Derived.Test.YtpohcdfmkcfonaaGreatDoorGPNum
import Derived.Test.YtpohcdfmkcfonaaGreatDoorGShelf
namespace Go.Proofs.YtpohcdfmkcfonaaGreatDoor
open Go.RowKit Go.Shelf
set_option linter.unusedVariables false
namespace Pm
open Kk

/-- A field's name and a blank. -/
def hd (i : Nat) : List UInt8 := (nm i ++ ⟨#[32]⟩ : ByteArray).data.toList
/-- The number in a line without its line feed. -/
def lnB (i : Nat) (b : List UInt8) : Option Int := if Lib.hasPrefix b (hd i) = true ∧ isNum (b.drop (hd i).length) = true then some (numOf (b.drop (hd i).length)) else none
/-- Why a line is no field's, or 0. -/
def lnA (i : Nat) (l : List UInt8) : Int := if Lib.hasSuffix l [10] = true then (match lnB i (l.take (l.length - 1)) with | none => 5 | some n => if okB (lo i) (hi i) n = true then 0 else 3) else 6
def lnN (i : Nat) (l : List UInt8) : Int := (lnB i (l.take (l.length - 1))).getD 0
/-- The record behind a line. -/
def lnX (x : Nat → Int) (i : Nat) (l : List UInt8) : Nat → Int := if lnA i l = 0 then upd x i (lnN i l) else x
theorem numOf_b (l : List UInt8) : 0 ≤ numOf l ∧ numOf l < 10000000000 := by
  unfold numOf
  by_cases h : isNum l = true
  · rw [if_pos h]
    unfold isNum at h
    simp only [Bool.and_eq_true] at h
    have h1 := dv10_b l h.2
    have h2 : l.length ≤ 10 := by simpa using h.1.1.2
    have h3 := p10_le l.length h2
    omega
  · rw [if_neg h]; omega
theorem lnN_b (i : Nat) (l : List UInt8) : 0 ≤ lnN i l ∧ lnN i l < 10000000000 := by
  unfold lnN lnB
  split
  · exact numOf_b _
  · exact ⟨Int.le_refl 0, by decide⟩
theorem sv_num (i : Nat) (n : Int) (h0 : 0 ≤ n) (h1 : n < 10000000000) : sv i n = n := by
  unfold sv
  split
  · rfl
  · unfold wrap64; omega

theorem nm_len (i : Nat) (hi : i < 11) : (nm i).size ≤ 10 := by
  match i, hi with
  | 0, _ => decide
  | 1, _ => decide
  | 2, _ => decide
  | 3, _ => decide
  | 4, _ => decide
  | 5, _ => decide
  | 6, _ => decide
  | 7, _ => decide
  | 8, _ => decide
  | 9, _ => decide
  | 10, _ => decide
  | n + 11, h => omega
theorem cell_val {w : World} {b i : Nat} {C : Array Value} {t : TypeId} {v : Value} (h : Blk w b C t) (hc : w.cell? ⟨b, i, none⟩ = some v) : C[i]? = some v := by
  rw [cell_of_row w b i C t (0, 0) h] at hc
  exact hc
def ParE (i p : Nat) (x : Nat → Int) (l : ByteArray) (w : World) (e : Ending) (w' : World) : Prop :=
  e = .returned (.int .i64 (lnA i l.data.toList)) ∧ Blk w' p (recC (lnX x i l.data.toList)).toArray 24 ∧ Kep (fun k => k = p) w w'

set_option maxRecDepth 100000 in
set_option maxHeartbeats 4000000 in
theorem parse (i c p : Nat) (x : Nat → Int) (l : ByteArray) (w : World) (hi11 : i < 11) (hl : l.size ≤ 1000000000) (hc : w.cell? ⟨c, 0, none⟩ = some (.pointer (some ⟨p, i, none⟩))) (hr : Blk w p (recC x).toArray 24) :
    Calls Tryz.prog 30 #[.agg (fldC (nm i) (lo i) (hi i) (gf i) (sf i) c).toArray, .string l] w (ParE i p x l w) := by
  obtain ⟨Y, hY⟩ : ∃ Y, Y = fldC (nm i) (lo i) (hi i) (gf i) (sf i) c := ⟨_, rfl⟩
  obtain ⟨W, hW⟩ : ∃ W, w.alloc (.cells Y.toArray 55) = W := ⟨_, rfl⟩
  obtain ⟨f, hf⟩ : ∃ f, w.heap.size = f := ⟨_, rfl⟩
  have B0 := Lib.hid (show Bel w W by rw [← hW]; exact (Bel.refl w).alloc _)
  have KF := Lib.hid (show Blk W f Y.toArray 55 by rw [← hW, ← hf]; exact Blk.new w _ _)
  have KP := Lib.hid (show Blk W p (recC x).toArray 24 from hr.bel B0.out)
  have C0 := Lib.hid (cell_bel hc B0.out)
  have HYl := Lib.hid (show Y.length = 5 by rw [hY]; rfl)
  have YI := Lib.hid (show (Tryz.prog.info? 55).map (·.size) = some Y.length by rw [HYl.out]; exact info_fld)
  have CS := Lib.hid (Tryz.strings_CutSuffix l ⟨#[10]⟩ W (by omega))
  have hcell0 := KF.out.cell 0 (v := .string (nm i)) (by rw [hY]; rfl)
  have hcell4 := KF.out.cell 4 (v := .func (.func (sf i)) #[] #[.pointer (some ⟨c, 0, none⟩)]) (by rw [hY]; rfl)
  have AD := Lib.hid (show ∀ (n : Int) (V : World), Calls Tryz.prog 48 #[.agg Y.toArray, .int .u64 n] V fun e w' => e = .returned (.bool (okB (lo i) (hi i) n)) ∧ Bel V w' from fun n V => by rw [hY]; exact admits _ _ _ _ _ _ n V)
  have ns : (nm i).size ≤ 9223372036854775806 := by have := nm_len i hi11; omega
  have HL := Lib.hid hl
  have HW := Lib.hid hW
  have HF := Lib.hid hf
  rw [← hY]
  clear hc hr hY hW hf hl
  by_cases h1 : Lib.hasSuffix l.data.toList [10] = true
  · rw [show (⟨#[10]⟩ : ByteArray).data.toList = [10] from rfl, h1] at CS
    have e0 : Lib.trimSuffix l.data.toList [10] = l.data.toList.take (l.data.toList.length - 1) := by unfold Lib.trimSuffix; rw [if_pos h1]; rfl
    rw [e0] at CS
    obtain ⟨bl, hbl⟩ : ∃ bl, l.data.toList.take (l.data.toList.length - 1) = bl := ⟨_, rfl⟩
    rw [hbl] at CS
    have hA : lnA i l.data.toList = (match lnB i bl with | none => 5 | some n => if okB (lo i) (hi i) n = true then 0 else 3) := by unfold lnA; rw [if_pos h1, hbl]
    have hN : lnN i l.data.toList = (lnB i bl).getD 0 := by unfold lnN; rw [hbl]
    have HA := Lib.hid hA
    have HN := Lib.hid hN
    obtain ⟨sp, hsp⟩ : ∃ sp, nm i ++ (⟨#[32]⟩ : ByteArray) = sp := ⟨_, rfl⟩
    obtain ⟨bb, hbb⟩ : ∃ bb : ByteArray, (⟨bl.toArray⟩ : ByteArray) = bb := ⟨_, rfl⟩
    rw [hbb] at CS
    have CP := Lib.hid (Tryz.strings_CutPrefix bb sp W)
    rw [show sp.data.toList = hd i by rw [← hsp]; rfl, show bb.data.toList = bl by rw [← hbb]] at CP
    have HSP := Lib.hid hsp
    clear hsp hbb hbl hA hN e0 h1
    obtain ⟨h, hh⟩ : ∃ h, Lib.hasPrefix bl (hd i) = h := ⟨_, rfl⟩
    obtain ⟨dd, hdd⟩ : ∃ dd : ByteArray, (⟨(Lib.trimPrefix bl (hd i)).toArray⟩ : ByteArray) = dd := ⟨_, rfl⟩
    rw [hh, hdd] at CP
    have NU := Lib.hid (number dd W)
    have hdl : dd.data.toList = Lib.trimPrefix bl (hd i) := by rw [← hdd]
    obtain ⟨q, hq⟩ : ∃ q, isNum dd.data.toList = q := ⟨_, rfl⟩
    obtain ⟨n, hn⟩ : ∃ n, numOf dd.data.toList = n := ⟨_, rfl⟩
    have hnb := numOf_b dd.data.toList
    unfold NumE at NU
    rw [hq, hn] at NU
    rw [hn] at hnb
    have HNB := Lib.hid hnb
    have HB := Lib.hid (show lnB i bl = if h = true ∧ q = true then some n else none from by
      unfold lnB
      rw [hh]
      cases h with
      | false => simp
      | true =>
        have e : Lib.trimPrefix bl (hd i) = bl.drop (hd i).length := by unfold Lib.trimPrefix; rw [if_pos hh]
        rw [← e, ← hdl, hq, hn])
    clear hh hdd hdl hq hn hnb
    go_enter Tryz.func30, Tryz.ntmps30
    go_upto_region 1 with fail
    rw [HW.out, HF.out]
    go_wp2_with fail
    refine CS.out.mono ?_
    rintro e w' ⟨rfl, rfl⟩
    go_wp2_with fail
    rw [HSP.out]
    refine CP.out.mono ?_
    rintro e w' ⟨rfl, rfl⟩
    go_wp2_with fail
    refine NU.out.mono ?_
    rintro e w1 ⟨rfl, k1⟩
    have B1 : Hid (Bel _ w1) := Lib.hid k1
    have K1 := Lib.hid (KP.out.bel k1)
    have F1 := Lib.hid (rngB (KF.out.bel k1))
    have C1 := Lib.hid (cell_bel C0.out k1)
    have hcell5 := (KF.out.bel k1).cell 4 (cell_val KF.out hcell4)
    clear k1 hcell0 hcell4
    cases h with
    | false =>
      have HA2 := Lib.hid (show lnA i l.data.toList = 5 by rw [HA.out, HB.out]; rfl)
      go_wp2_with fail
      go_ret
      exact ⟨by rw [HA2.out]; rfl, by unfold lnX; rw [HA2.out]; exact K1.out, Kep.of_bel (B0.out.trans B1.out)⟩
    | true =>
      cases q with
      | false =>
        have HA2 := Lib.hid (show lnA i l.data.toList = 5 by rw [HA.out, HB.out]; rfl)
        go_wp2_with fail
        go_ret
        exact ⟨by rw [HA2.out]; rfl, by unfold lnX; rw [HA2.out]; exact K1.out, Kep.of_bel (B0.out.trans B1.out)⟩
      | true =>
        have HB2 := Lib.hid (show lnB i bl = some n by rw [HB.out]; rfl)
        go_wp2_with (refine wpList_load_mid rfl 55 (.tmp 2) rfl f 0 rfl Y _ F1.out Tryz.underlying55 rfl YI.out ?_)
        refine (AD.out n w1).mono ?_
        rintro e w2 ⟨rfl, k2⟩
        have B2 : Hid (Bel w1 w2) := Lib.hid k2
        have hcell6 := cell_bel hcell5 k2
        have K2 := Lib.hid (K1.out.bel k2)
        have C2 := Lib.hid (cell_bel C1.out k2)
        clear k2 hcell5
        obtain ⟨o, ho⟩ : ∃ o, okB (lo i) (hi i) n = o := ⟨_, rfl⟩
        rw [ho]
        have HO := Lib.hid ho
        clear ho
        cases o with
        | false =>
          have HA2 := Lib.hid (show lnA i l.data.toList = 3 by rw [HA.out, HB2.out]; simp [HO.out])
          go_wp2_with fail
          go_ret
          exact ⟨by rw [HA2.out]; rfl, by unfold lnX; rw [HA2.out]; exact K2.out, Kep.of_bel ((B0.out.trans B1.out).trans B2.out)⟩
        | true =>
          have HA2 := Lib.hid (show lnA i l.data.toList = 0 by rw [HA.out, HB2.out]; simp [HO.out])
          have HN2 := Lib.hid (show lnN i l.data.toList = n by rw [HN.out, HB2.out]; rfl)
          have SA := Lib.hid (setAt c p i x n w2 hi11 C2.out K2.out)
          rw [sv_num i n HNB.out.1 HNB.out.2] at SA
          have CF := enter_sf i hi11
          obtain ⟨g, hg⟩ : ∃ g, sf i = g := ⟨_, rfl⟩
          rw [hg] at hcell6 SA CF
          clear hg
          go_wp2_with fail
          refine SA.out.mono ?_
          rintro e w3 ⟨rfl, hb3, k3⟩
          have K3 := Lib.hid hb3
          have KK := Lib.hid k3
          clear hb3 k3
          go_wp2_with fail
          go_ret
          exact ⟨by rw [HA2.out]; rfl, by unfold lnX; rw [HA2.out, if_pos rfl, HN2.out]; exact K3.out, (Kep.of_bel ((B0.out.trans B1.out).trans B2.out)).trans KK.out⟩
  · have h1f : Lib.hasSuffix l.data.toList [10] = false := by simpa using h1
    rw [show (⟨#[10]⟩ : ByteArray).data.toList = [10] from rfl, h1f] at CS
    have HA := Lib.hid (show lnA i l.data.toList = 6 by unfold lnA; rw [h1f]; rfl)
    clear h1 h1f ns
    go_enter Tryz.func30, Tryz.ntmps30
    go_upto_region 1 with fail
    rw [HW.out, HF.out]
    go_wp2_with fail
    refine CS.out.mono ?_
    rintro e w' ⟨rfl, rfl⟩
    go_wp2_with fail
    go_ret
    exact ⟨by rw [HA.out]; rfl, by unfold lnX; rw [HA.out]; exact KP.out, Kep.of_bel B0.out⟩
end Pm
end Go.Proofs.YtpohcdfmkcfonaaGreatDoor
