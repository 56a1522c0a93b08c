/-
  Texts of this claim, put together: Pf0, Pf1, Pf2, Pf3. What each one says, and under which conditions, stands ahead of it.
-/
import Derived.Lib.ItoaNum
import Derived.Lib.IndexLaws
import Derived.Test.YtpohcdfmkcfonaaGreatDoorGPMem
import Derived.Test.YtpohcdfmkcfonaaGreatDoorGPNum
import Derived.Test.YtpohcdfmkcfonaaGreatDoorGPPar
import Derived.Test.YtpohcdfmkcfonaaGreatDoorPB
import Derived.Test.YtpohcdfmkcfonaaGreatDoorPT

section
/-
  What the reference's digits answers: the decimal numeral. Condition: the number is not below 0.
-/
namespace Go.Proofs.YtpohcdfmkcfonaaGreatDoor
open Go.RowKit Go.Shelf
set_option linter.unusedVariables false
namespace Pm
open Kk

def decB (m : Nat) : ByteArray := ⟨(Lib.decDigits m).toArray⟩
theorem decB_ten {m : Nat} (h : ¬ m < 10) : decB m = decB (m / 10) ++ decB (m % 10) := by
  unfold decB
  refine ByteArray.ext (Array.toList_inj.1 ?_)
  rw [ByteArray.data_append, Array.toList_append, Lib.decDigits_one (i := m % 10) (by omega)]
  conv => lhs; rw [Lib.decDigits, dif_neg h]
theorem decB_one {m : Nat} (h : m < 10) : decB m = ⟨#[UInt8.ofNat (48 + m)]⟩ := by
  unfold decB
  rw [Lib.decDigits_one h]

theorem dec_sz : ∀ (k m : Nat), m < 10 ^ (k + 1) → (Lib.decDigits m).length ≤ k + 1
  | 0, m, h => by
    rw [Lib.decDigits_one (by simpa using h)]
    exact Nat.le_refl 1
  | k + 1, m, h => by
    by_cases h1 : m < 10
    · rw [Lib.decDigits_one h1]
      show 1 ≤ k + 1 + 1
      omega
    · rw [Lib.decDigits, dif_neg h1, List.length_append]
      have := dec_sz k (m / 10) (by rw [Nat.pow_succ] at h; omega)
      simp
      omega
theorem decB_sz {m : Nat} (h : m < 4611686018427387904) : (decB m).size ≤ 19 := by
  show (Lib.decDigits m).toArray.size ≤ 19
  rw [List.size_toArray]
  exact dec_sz 18 m (by omega)

set_option maxRecDepth 100000 in
set_option maxHeartbeats 1000000 in
theorem digits_one (m : Nat) (h : m < 10) (w : World) : Calls Tryz.prog 26 #[.int .i64 (m : Int)] w fun e w' => e = .returned (.string (decB m)) ∧ Bel w w' := by
  have h1 : (m : Int) < 10 := by omega
  have hw : IntKind.u8.wrap (48 + (m : Int)) = 48 + (m : Int) := by simp [IntKind.wrap, IntKind.bits, IntKind.signed]; omega
  have hb : Blk (w.alloc (.cells #[.int .u8 (48 + (m : Int))] 5)) w.heap.size #[.int .u8 (48 + (m : Int))] 5 := Blk.new w _ _
  have hc := conv (A := some ⟨w.heap.size, 0, none⟩) (n := 1) (c := 1) (zs := [48 + (m : Int)]) (w := w.alloc (.cells #[.int .u8 (48 + (m : Int))] 5)) ⟨rfl, fun _ => ⟨w.heap.size, 0, rfl, hb.lt, fun i hi => by
    obtain rfl : i = 0 := by omega
    exact hb.cell 0 rfl⟩⟩
  have HD := Lib.hid (show strOfNums [48 + (m : Int)] = decB m by
    rw [decB_one h]
    refine ByteArray.ext (Array.toList_inj.1 ?_)
    simp [strOfNums]
    apply UInt8.toNat_inj.1
    simp
    omega)
  obtain ⟨s, hs⟩ : ∃ s, strOfNums [48 + (m : Int)] = s := ⟨_, rfl⟩
  rw [hs] at hc HD
  clear hb hs
  go_enter Tryz.func26, Tryz.ntmps26
  go_wp2
  go_ret
  exact ⟨by rw [← HD.out]; rfl, (Bel.refl w).alloc _⟩

set_option maxRecDepth 100000 in
set_option maxHeartbeats 1000000 in
theorem digits (m : Nat) (hm : m < 4611686018427387904) (w : World) : Calls Tryz.prog 26 #[.int .i64 (m : Int)] w fun e w' => e = .returned (.string (decB m)) ∧ Bel w w' := by
  induction m using Nat.strongRecOn generalizing w with
  | _ m ih =>
    by_cases h : m < 10
    · exact digits_one m h w
    · have h1 : ¬ (m : Int) < 10 := by omega
      have IH := Lib.hid (fun V => ih (m / 10) (by omega) (by omega) V)
      have DO := Lib.hid (fun V => digits_one (m % 10) (by omega) V)
      have q0 : (m : Int).tdiv 10 = ((m / 10 : Nat) : Int) := by rw [Int.tdiv_eq_ediv_of_nonneg (by omega)]; omega
      have q1 : (m : Int).tmod 10 = ((m % 10 : Nat) : Int) := by rw [Int.tmod_eq_emod_of_nonneg (by omega)]; omega
      have HT := Lib.hid (decB_ten h)
      obtain ⟨a, ha⟩ : ∃ a, m / 10 = a := ⟨_, rfl⟩
      obtain ⟨b, hb⟩ : ∃ b, m % 10 = b := ⟨_, rfl⟩
      rw [ha] at IH q0 HT
      rw [hb] at DO q1 HT
      have a0 : (a : Int) < 4611686018427387904 := by omega
      have b0 : (b : Int) < 10 := by omega
      have za : (decB a).size ≤ 19 := decB_sz (by omega)
      have zb : (decB b).size ≤ 19 := decB_sz (by omega)
      obtain ⟨sa, hsa⟩ : ∃ sa, decB a = sa := ⟨_, rfl⟩
      obtain ⟨sb, hsb⟩ : ∃ sb, decB b = sb := ⟨_, rfl⟩
      obtain ⟨sm, hsm⟩ : ∃ sm, decB m = sm := ⟨_, rfl⟩
      rw [hsa] at IH HT za
      rw [hsb] at DO HT zb
      rw [hsm] at HT
      rw [hsm]
      clear ih hsa hsb hsm ha hb
      go_enter Tryz.func26, Tryz.ntmps26
      go_wp2_with fail
      refine (IH.out _).mono ?_
      rintro e w1 ⟨rfl, k1⟩
      have B1 := Lib.hid k1
      clear k1
      go_wp2_with fail
      refine (DO.out _).mono ?_
      rintro e w2 ⟨rfl, k2⟩
      have B2 := Lib.hid (B1.out.trans k2)
      clear k2 q0 q1 a0 b0 IH DO h h1 hm
      go_wp2_with fail
      go_ret
      exact ⟨by rw [HT.out]; rfl, B2.out⟩
end Pm
end Go.Proofs.YtpohcdfmkcfonaaGreatDoor
end

section
/-
  What the reference's feed answers: where the first line feed is, or -1. Condition: at most 10^9 bytes.
-/
namespace Go.Proofs.YtpohcdfmkcfonaaGreatDoor
open Go.RowKit Go.Shelf
set_option linter.unusedVariables false
namespace Pm
open Kk

theorem idx_of {l : List UInt8} {k : Nat} (h : l[k]? = some 10) (hn : ∀ j, j < k → l[j]? ≠ some 10) : Lib.indexByte l 10 = (k : Int) := by
  have hge := Lib.indexByte_ge l 10
  by_cases h0 : Lib.indexByte l 10 < 0
  · exact absurd h (Lib.indexByte_none (by omega) k)
  · obtain ⟨o, ho⟩ : ∃ o : Nat, Lib.indexByte l 10 = (o : Int) := ⟨(Lib.indexByte l 10).toNat, by omega⟩
    obtain ⟨h1, h2⟩ := Lib.indexByte_some ho
    rcases Nat.lt_trichotomy o k with h3 | h3 | h3
    · exact absurd h1 (hn o h3)
    · rw [ho, h3]
    · exact absurd h (h2 k h3)
theorem idx_no {l : List UInt8} (hn : ∀ j, j < l.length → l[j]? ≠ some 10) : Lib.indexByte l 10 = -1 := by
  have hge := Lib.indexByte_ge l 10
  by_cases h0 : Lib.indexByte l 10 < 0
  · omega
  · obtain ⟨o, ho⟩ : ∃ o : Nat, Lib.indexByte l 10 = (o : Int) := ⟨(Lib.indexByte l 10).toNat, by omega⟩
    have h1 := (Lib.indexByte_some ho).1
    exact absurd h1 (hn o (List.getElem?_eq_some_iff.1 h1).1)
theorem at_list (s : ByteArray) (k : Nat) (h : k < s.size) : s.data.toList[k]? = some s[k] := by
  rw [Array.getElem?_toList, Array.getElem?_eq_getElem (by exact h)]
  rfl

set_option maxRecDepth 100000 in
set_option maxHeartbeats 1000000 in
theorem feed (s : ByteArray) (hs : s.size ≤ 1000000000) (w : World) : Calls Tryz.prog 32 #[.string s] w fun e w' => e = .returned (.int .i64 (Lib.indexByte s.data.toList 10)) ∧ w = w' := by
  go_enter Tryz.func32, Tryz.ntmps32
  go_wp2_with fail
  go_loop [3] (fun u3 => ∃ k : Nat, u3 = .int .i64 k ∧ k ≤ s.size ∧ (∀ j, j < k → s.data.toList[j]? ≠ some 10)) (fun u3 => s.size - (intOf u3).toNat)
  case atStart => exact ⟨0, rfl, by omega, fun j hj => by omega⟩
  case round =>
    obtain ⟨k, rfl, hk, hall⟩ := hrel
    have HA := Lib.hid hall
    clear hall
    by_cases hlt : k < s.size
    · have hl1 : (k : Int) < s.size := by omega
      have HK := Lib.hid (at_list s k hlt)
      go_upto_if 13 with fail
      by_cases he : s[k].toNat = 10
      · have hb : (((s[k].toNat : Nat) : Int) == 10) = true := by rw [he]; rfl
        rw [hb]
        have HR := Lib.hid (idx_of (l := s.data.toList) (k := k) (by rw [HK.out, show s[k] = 10 from UInt8.toNat_inj.1 he]) HA.out)
        clear hb he HK
        go_wp2_with fail
        go_ret
        exact ⟨by rw [HR.out]; rfl, rfl⟩
      · have hb : (((s[k].toNat : Nat) : Int) == 10) = false := by
          have : ¬ ((s[k].toNat : Nat) : Int) = 10 := by omega
          simpa using this
        rw [hb]
        have HLT := Lib.hid hlt
        have HN := Lib.hid (show s.data.toList[k]? ≠ some 10 from fun e => by
          rw [HK.out] at e
          injection e with e
          rw [e] at he
          exact he rfl)
        clear hb he HK
        go_wp2_with fail
        refine ⟨⟨k + 1, by go_num, by have := HLT.out; omega, fun j hj => ?_⟩, ?_⟩
        · by_cases e : j = k
          · rw [e]
            exact HN.out
          · exact HA.out j (by omega)
        · have := HLT.out
          simp [intOf]
          omega
    · obtain rfl : k = s.size := by omega
      have HR := Lib.hid (idx_no (l := s.data.toList) (fun j hj => HA.out j (by simpa using hj)))
      go_wp2_with fail
      go_ret
      exact ⟨by rw [HR.out]; rfl, rfl⟩
end Pm
end Go.Proofs.YtpohcdfmkcfonaaGreatDoor
end

section
/-
  What the reference's number answers: the number that digits are, and whether they are one. No condition.
-/
namespace Go.Proofs.YtpohcdfmkcfonaaGreatDoor
open Go.RowKit Go.Shelf
set_option linter.unusedVariables false
namespace Pm
open Kk

theorem isNum_no {l : List UInt8} (h : isNum l = false) : numOf l = 0 := by unfold numOf; rw [h]; rfl
theorem all_snoc {l : List UInt8} {c : UInt8} (h : l.all dig = true) (h0 : 48 ≤ c.toNat) (h1 : c.toNat ≤ 57) : (l ++ [c]).all dig = true := by
  rw [List.all_append, h]
  simp [dig]
  omega
set_option maxRecDepth 100000 in
set_option maxHeartbeats 2000000 in
theorem numberR (s : ByteArray) (w : World) : Calls Tryz.prog 58 #[.string s] w fun e w' => e = .returned (.tuple #[.int .i64 (numOf s.data.toList), .bool (isNum s.data.toList)]) ∧ w = w' := by
  have hlen : s.data.toList.length = s.size := by rw [Array.length_toList]; rfl
  by_cases h0 : s.size < 1
  · have HR := Lib.hid (show isNum s.data.toList = false by
      have : s.data.toList = [] := List.length_eq_zero_iff.1 (by omega)
      rw [this]
      rfl)
    have HV := Lib.hid (isNum_no HR.out)
    have h01 : (s.size : Int) < 1 := by omega
    go_enter Tryz.func58, Tryz.ntmps58
    go_wp2_with fail
    go_ret2
    exact ⟨by rw [HR.out, HV.out]; rfl, rfl⟩
  · by_cases h1 : s.size > 10
    · have HR := Lib.hid (show isNum s.data.toList = false by
        unfold isNum
        rw [decide_eq_false (show ¬ s.data.toList.length ≤ 10 by omega)]
        simp)
      have HV := Lib.hid (isNum_no HR.out)
      have h01 : ¬ (s.size : Int) < 1 := by omega
      have h11 : (10 : Int) < s.size := by omega
      go_enter Tryz.func58, Tryz.ntmps58
      go_wp2_with fail
      go_ret2
      exact ⟨by rw [HR.out, HV.out]; rfl, rfl⟩
    · have hp : 0 < s.size := by omega
      have HH := Lib.hid (head_eq s hp)
      have h01 : ¬ (s.size : Int) < 1 := by omega
      have h11 : ¬ (10 : Int) < s.size := by omega
      have h02 : (0 : Int) < s.size := by omega
      have NUMOK : s.data.toList.all dig = true → ¬ (s[0].toNat = 48 ∧ 1 < s.size) → isNum s.data.toList = true := fun ha hn => by
        unfold isNum
        have e1 : (!s.data.toList.isEmpty) = true := by
          cases hh : s.data.toList with
          | nil => rw [hh] at hlen; simp at hlen; omega
          | cons a r => rfl
        have e3 : (!(decide (1 < s.data.toList.length) && s.data.toList.head? == some 48)) = true := by
          rw [HH.out, hlen]
          by_cases h9 : 1 < s.size
          · have : s[0] ≠ 48 := fun e => hn ⟨by rw [e]; rfl, h9⟩
            simp [h9, this]
          · simp [h9]
        rw [e1, e3, ha, decide_eq_true (show s.data.toList.length ≤ 10 by omega)]
        rfl
      by_cases hz : s[0].toNat = 48
      · have z1 : (((s[0].toNat : Nat) : Int) == 48) = true := by rw [hz]; rfl
        by_cases h9 : 1 < s.size
        · have h91 : (1 : Int) < s.size := by omega
          have HR := Lib.hid (show isNum s.data.toList = false by
            unfold isNum
            rw [HH.out, hlen, decide_eq_true h9, show s[0] = 48 from UInt8.toNat_inj.1 hz]
            simp)
          have HV := Lib.hid (isNum_no HR.out)
          go_enter Tryz.func58, Tryz.ntmps58
          go_wp2_with fail
          go_ret2
          exact ⟨by rw [HR.out, HV.out]; rfl, rfl⟩
        · have h91 : ¬ (1 : Int) < s.size := by omega
          have NUMOK := fun ha => NUMOK ha (fun e => h9 e.2)
          go_enter Tryz.func58, Tryz.ntmps58
          go_wp2_with fail
          go_loop [4, 5] (fun u4 u5 => ∃ k : Nat, u4 = .int .i64 (dv10 0 (s.data.toList.take k)) ∧ u5 = .int .i64 k ∧ k ≤ s.size ∧ (s.data.toList.take k).all dig = true) (fun _ u5 => s.size - (intOf u5).toNat)
          case atStart => exact ⟨0, rfl, rfl, by omega, rfl⟩
          case round =>
            obtain ⟨k, rfl, rfl, hk, hall⟩ := hrel
            have HA := Lib.hid hall
            have hb := dv10_b _ hall
            have hpl := p10_le (s.data.toList.take k).length (by rw [List.length_take]; omega)
            have HTS := Lib.hid (fun (h : k < s.size) => take_snoc s k h)
            clear hall
            obtain ⟨v, hv⟩ : ∃ v, dv10 0 (s.data.toList.take k) = v := ⟨_, rfl⟩
            rw [hv] at hb ⊢
            have hvb : 0 ≤ v ∧ v ≤ 10000000000 := by omega
            have HV := Lib.hid hv
            clear hv hb hpl
            by_cases hlt : k < s.size
            · have hl1 : (k : Int) < s.size := by omega
              by_cases hd : 48 ≤ s[k].toNat ∧ s[k].toNat ≤ 57
              · have d1 : (48 : Int) ≤ (s[k].toNat : Nat) := by omega
                have d2 : ((s[k].toNat : Nat) : Int) ≤ 57 := by omega
                have x1 : IntKind.u8.wrap (((s[k].toNat : Nat) : Int) - 48) = ((s[k].toNat : Nat) : Int) - 48 := by simp [IntKind.wrap, IntKind.bits, IntKind.signed]; omega
                have HN := Lib.hid (show dv10 0 (s.data.toList.take (k + 1)) = v * 10 + (((s[k].toNat : Nat) : Int) - 48) by rw [HTS.out hlt, dv10_app, HV.out])
                have HN2 := Lib.hid (show (s.data.toList.take (k + 1)).all dig = true by rw [HTS.out hlt]; exact all_snoc HA.out hd.1 hd.2)
                have HK := Lib.hid (show k + 1 ≤ s.size by omega)
                go_wp2_with fail
                refine ⟨⟨k + 1, by rw [HN.out]; go_num, by go_num, HK.out, HN2.out⟩, ?_⟩
                have := HK.out
                simp [intOf]
                omega
              · have HR := Lib.hid (show isNum s.data.toList = false by
                  unfold isNum
                  have : s.data.toList.all dig = false := by
                    rw [Bool.eq_false_iff]
                    intro ha
                    have hm : s[k] ∈ s.data.toList := by
                      have h9 := take_snoc s k hlt
                      exact List.mem_of_mem_take (i := k + 1) (by rw [h9]; simp)
                    have := List.all_eq_true.1 ha _ hm
                    simp [dig] at this
                    omega
                  rw [this]
                  simp)
                have HV0 := Lib.hid (isNum_no HR.out)
                rcases Nat.lt_or_ge s[k].toNat 48 with hlo | hhi
                · have d1 : ((s[k].toNat : Nat) : Int) < 48 := by omega
                  go_wp2_with fail
                  go_ret2
                  exact ⟨by rw [HR.out, HV0.out]; rfl, rfl⟩
                · have d1 : ¬ ((s[k].toNat : Nat) : Int) < 48 := by omega
                  have d2 : (57 : Int) < (s[k].toNat : Nat) := by omega
                  go_wp2_with fail
                  go_ret2
                  exact ⟨by rw [HR.out, HV0.out]; rfl, rfl⟩
            · obtain rfl : k = s.size := by omega
              have ht : s.data.toList.take s.size = s.data.toList := by rw [← hlen]; exact List.take_length
              have HR := Lib.hid (show isNum s.data.toList = true by
                have ha := HA.out
                rw [ht] at ha
                exact NUMOK ha)
              have HV0 := Lib.hid (show numOf s.data.toList = v by
                unfold numOf
                rw [if_pos HR.out, ← HV.out, ht])
              go_wp2_with fail
              go_ret2
              exact ⟨by rw [HR.out, HV0.out]; rfl, rfl⟩
      · have z1 : (((s[0].toNat : Nat) : Int) == 48) = false := by
          have : ¬ ((s[0].toNat : Nat) : Int) = 48 := by omega
          simpa using this
        have NUMOK := fun ha => NUMOK ha (fun e => hz e.1)
        go_enter Tryz.func58, Tryz.ntmps58
        go_wp2_with fail
        go_loop [4, 5] (fun u4 u5 => ∃ k : Nat, u4 = .int .i64 (dv10 0 (s.data.toList.take k)) ∧ u5 = .int .i64 k ∧ k ≤ s.size ∧ (s.data.toList.take k).all dig = true) (fun _ u5 => s.size - (intOf u5).toNat)
        case atStart => exact ⟨0, rfl, rfl, by omega, rfl⟩
        case round =>
          obtain ⟨k, rfl, rfl, hk, hall⟩ := hrel
          have HA := Lib.hid hall
          have hb := dv10_b _ hall
          have hpl := p10_le (s.data.toList.take k).length (by rw [List.length_take]; omega)
          have HTS := Lib.hid (fun (h : k < s.size) => take_snoc s k h)
          clear hall
          obtain ⟨v, hv⟩ : ∃ v, dv10 0 (s.data.toList.take k) = v := ⟨_, rfl⟩
          rw [hv] at hb ⊢
          have hvb : 0 ≤ v ∧ v ≤ 10000000000 := by omega
          have HV := Lib.hid hv
          clear hv hb hpl
          by_cases hlt : k < s.size
          · have hl1 : (k : Int) < s.size := by omega
            by_cases hd : 48 ≤ s[k].toNat ∧ s[k].toNat ≤ 57
            · have d1 : (48 : Int) ≤ (s[k].toNat : Nat) := by omega
              have d2 : ((s[k].toNat : Nat) : Int) ≤ 57 := by omega
              have x1 : IntKind.u8.wrap (((s[k].toNat : Nat) : Int) - 48) = ((s[k].toNat : Nat) : Int) - 48 := by simp [IntKind.wrap, IntKind.bits, IntKind.signed]; omega
              have HN := Lib.hid (show dv10 0 (s.data.toList.take (k + 1)) = v * 10 + (((s[k].toNat : Nat) : Int) - 48) by rw [HTS.out hlt, dv10_app, HV.out])
              have HN2 := Lib.hid (show (s.data.toList.take (k + 1)).all dig = true by rw [HTS.out hlt]; exact all_snoc HA.out hd.1 hd.2)
              have HK := Lib.hid (show k + 1 ≤ s.size by omega)
              go_wp2_with fail
              refine ⟨⟨k + 1, by rw [HN.out]; go_num, by go_num, HK.out, HN2.out⟩, ?_⟩
              have := HK.out
              simp [intOf]
              omega
            · have HR := Lib.hid (show isNum s.data.toList = false by
                unfold isNum
                have : s.data.toList.all dig = false := by
                  rw [Bool.eq_false_iff]
                  intro ha
                  have hm : s[k] ∈ s.data.toList := by
                    have h9 := take_snoc s k hlt
                    exact List.mem_of_mem_take (i := k + 1) (by rw [h9]; simp)
                  have := List.all_eq_true.1 ha _ hm
                  simp [dig] at this
                  omega
                rw [this]
                simp)
              have HV0 := Lib.hid (isNum_no HR.out)
              rcases Nat.lt_or_ge s[k].toNat 48 with hlo | hhi
              · have d1 : ((s[k].toNat : Nat) : Int) < 48 := by omega
                go_wp2_with fail
                go_ret2
                exact ⟨by rw [HR.out, HV0.out]; rfl, rfl⟩
              · have d1 : ¬ ((s[k].toNat : Nat) : Int) < 48 := by omega
                have d2 : (57 : Int) < (s[k].toNat : Nat) := by omega
                go_wp2_with fail
                go_ret2
                exact ⟨by rw [HR.out, HV0.out]; rfl, rfl⟩
          · obtain rfl : k = s.size := by omega
            have ht : s.data.toList.take s.size = s.data.toList := by rw [← hlen]; exact List.take_length
            have HR := Lib.hid (show isNum s.data.toList = true by
              have ha := HA.out
              rw [ht] at ha
              exact NUMOK ha)
            have HV0 := Lib.hid (show numOf s.data.toList = v by
              unfold numOf
              rw [if_pos HR.out, ← HV.out, ht])
            go_wp2_with fail
            go_ret2
            exact ⟨by rw [HR.out, HV0.out]; rfl, rfl⟩
end Pm
end Go.Proofs.YtpohcdfmkcfonaaGreatDoor
end

section
/-
  What the reference's line answers: a field's number from its line, and whether it is one. Condition: at most 10^9 bytes.
-/
namespace Go.Proofs.YtpohcdfmkcfonaaGreatDoor
open Go.RowKit Go.Shelf
set_option linter.unusedVariables false
namespace Pm
open Kk

set_option maxRecDepth 100000 in
set_option maxHeartbeats 2000000 in
theorem lineR (i : Nat) (hi11 : i < 11) (s : ByteArray) (hs : s.size ≤ 1000000000) (w : World) :
    Calls Tryz.prog 33 #[.int .i64 (i : Int), .string s] w fun e w' => e = .returned (.tuple #[.int .i64 ((lnB i s.data.toList).getD 0), .bool (lnB i s.data.toList).isSome]) ∧ Bel w w' := by
  have NB := Lib.hid (numberR)
  have hlt2 : (i : Int) < 11 := by omega
  have hns := nm_size i hi11
  have hlen : s.data.toList.length = s.size := by rw [Array.length_toList]; rfl
  obtain ⟨H, hH⟩ : ∃ H, (nm i ++ ⟨#[32]⟩ : ByteArray) = H := ⟨_, rfl⟩
  have HHD := Lib.hid (show hd i = H.data.toList by unfold hd; rw [hH])
  have hHs : H.size ≤ 11 := by rw [← hH, ByteArray.size_append]; show (nm i).size + 1 ≤ 11; omega
  have HH := Lib.hid hH
  go_enter Tryz.func33, Tryz.ntmps33
  go_wp2_with fail
  refine (namesR w).mono ?_
  rintro e w1 ⟨b, rfl, hb, _, k1⟩
  have K1 := Lib.hid k1
  have cy := strs_cell hb i hi11
  clear hb k1
  go_upto_region 2 with fail
  have HP := Lib.hid (show lnB i s.data.toList = if Lib.hasPrefix s.data.toList H.data.toList = true ∧ isNum (s.data.toList.drop H.size) = true then some (numOf (s.data.toList.drop H.size)) else none by
    unfold lnB
    rw [HHD.out, show H.data.toList.length = H.size by rw [Array.length_toList]; rfl])
  by_cases hl : s.size < H.size
  · have hl' : (s.size : Int) < H.size := by omega
    have HN := Lib.hid (show lnB i s.data.toList = none by
      rw [HP.out, if_neg]
      rintro ⟨h1, _⟩
      unfold Lib.hasPrefix at h1
      have := (List.isPrefixOf_iff_prefix.1 h1).length_le
      rw [hlen, show H.data.toList.length = H.size by rw [Array.length_toList]; rfl] at this
      omega)
    go_wp2_with fail
    go_ret2
    exact ⟨by rw [HN.out]; rfl, K1.out⟩
  · have hl' : ¬ (s.size : Int) < H.size := by omega
    have hex : (s.extract 0 H.size).data.toList = s.data.toList.take H.size := by
      rw [ByteArray.data_extract, Array.toList_extract]
      simp
    by_cases he : s.extract 0 H.size = H
    · have hb : ((s.extract 0 H.size).toList == H.toList) = true := (Lib.bytes_beq_iff _ _).2 he
      have hpre : Lib.hasPrefix s.data.toList H.data.toList = true := by
        unfold Lib.hasPrefix
        refine List.isPrefixOf_iff_prefix.2 ?_
        rw [← he, hex]
        exact List.take_prefix _ _
      have hdr : (s.extract H.size s.size).data.toList = s.data.toList.drop H.size := by
        rw [ByteArray.data_extract, Array.toList_extract]
        rw [List.extract_eq_take_drop, List.take_of_length_le (by rw [List.length_drop, hlen]; exact Nat.le_refl _)]
      have NM := Lib.hid (fun V => show Calls Tryz.prog 58 #[.string (s.extract H.size s.size)] V fun e w' => e = .returned (.tuple #[.int .i64 (numOf (s.data.toList.drop H.size)), .bool (isNum (s.data.toList.drop H.size))]) ∧ V = w' by
        have := NB.out (s.extract H.size s.size) V
        rw [hdr] at this
        exact this)
      have HV := Lib.hid (show (lnB i s.data.toList).getD 0 = numOf (s.data.toList.drop H.size) ∧ (lnB i s.data.toList).isSome = isNum (s.data.toList.drop H.size) by
        rw [HP.out]
        cases hc : isNum (s.data.toList.drop H.size) with
        | true => rw [if_pos ⟨hpre, rfl⟩]; exact ⟨rfl, rfl⟩
        | false => rw [if_neg (fun h => by cases h.2)]; exact ⟨(isNum_no hc).symm, rfl⟩)
      obtain ⟨v, hv⟩ : ∃ v, numOf (s.data.toList.drop H.size) = v := ⟨_, rfl⟩
      obtain ⟨q, hq⟩ : ∃ q, isNum (s.data.toList.drop H.size) = q := ⟨_, rfl⟩
      rw [hv, hq] at NM HV
      clear he hex hpre hdr hv hq HP HHD NB
      go_wp2_with fail
      refine (NM.out _).mono ?_
      rintro e w2 ⟨rfl, rfl⟩
      go_wp2_with fail
      go_ret2
      exact ⟨by rw [HV.out.1, HV.out.2]; rfl, K1.out⟩
    · have hb : ((s.extract 0 H.size).toList == H.toList) = false := (Lib.bytes_beq_false_iff _ _).2 he
      have HN := Lib.hid (show lnB i s.data.toList = none by
        rw [HP.out, if_neg]
        rintro ⟨h1, _⟩
        unfold Lib.hasPrefix at h1
        have h2 := List.prefix_iff_eq_take.1 (List.isPrefixOf_iff_prefix.1 h1)
        rw [show H.data.toList.length = H.size by rw [Array.length_toList]; rfl, ← hex] at h2
        exact he (ByteArray.ext (Array.toList_inj.1 h2.symm)))
      clear he hex
      go_wp2_with fail
      go_ret2
      exact ⟨by rw [HN.out]; rfl, K1.out⟩
end Pm
end Go.Proofs.YtpohcdfmkcfonaaGreatDoor
end
