/-
  What take of a sponge answers in this program: bytes come in. Conditions: a sponge that holds bytes; a slice of at most 10^9 bytes that lies elsewhere.
-/
import Derived.Test.YtaniijpppmipbaaDoorKNew
namespace Go.Proofs.YtaniijpppmipbaaDoor
open Go.RowKit Go.Shelf
set_option linter.unusedVariables false
namespace Kk

/-- The state behind the first n blocks. -/
def stN (data : List Int) : Nat → List Wd
  | 0 => zero
  | n + 1 => absorbed (stN data n) ((data.drop (136 * n)).take 136)
theorem len_stN (data : List Int) (n : Nat) : (stN data n).length = 25 := by
  cases n with
  | zero => rfl
  | succ n => exact len_absorbed _ _
theorem stN_append (data ys : List Int) : ∀ n, 136 * n ≤ data.length → stN (data ++ ys) n = stN data n
  | 0, _ => rfl
  | n + 1, h => by
    show absorbed (stN (data ++ ys) n) _ = absorbed (stN data n) _
    rw [stN_append data ys n (by omega), List.drop_append_of_le_length (by omega), List.take_append_of_le_length (by simp; omega)]
/-- A sponge that holds data. -/
structure Hd (data : List Int) (A : List Wd) (bs : List Int) (c : Nat) : Prop where
  st : A = stN data (data.length / 136)
  count : c = data.length % 136
  rest : bs.take c = data.drop (136 * (data.length / 136))
  len : bs.length = 136
  by_ : By bs
theorem Hd.lt {data : List Int} {A : List Wd} {bs : List Int} {c : Nat} (h : Hd data A bs c) : c < 136 := by rw [h.count]; omega
theorem Hd.nil {bs : List Int} (h1 : bs.length = 136) (h2 : By bs) : Hd [] zero bs 0 := ⟨rfl, rfl, by simp, h1, h2⟩
theorem Hd.more {data : List Int} {A : List Wd} {bs : List Int} {c : Nat} (h : Hd data A bs c) (ys : List Int) (hy : By ys) (hc : c + ys.length < 136) : Hd (data ++ ys) A (bs.take c ++ (ys ++ bs.drop (c + ys.length))) (c + ys.length) := by
  have hl := h.len
  have hcc := h.count
  have hdl : (data ++ ys).length = data.length + ys.length := List.length_append
  have hq : (data ++ ys).length / 136 = data.length / 136 := by rw [hdl]; omega
  refine ⟨?_, by rw [hdl]; omega, ?_, by simp; omega, (h.by_.take c).append (hy.append (h.by_.drop _))⟩
  · rw [hq, stN_append _ _ _ (by omega)]; exact h.st
  · rw [hq, List.drop_append_of_le_length (by omega), ← h.rest, ← List.append_assoc, List.take_append_of_le_length (by simp; omega), List.take_of_length_le (by simp; omega)]
theorem Hd.full {data : List Int} {A : List Wd} {bs : List Int} {c : Nat} (h : Hd data A bs c) (ys : List Int) (hy : By ys) (hc : c + ys.length = 136) : Hd (data ++ ys) (absorbed A (bs.take c ++ (ys ++ bs.drop (c + ys.length)))) (bs.take c ++ (ys ++ bs.drop (c + ys.length))) 0 := by
  have hl := h.len
  have hcc := h.count
  have hdl : (data ++ ys).length = data.length + ys.length := List.length_append
  have hq : (data ++ ys).length / 136 = data.length / 136 + 1 := by rw [hdl]; omega
  have hbs : bs.take c ++ (ys ++ bs.drop (c + ys.length)) = bs.take c ++ ys := by rw [hc, List.drop_of_length_le (by omega), List.append_nil]
  have ht : (bs.take c ++ ys).take 136 = bs.take c ++ ys := List.take_of_length_le (by simp; omega)
  rw [hbs]
  refine ⟨?_, by rw [hdl]; omega, ?_, by simp; omega, (h.by_.take c).append hy⟩
  · rw [hq]
    show _ = absorbed (stN (data ++ ys) (data.length / 136)) (((data ++ ys).drop (136 * (data.length / 136))).take 136)
    rw [stN_append _ _ _ (by omega), ← h.st, List.drop_append_of_le_length (by omega), ← h.rest, ht]
  · rw [hq, List.take_zero, List.drop_of_length_le (by rw [hdl]; omega)]

/-- How many elements a slice has. -/
def sizeOfV : Value → Nat
  | .slice _ n _ => n
  | _ => 0
/-- What is left of the bytes that come in. -/
def Left (v : Value) (sb so n k : Nat) : Prop := ∃ (P : Option Addr) (sc : Nat), v = .slice P (n - k) sc ∧ (k < n → P = some ⟨sb, so + k, none⟩ ∧ n - k ≤ sc ∧ sc ≤ maxLen)

set_option maxRecDepth 100000 in
set_option maxHeartbeats 2000000 in
theorem take (b : Nat) (t : TypeId) (pre : List Value) (A : List Wd) (r : Int) (bs : List Int) (c : Nat) (data : List Int) (P : Option Addr) (sn sc : Nat) (zs : List Int) (w : World) (h : Sp w b t pre A r bs c data.length) (hd : Hd data A bs c)
    (hz : Ints .u8 w P sn zs) (hcap : sn ≤ sc) (hsc : sc ≤ maxLen) (hzb : By zs) (hne : 0 < sn → ∀ x, P = some x → x.block ≠ b) (hT : Tn w) (hb0 : b ≠ 0) (hl : data.length + sn ≤ 1000000000000) :
    Calls Tryd.prog 39 #[.pointer (some ⟨b, pre.length, none⟩), .slice P sn sc] w fun e w' => e = .returned (.tuple #[]) ∧ (∃ A' r' bs' c', Sp w' b t pre A' r' bs' (c' : Nat) ((data ++ zs).length : Nat) ∧ Hd (data ++ zs) A' bs' c') ∧ Kep (fun i => i = b) w w' := by
  have hzl := hz.1
  obtain ⟨sb, so, hP, hsb⟩ : ∃ sb so, (0 < sn → P = some ⟨sb, so, none⟩) ∧ (0 < sn → sb ≠ b ∧ ∀ i, i < sn → w.cell? ⟨sb, so + i, none⟩ = some (.int .u8 (zs.getD i 0))) := by
    rcases Nat.eq_zero_or_pos sn with h0 | h0
    · exact ⟨0, 0, fun h => by omega, fun h => by omega⟩
    · obtain ⟨x, y, e, _, hc⟩ := hz.2 h0
      exact ⟨x, y, fun _ => e, fun _ => ⟨hne h0 _ e, hc⟩⟩
  have HZ := Lib.hid hz
  have HSB := Lib.hid hsb
  have HL := Lib.hid (show Left (.slice P sn sc) sb so sn 0 from ⟨P, sc, rfl, fun h0 => ⟨hP h0, by omega, hsc⟩⟩)
  have c0 := h.size
  have f0 := h.frozen (pre.length + 187)
  have HS0 := Lib.hid (h.setSize ((data.length : Int) + sn))
  have HK0 := Lib.hid ((Kep.refl (fun i => i = b) w).set_self (pre.length + 187) (.int .i64 ((data.length : Int) + sn)))
  have HD := Lib.hid hd
  have HT := Lib.hid hT
  have HZB := Lib.hid hzb
  have HZL := Lib.hid hzl
  have hl' : (data.length : Int) + sn ≤ 1000000000000 := by omega
  have HMAX := Lib.hid (show maxLen = 9223372036854775807 from rfl)
  have hcap' : (sn : Int) ≤ 9223372036854775807 := by unfold maxLen at hsc; omega
  clear h hz hP hsb hd hT hne hzl hsc
  go_enter Tryd.func39, Tryd.ntmps39
  go_wp2
  obtain ⟨w1, hw1⟩ : ∃ w1, w.setCell ⟨b, pre.length + 187, none⟩ (.int .i64 ((data.length : Int) + sn)) = w1 := ⟨_, rfl⟩
  rw [hw1] at HS0 HK0 ⊢
  clear hw1 c0 f0
  go_loopw [1] (fun v wr => ∃ k : Nat, k ≤ sn ∧ Left v sb so sn k ∧ (∃ A' r' bs' c', Sp wr b t pre A' r' bs' (c' : Nat) ((data.length : Int) + sn) ∧ Hd (data ++ zs.take k) A' bs' c') ∧ Kep (fun i => i = b) w wr) (fun v _ => sizeOfV v)
  case atStart => exact ⟨0, Nat.zero_le _, HL.out, ⟨A, r, bs, c, HS0.out, by rw [List.take_zero, List.append_nil]; exact HD.out⟩, HK0.out⟩
  case round =>
    obtain ⟨k, hk, ⟨Q, qc, rfl, hQ⟩, ⟨A', r', bs', c', hs, hh⟩, hkep⟩ := hrel
    by_cases hlt : k < sn
    · obtain ⟨rfl, hq1, hq2⟩ := hQ hlt
      have hc136 := hh.lt
      obtain ⟨sbne, hcell⟩ := HSB.out (by omega)
      have hsrc : Ints .u8 wr (some ⟨sb, so + k, none⟩) (sn - k) (zs.drop k) := by
        refine ⟨by rw [List.length_drop, HZL.out], fun _ => ⟨sb, so + k, rfl, ?_, fun i hi => ?_⟩⟩
        · exact World.block_lt_of_cell? wr _ (hkep.cell sbne (hcell k hlt))
        · have := hkep.cell sbne (hcell (k + i) (by omega))
          rw [Nat.add_assoc, List.getD_eq_getElem?_getD, List.getElem?_drop, ← List.getD_eq_getElem?_getD]
          exact this
      obtain ⟨m, hm⟩ : ∃ m, m = Nat.min (sn - k) (136 - c') := ⟨_, rfl⟩
      have hm1 : m ≤ sn - k := by rw [hm]; exact Nat.min_le_left _ _
      have hm2 : m ≤ 136 - c' := by rw [hm]; exact Nat.min_le_right _ _
      have hm0 : 0 < m := by rw [hm]; exact Nat.lt_min.2 ⟨by omega, by omega⟩
      have FL := Lib.hid (fill b t pre A' r' bs' c' _ sb (so + k) (sn - k) qc (zs.drop k) m wr hs hc136 hsrc (by omega) hq1 hq2 hm)
      have HH := Lib.hid hh
      have HK := Lib.hid hkep
      have HM := Lib.hid hm
      have hkn : (0 : Int) < ((sn - k : Nat) : Int) := by omega
      have hq3 : qc ≤ 9223372036854775807 := by rw [HMAX.out] at hq2; exact hq2
      clear hs hh hkep hsrc hm hcell hQ hq2
      go_wp2_with fail
      refine (FL.out).mono ?_
      rintro e w2 ⟨rfl, hs2, hk2⟩
      obtain ⟨PQ, hPQ⟩ : ∃ PQ, (if qc = m then some (⟨sb, so + k, none⟩ : Addr) else some ⟨sb, so + k + m, none⟩) = PQ := ⟨_, rfl⟩
      rw [hPQ]
      have c2 := hs2.count
      have HS2 := Lib.hid hs2
      have HK2 := Lib.hid (HK.out.trans hk2)
      have hyl : ((zs.drop k).take m).length = m := by simp; have := HZL.out; omega
      have HYL := Lib.hid hyl
      have LF := Lib.hid (show Left (.slice PQ (sn - k - m) (qc - m)) sb so sn (k + m) from ⟨_, qc - m, by rw [Nat.sub_sub], fun h => ⟨by rw [← hPQ, if_neg (by omega), Nat.add_assoc], by omega, by rw [HMAX.out]; omega⟩⟩)
      have DT := Lib.hid (show data ++ zs.take (k + m) = (data ++ zs.take k) ++ (zs.drop k).take m by rw [List.append_assoc, ← List.take_add])
      have YB := Lib.hid (show By ((zs.drop k).take m) from (HZB.out.drop k).take m)
      clear hs2 hk2 hyl hPQ
      by_cases hfull : c' + m = 136
      · have hf1 : (c' : Int) + m = 136 := by omega
        rw [hf1] at c2 HS2
        have HS3 := Lib.hid (show Sp w2 b t pre A' r' (bs'.take c' ++ ((zs.drop k).take m ++ bs'.drop (c' + m))) 136 ((data.length : Int) + sn) from HS2.out)
        have FB := Lib.hid (show Hd (data ++ zs.take (k + m)) (absorbed A' (bs'.take c' ++ ((zs.drop k).take m ++ bs'.drop (c' + m)))) (bs'.take c' ++ ((zs.drop k).take m ++ bs'.drop (c' + m))) 0 by
          rw [DT.out]
          have h := HH.out.full ((zs.drop k).take m) YB.out (by rw [HYL.out]; exact hfull)
          rw [HYL.out] at h
          exact h)
        have AB := Lib.hid (absorb b t pre A' r' _ 136 _ w2 HS3.out FB.out.by_ (HT.out.kep HK2.out (fun e => hb0 e.symm)) hb0)
        clear HS2
        go_wp2_with fail
        refine (AB.out).mono ?_
        rintro e w3 ⟨rfl, hs3, hk3⟩
        have HS4 := Lib.hid hs3
        have HK3 := Lib.hid (HK2.out.trans hk3)
        clear hs3 hk3
        go_wp2
        go_roundw
        case rel => exact ⟨k + m, by omega, LF.out, ⟨_, _, _, 0, HS4.out, FB.out⟩, HK3.out⟩
        case measure => simp [sizeOfV] <;> omega
      · have hf1 : ((c' : Int) + m == 136) = false := by
          rw [beq_eq_false_iff_ne]; omega
        have FB := Lib.hid (show Hd (data ++ zs.take (k + m)) A' (bs'.take c' ++ ((zs.drop k).take m ++ bs'.drop (c' + m))) (c' + m) by
          rw [DT.out]
          have h := HH.out.more ((zs.drop k).take m) YB.out (by rw [HYL.out]; omega)
          rw [HYL.out] at h
          exact h)
        go_wp2
        go_roundw
        case rel => exact ⟨k + m, by omega, LF.out, ⟨_, _, _, c' + m, HS2.out, FB.out⟩, HK2.out⟩
        case measure => simp [sizeOfV] <;> omega
    · obtain rfl : k = sn := by omega
      rw [Nat.sub_self]
      have HF := Lib.hid (show ∃ A' r' bs' c', Sp wr b t pre A' r' bs' (c' : Nat) ((data ++ zs).length : Nat) ∧ Hd (data ++ zs) A' bs' c' from ⟨A', r', bs', c', by
        rw [List.length_append, HZL.out]
        push_cast
        exact hs, by
        rw [List.take_of_length_le (by rw [HZL.out]; exact Nat.le_refl _)] at hh
        exact hh⟩)
      have HK := Lib.hid hkep
      clear hs hh hkep
      go_wp2
      go_end0
      exact ⟨rfl, HF.out, HK.out⟩
end Kk
end Go.Proofs.YtaniijpppmipbaaDoor
