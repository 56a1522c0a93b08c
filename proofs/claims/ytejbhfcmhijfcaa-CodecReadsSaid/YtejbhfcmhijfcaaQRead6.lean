/-
  What the reference's reader answers: Hash.
  Conditions: the reader is one that the reference's NewReader made of at most 10^6 bytes.
-/
import Derived.Test.YtejbhfcmhijfcaaQRead5
namespace Go.Proofs.Ytejbhfcmhijfcaa
open Go.RowKit Go.Shelf
set_option linter.unusedVariables false
namespace Cd

theorem own_block_ge' {w : World} {base : Nat} {v : Value} {n : Nat} {xs : List Value} (h : w.ownsRow base 5 1 v n xs) : ∀ q, v.ownBlock = some q → base ≤ q := fun q hq => (h.lt q hq).1
theorem kep_past {S T : Nat → Prop} {w w2 w3 : World} (h : Kep S w w2) (h3 : Kep T w2 w3) (hT : ∀ i, T i → w.heap.size ≤ i) : Kep S w w3 :=
  ⟨h3.os.trans h.os, h3.tape.trans h.tape, h3.output.trans h.output, Nat.le_trans h.size h3.size, fun i hi hs => (h3.block i (Nat.lt_of_lt_of_le hi h.size) (fun ht => absurd (hT i ht) (by omega))).trans (h.block i hi hs)⟩
/-- Zeroes, the first j of them written over. -/
def mix (ys : List Int) : Nat → Array Value
  | 0 => Z32
  | j + 1 => (mix ys j).setIfInBounds j (.int .u8 (ys.getD j 0))
theorem mix_size (ys : List Int) : ∀ j, (mix ys j).size = 32
  | 0 => rfl
  | j + 1 => by rw [mix, Array.size_setIfInBounds, mix_size ys j]
theorem mix_get (ys : List Int) (i : Nat) (hi : i < 32) : ∀ j, (mix ys j)[i]? = some (.int .u8 (if i < j then ys.getD i 0 else 0))
  | 0 => by
    show Z32[i]? = _
    rw [z32, List.getElem?_toArray, List.getElem?_map, List.getElem?_replicate]
    simp [hi]
  | j + 1 => by
    rw [mix, Array.getElem?_setIfInBounds, mix_size, mix_get ys i hi j]
    by_cases e : j = i
    · subst e
      simp [hi]
    · rw [if_neg e]
      by_cases h : i < j
      · rw [if_pos h, if_pos (by omega)]
      · rw [if_neg h, if_neg (by omega)]
theorem mix_full (ys : List Int) (h : ys.length = 32) : mix ys 32 = (ys.map (Value.int .u8)).toArray := by
  apply Array.ext_getElem?
  intro i
  rcases Nat.lt_or_ge i 32 with hi | hi
  · rw [mix_get ys i hi 32, if_pos hi, List.getElem?_toArray, List.getElem?_map, List.getElem?_eq_getElem (by omega), getD_eq _ _ (by omega)]
    rfl
  · rw [Array.getElem?_eq_none (by rw [mix_size]; exact hi), Array.getElem?_eq_none (by simp; omega)]

set_option maxRecDepth 100000 in
set_option maxHeartbeats 2000000 in
theorem tHash_ (b : Nat) (A : Option Addr) (n c : Nat) (zs : List Int) (kk : Int) (k' : Nat) (f' : Option (Int × Int)) (hs ys : List Int) (w : World)
    (TK : ∀ w', Bel w w' → Calls Try.prog 66 #[.pointer (some ⟨b, 0, none⟩), .int .i64 32, .int .i64 kk] w' fun r w1 => ∃ v, r = .returned v ∧ w1.ownsRow w'.heap.size 5 1 v ys.length (ys.map (Value.int .u8)) ∧ QT w1 b A n c zs k' f' ∧ Kep (fun i => i = b) w' w1)
    (hk : w.cell? ⟨b, 1, none⟩ = some (.int .i64 kk)) (hbl : b < w.heap.size) (hA : 0 < n → ∀ x : Addr, A = some x → x.block < w.heap.size) (hlen : ys.length ≤ 32) (hm : mix ys ys.length = (hs.map (Value.int .u8)).toArray) (hl : hs.length = 32) :
    Calls Try.prog 51 #[.pointer (some ⟨b, 0, none⟩)] w fun r w' => r = .returned (hash hs) ∧ QT w' b A n c zs k' f' ∧ Kep (fun i => i = b) w w' := by
  obtain ⟨Y, hY⟩ : ∃ Y, hs.map (Value.int .u8) = Y := ⟨_, rfl⟩
  have EY := Lib.hid (show hash hs = .agg Y.toArray by rw [← hY])
  have YL : Y.length = 32 := by rw [← hY, List.length_map]; exact hl
  have hz : Y.toArray.size = 32 := by simp [YL]
  have HO := Lib.hid (all_oneCell_toArray (show ∀ v ∈ Y, v.oneCell' = true by rw [← hY]; exact ints_ok _))
  have HI := Lib.hid (show (Try.prog.info? 44).map (·.size) = some Y.length by rw [YL]; exact info_hash)
  have HI2 := Lib.hid (show (Try.prog.info? 44).map (·.size) = some Y.toArray.size by rw [hz]; exact info_hash)
  have HM := Lib.hid (show mix ys ys.length = Y.toArray by rw [hm, hY])
  have HZ := Lib.hid hz
  have HYL := Lib.hid YL
  have hAW := ((Bel.refl w).alloc ZO).alloc ZO
  obtain ⟨W, hW⟩ : ∃ W, (w.alloc ZO).alloc ZO = W := ⟨_, rfl⟩
  rw [hW] at hAW
  have HA := Lib.hid hAW
  have hWs : W.heap.size = w.heap.size + 2 := by rw [← hW]; simp
  have B2 := Lib.hid (show Blk W w.heap.size Z32 44 by rw [← hW]; exact (Blk.new w _ _).alloc _)
  have B3 := Lib.hid (show Blk W (w.heap.size + 1) Z32 44 by
    rw [← hW]
    have := Blk.new (w.alloc ZO) Z32 44
    rwa [World.size_alloc] at this)
  have c1 : W.cell? ⟨b, 1, none⟩ = some (.int .i64 kk) := bel_cell hAW hk
  have T := Lib.hid (TK W hAW)
  clear hk hm hl hY YL hz TK hAW
  rw [EY.out]
  go_enter Try.func51, Try.ntmps51
  go_wp2_with fail
  refine (T.out).mono ?_
  rintro r w1 ⟨v, rfl, ho, hq, hk⟩

  obtain ⟨A2, c2, hv, hs2⟩ := sl_of_own ho
  have hub : ∀ x : Addr, A2 = some x → W.heap.size ≤ x.block := by subst hv; exact own_block_ge ho
  subst hv
  have HS := Lib.hid hs2
  have HUB := Lib.hid hub
  have HQ := Lib.hid hq
  have HK := Lib.hid hk
  have C2 := Lib.hid (B2.out.kep hk (Nat.ne_of_gt hbl))
  have C3 := Lib.hid (B3.out.kep hk (by omega))
  obtain ⟨L, hL⟩ : ∃ L, ys.length = L := ⟨_, rfl⟩
  rw [hL] at hlen HM ⊢
  have HL := Lib.hid hL
  clear ho hq hk hs2 hub c1 hL
  have hlen' : (L : Int) ≤ 32 := by omega
  go_wp2_with fail
  go_loopw [5] (fun i wr => ∃ j : Nat, j ≤ L ∧ i = .int .i64 j ∧ Hid (Blk wr (w.heap.size + 1) (mix ys j) 44) ∧ Hid (Kep (fun i => i = w.heap.size + 1) w1 wr)) (fun i _ => L - (intOf i).toNat)
  case atStart => exact ⟨0, Nat.zero_le _, rfl, C3.out, Kep.refl _ _⟩
  case round =>
    obtain ⟨j, hj, rfl, HB, HKr⟩ := hrel
    by_cases hlt : j < L
    · obtain ⟨b1, o1, hA2, hb1, hc1⟩ := HS.out.ints.2 (by have := HL.out; omega)
      have hne : ¬ b1 = w.heap.size + 1 := by have := HUB.out _ hA2; simp only at this; omega
      have hx := HKr.out.cell hne (hc1 j (by have := HL.out; omega))
      subst hA2
      have kx : wr.cell? ⟨w.heap.size + 1, j, none⟩ = some (.int .u8 0) := HB.out.cell j (by rw [mix_get ys j (by omega) j, if_neg (by omega)])
      have fx := HB.out.frozen j
      have g3 : (j : Int) < (L : Int) := by omega
      have g4 : (j : Int) < 32 := by omega
      have g5 : (0 : Int) ≤ (j : Int) := by omega
      have HN := Lib.hid (show Blk (wr.setCell ⟨w.heap.size + 1, j, none⟩ (.int .u8 (ys.getD j 0))) (w.heap.size + 1) (mix ys (j + 1)) 44 from HB.out.set j _)
      have HN2 := Lib.hid (show Kep (fun i => i = w.heap.size + 1) w1 (wr.setCell ⟨w.heap.size + 1, j, none⟩ (.int .u8 (ys.getD j 0))) from HKr.out.set_self j _)
      clear hc1
      generalize ys.getD j 0 = z at hx HN HN2
      go_wp2
      go_roundw
      case rel => exact ⟨j + 1, by omega, by go_num, HN.out, HN2.out⟩
      case measure => simp [intOf]; omega
    · obtain rfl : j = L := by omega
      have RG := Lib.hid (show wr.rangeAt (w.heap.size + 1) 0 Y from fun i v hv => by
        rw [Nat.zero_add]
        exact HB.out.cell i (by rw [HM.out]; simpa using hv))
      have TH := Lib.hid (show wr.there w.heap.size 0 Y.toArray.size by
        rw [HZ.out]
        exact blk_there (C2.out.kep HKr.out (by omega)) (Nat.le_refl _))
      go_wp2_with (first | (refine wpList_load_mid rfl 44 (.tmp 3) rfl (w.heap.size + 1) 0 rfl Y _ RG.out Try.underlying44 rfl HI.out ?_) | (refine wpList_store_mid rfl 44 (.tmp 2) (.tmp 24) rfl w.heap.size 0 Y.toArray rfl rfl TH.out HI2.out HO.out ?_))
      refine bodyPost_ret (results_c1 Try.results51 _ _ ⟨w.heap.size, 0, none⟩ (.agg Y.toArray) rfl (run_loadVar_mid (P := Try.prog) _ _ _ 44 Y _ (World.rangeAt_setCells_same _ _ _ _ (by have := TH.out; simpa using this)) Try.underlying44 rfl HI.out)) rfl ⟨rfl, ?_, ?_⟩
      · refine (HQ.out.kep HKr.out (by omega) (fun hn x hx => by have := hA hn x hx; omega)).kep (kep_setCells w.heap.size _ 0 wr) (Nat.ne_of_lt hbl) (fun hn x hx => by have := hA hn x hx; omega)
      · exact kep_past (kep_past ((Kep.of_bel HA.out).trans HK.out) HKr.out (fun i hi => by omega)) (kep_setCells w.heap.size _ 0 wr) (fun i hi => by omega)
end Cd
end Go.Proofs.Ytejbhfcmhijfcaa
