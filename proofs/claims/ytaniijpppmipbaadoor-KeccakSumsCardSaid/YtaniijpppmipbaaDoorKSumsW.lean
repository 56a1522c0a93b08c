/-
  The walk of the law KeccakSums: it returns true. Conditions: the table of turns lies in its variable; no slice takes more room than the form's reach; a state has 25 words.
-/
import Derived.Test.YtaniijpppmipbaaDoorKEq
import Derived.Test.YtaniijpppmipbaaDoorKTurns
import Derived.Test.YtaniijpppmipbaaDoorKLists
import Derived.Test.YtaniijpppmipbaaDoorQJoin
import Derived.Test.YtaniijpppmipbaaDoorQRdTx
namespace Go.Proofs.YtaniijpppmipbaaDoor
open Go.RowKit Go.Shelf
set_option linter.unusedVariables false
namespace Kk

theorem tot_cons (z : List Int) (zss : List (List Int)) : ∀ k, tot (z :: zss) (k + 1) = z.length + tot zss k
  | 0 => by show 0 + z.length = z.length + 0; omega
  | k + 1 => by
    show tot (z :: zss) (k + 1) + ((z :: zss).getD (k + 1) []).length = z.length + (tot zss k + (zss.getD k []).length)
    rw [tot_cons z zss k]
    show z.length + tot zss k + (zss.getD k []).length = _
    omega
/-- What a text is read as, and with which error. -/
def rdOk (s : ByteArray) : Bool := decide (s.size = 64) && (List.range 64).all fun i => decide (0 ≤ dvs s i)
def rdV (s : ByteArray) : List Int := if rdOk s = true then rdB (dvs s) 64 else List.replicate 32 0
def rdErr (s : ByteArray) : Int := if rdOk s = true then 0 else 5
theorem rdOk_iff (s : ByteArray) : rdOk s = true ↔ s.size = 64 ∧ ∀ i, i < 64 → 0 ≤ dvs s i := by
  unfold rdOk
  simp [List.all_eq_true]
theorem rdV_len (s : ByteArray) : (rdV s).length = 32 := by
  unfold rdV
  split
  · exact rdB_len _ _
  · simp
theorem rd_post {s : ByteArray} {e : Ending} (hl : s.size = 64) (h : RdPost s e) : e = .returned (.tuple #[hsV (rdV s), .int .i64 (rdErr s)]) := by
  rcases h with ⟨h1, h2⟩ | ⟨⟨i, hi, hn⟩, h2⟩
  · have h3 := (rdOk_iff s).2 ⟨hl, h1⟩
    unfold rdV rdErr
    rw [if_pos h3, if_pos h3]
    exact h2
  · have h3 : ¬ rdOk s = true := fun h => by have := ((rdOk_iff s).1 h).2 i hi; omega
    unfold rdV rdErr
    rw [if_neg h3, if_neg h3, h2]
    rfl
theorem rd_no64 {s : ByteArray} (hl : s.size ≠ 64) : (Ending.returned (.tuple #[.agg Z32l.toArray, .int .i64 5])) = .returned (.tuple #[hsV (rdV s), .int .i64 (rdErr s)]) := by
  have h3 : ¬ rdOk s = true := fun h => hl ((rdOk_iff s).1 h).1
  unfold rdV rdErr
  rw [if_neg h3, if_neg h3]
  rfl
theorem readP (s : ByteArray) (w : World) (hm : s.size ≤ 1000000000000) : Calls Tryd.prog 14 #[.string s] w fun e w' => e = .returned (.tuple #[hsV (rdV s), .int .i64 (rdErr s)]) ∧ Bel w w' := by
  by_cases hl : s.size = 64
  · exact (read_text s w hl).mono fun e w' h => ⟨rd_post hl h.1, h.2⟩
  · exact (read_len s w hl hm).mono fun e w' h => ⟨h.1.trans (rd_no64 hl), h.2⟩
theorem readR (s : ByteArray) (w : World) (hm : s.size ≤ 1000000000000) : Calls Tryd.prog 15 #[.string s] w fun e w' => e = .returned (.tuple #[hsV (rdV s), .int .i64 (rdErr s)]) ∧ Bel w w' := by
  by_cases hl : s.size = 64
  · exact (refRead s w hl).mono fun e w' h => ⟨rd_post hl h.1, h.2⟩
  · exact (refRead_len s w hl hm).mono fun e w' h => ⟨h.1.trans (rd_no64 hl), h.2⟩

/-- What the law compares. -/
structure Sv (w0 W : World) (yb rb gb st n n2 : Nat) (zs : List Int) (zss : List (List Int)) (vi : Value) (Al : Option Addr) : Prop where
  ly : yb < W.heap.size
  lr : rb < W.heap.size
  lg : gb < W.heap.size
  ls : st < W.heap.size
  row : W.ownsRow w0.heap.size 5 1 vi n (zs.map (Value.int .u8))
  lst : Lst W Al n2 zss
  bel : Bel w0 W
theorem Sv.up {w0 W W' : World} {yb rb gb st n n2 : Nat} {zs : List Int} {zss : List (List Int)} {vi : Value} {Al : Option Addr} (h : Sv w0 W yb rb gb st n n2 zs zss vi Al) (hb : Bel W W') : Sv w0 W' yb rb gb st n n2 zs zss vi Al :=
  have s := Below.size hb
  ⟨Nat.lt_of_lt_of_le h.ly s, Nat.lt_of_lt_of_le h.lr s, Nat.lt_of_lt_of_le h.lg s, Nat.lt_of_lt_of_le h.ls s, owns_bel h.row hb, h.lst.bel hb, h.bel.trans hb⟩
/-- The cells of a slice of slices. -/
theorem Lst.vals {w : World} {A : Option Addr} {n : Nat} {zss : List (List Int)} (h : Lst w A n zss) : ∃ vs : List Value, vs.length = n ∧ (∀ u ∈ vs, u.oneCell' = true) ∧ (∀ W, Bel w W → ∀ ad, A = some ad → ∀ j u, vs[j]? = some u → W.cell? (ad.add j) = some u) ∧
    ∀ i, i < n → ∃ P m k, vs[i]? = some (.slice P m k) ∧ One w P m k (zss.getD i []) := by
  rcases Nat.eq_zero_or_pos n with h0 | h0
  · subst h0
    exact ⟨[], rfl, fun u hu => (by cases hu), fun W _ ad _ j u hu => (by simp at hu), fun i hi => absurd hi (by omega)⟩
  · obtain ⟨b, o, rfl, hlt, hc⟩ := h.2 h0
    have : ∀ i, ∃ v : Value, i < n → (∃ P m k, v = .slice P m k ∧ One w P m k (zss.getD i [])) ∧ w.cell? ⟨b, o + i, none⟩ = some v := fun i => by
      by_cases hi : i < n
      · obtain ⟨P, m, k, h1, h2⟩ := hc i hi
        exact ⟨_, fun _ => ⟨⟨P, m, k, rfl, h2⟩, h1⟩⟩
      · exact ⟨.slice none 0 0, fun h => absurd h hi⟩
    obtain ⟨f, hf⟩ := Classical.axiomOfChoice this
    have hg : ∀ i, i < n → ((List.range n).map f)[i]? = some (f i) := fun i hi => by rw [List.getElem?_map, List.getElem?_range hi]; rfl
    refine ⟨(List.range n).map f, by simp, fun u hu => ?_, fun W hW ad had j u hu => ?_, fun i hi => ?_⟩
    · obtain ⟨i, hi, rfl⟩ := List.mem_map.1 hu
      obtain ⟨⟨P, m, k, e, _⟩, _⟩ := hf i (by simpa using hi)
      rw [e]; rfl
    · cases had
      have hj : j < n := by
        have := (List.getElem?_eq_some_iff.1 hu).1
        simpa using this
      rw [hg j hj] at hu
      injection hu with hu
      subst hu
      have e := (Below.cell (p := ⟨b, o + j, none⟩) hW hlt).trans (hf j hj).2
      rw [← e]
      unfold Addr.add
      by_cases h0 : j = 0
      · simp [h0]
      · simp [h0]
    · obtain ⟨⟨P, m, k, e, h2⟩, _⟩ := hf i hi
      exact ⟨P, m, k, by rw [hg i hi, e], h2⟩

theorem wpList_append_lst {w : World} {ops : Array Oper} {rest : List Oper} {o : Oper} {a : Act} {Q : Exit → Act → World → Prop} (hgd : o.guard = none) (s x : Operand)
    (ho : o.op = .call { callee := .builtin .append, args := #[s, x], argTypes := #[23, 23] })
    (base : Nat) (v : Value) (k : Nat) (xs : List Value) (hs : a.eval s = v) (hown : w.ownsRow base 22 1 v k xs) (A : Option Addr) (m c : Nat) (vs : List Value) (hx : a.eval x = .slice A m c) (hvl : vs.length = m) (h1 : ∀ u ∈ vs, u.oneCell' = true)
    (hc : ∀ ad, A = some ad → ∀ j u, vs[j]? = some u → w.cell? (ad.add j) = some u) (hnil : A = none → c = 0 ∧ m = 0) (h63 : k + m ≤ maxLen) (hby : (k + m) * 24 ≤ 140737488355328) (hb : base ≤ w.heap.size)
    (h : ∀ v' w', w'.ownsRow base 22 1 v' (k + m) (xs ++ vs) → w.grownBy w' v.ownBlock → wpList Tryd.prog ops Q rest (a.put o.dst v') w') : wpList Tryd.prog ops Q (o :: rest) a w := by
  obtain ⟨i0, hi, hz0, hz1, hz2⟩ := info_parts Tryd.info_sl
  cases A with
  | none =>
    obtain ⟨rfl, rfl⟩ := hnil rfl
    have hz : vs = [] := List.length_eq_zero_iff.1 hvl
    subst hz
    refine wpList_append_own_none hgd s x 23 ho base 22 i0 1 Tryd.underlying23 hi v k xs hs hown hx ?_
    exact h v w (by simpa using hown) ⟨rfl, rfl, rfl, Nat.le_refl _, fun _ _ _ => rfl⟩
  | some ad =>
    refine wpList_append_own w hgd s x 23 ho base 22 i0 (.slice none 0 0) 1 24 Tryd.underlying23 hi hz0 hz1 hz2 rfl (by decide) v k xs hs hown ad m c vs hx (by omega) (hc ad rfl) h1 h63 hby hb ?_
    intro v' w' h2 h3 _
    exact h v' w' h2 h3

set_option maxRecDepth 100000 in
set_option maxHeartbeats 16000000 in
theorem sumsLaw (A : Option Addr) (n c : Nat) (zs : List Int) (kd : Int) (A2 : Option Addr) (n2 c2 : Nat) (zss : List (List Int)) (s : ByteArray) (T : List Wd) (w : World)
    (hz : Sl w A n c zs) (hby : By zs) (hcm : c ≤ maxLen) (hnm : n ≤ 140737488355328) (k0 : 0 ≤ kd) (k1 : kd ≤ 255) (hL : Lst w A2 n2 zss) (hn2 : n2 ≤ 5864062014634) (hnil : A2 = none → c2 = 0) (hs : s.size ≤ maxLen) (hTl : T.length = 25) (hT : Tn w) :
    Calls Tryd.prog 3 #[.slice A n c, .int .u8 kd, .slice A2 n2 c2, .string s, .agg (T.map V).toArray] w fun e w' => e = .returned (.bool true) ∧ Bel w w' := by
  have HZ := Lib.hid hz
  have HT := Lib.hid hT
  have HBY := Lib.hid hby
  have HL := Lib.hid hL
  have HCM := Lib.hid hcm
  have HZl := Lib.hid hz.len
  have hs9 : s.size ≤ 9223372036854775807 := by unfold maxLen at hs; omega
  obtain ⟨D, hD⟩ : ∃ D, D = T.map V := ⟨_, rfl⟩
  rw [← hD]
  have HDD := Lib.hid hD
  have HDl := Lib.hid (show D.length = 25 by rw [hD, List.length_map, hTl])
  have iD : (Tryd.prog.info? 25).map (·.size) = some D.length := by rw [HDl.out]; kernel_rfl
  obtain ⟨st, hst⟩ : ∃ st, st = w.heap.size := ⟨_, rfl⟩
  obtain ⟨w1, hw1⟩ : ∃ w1, w.alloc (.cells D.toArray 25) = w1 := ⟨_, rfl⟩
  have RS := Lib.hid (show w1.rangeAt st 0 D by rw [← hw1, hst]; exact blk_range (Blk.new w _ _))
  have HB1 := Lib.hid (show Bel w w1 by rw [← hw1]; exact (Bel.refl w).alloc _)
  have hst1 : st < w1.heap.size := by rw [← hw1, hst]; simp
  have HW1 := Lib.hid hw1
  have HST := Lib.hid hst
  obtain ⟨vs, hv1, hv2, hv3, hv4⟩ := HL.out.vals
  have OW := Lib.hid (show (w1.alloc (.cells #[.slice A n c] 22)).ownsRow w1.heap.size 22 1 (.slice (some ⟨w1.heap.size, 0, none⟩) 1 1) 1 [.slice A n c] from
    World.ownsRow_lit w1 #[.slice A n c] 1 (Nat.le_refl _) (by unfold maxLen; omega) rfl)
  have HV := Lib.hid (And.intro hv1 (And.intro hv2 (And.intro hv3 hv4)))
  clear hz hby hcm hL hT hD hst hw1 hs hv1 hv2 hv3 hv4
  go_enter Tryd.func3, Tryd.ntmps3
  go_upto_region 1 with fail
  rw [HW1.out, ← HST.out]
  have HN0 := Lib.hid (show A2 = none → c2 = 0 ∧ n2 = 0 from fun h => ⟨hnil h, by
    rcases Nat.eq_zero_or_pos n2 with h0 | h0
    · exact h0
    · obtain ⟨b, o, e, _⟩ := HL.out.2 h0
      rw [e] at h; cases h⟩)
  clear hnil
  go_wp2_with (at_builtin; refine wpList_append_lst rfl _ _ rfl w1.heap.size _ 1 _ rfl OW.out A2 n2 c2 vs rfl HV.out.1 HV.out.2.1 (HV.out.2.2.1 _ (HB1.out.alloc _)) HN0.out (by unfold maxLen; omega) (by omega) (by rw [World.size_alloc]; omega) ?_; intro v' w2 hown hgrow)
  have HB2 := Lib.hid (show Bel w1 w2 from Bel.grown ((Bel.refl w1).alloc _) hgrow (fun j hj => (OW.out.lt j hj).1))
  have BB2 := Lib.hid (HB1.out.trans HB2.out)
  obtain ⟨g, cap, rfl, _, _, hgl⟩ := own_form hown (by omega)
  have L2 := Lib.hid (show Lst w2 (some ⟨g, 0, none⟩) (1 + n2) (zs :: zss) from by
    refine ⟨by show zss.length + 1 = _; rw [HL.out.1]; omega, fun _ => ⟨g, 0, rfl, hgl, fun i hi => ?_⟩⟩
    have hcell := hown.cellAt i (by omega)
    rw [Nat.zero_add, hcell]
    match i, hi with
    | 0, _ => exact ⟨A, n, c, rfl, HZ.out.bel BB2.out, HBY.out, hnm, HCM.out⟩
    | i + 1, hi =>
      obtain ⟨P, m, k, h1, h2⟩ := HV.out.2.2.2 i (by omega)
      exact ⟨P, m, k, h1, h2.bel BB2.out⟩)
  have LG := Lib.hid (long_ (some ⟨g, 0, none⟩) (1 + n2) cap (zs :: zss) w2 L2.out (by omega))
  clear hown hgrow OW HN0 HV hgl
  go_wp2_with fail
  refine (LG.out).mono ?_
  rintro e w' ⟨rfl, rfl⟩
  have AW := Lib.hid (fun (W : World) (hW : Bel w W) => awake W (HT.out.bel hW))
  by_cases hl : lng (1 + n2) (zs :: zss) = true
  · rw [hl]
    go_wp2_with fail
    refine (AW.out w2 BB2.out).mono ?_
    rintro e w3 ⟨rfl, k3⟩
    have K3 := Lib.hid (BB2.out.trans k3)
    clear k3
    go_wp2
    go_ret
    exact ⟨rfl, K3.out⟩
  have hl2 : lng (1 + n2) (zs :: zss) = false := by simpa using hl
  rw [hl2]
  by_cases hbig : 100 < s.size
  · have hb : (100 : Int) < (s.size : Int) := by omega
    go_wp2_with fail
    refine (AW.out w2 BB2.out).mono ?_
    rintro e w3 ⟨rfl, k3⟩
    have K3 := Lib.hid (BB2.out.trans k3)
    clear k3
    go_wp2
    go_ret
    exact ⟨rfl, K3.out⟩
  have hnl : tot (zs :: zss) (1 + n2) ≤ 700 ∧ 1 + n2 ≤ 40 := by
    have h2 := hl2
    unfold lng at h2
    rw [decide_eq_false_iff_not] at h2
    omega
  have hn7 : n + tot zss n2 ≤ 700 := by
    have h := hnl.1
    rw [Nat.add_comm 1 n2, tot_cons, HZl.out] at h
    exact h
  have hn4 : n2 ≤ 39 := by omega
  have hb : ¬ (100 : Int) < (s.size : Int) := by omega
  have hb' : (s.size : Int) ≤ 100 := by omega
  clear hl hl2 hnl LG L2
  have CB := Lib.hid (copyBytes A n c zs w2 (HZ.out.bel BB2.out) (by omega))
  obtain ⟨R', hYR⟩ : ∃ R', R' = (rdV s).map B8 := ⟨_, rfl⟩
  have YRl := Lib.hid (show R'.length = 32 by rw [hYR, List.length_map]; exact rdV_len s)
  have YRI := Lib.hid (show (Tryd.prog.info? 31).map (·.size) = some R'.length by rw [YRl.out]; exact info_hash)
  have YRI2 := Lib.hid (show (Tryd.prog.info? 31).map (·.size) = some R'.toArray.size by rw [List.size_toArray]; exact YRI.out)
  have YRO := Lib.hid (all_oneCell_toArray (cs := R') (by rw [hYR]; exact ints_b8 _))
  have YRV := Lib.hid (show hsV (rdV s) = .agg R'.toArray by rw [hYR])
  clear hYR
  obtain ⟨Y, hYS⟩ : ∃ Y, Y = (sumOf zs).map B8 := ⟨_, rfl⟩
  have YSl := Lib.hid (show Y.length = 32 by rw [hYS, List.length_map]; exact len_hashOf _)
  have YSI := Lib.hid (show (Tryd.prog.info? 31).map (·.size) = some Y.length by rw [YSl.out]; exact info_hash)
  have YSI2 := Lib.hid (show (Tryd.prog.info? 31).map (·.size) = some Y.toArray.size by rw [List.size_toArray]; exact YSI.out)
  have YSO := Lib.hid (all_oneCell_toArray (cs := Y) (by rw [hYS]; exact ints_b8 _))
  have YSV := Lib.hid (show hsV (sumOf zs) = .agg Y.toArray by rw [hYS])
  clear hYS
  obtain ⟨er, her⟩ : ∃ er, er = rdErr s := ⟨_, rfl⟩
  have HER := Lib.hid her
  clear her
  go_wp2_with fail
  refine (CB.out).mono ?_
  rintro e w3 ⟨vi, rfl, fi⟩
  obtain ⟨Ai, ci, rfl, _, _, _, _⟩ := own_ptr fi.1
  have B3 := Lib.hid (BB2.out.trans fi.2)
  have RI := Lib.hid (show w3.ownsRow w.heap.size 5 1 (.slice Ai n ci) n (zs.map (Value.int .u8)) by
    have h := owns_mono fi.1 (Below.size BB2.out)
    rw [HZl.out] at h
    exact h)
  rw [HZl.out]
  have B23 := Lib.hid fi.2
  have CL := Lib.hid (copyLists A2 n2 c2 zss w3 (HL.out.bel B3.out) (by omega) (by omega))
  clear fi CB
  go_wp2_with fail
  refine (CL.out).mono ?_
  rintro e w4 ⟨Al, cl, rfl, hal, k4⟩
  have B4 := Lib.hid (B3.out.trans k4)
  have B24 := Lib.hid (B23.out.trans k4)
  have LL := Lib.hid hal
  have RI4 := Lib.hid (owns_bel RI.out k4)
  have RP := Lib.hid (readP s w4 (by omega))
  rw [← HER.out] at RP
  clear hal k4 CL
  go_wp2_with fail
  refine (RP.out).mono ?_
  rintro e w5 ⟨rfl, k5⟩
  have B45 := Lib.hid (show Bel w4 w5 from k5)
  rw [YRV.out]
  clear k5 RP

  obtain ⟨q1, q2, q3, q4⟩ := put32 w5 R' YRl.out
  have TQ5 := Lib.hid q1
  obtain ⟨w6, hw5⟩ : ∃ w6, (w5.alloc (.cells Z32l.toArray 31)).setCells w5.heap.size 0 R' = w6 := ⟨_, rfl⟩
  obtain ⟨rb, hb5⟩ : ∃ rb, rb = w5.heap.size := ⟨_, rfl⟩
  rw [hw5] at q2 q3 q4
  rw [← hb5] at q3 q4
  have BQ5 := Lib.hid q2
  have RQ5 := Lib.hid q3
  have LQ5 := q4
  have HW5 := Lib.hid hw5
  have HBQ5 := Lib.hid hb5
  clear q1 q2 q3 q4 hw5 hb5
  go_upto_region 5 with (refine wpList_store_mid rfl 31 (.tmp 13) (.tmp 36) rfl w5.heap.size 0 R'.toArray rfl rfl TQ5.out YRI2.out YRO.out ?_)
  rw [HW5.out, ← HBQ5.out]
  have RR := Lib.hid (readR s w6 (by omega))
  rw [← HER.out] at RR
  go_wp2_with fail
  refine (RR.out).mono ?_
  rintro e w7 ⟨rfl, k7⟩
  have B67 := Lib.hid (show Bel w6 w7 from k7)
  rw [YRV.out]
  clear k7 RR

  obtain ⟨q1, q2, q3, q4⟩ := put32 w7 R' YRl.out
  have TQ7 := Lib.hid q1
  obtain ⟨w8, hw7⟩ : ∃ w8, (w7.alloc (.cells Z32l.toArray 31)).setCells w7.heap.size 0 R' = w8 := ⟨_, rfl⟩
  obtain ⟨gb, hb7⟩ : ∃ gb, gb = w7.heap.size := ⟨_, rfl⟩
  rw [hw7] at q2 q3 q4
  rw [← hb7] at q3 q4
  have BQ7 := Lib.hid q2
  have RQ7 := Lib.hid q3
  have LQ7 := q4
  have HW7 := Lib.hid hw7
  have HBQ7 := Lib.hid hb7
  clear q1 q2 q3 q4 hw7 hb7
  go_upto_region 6 with (refine wpList_store_mid rfl 31 (.tmp 15) (.tmp 41) rfl w7.heap.size 0 R'.toArray rfl rfl TQ7.out YRI2.out YRO.out ?_)
  rw [HW7.out, ← HBQ7.out]
  have BX8 := Lib.hid ((((B4.out.trans B45.out).trans BQ5.out).trans B67.out).trans BQ7.out)
  have SR := Lib.hid (refSum A n c zs w8 (HZ.out.bel BX8.out) HBY.out (by omega))
  go_wp2_with fail
  refine (SR.out).mono ?_
  rintro e w9 ⟨rfl, k9⟩
  have B89 := Lib.hid (show Bel w8 w9 from k9)
  rw [YSV.out]
  clear k9 SR

  obtain ⟨q1, q2, q3, q4⟩ := put32 w9 Y YSl.out
  have TQ9 := Lib.hid q1
  obtain ⟨w10, hw9⟩ : ∃ w10, (w9.alloc (.cells Z32l.toArray 31)).setCells w9.heap.size 0 Y = w10 := ⟨_, rfl⟩
  obtain ⟨yb, hb9⟩ : ∃ yb, yb = w9.heap.size := ⟨_, rfl⟩
  rw [hw9] at q2 q3 q4
  rw [← hb9] at q3 q4
  have BQ9 := Lib.hid q2
  have RQ9 := Lib.hid q3
  have LQ9 := q4
  have HW9 := Lib.hid hw9
  have HBQ9 := Lib.hid hb9
  clear q1 q2 q3 q4 hw9 hb9
  go_upto_region 7 with (refine wpList_store_mid rfl 31 (.tmp 17) (.tmp 44) rfl w9.heap.size 0 Y.toArray rfl rfl TQ9.out YSI2.out YSO.out ?_)
  rw [HW9.out, ← HBQ9.out]
  have B410 := (((B45.out.trans BQ5.out).trans B67.out).trans BQ7.out).trans (B89.out.trans BQ9.out)
  have B610 := (B67.out.trans BQ7.out).trans (B89.out.trans BQ9.out)
  have B810 := B89.out.trans BQ9.out
  have B110 := HB2.out.trans (B24.out.trans B410)
  have S10 : w10.rangeAt yb 0 Y ∧ w10.rangeAt rb 0 R' ∧ w10.rangeAt gb 0 R' ∧ w10.rangeAt st 0 D ∧ Sv w w10 yb rb gb st n n2 zs zss (.slice Ai n ci) Al := ⟨RQ9.out, range_bel RQ5.out B610 LQ5, range_bel RQ7.out B810 LQ7, range_bel RS.out B110 hst1, LQ9, Nat.lt_of_lt_of_le LQ5 (Below.size B610), Nat.lt_of_lt_of_le LQ7 (Below.size B810), Nat.lt_of_lt_of_le hst1 (Below.size B110), owns_bel RI4.out B410, LL.out.bel B410, B4.out.trans B410⟩
  have KEEP := Lib.hid (show ∀ W W' : World, (W.rangeAt yb 0 Y ∧ W.rangeAt rb 0 R' ∧ W.rangeAt gb 0 R' ∧ W.rangeAt st 0 D ∧ Sv w W yb rb gb st n n2 zs zss (.slice Ai n ci) Al) → Bel W W' → (W'.rangeAt yb 0 Y ∧ W'.rangeAt rb 0 R' ∧ W'.rangeAt gb 0 R' ∧ W'.rangeAt st 0 D ∧ Sv w W' yb rb gb st n n2 zs zss (.slice Ai n ci) Al) from
    fun W W' h hb => ⟨range_bel h.1 hb h.2.2.2.2.ly, range_bel h.2.1 hb h.2.2.2.2.lr, range_bel h.2.2.1 hb h.2.2.2.2.lg, range_bel h.2.2.2.1 hb h.2.2.2.2.ls, h.2.2.2.2.up hb⟩)
  have SB := Lib.hid (show ∀ W, (W.rangeAt yb 0 Y ∧ W.rangeAt rb 0 R' ∧ W.rangeAt gb 0 R' ∧ W.rangeAt st 0 D ∧ Sv w W yb rb gb st n n2 zs zss (.slice Ai n ci) Al) → Calls Tryd.prog 17 #[.slice Ai n ci] W fun e w' => e = .returned (.agg Y.toArray) ∧ Bel W w' from fun W hW => by
    rw [← YSV.out]
    obtain ⟨A', c', e, h1, h2, h3⟩ := ints_of_own hW.2.2.2.2.row
    injection e with e1 e2 e3
    subst e1
    subst e3
    exact hashSumS _ _ _ zs W ⟨h1, h2, h3, HBY.out⟩ (by omega) (HT.out.bel hW.2.2.2.2.bel))
  obtain ⟨J, hJ⟩ : ∃ J, J = (sumOf (joinB kd zss n2)).map B8 := ⟨_, rfl⟩
  have JV := Lib.hid (show hsV (sumOf (joinB kd zss n2)) = .agg J.toArray by rw [hJ])
  have JP := Lib.hid (show ∀ W, (W.rangeAt yb 0 Y ∧ W.rangeAt rb 0 R' ∧ W.rangeAt gb 0 R' ∧ W.rangeAt st 0 D ∧ Sv w W yb rb gb st n n2 zs zss (.slice Ai n ci) Al) → Calls Tryd.prog 18 #[.int .u8 kd, .slice Al n2 cl] W fun e w' => e = .returned (.agg J.toArray) ∧ Bel W w' from fun W hW => by
    rw [← JV.out]
    exact join kd Al n2 cl zss W hW.2.2.2.2.lst k0 k1 (by omega) (by omega) (HT.out.bel hW.2.2.2.2.bel))
  have JR := Lib.hid (show ∀ W, (W.rangeAt yb 0 Y ∧ W.rangeAt rb 0 R' ∧ W.rangeAt gb 0 R' ∧ W.rangeAt st 0 D ∧ Sv w W yb rb gb st n n2 zs zss (.slice Ai n ci) Al) → Calls Tryd.prog 19 #[.int .u8 kd, .slice A2 n2 c2] W fun e w' => e = .returned (.agg J.toArray) ∧ Bel W w' from fun W hW => by
    rw [← JV.out]
    exact refJoin kd A2 n2 c2 zss W (HL.out.bel hW.2.2.2.2.bel) k0 k1 (by omega) (by omega))
  obtain ⟨X, hX⟩ : ∃ X : ByteArray, X = ⟨(asU8 (hex (sumOf zs))).toArray⟩ := ⟨_, rfl⟩
  have TP := Lib.hid (show ∀ W, (W.rangeAt yb 0 Y ∧ W.rangeAt rb 0 R' ∧ W.rangeAt gb 0 R' ∧ W.rangeAt st 0 D ∧ Sv w W yb rb gb st n n2 zs zss (.slice Ai n ci) Al) → Calls Tryd.prog 20 #[.agg Y.toArray] W fun e w' => e = .returned (.string X) ∧ Bel W w' from fun W hW => by
    rw [← YSV.out, hX]
    exact text (sumOf zs) W (len_hashOf _) (by_hashOf _))
  have TR := Lib.hid (show ∀ W, (W.rangeAt yb 0 Y ∧ W.rangeAt rb 0 R' ∧ W.rangeAt gb 0 R' ∧ W.rangeAt st 0 D ∧ Sv w W yb rb gb st n n2 zs zss (.slice Ai n ci) Al) → Calls Tryd.prog 21 #[.agg Y.toArray] W fun e w' => e = .returned (.string X) ∧ Bel W w' from fun W hW => by
    rw [← YSV.out, hX]
    exact refText (sumOf zs) W (len_hashOf _) (by_hashOf _))
  obtain ⟨P, hP⟩ : ∃ P, P = (perm T).map V := ⟨_, rfl⟩
  have PP := Lib.hid (show ∀ W, (W.rangeAt yb 0 Y ∧ W.rangeAt rb 0 R' ∧ W.rangeAt gb 0 R' ∧ W.rangeAt st 0 D ∧ Sv w W yb rb gb st n n2 zs zss (.slice Ai n ci) Al) → Calls Tryd.prog 22 #[.agg D.toArray] W fun e w' => e = .returned (.agg P.toArray) ∧ Bel W w' from fun W hW => by
    rw [HDD.out, hP]
    exact permute T W hTl (HT.out.bel hW.2.2.2.2.bel))
  have PR := Lib.hid (show ∀ W, (W.rangeAt yb 0 Y ∧ W.rangeAt rb 0 R' ∧ W.rangeAt gb 0 R' ∧ W.rangeAt st 0 D ∧ Sv w W yb rb gb st n n2 zs zss (.slice Ai n ci) Al) → Calls Tryd.prog 23 #[.agg D.toArray] W fun e w' => e = .returned (.agg P.toArray) ∧ Bel W w' from fun W hW => by
    rw [HDD.out, hP]
    exact refPermute T W hTl)
  have nYY : ∀ W, (binOp .neq 31 (.agg Y.toArray) (.agg Y.toArray)).run Tryd.prog W = .ok (.bool false) W := fun W => by
    rw [← YSV.out, neq_hs (sumOf _) (sumOf _) (len_hashOf _) (len_hashOf _) W, beq_self_eq_true]; rfl
  have nJJ : ∀ W, (binOp .neq 31 (.agg J.toArray) (.agg J.toArray)).run Tryd.prog W = .ok (.bool false) W := fun W => by
    rw [← JV.out, neq_hs (sumOf _) (sumOf _) (len_hashOf _) (len_hashOf _) W, beq_self_eq_true]; rfl
  have nRR : ∀ W, (binOp .neq 31 (.agg R'.toArray) (.agg R'.toArray)).run Tryd.prog W = .ok (.bool false) W := fun W => by
    rw [← YRV.out, neq_hs (rdV s) (rdV s) (rdV_len s) (rdV_len s) W, beq_self_eq_true]; rfl
  have nPP : ∀ W, (binOp .neq 25 (.agg P.toArray) (.agg P.toArray)).run Tryd.prog W = .ok (.bool false) W := fun W => by
    rw [hP, neq_st _ _ (len_perm hTl) (len_perm hTl) W, beq_self_eq_true]; rfl
  have uH := Tryd.underlying31
  have uS := Tryd.underlying25
  have iY := YSI.out
  have iR := YRI.out
  have S10d := KEEP.out _ _ S10 (Bel.refl w10).drew
  clear hX hP hJ S10
  refine wp_region_held_drew (S := fun W => W.rangeAt yb 0 Y ∧ W.rangeAt rb 0 R' ∧ W.rangeAt gb 0 R' ∧ W.rangeAt st 0 D ∧ Sv w W yb rb gb st n n2 zs zss (.slice Ai n ci) Al) (by kernel_rfl) S10d (fun hS0 => ?_)
  refine wpAnyH_take (i := 0) (oi := { dst := some 45, op := .move (.tmp 11), type := 22, pos := "law.go:32", after := #[], guard := none }) (v := .slice Ai n ci) rfl (by kernel_rfl) (by kernel_rfl) (by kernel_rfl) (fun _ _ _ h => h) (Or.inl ⟨by rfl, by intro w hSw; clear hSw; go_simp⟩) hS0 ?_
  try simp only [Act.put, List.setIfInBounds_toArray, List.set_cons_zero, List.set_cons_succ]
  refine wpAnyH_take (i := 2) (oi := { dst := some 47, op := .load 31 (.tmp 17), type := 31, pos := "law.go:32", after := #[], guard := none }) (v := .agg Y.toArray) rfl (by kernel_rfl) (by kernel_rfl) (by kernel_rfl) (fun _ _ _ h => h) (yieldsIf_load_mid (by rfl) _ _ rfl _ _ rfl _ _ (fun w h => h.1) uH rfl iY) hS0 ?_
  try simp only [Act.put, List.setIfInBounds_toArray, List.set_cons_zero, List.set_cons_succ]
  refine wpAnyH_ready (rs := [1]) (by kernel_rfl) (by simp) ?_
  refine AllReadyH.cons (o := { dst := some 46, op := .call { callee := .value (.func 17), args := #[.tmp 45], argTypes := #[22] }, type := 31, pos := "law.go:32", after := #[{ on := 0, ground := .data }], guard := none }) rfl (fun K hK => ?_) AllReadyH.nil
  go_simp
  refine (SB.out _ hS0).mono ?_
  rintro e v1 ⟨rfl, kk1⟩
  go_wp2_with fail
  refine hK.out _ _ (KEEP.out _ _ hS0 kk1) (fun hS1 => ?_)
  clear hK K
  try simp only [Act.put, List.setIfInBounds_toArray, List.set_cons_zero, List.set_cons_succ]
  refine wpAnyH_take (i := 3) (oi := { dst := some 48, op := .binOp .neq 31 (.tmp 46) (.tmp 47) 31, type := 4, pos := "law.go:32", after := #[{ on := 1, ground := .data }, { on := 2, ground := .data }], guard := none }) (v := .bool false) rfl (by kernel_rfl) (by kernel_rfl) (by kernel_rfl) (fun _ _ _ h => h) (Or.inl ⟨by rfl, by intro w hSw; clear hSw; go_simp⟩) hS1 ?_
  try simp only [Act.put, List.setIfInBounds_toArray, List.set_cons_zero, List.set_cons_succ]
  refine wpAnyH_take (i := 4) (oi := { dst := some 49, op := .move (.tmp 48), type := 4, pos := "law.go:32", after := #[{ on := 3, ground := .data }, { on := 1, ground := .chain }], guard := none }) (v := .bool false) rfl (by kernel_rfl) (by kernel_rfl) (by kernel_rfl) (fun _ _ _ h => h) (Or.inl ⟨by rfl, by intro w hSw; clear hSw; go_simp⟩) hS1 ?_
  try simp only [Act.put, List.setIfInBounds_toArray, List.set_cons_zero, List.set_cons_succ]
  refine wpAnyH_take (i := 5) (oi := { dst := some 50, op := .move (.tmp 1), type := 5, pos := "law.go:32", after := #[{ on := 4, ground := .guard }], guard := some (4, false) }) (v := .int .u8 kd) rfl (by kernel_rfl) (by kernel_rfl) (by kernel_rfl) (fun _ _ _ h => h) (Or.inl ⟨by rfl, by intro w hSw; clear hSw; go_simp⟩) hS1 ?_
  try simp only [Act.put, List.setIfInBounds_toArray, List.set_cons_zero, List.set_cons_succ]
  refine wpAnyH_take (i := 6) (oi := { dst := some 51, op := .move (.tmp 12), type := 23, pos := "law.go:32", after := #[{ on := 4, ground := .guard }], guard := some (4, false) }) (v := .slice Al n2 cl) rfl (by kernel_rfl) (by kernel_rfl) (by kernel_rfl) (fun _ _ _ h => h) (Or.inl ⟨by rfl, by intro w hSw; clear hSw; go_simp⟩) hS1 ?_
  try simp only [Act.put, List.setIfInBounds_toArray, List.set_cons_zero, List.set_cons_succ]
  refine wpAnyH_take (i := 8) (oi := { dst := some 53, op := .move (.tmp 1), type := 5, pos := "law.go:32", after := #[{ on := 4, ground := .guard }], guard := some (4, false) }) (v := .int .u8 kd) rfl (by kernel_rfl) (by kernel_rfl) (by kernel_rfl) (fun _ _ _ h => h) (Or.inl ⟨by rfl, by intro w hSw; clear hSw; go_simp⟩) hS1 ?_
  try simp only [Act.put, List.setIfInBounds_toArray, List.set_cons_zero, List.set_cons_succ]
  refine wpAnyH_take (i := 9) (oi := { dst := some 54, op := .move (.tmp 2), type := 23, pos := "law.go:32", after := #[{ on := 4, ground := .guard }], guard := some (4, false) }) (v := .slice A2 n2 c2) rfl (by kernel_rfl) (by kernel_rfl) (by kernel_rfl) (fun _ _ _ h => h) (Or.inl ⟨by rfl, by intro w hSw; clear hSw; go_simp⟩) hS1 ?_
  try simp only [Act.put, List.setIfInBounds_toArray, List.set_cons_zero, List.set_cons_succ]
  refine wpAnyH_ready (rs := [7]) (by kernel_rfl) (by simp) ?_
  refine AllReadyH.cons (o := { dst := some 52, op := .call { callee := .value (.func 18), args := #[.tmp 50, .tmp 51], argTypes := #[5, 23] }, type := 31, pos := "law.go:32", after := #[{ on := 5, ground := .data }, { on := 6, ground := .data }, { on := 4, ground := .chain }, { on := 4, ground := .guard }], guard := some (4, false) }) rfl (fun K hK => ?_) AllReadyH.nil
  go_simp
  refine (JP.out _ hS1).mono ?_
  rintro e v2 ⟨rfl, kk2⟩
  go_wp2_with fail
  refine hK.out _ _ (KEEP.out _ _ hS1 kk2) (fun hS2 => ?_)
  clear hK K
  try simp only [Act.put, List.setIfInBounds_toArray, List.set_cons_zero, List.set_cons_succ]
  refine wpAnyH_ready (rs := [10]) (by kernel_rfl) (by simp) ?_
  refine AllReadyH.cons (o := { dst := some 55, op := .call { callee := .value (.func 19), args := #[.tmp 53, .tmp 54], argTypes := #[5, 23] }, type := 31, pos := "law.go:32", after := #[{ on := 8, ground := .data }, { on := 9, ground := .data }, { on := 7, ground := .chain }, { on := 4, ground := .guard }], guard := some (4, false) }) rfl (fun K hK => ?_) AllReadyH.nil
  go_simp
  refine (JR.out _ hS2).mono ?_
  rintro e v3 ⟨rfl, kk3⟩
  go_wp2_with fail
  refine hK.out _ _ (KEEP.out _ _ hS2 kk3) (fun hS3 => ?_)
  clear hK K
  try simp only [Act.put, List.setIfInBounds_toArray, List.set_cons_zero, List.set_cons_succ]
  refine wpAnyH_take (i := 11) (oi := { dst := some 56, op := .binOp .neq 31 (.tmp 52) (.tmp 55) 31, type := 4, pos := "law.go:32", after := #[{ on := 7, ground := .data }, { on := 10, ground := .data }, { on := 4, ground := .guard }], guard := some (4, false) }) (v := .bool false) rfl (by kernel_rfl) (by kernel_rfl) (by kernel_rfl) (fun _ _ _ h => h) (Or.inl ⟨by rfl, by intro w hSw; clear hSw; go_simp⟩) hS3 ?_
  try simp only [Act.put, List.setIfInBounds_toArray, List.set_cons_zero, List.set_cons_succ]
  refine wpAnyH_take (i := 12) (oi := { dst := some 57, op := .pick (.tmp 49) (.const (Value.bool true)) (.tmp 56), type := 4, pos := "law.go:32", after := #[{ on := 4, ground := .data }, { on := 11, ground := .data }], guard := none }) (v := .bool false) rfl (by kernel_rfl) (by kernel_rfl) (by kernel_rfl) (fun _ _ _ h => h) (Or.inl ⟨by rfl, by intro w hSw; clear hSw; go_simp⟩) hS3 ?_
  try simp only [Act.put, List.setIfInBounds_toArray, List.set_cons_zero, List.set_cons_succ]
  refine wpAnyH_take (i := 13) (oi := { dst := some 58, op := .move (.tmp 57), type := 4, pos := "law.go:32", after := #[{ on := 12, ground := .data }, { on := 10, ground := .chain }], guard := none }) (v := .bool false) rfl (by kernel_rfl) (by kernel_rfl) (by kernel_rfl) (fun _ _ _ h => h) (Or.inl ⟨by rfl, by intro w hSw; clear hSw; go_simp⟩) hS3 ?_
  try simp only [Act.put, List.setIfInBounds_toArray, List.set_cons_zero, List.set_cons_succ]
  refine wpAnyH_take (i := 14) (oi := { dst := some 59, op := .load 31 (.tmp 13), type := 31, pos := "law.go:32", after := #[{ on := 13, ground := .guard }], guard := some (13, false) }) (v := .agg R'.toArray) rfl (by kernel_rfl) (by kernel_rfl) (by kernel_rfl) (fun _ _ _ h => h) (yieldsIf_load_mid (by rfl) _ _ rfl _ _ rfl _ _ (fun w h => h.2.1) uH rfl iR) hS3 ?_
  try simp only [Act.put, List.setIfInBounds_toArray, List.set_cons_zero, List.set_cons_succ]
  refine wpAnyH_take (i := 15) (oi := { dst := some 60, op := .load 31 (.tmp 15), type := 31, pos := "law.go:32", after := #[{ on := 13, ground := .guard }], guard := some (13, false) }) (v := .agg R'.toArray) rfl (by kernel_rfl) (by kernel_rfl) (by kernel_rfl) (fun _ _ _ h => h) (yieldsIf_load_mid (by rfl) _ _ rfl _ _ rfl _ _ (fun w h => h.2.2.1) uH rfl iR) hS3 ?_
  try simp only [Act.put, List.setIfInBounds_toArray, List.set_cons_zero, List.set_cons_succ]
  refine wpAnyH_take (i := 16) (oi := { dst := some 61, op := .binOp .neq 31 (.tmp 59) (.tmp 60) 31, type := 4, pos := "law.go:32", after := #[{ on := 14, ground := .data }, { on := 15, ground := .data }, { on := 13, ground := .guard }], guard := some (13, false) }) (v := .bool false) rfl (by kernel_rfl) (by kernel_rfl) (by kernel_rfl) (fun _ _ _ h => h) (Or.inl ⟨by rfl, by intro w hSw; clear hSw; go_simp⟩) hS3 ?_
  try simp only [Act.put, List.setIfInBounds_toArray, List.set_cons_zero, List.set_cons_succ]
  refine wpAnyH_take (i := 17) (oi := { dst := some 62, op := .pick (.tmp 58) (.const (Value.bool true)) (.tmp 61), type := 4, pos := "law.go:32", after := #[{ on := 13, ground := .data }, { on := 16, ground := .data }], guard := none }) (v := .bool false) rfl (by kernel_rfl) (by kernel_rfl) (by kernel_rfl) (fun _ _ _ h => h) (Or.inl ⟨by rfl, by intro w hSw; clear hSw; go_simp⟩) hS3 ?_
  try simp only [Act.put, List.setIfInBounds_toArray, List.set_cons_zero, List.set_cons_succ]
  refine wpAnyH_take (i := 18) (oi := { dst := some 63, op := .move (.tmp 62), type := 4, pos := "law.go:32", after := #[{ on := 17, ground := .data }, { on := 13, ground := .chain }], guard := none }) (v := .bool false) rfl (by kernel_rfl) (by kernel_rfl) (by kernel_rfl) (fun _ _ _ h => h) (Or.inl ⟨by rfl, by intro w hSw; clear hSw; go_simp⟩) hS3 ?_
  try simp only [Act.put, List.setIfInBounds_toArray, List.set_cons_zero, List.set_cons_succ]
  refine wpAnyH_take (i := 19) (oi := { dst := some 64, op := .move (.tmp 14), type := 32, pos := "law.go:32", after := #[{ on := 18, ground := .guard }], guard := some (18, false) }) (v := .int .i64 er) rfl (by kernel_rfl) (by kernel_rfl) (by kernel_rfl) (fun _ _ _ h => h) (Or.inl ⟨by rfl, by intro w hSw; clear hSw; go_simp⟩) hS3 ?_
  try simp only [Act.put, List.setIfInBounds_toArray, List.set_cons_zero, List.set_cons_succ]
  refine wpAnyH_take (i := 20) (oi := { dst := some 65, op := .move (.tmp 16), type := 32, pos := "law.go:32", after := #[{ on := 18, ground := .guard }], guard := some (18, false) }) (v := .int .i64 er) rfl (by kernel_rfl) (by kernel_rfl) (by kernel_rfl) (fun _ _ _ h => h) (Or.inl ⟨by rfl, by intro w hSw; clear hSw; go_simp⟩) hS3 ?_
  try simp only [Act.put, List.setIfInBounds_toArray, List.set_cons_zero, List.set_cons_succ]
  refine wpAnyH_take (i := 21) (oi := { dst := some 66, op := .binOp .neq 32 (.tmp 64) (.tmp 65) 32, type := 4, pos := "law.go:32", after := #[{ on := 19, ground := .data }, { on := 20, ground := .data }, { on := 18, ground := .guard }], guard := some (18, false) }) (v := .bool false) rfl (by kernel_rfl) (by kernel_rfl) (by kernel_rfl) (fun _ _ _ h => h) (Or.inl ⟨by rfl, by intro w hSw; clear hSw; go_simp⟩) hS3 ?_
  try simp only [Act.put, List.setIfInBounds_toArray, List.set_cons_zero, List.set_cons_succ]
  refine wpAnyH_take (i := 22) (oi := { dst := some 67, op := .pick (.tmp 63) (.const (Value.bool true)) (.tmp 66), type := 4, pos := "law.go:32", after := #[{ on := 18, ground := .data }, { on := 21, ground := .data }], guard := none }) (v := .bool false) rfl (by kernel_rfl) (by kernel_rfl) (by kernel_rfl) (fun _ _ _ h => h) (Or.inl ⟨by rfl, by intro w hSw; clear hSw; go_simp⟩) hS3 ?_
  try simp only [Act.put, List.setIfInBounds_toArray, List.set_cons_zero, List.set_cons_succ]
  refine wpAnyH_take (i := 23) (oi := { dst := some 68, op := .move (.tmp 67), type := 4, pos := "law.go:32", after := #[{ on := 22, ground := .data }, { on := 18, ground := .chain }], guard := none }) (v := .bool false) rfl (by kernel_rfl) (by kernel_rfl) (by kernel_rfl) (fun _ _ _ h => h) (Or.inl ⟨by rfl, by intro w hSw; clear hSw; go_simp⟩) hS3 ?_
  try simp only [Act.put, List.setIfInBounds_toArray, List.set_cons_zero, List.set_cons_succ]
  refine wpAnyH_take (i := 24) (oi := { dst := some 69, op := .load 31 (.tmp 17), type := 31, pos := "law.go:32", after := #[{ on := 23, ground := .guard }], guard := some (23, false) }) (v := .agg Y.toArray) rfl (by kernel_rfl) (by kernel_rfl) (by kernel_rfl) (fun _ _ _ h => h) (yieldsIf_load_mid (by rfl) _ _ rfl _ _ rfl _ _ (fun w h => h.1) uH rfl iY) hS3 ?_
  try simp only [Act.put, List.setIfInBounds_toArray, List.set_cons_zero, List.set_cons_succ]
  refine wpAnyH_take (i := 26) (oi := { dst := some 71, op := .load 31 (.tmp 17), type := 31, pos := "law.go:32", after := #[{ on := 23, ground := .guard }], guard := some (23, false) }) (v := .agg Y.toArray) rfl (by kernel_rfl) (by kernel_rfl) (by kernel_rfl) (fun _ _ _ h => h) (yieldsIf_load_mid (by rfl) _ _ rfl _ _ rfl _ _ (fun w h => h.1) uH rfl iY) hS3 ?_
  try simp only [Act.put, List.setIfInBounds_toArray, List.set_cons_zero, List.set_cons_succ]
  refine wpAnyH_ready (rs := [25]) (by kernel_rfl) (by simp) ?_
  refine AllReadyH.cons (o := { dst := some 70, op := .call { callee := .value (.func 20), args := #[.tmp 69], argTypes := #[31] }, type := 9, pos := "law.go:32", after := #[{ on := 24, ground := .data }, { on := 23, ground := .chain }, { on := 23, ground := .guard }], guard := some (23, false) }) rfl (fun K hK => ?_) AllReadyH.nil
  go_simp
  refine (TP.out _ hS3).mono ?_
  rintro e v4 ⟨rfl, kk4⟩
  go_wp2_with fail
  refine hK.out _ _ (KEEP.out _ _ hS3 kk4) (fun hS4 => ?_)
  clear hK K
  try simp only [Act.put, List.setIfInBounds_toArray, List.set_cons_zero, List.set_cons_succ]
  refine wpAnyH_ready (rs := [27]) (by kernel_rfl) (by simp) ?_
  refine AllReadyH.cons (o := { dst := some 72, op := .call { callee := .value (.func 21), args := #[.tmp 71], argTypes := #[31] }, type := 9, pos := "law.go:32", after := #[{ on := 26, ground := .data }, { on := 25, ground := .chain }, { on := 23, ground := .guard }], guard := some (23, false) }) rfl (fun K hK => ?_) AllReadyH.nil
  go_simp
  refine (TR.out _ hS4).mono ?_
  rintro e v5 ⟨rfl, kk5⟩
  go_wp2_with fail
  refine hK.out _ _ (KEEP.out _ _ hS4 kk5) (fun hS5 => ?_)
  clear hK K
  try simp only [Act.put, List.setIfInBounds_toArray, List.set_cons_zero, List.set_cons_succ]
  refine wpAnyH_take (i := 28) (oi := { dst := some 73, op := .binOp .neq 9 (.tmp 70) (.tmp 72) 9, type := 4, pos := "law.go:32", after := #[{ on := 25, ground := .data }, { on := 27, ground := .data }, { on := 23, ground := .guard }], guard := some (23, false) }) (v := .bool false) rfl (by kernel_rfl) (by kernel_rfl) (by kernel_rfl) (fun _ _ _ h => h) (Or.inl ⟨by rfl, by intro w hSw; clear hSw; go_simp⟩) hS5 ?_
  try simp only [Act.put, List.setIfInBounds_toArray, List.set_cons_zero, List.set_cons_succ]
  refine wpAnyH_take (i := 29) (oi := { dst := some 74, op := .pick (.tmp 68) (.const (Value.bool true)) (.tmp 73), type := 4, pos := "law.go:32", after := #[{ on := 23, ground := .data }, { on := 28, ground := .data }], guard := none }) (v := .bool false) rfl (by kernel_rfl) (by kernel_rfl) (by kernel_rfl) (fun _ _ _ h => h) (Or.inl ⟨by rfl, by intro w hSw; clear hSw; go_simp⟩) hS5 ?_
  try simp only [Act.put, List.setIfInBounds_toArray, List.set_cons_zero, List.set_cons_succ]
  refine wpAnyH_take (i := 30) (oi := { dst := some 75, op := .move (.tmp 74), type := 4, pos := "law.go:32", after := #[{ on := 29, ground := .data }, { on := 27, ground := .chain }], guard := none }) (v := .bool false) rfl (by kernel_rfl) (by kernel_rfl) (by kernel_rfl) (fun _ _ _ h => h) (Or.inl ⟨by rfl, by intro w hSw; clear hSw; go_simp⟩) hS5 ?_
  try simp only [Act.put, List.setIfInBounds_toArray, List.set_cons_zero, List.set_cons_succ]
  refine wpAnyH_take (i := 31) (oi := { dst := some 76, op := .load 25 (.tmp 9), type := 25, pos := "law.go:32", after := #[{ on := 30, ground := .guard }], guard := some (30, false) }) (v := .agg D.toArray) rfl (by kernel_rfl) (by kernel_rfl) (by kernel_rfl) (fun _ _ _ h => h) (yieldsIf_load_mid (by rfl) _ _ rfl _ _ rfl _ _ (fun w h => h.2.2.2.1) uS rfl iD) hS5 ?_
  try simp only [Act.put, List.setIfInBounds_toArray, List.set_cons_zero, List.set_cons_succ]
  refine wpAnyH_take (i := 33) (oi := { dst := some 78, op := .load 25 (.tmp 9), type := 25, pos := "law.go:32", after := #[{ on := 30, ground := .guard }], guard := some (30, false) }) (v := .agg D.toArray) rfl (by kernel_rfl) (by kernel_rfl) (by kernel_rfl) (fun _ _ _ h => h) (yieldsIf_load_mid (by rfl) _ _ rfl _ _ rfl _ _ (fun w h => h.2.2.2.1) uS rfl iD) hS5 ?_
  try simp only [Act.put, List.setIfInBounds_toArray, List.set_cons_zero, List.set_cons_succ]
  refine wpAnyH_ready (rs := [32]) (by kernel_rfl) (by simp) ?_
  refine AllReadyH.cons (o := { dst := some 77, op := .call { callee := .value (.func 22), args := #[.tmp 76], argTypes := #[25] }, type := 25, pos := "law.go:32", after := #[{ on := 31, ground := .data }, { on := 30, ground := .chain }, { on := 30, ground := .guard }], guard := some (30, false) }) rfl (fun K hK => ?_) AllReadyH.nil
  go_simp
  refine (PP.out _ hS5).mono ?_
  rintro e v6 ⟨rfl, kk6⟩
  go_wp2_with fail
  refine hK.out _ _ (KEEP.out _ _ hS5 kk6) (fun hS6 => ?_)
  clear hK K
  try simp only [Act.put, List.setIfInBounds_toArray, List.set_cons_zero, List.set_cons_succ]
  refine wpAnyH_ready (rs := [34]) (by kernel_rfl) (by simp) ?_
  refine AllReadyH.cons (o := { dst := some 79, op := .call { callee := .value (.func 23), args := #[.tmp 78], argTypes := #[25] }, type := 25, pos := "law.go:32", after := #[{ on := 33, ground := .data }, { on := 32, ground := .chain }, { on := 30, ground := .guard }], guard := some (30, false) }) rfl (fun K hK => ?_) AllReadyH.nil
  go_simp
  refine (PR.out _ hS6).mono ?_
  rintro e v7 ⟨rfl, kk7⟩
  go_wp2_with fail
  refine hK.out _ _ (KEEP.out _ _ hS6 kk7) (fun hS7 => ?_)
  clear hK K
  try simp only [Act.put, List.setIfInBounds_toArray, List.set_cons_zero, List.set_cons_succ]
  refine wpAnyH_take (i := 35) (oi := { dst := some 80, op := .binOp .neq 25 (.tmp 77) (.tmp 79) 25, type := 4, pos := "law.go:32", after := #[{ on := 32, ground := .data }, { on := 34, ground := .data }, { on := 30, ground := .guard }], guard := some (30, false) }) (v := .bool false) rfl (by kernel_rfl) (by kernel_rfl) (by kernel_rfl) (fun _ _ _ h => h) (Or.inl ⟨by rfl, by intro w hSw; clear hSw; go_simp⟩) hS7 ?_
  try simp only [Act.put, List.setIfInBounds_toArray, List.set_cons_zero, List.set_cons_succ]
  refine wpAnyH_take (i := 36) (oi := { dst := some 81, op := .pick (.tmp 75) (.const (Value.bool true)) (.tmp 80), type := 4, pos := "law.go:32", after := #[{ on := 30, ground := .data }, { on := 35, ground := .data }], guard := none }) (v := .bool false) rfl (by kernel_rfl) (by kernel_rfl) (by kernel_rfl) (fun _ _ _ h => h) (Or.inl ⟨by rfl, by intro w hSw; clear hSw; go_simp⟩) hS7 ?_
  try simp only [Act.put, List.setIfInBounds_toArray, List.set_cons_zero, List.set_cons_succ]
  refine wpAnyH_done (by kernel_rfl) ?_ _
  go_wp2_with fail
  have B7 := hS7.2.2.2.2.bel
  refine (same Ai A n ci n c zs v7 (by
    obtain ⟨A', c', e, h1, _, _⟩ := ints_of_own hS7.2.2.2.2.row
    injection e with e1 e2 e3
    subst e1
    exact h1) (HZ.out.ints.bel B7)).mono ?_
  rintro e w' ⟨rfl, rfl⟩
  go_wp2_with fail
  refine (sameLists Al A2 n2 cl c2 zss v7 hS7.2.2.2.2.lst (HL.out.bel B7) (by omega)).mono ?_
  rintro e w11 ⟨rfl, k11⟩
  go_wp2_with fail
  refine (AW.out w11 (B7.trans k11)).mono ?_
  rintro e w12 ⟨rfl, k12⟩
  go_wp2
  go_ret
  exact ⟨rfl, (B7.trans k11).trans k12⟩
end Kk
end Go.Proofs.YtaniijpppmipbaaDoor
