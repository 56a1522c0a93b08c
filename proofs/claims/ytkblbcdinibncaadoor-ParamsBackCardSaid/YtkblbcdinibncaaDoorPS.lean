/-
  Texts of this claim, put together: Ps2, Ps1. What each one says, and under which conditions, stands ahead of it.
-/
import Derived.Laws.CopyOwn
import Derived.Test.YtkblbcdinibncaaDoorPB
import Derived.Test.YtkblbcdinibncaaDoorPD

section
/-
  What setting a field to a number, and back, comes to: no walk. Conditions: the eleven numbers are of their kinds; Check likes the record.
-/
namespace Go.Proofs.YtkblbcdinibncaaDoor
open Go.RowKit Go.Shelf
set_option linter.unusedVariables false
namespace Pm
open Kk

theorem at_nm (k : Nat) (hk : k < 11) : At (nm k) k := ⟨hk, rfl, fun j hj e => by
  have := nm_inj j k (by omega) hk e
  omega⟩
theorem okF_congr {x y : Nat → Int} (h : ∀ j, j < 11 → x j = y j) (i : Nat) (hi : i < 11) : okF x i = okF y i := by
  unfold okF wv
  rw [h i hi]
theorem Chk.congr {x y : Nat → Int} (h : ∀ j, j < 11 → x j = y j) {a b : Int} (hc : Chk x a b) : Chk y a b := by
  rcases hc with ⟨i, hi, h1, h2, h3, h4⟩ | ⟨h1, h2, h3, h4⟩ | ⟨h1, h2, h3, h4⟩
  · exact .inl ⟨i, hi, fun j hj => by rw [← okF_congr h j (by omega)]; exact h1 j hj, by rw [← okF_congr h i hi]; exact h2, h3, h4⟩
  · exact .inr (.inl ⟨fun j hj => by rw [← okF_congr h j hj]; exact h1 j hj, by rw [← h 0 (by omega), ← h 1 (by omega)]; exact h2, h3, h4⟩)
  · exact .inr (.inr ⟨fun j hj => by rw [← okF_congr h j hj]; exact h1 j hj, by rw [← h 0 (by omega), ← h 1 (by omega)]; exact h2, h3, h4⟩)
theorem chk_b {x : Nat → Int} {a b : Int} (h : Chk x a b) : a = 0 ∨ a = 3 ∨ a = 9 := by
  rcases h with ⟨_, _, _, _, h, _⟩ | ⟨_, _, h, _⟩ | ⟨_, _, h, _⟩
  · exact .inr (.inl h)
  · exact .inr (.inr h)
  · exact .inl h
theorem updk_at (x : Nat → Int) (k : Nat) (v : Int) : upd x k v k = v := if_pos rfl
theorem updk_no (x : Nat → Int) {k j : Nat} (v : Int) (h : j ≠ k) : upd x k v j = x j := if_neg h
/-- What Set answers of a field that there is, in a record that Check likes. -/
theorem st_nm {x : Nat → Int} (hc : Chk x 0 0) {k : Nat} (hk : k < 11) {n : Int} {y : Nat → Int} {a : Int} (h : St x (nm k) n y a) :
    (a = 0 ∧ y = upd x k (sv k n) ∧ Chk y 0 0) ∨ (y = zr ∧ a ≠ 0 ∧ (∃ b, Chk (upd x k (sv k n)) a b) ∧ (a = 3 ∨ (a = 9 ∧ k < 2))) := by
  rcases h with ⟨h1, _, i, hi, h2, h3⟩ | ⟨h1, h2, (⟨b, hb⟩ | ⟨_, hno, _⟩) | ⟨_, i, b, hi, hb⟩⟩
  · obtain rfl := hi.uniq (at_nm k hk)
    exact .inl ⟨h1, h2, h3⟩
  · exact absurd (hb.uniq hc).1 h1
  · exact absurd rfl (hno k hk)
  · obtain rfl := hi.uniq (at_nm k hk)
    refine .inr ⟨h2, h1, ⟨b, hb⟩, ?_⟩
    rcases chk_b hb with h | h | h
    · exact absurd h h1
    · exact .inl h
    · refine .inr ⟨h, ?_⟩
      apply Nat.lt_of_not_le
      intro hle
      rcases hb with ⟨_, _, _, _, h5, _⟩ | ⟨_, h5, _⟩ | ⟨_, _, h5, _⟩
      · omega
      · rw [updk_no _ _ (by omega), updk_no _ _ (by omega)] at h5
        have := hc.ok.2
        omega
      · omega
/-- The field's word behind it. -/
theorem wv_set (x : Nat → Int) (k : Nat) {n : Int} (h0 : 0 ≤ n) (h1 : n ≤ 18446744073709551615) : wv (upd x k (sv k n)) k = n := by
  unfold wv sv
  rw [updk_at]
  cases isU k with
  | true => rfl
  | false =>
    simp [IntKind.wrap, IntKind.bits, IntKind.signed, wrap64]
    omega
theorem ok_b {x : Nat → Int} (hx : Kinds x) (hc : Chk x 0 0) (i : Nat) (hi : i < 11) : 0 ≤ x i ∧ x i ≤ 1000000000 ∧ wv x i = x i ∧ fv x i = x i := by
  have ho := hc.ok.1 i hi
  have hb := okF_b hx i hi ho
  have hl := lohi i hi
  exact ⟨by omega, by omega, wv_ok hx i hi ho, fv_ok hx i hi ho⟩
theorem sv_in (k : Nat) {n : Int} (h0 : 0 ≤ n) (h1 : n ≤ 1000000000) : sv k n = n := by
  unfold sv
  cases isU k with
  | true => rfl
  | false =>
    simp [wrap64]
    omega
/-- Set back: the record is as it was. -/
theorem set_back {x : Nat → Int} (hx : Kinds x) (hc : Chk x 0 0) {k : Nat} (hk : k < 11) {n : Int} : ∀ j, j < 11 → upd (upd x k (sv k n)) k (sv k (x k)) j = x j := fun j hj => by
  by_cases e : j = k
  · subst e
    rw [updk_at]
    have hb := ok_b hx hc j hj
    exact sv_in j hb.1 hb.2.1
  · rw [updk_no _ _ e, updk_no _ _ e]
theorem st_back {x : Nat → Int} (hx : Kinds x) (hc : Chk x 0 0) {k : Nat} (hk : k < 11) {n : Int} (hy : Chk (upd x k (sv k n)) 0 0) {r : Nat → Int} {a : Int} (h : St (upd x k (sv k n)) (nm k) (x k) r a) : a = 0 ∧ recC r = recC x := by
  rcases st_nm hy hk h with ⟨h1, h2, _⟩ | ⟨_, h1, ⟨b, hb⟩, _⟩
  · exact ⟨h1, by rw [h2]; exact recC_congr (set_back hx hc hk)⟩
  · exact absurd ((hb.congr (set_back hx hc hk)).uniq hc).1 h1
theorem gt_nm {x : Nat → Int} (hc : Chk x 0 0) {i : Nat} (hi : i < 11) {n a : Int} (h : Gt x (nm i) n a) : a = 0 ∧ n = wv x i := by
  rcases h with ⟨h1, _, j, hj, h2⟩ | ⟨h1, _, ⟨b, hb⟩ | ⟨_, hno, _⟩⟩
  · obtain rfl := hj.uniq (at_nm i hi)
    exact ⟨h1, h2⟩
  · exact absurd (hb.uniq hc).1 h1
  · exact absurd rfl (hno i hi)
/-- What Near makes is a record that Check likes. -/
theorem near_ok {u p1 p2 p3 p4 p5 p6 p7 p8 p9 p10 : Int} (h0 : 1 ≤ u ∧ u ≤ 1048576) (h1 : 0 ≤ p1 ∧ p1 < u + 1) (h2 : 0 ≤ p2 ∧ p2 < 1000) (h3 : 0 ≤ p3 ∧ p3 < 256) (h4 : 0 ≤ p4 ∧ p4 < 16) (h5 : 0 ≤ p5 ∧ p5 < 32) (h6 : 0 ≤ p6 ∧ p6 < 1048576) (h7 : 0 ≤ p7 ∧ p7 < 1000000001) (h8 : 0 ≤ p8 ∧ p8 < 1001) (h9 : 0 ≤ p9 ∧ p9 < 1048576) (h10 : 0 ≤ p10 ∧ p10 < 1000000001) :
    Kinds (toR [u, p1, 1 + p2, 1 + p3, 1 + p4, 1 + p5, 1 + p6, p7, p8, 1 + p9, p10]) ∧ Chk (toR [u, p1, 1 + p2, 1 + p3, 1 + p4, 1 + p5, 1 + p6, p7, p8, 1 + p9, p10]) 0 0 := by
  have w7 : IntKind.u64.wrap p7 = p7 := wrap_in _ (by omega) (by omega)
  have w8 : IntKind.u64.wrap p8 = p8 := wrap_in _ (by omega) (by omega)
  have w10 : IntKind.u64.wrap p10 = p10 := wrap_in _ (by omega) (by omega)
  have key : ∀ i, i < 11 → lo i ≤ toR [u, p1, 1 + p2, 1 + p3, 1 + p4, 1 + p5, 1 + p6, p7, p8, 1 + p9, p10] i ∧ toR [u, p1, 1 + p2, 1 + p3, 1 + p4, 1 + p5, 1 + p6, p7, p8, 1 + p9, p10] i ≤ hi i := by
    intro i hi11
    match i, hi11 with
    | 0, _ => exact (show (1 : Int) ≤ u ∧ u ≤ 1048576 by omega)
    | 1, _ => exact (show (0 : Int) ≤ p1 ∧ p1 ≤ 1048576 by omega)
    | 2, _ => exact (show (1 : Int) ≤ 1 + p2 ∧ 1 + p2 ≤ 1000 by omega)
    | 3, _ => exact (show (1 : Int) ≤ 1 + p3 ∧ 1 + p3 ≤ 256 by omega)
    | 4, _ => exact (show (1 : Int) ≤ 1 + p4 ∧ 1 + p4 ≤ 16 by omega)
    | 5, _ => exact (show (1 : Int) ≤ 1 + p5 ∧ 1 + p5 ≤ 32 by omega)
    | 6, _ => exact (show (1 : Int) ≤ 1 + p6 ∧ 1 + p6 ≤ 1048576 by omega)
    | 7, _ => exact (show (0 : Int) ≤ IntKind.u64.wrap p7 ∧ IntKind.u64.wrap p7 ≤ 1000000000 by rw [w7]; omega)
    | 8, _ => exact (show (0 : Int) ≤ IntKind.u64.wrap p8 ∧ IntKind.u64.wrap p8 ≤ 1000 by rw [w8]; omega)
    | 9, _ => exact (show (1 : Int) ≤ 1 + p9 ∧ 1 + p9 ≤ 1048576 by omega)
    | 10, _ => exact (show (0 : Int) ≤ IntKind.u64.wrap p10 ∧ IntKind.u64.wrap p10 ≤ 1000000000 by rw [w10]; omega)
    | n + 11, h => omega
  have kd : Kinds (toR [u, p1, 1 + p2, 1 + p3, 1 + p4, 1 + p5, 1 + p6, p7, p8, 1 + p9, p10]) := fun i hi11 => by
    have h := key i hi11
    have hl := lohi i hi11
    exact ⟨fun _ => ⟨by omega, by omega⟩, fun _ => ⟨by omega, by omega⟩⟩
  refine ⟨kd, .inr (.inr ⟨fun i hi11 => ?_, (show p1 ≤ u by omega), rfl, rfl⟩)⟩
  have h := key i hi11
  have hl := lohi i hi11
  unfold okF
  have hw : wv (toR [u, p1, 1 + p2, 1 + p3, 1 + p4, 1 + p5, 1 + p6, p7, p8, 1 + p9, p10]) i = toR [u, p1, 1 + p2, 1 + p3, 1 + p4, 1 + p5, 1 + p6, p7, p8, 1 + p9, p10] i := by
    unfold wv
    split
    · rfl
    · exact wrap_in _ (by omega) (by omega)
  rw [hw]
  exact decide_eq_true h
end Pm
end Go.Proofs.YtkblbcdinibncaaDoor
end

section
/-
  What the statements' Near answers: a record of params that Check likes. Condition: its numbers are ints.
-/
namespace Go.Proofs.YtkblbcdinibncaaDoor
open Go.RowKit Go.Shelf
set_option linter.unusedVariables false
namespace Pm
open Kk

set_option maxRecDepth 100000 in
set_option maxHeartbeats 1000000 in
theorem pickT (x n : Int) (w : World) (x0 : -9223372036854775808 ≤ x) (x1 : x ≤ 9223372036854775807) (n0 : 0 < n) (n1 : n ≤ 4611686018427387904) :
    Calls Tryd.prog 9 #[.int .i64 x, .int .i64 n] w fun e w' => e = .returned (.int .i64 (x % n)) ∧ w = w' := by
  have t0 := Int.emod_nonneg x (b := n) (by omega)
  have t1 := Int.emod_lt_of_pos x n0
  have hb : (x.tmod n = x % n ∨ (x.tmod n < 0 ∧ x.tmod n + n = x % n)) ∧ -n < x.tmod n ∧ x.tmod n < n := by
    rw [Int.tmod_eq_emod]
    split <;> rename_i h
    · exact ⟨.inl (by omega), by omega, by omega⟩
    · have hne : x % n ≠ 0 := fun e => h (.inr (Int.dvd_of_emod_eq_zero e))
      exact ⟨.inr ⟨by omega, by omega⟩, by omega, by omega⟩
  obtain ⟨ht, b0⟩ := hb
  obtain ⟨T, hT⟩ : ∃ T, x.tmod n = T := ⟨_, rfl⟩
  have hw : IntKind.i64.wrap T = T := by simp [IntKind.wrap, IntKind.bits, IntKind.signed]; omega
  rw [hT] at ht b0
  obtain ⟨E, hE⟩ : ∃ E, x % n = E := ⟨_, rfl⟩
  rw [hE] at ht t0 t1 ⊢
  clear hE
  rcases ht with h | ⟨h1, h2⟩
  · subst h
    go_enter Tryd.func9, Tryd.ntmps9
    go_wp2
    go_ret
    exact ⟨rfl, rfl⟩
  · have H2 := Lib.hid h2
    clear h2
    go_enter Tryd.func9, Tryd.ntmps9
    go_wp2
    go_ret
    exact ⟨by rw [← H2.out]; rfl, rfl⟩

theorem wrapJ (n : Int) (h0 : -9223372036854775808 ≤ n) (h1 : n ≤ 9223372036854775807) : IntKind.i64.wrap n = n := by
  simp [IntKind.wrap, IntKind.bits, IntKind.signed]
  omega
def NearE (w : World) (e : Ending) (w' : World) : Prop := ∃ y, e = .returned (.agg (List.toArray (recC y))) ∧ Kinds y ∧ Chk y 0 0 ∧ Bel w w'
def Z11 : List Int := [0, 0, 0, 0, 0, 0, 0, 0, 0, 0, 0]
abbrev ZRP : Obj := .cells (recC fun _ => 0).toArray 26

theorem row_of {w : World} {g : Nat} {cur : Array Value} {cs : List Value} {t : TypeId} (hl : cs.length ≤ 11) (h : w.heap[g]? = some (.cells (splice cur.toList 0 cs).toArray t (0, 0))) (hc : ∀ j, j < 11 → cur[j]? = some (.int .i64 0)) :
    w.rangeAt g 0 (cs ++ List.replicate (11 - cs.length) (Value.int .i64 0)) := fun j v hv => by
  rw [Nat.zero_add]
  have hb : Blk w g (splice cur.toList 0 cs).toArray t := h
  refine hb.cell j ?_
  rw [List.getElem?_toArray]
  have hj : j < 11 := by
    have := (List.getElem?_eq_some_iff.1 hv).1
    simp at this
    omega
  unfold splice
  rw [List.take_zero, List.nil_append, Nat.zero_add]
  by_cases h1 : j < cs.length
  · rw [List.getElem?_append_left h1] at hv ⊢
    exact hv
  · rw [List.getElem?_append_right (by omega)] at hv ⊢
    rw [List.getElem?_replicate] at hv
    rw [if_pos (by omega)] at hv
    rw [List.getElem?_drop, show cs.length + (j - cs.length) = j by omega, Array.getElem?_toList, hc j hj]
    exact hv

set_option maxRecDepth 100000 in
set_option maxHeartbeats 8000000 in
theorem near (A : Option Addr) (n c : Nat) (zs : List Int) (w : World) (hi : Ints .i64 w A n zs) (hn : n ≤ maxLen) (hz : ∀ z ∈ zs, -9223372036854775808 ≤ z ∧ z ≤ 9223372036854775807) : Calls Tryd.prog 6 #[.slice A n c] w (NearE w) := by
  obtain ⟨r, hr0⟩ : ∃ r, w.heap.size = r := ⟨_, rfl⟩
  have HR0 := Lib.hid hr0
  have HI := Lib.hid hi
  have HN := Lib.hid hn
  have HZ := Lib.hid hz
  obtain ⟨ns, hns⟩ : ∃ ns, ns = zs.take 11 ++ List.replicate (11 - (zs.take 11).length) (0 : Int) := ⟨_, rfl⟩
  have HNL := Lib.hid (show ns.length = 11 by rw [hns]; simp; omega)
  have NB := Lib.hid (show ∀ i, i < 11 → -9223372036854775808 ≤ xg ns i ∧ xg ns i ≤ 9223372036854775807 from fun i hi => by
    unfold xg
    rw [getD_eq _ _ (by rw [HNL.out]; exact hi)]
    have hm : ns[i]'(by rw [HNL.out]; exact hi) ∈ ns := List.getElem_mem _
    generalize ns[i]'(by rw [HNL.out]; exact hi) = z at hm ⊢
    rw [hns] at hm
    rcases List.mem_append.1 hm with h | h
    · exact HZ.out z (List.mem_of_mem_take h)
    · have := (List.mem_replicate.1 h).2
      omega)
  have HNS := Lib.hid hns
  clear hr0 hi hn hz hns
  go_enter Tryd.func6, Tryd.ntmps6
  obtain ⟨i0, i1, i2, i3, i4⟩ := info_parts info_int
  go_upto_region 2 with (at_make; refine wpList_make_full _ rfl _ _ 22 rfl (w.heap.size + 1) 3 i0 (.int .i64 0) 1 Tryd.underlying22 i1 i2 i3 .i64 .i64 11 11 11 rfl rfl rfl rfl (by rw [i4]; omega) (by unfold maxLen; omega) (by simp) ?_; intro w1 hown hgrow)
  obtain ⟨g, hg0⟩ : ∃ g, w.heap.size + 1 = g := ⟨_, rfl⟩
  rw [World.size_alloc, hg0] at hown
  rw [hg0]
  obtain ⟨W1, hW1⟩ : ∃ W1, w.alloc (.cells #[.int .i64 0, .int .i64 0, .int .i64 0, .int .i64 0, .int .i64 0, .int .i64 0, .int .i64 0, .int .u64 0, .int .u64 0, .int .i64 0, .int .u64 0] 26) = W1 := ⟨_, rfl⟩
  have hz1 : W1.heap.size = g := by rw [← hW1, World.size_alloc]; exact hg0
  have b1 : Bel w W1 := by rw [← hW1]; exact (Bel.refl w).alloc _
  have k1 : Blk W1 r (recC fun _ => 0).toArray 26 := by rw [← hW1, ← HR0.out]; exact Blk.new w _ _
  rw [hW1] at hgrow
  have b2 : Bel W1 w1 := (Bel.refl W1).grown hgrow (fun k hk => by cases hk)
  rcases hown.2 with ⟨hn, _⟩ | ⟨g', cap, cur, hv, _, hcur, _, _, hsz, hcell⟩
  · cases hn
  injection hv with hv1 hv2 hv3
  injection hv1 with hv1
  injection hv1 with hv1
  subst hv1
  subst hv3
  have hc0 : ∀ j, j < 11 → cur[j]? = some (.int .i64 0) := fun j hj => by
    have h1 : (List.take (11 * 1) cur.toList)[j]? = some (.int .i64 0) := by
      rw [hcell, show (madeCells (Value.int .i64 0).cells (11 * 1)).toList = List.replicate 11 (Value.int .i64 0) by simp [madeCells, Value.cells]; rfl, List.getElem?_replicate, if_pos hj]
    rw [List.getElem?_take_of_lt (by omega), Array.getElem?_toList] at h1
    exact h1
  obtain ⟨cs, hcs⟩ : ∃ cs, cs = (zs.take 11).map (Value.int .i64) := ⟨_, rfl⟩
  have hcl : cs.length = Nat.min n 11 := by
    rw [hcs, List.length_map, List.length_take, HI.out.1]
    exact Nat.min_comm 11 n
  have hcm : cs.length = min n 11 := hcl
  have HPOS := Lib.hid (show 0 < cs.length → (some (⟨g, 0, none⟩ : Addr)) = some ⟨g, 0, none⟩ ∧ ∃ ad, A = some ad ∧ ∀ j v, cs[j]? = some v → w1.cell? (ad.add j) = some v from fun h0 => by
    refine ⟨rfl, ?_⟩
    have hn0 : 0 < n := by
      omega
    obtain ⟨b, o, hA, _, hcells⟩ := (HI.out.bel (b1.trans b2)).2 hn0
    refine ⟨⟨b, o, none⟩, hA, fun j v hj => ?_⟩
    rw [add_addr]
    have hjl : j < cs.length := (List.getElem?_eq_some_iff.1 hj).1
    have hjn : j < n := by
      omega
    have hj11 : j < 11 := by
      omega
    rw [hcells j hjn]
    rw [hcs, List.getElem?_map, List.getElem?_take_of_lt hj11, List.getElem?_eq_getElem (by rw [HI.out.1]; exact hjn)] at hj
    rw [getD_eq _ _ (by rw [HI.out.1]; exact hjn)]
    exact hj)
  have CO := Lib.hid (show ∀ v ∈ cs, v.oneCell' = true by rw [hcs]; exact ints_ok _)
  have hcl11 : cs.length ≤ 11 := by omega
  have HF := Lib.hid (show 0 + cs.length ≤ cur.toList.length by
    have h : cur.toList.length = 11 := by rw [Array.length_toList, hsz]
    omega)
  have HCUR := Lib.hid (show w1.heap[g]? = some (.cells cur.toList.toArray 3 (0, 0)) by rw [Array.toArray_toList]; exact hcur)
  obtain ⟨Y, hY⟩ : ∃ Y, Y = ns.map (Value.int .i64) := ⟨_, rfl⟩
  have ROW := Lib.hid (fun (V : World) (h : V.heap[g]? = some (.cells (splice cur.toList 0 cs).toArray 3 (0, 0))) => by
    have h2 := row_of hcl11 h hc0
    rw [hcs, ← List.map_replicate (f := Value.int .i64), ← List.map_append, List.length_map, ← HNS.out, ← hY] at h2
    exact h2)
  have HY := Lib.hid hY
  have HB0 := Lib.hid (Nat.le_of_eq hz1)
  have B1 := Lib.hid b1
  have B2 := Lib.hid (show Below W1.heap.size W1 w1 from b2)
  have K1 := Lib.hid k1
  have HGR := Lib.hid (show g ≠ r by rw [← hg0, ← HR0.out]; omega)
  have HCL := Lib.hid hcl
  clear hcm
  have HWS := Lib.hid hz1
  rw [HR0.out]
  clear hown hgrow hcur hsz hv2 b2 b1 k1 hz1 hW1 hg0 hcell hc0 hcs hcl hcl11 hY
  go_upto_region 3 with ((with_reducible refine wpList_copy_splice ?_ (.tmp 6) (.tmp 7) 22 22 ?_ 3 Tryd.underlying22 info_int1 (some ⟨g, 0, none⟩) A 11 11 n c ?_ ?_ g 0 cur.toList 3 HCUR.out cs HCL.out HPOS.out HF.out CO.out W1.heap.size W1 B2.out HB0.out ?_); rfl; rfl; rfl; rfl; (intro w3 h3 b3))
  have R3 := Lib.hid (ROW.out w3 h3.out)
  have B3 : Hid (Bel W1 w3) := Lib.hid b3
  have K3 := Lib.hid (K1.out.bel b3)
  have RC := Lib.hid (show ∀ V : World, V.rangeAt g 0 Y → ∀ i, i < 11 → V.cell? ⟨g, i, none⟩ = some (.int .i64 (xg ns i)) from fun V h i hi => by
    have h2 := h i (.int .i64 (xg ns i)) (by rw [HY.out, List.getElem?_map, List.getElem?_eq_getElem (by rw [HNL.out]; exact hi)]; unfold xg; rw [getD_eq _ _ (by rw [HNL.out]; exact hi)]; rfl)
    rwa [Nat.zero_add] at h2)
  have c0 := RC.out _ R3.out 0 (by omega)
  obtain ⟨p0, hp0⟩ : ∃ k_, xg ns 0 % 1048576 = k_ := ⟨_, rfl⟩
  have P0 := Lib.hid (fun V => pickT (xg ns 0) 1048576 V (NB.out 0 (by omega)).1 (NB.out 0 (by omega)).2 (by omega) (by omega))
  rw [hp0] at P0
  have b0 : 0 ≤ p0 ∧ p0 < 1048576 := by rw [← hp0]; exact ⟨Int.emod_nonneg _ (by omega), Int.emod_lt_of_pos _ (by omega)⟩
  clear hp0
  clear h3 b3 ROW HPOS HF CO HCUR HCL
  go_wp2_with fail
  refine (P0.out _).mono ?_
  rintro e w4 ⟨rfl, rfl⟩
  obtain ⟨u, hu⟩ : ∃ u, 1 + p0 = u := ⟨_, rfl⟩
  have b00 : 1 ≤ u ∧ u ≤ 1048576 := by omega
  have wu : IntKind.i64.wrap (1 + p0) = u := by rw [hu]; exact wrapJ _ (by omega) (by omega)
  clear hu
  obtain ⟨p1, hp1⟩ : ∃ k_, xg ns 1 % (u + 1) = k_ := ⟨_, rfl⟩
  have P1 := Lib.hid (fun V => pickT (xg ns 1) (u + 1) V (NB.out 1 (by omega)).1 (NB.out 1 (by omega)).2 (by omega) (by omega))
  rw [hp1] at P1
  have b1 : 0 ≤ p1 ∧ p1 < (u + 1) := by rw [← hp1]; exact ⟨Int.emod_nonneg _ (by omega), Int.emod_lt_of_pos _ (by omega)⟩
  clear hp1
  obtain ⟨p2, hp2⟩ : ∃ k_, xg ns 2 % 1000 = k_ := ⟨_, rfl⟩
  have P2 := Lib.hid (fun V => pickT (xg ns 2) 1000 V (NB.out 2 (by omega)).1 (NB.out 2 (by omega)).2 (by omega) (by omega))
  rw [hp2] at P2
  have b2 : 0 ≤ p2 ∧ p2 < 1000 := by rw [← hp2]; exact ⟨Int.emod_nonneg _ (by omega), Int.emod_lt_of_pos _ (by omega)⟩
  clear hp2
  obtain ⟨p3, hp3⟩ : ∃ k_, xg ns 3 % 256 = k_ := ⟨_, rfl⟩
  have P3 := Lib.hid (fun V => pickT (xg ns 3) 256 V (NB.out 3 (by omega)).1 (NB.out 3 (by omega)).2 (by omega) (by omega))
  rw [hp3] at P3
  have b3 : 0 ≤ p3 ∧ p3 < 256 := by rw [← hp3]; exact ⟨Int.emod_nonneg _ (by omega), Int.emod_lt_of_pos _ (by omega)⟩
  clear hp3
  obtain ⟨p4, hp4⟩ : ∃ k_, xg ns 4 % 16 = k_ := ⟨_, rfl⟩
  have P4 := Lib.hid (fun V => pickT (xg ns 4) 16 V (NB.out 4 (by omega)).1 (NB.out 4 (by omega)).2 (by omega) (by omega))
  rw [hp4] at P4
  have b4 : 0 ≤ p4 ∧ p4 < 16 := by rw [← hp4]; exact ⟨Int.emod_nonneg _ (by omega), Int.emod_lt_of_pos _ (by omega)⟩
  clear hp4
  obtain ⟨p5, hp5⟩ : ∃ k_, xg ns 5 % 32 = k_ := ⟨_, rfl⟩
  have P5 := Lib.hid (fun V => pickT (xg ns 5) 32 V (NB.out 5 (by omega)).1 (NB.out 5 (by omega)).2 (by omega) (by omega))
  rw [hp5] at P5
  have b5 : 0 ≤ p5 ∧ p5 < 32 := by rw [← hp5]; exact ⟨Int.emod_nonneg _ (by omega), Int.emod_lt_of_pos _ (by omega)⟩
  clear hp5
  obtain ⟨p6, hp6⟩ : ∃ k_, xg ns 6 % 1048576 = k_ := ⟨_, rfl⟩
  have P6 := Lib.hid (fun V => pickT (xg ns 6) 1048576 V (NB.out 6 (by omega)).1 (NB.out 6 (by omega)).2 (by omega) (by omega))
  rw [hp6] at P6
  have b6 : 0 ≤ p6 ∧ p6 < 1048576 := by rw [← hp6]; exact ⟨Int.emod_nonneg _ (by omega), Int.emod_lt_of_pos _ (by omega)⟩
  clear hp6
  obtain ⟨p7, hp7⟩ : ∃ k_, xg ns 7 % 1000000001 = k_ := ⟨_, rfl⟩
  have P7 := Lib.hid (fun V => pickT (xg ns 7) 1000000001 V (NB.out 7 (by omega)).1 (NB.out 7 (by omega)).2 (by omega) (by omega))
  rw [hp7] at P7
  have b7 : 0 ≤ p7 ∧ p7 < 1000000001 := by rw [← hp7]; exact ⟨Int.emod_nonneg _ (by omega), Int.emod_lt_of_pos _ (by omega)⟩
  clear hp7
  obtain ⟨p8, hp8⟩ : ∃ k_, xg ns 8 % 1001 = k_ := ⟨_, rfl⟩
  have P8 := Lib.hid (fun V => pickT (xg ns 8) 1001 V (NB.out 8 (by omega)).1 (NB.out 8 (by omega)).2 (by omega) (by omega))
  rw [hp8] at P8
  have b8 : 0 ≤ p8 ∧ p8 < 1001 := by rw [← hp8]; exact ⟨Int.emod_nonneg _ (by omega), Int.emod_lt_of_pos _ (by omega)⟩
  clear hp8
  obtain ⟨p9, hp9⟩ : ∃ k_, xg ns 9 % 1048576 = k_ := ⟨_, rfl⟩
  have P9 := Lib.hid (fun V => pickT (xg ns 9) 1048576 V (NB.out 9 (by omega)).1 (NB.out 9 (by omega)).2 (by omega) (by omega))
  rw [hp9] at P9
  have b9 : 0 ≤ p9 ∧ p9 < 1048576 := by rw [← hp9]; exact ⟨Int.emod_nonneg _ (by omega), Int.emod_lt_of_pos _ (by omega)⟩
  clear hp9
  obtain ⟨p10, hp10⟩ : ∃ k_, xg ns 10 % 1000000001 = k_ := ⟨_, rfl⟩
  have P10 := Lib.hid (fun V => pickT (xg ns 10) 1000000001 V (NB.out 10 (by omega)).1 (NB.out 10 (by omega)).2 (by omega) (by omega))
  rw [hp10] at P10
  have b10 : 0 ≤ p10 ∧ p10 < 1000000001 := by rw [← hp10]; exact ⟨Int.emod_nonneg _ (by omega), Int.emod_lt_of_pos _ (by omega)⟩
  clear hp10
  obtain ⟨E, hE⟩ : ∃ E, E = recC (toR [u, p1, 1 + p2, 1 + p3, 1 + p4, 1 + p5, 1 + p6, p7, p8, 1 + p9, p10]) := ⟨_, rfl⟩
  have EI := Lib.hid (show (Tryd.prog.info? 26).map (·.size) = some E.length by rw [hE]; exact info_rec)
  have EI2 := Lib.hid (show (Tryd.prog.info? 26).map (·.size) = some E.toArray.size by rw [hE]; exact info_rec)
  have EO := Lib.hid (all_oneCell_toArray (cs := E) (by rw [hE]; exact recC_cells _))
  have EL := Lib.hid (show E.length = 11 by rw [hE]; rfl)
  have HYY := Lib.hid (show (recC (toR [u, p1, 1 + p2, 1 + p3, 1 + p4, 1 + p5, 1 + p6, p7, p8, 1 + p9, p10])).toArray = E.toArray by rw [hE])
  have OK := Lib.hid (near_ok b00 b1 b2 b3 b4 b5 b6 b7 b8 b9 b10)
  have HE := Lib.hid hE
  clear hE
  have KEEP := Lib.hid (show ∀ V V' : World, (V.rangeAt g 0 Y ∧ (∃ C : Array Value, C.size = 11 ∧ Blk V r C 26) ∧ Bel w V) → Bel V V' → (V'.rangeAt g 0 Y ∧ (∃ C : Array Value, C.size = 11 ∧ Blk V' r C 26) ∧ Bel w V') from fun V V' h hb => ⟨rng_bel h.1 hb, (let ⟨C, h1, h2⟩ := h.2.1; ⟨C, h1, h2.bel hb⟩), h.2.2.trans hb⟩)
  have SAFE := Lib.hid (show ∀ V : World, (V.rangeAt g 0 Y ∧ (∃ C : Array Value, C.size = 11 ∧ Blk V r C 26) ∧ Bel w V) → ((V.setCells r 0 E.toArray.toList).rangeAt g 0 Y ∧ (∃ C : Array Value, C.size = 11 ∧ Blk (V.setCells r 0 E.toArray.toList) r C 26) ∧ Bel w (V.setCells r 0 E.toArray.toList)) from fun V h =>
    ⟨rng_kep h.1 (kep_setCells r _ 0 V) (HGR.out), ⟨E.toArray, by simpa using EL.out, (let ⟨C, h1, h2⟩ := h.2.1; bwhole h2 (by rw [h1, List.toList_toArray, EL.out]))⟩, bel_setCells h.2.2 (by rw [HR0.out]; exact Nat.le_refl _) 0 _⟩)
  have x0 : IntKind.i64.wrap (u + 1) = u + 1 := wrapJ _ (by omega) (by omega)
  have x2 : IntKind.i64.wrap (1 + p2) = 1 + p2 := wrapJ _ (by omega) (by omega)
  have x3 : IntKind.i64.wrap (1 + p3) = 1 + p3 := wrapJ _ (by omega) (by omega)
  have x4 : IntKind.i64.wrap (1 + p4) = 1 + p4 := wrapJ _ (by omega) (by omega)
  have x5 : IntKind.i64.wrap (1 + p5) = 1 + p5 := wrapJ _ (by omega) (by omega)
  have x6 : IntKind.i64.wrap (1 + p6) = 1 + p6 := wrapJ _ (by omega) (by omega)
  have x9 : IntKind.i64.wrap (1 + p9) = 1 + p9 := wrapJ _ (by omega) (by omega)
  go_upto_region 4 with fail
  refine wp_region_held_drew (S := fun V => V.rangeAt g 0 Y ∧ (∃ C : Array Value, C.size = 11 ∧ Blk V r C 26) ∧ Bel w V) (by kernel_rfl) (KEEP.out _ _ ⟨R3.out, ⟨_, rfl, K3.out⟩, B1.out.trans B3.out⟩ (Bel.refl _).drew) (fun hS0 => ?_)
  obtain ⟨w6, hw6⟩ : ∃ w6, w3.drew = w6 := ⟨_, rfl⟩
  rw [hw6] at hS0 ⊢
  clear hw6 c0
  refine wpAnyH_take (i := 0) (oi := { dst := some 14, op := .move (.tmp 4), type := 3, pos := "outright.go:88", after := #[], guard := none }) (v := .int .i64 u) rfl (by kernel_rfl) (by kernel_rfl) (by kernel_rfl) (fun _ _ _ h => h) (Or.inl ⟨by rfl, by intro w hSw; clear hSw; go_simp⟩) hS0 ?_
  try simp only [Act.put, List.setIfInBounds_toArray, List.set_cons_zero, List.set_cons_succ]
  refine wpAnyH_take (i := 4) (oi := { dst := some 18, op := .move (.tmp 4), type := 3, pos := "outright.go:88", after := #[], guard := none }) (v := .int .i64 u) rfl (by kernel_rfl) (by kernel_rfl) (by kernel_rfl) (fun _ _ _ h => h) (Or.inl ⟨by rfl, by intro w hSw; clear hSw; go_simp⟩) hS0 ?_
  try simp only [Act.put, List.setIfInBounds_toArray, List.set_cons_zero, List.set_cons_succ]
  refine wpAnyH_take (i := 5) (oi := { dst := some 19, op := .binOp .add 3 (.tmp 18) (.const (Value.int IntKind.i64 1)) 3, type := 3, pos := "outright.go:88", after := #[{ on := 4, ground := .data }], guard := none }) (v := .int .i64 (u + 1)) rfl (by kernel_rfl) (by kernel_rfl) (by kernel_rfl) (fun _ _ _ h => h) (Or.inl ⟨by rfl, by intro w hSw; clear hSw; go_simp⟩) hS0 ?_
  try simp only [Act.put, List.setIfInBounds_toArray, List.set_cons_zero, List.set_cons_succ]
  refine wpAnyH_take (i := 1) (oi := { dst := some 15, op := .move (.tmp 3), type := 22, pos := "outright.go:88", after := #[], guard := none }) (v := .slice (some ⟨g, 0, none⟩) 11 11) rfl (by kernel_rfl) (by kernel_rfl) (by kernel_rfl) (fun _ _ _ h => h) (Or.inl ⟨by rfl, by intro w hSw; clear hSw; go_simp⟩) hS0 ?_
  try simp only [Act.put, List.setIfInBounds_toArray, List.set_cons_zero, List.set_cons_succ]
  refine wpAnyH_take (i := 2) (oi := { dst := some 16, op := .indexAddr 22 (.tmp 15) (.const (Value.int IntKind.i64 1)), type := 0, pos := "outright.go:88", after := #[{ on := 1, ground := .data }], guard := none }) (v := .pointer (some ⟨g, 1, none⟩)) rfl (by kernel_rfl) (by kernel_rfl) (by kernel_rfl) (fun _ _ _ h => h) (Or.inl ⟨by rfl, by intro w hSw; clear hSw; go_simp⟩) hS0 ?_
  try simp only [Act.put, List.setIfInBounds_toArray, List.set_cons_zero, List.set_cons_succ]
  refine wpAnyH_take (i := 3) (oi := { dst := some 17, op := .load 3 (.tmp 16), type := 3, pos := "outright.go:88", after := #[{ on := 2, ground := .data }], guard := none }) (v := .int .i64 (xg ns 1)) rfl (by kernel_rfl) (by kernel_rfl) (by kernel_rfl) (fun _ _ _ h => h) (Or.inl ⟨by rfl, by intro w h; have hcell := (RC.out _ h.1 1 (by omega)); clear h; go_simp⟩) hS0 ?_
  try simp only [Act.put, List.setIfInBounds_toArray, List.set_cons_zero, List.set_cons_succ]
  refine wpAnyH_take (i := 7) (oi := { dst := some 21, op := .move (.tmp 3), type := 22, pos := "outright.go:88", after := #[], guard := none }) (v := .slice (some ⟨g, 0, none⟩) 11 11) rfl (by kernel_rfl) (by kernel_rfl) (by kernel_rfl) (fun _ _ _ h => h) (Or.inl ⟨by rfl, by intro w hSw; clear hSw; go_simp⟩) hS0 ?_
  try simp only [Act.put, List.setIfInBounds_toArray, List.set_cons_zero, List.set_cons_succ]
  refine wpAnyH_take (i := 8) (oi := { dst := some 22, op := .indexAddr 22 (.tmp 21) (.const (Value.int IntKind.i64 2)), type := 0, pos := "outright.go:88", after := #[{ on := 7, ground := .data }], guard := none }) (v := .pointer (some ⟨g, 2, none⟩)) rfl (by kernel_rfl) (by kernel_rfl) (by kernel_rfl) (fun _ _ _ h => h) (Or.inl ⟨by rfl, by intro w hSw; clear hSw; go_simp⟩) hS0 ?_
  try simp only [Act.put, List.setIfInBounds_toArray, List.set_cons_zero, List.set_cons_succ]
  refine wpAnyH_take (i := 9) (oi := { dst := some 23, op := .load 3 (.tmp 22), type := 3, pos := "outright.go:88", after := #[{ on := 8, ground := .data }], guard := none }) (v := .int .i64 (xg ns 2)) rfl (by kernel_rfl) (by kernel_rfl) (by kernel_rfl) (fun _ _ _ h => h) (Or.inl ⟨by rfl, by intro w h; have hcell := (RC.out _ h.1 2 (by omega)); clear h; go_simp⟩) hS0 ?_
  try simp only [Act.put, List.setIfInBounds_toArray, List.set_cons_zero, List.set_cons_succ]
  refine wpAnyH_take (i := 12) (oi := { dst := some 26, op := .move (.tmp 3), type := 22, pos := "outright.go:88", after := #[], guard := none }) (v := .slice (some ⟨g, 0, none⟩) 11 11) rfl (by kernel_rfl) (by kernel_rfl) (by kernel_rfl) (fun _ _ _ h => h) (Or.inl ⟨by rfl, by intro w hSw; clear hSw; go_simp⟩) hS0 ?_
  try simp only [Act.put, List.setIfInBounds_toArray, List.set_cons_zero, List.set_cons_succ]
  refine wpAnyH_take (i := 13) (oi := { dst := some 27, op := .indexAddr 22 (.tmp 26) (.const (Value.int IntKind.i64 3)), type := 0, pos := "outright.go:88", after := #[{ on := 12, ground := .data }], guard := none }) (v := .pointer (some ⟨g, 3, none⟩)) rfl (by kernel_rfl) (by kernel_rfl) (by kernel_rfl) (fun _ _ _ h => h) (Or.inl ⟨by rfl, by intro w hSw; clear hSw; go_simp⟩) hS0 ?_
  try simp only [Act.put, List.setIfInBounds_toArray, List.set_cons_zero, List.set_cons_succ]
  refine wpAnyH_take (i := 14) (oi := { dst := some 28, op := .load 3 (.tmp 27), type := 3, pos := "outright.go:88", after := #[{ on := 13, ground := .data }], guard := none }) (v := .int .i64 (xg ns 3)) rfl (by kernel_rfl) (by kernel_rfl) (by kernel_rfl) (fun _ _ _ h => h) (Or.inl ⟨by rfl, by intro w h; have hcell := (RC.out _ h.1 3 (by omega)); clear h; go_simp⟩) hS0 ?_
  try simp only [Act.put, List.setIfInBounds_toArray, List.set_cons_zero, List.set_cons_succ]
  refine wpAnyH_take (i := 17) (oi := { dst := some 31, op := .move (.tmp 3), type := 22, pos := "outright.go:88", after := #[], guard := none }) (v := .slice (some ⟨g, 0, none⟩) 11 11) rfl (by kernel_rfl) (by kernel_rfl) (by kernel_rfl) (fun _ _ _ h => h) (Or.inl ⟨by rfl, by intro w hSw; clear hSw; go_simp⟩) hS0 ?_
  try simp only [Act.put, List.setIfInBounds_toArray, List.set_cons_zero, List.set_cons_succ]
  refine wpAnyH_take (i := 18) (oi := { dst := some 32, op := .indexAddr 22 (.tmp 31) (.const (Value.int IntKind.i64 4)), type := 0, pos := "outright.go:88", after := #[{ on := 17, ground := .data }], guard := none }) (v := .pointer (some ⟨g, 4, none⟩)) rfl (by kernel_rfl) (by kernel_rfl) (by kernel_rfl) (fun _ _ _ h => h) (Or.inl ⟨by rfl, by intro w hSw; clear hSw; go_simp⟩) hS0 ?_
  try simp only [Act.put, List.setIfInBounds_toArray, List.set_cons_zero, List.set_cons_succ]
  refine wpAnyH_take (i := 19) (oi := { dst := some 33, op := .load 3 (.tmp 32), type := 3, pos := "outright.go:88", after := #[{ on := 18, ground := .data }], guard := none }) (v := .int .i64 (xg ns 4)) rfl (by kernel_rfl) (by kernel_rfl) (by kernel_rfl) (fun _ _ _ h => h) (Or.inl ⟨by rfl, by intro w h; have hcell := (RC.out _ h.1 4 (by omega)); clear h; go_simp⟩) hS0 ?_
  try simp only [Act.put, List.setIfInBounds_toArray, List.set_cons_zero, List.set_cons_succ]
  refine wpAnyH_take (i := 22) (oi := { dst := some 36, op := .move (.tmp 3), type := 22, pos := "outright.go:88", after := #[], guard := none }) (v := .slice (some ⟨g, 0, none⟩) 11 11) rfl (by kernel_rfl) (by kernel_rfl) (by kernel_rfl) (fun _ _ _ h => h) (Or.inl ⟨by rfl, by intro w hSw; clear hSw; go_simp⟩) hS0 ?_
  try simp only [Act.put, List.setIfInBounds_toArray, List.set_cons_zero, List.set_cons_succ]
  refine wpAnyH_take (i := 23) (oi := { dst := some 37, op := .indexAddr 22 (.tmp 36) (.const (Value.int IntKind.i64 5)), type := 0, pos := "outright.go:88", after := #[{ on := 22, ground := .data }], guard := none }) (v := .pointer (some ⟨g, 5, none⟩)) rfl (by kernel_rfl) (by kernel_rfl) (by kernel_rfl) (fun _ _ _ h => h) (Or.inl ⟨by rfl, by intro w hSw; clear hSw; go_simp⟩) hS0 ?_
  try simp only [Act.put, List.setIfInBounds_toArray, List.set_cons_zero, List.set_cons_succ]
  refine wpAnyH_take (i := 24) (oi := { dst := some 38, op := .load 3 (.tmp 37), type := 3, pos := "outright.go:88", after := #[{ on := 23, ground := .data }], guard := none }) (v := .int .i64 (xg ns 5)) rfl (by kernel_rfl) (by kernel_rfl) (by kernel_rfl) (fun _ _ _ h => h) (Or.inl ⟨by rfl, by intro w h; have hcell := (RC.out _ h.1 5 (by omega)); clear h; go_simp⟩) hS0 ?_
  try simp only [Act.put, List.setIfInBounds_toArray, List.set_cons_zero, List.set_cons_succ]
  refine wpAnyH_take (i := 27) (oi := { dst := some 41, op := .move (.tmp 3), type := 22, pos := "outright.go:88", after := #[], guard := none }) (v := .slice (some ⟨g, 0, none⟩) 11 11) rfl (by kernel_rfl) (by kernel_rfl) (by kernel_rfl) (fun _ _ _ h => h) (Or.inl ⟨by rfl, by intro w hSw; clear hSw; go_simp⟩) hS0 ?_
  try simp only [Act.put, List.setIfInBounds_toArray, List.set_cons_zero, List.set_cons_succ]
  refine wpAnyH_take (i := 28) (oi := { dst := some 42, op := .indexAddr 22 (.tmp 41) (.const (Value.int IntKind.i64 6)), type := 0, pos := "outright.go:88", after := #[{ on := 27, ground := .data }], guard := none }) (v := .pointer (some ⟨g, 6, none⟩)) rfl (by kernel_rfl) (by kernel_rfl) (by kernel_rfl) (fun _ _ _ h => h) (Or.inl ⟨by rfl, by intro w hSw; clear hSw; go_simp⟩) hS0 ?_
  try simp only [Act.put, List.setIfInBounds_toArray, List.set_cons_zero, List.set_cons_succ]
  refine wpAnyH_take (i := 29) (oi := { dst := some 43, op := .load 3 (.tmp 42), type := 3, pos := "outright.go:88", after := #[{ on := 28, ground := .data }], guard := none }) (v := .int .i64 (xg ns 6)) rfl (by kernel_rfl) (by kernel_rfl) (by kernel_rfl) (fun _ _ _ h => h) (Or.inl ⟨by rfl, by intro w h; have hcell := (RC.out _ h.1 6 (by omega)); clear h; go_simp⟩) hS0 ?_
  try simp only [Act.put, List.setIfInBounds_toArray, List.set_cons_zero, List.set_cons_succ]
  refine wpAnyH_take (i := 32) (oi := { dst := some 46, op := .move (.tmp 3), type := 22, pos := "outright.go:88", after := #[], guard := none }) (v := .slice (some ⟨g, 0, none⟩) 11 11) rfl (by kernel_rfl) (by kernel_rfl) (by kernel_rfl) (fun _ _ _ h => h) (Or.inl ⟨by rfl, by intro w hSw; clear hSw; go_simp⟩) hS0 ?_
  try simp only [Act.put, List.setIfInBounds_toArray, List.set_cons_zero, List.set_cons_succ]
  refine wpAnyH_take (i := 33) (oi := { dst := some 47, op := .indexAddr 22 (.tmp 46) (.const (Value.int IntKind.i64 7)), type := 0, pos := "outright.go:88", after := #[{ on := 32, ground := .data }], guard := none }) (v := .pointer (some ⟨g, 7, none⟩)) rfl (by kernel_rfl) (by kernel_rfl) (by kernel_rfl) (fun _ _ _ h => h) (Or.inl ⟨by rfl, by intro w hSw; clear hSw; go_simp⟩) hS0 ?_
  try simp only [Act.put, List.setIfInBounds_toArray, List.set_cons_zero, List.set_cons_succ]
  refine wpAnyH_take (i := 34) (oi := { dst := some 48, op := .load 3 (.tmp 47), type := 3, pos := "outright.go:88", after := #[{ on := 33, ground := .data }], guard := none }) (v := .int .i64 (xg ns 7)) rfl (by kernel_rfl) (by kernel_rfl) (by kernel_rfl) (fun _ _ _ h => h) (Or.inl ⟨by rfl, by intro w h; have hcell := (RC.out _ h.1 7 (by omega)); clear h; go_simp⟩) hS0 ?_
  try simp only [Act.put, List.setIfInBounds_toArray, List.set_cons_zero, List.set_cons_succ]
  refine wpAnyH_take (i := 36) (oi := { dst := some 50, op := .move (.tmp 3), type := 22, pos := "outright.go:88", after := #[], guard := none }) (v := .slice (some ⟨g, 0, none⟩) 11 11) rfl (by kernel_rfl) (by kernel_rfl) (by kernel_rfl) (fun _ _ _ h => h) (Or.inl ⟨by rfl, by intro w hSw; clear hSw; go_simp⟩) hS0 ?_
  try simp only [Act.put, List.setIfInBounds_toArray, List.set_cons_zero, List.set_cons_succ]
  refine wpAnyH_take (i := 37) (oi := { dst := some 51, op := .indexAddr 22 (.tmp 50) (.const (Value.int IntKind.i64 8)), type := 0, pos := "outright.go:88", after := #[{ on := 36, ground := .data }], guard := none }) (v := .pointer (some ⟨g, 8, none⟩)) rfl (by kernel_rfl) (by kernel_rfl) (by kernel_rfl) (fun _ _ _ h => h) (Or.inl ⟨by rfl, by intro w hSw; clear hSw; go_simp⟩) hS0 ?_
  try simp only [Act.put, List.setIfInBounds_toArray, List.set_cons_zero, List.set_cons_succ]
  refine wpAnyH_take (i := 38) (oi := { dst := some 52, op := .load 3 (.tmp 51), type := 3, pos := "outright.go:88", after := #[{ on := 37, ground := .data }], guard := none }) (v := .int .i64 (xg ns 8)) rfl (by kernel_rfl) (by kernel_rfl) (by kernel_rfl) (fun _ _ _ h => h) (Or.inl ⟨by rfl, by intro w h; have hcell := (RC.out _ h.1 8 (by omega)); clear h; go_simp⟩) hS0 ?_
  try simp only [Act.put, List.setIfInBounds_toArray, List.set_cons_zero, List.set_cons_succ]
  refine wpAnyH_take (i := 40) (oi := { dst := some 54, op := .move (.tmp 3), type := 22, pos := "outright.go:88", after := #[], guard := none }) (v := .slice (some ⟨g, 0, none⟩) 11 11) rfl (by kernel_rfl) (by kernel_rfl) (by kernel_rfl) (fun _ _ _ h => h) (Or.inl ⟨by rfl, by intro w hSw; clear hSw; go_simp⟩) hS0 ?_
  try simp only [Act.put, List.setIfInBounds_toArray, List.set_cons_zero, List.set_cons_succ]
  refine wpAnyH_take (i := 41) (oi := { dst := some 55, op := .indexAddr 22 (.tmp 54) (.const (Value.int IntKind.i64 9)), type := 0, pos := "outright.go:88", after := #[{ on := 40, ground := .data }], guard := none }) (v := .pointer (some ⟨g, 9, none⟩)) rfl (by kernel_rfl) (by kernel_rfl) (by kernel_rfl) (fun _ _ _ h => h) (Or.inl ⟨by rfl, by intro w hSw; clear hSw; go_simp⟩) hS0 ?_
  try simp only [Act.put, List.setIfInBounds_toArray, List.set_cons_zero, List.set_cons_succ]
  refine wpAnyH_take (i := 42) (oi := { dst := some 56, op := .load 3 (.tmp 55), type := 3, pos := "outright.go:88", after := #[{ on := 41, ground := .data }], guard := none }) (v := .int .i64 (xg ns 9)) rfl (by kernel_rfl) (by kernel_rfl) (by kernel_rfl) (fun _ _ _ h => h) (Or.inl ⟨by rfl, by intro w h; have hcell := (RC.out _ h.1 9 (by omega)); clear h; go_simp⟩) hS0 ?_
  try simp only [Act.put, List.setIfInBounds_toArray, List.set_cons_zero, List.set_cons_succ]
  refine wpAnyH_take (i := 45) (oi := { dst := some 59, op := .move (.tmp 3), type := 22, pos := "outright.go:88", after := #[], guard := none }) (v := .slice (some ⟨g, 0, none⟩) 11 11) rfl (by kernel_rfl) (by kernel_rfl) (by kernel_rfl) (fun _ _ _ h => h) (Or.inl ⟨by rfl, by intro w hSw; clear hSw; go_simp⟩) hS0 ?_
  try simp only [Act.put, List.setIfInBounds_toArray, List.set_cons_zero, List.set_cons_succ]
  refine wpAnyH_take (i := 46) (oi := { dst := some 60, op := .indexAddr 22 (.tmp 59) (.const (Value.int IntKind.i64 10)), type := 0, pos := "outright.go:88", after := #[{ on := 45, ground := .data }], guard := none }) (v := .pointer (some ⟨g, 10, none⟩)) rfl (by kernel_rfl) (by kernel_rfl) (by kernel_rfl) (fun _ _ _ h => h) (Or.inl ⟨by rfl, by intro w hSw; clear hSw; go_simp⟩) hS0 ?_
  try simp only [Act.put, List.setIfInBounds_toArray, List.set_cons_zero, List.set_cons_succ]
  refine wpAnyH_take (i := 47) (oi := { dst := some 61, op := .load 3 (.tmp 60), type := 3, pos := "outright.go:88", after := #[{ on := 46, ground := .data }], guard := none }) (v := .int .i64 (xg ns 10)) rfl (by kernel_rfl) (by kernel_rfl) (by kernel_rfl) (fun _ _ _ h => h) (Or.inl ⟨by rfl, by intro w h; have hcell := (RC.out _ h.1 10 (by omega)); clear h; go_simp⟩) hS0 ?_
  try simp only [Act.put, List.setIfInBounds_toArray, List.set_cons_zero, List.set_cons_succ]
  refine wpAnyH_ready (rs := [6]) (by kernel_rfl) (by simp) ?_
  refine AllReadyH.cons (o := { dst := some 20, op := .call { callee := .value (.func 9), args := #[.tmp 17, .tmp 19], argTypes := #[3, 3] }, type := 3, pos := "outright.go:88", after := #[{ on := 3, ground := .data }, { on := 5, ground := .data }], guard := none }) rfl (fun K hK => ?_) AllReadyH.nil
  go_simp
  refine (P1.out _).mono ?_
  rintro e v1 ⟨rfl, rfl⟩
  go_wp2_with fail
  refine hK.out _ _ (hS0) (fun hS1 => ?_)
  clear hK K
  try simp only [Act.put, List.setIfInBounds_toArray, List.set_cons_zero, List.set_cons_succ]
  refine wpAnyH_ready (rs := [10]) (by kernel_rfl) (by simp) ?_
  refine AllReadyH.cons (o := { dst := some 24, op := .call { callee := .value (.func 9), args := #[.tmp 23, .const (Value.int IntKind.i64 1000)], argTypes := #[3, 3] }, type := 3, pos := "outright.go:88", after := #[{ on := 9, ground := .data }, { on := 6, ground := .chain }], guard := none }) rfl (fun K hK => ?_) AllReadyH.nil
  go_simp
  refine (P2.out _).mono ?_
  rintro e v2 ⟨rfl, rfl⟩
  go_wp2_with fail
  refine hK.out _ _ (hS1) (fun hS2 => ?_)
  clear hK K
  try simp only [Act.put, List.setIfInBounds_toArray, List.set_cons_zero, List.set_cons_succ]
  refine wpAnyH_take (i := 11) (oi := { dst := some 25, op := .binOp .add 3 (.const (Value.int IntKind.i64 1)) (.tmp 24) 3, type := 3, pos := "outright.go:88", after := #[{ on := 10, ground := .data }], guard := none }) (v := .int .i64 (1 + p2)) rfl (by kernel_rfl) (by kernel_rfl) (by kernel_rfl) (fun _ _ _ h => h) (Or.inl ⟨by rfl, by intro w hSw; clear hSw; go_simp⟩) hS2 ?_
  try simp only [Act.put, List.setIfInBounds_toArray, List.set_cons_zero, List.set_cons_succ]
  refine wpAnyH_ready (rs := [15]) (by kernel_rfl) (by simp) ?_
  refine AllReadyH.cons (o := { dst := some 29, op := .call { callee := .value (.func 9), args := #[.tmp 28, .const (Value.int IntKind.i64 256)], argTypes := #[3, 3] }, type := 3, pos := "outright.go:88", after := #[{ on := 14, ground := .data }, { on := 10, ground := .chain }], guard := none }) rfl (fun K hK => ?_) AllReadyH.nil
  go_simp
  refine (P3.out _).mono ?_
  rintro e v3 ⟨rfl, rfl⟩
  go_wp2_with fail
  refine hK.out _ _ (hS2) (fun hS3 => ?_)
  clear hK K
  try simp only [Act.put, List.setIfInBounds_toArray, List.set_cons_zero, List.set_cons_succ]
  refine wpAnyH_take (i := 16) (oi := { dst := some 30, op := .binOp .add 3 (.const (Value.int IntKind.i64 1)) (.tmp 29) 3, type := 3, pos := "outright.go:88", after := #[{ on := 15, ground := .data }], guard := none }) (v := .int .i64 (1 + p3)) rfl (by kernel_rfl) (by kernel_rfl) (by kernel_rfl) (fun _ _ _ h => h) (Or.inl ⟨by rfl, by intro w hSw; clear hSw; go_simp⟩) hS3 ?_
  try simp only [Act.put, List.setIfInBounds_toArray, List.set_cons_zero, List.set_cons_succ]
  refine wpAnyH_ready (rs := [20]) (by kernel_rfl) (by simp) ?_
  refine AllReadyH.cons (o := { dst := some 34, op := .call { callee := .value (.func 9), args := #[.tmp 33, .const (Value.int IntKind.i64 16)], argTypes := #[3, 3] }, type := 3, pos := "outright.go:88", after := #[{ on := 19, ground := .data }, { on := 15, ground := .chain }], guard := none }) rfl (fun K hK => ?_) AllReadyH.nil
  go_simp
  refine (P4.out _).mono ?_
  rintro e v4 ⟨rfl, rfl⟩
  go_wp2_with fail
  refine hK.out _ _ (hS3) (fun hS4 => ?_)
  clear hK K
  try simp only [Act.put, List.setIfInBounds_toArray, List.set_cons_zero, List.set_cons_succ]
  refine wpAnyH_take (i := 21) (oi := { dst := some 35, op := .binOp .add 3 (.const (Value.int IntKind.i64 1)) (.tmp 34) 3, type := 3, pos := "outright.go:88", after := #[{ on := 20, ground := .data }], guard := none }) (v := .int .i64 (1 + p4)) rfl (by kernel_rfl) (by kernel_rfl) (by kernel_rfl) (fun _ _ _ h => h) (Or.inl ⟨by rfl, by intro w hSw; clear hSw; go_simp⟩) hS4 ?_
  try simp only [Act.put, List.setIfInBounds_toArray, List.set_cons_zero, List.set_cons_succ]
  refine wpAnyH_ready (rs := [25]) (by kernel_rfl) (by simp) ?_
  refine AllReadyH.cons (o := { dst := some 39, op := .call { callee := .value (.func 9), args := #[.tmp 38, .const (Value.int IntKind.i64 32)], argTypes := #[3, 3] }, type := 3, pos := "outright.go:88", after := #[{ on := 24, ground := .data }, { on := 20, ground := .chain }], guard := none }) rfl (fun K hK => ?_) AllReadyH.nil
  go_simp
  refine (P5.out _).mono ?_
  rintro e v5 ⟨rfl, rfl⟩
  go_wp2_with fail
  refine hK.out _ _ (hS4) (fun hS5 => ?_)
  clear hK K
  try simp only [Act.put, List.setIfInBounds_toArray, List.set_cons_zero, List.set_cons_succ]
  refine wpAnyH_take (i := 26) (oi := { dst := some 40, op := .binOp .add 3 (.const (Value.int IntKind.i64 1)) (.tmp 39) 3, type := 3, pos := "outright.go:88", after := #[{ on := 25, ground := .data }], guard := none }) (v := .int .i64 (1 + p5)) rfl (by kernel_rfl) (by kernel_rfl) (by kernel_rfl) (fun _ _ _ h => h) (Or.inl ⟨by rfl, by intro w hSw; clear hSw; go_simp⟩) hS5 ?_
  try simp only [Act.put, List.setIfInBounds_toArray, List.set_cons_zero, List.set_cons_succ]
  refine wpAnyH_ready (rs := [30]) (by kernel_rfl) (by simp) ?_
  refine AllReadyH.cons (o := { dst := some 44, op := .call { callee := .value (.func 9), args := #[.tmp 43, .const (Value.int IntKind.i64 1048576)], argTypes := #[3, 3] }, type := 3, pos := "outright.go:88", after := #[{ on := 29, ground := .data }, { on := 25, ground := .chain }], guard := none }) rfl (fun K hK => ?_) AllReadyH.nil
  go_simp
  refine (P6.out _).mono ?_
  rintro e v6 ⟨rfl, rfl⟩
  go_wp2_with fail
  refine hK.out _ _ (hS5) (fun hS6 => ?_)
  clear hK K
  try simp only [Act.put, List.setIfInBounds_toArray, List.set_cons_zero, List.set_cons_succ]
  refine wpAnyH_take (i := 31) (oi := { dst := some 45, op := .binOp .add 3 (.const (Value.int IntKind.i64 1)) (.tmp 44) 3, type := 3, pos := "outright.go:88", after := #[{ on := 30, ground := .data }], guard := none }) (v := .int .i64 (1 + p6)) rfl (by kernel_rfl) (by kernel_rfl) (by kernel_rfl) (fun _ _ _ h => h) (Or.inl ⟨by rfl, by intro w hSw; clear hSw; go_simp⟩) hS6 ?_
  try simp only [Act.put, List.setIfInBounds_toArray, List.set_cons_zero, List.set_cons_succ]
  refine wpAnyH_ready (rs := [35]) (by kernel_rfl) (by simp) ?_
  refine AllReadyH.cons (o := { dst := some 49, op := .call { callee := .value (.func 9), args := #[.tmp 48, .const (Value.int IntKind.i64 1000000001)], argTypes := #[3, 3] }, type := 3, pos := "outright.go:88", after := #[{ on := 34, ground := .data }, { on := 30, ground := .chain }], guard := none }) rfl (fun K hK => ?_) AllReadyH.nil
  go_simp
  refine (P7.out _).mono ?_
  rintro e v7 ⟨rfl, rfl⟩
  go_wp2_with fail
  refine hK.out _ _ (hS6) (fun hS7 => ?_)
  clear hK K
  try simp only [Act.put, List.setIfInBounds_toArray, List.set_cons_zero, List.set_cons_succ]
  refine wpAnyH_ready (rs := [39]) (by kernel_rfl) (by simp) ?_
  refine AllReadyH.cons (o := { dst := some 53, op := .call { callee := .value (.func 9), args := #[.tmp 52, .const (Value.int IntKind.i64 1001)], argTypes := #[3, 3] }, type := 3, pos := "outright.go:88", after := #[{ on := 38, ground := .data }, { on := 35, ground := .chain }], guard := none }) rfl (fun K hK => ?_) AllReadyH.nil
  go_simp
  refine (P8.out _).mono ?_
  rintro e v8 ⟨rfl, rfl⟩
  go_wp2_with fail
  refine hK.out _ _ (hS7) (fun hS8 => ?_)
  clear hK K
  try simp only [Act.put, List.setIfInBounds_toArray, List.set_cons_zero, List.set_cons_succ]
  refine wpAnyH_ready (rs := [43]) (by kernel_rfl) (by simp) ?_
  refine AllReadyH.cons (o := { dst := some 57, op := .call { callee := .value (.func 9), args := #[.tmp 56, .const (Value.int IntKind.i64 1048576)], argTypes := #[3, 3] }, type := 3, pos := "outright.go:88", after := #[{ on := 42, ground := .data }, { on := 39, ground := .chain }], guard := none }) rfl (fun K hK => ?_) AllReadyH.nil
  go_simp
  refine (P9.out _).mono ?_
  rintro e v9 ⟨rfl, rfl⟩
  go_wp2_with fail
  refine hK.out _ _ (hS8) (fun hS9 => ?_)
  clear hK K
  try simp only [Act.put, List.setIfInBounds_toArray, List.set_cons_zero, List.set_cons_succ]
  refine wpAnyH_take (i := 44) (oi := { dst := some 58, op := .binOp .add 3 (.const (Value.int IntKind.i64 1)) (.tmp 57) 3, type := 3, pos := "outright.go:88", after := #[{ on := 43, ground := .data }], guard := none }) (v := .int .i64 (1 + p9)) rfl (by kernel_rfl) (by kernel_rfl) (by kernel_rfl) (fun _ _ _ h => h) (Or.inl ⟨by rfl, by intro w hSw; clear hSw; go_simp⟩) hS9 ?_
  try simp only [Act.put, List.setIfInBounds_toArray, List.set_cons_zero, List.set_cons_succ]
  refine wpAnyH_ready (rs := [48]) (by kernel_rfl) (by simp) ?_
  refine AllReadyH.cons (o := { dst := some 62, op := .call { callee := .value (.func 9), args := #[.tmp 61, .const (Value.int IntKind.i64 1000000001)], argTypes := #[3, 3] }, type := 3, pos := "outright.go:88", after := #[{ on := 47, ground := .data }, { on := 43, ground := .chain }], guard := none }) rfl (fun K hK => ?_) AllReadyH.nil
  go_simp
  refine (P10.out _).mono ?_
  rintro e v10 ⟨rfl, rfl⟩
  go_wp2_with fail
  refine hK.out _ _ (hS9) (fun hS10 => ?_)
  clear hK K
  try simp only [Act.put, List.setIfInBounds_toArray, List.set_cons_zero, List.set_cons_succ]
  refine wpAnyH_ready (rs := [49]) (by kernel_rfl) (by simp) ?_
  refine AllReadyH.cons (o := { dst := some 63, op := .buildSlice 22 11 #[(0, .tmp 14), (1, .tmp 20), (2, .tmp 25), (3, .tmp 30), (4, .tmp 35), (5, .tmp 40), (6, .tmp 45), (7, .tmp 49), (8, .tmp 53), (9, .tmp 58), (10, .tmp 62)], type := 22, pos := "outright.go:88", after := #[{ on := 0, ground := .data }, { on := 6, ground := .data }, { on := 11, ground := .data }, { on := 16, ground := .data }, { on := 21, ground := .data }, { on := 26, ground := .data }, { on := 31, ground := .data }, { on := 35, ground := .data }, { on := 39, ground := .data }, { on := 44, ground := .data }, { on := 48, ground := .data }], guard := none }) rfl (fun K hK => ?_) AllReadyH.nil
  go_simp
  have b49 := (Bel.refl w6).alloc (.cells #[.int .i64 u, .int .i64 p1, .int .i64 (1 + p2), .int .i64 (1 + p3), .int .i64 (1 + p4), .int .i64 (1 + p5), .int .i64 (1 + p6), .int .i64 p7, .int .i64 p8, .int .i64 (1 + p9), .int .i64 p10] 3)
  have hS49 := KEEP.out _ _ hS10 b49
  refine hK.out _ _ hS49 (fun _ => ?_)
  clear hK K
  try simp only [Act.put, List.setIfInBounds_toArray, List.set_cons_zero, List.set_cons_succ]
  have r49 : (w6.alloc (.cells #[.int .i64 u, .int .i64 p1, .int .i64 (1 + p2), .int .i64 (1 + p3), .int .i64 (1 + p4), .int .i64 (1 + p5), .int .i64 (1 + p6), .int .i64 p7, .int .i64 p8, .int .i64 (1 + p9), .int .i64 p10] 3)).rangeAt w6.heap.size 0 (([u, p1, 1 + p2, 1 + p3, 1 + p4, 1 + p5, 1 + p6, p7, p8, 1 + p9, p10] : List Int).map (Value.int .i64)) := rngB (Blk.new w6 _ _)
  obtain ⟨h, hh⟩ : ∃ h, w6.heap.size = h := ⟨_, rfl⟩
  obtain ⟨w7, hw7⟩ : ∃ w7, w6.alloc (.cells #[.int .i64 u, .int .i64 p1, .int .i64 (1 + p2), .int .i64 (1 + p3), .int .i64 (1 + p4), .int .i64 (1 + p5), .int .i64 (1 + p6), .int .i64 p7, .int .i64 p8, .int .i64 (1 + p9), .int .i64 p10] 3) = w7 := ⟨_, rfl⟩
  rw [hh, hw7] at r49
  rw [hw7] at hS49
  rw [hh, hw7]
  have RK := Lib.hid (recordK h 0 11 [u, p1, 1 + p2, 1 + p3, 1 + p4, 1 + p5, 1 + p6, p7, p8, 1 + p9, p10] rfl (by omega) w7 r49)
  clear hh hw7 r49 b49
  refine wpAnyH_ready (rs := [50]) (by kernel_rfl) (by simp) ?_
  refine AllReadyH.cons (o := { dst := some 64, op := .call { callee := .value (.func 23), args := #[.tmp 63], argTypes := #[22] }, type := 26, pos := "outright.go:88", after := #[{ on := 49, ground := .data }, { on := 48, ground := .chain }], guard := none }) rfl (fun K hK => ?_) AllReadyH.nil
  go_simp
  refine (RK.out).mono ?_
  rintro e w8 ⟨rfl, k8⟩
  rw [HYY.out]
  go_wp2_with fail
  have hS50 := KEEP.out _ _ hS49 k8
  refine hK.out _ _ hS50 (fun _ => ?_)
  clear hK K RK k8
  try simp only [Act.put, List.setIfInBounds_toArray, List.set_cons_zero, List.set_cons_succ]
  obtain ⟨C, hC, hb⟩ := hS50.2.1
  have t1 := bthere hb 0 E.toArray.size (by rw [List.size_toArray, EL.out, hC]; omega)
  have t2 := bwhole (vs := E) hb (by rw [hC, EL.out])
  refine wpAnyH_ready (rs := [51]) (by kernel_rfl) (by simp) ?_
  refine AllReadyH.cons (o := { dst := none, op := .store 26 (.tmp 2) (.tmp 64), type := 0, pos := "outright.go:88", after := #[{ on := 50, ground := .data }, { on := 50, ground := .chain }, { on := 0, ground := .phase }, { on := 1, ground := .phase }, { on := 2, ground := .phase }, { on := 3, ground := .phase }, { on := 4, ground := .phase }, { on := 5, ground := .phase }, { on := 6, ground := .phase }, { on := 7, ground := .phase }, { on := 8, ground := .phase }, { on := 9, ground := .phase }, { on := 10, ground := .phase }, { on := 11, ground := .phase }, { on := 12, ground := .phase }, { on := 13, ground := .phase }, { on := 14, ground := .phase }, { on := 15, ground := .phase }, { on := 16, ground := .phase }, { on := 17, ground := .phase }, { on := 18, ground := .phase }, { on := 19, ground := .phase }, { on := 20, ground := .phase }, { on := 21, ground := .phase }, { on := 22, ground := .phase }, { on := 23, ground := .phase }, { on := 24, ground := .phase }, { on := 25, ground := .phase }, { on := 26, ground := .phase }, { on := 27, ground := .phase }, { on := 28, ground := .phase }, { on := 29, ground := .phase }, { on := 30, ground := .phase }, { on := 31, ground := .phase }, { on := 32, ground := .phase }, { on := 33, ground := .phase }, { on := 34, ground := .phase }, { on := 35, ground := .phase }, { on := 36, ground := .phase }, { on := 37, ground := .phase }, { on := 38, ground := .phase }, { on := 39, ground := .phase }, { on := 40, ground := .phase }, { on := 41, ground := .phase }, { on := 42, ground := .phase }, { on := 43, ground := .phase }, { on := 44, ground := .phase }, { on := 45, ground := .phase }, { on := 46, ground := .phase }, { on := 47, ground := .phase }, { on := 48, ground := .phase }, { on := 49, ground := .phase }, { on := 50, ground := .phase }], guard := none }) rfl (fun K hK => ?_) AllReadyH.nil
  rw [if_pos (by rfl)]
  refine wp_store_mid 26 (.tmp 2) (.tmp 64) rfl r 0 E.toArray rfl rfl t1 EI2.out EO.out ?_
  refine hK.out _ _ (SAFE.out _ hS50) (fun _ => ?_)
  clear hK K
  try simp only [Act.put]
  refine wpAnyH_done (by kernel_rfl) ?_ _
  go_wp2_with fail
  have BF := (SAFE.out _ hS50).2.2
  refine bodyPost_ret (res_c Tryd.results6 _ _ ⟨r, 0, none⟩ (.agg E.toArray) rfl (load_b t2 Tryd.underlying26 rfl EI.out)) rfl ⟨_, by rw [← HYY.out], OK.out.1, OK.out.2, BF⟩
end Pm
end Go.Proofs.YtkblbcdinibncaaDoor
end
