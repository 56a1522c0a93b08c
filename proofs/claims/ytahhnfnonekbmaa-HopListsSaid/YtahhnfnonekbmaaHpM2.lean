/-
  What follows of lists of hops: the ripe ones are a beginning; going up in two steps; lists that were made by Adds of one most. No program.
-/
import Derived.Test.YtahhnfnonekbmaaHpM
namespace Go.Proofs.Ytahhnfnonekbmaa
open Go.RowKit Go.Shelf
set_option linter.unusedVariables false
namespace Hp

theorem rip_cons_le {y : R4} {l : List R4} {m : Int} (h : cr y ≤ m) : rip (y :: l) m = y :: rip l m := List.filter_cons_of_pos (by simpa using h)
theorem lft_cons_le {y : R4} {l : List R4} {m : Int} (h : cr y ≤ m) : lft (y :: l) m = lft l m := List.filter_cons_of_neg (by simp; omega)
theorem rip_all_gt {l : List R4} {m : Int} (h : ∀ r ∈ l, m < cr r) : rip l m = [] := List.filter_eq_nil_iff.2 (fun r hr => by have := h r hr; simp; omega)
theorem lft_all_gt {l : List R4} {m : Int} (h : ∀ r ∈ l, m < cr r) : lft l m = l := List.filter_eq_self.2 (fun r hr => decide_eq_true (h r hr))
theorem srt_gt {y : R4} {l : List R4} {b m : Int} (hs : Srt b (y :: l)) (h : m < cr y) : ∀ r ∈ y :: l, m < cr r := fun r hr => by
  rcases List.mem_cons.1 hr with rfl | hr
  · exact h
  · have := (srt_le l (cr y) hs.2.2 r hr).2
    omega
theorem rip_lft : ∀ (l : List R4) (b m : Int), Srt b l → rip l m ++ lft l m = l
  | [], _, _, _ => rfl
  | y :: l, b, m, hs => by
    rcases Int.lt_or_le m (cr y) with h | h
    · rw [rip_all_gt (srt_gt hs h), lft_all_gt (srt_gt hs h)]; rfl
    · rw [rip_cons_le h, lft_cons_le h]
      show y :: (rip l m ++ lft l m) = _
      rw [rip_lft l (cr y) m hs.2.2]
theorem rip_two : ∀ (l : List R4) (b f g : Int), Srt b l → f ≤ g → rip l f ++ rip (lft l f) g = rip l g
  | [], _, _, _, _, _ => rfl
  | y :: l, b, f, g, hs, hfg => by
    rcases Int.lt_or_le f (cr y) with h | h
    · rw [rip_all_gt (srt_gt hs h), lft_all_gt (srt_gt hs h)]; rfl
    · rw [rip_cons_le h, lft_cons_le h, rip_cons_le (by omega : cr y ≤ g)]
      show y :: (rip l f ++ rip (lft l f) g) = _
      rw [rip_two l (cr y) f g hs.2.2 hfg]
theorem lft_two (l : List R4) (f g : Int) (hfg : f ≤ g) : lft (lft l f) g = lft l g := by
  unfold lft
  rw [List.filter_filter]
  refine List.filter_congr fun r _ => ?_
  by_cases h : g < cr r
  · rw [decide_eq_true h, decide_eq_true (by omega : f < cr r)]; rfl
  · rw [decide_eq_false h]; rfl
theorem rip_iff {l : List R4} {b m : Int} (hs : Srt b l) {i : Nat} {r : R4} (hr : l[i]? = some r) : i < (rip l m).length ↔ cr r ≤ m := by
  have e := rip_lft l b m hs
  constructor
  · intro hi
    rw [← e, List.getElem?_append_left hi] at hr
    have := List.mem_filter.1 (List.mem_of_getElem? hr)
    simpa using this.2
  · intro hm
    rcases Nat.lt_or_ge i (rip l m).length with hi | hi
    · exact hi
    · rw [← e, List.getElem?_append_right hi] at hr
      have := (List.mem_filter.1 (List.mem_of_getElem? hr)).2
      simp at this
      omega
theorem srt_lft : ∀ (l : List R4) (b m : Int), Srt b l → Srt b (lft l m)
  | [], _, _, _ => trivial
  | y :: l, b, m, hs => by
    rcases Int.lt_or_le m (cr y) with h | h
    · rw [lft_all_gt (srt_gt hs h)]; exact hs
    · rw [lft_cons_le h]
      have h2 := srt_lft l (cr y) m hs.2.2
      cases hl : lft l m with
      | nil => trivial
      | cons z t =>
        rw [hl] at h2
        exact ⟨h2.1, Int.le_trans hs.2.1 h2.2.1, h2.2.2⟩
theorem ok_lft {l : List R4} (m : Int) (h : Ok l) : Ok (lft l m) := ⟨Nat.le_trans (List.length_filter_le _ _) h.1, srt_lft l 0 m h.2⟩
theorem rip_first {l : List R4} {b : Int} {y : R4} (hs : Srt b l) (hy : l[0]? = some y) : rip l (cr y - 1) = [] ∧ lft l (cr y - 1) = l ∧ 0 < (rip l (cr y)).length := by
  cases l with
  | nil => simp at hy
  | cons x l =>
    simp at hy; subst hy
    refine ⟨rip_all_gt (srt_gt hs (by omega)), lft_all_gt (srt_gt hs (by omega)), ?_⟩
    rw [rip_cons_le (Int.le_refl _)]
    simp

/-- The hop of a number at a height. -/
def hopN (n at_ : Int) : R4 := (n / 4 % 3, n / 12 % 3, 3 + n / 36 % 2, at_)
/-- One more number. -/
def mstep (m : Int) (s : List R4 × Int) (z : Int) : List R4 × Int :=
  (if m ≤ cnt s.1 (hopN (z % 4000) 0).1 (hopN (z % 4000) 0).2.1 (hopN (z % 4000) 0).2.2.1 then s.1 else s.1 ++ [hopN (z % 4000) (s.2 + z % 4000 % 4)], s.2 + z % 4000 % 4)
def mad (m : Int) (zs : List Int) : List R4 × Int := zs.foldl (mstep m) ([], 1)
structure Mi (m : Int) (k : Nat) (s : List R4 × Int) : Prop where
  srt : Srt 0 s.1
  bef : bef 0 s.1 s.1.length ≤ s.2
  lo : 1 ≤ s.2
  hi : s.2 ≤ 1 + 3 * k
  len : s.1.length ≤ k
  most : ∀ o s_ d, (cnt s.1 o s_ d : Int) ≤ m
theorem hopN_may {n at_ : Int} (h : 1 ≤ at_) (h2 : at_ ≤ 4294967296) : may (hopN n at_) = true := (may_iff _ _ _ _).2 ⟨by omega, by omega, by omega, by omega, by omega, by omega, by omega, h, h2⟩
theorem bef_snoc (b : Int) (l : List R4) (x : R4) : Hp.bef b (l ++ [x]) (l ++ [x]).length = cr x := by
  rw [List.length_append]
  show ((l ++ [x])[l.length]?).elim 0 cr = _
  rw [List.getElem?_append_right (Nat.le_refl _), Nat.sub_self]
  rfl
theorem mi_step {m : Int} {k : Nat} {s : List R4 × Int} (h : Mi m k s) (hk : k ≤ 1000) (hm : 1 ≤ m) (z : Int) : Mi m (k + 1) (mstep m s z) := by
  have h1 := h.lo
  have h2 := h.hi
  have e3 : s.2 + z % 4000 % 4 ≤ s.2 + 3 := by omega
  have e4 : s.2 ≤ s.2 + z % 4000 % 4 := by omega
  unfold mstep
  by_cases hc : m ≤ cnt s.1 (hopN (z % 4000) 0).1 (hopN (z % 4000) 0).2.1 (hopN (z % 4000) 0).2.2.1
  · rw [if_pos hc]
    exact ⟨h.srt, Int.le_trans h.bef e4, by show 1 ≤ s.2 + z % 4000 % 4; omega, by show s.2 + z % 4000 % 4 ≤ _; push_cast; omega, Nat.le_succ_of_le h.len, h.most⟩
  · rw [if_neg hc]
    refine ⟨(srt_snoc _ _ _).2 ⟨h.srt, hopN_may (by omega) (by omega), Int.le_trans h.bef e4⟩, by rw [bef_snoc]; exact Int.le_refl _, by show 1 ≤ s.2 + z % 4000 % 4; omega, by show s.2 + z % 4000 % 4 ≤ _; push_cast; omega, ?_, fun o c d => ?_⟩
    · show (s.1 ++ _).length ≤ k + 1
      rw [List.length_append]
      have := h.len
      simp; omega
    · show (cnt (s.1 ++ _) o c d : Int) ≤ m
      rw [cnt_snoc]
      have h5 := h.most o c d
      by_cases hg : goes o c d (hopN (z % 4000) (s.2 + z % 4000 % 4)) = true
      · rw [if_pos hg]
        have : (hopN (z % 4000) 0).1 = o ∧ (hopN (z % 4000) 0).2.1 = c ∧ (hopN (z % 4000) 0).2.2.1 = d := by
          have := hg
          simpa [goes, hopN] using this
        rw [this.1, this.2.1, this.2.2] at hc
        push_cast; omega
      · rw [if_neg hg]; simpa using h5
theorem mi_nil {m : Int} (hm : 1 ≤ m) : Mi m 0 ([], 1) := ⟨trivial, by decide, by decide, by decide, by decide, fun o s d => by show ((0 : Nat) : Int) ≤ m; omega⟩
theorem mad_take {m : Int} {zs : List Int} {k : Nat} {z : Int} (h : zs[k]? = some z) : mad m (zs.take (k + 1)) = mstep m (mad m (zs.take k)) z := by
  unfold mad
  rw [List.take_add_one, h, List.foldl_append]
  rfl
theorem mi_take {m : Int} (hm : 1 ≤ m) (zs : List Int) (hl : zs.length ≤ 1000) : ∀ k, k ≤ zs.length → Mi m k (mad m (zs.take k))
  | 0, _ => mi_nil hm
  | k + 1, hk => by
    rw [mad_take (List.getElem?_eq_getElem (by omega))]
    exact mi_step (mi_take hm zs hl k (by omega)) (by omega) hm _
/-- What Add tells of the next hop. -/
theorem mad_add {m : Int} {k : Nat} {s : List R4 × Int} (h : Mi m k s) (hk : k ≤ 60) (hm : 1 ≤ m) (hm2 : m ≤ 16) (z : Int) :
    addE s.1 (hopN (z % 4000) (s.2 + z % 4000 % 4)) m = if m ≤ cnt s.1 (hopN (z % 4000) 0).1 (hopN (z % 4000) 0).2.1 (hopN (z % 4000) 0).2.2.1 then 22 else 0 := by
  have h1 := h.lo
  have h2 := h.hi
  have hok : (chk s.1).1 = 0 := chk_ok.2 ⟨by have := h.len; omega, h.srt⟩
  have hmay : may (hopN (z % 4000) (s.2 + z % 4000 % 4)) = true := hopN_may (by omega) (by omega)
  have hn : ¬ (may (hopN (z % 4000) (s.2 + z % 4000 % 4)) = false ∨ m < 1 ∨ 16 < m) := by
    rw [hmay]
    simp
    omega
  have hb : ¬ cr (hopN (z % 4000) (s.2 + z % 4000 % 4)) < bef 0 s.1 s.1.length := by
    have := h.bef
    show ¬ s.2 + z % 4000 % 4 < _
    omega
  obtain ⟨_, _, _, w4, _, w6⟩ := add_ways s.1 (hopN (z % 4000) (s.2 + z % 4000 % 4)) m
  by_cases hc : m ≤ cnt s.1 (hopN (z % 4000) 0).1 (hopN (z % 4000) 0).2.1 (hopN (z % 4000) 0).2.2.1
  · rw [if_pos hc]; exact w4 hok hn hb hc
  · rw [if_neg hc]; exact w6 hok hn hb hc (by have := h.len; omega)
end Hp
end Go.Proofs.Ytahhnfnonekbmaa
