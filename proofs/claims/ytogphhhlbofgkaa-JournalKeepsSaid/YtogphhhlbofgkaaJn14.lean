/-
  The statements' own small words: same, SameInts; journals that are new since a world, and the calls at them. Condition: the journal lies in memory as JD says.
-/
import Derived.Test.YtogphhhlbofgkaaJn13
namespace Go.Proofs.Ytogphhhlbofgkaa
open Go.RowKit Go.Shelf Go.Maps
set_option linter.unusedVariables false
namespace Jn
open Kk Pm Bk

set_option maxHeartbeats 1000000 in
theorem sameW (A B : Option Addr) (n c m d : Nat) (zs ys : List Int) (w : World) (ha : Ints .u64 w A n zs) (hb : Ints .u64 w B m ys) (hn : n ≤ 1000000000) (hm : m ≤ 1000000000) :
    Calls Try.prog 32 #[.slice A n c, .slice B m d] w fun e w' => e = .returned (.bool (decide (zs = ys))) ∧ Bel w w' := by
  have HA := Lib.hid ha
  have HB := Lib.hid hb
  have HLA := Lib.hid ha.1
  have HLB := Lib.hid hb.1
  clear ha hb
  by_cases hnm : n = m
  · subst hnm
    have hbb : ((n : Int) == n) = true := by simp
    go_enter Try.func32, Try.ntmps32
    go_wp2_with fail
    go_loopw [5, 6] (fun s i wr => ∃ k : Nat, k ≤ n ∧ i = .int .i64 k ∧ Bel w wr ∧ ∃ b : Bool, s = .bool b ∧ (b = true → ∀ j, j < k → zs.getD j 0 = ys.getD j 0) ∧ (b = false → zs ≠ ys)) (fun _ i _ => n - (iv i).toNat)
    case atStart => exact ⟨0, Nat.zero_le _, rfl, Bel.refl _, true, rfl, fun _ j hj => absurd hj (by omega), fun h => by cases h⟩
    case round =>
      obtain ⟨k, hk, rfl, hbel, b, rfl, ht, hf⟩ := hrel
      cases b with
      | false =>
        have HD := Lib.hid (show decide (zs = ys) = false from decide_eq_false (hf rfl))
        have HBE := Lib.hid hbel
        clear ht hf hbel
        go_wp2
        go_ret
        exact ⟨by rw [HD.out]; rfl, HBE.out⟩
      | true =>
        have HT := Lib.hid (ht rfl)
        clear ht hf
        by_cases hlt : k < n
        · obtain ⟨g1, o1, rfl, hg1, c1⟩ := (HA.out.bel hbel).cell hlt
          obtain ⟨g2, o2, rfl, hg2, c2⟩ := (HB.out.bel hbel).cell hlt
          obtain ⟨x, hx⟩ : ∃ x, zs.getD k 0 = x := ⟨_, rfl⟩
          obtain ⟨y, hy⟩ : ∃ y, ys.getD k 0 = y := ⟨_, rfl⟩
          rw [hx] at c1
          rw [hy] at c2
          have HX := Lib.hid hx
          have HY := Lib.hid hy
          have HBE := Lib.hid hbel
          clear hx hy hbel
          go_upto_region 5 with fail
          go_quiet (fail)
          have c1 := c1
          go_wp2
          go_roundw
          case rel =>
            refine ⟨k + 1, by omega, by go_num, by first | exact HBE.out | exact HBE.out.drew | exact HBE.out.drewN _, (x == y), rfl, ?_, ?_⟩
            · intro h j hj
              rcases Nat.lt_or_ge j k with h' | h'
              · exact HT.out j h'
              · obtain rfl : j = k := by omega
                rw [HX.out, HY.out]
                simpa using h
            · intro h e
              subst e
              have := HX.out.symm.trans HY.out
              subst this
              simp at h
          case measure => simp [iv]; omega
        · obtain rfl : k = n := by omega
          have HD := Lib.hid (show decide (zs = ys) = true from decide_eq_true (ext_get (by rw [HLA.out, HLB.out]) (by rw [HLA.out]; exact HT.out)))
          have HBE := Lib.hid hbel
          clear hbel
          go_wp2
          go_ret
          exact ⟨by rw [HD.out]; rfl, HBE.out⟩
  · have HD := Lib.hid (show decide (zs = ys) = false from decide_eq_false (fun e => hnm (by rw [← HLA.out, ← HLB.out, e])))
    have hbb : ((n : Int) == m) = false := by simp; omega
    clear hnm
    go_enter Try.func32, Try.ntmps32
    go_wp2_with fail
    go_loop [5] (fun s => s = .bool false) (fun _ => 0)
    case atStart => rfl
    case round =>
      subst hrel
      go_wp2
      go_ret
      exact ⟨by rw [HD.out]; rfl, Bel.refl _⟩

set_option maxHeartbeats 1000000 in
theorem sameI (A B : Option Addr) (n c m d : Nat) (zs ys : List Int) (w : World) (ha : Ints .i64 w A n zs) (hb : Ints .i64 w B m ys) (hn : n ≤ 1000000000) (hm : m ≤ 1000000000) :
    Calls Try.prog 38 #[.slice A n c, .slice B m d] w fun e w' => e = .returned (.bool (decide (zs = ys))) ∧ Bel w w' := by
  have HA := Lib.hid ha
  have HB := Lib.hid hb
  have HLA := Lib.hid ha.1
  have HLB := Lib.hid hb.1
  clear ha hb
  by_cases hnm : n = m
  · subst hnm
    have hbb : ((n : Int) == n) = true := by simp
    go_enter Try.func38, Try.ntmps38
    go_wp2_with fail
    go_loopw [5, 6] (fun s i wr => ∃ k : Nat, k ≤ n ∧ i = .int .i64 k ∧ Bel w wr ∧ ∃ b : Bool, s = .bool b ∧ (b = true → ∀ j, j < k → zs.getD j 0 = ys.getD j 0) ∧ (b = false → zs ≠ ys)) (fun _ i _ => n - (iv i).toNat)
    case atStart => exact ⟨0, Nat.zero_le _, rfl, Bel.refl _, true, rfl, fun _ j hj => absurd hj (by omega), fun h => by cases h⟩
    case round =>
      obtain ⟨k, hk, rfl, hbel, b, rfl, ht, hf⟩ := hrel
      cases b with
      | false =>
        have HD := Lib.hid (show decide (zs = ys) = false from decide_eq_false (hf rfl))
        have HBE := Lib.hid hbel
        clear ht hf hbel
        go_wp2
        go_ret
        exact ⟨by rw [HD.out]; rfl, HBE.out⟩
      | true =>
        have HT := Lib.hid (ht rfl)
        clear ht hf
        by_cases hlt : k < n
        · obtain ⟨g1, o1, rfl, hg1, c1⟩ := (HA.out.bel hbel).cell hlt
          obtain ⟨g2, o2, rfl, hg2, c2⟩ := (HB.out.bel hbel).cell hlt
          obtain ⟨x, hx⟩ : ∃ x, zs.getD k 0 = x := ⟨_, rfl⟩
          obtain ⟨y, hy⟩ : ∃ y, ys.getD k 0 = y := ⟨_, rfl⟩
          rw [hx] at c1
          rw [hy] at c2
          have HX := Lib.hid hx
          have HY := Lib.hid hy
          have HBE := Lib.hid hbel
          clear hx hy hbel
          go_upto_region 5 with fail
          go_quiet (fail)
          have c1 := c1
          go_wp2
          go_roundw
          case rel =>
            refine ⟨k + 1, by omega, by go_num, by first | exact HBE.out | exact HBE.out.drew | exact HBE.out.drewN _, (x == y), rfl, ?_, ?_⟩
            · intro h j hj
              rcases Nat.lt_or_ge j k with h' | h'
              · exact HT.out j h'
              · obtain rfl : j = k := by omega
                rw [HX.out, HY.out]
                simpa using h
            · intro h e
              subst e
              have := HX.out.symm.trans HY.out
              subst this
              simp at h
          case measure => simp [iv]; omega
        · obtain rfl : k = n := by omega
          have HD := Lib.hid (show decide (zs = ys) = true from decide_eq_true (ext_get (by rw [HLA.out, HLB.out]) (by rw [HLA.out]; exact HT.out)))
          have HBE := Lib.hid hbel
          clear hbel
          go_wp2
          go_ret
          exact ⟨by rw [HD.out]; rfl, HBE.out⟩
  · have HD := Lib.hid (show decide (zs = ys) = false from decide_eq_false (fun e => hnm (by rw [← HLA.out, ← HLB.out, e])))
    have hbb : ((n : Int) == m) = false := by simp; omega
    clear hnm
    go_enter Try.func38, Try.ntmps38
    go_wp2_with fail
    go_loop [5] (fun s => s = .bool false) (fun _ => 0)
    case atStart => rfl
    case round =>
      subst hrel
      go_wp2
      go_ret
      exact ⟨by rw [HD.out]; rfl, Bel.refl _⟩

/-! ### a journal that is new since the world w0 -/
def Nw (w0 w : World) (pj : Nat) (zs : List Int) (L : List Lv) : Prop := ∃ M I, JD w M I pj zs L ∧ (∀ b, M b → w0.heap.size ≤ b) ∧ Bel w0 w
theorem Nw.belw {w0 w : World} {pj : Nat} {zs : List Int} {L : List Lv} (h : Nw w0 w pj zs L) : Bel w0 w := by obtain ⟨M, I, _, _, hb⟩ := h; exact hb
theorem Nw.bel {w0 w w' : World} {pj : Nat} {zs : List Int} {L : List Lv} (h : Nw w0 w pj zs L) (hb : Bel w w') : Nw w0 w' pj zs L := by
  obtain ⟨M, I, hj, hm, hb0⟩ := h
  exact ⟨M, I, hj.bel hb, hm, hb0.trans hb⟩
theorem Nw.step {w0 w w' : World} {M I M' I' : Nat → Prop} {pj : Nat} {zs : List Int} {L : List Lv} (hm : ∀ b, M b → w0.heap.size ≤ b) (hb : Bel w0 w) (hs : Step w w' M I M' I') (hj : JD w' M' I' pj zs L) : Nw w0 w' pj zs L := by
  refine ⟨M', I', hj, fun b hb' => ?_, Kep.bel hb hs.kep hm⟩
  rcases hs.m b hb' with h | h
  · exact hm b h
  · exact Nat.le_trans (Below.size hb) h
section
variable {w0 w : World} {pj : Nat} {zs : List Int} {L : List Lv}
theorem Nw.lens (h : Nw w0 w pj zs L) : 1 ≤ zs.length ∧ zs.length ≤ 4096 ∧ Words zs ∧ L.length ≤ 65 := by
  obtain ⟨M, I, hj, _⟩ := h
  exact ⟨hj.facts.1, hj.facts.2.1, hj.facts.2.2.1, hj.facts.2.2.2.1⟩
theorem newN (n : Nat) (w : World) (h1 : 1 ≤ n) (h2 : n ≤ 4096) :
    Calls Try.prog 10 #[.int .i64 n] w fun e w' => ∃ pj, e = .returned (.tuple #[.pointer (some ⟨pj, 0, none⟩), .int .i64 0]) ∧ Nw w w' pj (List.replicate n 0) [] := by
  refine (newD n w h1 h2).mono ?_
  rintro e w' ⟨M, pj, rfl, hj, hb, hM⟩
  exact ⟨pj, rfl, M, _, hj, hM, hb⟩
theorem setN (h : Nw w0 w pj zs L) (i u E : Int) (zs' : List Int) (L' : List Lv) (h0 : 0 ≤ u) (h1 : u ≤ 18446744073709551615) (e1 : inE zs.length i = E) (e2 : setS zs i u = zs') (e3 : setL zs L i = L') :
    Calls Try.prog 14 #[.pointer (some ⟨pj, 0, none⟩), .int .i64 i, .int .u64 u] w fun e w' => e = .returned (.int .i64 E) ∧ Nw w0 w' pj zs' L' := by
  subst e1 e2 e3
  obtain ⟨M, I, hj, hm, hb⟩ := h
  refine (setD hj i u h0 h1).mono ?_
  rintro e w' ⟨rfl, I', hj', hs⟩
  exact ⟨rfl, Nw.step hm hb hs hj'⟩
theorem addN (h : Nw w0 w pj zs L) (i u E : Int) (zs' : List Int) (L' : List Lv) (h0 : 0 ≤ u) (h1 : u ≤ 18446744073709551615) (e1 : addR zs i u = E) (e2 : addS zs i u = zs') (e3 : addL zs L i u = L') :
    Calls Try.prog 22 #[.pointer (some ⟨pj, 0, none⟩), .int .i64 i, .int .u64 u] w fun e w' => e = .returned (.int .i64 E) ∧ Nw w0 w' pj zs' L' := by
  subst e1 e2 e3
  obtain ⟨M, I, hj, hm, hb⟩ := h
  refine (addD hj i u h0 h1).mono ?_
  rintro e w' ⟨rfl, I', hj', hs⟩
  exact ⟨rfl, Nw.step hm hb hs hj'⟩
theorem subN (h : Nw w0 w pj zs L) (i u E : Int) (zs' : List Int) (L' : List Lv) (h0 : 0 ≤ u) (h1 : u ≤ 18446744073709551615) (e1 : subR zs i u = E) (e2 : subS zs i u = zs') (e3 : subL zs L i u = L') :
    Calls Try.prog 33 #[.pointer (some ⟨pj, 0, none⟩), .int .i64 i, .int .u64 u] w fun e w' => e = .returned (.int .i64 E) ∧ Nw w0 w' pj zs' L' := by
  subst e1 e2 e3
  obtain ⟨M, I, hj, hm, hb⟩ := h
  refine (subD hj i u h0 h1).mono ?_
  rintro e w' ⟨rfl, I', hj', hs⟩
  exact ⟨rfl, Nw.step hm hb hs hj'⟩
theorem moveN (h : Nw w0 w pj zs L) (i k u E : Int) (zs' : List Int) (L' : List Lv) (hl : L.length ≤ 64) (h0 : 0 ≤ u) (h1 : u ≤ 18446744073709551615) (e1 : movE zs i k u = E) (e2 : movS zs i k u = zs') (e3 : movL zs L i k u = L') :
    Calls Try.prog 31 #[.pointer (some ⟨pj, 0, none⟩), .int .i64 i, .int .i64 k, .int .u64 u] w fun e w' => e = .returned (.int .i64 E) ∧ Nw w0 w' pj zs' L' := by
  subst e1 e2 e3
  obtain ⟨M, I, hj, hm, hb⟩ := h
  refine (moveD hj hl i k u h0 h1).mono ?_
  rintro e w' ⟨rfl, M', I', hj', hs⟩
  exact ⟨rfl, Nw.step hm hb hs hj'⟩
theorem begNw (h : Nw w0 w pj zs L) (n E : Int) (L' : List Lv) (e1 : begN L = n) (e2 : begE L = E) (e3 : begL zs L = L') :
    Calls Try.prog 16 #[.pointer (some ⟨pj, 0, none⟩)] w fun e w' => e = .returned (.tuple #[.int .i64 n, .int .i64 E]) ∧ Nw w0 w' pj zs L' := by
  subst e1 e2 e3
  obtain ⟨M, I, hj, hm, hb⟩ := h
  refine (begD hj).mono ?_
  rintro e w' ⟨rfl, M', hj', hs⟩
  exact ⟨rfl, Nw.step hm hb hs hj'⟩
theorem keepN (h : Nw w0 w pj zs L) (E : Int) (L' : List Lv) (e1 : opE L = E) (e3 : keepS L = L') :
    Calls Try.prog 39 #[.pointer (some ⟨pj, 0, none⟩)] w fun e w' => e = .returned (.int .i64 E) ∧ Nw w0 w' pj zs L' := by
  subst e1 e3
  obtain ⟨M, I, hj, hm, hb⟩ := h
  refine (keepDD hj).mono ?_
  rintro e w' ⟨rfl, I', hj', hs⟩
  exact ⟨rfl, Nw.step hm hb hs hj'⟩
theorem undoN (h : Nw w0 w pj zs L) (E : Int) (zs' : List Int) (L' : List Lv) (e1 : opE L = E) (e2 : undZ zs L = zs') (e3 : undL L = L') :
    Calls Try.prog 36 #[.pointer (some ⟨pj, 0, none⟩)] w fun e w' => e = .returned (.int .i64 E) ∧ Nw w0 w' pj zs' L' := by
  subst e1 e2 e3
  obtain ⟨M, I, hj, hm, hb⟩ := h
  refine (undoDD hj).mono ?_
  rintro e w' ⟨rfl, hj', hs⟩
  exact ⟨rfl, Nw.step hm hb hs hj'⟩
theorem backN (h : Nw w0 w pj zs L) (d E : Int) (zs' : List Int) (L' : List Lv) (e1 : backE L d = E) (e2 : backZZ zs L d = zs') (e3 : backLL L d = L') :
    Calls Try.prog 15 #[.pointer (some ⟨pj, 0, none⟩), .int .i64 d] w fun e w' => e = .returned (.int .i64 E) ∧ Nw w0 w' pj zs' L' := by
  subst e1 e2 e3
  obtain ⟨M, I, hj, hm, hb⟩ := h
  refine (backD hj d).mono ?_
  rintro e w' ⟨rfl, hj', hs⟩
  exact ⟨rfl, Nw.step hm hb hs hj'⟩
theorem getN (h : Nw w0 w pj zs L) (i a E : Int) (e1 : (if 0 ≤ i ∧ i < zs.length then zs.getD i.toNat 0 else 0) = a) (e2 : inE zs.length i = E) :
    Calls Try.prog 25 #[.pointer (some ⟨pj, 0, none⟩), .int .i64 i] w fun e w' => e = .returned (.tuple #[.int .u64 a, .int .i64 E]) ∧ Nw w0 w' pj zs L := by
  subst e1 e2
  obtain ⟨M, I, hj, hm, hb⟩ := h
  refine (getD_ hj i).mono ?_
  rintro e w' ⟨rfl, hs⟩
  exact ⟨rfl, M, I, hj.bel hs, hm, hb.trans hs⟩
theorem depthN (h : Nw w0 w pj zs L) (n : Int) (e1 : (L.length : Int) = n) :
    Calls Try.prog 26 #[.pointer (some ⟨pj, 0, none⟩)] w fun e w' => e = .returned (.int .i64 n) ∧ w = w' := by
  subst e1
  obtain ⟨M, I, hj, hm, hb⟩ := h
  exact depthD hj
theorem cellsN (h : Nw w0 w pj zs L) :
    Calls Try.prog 27 #[.pointer (some ⟨pj, 0, none⟩)] w fun e w' => ∃ A c, e = .returned (.slice A zs.length c) ∧ Ints .u64 w' A zs.length zs ∧ Bel w w' := by
  obtain ⟨M, I, hj, hm, hb⟩ := h
  refine (cellsD hj).mono ?_
  rintro e w' ⟨v, rfl, hf⟩
  obtain ⟨A, c, rfl, hs⟩ := hf.su
  exact ⟨A, c, rfl, hs.ints, hf.2⟩
theorem touchedN (h : Nw w0 w pj zs L) (ts : List Int) (e1 : tchZ zs.length L = ts) :
    Calls Try.prog 28 #[.pointer (some ⟨pj, 0, none⟩)] w fun e w' => ∃ A c, e = .returned (.slice A ts.length c) ∧ Ints .i64 w' A ts.length ts ∧ Bel w w' := by
  subst e1
  obtain ⟨M, I, hj, hm, hb⟩ := h
  refine (touchedD hj).mono ?_
  rintro e w' ⟨v, rfl, hf⟩
  obtain ⟨A, c, rfl, hs, _⟩ := ints_of_own hf.1
  exact ⟨A, c, rfl, hs, hf.2⟩
end

/-- A slice of words, written out. -/
theorem ints_lit (k : IntKind) (w : World) (zs : List Int) (t : TypeId) : Ints k (w.alloc (.cells (zs.map (Value.int k)).toArray t)) (some ⟨w.heap.size, 0, none⟩) zs.length zs := by
  refine ⟨rfl, fun hn => ⟨w.heap.size, 0, rfl, by simp, fun i hi => ?_⟩⟩
  rw [Nat.zero_add, World.cell?_alloc_new, List.getElem?_toArray, List.getElem?_map, List.getElem?_eq_getElem hi, Kk.getD_eq _ _ hi]
  rfl

theorem begun (w : World) : Calls Try.prog 29 #[] w fun e w' => ∃ pj, e = .returned (.pointer (some ⟨pj, 0, none⟩)) ∧ Nw w w' pj [9, 5, 0] [] := by
  have NE := Lib.hid (newN 3 w (by decide) (by decide))
  go_enter Try.func29, Try.ntmps29
  go_wp2_with fail
  refine NE.out.mono ?_
  rintro e w1 ⟨pj, rfl, h1⟩
  have S1 := Lib.hid (setN (zs := [0, 0, 0]) h1 0 9 0 [9, 0, 0] [] (by decide) (by decide) rfl rfl rfl)
  clear h1
  go_wp2_with fail
  refine S1.out.mono ?_
  rintro e w2 ⟨rfl, h2⟩
  have S2 := Lib.hid (setN h2 1 5 0 [9, 5, 0] [] (by decide) (by decide) rfl rfl rfl)
  clear h2
  go_wp2_with fail
  refine S2.out.mono ?_
  rintro e w3 ⟨rfl, h3⟩
  have H3 := Lib.hid h3
  clear h3
  go_wp2
  go_ret
  exact ⟨pj, rfl, H3.out⟩
theorem opens {w0 w : World} {pj : Nat} {zs : List Int} {L : List Lv} (h : Nw w0 w pj zs L) (k : Nat) (hk : L.length + 1 = k) (hl : L.length < 64) :
    Calls Try.prog 30 #[.pointer (some ⟨pj, 0, none⟩), .int .i64 k] w fun e w' => e = .returned (.bool true) ∧ Nw w0 w' pj zs ((zs, fun _ => false) :: L) := by
  have BE := Lib.hid (begNw h (k : Int) 0 ((zs, fun _ => false) :: L) (by unfold begN; rw [if_pos hl]; omega) (by unfold begE; rw [if_pos hl]) (by unfold begL; rw [if_pos hl]))
  clear h
  go_enter Try.func30, Try.ntmps30
  go_wp2_with fail
  refine BE.out.mono ?_
  rintro e w1 ⟨rfl, h1⟩
  have H1 := Lib.hid h1
  clear h1
  go_wp2
  go_ret
  exact ⟨rfl, H1.out⟩
end Jn
end Go.Proofs.Ytogphhhlbofgkaa
