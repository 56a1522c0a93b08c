/-
  Lists of bools: in memory, grown, and what SameBools tells of two. Conditions: at most a billion bools.
-/
import Derived.Test.YtpfdakkameifkaaRw
import Derived.WalkMore
import Derived.Maps.AppendAt
import Derived.Laws.OwnMore
namespace Go.Proofs.Ytpfdakkameifkaa
open Go.RowKit Go.Shelf
set_option linter.unusedVariables false
set_option linter.unusedSimpArgs false
namespace Ro
open Kk Pm

def bR : Rw.Row Bool where
  k := fun b => [.bool b]
  z := 1
  len := fun _ => rfl
  one := fun r u hu => by
    rw [List.mem_singleton] at hu
    subst hu; rfl
  pos := by decide
abbrev OwnB (w : World) (base : Nat) (v : Value) (l : List Bool) : Prop := Rw.OwnR bR 4 w base v l
theorem zero_b : (Try.prog.info? 4).map (fun i => (i.zero, i.size, i.bytes)) = some (some (.bool false), 1, 1) := by kernel_rfl
theorem underB : Try.prog.underlying 36 = some (.slice 4) := by kernel_rfl
theorem flat_b : ∀ l : List Bool, Rw.flat bR l = l.map Value.bool
  | [] => rfl
  | b :: l => by
    show [Value.bool b] ++ Rw.flat bR l = _
    rw [flat_b l]; rfl
theorem bool_at {w : World} {A : Option Addr} {n c : Nat} {l : List Bool} (h : Rw.RS bR w A n c l) {i : Nat} (hi : i < n) : ∃ b o x, A = some ⟨b, o, none⟩ ∧ b < w.heap.size ∧ l[i]? = some x ∧ w.cell? ⟨b, o + i, none⟩ = some (.bool x) := by
  obtain ⟨x, hx⟩ := h.get hi
  obtain ⟨b, o, e, hb, hr⟩ := h.at hi hx
  have := hr 0 (.bool x) rfl
  exact ⟨b, o, x, e, hb, hx, by simpa [bR] using this⟩
theorem info_parts1 {P : Program} {t : TypeId} {z : Value} {s b : Nat} (h : (P.info? t).map (fun i => (i.zero, i.size, i.bytes)) = some (some z, s, b)) : ∃ i, P.info? t = some i ∧ i.zero = some z ∧ i.size = s ∧ i.bytes = b := by
  cases hi : P.info? t with
  | none => rw [hi] at h; cases h
  | some i =>
    rw [hi] at h
    simp at h
    exact ⟨i, rfl, h.1, h.2.1, h.2.2⟩
theorem append_b {w : World} {ops : Array Oper} {rest : List Oper} {o : Oper} {a : Act} {Q : Exit → Act → World → Prop} (hgd : o.guard = none) (s x : Operand)
    (ho : o.op = .call { callee := .builtin .append, args := #[s, x], argTypes := #[36, 36] })
    (base : Nat) (v : Value) (l : List Bool) (hs : a.eval s = v) (hown : OwnB w base v l) (ad : Addr) (z : Bool) (hx : a.eval x = .slice (some ad) 1 1) (hc : w.cell? ad = some (.bool z))
    (hk : l.length ≤ 1000000000) (hb : base ≤ w.heap.size)
    (h : ∀ v' w', OwnB w' base v' (l ++ [z]) → w.grownBy w' v.ownBlock → wpList Try.prog ops Q rest (a.put o.dst v') w') : wpList Try.prog ops Q (o :: rest) a w := by
  obtain ⟨i0, h1, hz0, hz1, hz2⟩ := info_parts1 zero_b
  refine wpList_append_own_at w hgd s x 36 ho base 4 i0 (.bool false) 1 1 underB h1 hz0 hz1 hz2 rfl (by decide) v l.length (Rw.flat bR l) hs hown ad 1 1 [.bool z] hx rfl ?_ ?_ (by unfold maxLen; omega) (by omega) hb ?_
  · intro j u hu
    match j, hu with
    | 0, hu =>
      simp at hu
      subst hu
      simpa [Addr.add] using hc
  · intro u hu
    simp at hu
    subst hu
    rfl
  · intro v' w' h2 h3 _ _
    refine h v' w' ?_ h3
    show w'.ownsRow base 4 1 v' (l ++ [z]).length (Rw.flat bR (l ++ [z]))
    rw [Rw.flat_app, List.length_append]
    exact h2

set_option maxRecDepth 100000 in
set_option maxHeartbeats 4000000 in
theorem same_bools (A B : Option Addr) (n c m d : Nat) (l1 l2 : List Bool) (w : World) (ha : Rw.RS bR w A n c l1) (hb : Rw.RS bR w B m d l2) (hn : n ≤ 1000000000) (hm : m ≤ 1000000000) :
    Calls Try.prog 19 #[.slice A n c, .slice B m d] w fun e w' => e = .returned (.bool (decide (l1 = l2))) ∧ Bel w w' := by
  have HA := Lib.hid ha
  have HB := Lib.hid hb
  have HLA := Lib.hid ha.len
  have HLB := Lib.hid hb.len
  clear ha hb
  by_cases hnm : n = m
  · subst hnm
    have hbb : ((n : Int) == n) = true := by simp
    go_enter Try.func19, Try.ntmps19
    go_wp2_with fail
    go_loopw [5, 6] (fun s i wr => ∃ k : Nat, k ≤ n ∧ i = .int .i64 k ∧ Bel w wr ∧ ∃ b : Bool, s = .bool b ∧ (b = true → l1.take k = l2.take k) ∧ (b = false → l1 ≠ l2)) (fun _ i _ => n - (intOf i).toNat)
    case atStart => exact ⟨0, Nat.zero_le _, rfl, Bel.refl _, true, rfl, fun _ => rfl, fun h => by cases h⟩
    case round =>
      obtain ⟨k, hk, rfl, hbel, b, rfl, ht, hf⟩ := hrel
      cases b with
      | false =>
        have HD := Lib.hid (show decide (l1 = l2) = false from decide_eq_false (hf rfl))
        have HBE := Lib.hid hbel
        clear ht hf hbel
        go_wp2
        go_ret
        exact ⟨by rw [HD.out]; rfl, HBE.out⟩
      | true =>
        have HT := Lib.hid (ht rfl)
        clear ht hf
        by_cases hlt : k < n
        · obtain ⟨g1, o1, x, rfl, _, hr1, c1⟩ := bool_at (HA.out.bel hbel) hlt
          obtain ⟨g2, o2, y, rfl, _, hr2, c2⟩ := bool_at (HB.out.bel hbel) hlt
          have HC1 := Lib.hid c1
          have HC2 := Lib.hid c2
          have HBE := Lib.hid hbel
          have HNX := Lib.hid (show ∀ z : Bool, (x == y) = z → (z = true → l1.take (k + 1) = l2.take (k + 1)) ∧ (z = false → l1 ≠ l2) from fun z hz => by
            refine ⟨fun h => ?_, fun h e => ?_⟩
            · rw [List.take_add_one, List.take_add_one, hr1, hr2, HT.out, beq_iff_eq.1 (hz.trans h)]
            · subst e
              have e := Option.some.inj (hr1.symm.trans hr2)
              rw [e, beq_self_eq_true] at hz
              rw [← hz] at h
              cases h)
          have hlt3 : (k : Int) < n := by omega
          have hlt0 : (0 : Int) ≤ k := by omega
          clear hr1 hr2 c1 c2 hbel
          go_upto_region 5 with fail
          refine wp_region_held_drew (S := fun Vx => Bel wr Vx) (by kernel_rfl) (Bel.refl _).drew (fun hS0 => ?_)
          obtain ⟨w6, hw6⟩ : ∃ w6, World.drew wr = w6 := ⟨_, rfl⟩
          rw [hw6] at hS0 ⊢
          clear hw6
          refine wpAnyH_take (i := 0) (oi := { dst := some 21, op := .move (.tmp 0), type := 36, pos := "validators.go:26", after := #[], guard := none }) (v := .slice (some ⟨g1, o1, none⟩) n c) rfl (by kernel_rfl) (by kernel_rfl) (by kernel_rfl) (fun _ _ _ h => h) (Or.inl ⟨by rfl, by intro w hSw; clear hSw; go_simp⟩) hS0 ?_
          try simp only [Act.put, List.setIfInBounds_toArray, List.set_cons_zero, List.set_cons_succ]
          refine wpAnyH_take (i := 1) (oi := { dst := some 22, op := .move (.tmp 6), type := 3, pos := "validators.go:26", after := #[], guard := none }) (v := .int .i64 k) rfl (by kernel_rfl) (by kernel_rfl) (by kernel_rfl) (fun _ _ _ h => h) (Or.inl ⟨by rfl, by intro w hSw; clear hSw; go_simp⟩) hS0 ?_
          try simp only [Act.put, List.setIfInBounds_toArray, List.set_cons_zero, List.set_cons_succ]
          refine wpAnyH_take (i := 2) (oi := { dst := some 23, op := .indexAddr 36 (.tmp 21) (.tmp 22), type := 0, pos := "validators.go:26", after := #[{ on := 0, ground := .data }, { on := 1, ground := .data }], guard := none }) (v := .pointer (some ⟨g1, o1 + k, none⟩)) rfl (by kernel_rfl) (by kernel_rfl) (by kernel_rfl) (fun _ _ _ h => h) (Or.inl ⟨by rfl, by intro w hSw; clear hSw; go_simp⟩) hS0 ?_
          try simp only [Act.put, List.setIfInBounds_toArray, List.set_cons_zero, List.set_cons_succ]
          refine wpAnyH_take (i := 3) (oi := { dst := some 24, op := .load 4 (.tmp 23), type := 4, pos := "validators.go:26", after := #[{ on := 2, ground := .data }], guard := none }) (v := .bool x) rfl (by kernel_rfl) (by kernel_rfl) (by kernel_rfl) (fun _ _ _ h => h) (Or.inl ⟨by rfl, by intro w h; have hcell := (cell_bel HC1.out h); clear h; go_simp⟩) hS0 ?_
          try simp only [Act.put, List.setIfInBounds_toArray, List.set_cons_zero, List.set_cons_succ]
          refine wpAnyH_take (i := 4) (oi := { dst := some 25, op := .move (.tmp 1), type := 36, pos := "validators.go:26", after := #[], guard := none }) (v := .slice (some ⟨g2, o2, none⟩) n d) rfl (by kernel_rfl) (by kernel_rfl) (by kernel_rfl) (fun _ _ _ h => h) (Or.inl ⟨by rfl, by intro w hSw; clear hSw; go_simp⟩) hS0 ?_
          try simp only [Act.put, List.setIfInBounds_toArray, List.set_cons_zero, List.set_cons_succ]
          refine wpAnyH_take (i := 5) (oi := { dst := some 26, op := .move (.tmp 6), type := 3, pos := "validators.go:26", after := #[], guard := none }) (v := .int .i64 k) rfl (by kernel_rfl) (by kernel_rfl) (by kernel_rfl) (fun _ _ _ h => h) (Or.inl ⟨by rfl, by intro w hSw; clear hSw; go_simp⟩) hS0 ?_
          try simp only [Act.put, List.setIfInBounds_toArray, List.set_cons_zero, List.set_cons_succ]
          refine wpAnyH_take (i := 6) (oi := { dst := some 27, op := .indexAddr 36 (.tmp 25) (.tmp 26), type := 0, pos := "validators.go:26", after := #[{ on := 4, ground := .data }, { on := 5, ground := .data }], guard := none }) (v := .pointer (some ⟨g2, o2 + k, none⟩)) rfl (by kernel_rfl) (by kernel_rfl) (by kernel_rfl) (fun _ _ _ h => h) (Or.inl ⟨by rfl, by intro w hSw; clear hSw; go_simp⟩) hS0 ?_
          try simp only [Act.put, List.setIfInBounds_toArray, List.set_cons_zero, List.set_cons_succ]
          refine wpAnyH_take (i := 7) (oi := { dst := some 28, op := .load 4 (.tmp 27), type := 4, pos := "validators.go:26", after := #[{ on := 6, ground := .data }], guard := none }) (v := .bool y) rfl (by kernel_rfl) (by kernel_rfl) (by kernel_rfl) (fun _ _ _ h => h) (Or.inl ⟨by rfl, by intro w h; have hcell := (cell_bel HC2.out h); clear h; go_simp⟩) hS0 ?_
          try simp only [Act.put, List.setIfInBounds_toArray, List.set_cons_zero, List.set_cons_succ]
          refine wpAnyH_take (i := 8) (oi := { dst := some 29, op := .binOp .eql 4 (.tmp 24) (.tmp 28) 4, type := 4, pos := "validators.go:26", after := #[{ on := 3, ground := .data }, { on := 7, ground := .data }], guard := none }) (v := .bool (x == y)) rfl (by kernel_rfl) (by kernel_rfl) (by kernel_rfl) (fun _ _ _ h => h) (Or.inl ⟨by rfl, by intro w hSw; clear hSw; go_simp⟩) hS0 ?_
          try simp only [Act.put, List.setIfInBounds_toArray, List.set_cons_zero, List.set_cons_succ]
          refine wpAnyH_take (i := 9) (oi := { dst := some 5, op := .assign (.tmp 29), type := 4, pos := "validators.go:26", after := #[{ on := 8, ground := .data }, { on := 0, ground := .phase }, { on := 1, ground := .phase }, { on := 2, ground := .phase }, { on := 3, ground := .phase }, { on := 4, ground := .phase }, { on := 5, ground := .phase }, { on := 6, ground := .phase }, { on := 7, ground := .phase }, { on := 8, ground := .phase }], guard := none }) (v := .bool (x == y)) rfl (by kernel_rfl) (by kernel_rfl) (by kernel_rfl) (fun _ _ _ h => h) (Or.inl ⟨by rfl, by intro w hSw; clear hSw; go_simp⟩) hS0 ?_
          try simp only [Act.put, List.setIfInBounds_toArray, List.set_cons_zero, List.set_cons_succ]
          refine wpAnyH_done (by kernel_rfl) ?_ _
          have HE := Lib.hid (HBE.out.trans hS0)
          clear HC1 HC2 HBE
          go_wp2_with fail
          go_roundw
          case rel => exact ⟨k + 1, by omega, by go_num, HE.out, _, rfl, (HNX.out _ rfl).1, (HNX.out _ rfl).2⟩
          case measure => simp [intOf]; omega
        · obtain rfl : k = n := by omega
          have HD := Lib.hid (show decide (l1 = l2) = true from decide_eq_true (by
            have h := HT.out
            rwa [List.take_of_length_le (by rw [HLA.out]; exact Nat.le_refl _), List.take_of_length_le (by rw [HLB.out]; exact Nat.le_refl _)] at h))
          have HBE := Lib.hid hbel
          clear hbel
          go_wp2
          go_ret
          exact ⟨by rw [HD.out]; rfl, HBE.out⟩
  · have HD := Lib.hid (show decide (l1 = l2) = false from decide_eq_false (fun e => hnm (by
      have := congrArg List.length e
      rw [HLA.out, HLB.out] at this
      exact this)))
    have hbb : ((n : Int) == m) = false := by simp; omega
    clear hnm
    go_enter Try.func19, Try.ntmps19
    go_wp2_with fail
    go_loop [5] (fun s => s = .bool false) (fun _ => 0)
    case atStart => rfl
    case round =>
      subst hrel
      go_wp2
      go_ret
      exact ⟨by rw [HD.out]; rfl, Bel.refl _⟩
end Ro
end Go.Proofs.Ytpfdakkameifkaa
