/-
  The law JournalBack returns true for any acts, and changes nothing that was there. Condition: the arguments lie in memory as they come in.
-/
import Derived.Test.YtogphhhlbofgkaaJn22
namespace Go.Proofs.Ytogphhhlbofgkaa
open Go.RowKit Go.Shelf Go.Maps
set_option linter.unusedVariables false
namespace Jn
open Kk Pm Bk

/-- Levels over a level that was opened at the cells zs0, over the levels L0. -/
def Ovr (zs0 : List Int) (L0 L : List Lv) : Prop := ∃ N t, L = N ++ (zs0, t) :: L0
section
variable {zs0 : List Int} {L0 L : List Lv}
theorem Ovr.touch (h : Ovr zs0 L0 L) (i : Nat) : Ovr zs0 L0 (touch L i) := by
  obtain ⟨N, t, rfl⟩ := h
  cases N with
  | nil => exact ⟨[], _, rfl⟩
  | cons a N => exact ⟨_ :: N, t, rfl⟩
theorem Ovr.beg (h : Ovr zs0 L0 L) (zs : List Int) : Ovr zs0 L0 (begL zs L) := by
  unfold begL
  split
  · obtain ⟨N, t, rfl⟩ := h
    exact ⟨_ :: N, t, rfl⟩
  · exact h
theorem Ovr.keep (h : Ovr zs0 L0 L) (hl : L0.length + 1 < L.length) : Ovr zs0 L0 (keepS L) := by
  obtain ⟨N, t, rfl⟩ := h
  match N with
  | [] => simp at hl
  | [x] => exact ⟨[], _, rfl⟩
  | x :: y :: N => exact ⟨_ :: N, t, rfl⟩
theorem Ovr.und (h : Ovr zs0 L0 L) (hl : L0.length + 1 < L.length) : Ovr zs0 L0 (undL L) := by
  obtain ⟨N, t, rfl⟩ := h
  match N with
  | [] => simp at hl
  | x :: N => exact ⟨N, t, rfl⟩
theorem Ovr.act (h : Ovr zs0 L0 L) (zs : List Int) (a i k u : Int) (h7 : ¬ a = 7) (hc : a = 5 ∨ a = 6 → L0.length + 1 < L.length) : Ovr zs0 L0 (actL zs L a i k u) := by
  unfold actL
  split
  · unfold setL; split
    · exact h.touch _
    · exact h
  · split
    · unfold addL; split
      · exact h.touch _
      · exact h
    · split
      · unfold subL; split
        · exact h.touch _
        · exact h
      · split
        · unfold movL; split
          · exact (h.touch _).touch _
          · exact h
        · split
          · exact h.beg zs
          · split
            · rename_i h5; exact h.keep (hc (.inl h5))
            · split
              · rename_i h6; exact h.und (hc (.inr h6))
              · exact h
theorem Ovr.len (h : Ovr zs0 L0 L) : L0.length + 1 ≤ L.length := by
  obtain ⟨N, t, rfl⟩ := h
  simp
theorem Ovr.back (h : Ovr zs0 L0 L) (zs : List Int) : backZ L0.length zs L = zs0 ∧ backL L0.length L = L0 := by
  obtain ⟨N, t, rfl⟩ := h
  induction N generalizing zs with
  | nil =>
    have g := back_go (d := L0.length) (zs := zs) (lv := (zs0, t)) (L := L0) (by omega)
    have s := back_stop (d := L0.length) (zs := zs0) (L := L0) (Nat.le_refl _)
    exact ⟨g.1.trans s.1, g.2.trans s.2⟩
  | cons x N ih =>
    have g := back_go (d := L0.length) (zs := zs) (lv := x) (L := N ++ (zs0, t) :: L0) (by simp; omega)
    exact ⟨g.1.trans (ih x.1).1, g.2.trans (ih x.1).2⟩
end

/-- A journal that is new since w0, beside words that it does not reach. -/
def Nb (w0 w : World) (pj : Nat) (zs : List Int) (L : List Lv) (B : Option Addr) (m : Nat) (zs0 : List Int) : Prop :=
  ∃ M I, JD w M I pj zs L ∧ (∀ b, M b → w0.heap.size ≤ b ∧ ∀ x, B = some x → b ≠ x.block) ∧ Bel w0 w ∧ Ints .u64 w B m zs0 ∧ ∀ x, B = some x → x.block < w.heap.size
section
variable {w0 w w' : World} {pj : Nat} {zs : List Int} {L : List Lv} {B : Option Addr} {m : Nat} {zs0 : List Int}
theorem Nb.nw (h : Nb w0 w pj zs L B m zs0) : Nw w0 w pj zs L := by
  obtain ⟨M, I, hj, hm, hb, _⟩ := h
  exact ⟨M, I, hj, fun b h => (hm b h).1, hb⟩
theorem Nb.ints (h : Nb w0 w pj zs L B m zs0) : Ints .u64 w B m zs0 := by
  obtain ⟨M, I, hj, hm, hb, hi, _⟩ := h
  exact hi
theorem Nb.bel (h : Nb w0 w pj zs L B m zs0) (k : Bel w w') : Nb w0 w' pj zs L B m zs0 := by
  obtain ⟨M, I, hj, hm, hb, hi, hl⟩ := h
  exact ⟨M, I, hj.bel k, hm, hb.trans k, hi.bel k, fun x hx => Nat.lt_of_lt_of_le (hl x hx) (Below.size k)⟩
theorem Nb.step {M I M' I' : Nat → Prop} {zs' : List Int} {L' : List Lv} (hm : ∀ b, M b → w0.heap.size ≤ b ∧ ∀ x, B = some x → b ≠ x.block) (hb : Bel w0 w) (hi : Ints .u64 w B m zs0) (hl : ∀ x, B = some x → x.block < w.heap.size) (hs : Step w w' M I M' I') (hj : JD w' M' I' pj zs' L') : Nb w0 w' pj zs' L' B m zs0 := by
  refine ⟨M', I', hj, fun b hb' => ?_, Kep.bel hb hs.kep (fun b h => (hm b h).1), hs.kep.ints (fun x hx hM => (hm _ hM).2 x hx rfl) hi, fun x hx => Nat.lt_of_lt_of_le (hl x hx) hs.kep.size⟩
  rcases hs.m b hb' with h | h
  · exact hm b h
  · exact ⟨Nat.le_trans (Below.size hb) h, fun x hx e => by have := hl x hx; omega⟩
theorem cellsB (h : Nw w0 w pj zs L) :
    Calls Try.prog 27 #[.pointer (some ⟨pj, 0, none⟩)] w fun e w' => ∃ A c, e = .returned (.slice A zs.length c) ∧ Nb w0 w' pj zs L A zs.length zs := by
  obtain ⟨M, I, hj, hm, hb⟩ := h
  have hf := hj.facts
  refine (cellsK ⟨M, I, hj, hm, hb⟩).mono ?_
  rintro e w' ⟨A, c, rfl, hi, hbb, hn⟩
  refine ⟨A, c, rfl, M, I, hj.bel hbb, fun b h => ⟨hm b h, fun x hx e => ?_⟩, hb.trans hbb, hi, fun x hx => ?_⟩
  · have h1 := hf.2.2.2.2.1 b h
    have h2 := hn x hx
    omega
  · obtain ⟨b, o, e, hlt, _⟩ := hi.2 hf.1
    rw [hx] at e
    cases e
    exact hlt
theorem doesB (h : Nb w0 w pj zs L B m zs0) (hl : L.length ≤ 64) (a i k u : Int) (hB : ActB a i k u) :
    Calls Try.prog 17 #[.pointer (some ⟨pj, 0, none⟩), actV a i k u] w fun e w' => e = .returned (.int .i64 (actE zs L a i k u)) ∧ Nb w0 w' pj (actZ zs L a i k u) (actL zs L a i k u) B m zs0 := by
  obtain ⟨M, I, hj, hm, hb, hi, hx⟩ := h
  refine (does hj hl a i k u hB).mono ?_
  rintro e w' ⟨rfl, M', I', hj', hs⟩
  exact ⟨rfl, Nb.step hm hb hi hx hs hj'⟩
theorem begB (h : Nb w0 w pj zs L B m zs0) (n : Int) (hl : L.length < 64) (hn : (L.length : Int) + 1 = n) :
    Calls Try.prog 16 #[.pointer (some ⟨pj, 0, none⟩)] w fun e w' => e = .returned (.tuple #[.int .i64 n, .int .i64 0]) ∧ Nb w0 w' pj zs ((zs, fun _ => false) :: L) B m zs0 := by
  subst hn
  obtain ⟨M, I, hj, hm, hb, hi, hx⟩ := h
  have e1 : begN L = L.length + 1 := by unfold begN; rw [if_pos hl]
  have e2 : begE L = 0 := by unfold begE; rw [if_pos hl]
  have e3 : begL zs L = (zs, fun _ => false) :: L := by unfold begL; rw [if_pos hl]
  rw [← e1, ← e2, ← e3]
  refine (begD hj).mono ?_
  rintro e w' ⟨rfl, M', hj', hs⟩
  exact ⟨rfl, Nb.step hm hb hi hx hs hj'⟩
theorem backB (h : Nb w0 w pj zs L B m zs0) (L0 : List Lv) (d : Int) (ho : Ovr zs0 L0 L) (hd : (L0.length : Int) = d) :
    Calls Try.prog 15 #[.pointer (some ⟨pj, 0, none⟩), .int .i64 d] w fun e w' => e = .returned (.int .i64 0) ∧ Nb w0 w' pj zs0 L0 B m zs0 := by
  subst hd
  have hlen := ho.len
  have hc : 0 ≤ (L0.length : Int) ∧ (L0.length : Int) ≤ L.length := by omega
  have e1 : backE L L0.length = 0 := by unfold backE; rw [if_pos hc]
  have e2 : backZZ zs L L0.length = zs0 := by unfold backZZ; rw [if_pos hc, Int.toNat_natCast]; exact (ho.back zs).1
  have e3 : backLL L L0.length = L0 := by unfold backLL; rw [if_pos hc, Int.toNat_natCast]; exact (ho.back zs).2
  obtain ⟨M, I, hj, hm, hb, hi, hx⟩ := h
  refine (backD hj L0.length).mono ?_
  rw [e1, e2, e3]
  rintro e w' ⟨rfl, hj', hs⟩
  exact ⟨rfl, Nb.step hm hb hi hx hs hj'⟩
end

set_option maxRecDepth 100000 in
set_option maxHeartbeats 8000000 in
theorem backLaw (A1 : Option Addr) (n1 c1 : Nat) (A2 : Option Addr) (n2 c2 : Nat) (w : World) (ha1 : Acts w A1 n1) (ha2 : Acts w A2 n2) :
    Calls Try.prog 7 #[.slice A1 n1 c1, .slice A2 n2 c2] w fun e w' => e = .returned (.bool true) ∧ Bel w w' := by
  have KN := Lib.hid (known w)
  have HA1 := Lib.hid ha1
  have HA2 := Lib.hid ha2
  clear ha1 ha2
  by_cases hn1 : n1 ≤ 40
  · by_cases hn2 : n2 ≤ 60
    · have hn1i : ¬ (40 : Int) < n1 := by omega
      have hn2i : ¬ (60 : Int) < n2 := by omega
      go_enter Try.func7, Try.ntmps7
      go_wp2_with fail
      refine KN.out.mono ?_
      rintro e w1 ⟨rfl, hb1⟩
      have B1 := Lib.hid hb1
      have MD := Lib.hid (madeA A1 n1 c1 w1 (HA1.out.bel hb1) (Nat.le_trans hn1 (by decide)))
      clear hb1
      go_wp2_with fail
      refine MD.out.mono ?_
      rintro e w2 ⟨pj, zs0, L0, rfl, h2, hl0⟩
      obtain ⟨d, hd⟩ : ∃ d, L0.length = d := ⟨_, rfl⟩
      have HD := Lib.hid hd
      have hd40 : (d : Int) ≤ 40 := by omega
      have hd40n : d ≤ 40 := by omega
      have H2 := Lib.hid (show Nw w w2 pj zs0 L0 by
        obtain ⟨M, I, hj, hm, hb⟩ := h2
        exact ⟨M, I, hj, fun b h => Nat.le_trans (Below.size B1.out) (hm b h), B1.out.trans hb⟩)
      have CE := Lib.hid (cellsB H2.out)
      clear h2 hl0 hd
      go_wp2_with fail
      refine CE.out.mono ?_
      rintro e w3 ⟨B, cB, rfl, h3⟩
      have H3 := Lib.hid h3
      have DE := Lib.hid (depthN h3.nw (d : Int) (by rw [HD.out]))
      have BE := Lib.hid (begB h3 ((d : Int) + 1) (by rw [HD.out]; omega) (by rw [HD.out]))
      obtain ⟨mB, hmB⟩ : ∃ mB, zs0.length = mB := ⟨_, rfl⟩
      have HMB := Lib.hid (show mB ≤ 4096 by rw [← hmB]; exact h3.nw.lens.2.1)
      have HMB2 := Lib.hid hmB
      rw [hmB] at H3 BE ⊢
      clear h3 hmB
      go_wp2_with fail
      refine DE.out.mono ?_
      rintro e w4 ⟨rfl, rfl⟩
      go_wp2_with fail
      refine BE.out.mono ?_
      rintro e w5 ⟨rfl, h5⟩
      have H5 := Lib.hid h5
      clear h5
      go_wp2_with fail
      go_loopw [11] (fun i wr => ∃ (m : Nat) (zs : List Int) (L : List Lv), m ≤ n2 ∧ i = .int .i64 m ∧ Nb w wr pj zs L B mB zs0 ∧ Ovr zs0 L0 L ∧ L.length ≤ 64) (fun i _ => n2 - (iv i).toNat)
      case atStart => exact ⟨0, zs0, _, Nat.zero_le _, rfl, H5.out, ⟨[], _, rfl⟩, by rw [List.length_cons, HD.out]; omega⟩
      case round =>
        obtain ⟨m, zs, L, hm, rfl, hj, ho, hl⟩ := hrel
        have HL := Lib.hid hl
        have HJ := Lib.hid hj
        have HO := Lib.hid ho
        clear hl hj ho
        by_cases hmn : m < n2
        · obtain ⟨b, o, rfl, hb, hi⟩ := (HA2.out.bel HJ.out.nw.belw) (by omega)
          obtain ⟨a, i, k, u, hB, hr⟩ := hi m hmn
          have hmn2 : (m : Int) < n2 := by omega
          have HBB := Lib.hid hB
          have r0 : wr.cell? ⟨b, o + m * 4, none⟩ = some (.int .i64 a) := hr 0 _ rfl
          have r1 : wr.cell? ⟨b, o + m * 4 + 1, none⟩ = some (.int .i64 i) := hr 1 _ rfl
          have r2 : wr.cell? ⟨b, o + m * 4 + 2, none⟩ = some (.int .i64 k) := hr 2 _ rfl
          have r3 : wr.cell? ⟨b, o + m * 4 + 3, none⟩ = some (.int .u64 u) := hr 3 _ rfl
          have P1 := Lib.hid (fun W => pick6 i W hB.i0 hB.i1)
          have P2 := Lib.hid (fun W => pick6 k W hB.k0 hB.k1)
          obtain ⟨q, hq⟩ : ∃ q, wr.heap.size = q := ⟨_, rfl⟩
          obtain ⟨W0, hW0⟩ : ∃ W0, wr.alloc (.cells #[.int .i64 a, .int .i64 i, .int .i64 k, .int .u64 u] 33) = W0 := ⟨_, rfl⟩
          have hbW : Bel wr W0 := by rw [← hW0]; exact (Bel.refl wr).alloc _
          have bq : Blk W0 q #[.int .i64 a, .int .i64 i, .int .i64 k, .int .u64 u] 33 := by rw [← hW0, ← hq]; exact Blk.new wr _ _
          have hqW : wr.heap.size ≤ q := by rw [hq]; exact Nat.le_refl _
          have HQ := Lib.hid hq
          have HW := Lib.hid hW0
          clear hi hr hB hq hW0
          go_upto_region 15 with fail
          rw [HQ.out, HW.out]
          clear r0 r1 r2 r3
          go_cut [12] (fun s6 wx => s6 = .pointer (some ⟨q, 0, none⟩) ∧ Hid (Blk wx q #[.int .i64 a, .int .i64 (i % 6), .int .i64 (k % 6), .int .u64 u] 33 ∧ Bel wr wx))
          case first =>
            refine wp_region_held_drew (S := fun _ => True) (by kernel_rfl) trivial (fun _ => ?_)
            obtain ⟨V0, hV0⟩ : ∃ v, World.drew W0 = v := ⟨_, rfl⟩
            rw [hV0]
            have bq0 : Blk V0 q #[.int .i64 a, .int .i64 i, .int .i64 k, .int .u64 u] 33 := by rw [← hV0]; exact bq.bel ((Bel.refl _).drew)
            have hb0 : Bel wr V0 := by rw [← hV0]; exact hbW.drew
            clear hV0
            have bt := box_two (i' := i % 6) (k' := k % 6) bq0 hb0 hqW
            have c1 := bt.1
            have f1 := bt.2.1
            have c2 := bt.2.2.1
            have f2 := bt.2.2.2.1
            have FT := Lib.hid bt.2.2.2.2
            clear bt bq0 hb0
            refine wpAnyH_take (i := 0) (oi := { dst := some 55, op := .fieldAddr 33 (.tmp 12) 1, type := 0, pos := "outright.go:89", after := #[], guard := none }) (v := .pointer (some ⟨q, 1, none⟩)) rfl (by kernel_rfl) (by kernel_rfl) (by kernel_rfl) (fun _ _ _ h => h) (Or.inl ⟨by rfl, by intro w hSw; clear hSw; go_simp⟩) trivial ?_
            try simp only [Act.put, List.setIfInBounds_toArray, List.set_cons_zero, List.set_cons_succ]
            refine wpAnyH_take (i := 3) (oi := { dst := some 58, op := .fieldAddr 33 (.tmp 12) 2, type := 0, pos := "outright.go:89", after := #[], guard := none }) (v := .pointer (some ⟨q, 2, none⟩)) rfl (by kernel_rfl) (by kernel_rfl) (by kernel_rfl) (fun _ _ _ h => h) (Or.inl ⟨by rfl, by intro w hSw; clear hSw; go_simp⟩) trivial ?_
            try simp only [Act.put, List.setIfInBounds_toArray, List.set_cons_zero, List.set_cons_succ]
            refine wpAnyH_ready (rs := [1, 4]) (by kernel_rfl) (by simp) ?_
            refine AllReadyH.cons (o := { dst := some 56, op := .load 3 (.tmp 55), type := 3, pos := "outright.go:89", after := #[{ on := 0, ground := .data }], guard := none }) rfl (fun K hK => ?_) (AllReadyH.cons (o := { dst := some 59, op := .load 3 (.tmp 58), type := 3, pos := "outright.go:89", after := #[{ on := 3, ground := .data }], guard := none }) rfl (fun K hK => ?_) AllReadyH.nil)
            · skip
              go_simp
              refine hK.out _ _ trivial (fun _ => ?_)
              clear hK K
              try simp only [Act.put, List.setIfInBounds_toArray, List.set_cons_zero, List.set_cons_succ]
              refine wpAnyH_ready (rs := [2, 4]) (by kernel_rfl) (by simp) ?_
              refine AllReadyH.cons (o := { dst := some 57, op := .call { callee := .value (.func 20), args := #[.tmp 56, .const (Value.int IntKind.i64 6)], argTypes := #[3, 3] }, type := 3, pos := "outright.go:89", after := #[{ on := 1, ground := .data }], guard := none }) rfl (fun K hK => ?_) (AllReadyH.cons (o := { dst := some 59, op := .load 3 (.tmp 58), type := 3, pos := "outright.go:89", after := #[{ on := 3, ground := .data }], guard := none }) rfl (fun K hK => ?_) AllReadyH.nil)
              · skip
                go_simp
                refine (P1.out _).mono ?_
                rintro e wp ⟨rfl, rfl⟩
                go_wp2_with fail
                refine hK.out _ _ trivial (fun _ => ?_)
                clear hK K
                try simp only [Act.put, List.setIfInBounds_toArray, List.set_cons_zero, List.set_cons_succ]
                refine wpAnyH_ready (rs := [4]) (by kernel_rfl) (by simp) ?_
                refine AllReadyH.cons (o := { dst := some 59, op := .load 3 (.tmp 58), type := 3, pos := "outright.go:89", after := #[{ on := 3, ground := .data }], guard := none }) rfl (fun K hK => ?_) AllReadyH.nil
                go_simp
                refine hK.out _ _ trivial (fun _ => ?_)
                clear hK K
                try simp only [Act.put, List.setIfInBounds_toArray, List.set_cons_zero, List.set_cons_succ]
                refine wpAnyH_take (i := 6) (oi := { dst := some 61, op := .fieldAddr 33 (.tmp 12) 1, type := 0, pos := "outright.go:89", after := #[{ on := 0, ground := .phase }, { on := 1, ground := .phase }, { on := 2, ground := .phase }, { on := 3, ground := .phase }, { on := 4, ground := .phase }, { on := 5, ground := .textOnly .lateStoresUnsure }], guard := none }) (v := .pointer (some ⟨q, 1, none⟩)) rfl (by kernel_rfl) (by kernel_rfl) (by kernel_rfl) (fun _ _ _ h => h) (Or.inl ⟨by rfl, by intro w hSw; clear hSw; go_simp⟩) trivial ?_
                try simp only [Act.put, List.setIfInBounds_toArray, List.set_cons_zero, List.set_cons_succ]
                refine wpAnyH_ready (rs := [5]) (by kernel_rfl) (by simp) ?_
                refine AllReadyH.cons (o := { dst := some 60, op := .call { callee := .value (.func 20), args := #[.tmp 59, .const (Value.int IntKind.i64 6)], argTypes := #[3, 3] }, type := 3, pos := "outright.go:89", after := #[{ on := 4, ground := .data }, { on := 2, ground := .chain }], guard := none }) rfl (fun K hK => ?_) AllReadyH.nil
                go_simp
                refine (P2.out _).mono ?_
                rintro e wp ⟨rfl, rfl⟩
                go_wp2_with fail
                refine hK.out _ _ trivial (fun _ => ?_)
                clear hK K
                try simp only [Act.put, List.setIfInBounds_toArray, List.set_cons_zero, List.set_cons_succ]
                refine wpAnyH_ready (rs := [7]) (by kernel_rfl) (by simp) ?_
                refine AllReadyH.cons (o := { dst := none, op := .store 3 (.tmp 61) (.tmp 57), type := 0, pos := "outright.go:89", after := #[{ on := 6, ground := .data }, { on := 2, ground := .data }, { on := 5, ground := .chain }, { on := 0, ground := .phase }, { on := 1, ground := .phase }, { on := 2, ground := .phase }, { on := 3, ground := .phase }, { on := 4, ground := .phase }, { on := 5, ground := .textOnly .lateStoresUnsure }], guard := none }) rfl (fun K hK => ?_) AllReadyH.nil
                go_simp
                refine hK.out _ _ trivial (fun _ => ?_)
                clear hK K
                try simp only [Act.put, List.setIfInBounds_toArray, List.set_cons_zero, List.set_cons_succ]
                refine wpAnyH_take (i := 8) (oi := { dst := some 62, op := .fieldAddr 33 (.tmp 12) 2, type := 0, pos := "outright.go:89", after := #[{ on := 0, ground := .phase }, { on := 1, ground := .phase }, { on := 2, ground := .phase }, { on := 3, ground := .phase }, { on := 4, ground := .phase }, { on := 5, ground := .phase }, { on := 6, ground := .phase }, { on := 7, ground := .phase }], guard := none }) (v := .pointer (some ⟨q, 2, none⟩)) rfl (by kernel_rfl) (by kernel_rfl) (by kernel_rfl) (fun _ _ _ h => h) (Or.inl ⟨by rfl, by intro w hSw; clear hSw; go_simp⟩) trivial ?_
                try simp only [Act.put, List.setIfInBounds_toArray, List.set_cons_zero, List.set_cons_succ]
                refine wpAnyH_ready (rs := [9]) (by kernel_rfl) (by simp) ?_
                refine AllReadyH.cons (o := { dst := none, op := .store 3 (.tmp 62) (.tmp 60), type := 0, pos := "outright.go:89", after := #[{ on := 8, ground := .data }, { on := 5, ground := .data }, { on := 7, ground := .chain }, { on := 0, ground := .phase }, { on := 1, ground := .phase }, { on := 2, ground := .phase }, { on := 3, ground := .phase }, { on := 4, ground := .phase }, { on := 5, ground := .phase }, { on := 6, ground := .phase }, { on := 7, ground := .phase }], guard := none }) rfl (fun K hK => ?_) AllReadyH.nil
                go_simp
                refine hK.out _ _ trivial (fun _ => ?_)
                clear hK K
                try simp only [Act.put, List.setIfInBounds_toArray, List.set_cons_zero, List.set_cons_succ]
                refine wpAnyH_done (by kernel_rfl) ?_ _
                go_wp2_with fail
                go_meet
                exact ⟨rfl, Lib.hid FT.out⟩
              · skip
                go_simp
                refine hK.out _ _ trivial (fun _ => ?_)
                clear hK K
                try simp only [Act.put, List.setIfInBounds_toArray, List.set_cons_zero, List.set_cons_succ]
                refine wpAnyH_ready (rs := [2]) (by kernel_rfl) (by simp) ?_
                refine AllReadyH.cons (o := { dst := some 57, op := .call { callee := .value (.func 20), args := #[.tmp 56, .const (Value.int IntKind.i64 6)], argTypes := #[3, 3] }, type := 3, pos := "outright.go:89", after := #[{ on := 1, ground := .data }], guard := none }) rfl (fun K hK => ?_) AllReadyH.nil
                go_simp
                refine (P1.out _).mono ?_
                rintro e wp ⟨rfl, rfl⟩
                go_wp2_with fail
                refine hK.out _ _ trivial (fun _ => ?_)
                clear hK K
                try simp only [Act.put, List.setIfInBounds_toArray, List.set_cons_zero, List.set_cons_succ]
                refine wpAnyH_take (i := 6) (oi := { dst := some 61, op := .fieldAddr 33 (.tmp 12) 1, type := 0, pos := "outright.go:89", after := #[{ on := 0, ground := .phase }, { on := 1, ground := .phase }, { on := 2, ground := .phase }, { on := 3, ground := .phase }, { on := 4, ground := .phase }, { on := 5, ground := .textOnly .lateStoresUnsure }], guard := none }) (v := .pointer (some ⟨q, 1, none⟩)) rfl (by kernel_rfl) (by kernel_rfl) (by kernel_rfl) (fun _ _ _ h => h) (Or.inl ⟨by rfl, by intro w hSw; clear hSw; go_simp⟩) trivial ?_
                try simp only [Act.put, List.setIfInBounds_toArray, List.set_cons_zero, List.set_cons_succ]
                refine wpAnyH_ready (rs := [5]) (by kernel_rfl) (by simp) ?_
                refine AllReadyH.cons (o := { dst := some 60, op := .call { callee := .value (.func 20), args := #[.tmp 59, .const (Value.int IntKind.i64 6)], argTypes := #[3, 3] }, type := 3, pos := "outright.go:89", after := #[{ on := 4, ground := .data }, { on := 2, ground := .chain }], guard := none }) rfl (fun K hK => ?_) AllReadyH.nil
                go_simp
                refine (P2.out _).mono ?_
                rintro e wp ⟨rfl, rfl⟩
                go_wp2_with fail
                refine hK.out _ _ trivial (fun _ => ?_)
                clear hK K
                try simp only [Act.put, List.setIfInBounds_toArray, List.set_cons_zero, List.set_cons_succ]
                refine wpAnyH_ready (rs := [7]) (by kernel_rfl) (by simp) ?_
                refine AllReadyH.cons (o := { dst := none, op := .store 3 (.tmp 61) (.tmp 57), type := 0, pos := "outright.go:89", after := #[{ on := 6, ground := .data }, { on := 2, ground := .data }, { on := 5, ground := .chain }, { on := 0, ground := .phase }, { on := 1, ground := .phase }, { on := 2, ground := .phase }, { on := 3, ground := .phase }, { on := 4, ground := .phase }, { on := 5, ground := .textOnly .lateStoresUnsure }], guard := none }) rfl (fun K hK => ?_) AllReadyH.nil
                go_simp
                refine hK.out _ _ trivial (fun _ => ?_)
                clear hK K
                try simp only [Act.put, List.setIfInBounds_toArray, List.set_cons_zero, List.set_cons_succ]
                refine wpAnyH_take (i := 8) (oi := { dst := some 62, op := .fieldAddr 33 (.tmp 12) 2, type := 0, pos := "outright.go:89", after := #[{ on := 0, ground := .phase }, { on := 1, ground := .phase }, { on := 2, ground := .phase }, { on := 3, ground := .phase }, { on := 4, ground := .phase }, { on := 5, ground := .phase }, { on := 6, ground := .phase }, { on := 7, ground := .phase }], guard := none }) (v := .pointer (some ⟨q, 2, none⟩)) rfl (by kernel_rfl) (by kernel_rfl) (by kernel_rfl) (fun _ _ _ h => h) (Or.inl ⟨by rfl, by intro w hSw; clear hSw; go_simp⟩) trivial ?_
                try simp only [Act.put, List.setIfInBounds_toArray, List.set_cons_zero, List.set_cons_succ]
                refine wpAnyH_ready (rs := [9]) (by kernel_rfl) (by simp) ?_
                refine AllReadyH.cons (o := { dst := none, op := .store 3 (.tmp 62) (.tmp 60), type := 0, pos := "outright.go:89", after := #[{ on := 8, ground := .data }, { on := 5, ground := .data }, { on := 7, ground := .chain }, { on := 0, ground := .phase }, { on := 1, ground := .phase }, { on := 2, ground := .phase }, { on := 3, ground := .phase }, { on := 4, ground := .phase }, { on := 5, ground := .phase }, { on := 6, ground := .phase }, { on := 7, ground := .phase }], guard := none }) rfl (fun K hK => ?_) AllReadyH.nil
                go_simp
                refine hK.out _ _ trivial (fun _ => ?_)
                clear hK K
                try simp only [Act.put, List.setIfInBounds_toArray, List.set_cons_zero, List.set_cons_succ]
                refine wpAnyH_done (by kernel_rfl) ?_ _
                go_wp2_with fail
                go_meet
                exact ⟨rfl, Lib.hid FT.out⟩
            · skip
              go_simp
              refine hK.out _ _ trivial (fun _ => ?_)
              clear hK K
              try simp only [Act.put, List.setIfInBounds_toArray, List.set_cons_zero, List.set_cons_succ]
              refine wpAnyH_ready (rs := [1]) (by kernel_rfl) (by simp) ?_
              refine AllReadyH.cons (o := { dst := some 56, op := .load 3 (.tmp 55), type := 3, pos := "outright.go:89", after := #[{ on := 0, ground := .data }], guard := none }) rfl (fun K hK => ?_) AllReadyH.nil
              go_simp
              refine hK.out _ _ trivial (fun _ => ?_)
              clear hK K
              try simp only [Act.put, List.setIfInBounds_toArray, List.set_cons_zero, List.set_cons_succ]
              refine wpAnyH_ready (rs := [2]) (by kernel_rfl) (by simp) ?_
              refine AllReadyH.cons (o := { dst := some 57, op := .call { callee := .value (.func 20), args := #[.tmp 56, .const (Value.int IntKind.i64 6)], argTypes := #[3, 3] }, type := 3, pos := "outright.go:89", after := #[{ on := 1, ground := .data }], guard := none }) rfl (fun K hK => ?_) AllReadyH.nil
              go_simp
              refine (P1.out _).mono ?_
              rintro e wp ⟨rfl, rfl⟩
              go_wp2_with fail
              refine hK.out _ _ trivial (fun _ => ?_)
              clear hK K
              try simp only [Act.put, List.setIfInBounds_toArray, List.set_cons_zero, List.set_cons_succ]
              refine wpAnyH_take (i := 6) (oi := { dst := some 61, op := .fieldAddr 33 (.tmp 12) 1, type := 0, pos := "outright.go:89", after := #[{ on := 0, ground := .phase }, { on := 1, ground := .phase }, { on := 2, ground := .phase }, { on := 3, ground := .phase }, { on := 4, ground := .phase }, { on := 5, ground := .textOnly .lateStoresUnsure }], guard := none }) (v := .pointer (some ⟨q, 1, none⟩)) rfl (by kernel_rfl) (by kernel_rfl) (by kernel_rfl) (fun _ _ _ h => h) (Or.inl ⟨by rfl, by intro w hSw; clear hSw; go_simp⟩) trivial ?_
              try simp only [Act.put, List.setIfInBounds_toArray, List.set_cons_zero, List.set_cons_succ]
              refine wpAnyH_ready (rs := [5]) (by kernel_rfl) (by simp) ?_
              refine AllReadyH.cons (o := { dst := some 60, op := .call { callee := .value (.func 20), args := #[.tmp 59, .const (Value.int IntKind.i64 6)], argTypes := #[3, 3] }, type := 3, pos := "outright.go:89", after := #[{ on := 4, ground := .data }, { on := 2, ground := .chain }], guard := none }) rfl (fun K hK => ?_) AllReadyH.nil
              go_simp
              refine (P2.out _).mono ?_
              rintro e wp ⟨rfl, rfl⟩
              go_wp2_with fail
              refine hK.out _ _ trivial (fun _ => ?_)
              clear hK K
              try simp only [Act.put, List.setIfInBounds_toArray, List.set_cons_zero, List.set_cons_succ]
              refine wpAnyH_ready (rs := [7]) (by kernel_rfl) (by simp) ?_
              refine AllReadyH.cons (o := { dst := none, op := .store 3 (.tmp 61) (.tmp 57), type := 0, pos := "outright.go:89", after := #[{ on := 6, ground := .data }, { on := 2, ground := .data }, { on := 5, ground := .chain }, { on := 0, ground := .phase }, { on := 1, ground := .phase }, { on := 2, ground := .phase }, { on := 3, ground := .phase }, { on := 4, ground := .phase }, { on := 5, ground := .textOnly .lateStoresUnsure }], guard := none }) rfl (fun K hK => ?_) AllReadyH.nil
              go_simp
              refine hK.out _ _ trivial (fun _ => ?_)
              clear hK K
              try simp only [Act.put, List.setIfInBounds_toArray, List.set_cons_zero, List.set_cons_succ]
              refine wpAnyH_take (i := 8) (oi := { dst := some 62, op := .fieldAddr 33 (.tmp 12) 2, type := 0, pos := "outright.go:89", after := #[{ on := 0, ground := .phase }, { on := 1, ground := .phase }, { on := 2, ground := .phase }, { on := 3, ground := .phase }, { on := 4, ground := .phase }, { on := 5, ground := .phase }, { on := 6, ground := .phase }, { on := 7, ground := .phase }], guard := none }) (v := .pointer (some ⟨q, 2, none⟩)) rfl (by kernel_rfl) (by kernel_rfl) (by kernel_rfl) (fun _ _ _ h => h) (Or.inl ⟨by rfl, by intro w hSw; clear hSw; go_simp⟩) trivial ?_
              try simp only [Act.put, List.setIfInBounds_toArray, List.set_cons_zero, List.set_cons_succ]
              refine wpAnyH_ready (rs := [9]) (by kernel_rfl) (by simp) ?_
              refine AllReadyH.cons (o := { dst := none, op := .store 3 (.tmp 62) (.tmp 60), type := 0, pos := "outright.go:89", after := #[{ on := 8, ground := .data }, { on := 5, ground := .data }, { on := 7, ground := .chain }, { on := 0, ground := .phase }, { on := 1, ground := .phase }, { on := 2, ground := .phase }, { on := 3, ground := .phase }, { on := 4, ground := .phase }, { on := 5, ground := .phase }, { on := 6, ground := .phase }, { on := 7, ground := .phase }], guard := none }) rfl (fun K hK => ?_) AllReadyH.nil
              go_simp
              refine hK.out _ _ trivial (fun _ => ?_)
              clear hK K
              try simp only [Act.put, List.setIfInBounds_toArray, List.set_cons_zero, List.set_cons_succ]
              refine wpAnyH_done (by kernel_rfl) ?_ _
              go_wp2_with fail
              go_meet
              exact ⟨rfl, Lib.hid FT.out⟩
          case rest =>
            obtain ⟨rfl, HX⟩ := hcut
            have c0 := HX.out.1.cell 0 rfl
            have c1 := HX.out.1.cell 1 rfl
            have c2 := HX.out.1.cell 2 rfl
            have c3 := HX.out.1.cell 3 rfl
            have HJX := Lib.hid (HJ.out.bel HX.out.2)
            have DN := Lib.hid (doesB HJX.out HL.out a (i % 6) (k % 6) u HBB.out.six)
            have AL := Lib.hid (actL_len zs L a (i % 6) (k % 6) u HL.out)
            have AO := Lib.hid (fun h7 hc => HO.out.act zs a (i % 6) (k % 6) u h7 hc)
            obtain ⟨e, he⟩ : ∃ e, L.length = e := ⟨_, rfl⟩
            have HE := Lib.hid he
            have he64 : (e : Int) ≤ 64 := by have := HL.out; omega
            have DP := Lib.hid (depthN HJX.out.nw (e : Int) (by rw [he]))
            clear bq hbW hqW he
            by_cases ha7 : a = 7
            · subst ha7
              go_wp2
              go_roundw
              case rel =>
                first
                  | exact ⟨m + 1, zs, L, by omega, by go_num, HJX.out, HO.out, HL.out⟩
                  | exact ⟨m + 1, by omega, by go_num, zs, L, HJX.out, HO.out, HL.out⟩
              case measure => simp [iv]; omega
            · have ha7b : (a == 7) = false := by simp [ha7]
              by_cases hcl : a = 5 ∨ a = 6
              · by_cases hle : e ≤ d + 1
                · have hle2 : (e : Int) ≤ (d : Int) + 1 := by omega
                  rcases hcl with rfl | rfl
                  all_goals
                    go_wp2_with fail
                    refine DP.out.mono ?_
                    rintro e2 w5 ⟨rfl, rfl⟩
                    go_wp2
                    go_roundw
                    case rel =>
                      first
                        | exact ⟨m + 1, zs, L, by omega, by go_num, HJX.out, HO.out, HL.out⟩
                        | exact ⟨m + 1, by omega, by go_num, zs, L, HJX.out, HO.out, HL.out⟩
                    case measure => simp [iv]; omega
                · have hle2 : ¬ (e : Int) ≤ (d : Int) + 1 := by omega
                  have AO2 := Lib.hid (AO.out ha7 (fun _ => by rw [HE.out, HD.out]; omega))
                  rcases hcl with rfl | rfl
                  all_goals
                    go_wp2_with fail
                    refine DP.out.mono ?_
                    rintro e2 w5 ⟨rfl, rfl⟩
                    go_wp2_with fail
                    refine DN.out.mono ?_
                    rintro e2 w5 ⟨rfl, h5⟩
                    have H6 := Lib.hid h5
                    clear h5 c0 c1 c2 c3
                    go_wp2
                    go_roundw
                    case rel =>
                      first
                        | exact ⟨m + 1, _, _, by omega, by go_num, H6.out, AO2.out, AL.out⟩
                        | exact ⟨m + 1, by omega, by go_num, _, _, H6.out, AO2.out, AL.out⟩
                    case measure => simp [iv]; omega
              · have AO2 := Lib.hid (AO.out ha7 (fun h => absurd h hcl))
                have ha5 : ¬ a = 5 := fun h => hcl (.inl h)
                have ha6 : ¬ a = 6 := fun h => hcl (.inr h)
                have ha5b : (a == 5) = false := by simp [ha5]
                have ha6b : (a == 6) = false := by simp [ha6]
                clear hcl
                go_wp2_with fail
                refine DN.out.mono ?_
                rintro e2 w5 ⟨rfl, h5⟩
                have H6 := Lib.hid h5
                clear h5 c0 c1 c2 c3
                go_wp2
                go_roundw
                case rel =>
                  first
                    | exact ⟨m + 1, _, _, by omega, by go_num, H6.out, AO2.out, AL.out⟩
                    | exact ⟨m + 1, by omega, by go_num, _, _, H6.out, AO2.out, AL.out⟩
                case measure => simp [iv]; omega
        · obtain rfl : m = n2 := by omega
          have BK := Lib.hid (backB HJ.out L0 (d : Int) HO.out (by rw [HD.out]))
          go_wp2_with fail
          refine BK.out.mono ?_
          rintro e w6 ⟨rfl, h6⟩
          have H6 := Lib.hid h6
          have DP := Lib.hid (depthN h6.nw (d : Int) (by rw [HD.out]))
          have CE2 := Lib.hid (cellsN h6.nw)
          clear h6
          go_wp2_with fail
          refine DP.out.mono ?_
          rintro e w7 ⟨rfl, rfl⟩
          go_wp2_with fail
          refine CE2.out.mono ?_
          rintro e w8 ⟨B2, cB2, rfl, hi8, hb8⟩
          rw [HMB2.out] at hi8 ⊢
          have SW := Lib.hid (sameW B2 B mB cB2 mB cB zs0 zs0 w8 hi8 (H6.out.bel hb8).ints (Nat.le_trans HMB.out (by decide)) (Nat.le_trans HMB.out (by decide)))
          have H8 := Lib.hid (H6.out.bel hb8)
          have HDD := Lib.hid (show decide (zs0 = zs0) = true from decide_eq_true rfl)
          clear hi8 hb8
          go_wp2_with fail
          refine SW.out.mono ?_
          rintro e w9 ⟨rfl, hb9⟩
          have H9 := Lib.hid (H8.out.nw.belw.trans hb9)
          rw [HDD.out]
          clear hb9
          go_wp2
          go_ret
          exact ⟨rfl, H9.out⟩
    · have hn3 : (60 : Int) < n2 := by omega
      have hn1i : ¬ (40 : Int) < n1 := by omega
      go_enter Try.func7, Try.ntmps7
      go_wp2_with fail
      refine KN.out.mono ?_
      rintro e w1 ⟨rfl, hb1⟩
      have B1 := Lib.hid hb1
      clear hb1
      go_wp2
      go_ret
      exact ⟨rfl, B1.out⟩
  · have hn3 : (40 : Int) < n1 := by omega
    go_enter Try.func7, Try.ntmps7
    go_wp2_with fail
    refine KN.out.mono ?_
    rintro e w1 ⟨rfl, hb1⟩
    have B1 := Lib.hid hb1
    clear hb1
    go_wp2
    go_ret
    exact ⟨rfl, B1.out⟩
end Jn
end Go.Proofs.Ytogphhhlbofgkaa
