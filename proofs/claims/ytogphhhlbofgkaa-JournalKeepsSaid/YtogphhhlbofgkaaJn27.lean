/-
  The law JournalKeeps returns true for any acts, and changes nothing that was there. Condition: the acts lie in memory as they come in.
-/
import Derived.Test.YtogphhhlbofgkaaJn26
namespace Go.Proofs.Ytogphhhlbofgkaa
open Go.RowKit Go.Shelf Go.Maps
set_option linter.unusedVariables false
namespace Jn
open Kk Pm Bk

theorem undoD2 {w0 w : World} {M I M2 I2 : Nat → Prop} {pj pk : Nat} {zs zs2 : List Int} {lv : Lv} {L : List Lv} {v : Value} {xs : List Value} {ws : List (List Int)} (h : KX w0 w M I M2 I2 pj pk zs zs2 (lv :: L) v xs ws) :
    Calls Try.prog 36 #[.pointer (some ⟨pj, 0, none⟩)] w fun e w' => e = .returned (.int .i64 0) ∧ Kep M w w' ∧ KX w0 w' M I M2 I2 pj pk lv.1 zs2 L v xs ws := by
  refine (undoDD h.j).mono ?_
  rintro e w' ⟨rfl, hj, hs⟩
  exact ⟨rfl, hs.kep, h.stepj hj hs⟩
theorem beg_lt {zs : List Int} {L : List Lv} {i k u : Int} (h : L.length < 64) : (actL zs L 4 i k u).map Prod.fst = zs :: L.map Prod.fst := by
  show (begL zs L).map Prod.fst = _
  unfold begL
  rw [if_pos h]
  rfl
theorem beg_ge {zs : List Int} {L : List Lv} {i k u : Int} (h : ¬ L.length < 64) : (actL zs L 4 i k u).map Prod.fst = L.map Prod.fst := by
  show (begL zs L).map Prod.fst = _
  unfold begL
  rw [if_neg h]

theorem slice_s (g n c h : Nat) (w : World) (h2 : (h : Int) ≤ c) :
    (Instr.slice 63 (.slice (some ⟨g, 0, none⟩) n c) none (some (.int .i64 h)) none).run Try.prog w = .ok (.slice (some ⟨g, 0, none⟩) h c) w := by
  have el : Try.prog.elem 63 = 45 := by kernel_rfl
  rw [run_slice_h (P := Try.prog) (w := w) (t := 63) (a := some ⟨g, 0, none⟩) (len := n) (cap := c) (by rw [el]; exact Try.underlying63) .i64 h (by omega) h2]
  rw [el]
  simp [Try.sizeOf45, Result.andThen, sliced, Addr.add]
  try omega
theorem keep_yes {zs : List Int} {lv : Lv} {L : List Lv} {i k u : Int} : (actL zs (lv :: L) 5 i k u).map Prod.fst = L.map Prod.fst := keepS_fst lv L
theorem keep_no {zs : List Int} {i k u : Int} : (actL zs [] 5 i k u).map Prod.fst = [] := rfl

set_option maxRecDepth 100000 in
set_option maxHeartbeats 8000000 in
theorem keepsLaw (A : Option Addr) (n c : Nat) (w : World) (ha : Acts w A n) :
    Calls Try.prog 8 #[.slice A n c] w fun e w' => e = .returned (.bool true) ∧ Bel w w' := by
  have KN := Lib.hid (known w)
  have HA := Lib.hid ha
  clear ha
  by_cases hn : n ≤ 60
  · have hni : ¬ (60 : Int) < n := by omega
    go_enter Try.func8, Try.ntmps8
    go_wp2_with fail
    refine KN.out.mono ?_
    rintro e w1 ⟨rfl, hb1⟩
    have B1 := Lib.hid hb1
    have MD := Lib.hid (made0D w1)
    clear hb1
    go_wp2_with fail
    refine MD.out.mono ?_
    rintro e w2 ⟨M, pj, rfl, hj, hb2, hm⟩
    have J2 := Lib.hid (show JD w2 M (fun _ => False) pj [0, 0, 0, 0, 0, 0] [] ∧ Bel w1 w2 ∧ (∀ b, M b → w1.heap.size ≤ b) from ⟨hj, hb2, hm⟩)
    have MD2 := Lib.hid (made0D w2)
    clear hj hb2 hm
    go_wp2_with fail
    refine MD2.out.mono ?_
    rintro e w3 ⟨M2, pk, rfl, hk, hb3, hm2⟩
    have HS0 := Lib.hid (kx_start B1.out J2.out.1 J2.out.2.1 J2.out.2.2 hk hb3 hm2)
    clear hk hb3 hm2
    go_wp2_with fail
    go_loopw [6, 7] (fun s i wr => ∃ (m : Nat) (zs : List Int) (L : List Lv), m ≤ n ∧ i = .int .i64 m ∧ L.length ≤ 64 ∧ zs.length = 6 ∧ KS w wr pj pk zs zs L s (L.map Prod.fst)) (fun _ i _ => n - (iv i).toNat)
    case atStart => exact ⟨0, _, [], Nat.zero_le _, rfl, by decide, rfl, HS0.out⟩
    case round =>
      obtain ⟨m, zs, L, hm, rfl, hl, hz6, M, I, M2, I2, xs, hk⟩ := hrel
      obtain ⟨Av, cv, hv⟩ := hk.shape
      rw [List.length_map] at hv
      subst hv
      obtain ⟨e, he⟩ : ∃ e, L.length = e := ⟨_, rfl⟩
      rw [he] at hk hl ⊢
      have HL := Lib.hid hl
      have HE := Lib.hid he
      have HZ6 := Lib.hid hz6
      have HK := Lib.hid hk
      clear hl he hz6 hk
      by_cases hmn : m < n
      · obtain ⟨b, o, rfl, hb, hi⟩ := (HA.out.bel HK.out.bel) (by omega)
        obtain ⟨a, i, k, u, hB, hr⟩ := hi m hmn
        have hmn2 : (m : Int) < n := by omega
        have HBB := Lib.hid hB
        have r0 : wr.cell? ⟨b, o + m * 4, none⟩ = some (.int .i64 a) := hr 0 _ rfl
        have r1 : wr.cell? ⟨b, o + m * 4 + 1, none⟩ = some (.int .i64 i) := hr 1 _ rfl
        have r2 : wr.cell? ⟨b, o + m * 4 + 2, none⟩ = some (.int .i64 k) := hr 2 _ rfl
        have r3 : wr.cell? ⟨b, o + m * 4 + 3, none⟩ = some (.int .u64 u) := hr 3 _ rfl
        have P1 := Lib.hid (fun W => pick6 i W hB.i0 hB.i1)
        have P2 := Lib.hid (fun W => pick6 k W hB.k0 hB.k1)
        obtain ⟨q, hq⟩ : ∃ q, wr.heap.size = q := ⟨_, rfl⟩
        obtain ⟨W0, hW0⟩ : ∃ W0, wr.alloc (.cells #[.int .i64 a, .int .i64 i, .int .i64 k, .int .u64 u] 33) = W0 := ⟨_, rfl⟩
        have hbW : Bel wr W0 := by rw [← hW0]; exact (Bel.refl wr).alloc _
        have bq : Blk W0 q #[.int .i64 a, .int .i64 i, .int .i64 k, .int .u64 u] 33 := by rw [← hW0, ← hq]; exact Blk.new wr _ _
        have hqW : wr.heap.size ≤ q := by rw [hq]; exact Nat.le_refl _
        have NQ := Lib.hid (show ¬ M q ∧ ¬ M2 q ∧ (∀ g, (Value.slice Av e cv).ownBlock = some g → g ≠ q) from
          ⟨fun h => by have := HK.out.j.facts.2.2.2.2.1 q h; omega, fun h => by have := HK.out.k.facts.2.2.2.2.1 q h; omega, fun g hg h => by have := (HK.out.row.lt g hg).2; omega⟩)
        have HQ := Lib.hid hq
        have HW := Lib.hid hW0
        clear hi hr hB hq hW0
        go_upto_region 12 with fail
        rw [HQ.out, HW.out]
        clear r0 r1 r2 r3
        go_cut [8] (fun s6 wx => s6 = .pointer (some ⟨q, 0, none⟩) ∧ Hid (Blk wx q #[.int .i64 a, .int .i64 (i % 6), .int .i64 (k % 6), .int .u64 u] 33 ∧ Bel wr wx))
        case first =>
          refine wp_region_held_drew (S := fun _ => True) (by kernel_rfl) trivial (fun _ => ?_)
          obtain ⟨V0, hV0⟩ : ∃ v, World.drew W0 = v := ⟨_, rfl⟩
          rw [hV0]
          have bq0 : Blk V0 q #[.int .i64 a, .int .i64 i, .int .i64 k, .int .u64 u] 33 := by rw [← hV0]; exact bq.bel ((Bel.refl _).drew)
          have hb0 : Bel wr V0 := by rw [← hV0]; exact hbW.drew
          clear hV0
          have bt := box_two (i' := i % 6) (k' := k % 6) bq0 hb0 hqW
          have c1 := bt.1
          have f1 := bt.2.1
          have c2 := bt.2.2.1
          have f2 := bt.2.2.2.1
          have FT := Lib.hid bt.2.2.2.2
          clear bt bq0 hb0
          refine wpAnyH_take (i := 0) (oi := { dst := some 37, op := .fieldAddr 33 (.tmp 8) 1, type := 0, pos := "outright.go:112", after := #[], guard := none }) (v := .pointer (some ⟨q, 1, none⟩)) rfl (by kernel_rfl) (by kernel_rfl) (by kernel_rfl) (fun _ _ _ h => h) (Or.inl ⟨by rfl, by intro w hSw; clear hSw; go_simp⟩) trivial ?_
          try simp only [Act.put, List.setIfInBounds_toArray, List.set_cons_zero, List.set_cons_succ]
          refine wpAnyH_take (i := 3) (oi := { dst := some 40, op := .fieldAddr 33 (.tmp 8) 2, type := 0, pos := "outright.go:112", after := #[], guard := none }) (v := .pointer (some ⟨q, 2, none⟩)) rfl (by kernel_rfl) (by kernel_rfl) (by kernel_rfl) (fun _ _ _ h => h) (Or.inl ⟨by rfl, by intro w hSw; clear hSw; go_simp⟩) trivial ?_
          try simp only [Act.put, List.setIfInBounds_toArray, List.set_cons_zero, List.set_cons_succ]
          refine wpAnyH_ready (rs := [1, 4]) (by kernel_rfl) (by simp) ?_
          refine AllReadyH.cons (o := { dst := some 38, op := .load 3 (.tmp 37), type := 3, pos := "outright.go:112", after := #[{ on := 0, ground := .data }], guard := none }) rfl (fun K hK => ?_) (AllReadyH.cons (o := { dst := some 41, op := .load 3 (.tmp 40), type := 3, pos := "outright.go:112", after := #[{ on := 3, ground := .data }], guard := none }) rfl (fun K hK => ?_) AllReadyH.nil)
          · skip
            go_simp
            refine hK.out _ _ trivial (fun _ => ?_)
            clear hK K
            try simp only [Act.put, List.setIfInBounds_toArray, List.set_cons_zero, List.set_cons_succ]
            refine wpAnyH_ready (rs := [2, 4]) (by kernel_rfl) (by simp) ?_
            refine AllReadyH.cons (o := { dst := some 39, op := .call { callee := .value (.func 20), args := #[.tmp 38, .const (Value.int IntKind.i64 6)], argTypes := #[3, 3] }, type := 3, pos := "outright.go:112", after := #[{ on := 1, ground := .data }], guard := none }) rfl (fun K hK => ?_) (AllReadyH.cons (o := { dst := some 41, op := .load 3 (.tmp 40), type := 3, pos := "outright.go:112", after := #[{ on := 3, ground := .data }], guard := none }) rfl (fun K hK => ?_) AllReadyH.nil)
            · skip
              go_simp
              refine (P1.out _).mono ?_
              rintro e wp ⟨rfl, rfl⟩
              go_wp2_with fail
              refine hK.out _ _ trivial (fun _ => ?_)
              clear hK K
              try simp only [Act.put, List.setIfInBounds_toArray, List.set_cons_zero, List.set_cons_succ]
              refine wpAnyH_ready (rs := [4]) (by kernel_rfl) (by simp) ?_
              refine AllReadyH.cons (o := { dst := some 41, op := .load 3 (.tmp 40), type := 3, pos := "outright.go:112", after := #[{ on := 3, ground := .data }], guard := none }) rfl (fun K hK => ?_) AllReadyH.nil
              go_simp
              refine hK.out _ _ trivial (fun _ => ?_)
              clear hK K
              try simp only [Act.put, List.setIfInBounds_toArray, List.set_cons_zero, List.set_cons_succ]
              refine wpAnyH_take (i := 6) (oi := { dst := some 43, op := .fieldAddr 33 (.tmp 8) 1, type := 0, pos := "outright.go:112", after := #[{ on := 0, ground := .phase }, { on := 1, ground := .phase }, { on := 2, ground := .phase }, { on := 3, ground := .phase }, { on := 4, ground := .phase }, { on := 5, ground := .textOnly .lateStoresUnsure }], guard := none }) (v := .pointer (some ⟨q, 1, none⟩)) rfl (by kernel_rfl) (by kernel_rfl) (by kernel_rfl) (fun _ _ _ h => h) (Or.inl ⟨by rfl, by intro w hSw; clear hSw; go_simp⟩) trivial ?_
              try simp only [Act.put, List.setIfInBounds_toArray, List.set_cons_zero, List.set_cons_succ]
              refine wpAnyH_ready (rs := [5]) (by kernel_rfl) (by simp) ?_
              refine AllReadyH.cons (o := { dst := some 42, op := .call { callee := .value (.func 20), args := #[.tmp 41, .const (Value.int IntKind.i64 6)], argTypes := #[3, 3] }, type := 3, pos := "outright.go:112", after := #[{ on := 4, ground := .data }, { on := 2, ground := .chain }], guard := none }) rfl (fun K hK => ?_) AllReadyH.nil
              go_simp
              refine (P2.out _).mono ?_
              rintro e wp ⟨rfl, rfl⟩
              go_wp2_with fail
              refine hK.out _ _ trivial (fun _ => ?_)
              clear hK K
              try simp only [Act.put, List.setIfInBounds_toArray, List.set_cons_zero, List.set_cons_succ]
              refine wpAnyH_ready (rs := [7]) (by kernel_rfl) (by simp) ?_
              refine AllReadyH.cons (o := { dst := none, op := .store 3 (.tmp 43) (.tmp 39), type := 0, pos := "outright.go:112", after := #[{ on := 6, ground := .data }, { on := 2, ground := .data }, { on := 5, ground := .chain }, { on := 0, ground := .phase }, { on := 1, ground := .phase }, { on := 2, ground := .phase }, { on := 3, ground := .phase }, { on := 4, ground := .phase }, { on := 5, ground := .textOnly .lateStoresUnsure }], guard := none }) rfl (fun K hK => ?_) AllReadyH.nil
              go_simp
              refine hK.out _ _ trivial (fun _ => ?_)
              clear hK K
              try simp only [Act.put, List.setIfInBounds_toArray, List.set_cons_zero, List.set_cons_succ]
              refine wpAnyH_take (i := 8) (oi := { dst := some 44, op := .fieldAddr 33 (.tmp 8) 2, type := 0, pos := "outright.go:112", after := #[{ on := 0, ground := .phase }, { on := 1, ground := .phase }, { on := 2, ground := .phase }, { on := 3, ground := .phase }, { on := 4, ground := .phase }, { on := 5, ground := .phase }, { on := 6, ground := .phase }, { on := 7, ground := .phase }], guard := none }) (v := .pointer (some ⟨q, 2, none⟩)) rfl (by kernel_rfl) (by kernel_rfl) (by kernel_rfl) (fun _ _ _ h => h) (Or.inl ⟨by rfl, by intro w hSw; clear hSw; go_simp⟩) trivial ?_
              try simp only [Act.put, List.setIfInBounds_toArray, List.set_cons_zero, List.set_cons_succ]
              refine wpAnyH_ready (rs := [9]) (by kernel_rfl) (by simp) ?_
              refine AllReadyH.cons (o := { dst := none, op := .store 3 (.tmp 44) (.tmp 42), type := 0, pos := "outright.go:112", after := #[{ on := 8, ground := .data }, { on := 5, ground := .data }, { on := 7, ground := .chain }, { on := 0, ground := .phase }, { on := 1, ground := .phase }, { on := 2, ground := .phase }, { on := 3, ground := .phase }, { on := 4, ground := .phase }, { on := 5, ground := .phase }, { on := 6, ground := .phase }, { on := 7, ground := .phase }], guard := none }) rfl (fun K hK => ?_) AllReadyH.nil
              go_simp
              refine hK.out _ _ trivial (fun _ => ?_)
              clear hK K
              try simp only [Act.put, List.setIfInBounds_toArray, List.set_cons_zero, List.set_cons_succ]
              refine wpAnyH_done (by kernel_rfl) ?_ _
              go_wp2_with fail
              go_meet
              exact ⟨rfl, Lib.hid FT.out⟩
            · skip
              go_simp
              refine hK.out _ _ trivial (fun _ => ?_)
              clear hK K
              try simp only [Act.put, List.setIfInBounds_toArray, List.set_cons_zero, List.set_cons_succ]
              refine wpAnyH_ready (rs := [2]) (by kernel_rfl) (by simp) ?_
              refine AllReadyH.cons (o := { dst := some 39, op := .call { callee := .value (.func 20), args := #[.tmp 38, .const (Value.int IntKind.i64 6)], argTypes := #[3, 3] }, type := 3, pos := "outright.go:112", after := #[{ on := 1, ground := .data }], guard := none }) rfl (fun K hK => ?_) AllReadyH.nil
              go_simp
              refine (P1.out _).mono ?_
              rintro e wp ⟨rfl, rfl⟩
              go_wp2_with fail
              refine hK.out _ _ trivial (fun _ => ?_)
              clear hK K
              try simp only [Act.put, List.setIfInBounds_toArray, List.set_cons_zero, List.set_cons_succ]
              refine wpAnyH_take (i := 6) (oi := { dst := some 43, op := .fieldAddr 33 (.tmp 8) 1, type := 0, pos := "outright.go:112", after := #[{ on := 0, ground := .phase }, { on := 1, ground := .phase }, { on := 2, ground := .phase }, { on := 3, ground := .phase }, { on := 4, ground := .phase }, { on := 5, ground := .textOnly .lateStoresUnsure }], guard := none }) (v := .pointer (some ⟨q, 1, none⟩)) rfl (by kernel_rfl) (by kernel_rfl) (by kernel_rfl) (fun _ _ _ h => h) (Or.inl ⟨by rfl, by intro w hSw; clear hSw; go_simp⟩) trivial ?_
              try simp only [Act.put, List.setIfInBounds_toArray, List.set_cons_zero, List.set_cons_succ]
              refine wpAnyH_ready (rs := [5]) (by kernel_rfl) (by simp) ?_
              refine AllReadyH.cons (o := { dst := some 42, op := .call { callee := .value (.func 20), args := #[.tmp 41, .const (Value.int IntKind.i64 6)], argTypes := #[3, 3] }, type := 3, pos := "outright.go:112", after := #[{ on := 4, ground := .data }, { on := 2, ground := .chain }], guard := none }) rfl (fun K hK => ?_) AllReadyH.nil
              go_simp
              refine (P2.out _).mono ?_
              rintro e wp ⟨rfl, rfl⟩
              go_wp2_with fail
              refine hK.out _ _ trivial (fun _ => ?_)
              clear hK K
              try simp only [Act.put, List.setIfInBounds_toArray, List.set_cons_zero, List.set_cons_succ]
              refine wpAnyH_ready (rs := [7]) (by kernel_rfl) (by simp) ?_
              refine AllReadyH.cons (o := { dst := none, op := .store 3 (.tmp 43) (.tmp 39), type := 0, pos := "outright.go:112", after := #[{ on := 6, ground := .data }, { on := 2, ground := .data }, { on := 5, ground := .chain }, { on := 0, ground := .phase }, { on := 1, ground := .phase }, { on := 2, ground := .phase }, { on := 3, ground := .phase }, { on := 4, ground := .phase }, { on := 5, ground := .textOnly .lateStoresUnsure }], guard := none }) rfl (fun K hK => ?_) AllReadyH.nil
              go_simp
              refine hK.out _ _ trivial (fun _ => ?_)
              clear hK K
              try simp only [Act.put, List.setIfInBounds_toArray, List.set_cons_zero, List.set_cons_succ]
              refine wpAnyH_take (i := 8) (oi := { dst := some 44, op := .fieldAddr 33 (.tmp 8) 2, type := 0, pos := "outright.go:112", after := #[{ on := 0, ground := .phase }, { on := 1, ground := .phase }, { on := 2, ground := .phase }, { on := 3, ground := .phase }, { on := 4, ground := .phase }, { on := 5, ground := .phase }, { on := 6, ground := .phase }, { on := 7, ground := .phase }], guard := none }) (v := .pointer (some ⟨q, 2, none⟩)) rfl (by kernel_rfl) (by kernel_rfl) (by kernel_rfl) (fun _ _ _ h => h) (Or.inl ⟨by rfl, by intro w hSw; clear hSw; go_simp⟩) trivial ?_
              try simp only [Act.put, List.setIfInBounds_toArray, List.set_cons_zero, List.set_cons_succ]
              refine wpAnyH_ready (rs := [9]) (by kernel_rfl) (by simp) ?_
              refine AllReadyH.cons (o := { dst := none, op := .store 3 (.tmp 44) (.tmp 42), type := 0, pos := "outright.go:112", after := #[{ on := 8, ground := .data }, { on := 5, ground := .data }, { on := 7, ground := .chain }, { on := 0, ground := .phase }, { on := 1, ground := .phase }, { on := 2, ground := .phase }, { on := 3, ground := .phase }, { on := 4, ground := .phase }, { on := 5, ground := .phase }, { on := 6, ground := .phase }, { on := 7, ground := .phase }], guard := none }) rfl (fun K hK => ?_) AllReadyH.nil
              go_simp
              refine hK.out _ _ trivial (fun _ => ?_)
              clear hK K
              try simp only [Act.put, List.setIfInBounds_toArray, List.set_cons_zero, List.set_cons_succ]
              refine wpAnyH_done (by kernel_rfl) ?_ _
              go_wp2_with fail
              go_meet
              exact ⟨rfl, Lib.hid FT.out⟩
          · skip
            go_simp
            refine hK.out _ _ trivial (fun _ => ?_)
            clear hK K
            try simp only [Act.put, List.setIfInBounds_toArray, List.set_cons_zero, List.set_cons_succ]
            refine wpAnyH_ready (rs := [1]) (by kernel_rfl) (by simp) ?_
            refine AllReadyH.cons (o := { dst := some 38, op := .load 3 (.tmp 37), type := 3, pos := "outright.go:112", after := #[{ on := 0, ground := .data }], guard := none }) rfl (fun K hK => ?_) AllReadyH.nil
            go_simp
            refine hK.out _ _ trivial (fun _ => ?_)
            clear hK K
            try simp only [Act.put, List.setIfInBounds_toArray, List.set_cons_zero, List.set_cons_succ]
            refine wpAnyH_ready (rs := [2]) (by kernel_rfl) (by simp) ?_
            refine AllReadyH.cons (o := { dst := some 39, op := .call { callee := .value (.func 20), args := #[.tmp 38, .const (Value.int IntKind.i64 6)], argTypes := #[3, 3] }, type := 3, pos := "outright.go:112", after := #[{ on := 1, ground := .data }], guard := none }) rfl (fun K hK => ?_) AllReadyH.nil
            go_simp
            refine (P1.out _).mono ?_
            rintro e wp ⟨rfl, rfl⟩
            go_wp2_with fail
            refine hK.out _ _ trivial (fun _ => ?_)
            clear hK K
            try simp only [Act.put, List.setIfInBounds_toArray, List.set_cons_zero, List.set_cons_succ]
            refine wpAnyH_take (i := 6) (oi := { dst := some 43, op := .fieldAddr 33 (.tmp 8) 1, type := 0, pos := "outright.go:112", after := #[{ on := 0, ground := .phase }, { on := 1, ground := .phase }, { on := 2, ground := .phase }, { on := 3, ground := .phase }, { on := 4, ground := .phase }, { on := 5, ground := .textOnly .lateStoresUnsure }], guard := none }) (v := .pointer (some ⟨q, 1, none⟩)) rfl (by kernel_rfl) (by kernel_rfl) (by kernel_rfl) (fun _ _ _ h => h) (Or.inl ⟨by rfl, by intro w hSw; clear hSw; go_simp⟩) trivial ?_
            try simp only [Act.put, List.setIfInBounds_toArray, List.set_cons_zero, List.set_cons_succ]
            refine wpAnyH_ready (rs := [5]) (by kernel_rfl) (by simp) ?_
            refine AllReadyH.cons (o := { dst := some 42, op := .call { callee := .value (.func 20), args := #[.tmp 41, .const (Value.int IntKind.i64 6)], argTypes := #[3, 3] }, type := 3, pos := "outright.go:112", after := #[{ on := 4, ground := .data }, { on := 2, ground := .chain }], guard := none }) rfl (fun K hK => ?_) AllReadyH.nil
            go_simp
            refine (P2.out _).mono ?_
            rintro e wp ⟨rfl, rfl⟩
            go_wp2_with fail
            refine hK.out _ _ trivial (fun _ => ?_)
            clear hK K
            try simp only [Act.put, List.setIfInBounds_toArray, List.set_cons_zero, List.set_cons_succ]
            refine wpAnyH_ready (rs := [7]) (by kernel_rfl) (by simp) ?_
            refine AllReadyH.cons (o := { dst := none, op := .store 3 (.tmp 43) (.tmp 39), type := 0, pos := "outright.go:112", after := #[{ on := 6, ground := .data }, { on := 2, ground := .data }, { on := 5, ground := .chain }, { on := 0, ground := .phase }, { on := 1, ground := .phase }, { on := 2, ground := .phase }, { on := 3, ground := .phase }, { on := 4, ground := .phase }, { on := 5, ground := .textOnly .lateStoresUnsure }], guard := none }) rfl (fun K hK => ?_) AllReadyH.nil
            go_simp
            refine hK.out _ _ trivial (fun _ => ?_)
            clear hK K
            try simp only [Act.put, List.setIfInBounds_toArray, List.set_cons_zero, List.set_cons_succ]
            refine wpAnyH_take (i := 8) (oi := { dst := some 44, op := .fieldAddr 33 (.tmp 8) 2, type := 0, pos := "outright.go:112", after := #[{ on := 0, ground := .phase }, { on := 1, ground := .phase }, { on := 2, ground := .phase }, { on := 3, ground := .phase }, { on := 4, ground := .phase }, { on := 5, ground := .phase }, { on := 6, ground := .phase }, { on := 7, ground := .phase }], guard := none }) (v := .pointer (some ⟨q, 2, none⟩)) rfl (by kernel_rfl) (by kernel_rfl) (by kernel_rfl) (fun _ _ _ h => h) (Or.inl ⟨by rfl, by intro w hSw; clear hSw; go_simp⟩) trivial ?_
            try simp only [Act.put, List.setIfInBounds_toArray, List.set_cons_zero, List.set_cons_succ]
            refine wpAnyH_ready (rs := [9]) (by kernel_rfl) (by simp) ?_
            refine AllReadyH.cons (o := { dst := none, op := .store 3 (.tmp 44) (.tmp 42), type := 0, pos := "outright.go:112", after := #[{ on := 8, ground := .data }, { on := 5, ground := .data }, { on := 7, ground := .chain }, { on := 0, ground := .phase }, { on := 1, ground := .phase }, { on := 2, ground := .phase }, { on := 3, ground := .phase }, { on := 4, ground := .phase }, { on := 5, ground := .phase }, { on := 6, ground := .phase }, { on := 7, ground := .phase }], guard := none }) rfl (fun K hK => ?_) AllReadyH.nil
            go_simp
            refine hK.out _ _ trivial (fun _ => ?_)
            clear hK K
            try simp only [Act.put, List.setIfInBounds_toArray, List.set_cons_zero, List.set_cons_succ]
            refine wpAnyH_done (by kernel_rfl) ?_ _
            go_wp2_with fail
            go_meet
            exact ⟨rfl, Lib.hid FT.out⟩
        case rest =>
          obtain ⟨rfl, HX⟩ := hcut
          clear bq hbW hqW
          have HKX := Lib.hid (HK.out.kept (bad := fun _ => False) HX.out.2)
          have c0 := HX.out.1.cell 0 rfl
          have DP := Lib.hid (depthN HKX.out.nwj (e : Int) (by rw [HE.out]))
          have he64 : (e : Int) ≤ 64 := by have := HL.out; omega
          by_cases h67 : a = 6 ∨ a = 7
          · rcases h67 with rfl | rfl
            all_goals
              go_wp2
              go_roundw
              case rel =>
                first
                  | exact ⟨m + 1, zs, L, by omega, by go_num, by rw [HE.out]; exact HL.out, HZ6.out, _, _, _, _, _, HKX.out⟩
                  | exact ⟨m + 1, by omega, by go_num, zs, L, by rw [HE.out]; exact HL.out, HZ6.out, _, _, _, _, _, HKX.out⟩
              case measure => simp [iv]; omega
          · have ha6 : ¬ a = 6 := fun h => h67 (.inl h)
            have ha7 : ¬ a = 7 := fun h => h67 (.inr h)
            clear h67
            have ha6b : (a == 6) = false := by simp [ha6]
            have ha7b : (a == 7) = false := by simp [ha7]
            by_cases ha4 : a = 4
            · subst ha4
              clear ha6 ha7 ha6b ha7b
              by_cases hlt : e < 64
              · have hlti : (e : Int) < 64 := by omega
                have CE := Lib.hid (cellsK HKX.out.nwj)
                go_wp2_with fail
                refine DP.out.mono ?_
                rintro e1 wd ⟨rfl, rfl⟩
                go_wp2_with fail
                refine CE.out.mono ?_
                rintro e1 w4 ⟨B, cB, rfl, hiB, hbB, hnB⟩
                rw [HZ6.out] at hiB ⊢
                obtain ⟨W5, hW5⟩ : ∃ W5, w4.alloc (.cells #[.slice B 6 cB] 45) = W5 := ⟨_, rfl⟩
                have hb5 : Bel wc W5 := by rw [← hW5]; exact hbB.alloc _
                have hi5 : Ints .u64 W5 B 6 zs := by rw [← hW5]; exact hiB.bel (bel_alloc _ _)
                have hn5 : ∀ x, B = some x → wc.heap.size ≤ x.block ∧ x.block < W5.heap.size := fun x hx => ⟨hnB x hx, by
                  obtain ⟨b9, o9, e9, hlt9, _⟩ := hi5.2 (by decide)
                  rw [hx] at e9
                  cases e9
                  exact hlt9⟩
                have ROW := Lib.hid (show W5.ownsRow w.heap.size 45 1 (.slice Av e cv) e xs.reverse by have := owns_bel HKX.out.row hb5; rw [List.length_map, HE.out] at this; exact this)
                have CT := Lib.hid (show W5.cell? ((⟨w4.heap.size, 0, none⟩ : Addr).add 0) = some (.slice B 6 cB) by rw [← hW5]; simp [Addr.add])
                have SZ := Lib.hid (show w.heap.size ≤ W5.heap.size from Below.size (HKX.out.bel.trans hb5))
                have H5 := Lib.hid (And.intro hb5 (And.intro hi5 hn5))
                have HW5 := Lib.hid hW5
                have he1000 : e ≤ 1000 := by omega
                clear hiB hbB hnB hb5 hi5 hn5 hW5 c0
                go_upto_region 18 with (first | (at_builtin; rw [HW5.out]; refine wpList_append_s rfl _ _ rfl w.heap.size _ e _ rfl ROW.out ⟨w4.heap.size, 0, none⟩ (.slice B 6 cB) rfl CT.out rfl he1000 SZ.out ?_; intro v' w6 ho hg hb6; have HG := Lib.hid (And.intro ho (And.intro hg hb6)); clear ho hg hb6; have c0 := ((HX.out.1.bel H5.out.1).kep (Kep.grown (S := fun b => (Value.slice Av e cv).ownBlock = some b) (Kep.refl _ _) HG.out.2.1 (fun k e _ => e)) (fun h => NQ.out.2.2 q h rfl)).cell 0 rfl))
                have HBQ := Lib.hid ((HX.out.1.bel H5.out.1).kep (Kep.grown (S := fun b => (Value.slice Av e cv).ownBlock = some b) (Kep.refl _ _) HG.out.2.1 (fun k e _ => e)) (fun h => NQ.out.2.2 q h rfl))
                have HK2 := Lib.hid (HKX.out.push (v' := v') H5.out.1 H5.out.2.1 H5.out.2.2 (by rw [List.length_map, HE.out]; exact HG.out.1) HG.out.2.1 HG.out.2.2)
                rw [← beg_lt (i := i % 6) (k := k % 6) (u := u) (by rw [HE.out]; exact hlt)] at HK2
                obtain ⟨A2, c2v, hv2⟩ := HK2.out.shape
                obtain ⟨e2, he2⟩ : ∃ e2, ((actL zs L 4 (i % 6) (k % 6) u).map Prod.fst).length = e2 := ⟨_, rfl⟩
                rw [he2] at hv2
                subst hv2
                obtain ⟨xs2, hxs⟩ : ∃ xs2, (Value.slice B 6 cB :: xs) = xs2 := ⟨_, rfl⟩
                rw [hxs] at HK2
                clear hxs he2
                have DX := Lib.hid (doesX HK2.out (by rw [HE.out]; exact HL.out) 4 (i % 6) (k % 6) u HBB.out.six)
                have AL := Lib.hid (actL_len zs L 4 (i % 6) (k % 6) u (by rw [HE.out]; exact HL.out))
                have c0 := HBQ.out.cell 0 rfl
                have c1 := HBQ.out.cell 1 rfl
                have c2 := HBQ.out.cell 2 rfl
                have c3 := HBQ.out.cell 3 rfl
                go_wp2_with fail
                refine DX.out.mono ?_
                rintro e3 w7 ⟨rfl, k7, M', I', h7⟩
                clear c0 c1 c2 c3
                have bq7 := HBQ.out.kep k7 NQ.out.1
                have c0 := bq7.cell 0 rfl
                have hz : actZ zs L 4 (i % 6) (k % 6) u = zs := rfl
                rw [hz] at h7
                have HK3 := Lib.hid h7
                have HZL := Lib.hid HZ6.out
                clear h7 k7 bq7 hz
                obtain ⟨zz, hzz⟩ : ∃ zz, zs = zz := ⟨_, rfl⟩
                obtain ⟨LL, hLL⟩ : ∃ LL, actL zs L 4 (i % 6) (k % 6) u = LL := ⟨_, rfl⟩
                rw [hLL] at HK3 AL
                rw [show KX w w7 M' I' M2 I2 pj pk zs zs LL (.slice A2 e2 c2v) xs2 (LL.map Prod.fst) = KX w w7 M' I' M2 I2 pj pk zz zz LL (.slice A2 e2 c2v) xs2 (LL.map Prod.fst) by rw [hzz]] at HK3
                rw [hzz] at HZL
                clear hzz
                have HE2 := Lib.hid (show LL.length = e2 by
                  obtain ⟨A3, c3, h3⟩ := HK3.out.shape
                  injection h3 with _ h3 _
                  rw [List.length_map] at h3
                  exact h3.symm)
                clear hLL
                have CJ := Lib.hid (cellsK HK3.out.nwj)
                go_wp2_with fail
                refine CJ.out.mono ?_
                rintro e5 w9 ⟨B1, cB1, rfl, hi1, hb1, _⟩
                rw [HZL.out] at hi1 ⊢
                have HB9 := Lib.hid hb1
                have HI1 := Lib.hid hi1
                have CK := Lib.hid (cellsK ((HK3.out.kept (bad := fun _ => False) HB9.out).nwk))
                clear hi1 hb1
                go_wp2_with fail
                refine CK.out.mono ?_
                rintro e6 w10 ⟨B2, cB2, rfl, hi2, hb2, _⟩
                rw [HZL.out] at hi2 ⊢
                have SW := Lib.hid (sameW B1 B2 6 cB1 6 cB2 zz zz w10 (HI1.out.bel hb2) hi2 (by decide) (by decide))
                have HB10 := Lib.hid (HB9.out.trans hb2)
                have HD := Lib.hid (show decide (zz = zz) = true from decide_eq_true rfl)
                clear hi2 hb2
                go_wp2_with fail
                refine SW.out.mono ?_
                rintro e7 w11 ⟨rfl, hb11⟩
                rw [HD.out]
                have HK4 := Lib.hid (HK3.out.kept (bad := fun _ => False) (HB10.out.trans hb11))
                have DP2 := Lib.hid (depthN HK4.out.nwj (e2 : Int) (by rw [HE2.out]))
                clear hb11
                go_wp2_with fail
                refine DP2.out.mono ?_
                rintro e8 w12 ⟨rfl, rfl⟩
                by_cases he0 : e2 = 0
                · subst he0
                  go_wp2
                  go_roundw
                  case rel =>
                    first
                      | exact ⟨m + 1, zz, LL, by omega, by go_num, AL.out, HZL.out, _, _, _, _, _, HK4.out⟩
                      | exact ⟨m + 1, by omega, by go_num, zz, LL, AL.out, HZL.out, _, _, _, _, _, HK4.out⟩
                  case measure => simp [iv]; omega
                · have he0i : (0 : Int) < e2 := by omega
                  obtain ⟨lv, L1, hcons⟩ : ∃ lv L1, LL = lv :: L1 := by
                    cases LL with
                    | nil => exact absurd HE2.out.symm he0
                    | cons x y => exact ⟨x, y, rfl⟩
                  subst hcons
                  have CJ2 := Lib.hid (cellsK HK4.out.nwj)
                  go_wp2_with fail
                  refine CJ2.out.mono ?_
                  rintro e9 w13 ⟨B3, cB3, rfl, hi3, hb13, hn3⟩
                  rw [HZL.out] at hi3 ⊢
                  have HB13 := Lib.hid hb13
                  have HI3 := Lib.hid hi3
                  have TJ := Lib.hid (touchedN ((HK4.out.kept (bad := fun _ => False) HB13.out).nwj) (tchZ zz.length (lv :: L1)) rfl)
                  clear hi3 hb13 hn3
                  go_wp2_with fail
                  refine TJ.out.mono ?_
                  rintro e10 w14 ⟨T4, cT4, rfl, hi4, hb14⟩
                  rw [HZL.out] at hi4 ⊢
                  obtain ⟨ts, hts⟩ : ∃ ts, tchZ 6 (lv :: L1) = ts := ⟨_, rfl⟩
                  rw [hts] at hi4 ⊢
                  have HTS := Lib.hid hts
                  have HT6 := Lib.hid (show ts.length ≤ 4096 by rw [← hts]; show (namedZ 6 lv.2).length ≤ 4096; unfold namedZ; rw [List.length_map]; exact Nat.le_trans (named_len 6 lv.2) (by decide))
                  have HK5 := Lib.hid (HK4.out.kept (bad := fun _ => False) (HB13.out.trans hb14))
                  have HI4 := Lib.hid hi4
                  have HI5 := Lib.hid (HI3.out.bel hb14)
                  obtain ⟨nt, hnt⟩ : ∃ nt, ts.length = nt := ⟨_, rfl⟩
                  rw [hnt] at HI4 HT6 ⊢
                  have HE3 := Lib.hid (show L1.length + 1 = e2 from HE2.out)
                  obtain ⟨g5, cp5, B5, cB5, hv5, hc5, hi5, _⟩ := HK5.out.at (e2 - 1) (by rw [List.length_map, List.length_cons, HE3.out]; omega)
                  injection hv5 with hv5 hv6 hv7
                  cases hv5
                  cases hv7
                  have HW5b := Lib.hid (show Ints .u64 w14 B5 6 lv.1 by
                    have : ((lv :: L1).map Prod.fst).reverse.getD (e2 - 1) [] = lv.1 := by
                      rw [List.getD_eq_getElem?_getD, List.getElem?_reverse (by rw [List.length_map, List.length_cons, HE3.out]; omega), List.length_map, List.length_cons, HE3.out]
                      rw [show e2 - 1 - (e2 - 1) = 0 by omega]
                      rfl
                    rw [this] at hi5
                    exact hi5)
                  have HC5 := Lib.hid hc5
                  clear hts hi4 hb14 hnt hv6 hi5 hc5
                  go_wp2_with fail
                  go_loopw [12] (fun s wq => ∃ j : Nat, j ≤ 6 ∧ s = .int .i64 j ∧ Bel w14 wq) (fun s _ => 6 - (iv s).toNat)
                  case atStart => exact ⟨0, Nat.zero_le _, rfl, Bel.refl _⟩
                  case round =>
                    obtain ⟨j, hj6, rfl, hbq⟩ := hrel
                    have HBQ2 := Lib.hid hbq
                    clear hbq
                    by_cases hj : j < 6
                    · have hji : (j : Int) < 6 := by omega
                      have AM := Lib.hid (fun W (hW : Bel wr W) => among T4 nt cT4 ts (j : Int) W (HI4.out.bel (HBQ2.out.trans hW)) HT6.out)
                      by_cases hin : (j : Int) ∈ ts
                      · have HD2 := Lib.hid (show decide ((j : Int) ∈ ts) = true from decide_eq_true hin)
                        have AMB := Lib.hid (fun W (hW : Bel wr W) => show Calls Try.prog 35 #[.slice T4 nt cT4, .int .i64 j] W fun e w' => e = .returned (.bool true) ∧ w' = W by rw [← HD2.out]; exact AM.out W hW)
                        clear hin
                        go_upto_region 26 with fail
                        go_quiet (first | (go_at_call 35; refine Calls.quiet_of_same (AMB.out _ ?_); exact (Bel.refl _).drewN _))
                        go_wp2
                        go_roundw
                        case rel => exact ⟨j + 1, by omega, by go_num, by first | exact HBQ2.out | exact HBQ2.out.drew | exact HBQ2.out.drewN _⟩
                        case measure => simp [iv]; omega
                      · have HD2 := Lib.hid (show decide ((j : Int) ∈ ts) = false from decide_eq_false hin)
                        have hst : lv.2 j = false := by
                          cases ht : lv.2 j with
                          | false => rfl
                          | true =>
                            exact absurd (show (j : Int) ∈ ts by rw [← HTS.out]; exact namedZ_mem.2 ⟨j, rfl, hj, ht⟩) hin
                        have hval := HK5.out.j.stay j hst
                        obtain ⟨g6, o6, rfl, _, c6⟩ := (HI5.out.bel HBQ2.out).cell hj
                        obtain ⟨g7, o7, rfl, _, c7⟩ := (HW5b.out.bel HBQ2.out).cell hj
                        have c8 := cell_bel HC5.out HBQ2.out
                        rw [← hval] at c7
                        obtain ⟨y, hy⟩ : ∃ y, zz.getD j 0 = y := ⟨_, rfl⟩
                        rw [hy] at c6 c7
                        have he2w : IntKind.i64.wrap ((e2 : Int) - 1) = (e2 : Int) - 1 := IntWalk.i64_in _ (by have := HK5.out.nwj.lens.2.2.2; rw [List.length_cons, HE3.out] at this; omega)
                        have he2n : ((e2 : Int) - 1).toNat = e2 - 1 := by omega
                        have AMB := Lib.hid (fun W (hW : Bel wr W) => show Calls Try.prog 35 #[.slice T4 nt cT4, .int .i64 j] W fun e w' => e = .returned (.bool false) ∧ w' = W by rw [← HD2.out]; exact AM.out W hW)
                        clear hin hst hval hy
                        go_upto_region 26 with fail
                        go_quiet (first | (go_at_call 35; refine Calls.quiet_of_same (AMB.out _ ?_); exact (Bel.refl _).drewN _))
                        go_wp2
                        go_roundw
                        case rel => exact ⟨j + 1, by omega, by go_num, by first | exact HBQ2.out | exact HBQ2.out.drew | exact HBQ2.out.drewN _⟩
                        case measure => simp [iv]; omega
                    · obtain rfl : j = 6 := by omega
                      go_wp2
                      go_roundw
                      case rel =>
                        first
                          | exact ⟨m + 1, zz, _, by omega, by go_num, AL.out, HZL.out, _, _, _, _, _, HK5.out.kept (bad := fun _ => False) HBQ2.out⟩
                          | exact ⟨m + 1, by omega, by go_num, zz, _, AL.out, HZL.out, _, _, _, _, _, HK5.out.kept (bad := fun _ => False) HBQ2.out⟩
                      case measure => simp [iv]; omega
              · have hlti : (64 : Int) ≤ e := by omega
                obtain ⟨A2, hA2⟩ : ∃ A2, Av = A2 := ⟨_, rfl⟩
                obtain ⟨e2, he2⟩ : ∃ e2, e = e2 := ⟨_, rfl⟩
                obtain ⟨c2v, hc2⟩ : ∃ c2v, cv = c2v := ⟨_, rfl⟩
                have HK2 := Lib.hid (show KX w wc M I M2 I2 pj pk zs zs L (.slice A2 e2 c2v) xs ((actL zs L 4 (i % 6) (k % 6) u).map Prod.fst) by rw [beg_ge (by rw [HE.out]; exact hlt), ← hA2, ← he2, ← hc2]; exact HKX.out)
                obtain ⟨xs2, hxs⟩ : ∃ xs2, xs = xs2 := ⟨_, rfl⟩
                rw [hxs] at HK2
                rw [hA2, he2, hc2]
                clear hA2 hc2 hxs
                have HBQ := Lib.hid HX.out.1
                go_wp2_with fail
                refine DP.out.mono ?_
                rintro e1 wd ⟨rfl, rfl⟩
                have DX := Lib.hid (doesX HK2.out (by rw [HE.out]; exact HL.out) 4 (i % 6) (k % 6) u HBB.out.six)
                have AL := Lib.hid (actL_len zs L 4 (i % 6) (k % 6) u (by rw [HE.out]; exact HL.out))
                have c0 := HBQ.out.cell 0 rfl
                have c1 := HBQ.out.cell 1 rfl
                have c2 := HBQ.out.cell 2 rfl
                have c3 := HBQ.out.cell 3 rfl
                go_wp2_with fail
                refine DX.out.mono ?_
                rintro e3 w7 ⟨rfl, k7, M', I', h7⟩
                clear c0 c1 c2 c3
                have bq7 := HBQ.out.kep k7 NQ.out.1
                have c0 := bq7.cell 0 rfl
                have hz : actZ zs L 4 (i % 6) (k % 6) u = zs := rfl
                rw [hz] at h7
                have HK3 := Lib.hid h7
                have HZL := Lib.hid HZ6.out
                clear h7 k7 bq7 hz
                obtain ⟨zz, hzz⟩ : ∃ zz, zs = zz := ⟨_, rfl⟩
                obtain ⟨LL, hLL⟩ : ∃ LL, actL zs L 4 (i % 6) (k % 6) u = LL := ⟨_, rfl⟩
                rw [hLL] at HK3 AL
                rw [show KX w w7 M' I' M2 I2 pj pk zs zs LL (.slice A2 e2 c2v) xs2 (LL.map Prod.fst) = KX w w7 M' I' M2 I2 pj pk zz zz LL (.slice A2 e2 c2v) xs2 (LL.map Prod.fst) by rw [hzz]] at HK3
                rw [hzz] at HZL
                clear hzz
                have HE2 := Lib.hid (show LL.length = e2 by
                  obtain ⟨A3, c3, h3⟩ := HK3.out.shape
                  injection h3 with _ h3 _
                  rw [List.length_map] at h3
                  exact h3.symm)
                clear hLL
                have CJ := Lib.hid (cellsK HK3.out.nwj)
                go_wp2_with fail
                refine CJ.out.mono ?_
                rintro e5 w9 ⟨B1, cB1, rfl, hi1, hb1, _⟩
                rw [HZL.out] at hi1 ⊢
                have HB9 := Lib.hid hb1
                have HI1 := Lib.hid hi1
                have CK := Lib.hid (cellsK ((HK3.out.kept (bad := fun _ => False) HB9.out).nwk))
                clear hi1 hb1
                go_wp2_with fail
                refine CK.out.mono ?_
                rintro e6 w10 ⟨B2, cB2, rfl, hi2, hb2, _⟩
                rw [HZL.out] at hi2 ⊢
                have SW := Lib.hid (sameW B1 B2 6 cB1 6 cB2 zz zz w10 (HI1.out.bel hb2) hi2 (by decide) (by decide))
                have HB10 := Lib.hid (HB9.out.trans hb2)
                have HD := Lib.hid (show decide (zz = zz) = true from decide_eq_true rfl)
                clear hi2 hb2
                go_wp2_with fail
                refine SW.out.mono ?_
                rintro e7 w11 ⟨rfl, hb11⟩
                rw [HD.out]
                have HK4 := Lib.hid (HK3.out.kept (bad := fun _ => False) (HB10.out.trans hb11))
                have DP2 := Lib.hid (depthN HK4.out.nwj (e2 : Int) (by rw [HE2.out]))
                clear hb11
                go_wp2_with fail
                refine DP2.out.mono ?_
                rintro e8 w12 ⟨rfl, rfl⟩
                by_cases he0 : e2 = 0
                · subst he0
                  go_wp2
                  go_roundw
                  case rel =>
                    first
                      | exact ⟨m + 1, zz, LL, by omega, by go_num, AL.out, HZL.out, _, _, _, _, _, HK4.out⟩
                      | exact ⟨m + 1, by omega, by go_num, zz, LL, AL.out, HZL.out, _, _, _, _, _, HK4.out⟩
                  case measure => simp [iv]; omega
                · have he0i : (0 : Int) < e2 := by omega
                  obtain ⟨lv, L1, hcons⟩ : ∃ lv L1, LL = lv :: L1 := by
                    cases LL with
                    | nil => exact absurd HE2.out.symm he0
                    | cons x y => exact ⟨x, y, rfl⟩
                  subst hcons
                  have CJ2 := Lib.hid (cellsK HK4.out.nwj)
                  go_wp2_with fail
                  refine CJ2.out.mono ?_
                  rintro e9 w13 ⟨B3, cB3, rfl, hi3, hb13, hn3⟩
                  rw [HZL.out] at hi3 ⊢
                  have HB13 := Lib.hid hb13
                  have HI3 := Lib.hid hi3
                  have TJ := Lib.hid (touchedN ((HK4.out.kept (bad := fun _ => False) HB13.out).nwj) (tchZ zz.length (lv :: L1)) rfl)
                  clear hi3 hb13 hn3
                  go_wp2_with fail
                  refine TJ.out.mono ?_
                  rintro e10 w14 ⟨T4, cT4, rfl, hi4, hb14⟩
                  rw [HZL.out] at hi4 ⊢
                  obtain ⟨ts, hts⟩ : ∃ ts, tchZ 6 (lv :: L1) = ts := ⟨_, rfl⟩
                  rw [hts] at hi4 ⊢
                  have HTS := Lib.hid hts
                  have HT6 := Lib.hid (show ts.length ≤ 4096 by rw [← hts]; show (namedZ 6 lv.2).length ≤ 4096; unfold namedZ; rw [List.length_map]; exact Nat.le_trans (named_len 6 lv.2) (by decide))
                  have HK5 := Lib.hid (HK4.out.kept (bad := fun _ => False) (HB13.out.trans hb14))
                  have HI4 := Lib.hid hi4
                  have HI5 := Lib.hid (HI3.out.bel hb14)
                  obtain ⟨nt, hnt⟩ : ∃ nt, ts.length = nt := ⟨_, rfl⟩
                  rw [hnt] at HI4 HT6 ⊢
                  have HE3 := Lib.hid (show L1.length + 1 = e2 from HE2.out)
                  obtain ⟨g5, cp5, B5, cB5, hv5, hc5, hi5, _⟩ := HK5.out.at (e2 - 1) (by rw [List.length_map, List.length_cons, HE3.out]; omega)
                  injection hv5 with hv5 hv6 hv7
                  cases hv5
                  cases hv7
                  have HW5b := Lib.hid (show Ints .u64 w14 B5 6 lv.1 by
                    have : ((lv :: L1).map Prod.fst).reverse.getD (e2 - 1) [] = lv.1 := by
                      rw [List.getD_eq_getElem?_getD, List.getElem?_reverse (by rw [List.length_map, List.length_cons, HE3.out]; omega), List.length_map, List.length_cons, HE3.out]
                      rw [show e2 - 1 - (e2 - 1) = 0 by omega]
                      rfl
                    rw [this] at hi5
                    exact hi5)
                  have HC5 := Lib.hid hc5
                  clear hts hi4 hb14 hnt hv6 hi5 hc5
                  go_wp2_with fail
                  go_loopw [12] (fun s wq => ∃ j : Nat, j ≤ 6 ∧ s = .int .i64 j ∧ Bel w14 wq) (fun s _ => 6 - (iv s).toNat)
                  case atStart => exact ⟨0, Nat.zero_le _, rfl, Bel.refl _⟩
                  case round =>
                    obtain ⟨j, hj6, rfl, hbq⟩ := hrel
                    have HBQ2 := Lib.hid hbq
                    clear hbq
                    by_cases hj : j < 6
                    · have hji : (j : Int) < 6 := by omega
                      have AM := Lib.hid (fun W (hW : Bel wr W) => among T4 nt cT4 ts (j : Int) W (HI4.out.bel (HBQ2.out.trans hW)) HT6.out)
                      by_cases hin : (j : Int) ∈ ts
                      · have HD2 := Lib.hid (show decide ((j : Int) ∈ ts) = true from decide_eq_true hin)
                        have AMB := Lib.hid (fun W (hW : Bel wr W) => show Calls Try.prog 35 #[.slice T4 nt cT4, .int .i64 j] W fun e w' => e = .returned (.bool true) ∧ w' = W by rw [← HD2.out]; exact AM.out W hW)
                        clear hin
                        go_upto_region 26 with fail
                        go_quiet (first | (go_at_call 35; refine Calls.quiet_of_same (AMB.out _ ?_); exact (Bel.refl _).drewN _))
                        go_wp2
                        go_roundw
                        case rel => exact ⟨j + 1, by omega, by go_num, by first | exact HBQ2.out | exact HBQ2.out.drew | exact HBQ2.out.drewN _⟩
                        case measure => simp [iv]; omega
                      · have HD2 := Lib.hid (show decide ((j : Int) ∈ ts) = false from decide_eq_false hin)
                        have hst : lv.2 j = false := by
                          cases ht : lv.2 j with
                          | false => rfl
                          | true =>
                            exact absurd (show (j : Int) ∈ ts by rw [← HTS.out]; exact namedZ_mem.2 ⟨j, rfl, hj, ht⟩) hin
                        have hval := HK5.out.j.stay j hst
                        obtain ⟨g6, o6, rfl, _, c6⟩ := (HI5.out.bel HBQ2.out).cell hj
                        obtain ⟨g7, o7, rfl, _, c7⟩ := (HW5b.out.bel HBQ2.out).cell hj
                        have c8 := cell_bel HC5.out HBQ2.out
                        rw [← hval] at c7
                        obtain ⟨y, hy⟩ : ∃ y, zz.getD j 0 = y := ⟨_, rfl⟩
                        rw [hy] at c6 c7
                        have he2w : IntKind.i64.wrap ((e2 : Int) - 1) = (e2 : Int) - 1 := IntWalk.i64_in _ (by have := HK5.out.nwj.lens.2.2.2; rw [List.length_cons, HE3.out] at this; omega)
                        have he2n : ((e2 : Int) - 1).toNat = e2 - 1 := by omega
                        have AMB := Lib.hid (fun W (hW : Bel wr W) => show Calls Try.prog 35 #[.slice T4 nt cT4, .int .i64 j] W fun e w' => e = .returned (.bool false) ∧ w' = W by rw [← HD2.out]; exact AM.out W hW)
                        clear hin hst hval hy
                        go_upto_region 26 with fail
                        go_quiet (first | (go_at_call 35; refine Calls.quiet_of_same (AMB.out _ ?_); exact (Bel.refl _).drewN _))
                        go_wp2
                        go_roundw
                        case rel => exact ⟨j + 1, by omega, by go_num, by first | exact HBQ2.out | exact HBQ2.out.drew | exact HBQ2.out.drewN _⟩
                        case measure => simp [iv]; omega
                    · obtain rfl : j = 6 := by omega
                      go_wp2
                      go_roundw
                      case rel =>
                        first
                          | exact ⟨m + 1, zz, _, by omega, by go_num, AL.out, HZL.out, _, _, _, _, _, HK5.out.kept (bad := fun _ => False) HBQ2.out⟩
                          | exact ⟨m + 1, by omega, by go_num, zz, _, AL.out, HZL.out, _, _, _, _, _, HK5.out.kept (bad := fun _ => False) HBQ2.out⟩
                      case measure => simp [iv]; omega
            · have ha4b : (a == 4) = false := by simp [ha4]
              by_cases ha5 : a = 5
              · subst ha5
                clear ha6 ha7 ha6b ha7b ha4 ha4b
                by_cases he0 : e = 0
                · have he0i : (e : Int) ≤ 0 := by omega
                  obtain rfl : L = [] := List.eq_nil_of_length_eq_zero (HE.out.trans he0)
                  obtain ⟨A2, hA2⟩ : ∃ A2, Av = A2 := ⟨_, rfl⟩
                  obtain ⟨e2, he2⟩ : ∃ e2, e = e2 := ⟨_, rfl⟩
                  obtain ⟨c2v, hc2⟩ : ∃ c2v, cv = c2v := ⟨_, rfl⟩
                  have HK2 := Lib.hid (show KX w wc M I M2 I2 pj pk zs zs [] (.slice A2 e2 c2v) xs ((actL zs [] 5 (i % 6) (k % 6) u).map Prod.fst) by rw [keep_no, ← hA2, ← he2, ← hc2]; exact HKX.out)
                  obtain ⟨xs2, hxs⟩ : ∃ xs2, xs = xs2 := ⟨_, rfl⟩
                  rw [hxs] at HK2
                  rw [hA2, he2, hc2]
                  clear hA2 hc2 hxs
                  have HBQ := Lib.hid HX.out.1
                  go_wp2_with fail
                  refine DP.out.mono ?_
                  rintro e1 wd ⟨rfl, rfl⟩
                  have DX := Lib.hid (doesX HK2.out (by rw [HE.out]; exact HL.out) 5 (i % 6) (k % 6) u HBB.out.six)
                  have AL := Lib.hid (actL_len zs [] 5 (i % 6) (k % 6) u (by rw [HE.out]; exact HL.out))
                  have c0 := HBQ.out.cell 0 rfl
                  have c1 := HBQ.out.cell 1 rfl
                  have c2 := HBQ.out.cell 2 rfl
                  have c3 := HBQ.out.cell 3 rfl
                  go_wp2_with fail
                  refine DX.out.mono ?_
                  rintro e3 w7 ⟨rfl, k7, M', I', h7⟩
                  clear c0 c1 c2 c3
                  have bq7 := HBQ.out.kep k7 NQ.out.1
                  have c0 := bq7.cell 0 rfl
                  have hz : actZ zs [] 5 (i % 6) (k % 6) u = zs := rfl
                  rw [hz] at h7
                  have HK3 := Lib.hid h7
                  have HZL := Lib.hid HZ6.out
                  clear h7 k7 bq7 hz
                  obtain ⟨zz, hzz⟩ : ∃ zz, zs = zz := ⟨_, rfl⟩
                  obtain ⟨LL, hLL⟩ : ∃ LL, actL zs [] 5 (i % 6) (k % 6) u = LL := ⟨_, rfl⟩
                  rw [hLL] at HK3 AL
                  rw [show KX w w7 M' I' M2 I2 pj pk zs zs LL (.slice A2 e2 c2v) xs2 (LL.map Prod.fst) = KX w w7 M' I' M2 I2 pj pk zz zz LL (.slice A2 e2 c2v) xs2 (LL.map Prod.fst) by rw [hzz]] at HK3
                  rw [hzz] at HZL
                  clear hzz
                  have HE2 := Lib.hid (show LL.length = e2 by
                    obtain ⟨A3, c3, h3⟩ := HK3.out.shape
                    injection h3 with _ h3 _
                    rw [List.length_map] at h3
                    exact h3.symm)
                  clear hLL
                  have CJ := Lib.hid (cellsK HK3.out.nwj)
                  go_wp2_with fail
                  refine CJ.out.mono ?_
                  rintro e5 w9 ⟨B1, cB1, rfl, hi1, hb1, _⟩
                  rw [HZL.out] at hi1 ⊢
                  have HB9 := Lib.hid hb1
                  have HI1 := Lib.hid hi1
                  have CK := Lib.hid (cellsK ((HK3.out.kept (bad := fun _ => False) HB9.out).nwk))
                  clear hi1 hb1
                  go_wp2_with fail
                  refine CK.out.mono ?_
                  rintro e6 w10 ⟨B2, cB2, rfl, hi2, hb2, _⟩
                  rw [HZL.out] at hi2 ⊢
                  have SW := Lib.hid (sameW B1 B2 6 cB1 6 cB2 zz zz w10 (HI1.out.bel hb2) hi2 (by decide) (by decide))
                  have HB10 := Lib.hid (HB9.out.trans hb2)
                  have HD := Lib.hid (show decide (zz = zz) = true from decide_eq_true rfl)
                  clear hi2 hb2
                  go_wp2_with fail
                  refine SW.out.mono ?_
                  rintro e7 w11 ⟨rfl, hb11⟩
                  rw [HD.out]
                  have HK4 := Lib.hid (HK3.out.kept (bad := fun _ => False) (HB10.out.trans hb11))
                  have DP2 := Lib.hid (depthN HK4.out.nwj (e2 : Int) (by rw [HE2.out]))
                  clear hb11
                  go_wp2_with fail
                  refine DP2.out.mono ?_
                  rintro e8 w12 ⟨rfl, rfl⟩
                  by_cases he0 : e2 = 0
                  · subst he0
                    go_wp2
                    go_roundw
                    case rel =>
                      first
                        | exact ⟨m + 1, zz, LL, by omega, by go_num, AL.out, HZL.out, _, _, _, _, _, HK4.out⟩
                        | exact ⟨m + 1, by omega, by go_num, zz, LL, AL.out, HZL.out, _, _, _, _, _, HK4.out⟩
                    case measure => simp [iv]; omega
                  · exfalso
                    omega
                · have he0i : (0 : Int) < e := by omega
                  obtain ⟨lv0, L0, hcons⟩ : ∃ lv L1, L = lv :: L1 := by
                    cases L with
                    | nil => exact absurd HE.out.symm he0
                    | cons x y => exact ⟨x, y, rfl⟩
                  subst hcons
                  obtain ⟨g, cap, xs2, hv2, hcap, hpop⟩ := KX.pop (show KX w wc M I M2 I2 pj pk zs zs (lv0 :: L0) (.slice Av e cv) xs (lv0.1 :: L0.map Prod.fst) from HKX.out)
                  injection hv2 with hv2 hv3 hv4
                  subst hv2 hv4
                  obtain ⟨e2, he2⟩ : ∃ e2, (L0.map Prod.fst).length = e2 := ⟨_, rfl⟩
                  rw [he2] at hv3 hcap hpop
                  subst hv3
                  have HK2 := Lib.hid (show KX w wc M I M2 I2 pj pk zs zs (lv0 :: L0) (.slice (some ⟨g, 0, none⟩) e2 cv) xs2 ((actL zs (lv0 :: L0) 5 (i % 6) (k % 6) u).map Prod.fst) by rw [keep_yes]; exact hpop)
                  have HBQ := Lib.hid HX.out.1
                  have hsl := fun W => slice_s g (e2 + 1) cv e2 W (by omega)
                  have hwr : IntKind.i64.wrap (e2 : Int) = e2 := IntWalk.i64_in _ (by omega)
                  go_wp2_with fail
                  refine DP.out.mono ?_
                  rintro e1 wd ⟨rfl, rfl⟩
                  go_upto_region 18 with fail
                  have DX := Lib.hid (doesX HK2.out (by rw [HE.out]; exact HL.out) 5 (i % 6) (k % 6) u HBB.out.six)
                  have AL := Lib.hid (actL_len zs (lv0 :: L0) 5 (i % 6) (k % 6) u (by rw [HE.out]; exact HL.out))
                  have c0 := HBQ.out.cell 0 rfl
                  have c1 := HBQ.out.cell 1 rfl
                  have c2 := HBQ.out.cell 2 rfl
                  have c3 := HBQ.out.cell 3 rfl
                  go_wp2_with fail
                  refine DX.out.mono ?_
                  rintro e3 w7 ⟨rfl, k7, M', I', h7⟩
                  clear c0 c1 c2 c3
                  have bq7 := HBQ.out.kep k7 NQ.out.1
                  have c0 := bq7.cell 0 rfl
                  have hz : actZ zs (lv0 :: L0) 5 (i % 6) (k % 6) u = zs := rfl
                  rw [hz] at h7
                  have HK3 := Lib.hid h7
                  have HZL := Lib.hid HZ6.out
                  clear h7 k7 bq7 hz
                  obtain ⟨zz, hzz⟩ : ∃ zz, zs = zz := ⟨_, rfl⟩
                  obtain ⟨LL, hLL⟩ : ∃ LL, actL zs (lv0 :: L0) 5 (i % 6) (k % 6) u = LL := ⟨_, rfl⟩
                  rw [hLL] at HK3 AL
                  rw [show KX w w7 M' I' M2 I2 pj pk zs zs LL (.slice (some ⟨g, 0, none⟩) e2 cv) xs2 (LL.map Prod.fst) = KX w w7 M' I' M2 I2 pj pk zz zz LL (.slice (some ⟨g, 0, none⟩) e2 cv) xs2 (LL.map Prod.fst) by rw [hzz]] at HK3
                  rw [hzz] at HZL
                  clear hzz
                  have HE2 := Lib.hid (show LL.length = e2 by
                    obtain ⟨A3, c3, h3⟩ := HK3.out.shape
                    injection h3 with _ h3 _
                    rw [List.length_map] at h3
                    exact h3.symm)
                  clear hLL
                  have CJ := Lib.hid (cellsK HK3.out.nwj)
                  go_wp2_with fail
                  refine CJ.out.mono ?_
                  rintro e5 w9 ⟨B1, cB1, rfl, hi1, hb1, _⟩
                  rw [HZL.out] at hi1 ⊢
                  have HB9 := Lib.hid hb1
                  have HI1 := Lib.hid hi1
                  have CK := Lib.hid (cellsK ((HK3.out.kept (bad := fun _ => False) HB9.out).nwk))
                  clear hi1 hb1
                  go_wp2_with fail
                  refine CK.out.mono ?_
                  rintro e6 w10 ⟨B2, cB2, rfl, hi2, hb2, _⟩
                  rw [HZL.out] at hi2 ⊢
                  have SW := Lib.hid (sameW B1 B2 6 cB1 6 cB2 zz zz w10 (HI1.out.bel hb2) hi2 (by decide) (by decide))
                  have HB10 := Lib.hid (HB9.out.trans hb2)
                  have HD := Lib.hid (show decide (zz = zz) = true from decide_eq_true rfl)
                  clear hi2 hb2
                  go_wp2_with fail
                  refine SW.out.mono ?_
                  rintro e7 w11 ⟨rfl, hb11⟩
                  rw [HD.out]
                  have HK4 := Lib.hid (HK3.out.kept (bad := fun _ => False) (HB10.out.trans hb11))
                  have DP2 := Lib.hid (depthN HK4.out.nwj (e2 : Int) (by rw [HE2.out]))
                  clear hb11
                  go_wp2_with fail
                  refine DP2.out.mono ?_
                  rintro e8 w12 ⟨rfl, rfl⟩
                  by_cases he0 : e2 = 0
                  · subst he0
                    go_wp2
                    go_roundw
                    case rel =>
                      first
                        | exact ⟨m + 1, zz, LL, by omega, by go_num, AL.out, HZL.out, _, _, _, _, _, HK4.out⟩
                        | exact ⟨m + 1, by omega, by go_num, zz, LL, AL.out, HZL.out, _, _, _, _, _, HK4.out⟩
                    case measure => simp [iv]; omega
                  · have he0i : (0 : Int) < e2 := by omega
                    obtain ⟨lv, L1, hcons⟩ : ∃ lv L1, LL = lv :: L1 := by
                      cases LL with
                      | nil => exact absurd HE2.out.symm he0
                      | cons x y => exact ⟨x, y, rfl⟩
                    subst hcons
                    have CJ2 := Lib.hid (cellsK HK4.out.nwj)
                    go_wp2_with fail
                    refine CJ2.out.mono ?_
                    rintro e9 w13 ⟨B3, cB3, rfl, hi3, hb13, hn3⟩
                    rw [HZL.out] at hi3 ⊢
                    have HB13 := Lib.hid hb13
                    have HI3 := Lib.hid hi3
                    have TJ := Lib.hid (touchedN ((HK4.out.kept (bad := fun _ => False) HB13.out).nwj) (tchZ zz.length (lv :: L1)) rfl)
                    clear hi3 hb13 hn3
                    go_wp2_with fail
                    refine TJ.out.mono ?_
                    rintro e10 w14 ⟨T4, cT4, rfl, hi4, hb14⟩
                    rw [HZL.out] at hi4 ⊢
                    obtain ⟨ts, hts⟩ : ∃ ts, tchZ 6 (lv :: L1) = ts := ⟨_, rfl⟩
                    rw [hts] at hi4 ⊢
                    have HTS := Lib.hid hts
                    have HT6 := Lib.hid (show ts.length ≤ 4096 by rw [← hts]; show (namedZ 6 lv.2).length ≤ 4096; unfold namedZ; rw [List.length_map]; exact Nat.le_trans (named_len 6 lv.2) (by decide))
                    have HK5 := Lib.hid (HK4.out.kept (bad := fun _ => False) (HB13.out.trans hb14))
                    have HI4 := Lib.hid hi4
                    have HI5 := Lib.hid (HI3.out.bel hb14)
                    obtain ⟨nt, hnt⟩ : ∃ nt, ts.length = nt := ⟨_, rfl⟩
                    rw [hnt] at HI4 HT6 ⊢
                    have HE3 := Lib.hid (show L1.length + 1 = e2 from HE2.out)
                    obtain ⟨g5, cp5, B5, cB5, hv5, hc5, hi5, _⟩ := HK5.out.at (e2 - 1) (by rw [List.length_map, List.length_cons, HE3.out]; omega)
                    injection hv5 with hv5 hv6 hv7
                    cases hv5
                    cases hv7
                    have HW5b := Lib.hid (show Ints .u64 w14 B5 6 lv.1 by
                      have : ((lv :: L1).map Prod.fst).reverse.getD (e2 - 1) [] = lv.1 := by
                        rw [List.getD_eq_getElem?_getD, List.getElem?_reverse (by rw [List.length_map, List.length_cons, HE3.out]; omega), List.length_map, List.length_cons, HE3.out]
                        rw [show e2 - 1 - (e2 - 1) = 0 by omega]
                        rfl
                      rw [this] at hi5
                      exact hi5)
                    have HC5 := Lib.hid hc5
                    clear hts hi4 hb14 hnt hv6 hi5 hc5
                    go_wp2_with fail
                    go_loopw [12] (fun s wq => ∃ j : Nat, j ≤ 6 ∧ s = .int .i64 j ∧ Bel w14 wq) (fun s _ => 6 - (iv s).toNat)
                    case atStart => exact ⟨0, Nat.zero_le _, rfl, Bel.refl _⟩
                    case round =>
                      obtain ⟨j, hj6, rfl, hbq⟩ := hrel
                      have HBQ2 := Lib.hid hbq
                      clear hbq
                      by_cases hj : j < 6
                      · have hji : (j : Int) < 6 := by omega
                        have AM := Lib.hid (fun W (hW : Bel wr W) => among T4 nt cT4 ts (j : Int) W (HI4.out.bel (HBQ2.out.trans hW)) HT6.out)
                        by_cases hin : (j : Int) ∈ ts
                        · have HD2 := Lib.hid (show decide ((j : Int) ∈ ts) = true from decide_eq_true hin)
                          have AMB := Lib.hid (fun W (hW : Bel wr W) => show Calls Try.prog 35 #[.slice T4 nt cT4, .int .i64 j] W fun e w' => e = .returned (.bool true) ∧ w' = W by rw [← HD2.out]; exact AM.out W hW)
                          clear hin
                          go_upto_region 26 with fail
                          go_quiet (first | (go_at_call 35; refine Calls.quiet_of_same (AMB.out _ ?_); exact (Bel.refl _).drewN _))
                          go_wp2
                          go_roundw
                          case rel => exact ⟨j + 1, by omega, by go_num, by first | exact HBQ2.out | exact HBQ2.out.drew | exact HBQ2.out.drewN _⟩
                          case measure => simp [iv]; omega
                        · have HD2 := Lib.hid (show decide ((j : Int) ∈ ts) = false from decide_eq_false hin)
                          have hst : lv.2 j = false := by
                            cases ht : lv.2 j with
                            | false => rfl
                            | true =>
                              exact absurd (show (j : Int) ∈ ts by rw [← HTS.out]; exact namedZ_mem.2 ⟨j, rfl, hj, ht⟩) hin
                          have hval := HK5.out.j.stay j hst
                          obtain ⟨g6, o6, rfl, _, c6⟩ := (HI5.out.bel HBQ2.out).cell hj
                          obtain ⟨g7, o7, rfl, _, c7⟩ := (HW5b.out.bel HBQ2.out).cell hj
                          have c8 := cell_bel HC5.out HBQ2.out
                          rw [← hval] at c7
                          obtain ⟨y, hy⟩ : ∃ y, zz.getD j 0 = y := ⟨_, rfl⟩
                          rw [hy] at c6 c7
                          have he2w : IntKind.i64.wrap ((e2 : Int) - 1) = (e2 : Int) - 1 := IntWalk.i64_in _ (by have := HK5.out.nwj.lens.2.2.2; rw [List.length_cons, HE3.out] at this; omega)
                          have he2n : ((e2 : Int) - 1).toNat = e2 - 1 := by omega
                          have AMB := Lib.hid (fun W (hW : Bel wr W) => show Calls Try.prog 35 #[.slice T4 nt cT4, .int .i64 j] W fun e w' => e = .returned (.bool false) ∧ w' = W by rw [← HD2.out]; exact AM.out W hW)
                          clear hin hst hval hy
                          go_upto_region 26 with fail
                          go_quiet (first | (go_at_call 35; refine Calls.quiet_of_same (AMB.out _ ?_); exact (Bel.refl _).drewN _))
                          go_wp2
                          go_roundw
                          case rel => exact ⟨j + 1, by omega, by go_num, by first | exact HBQ2.out | exact HBQ2.out.drew | exact HBQ2.out.drewN _⟩
                          case measure => simp [iv]; omega
                      · obtain rfl : j = 6 := by omega
                        go_wp2
                        go_roundw
                        case rel =>
                          first
                            | exact ⟨m + 1, zz, _, by omega, by go_num, AL.out, HZL.out, _, _, _, _, _, HK5.out.kept (bad := fun _ => False) HBQ2.out⟩
                            | exact ⟨m + 1, by omega, by go_num, zz, _, AL.out, HZL.out, _, _, _, _, _, HK5.out.kept (bad := fun _ => False) HBQ2.out⟩
                        case measure => simp [iv]; omega
              · have ha5b : (a == 5) = false := by simp [ha5]
                have AS0 := Lib.hid (act_same zs L a (i % 6) (k % 6) u ha4 ha5 ha6 ha7)
                obtain ⟨A2, hA2⟩ : ∃ A2, Av = A2 := ⟨_, rfl⟩
                obtain ⟨e2, he2⟩ : ∃ e2, e = e2 := ⟨_, rfl⟩
                obtain ⟨c2v, hc2⟩ : ∃ c2v, cv = c2v := ⟨_, rfl⟩
                have HK2 := Lib.hid (show KX w wc M I M2 I2 pj pk zs zs L (.slice A2 e2 c2v) xs ((actL zs L a (i % 6) (k % 6) u).map Prod.fst) by rw [AS0.out.2.2.2.1, ← hA2, ← he2, ← hc2]; exact HKX.out)
                obtain ⟨xs2, hxs⟩ : ∃ xs2, xs = xs2 := ⟨_, rfl⟩
                rw [hxs] at HK2
                rw [hA2, he2, hc2]
                clear hA2 hc2 hxs
                have HBQ := Lib.hid HX.out.1
                have DX := Lib.hid (doesX HK2.out (by rw [HE.out]; exact HL.out) a (i % 6) (k % 6) u HBB.out.six)
                have AL := Lib.hid (actL_len zs L a (i % 6) (k % 6) u (by rw [HE.out]; exact HL.out))
                have c0 := HBQ.out.cell 0 rfl
                have c1 := HBQ.out.cell 1 rfl
                have c2 := HBQ.out.cell 2 rfl
                have c3 := HBQ.out.cell 3 rfl
                go_wp2_with fail
                refine DX.out.mono ?_
                rintro e3 w7 ⟨rfl, k7, M', I', h7⟩
                clear c0 c1 c2 c3
                have bq7 := HBQ.out.kep k7 NQ.out.1
                have c0 := bq7.cell 0 rfl
                have c1 := bq7.cell 1 rfl
                have c2 := bq7.cell 2 rfl
                have c3 := bq7.cell 3 rfl
                have AS := act_same zs L a (i % 6) (k % 6) u ha4 ha5 ha6 ha7
                rw [AS.2.1] at h7
                rw [AS.1]
                have DY := Lib.hid (doesY h7 a (i % 6) (k % 6) u HBB.out.six AS.2.2.1)
                have HZL := Lib.hid (AS.2.2.2.2.2.trans HZ6.out)
                clear h7 k7 bq7 AS
                go_wp2_with fail
                refine DY.out.mono ?_
                rintro e4 w8 ⟨rfl, M2', I2', h8⟩
                have HK3 := Lib.hid h8
                clear h8 c0 c1 c2 c3
                obtain ⟨zz, hzz⟩ : ∃ zz, actZ zs [] a (i % 6) (k % 6) u = zz := ⟨_, rfl⟩
                rw [hzz] at HK3 HZL
                clear hzz
                obtain ⟨LL, hLL⟩ : ∃ LL, actL zs L a (i % 6) (k % 6) u = LL := ⟨_, rfl⟩
                rw [hLL] at HK3 AL
                have HE2 := Lib.hid (show LL.length = e2 by
                  obtain ⟨A3, c3, h3⟩ := HK3.out.shape
                  injection h3 with _ h3 _
                  rw [List.length_map] at h3
                  exact h3.symm)
                clear hLL
                have CJ := Lib.hid (cellsK HK3.out.nwj)
                go_wp2_with fail
                refine CJ.out.mono ?_
                rintro e5 w9 ⟨B1, cB1, rfl, hi1, hb1, _⟩
                rw [HZL.out] at hi1 ⊢
                have HB9 := Lib.hid hb1
                have HI1 := Lib.hid hi1
                have CK := Lib.hid (cellsK ((HK3.out.kept (bad := fun _ => False) HB9.out).nwk))
                clear hi1 hb1
                go_wp2_with fail
                refine CK.out.mono ?_
                rintro e6 w10 ⟨B2, cB2, rfl, hi2, hb2, _⟩
                rw [HZL.out] at hi2 ⊢
                have SW := Lib.hid (sameW B1 B2 6 cB1 6 cB2 zz zz w10 (HI1.out.bel hb2) hi2 (by decide) (by decide))
                have HB10 := Lib.hid (HB9.out.trans hb2)
                have HD := Lib.hid (show decide (zz = zz) = true from decide_eq_true rfl)
                clear hi2 hb2
                go_wp2_with fail
                refine SW.out.mono ?_
                rintro e7 w11 ⟨rfl, hb11⟩
                rw [HD.out]
                have HK4 := Lib.hid (HK3.out.kept (bad := fun _ => False) (HB10.out.trans hb11))
                have DP2 := Lib.hid (depthN HK4.out.nwj (e2 : Int) (by rw [HE2.out]))
                clear hb11
                go_wp2_with fail
                refine DP2.out.mono ?_
                rintro e8 w12 ⟨rfl, rfl⟩
                by_cases he0 : e2 = 0
                · subst he0
                  go_wp2
                  go_roundw
                  case rel =>
                    first
                      | exact ⟨m + 1, zz, LL, by omega, by go_num, AL.out, HZL.out, _, _, _, _, _, HK4.out⟩
                      | exact ⟨m + 1, by omega, by go_num, zz, LL, AL.out, HZL.out, _, _, _, _, _, HK4.out⟩
                  case measure => simp [iv]; omega
                · have he0i : (0 : Int) < e2 := by omega
                  obtain ⟨lv, L1, hcons⟩ : ∃ lv L1, LL = lv :: L1 := by
                    cases LL with
                    | nil => exact absurd HE2.out.symm he0
                    | cons x y => exact ⟨x, y, rfl⟩
                  subst hcons
                  have CJ2 := Lib.hid (cellsK HK4.out.nwj)
                  go_wp2_with fail
                  refine CJ2.out.mono ?_
                  rintro e9 w13 ⟨B3, cB3, rfl, hi3, hb13, hn3⟩
                  rw [HZL.out] at hi3 ⊢
                  have HB13 := Lib.hid hb13
                  have HI3 := Lib.hid hi3
                  have TJ := Lib.hid (touchedN ((HK4.out.kept (bad := fun _ => False) HB13.out).nwj) (tchZ zz.length (lv :: L1)) rfl)
                  clear hi3 hb13 hn3
                  go_wp2_with fail
                  refine TJ.out.mono ?_
                  rintro e10 w14 ⟨T4, cT4, rfl, hi4, hb14⟩
                  rw [HZL.out] at hi4 ⊢
                  obtain ⟨ts, hts⟩ : ∃ ts, tchZ 6 (lv :: L1) = ts := ⟨_, rfl⟩
                  rw [hts] at hi4 ⊢
                  have HTS := Lib.hid hts
                  have HT6 := Lib.hid (show ts.length ≤ 4096 by rw [← hts]; show (namedZ 6 lv.2).length ≤ 4096; unfold namedZ; rw [List.length_map]; exact Nat.le_trans (named_len 6 lv.2) (by decide))
                  have HK5 := Lib.hid (HK4.out.kept (bad := fun _ => False) (HB13.out.trans hb14))
                  have HI4 := Lib.hid hi4
                  have HI5 := Lib.hid (HI3.out.bel hb14)
                  obtain ⟨nt, hnt⟩ : ∃ nt, ts.length = nt := ⟨_, rfl⟩
                  rw [hnt] at HI4 HT6 ⊢
                  have HE3 := Lib.hid (show L1.length + 1 = e2 from HE2.out)
                  obtain ⟨g5, cp5, B5, cB5, hv5, hc5, hi5, _⟩ := HK5.out.at (e2 - 1) (by rw [List.length_map, List.length_cons, HE3.out]; omega)
                  injection hv5 with hv5 hv6 hv7
                  cases hv5
                  cases hv7
                  have HW5b := Lib.hid (show Ints .u64 w14 B5 6 lv.1 by
                    have : ((lv :: L1).map Prod.fst).reverse.getD (e2 - 1) [] = lv.1 := by
                      rw [List.getD_eq_getElem?_getD, List.getElem?_reverse (by rw [List.length_map, List.length_cons, HE3.out]; omega), List.length_map, List.length_cons, HE3.out]
                      rw [show e2 - 1 - (e2 - 1) = 0 by omega]
                      rfl
                    rw [this] at hi5
                    exact hi5)
                  have HC5 := Lib.hid hc5
                  clear hts hi4 hb14 hnt hv6 hi5 hc5
                  go_wp2_with fail
                  go_loopw [12] (fun s wq => ∃ j : Nat, j ≤ 6 ∧ s = .int .i64 j ∧ Bel w14 wq) (fun s _ => 6 - (iv s).toNat)
                  case atStart => exact ⟨0, Nat.zero_le _, rfl, Bel.refl _⟩
                  case round =>
                    obtain ⟨j, hj6, rfl, hbq⟩ := hrel
                    have HBQ2 := Lib.hid hbq
                    clear hbq
                    by_cases hj : j < 6
                    · have hji : (j : Int) < 6 := by omega
                      have AM := Lib.hid (fun W (hW : Bel wr W) => among T4 nt cT4 ts (j : Int) W (HI4.out.bel (HBQ2.out.trans hW)) HT6.out)
                      by_cases hin : (j : Int) ∈ ts
                      · have HD2 := Lib.hid (show decide ((j : Int) ∈ ts) = true from decide_eq_true hin)
                        have AMB := Lib.hid (fun W (hW : Bel wr W) => show Calls Try.prog 35 #[.slice T4 nt cT4, .int .i64 j] W fun e w' => e = .returned (.bool true) ∧ w' = W by rw [← HD2.out]; exact AM.out W hW)
                        clear hin
                        go_upto_region 26 with fail
                        go_quiet (first | (go_at_call 35; refine Calls.quiet_of_same (AMB.out _ ?_); exact (Bel.refl _).drewN _))
                        go_wp2
                        go_roundw
                        case rel => exact ⟨j + 1, by omega, by go_num, by first | exact HBQ2.out | exact HBQ2.out.drew | exact HBQ2.out.drewN _⟩
                        case measure => simp [iv]; omega
                      · have HD2 := Lib.hid (show decide ((j : Int) ∈ ts) = false from decide_eq_false hin)
                        have hst : lv.2 j = false := by
                          cases ht : lv.2 j with
                          | false => rfl
                          | true =>
                            exact absurd (show (j : Int) ∈ ts by rw [← HTS.out]; exact namedZ_mem.2 ⟨j, rfl, hj, ht⟩) hin
                        have hval := HK5.out.j.stay j hst
                        obtain ⟨g6, o6, rfl, _, c6⟩ := (HI5.out.bel HBQ2.out).cell hj
                        obtain ⟨g7, o7, rfl, _, c7⟩ := (HW5b.out.bel HBQ2.out).cell hj
                        have c8 := cell_bel HC5.out HBQ2.out
                        rw [← hval] at c7
                        obtain ⟨y, hy⟩ : ∃ y, zz.getD j 0 = y := ⟨_, rfl⟩
                        rw [hy] at c6 c7
                        have he2w : IntKind.i64.wrap ((e2 : Int) - 1) = (e2 : Int) - 1 := IntWalk.i64_in _ (by have := HK5.out.nwj.lens.2.2.2; rw [List.length_cons, HE3.out] at this; omega)
                        have he2n : ((e2 : Int) - 1).toNat = e2 - 1 := by omega
                        have AMB := Lib.hid (fun W (hW : Bel wr W) => show Calls Try.prog 35 #[.slice T4 nt cT4, .int .i64 j] W fun e w' => e = .returned (.bool false) ∧ w' = W by rw [← HD2.out]; exact AM.out W hW)
                        clear hin hst hval hy
                        go_upto_region 26 with fail
                        go_quiet (first | (go_at_call 35; refine Calls.quiet_of_same (AMB.out _ ?_); exact (Bel.refl _).drewN _))
                        go_wp2
                        go_roundw
                        case rel => exact ⟨j + 1, by omega, by go_num, by first | exact HBQ2.out | exact HBQ2.out.drew | exact HBQ2.out.drewN _⟩
                        case measure => simp [iv]; omega
                    · obtain rfl : j = 6 := by omega
                      go_wp2
                      go_roundw
                      case rel =>
                        first
                          | exact ⟨m + 1, zz, _, by omega, by go_num, AL.out, HZL.out, _, _, _, _, _, HK5.out.kept (bad := fun _ => False) HBQ2.out⟩
                          | exact ⟨m + 1, by omega, by go_num, zz, _, AL.out, HZL.out, _, _, _, _, _, HK5.out.kept (bad := fun _ => False) HBQ2.out⟩
                      case measure => simp [iv]; omega
      · obtain rfl : m = n := by omega
        have hew : IntKind.i64.wrap ((e : Int) - 1) = (e : Int) - 1 := IntWalk.i64_in _ (by have := HL.out; omega)
        go_wp2_with fail
        go_loopw [13] (fun s wq => ∃ (d : Nat) (zd : List Int) (Ld : List Lv), s = .int .i64 ((d : Int) - 1) ∧ d ≤ e ∧ Ld = L.drop (e - d) ∧ KX w wq M I M2 I2 pj pk zd zs Ld (.slice Av e cv) xs (L.map Prod.fst)) (fun s _ => (iv s + 1).toNat)
        case atStart => exact ⟨e, zs, L, rfl, Nat.le_refl _, by rw [Nat.sub_self]; rfl, HK.out⟩
        case round =>
          obtain ⟨d, zd, Ld, rfl, hde, hLd, hkd⟩ := hrel
          cases d with
          | zero =>
            have HBE := Lib.hid hkd.bel
            clear hLd hkd
            go_wp2
            go_ret
            exact ⟨rfl, HBE.out⟩
          | succ d =>
            have hd1 : (((d + 1 : Nat) : Int) - 1) = d := by omega
            rw [hd1]
            have hdw : IntKind.i64.wrap ((d : Int) - 1) = (d : Int) - 1 := IntWalk.i64_in _ (by have := HL.out; omega)
            have hdi : (d : Int) < e := by omega
            have hd0 : (0 : Int) ≤ d := by omega
            have hlt : e - (d + 1) < L.length := by rw [HE.out]; omega
            obtain ⟨lv, hlv⟩ : ∃ lv, L[e - (d + 1)]'hlt = lv := ⟨_, rfl⟩
            have hdrop : Ld = lv :: L.drop (e - d) := by
              rw [hLd, List.drop_eq_getElem_cons hlt, hlv, show e - (d + 1) + 1 = e - d by omega]
            subst hdrop
            obtain ⟨g5, cp5, B5, cB5, hv5, hc5, hi5, hm5⟩ := hkd.at d (by rw [List.length_map, HE.out]; omega)
            have hval : (L.map Prod.fst).reverse.getD d [] = lv.1 := by
              rw [List.getD_eq_getElem?_getD, List.getElem?_reverse (by rw [List.length_map, HE.out]; omega), List.length_map, HE.out, List.getElem?_map, show e - 1 - d = e - (d + 1) by omega, List.getElem?_eq_getElem hlt, hlv]
              rfl
            rw [hval] at hi5
            injection hv5 with hv5 hv6 hv7
            cases hv5
            cases hv7
            have hrb := hkd.ra
            have hrg := hrb g5 rfl
            obtain ⟨V0, hV0⟩ : ∃ v, World.drew wr = v := ⟨_, rfl⟩
            have hb0 : Bel wr V0 := by rw [← hV0]; exact (Bel.refl _).drew
            have HKD := Lib.hid (hkd.kept (bad := fun _ => False) hb0)
            have UX := Lib.hid (undoD2 HKD.out)
            have C5 := Lib.hid (And.intro (cell_bel hc5 hb0) (And.intro (hi5.bel hb0) (And.intro hrg.1 (fun x hx => (hm5 x hx).2))))
            have hz6d : lv.1.length = 6 := hi5.1
            have HZD := Lib.hid hz6d
            have hLd2 : L.drop (e - d) = L.drop (e - d) := rfl
            have SWC := Lib.hid (fun W B1 cB1 (h1 : Ints .u64 W B1 6 lv.1) (h2 : Ints .u64 W B5 6 lv.1) => sameW B1 B5 6 cB1 6 cB5 lv.1 lv.1 W h1 h2 (by decide) (by decide))
            have HDD := Lib.hid (show decide (lv.1 = lv.1) = true from decide_eq_true rfl)
            clear hkd hLd hv6 hc5 hi5 hm5 hval hrb hrg hb0 hz6d hLd2 hd1
            go_upto_region 31 with fail
            refine wp_region_held_drew (S := fun _ => True) (by kernel_rfl) trivial (fun _ => ?_)
            rw [hV0]
            clear hV0
            refine wpAnyH_take (i := 0) (oi := { dst := some 153, op := .move (.tmp 4), type := 23, pos := "outright.go:135", after := #[], guard := none }) (v := .pointer (some ⟨pj, 0, none⟩)) rfl (by kernel_rfl) (by kernel_rfl) (by kernel_rfl) (fun _ _ _ h => h) (Or.inl ⟨by rfl, by intro w hSw; clear hSw; go_simp⟩) trivial ?_
            try simp only [Act.put, List.setIfInBounds_toArray, List.set_cons_zero, List.set_cons_succ]
            refine wpAnyH_ready (rs := [1]) (by kernel_rfl) (by simp) ?_
            refine AllReadyH.cons (o := { dst := some 154, op := .call { callee := .value (.func 36), args := #[.tmp 153], argTypes := #[23] }, type := 24, pos := "outright.go:135", after := #[{ on := 0, ground := .data }], guard := none }) rfl (fun K hK => ?_) AllReadyH.nil
            rw [if_pos (by rfl)]
            go_simp
            refine UX.out.mono ?_
            rintro e9 w9 ⟨rfl, k9, h9⟩
            have HK9 := Lib.hid h9
            have C9 := Lib.hid (And.intro (k9.cell C5.out.2.2.1 C5.out.1) (k9.ints (fun x hx => C5.out.2.2.2 x hx) C5.out.2.1))
            have CJ9 := Lib.hid (cellsK HK9.out.nwj)
            rw [HZD.out] at CJ9
            have c9 := C9.out.1
            clear h9 k9
            go_wp2_with fail
            refine hK.out _ _ trivial (fun _ => ?_)
            clear hK K
            try simp only [Act.put, List.setIfInBounds_toArray, List.set_cons_zero, List.set_cons_succ]
            refine wpAnyH_take (i := 2) (oi := { dst := some 155, op := .binOp .neq 24 (.tmp 154) (.const (Value.int IntKind.i64 0)) 24, type := 4, pos := "outright.go:135", after := #[{ on := 1, ground := .data }], guard := none }) (v := .bool false) rfl (by kernel_rfl) (by kernel_rfl) (by kernel_rfl) (fun _ _ _ h => h) (Or.inl ⟨by rfl, by intro w hSw; clear hSw; go_simp⟩) trivial ?_
            try simp only [Act.put, List.setIfInBounds_toArray, List.set_cons_zero, List.set_cons_succ]
            refine wpAnyH_take (i := 3) (oi := { dst := some 156, op := .move (.tmp 155), type := 4, pos := "outright.go:135", after := #[{ on := 2, ground := .data }, { on := 1, ground := .chain }], guard := none }) (v := .bool false) rfl (by kernel_rfl) (by kernel_rfl) (by kernel_rfl) (fun _ _ _ h => h) (Or.inl ⟨by rfl, by intro w hSw; clear hSw; go_simp⟩) trivial ?_
            try simp only [Act.put, List.setIfInBounds_toArray, List.set_cons_zero, List.set_cons_succ]
            refine wpAnyH_take (i := 4) (oi := { dst := some 157, op := .move (.tmp 4), type := 23, pos := "outright.go:135", after := #[{ on := 3, ground := .guard }], guard := some (3, false) }) (v := .pointer (some ⟨pj, 0, none⟩)) rfl (by kernel_rfl) (by kernel_rfl) (by kernel_rfl) (fun _ _ _ h => h) (Or.inl ⟨by rfl, by intro w hSw; clear hSw; go_simp⟩) trivial ?_
            try simp only [Act.put, List.setIfInBounds_toArray, List.set_cons_zero, List.set_cons_succ]
            refine wpAnyH_take (i := 6) (oi := { dst := some 159, op := .move (.tmp 6), type := 63, pos := "outright.go:135", after := #[{ on := 3, ground := .guard }], guard := some (3, false) }) (v := .slice (some ⟨g5, 0, none⟩) e cv) rfl (by kernel_rfl) (by kernel_rfl) (by kernel_rfl) (fun _ _ _ h => h) (Or.inl ⟨by rfl, by intro w hSw; clear hSw; go_simp⟩) trivial ?_
            try simp only [Act.put, List.setIfInBounds_toArray, List.set_cons_zero, List.set_cons_succ]
            refine wpAnyH_take (i := 7) (oi := { dst := some 160, op := .move (.tmp 13), type := 3, pos := "outright.go:135", after := #[{ on := 3, ground := .guard }], guard := some (3, false) }) (v := .int .i64 d) rfl (by kernel_rfl) (by kernel_rfl) (by kernel_rfl) (fun _ _ _ h => h) (Or.inl ⟨by rfl, by intro w hSw; clear hSw; go_simp⟩) trivial ?_
            try simp only [Act.put, List.setIfInBounds_toArray, List.set_cons_zero, List.set_cons_succ]
            refine wpAnyH_take (i := 8) (oi := { dst := some 161, op := .indexAddr 63 (.tmp 159) (.tmp 160), type := 0, pos := "outright.go:135", after := #[{ on := 6, ground := .data }, { on := 7, ground := .data }, { on := 3, ground := .guard }], guard := some (3, false) }) (v := .pointer (some ⟨g5, d, none⟩)) rfl (by kernel_rfl) (by kernel_rfl) (by kernel_rfl) (fun _ _ _ h => h) (Or.inl ⟨by rfl, by intro w hSw; clear hSw; go_simp⟩) trivial ?_
            try simp only [Act.put, List.setIfInBounds_toArray, List.set_cons_zero, List.set_cons_succ]
            refine wpAnyH_ready (rs := [5, 9]) (by kernel_rfl) (by simp) ?_
            refine AllReadyH.cons (o := { dst := some 158, op := .call { callee := .value (.func 27), args := #[.tmp 157], argTypes := #[23] }, type := 45, pos := "outright.go:135", after := #[{ on := 4, ground := .data }, { on := 3, ground := .chain }, { on := 3, ground := .guard }], guard := some (3, false) }) rfl (fun K hK => ?_) (AllReadyH.cons (o := { dst := some 162, op := .load 45 (.tmp 161), type := 45, pos := "outright.go:135", after := #[{ on := 8, ground := .data }, { on := 3, ground := .guard }], guard := some (3, false) }) rfl (fun K hK => ?_) AllReadyH.nil)
            · skip
              rw [if_pos (by rfl)]
              go_simp
              refine CJ9.out.mono ?_
              rintro e10 w10 ⟨B1, cB1, rfl, hi1, hb1, _⟩
              have c10 := cell_bel c9 hb1
              have SW := Lib.hid (SWC.out w10 B1 cB1 hi1 (C9.out.2.bel hb1))
              have HK10 := Lib.hid (HK9.out.kept (bad := fun _ => False) hb1)
              clear hi1 hb1
              go_wp2_with fail
              refine hK.out _ _ trivial (fun _ => ?_)
              clear hK K
              try simp only [Act.put, List.setIfInBounds_toArray, List.set_cons_zero, List.set_cons_succ]
              refine wpAnyH_ready (rs := [9]) (by kernel_rfl) (by simp) ?_
              refine AllReadyH.cons (o := { dst := some 162, op := .load 45 (.tmp 161), type := 45, pos := "outright.go:135", after := #[{ on := 8, ground := .data }, { on := 3, ground := .guard }], guard := some (3, false) }) rfl (fun K hK => ?_) AllReadyH.nil
              rw [if_pos (by rfl)]
              go_simp
              refine hK.out _ _ trivial (fun _ => ?_)
              clear hK K
              try simp only [Act.put, List.setIfInBounds_toArray, List.set_cons_zero, List.set_cons_succ]
              refine wpAnyH_ready (rs := [10]) (by kernel_rfl) (by simp) ?_
              refine AllReadyH.cons (o := { dst := some 163, op := .call { callee := .value (.func 32), args := #[.tmp 158, .tmp 162], argTypes := #[45, 45] }, type := 4, pos := "outright.go:135", after := #[{ on := 5, ground := .data }, { on := 9, ground := .data }, { on := 5, ground := .chain }, { on := 3, ground := .guard }], guard := some (3, false) }) rfl (fun K hK => ?_) AllReadyH.nil
              rw [if_pos (by rfl)]
              go_simp
              refine SW.out.mono ?_
              rintro e11 w11 ⟨rfl, hb11⟩
              rw [HDD.out]
              have HK11 := Lib.hid (HK10.out.kept (bad := fun _ => False) hb11)
              clear hb11
              go_wp2_with fail
              refine hK.out _ _ trivial (fun _ => ?_)
              clear hK K
              try simp only [Act.put, List.setIfInBounds_toArray, List.set_cons_zero, List.set_cons_succ]
              refine wpAnyH_take (i := 11) (oi := { dst := some 164, op := .unOp .not 4 (.tmp 163), type := 4, pos := "outright.go:135", after := #[{ on := 10, ground := .data }, { on := 3, ground := .guard }], guard := some (3, false) }) (v := .bool false) rfl (by kernel_rfl) (by kernel_rfl) (by kernel_rfl) (fun _ _ _ h => h) (Or.inl ⟨by rfl, by intro w hSw; clear hSw; go_simp⟩) trivial ?_
              try simp only [Act.put, List.setIfInBounds_toArray, List.set_cons_zero, List.set_cons_succ]
              refine wpAnyH_take (i := 12) (oi := { dst := some 165, op := .pick (.tmp 156) (.const (Value.bool true)) (.tmp 164), type := 4, pos := "outright.go:135", after := #[{ on := 3, ground := .data }, { on := 11, ground := .data }], guard := none }) (v := .bool false) rfl (by kernel_rfl) (by kernel_rfl) (by kernel_rfl) (fun _ _ _ h => h) (Or.inl ⟨by rfl, by intro w hSw; clear hSw; go_simp⟩) trivial ?_
              try simp only [Act.put, List.setIfInBounds_toArray, List.set_cons_zero, List.set_cons_succ]
              refine wpAnyH_done (by kernel_rfl) ?_ _
              go_wp2
              go_roundw
              case rel =>
                first
                  | exact ⟨d, lv.1, _, rfl, by omega, rfl, HK11.out⟩
                  | exact ⟨d, by go_num, lv.1, by omega, HK11.out⟩
                  | exact ⟨d, lv.1, by go_num, by omega, HK11.out⟩
                  | exact ⟨d, by go_num, by omega, lv.1, HK11.out⟩
              case measure => simp [iv] <;> omega
            · skip
              rw [if_pos (by rfl)]
              go_simp
              refine hK.out _ _ trivial (fun _ => ?_)
              clear hK K
              try simp only [Act.put, List.setIfInBounds_toArray, List.set_cons_zero, List.set_cons_succ]
              refine wpAnyH_ready (rs := [5]) (by kernel_rfl) (by simp) ?_
              refine AllReadyH.cons (o := { dst := some 158, op := .call { callee := .value (.func 27), args := #[.tmp 157], argTypes := #[23] }, type := 45, pos := "outright.go:135", after := #[{ on := 4, ground := .data }, { on := 3, ground := .chain }, { on := 3, ground := .guard }], guard := some (3, false) }) rfl (fun K hK => ?_) AllReadyH.nil
              rw [if_pos (by rfl)]
              go_simp
              refine CJ9.out.mono ?_
              rintro e10 w10 ⟨B1, cB1, rfl, hi1, hb1, _⟩
              have c10 := cell_bel c9 hb1
              have SW := Lib.hid (SWC.out w10 B1 cB1 hi1 (C9.out.2.bel hb1))
              have HK10 := Lib.hid (HK9.out.kept (bad := fun _ => False) hb1)
              clear hi1 hb1
              go_wp2_with fail
              refine hK.out _ _ trivial (fun _ => ?_)
              clear hK K
              try simp only [Act.put, List.setIfInBounds_toArray, List.set_cons_zero, List.set_cons_succ]
              refine wpAnyH_ready (rs := [10]) (by kernel_rfl) (by simp) ?_
              refine AllReadyH.cons (o := { dst := some 163, op := .call { callee := .value (.func 32), args := #[.tmp 158, .tmp 162], argTypes := #[45, 45] }, type := 4, pos := "outright.go:135", after := #[{ on := 5, ground := .data }, { on := 9, ground := .data }, { on := 5, ground := .chain }, { on := 3, ground := .guard }], guard := some (3, false) }) rfl (fun K hK => ?_) AllReadyH.nil
              rw [if_pos (by rfl)]
              go_simp
              refine SW.out.mono ?_
              rintro e11 w11 ⟨rfl, hb11⟩
              rw [HDD.out]
              have HK11 := Lib.hid (HK10.out.kept (bad := fun _ => False) hb11)
              clear hb11
              go_wp2_with fail
              refine hK.out _ _ trivial (fun _ => ?_)
              clear hK K
              try simp only [Act.put, List.setIfInBounds_toArray, List.set_cons_zero, List.set_cons_succ]
              refine wpAnyH_take (i := 11) (oi := { dst := some 164, op := .unOp .not 4 (.tmp 163), type := 4, pos := "outright.go:135", after := #[{ on := 10, ground := .data }, { on := 3, ground := .guard }], guard := some (3, false) }) (v := .bool false) rfl (by kernel_rfl) (by kernel_rfl) (by kernel_rfl) (fun _ _ _ h => h) (Or.inl ⟨by rfl, by intro w hSw; clear hSw; go_simp⟩) trivial ?_
              try simp only [Act.put, List.setIfInBounds_toArray, List.set_cons_zero, List.set_cons_succ]
              refine wpAnyH_take (i := 12) (oi := { dst := some 165, op := .pick (.tmp 156) (.const (Value.bool true)) (.tmp 164), type := 4, pos := "outright.go:135", after := #[{ on := 3, ground := .data }, { on := 11, ground := .data }], guard := none }) (v := .bool false) rfl (by kernel_rfl) (by kernel_rfl) (by kernel_rfl) (fun _ _ _ h => h) (Or.inl ⟨by rfl, by intro w hSw; clear hSw; go_simp⟩) trivial ?_
              try simp only [Act.put, List.setIfInBounds_toArray, List.set_cons_zero, List.set_cons_succ]
              refine wpAnyH_done (by kernel_rfl) ?_ _
              go_wp2
              go_roundw
              case rel =>
                first
                  | exact ⟨d, lv.1, _, rfl, by omega, rfl, HK11.out⟩
                  | exact ⟨d, by go_num, lv.1, by omega, HK11.out⟩
                  | exact ⟨d, lv.1, by go_num, by omega, HK11.out⟩
                  | exact ⟨d, by go_num, by omega, lv.1, HK11.out⟩
              case measure => simp [iv] <;> omega
  · have hn3 : (60 : Int) < n := by omega
    go_enter Try.func8, Try.ntmps8
    go_wp2_with fail
    refine KN.out.mono ?_
    rintro e w1 ⟨rfl, hb1⟩
    have B1 := Lib.hid hb1
    clear hb1
    go_wp2
    go_ret
    exact ⟨rfl, B1.out⟩
end Jn
end Go.Proofs.Ytogphhhlbofgkaa
