/-
  Pick; the statements' journal of six cells behind acts. Condition: the acts lie in memory as they come in.
-/
import Derived.Test.YtogphhhlbofgkaaJn20
namespace Go.Proofs.Ytogphhhlbofgkaa
open Go.RowKit Go.Shelf Go.Maps
set_option linter.unusedVariables false
namespace Jn
open Kk Pm Bk

theorem pick (x n : Int) (w : World) (x0 : -9223372036854775808 ≤ x) (x1 : x ≤ 9223372036854775807) (n0 : 0 < n) (n1 : n ≤ 4611686018427387904) :
    Calls Try.prog 20 #[.int .i64 x, .int .i64 n] w fun e w' => e = .returned (.int .i64 (x % n)) ∧ w = w' := by
  have t0 := Int.emod_nonneg x (b := n) (by omega)
  have t1 := Int.emod_lt_of_pos x n0
  have hb : (x.tmod n = x % n ∨ (x.tmod n < 0 ∧ x.tmod n + n = x % n)) ∧ -n < x.tmod n ∧ x.tmod n < n := by
    rw [Int.tmod_eq_emod]
    split <;> rename_i h
    · exact ⟨.inl (by omega), by omega, by omega⟩
    · have hne : x % n ≠ 0 := fun e => h (.inr (Int.dvd_of_emod_eq_zero e))
      exact ⟨.inr ⟨by omega, by omega⟩, by omega, by omega⟩
  obtain ⟨ht, b0⟩ := hb
  obtain ⟨T, hT⟩ : ∃ T, x.tmod n = T := ⟨_, rfl⟩
  have hw : IntKind.i64.wrap T = T := IntWalk.i64_in _ (by omega)
  rw [hT] at ht b0
  obtain ⟨E, hE⟩ : ∃ E, x % n = E := ⟨_, rfl⟩
  rw [hE] at ht t0 t1 ⊢
  clear hE
  rcases ht with h | ⟨h1, h2⟩
  · subst h
    go_enter Try.func20, Try.ntmps20
    go_wp2
    go_ret
    exact ⟨rfl, rfl⟩
  · have H2 := Lib.hid h2
    clear h2
    go_enter Try.func20, Try.ntmps20
    go_wp2
    go_ret
    exact ⟨by rw [← H2.out]; rfl, rfl⟩
theorem pick6 (x : Int) (w : World) (x0 : -9223372036854775808 ≤ x) (x1 : x ≤ 9223372036854775807) :
    Calls Try.prog 20 #[.int .i64 x, .int .i64 6] w fun e w' => e = .returned (.int .i64 (x % 6)) ∧ w = w' := pick x 6 w x0 x1 (by decide) (by decide)
theorem ActB.six {a i k u : Int} (h : ActB a i k u) : ActB a (i % 6) (k % 6) u :=
  ⟨h.a0, h.a1, by omega, by omega, by omega, by omega, h.u0, h.u1⟩
theorem actL_one (zs : List Int) (L : List Lv) (a i k u : Int) : (actL zs L a i k u).length ≤ L.length + 1 := by
  unfold actL
  split
  · unfold setL; split
    · rw [touch_len]; omega
    · omega
  · split
    · unfold addL; split
      · rw [touch_len]; omega
      · omega
    · split
      · unfold subL; split
        · rw [touch_len]; omega
        · omega
      · split
        · unfold movL; split
          · rw [touch_len, touch_len]; omega
          · omega
        · split
          · unfold begL; split
            · rw [List.length_cons]; omega
            · omega
          · split
            · have := keepS_len L; omega
            · split
              · have := undL_len L; omega
              · split
                · unfold backLL; split
                  · have := backL_le i.toNat L; omega
                  · omega
                · omega

theorem box_two {w V : World} {q : Nat} {a i k u i' k' : Int} {t : TypeId} (h : Blk V q #[.int .i64 a, .int .i64 i, .int .i64 k, .int .u64 u] t) (hb : Bel w V) (hq : w.heap.size ≤ q) :
    V.cell? ⟨q, 1, none⟩ = some (.int .i64 i) ∧ V.frozen? ⟨q, 1, none⟩ = false ∧ V.cell? ⟨q, 2, none⟩ = some (.int .i64 k) ∧ (V.setCell ⟨q, 1, none⟩ (.int .i64 i')).frozen? ⟨q, 2, none⟩ = false ∧
      Blk ((V.setCell ⟨q, 1, none⟩ (.int .i64 i')).setCell ⟨q, 2, none⟩ (.int .i64 k')) q #[.int .i64 a, .int .i64 i', .int .i64 k', .int .u64 u] t ∧ Bel w ((V.setCell ⟨q, 1, none⟩ (.int .i64 i')).setCell ⟨q, 2, none⟩ (.int .i64 k')) :=
  ⟨h.cell 1 rfl, h.frozen 1, h.cell 2 rfl, (h.set 1 _).frozen 2, (h.set 1 _).set 2 _, (hb.set hq _).set hq _⟩

set_option maxRecDepth 100000 in
set_option maxHeartbeats 4000000 in
theorem madeA (A : Option Addr) (n c : Nat) (w : World) (ha : Acts w A n) (hn : n ≤ 60) :
    Calls Try.prog 34 #[.slice A n c] w fun e w' => ∃ (pj : Nat) (zs : List Int) (L : List Lv), e = .returned (.pointer (some ⟨pj, 0, none⟩)) ∧ Nw w w' pj zs L ∧ L.length ≤ n := by
  have NE := Lib.hid (newN 6 w (by decide) (by decide))
  have HA := Lib.hid ha
  clear ha
  go_enter Try.func34, Try.ntmps34
  go_wp2_with fail
  refine NE.out.mono ?_
  rintro e w1 ⟨pj, rfl, h1⟩
  have H1 := Lib.hid h1
  clear h1
  go_wp2_with fail
  go_loopw [5] (fun i wr => ∃ (m : Nat) (zs : List Int) (L : List Lv), m ≤ n ∧ i = .int .i64 m ∧ L.length ≤ m ∧ Nw w wr pj zs L) (fun i _ => n - (iv i).toNat)
  case atStart => exact ⟨0, _, _, Nat.zero_le _, rfl, Nat.le_refl _, H1.out⟩
  case round =>
    obtain ⟨m, zs, L, hm, rfl, hl, hj⟩ := hrel
    have HL := Lib.hid hl
    have HJ := Lib.hid hj
    clear hl hj
    by_cases hmn : m < n
    · obtain ⟨b, o, rfl, hb, hi⟩ := (HA.out.bel HJ.out.belw) (by omega)
      obtain ⟨a, i, k, u, hB, hr⟩ := hi m hmn
      have hmn2 : (m : Int) < n := by omega
      have HBB := Lib.hid hB
      have r0 : wr.cell? ⟨b, o + m * 4, none⟩ = some (.int .i64 a) := hr 0 _ rfl
      have r1 : wr.cell? ⟨b, o + m * 4 + 1, none⟩ = some (.int .i64 i) := hr 1 _ rfl
      have r2 : wr.cell? ⟨b, o + m * 4 + 2, none⟩ = some (.int .i64 k) := hr 2 _ rfl
      have r3 : wr.cell? ⟨b, o + m * 4 + 3, none⟩ = some (.int .u64 u) := hr 3 _ rfl
      have P1 := Lib.hid (fun W => pick6 i W hB.i0 hB.i1)
      have P2 := Lib.hid (fun W => pick6 k W hB.k0 hB.k1)
      obtain ⟨q, hq⟩ : ∃ q, wr.heap.size = q := ⟨_, rfl⟩
      obtain ⟨W0, hW0⟩ : ∃ W0, wr.alloc (.cells #[.int .i64 a, .int .i64 i, .int .i64 k, .int .u64 u] 33) = W0 := ⟨_, rfl⟩
      have hbW : Bel wr W0 := by rw [← hW0]; exact (Bel.refl wr).alloc _
      have bq : Blk W0 q #[.int .i64 a, .int .i64 i, .int .i64 k, .int .u64 u] 33 := by rw [← hW0, ← hq]; exact Blk.new wr _ _
      have hqW : wr.heap.size ≤ q := by rw [hq]; exact Nat.le_refl _
      have HQ := Lib.hid hq
      have HW := Lib.hid hW0
      clear hi hr hB hq hW0
      go_upto_region 8 with fail
      rw [HQ.out, HW.out]
      clear r0 r1 r2 r3
      go_cut [6] (fun s6 wx => s6 = .pointer (some ⟨q, 0, none⟩) ∧ Hid (Blk wx q #[.int .i64 a, .int .i64 (i % 6), .int .i64 (k % 6), .int .u64 u] 33 ∧ Bel wr wx))
      case first =>
        refine wp_region_held_drew (S := fun _ => True) (by kernel_rfl) trivial (fun _ => ?_)
        obtain ⟨V0, hV0⟩ : ∃ v, World.drew W0 = v := ⟨_, rfl⟩
        rw [hV0]
        have bq0 : Blk V0 q #[.int .i64 a, .int .i64 i, .int .i64 k, .int .u64 u] 33 := by rw [← hV0]; exact bq.bel ((Bel.refl _).drew)
        have hb0 : Bel wr V0 := by rw [← hV0]; exact hbW.drew
        clear hV0
        have bt := box_two (i' := i % 6) (k' := k % 6) bq0 hb0 hqW
        have c1 := bt.1
        have f1 := bt.2.1
        have c2 := bt.2.2.1
        have f2 := bt.2.2.2.1
        have FT := Lib.hid bt.2.2.2.2
        clear bt bq0 hb0
        refine wpAnyH_take (i := 0) (oi := { dst := some 27, op := .fieldAddr 33 (.tmp 6) 1, type := 0, pos := "outright.go:65", after := #[], guard := none }) (v := .pointer (some ⟨q, 1, none⟩)) rfl (by kernel_rfl) (by kernel_rfl) (by kernel_rfl) (fun _ _ _ h => h) (Or.inl ⟨by rfl, by intro w hSw; clear hSw; go_simp⟩) trivial ?_
        try simp only [Act.put, List.setIfInBounds_toArray, List.set_cons_zero, List.set_cons_succ]
        refine wpAnyH_take (i := 3) (oi := { dst := some 30, op := .fieldAddr 33 (.tmp 6) 2, type := 0, pos := "outright.go:65", after := #[], guard := none }) (v := .pointer (some ⟨q, 2, none⟩)) rfl (by kernel_rfl) (by kernel_rfl) (by kernel_rfl) (fun _ _ _ h => h) (Or.inl ⟨by rfl, by intro w hSw; clear hSw; go_simp⟩) trivial ?_
        try simp only [Act.put, List.setIfInBounds_toArray, List.set_cons_zero, List.set_cons_succ]
        refine wpAnyH_ready (rs := [1, 4]) (by kernel_rfl) (by simp) ?_
        refine AllReadyH.cons (o := { dst := some 28, op := .load 3 (.tmp 27), type := 3, pos := "outright.go:65", after := #[{ on := 0, ground := .data }], guard := none }) rfl (fun K hK => ?_) (AllReadyH.cons (o := { dst := some 31, op := .load 3 (.tmp 30), type := 3, pos := "outright.go:65", after := #[{ on := 3, ground := .data }], guard := none }) rfl (fun K hK => ?_) AllReadyH.nil)
        · skip
          go_simp
          refine hK.out _ _ trivial (fun _ => ?_)
          clear hK K
          try simp only [Act.put, List.setIfInBounds_toArray, List.set_cons_zero, List.set_cons_succ]
          refine wpAnyH_ready (rs := [2, 4]) (by kernel_rfl) (by simp) ?_
          refine AllReadyH.cons (o := { dst := some 29, op := .call { callee := .value (.func 20), args := #[.tmp 28, .const (Value.int IntKind.i64 6)], argTypes := #[3, 3] }, type := 3, pos := "outright.go:65", after := #[{ on := 1, ground := .data }], guard := none }) rfl (fun K hK => ?_) (AllReadyH.cons (o := { dst := some 31, op := .load 3 (.tmp 30), type := 3, pos := "outright.go:65", after := #[{ on := 3, ground := .data }], guard := none }) rfl (fun K hK => ?_) AllReadyH.nil)
          · skip
            go_simp
            refine (P1.out _).mono ?_
            rintro e wp ⟨rfl, rfl⟩
            go_wp2_with fail
            refine hK.out _ _ trivial (fun _ => ?_)
            clear hK K
            try simp only [Act.put, List.setIfInBounds_toArray, List.set_cons_zero, List.set_cons_succ]
            refine wpAnyH_ready (rs := [4]) (by kernel_rfl) (by simp) ?_
            refine AllReadyH.cons (o := { dst := some 31, op := .load 3 (.tmp 30), type := 3, pos := "outright.go:65", after := #[{ on := 3, ground := .data }], guard := none }) rfl (fun K hK => ?_) AllReadyH.nil
            go_simp
            refine hK.out _ _ trivial (fun _ => ?_)
            clear hK K
            try simp only [Act.put, List.setIfInBounds_toArray, List.set_cons_zero, List.set_cons_succ]
            refine wpAnyH_take (i := 6) (oi := { dst := some 33, op := .fieldAddr 33 (.tmp 6) 1, type := 0, pos := "outright.go:65", after := #[{ on := 0, ground := .phase }, { on := 1, ground := .phase }, { on := 2, ground := .phase }, { on := 3, ground := .phase }, { on := 4, ground := .phase }, { on := 5, ground := .textOnly .lateStoresUnsure }], guard := none }) (v := .pointer (some ⟨q, 1, none⟩)) rfl (by kernel_rfl) (by kernel_rfl) (by kernel_rfl) (fun _ _ _ h => h) (Or.inl ⟨by rfl, by intro w hSw; clear hSw; go_simp⟩) trivial ?_
            try simp only [Act.put, List.setIfInBounds_toArray, List.set_cons_zero, List.set_cons_succ]
            refine wpAnyH_ready (rs := [5]) (by kernel_rfl) (by simp) ?_
            refine AllReadyH.cons (o := { dst := some 32, op := .call { callee := .value (.func 20), args := #[.tmp 31, .const (Value.int IntKind.i64 6)], argTypes := #[3, 3] }, type := 3, pos := "outright.go:65", after := #[{ on := 4, ground := .data }, { on := 2, ground := .chain }], guard := none }) rfl (fun K hK => ?_) AllReadyH.nil
            go_simp
            refine (P2.out _).mono ?_
            rintro e wp ⟨rfl, rfl⟩
            go_wp2_with fail
            refine hK.out _ _ trivial (fun _ => ?_)
            clear hK K
            try simp only [Act.put, List.setIfInBounds_toArray, List.set_cons_zero, List.set_cons_succ]
            refine wpAnyH_ready (rs := [7]) (by kernel_rfl) (by simp) ?_
            refine AllReadyH.cons (o := { dst := none, op := .store 3 (.tmp 33) (.tmp 29), type := 0, pos := "outright.go:65", after := #[{ on := 6, ground := .data }, { on := 2, ground := .data }, { on := 5, ground := .chain }, { on := 0, ground := .phase }, { on := 1, ground := .phase }, { on := 2, ground := .phase }, { on := 3, ground := .phase }, { on := 4, ground := .phase }, { on := 5, ground := .textOnly .lateStoresUnsure }], guard := none }) rfl (fun K hK => ?_) AllReadyH.nil
            go_simp
            refine hK.out _ _ trivial (fun _ => ?_)
            clear hK K
            try simp only [Act.put, List.setIfInBounds_toArray, List.set_cons_zero, List.set_cons_succ]
            refine wpAnyH_take (i := 8) (oi := { dst := some 34, op := .fieldAddr 33 (.tmp 6) 2, type := 0, pos := "outright.go:65", after := #[{ on := 0, ground := .phase }, { on := 1, ground := .phase }, { on := 2, ground := .phase }, { on := 3, ground := .phase }, { on := 4, ground := .phase }, { on := 5, ground := .phase }, { on := 6, ground := .phase }, { on := 7, ground := .phase }], guard := none }) (v := .pointer (some ⟨q, 2, none⟩)) rfl (by kernel_rfl) (by kernel_rfl) (by kernel_rfl) (fun _ _ _ h => h) (Or.inl ⟨by rfl, by intro w hSw; clear hSw; go_simp⟩) trivial ?_
            try simp only [Act.put, List.setIfInBounds_toArray, List.set_cons_zero, List.set_cons_succ]
            refine wpAnyH_ready (rs := [9]) (by kernel_rfl) (by simp) ?_
            refine AllReadyH.cons (o := { dst := none, op := .store 3 (.tmp 34) (.tmp 32), type := 0, pos := "outright.go:65", after := #[{ on := 8, ground := .data }, { on := 5, ground := .data }, { on := 7, ground := .chain }, { on := 0, ground := .phase }, { on := 1, ground := .phase }, { on := 2, ground := .phase }, { on := 3, ground := .phase }, { on := 4, ground := .phase }, { on := 5, ground := .phase }, { on := 6, ground := .phase }, { on := 7, ground := .phase }], guard := none }) rfl (fun K hK => ?_) AllReadyH.nil
            go_simp
            refine hK.out _ _ trivial (fun _ => ?_)
            clear hK K
            try simp only [Act.put, List.setIfInBounds_toArray, List.set_cons_zero, List.set_cons_succ]
            refine wpAnyH_done (by kernel_rfl) ?_ _
            go_wp2_with fail
            go_meet
            exact ⟨rfl, Lib.hid FT.out⟩
          · skip
            go_simp
            refine hK.out _ _ trivial (fun _ => ?_)
            clear hK K
            try simp only [Act.put, List.setIfInBounds_toArray, List.set_cons_zero, List.set_cons_succ]
            refine wpAnyH_ready (rs := [2]) (by kernel_rfl) (by simp) ?_
            refine AllReadyH.cons (o := { dst := some 29, op := .call { callee := .value (.func 20), args := #[.tmp 28, .const (Value.int IntKind.i64 6)], argTypes := #[3, 3] }, type := 3, pos := "outright.go:65", after := #[{ on := 1, ground := .data }], guard := none }) rfl (fun K hK => ?_) AllReadyH.nil
            go_simp
            refine (P1.out _).mono ?_
            rintro e wp ⟨rfl, rfl⟩
            go_wp2_with fail
            refine hK.out _ _ trivial (fun _ => ?_)
            clear hK K
            try simp only [Act.put, List.setIfInBounds_toArray, List.set_cons_zero, List.set_cons_succ]
            refine wpAnyH_take (i := 6) (oi := { dst := some 33, op := .fieldAddr 33 (.tmp 6) 1, type := 0, pos := "outright.go:65", after := #[{ on := 0, ground := .phase }, { on := 1, ground := .phase }, { on := 2, ground := .phase }, { on := 3, ground := .phase }, { on := 4, ground := .phase }, { on := 5, ground := .textOnly .lateStoresUnsure }], guard := none }) (v := .pointer (some ⟨q, 1, none⟩)) rfl (by kernel_rfl) (by kernel_rfl) (by kernel_rfl) (fun _ _ _ h => h) (Or.inl ⟨by rfl, by intro w hSw; clear hSw; go_simp⟩) trivial ?_
            try simp only [Act.put, List.setIfInBounds_toArray, List.set_cons_zero, List.set_cons_succ]
            refine wpAnyH_ready (rs := [5]) (by kernel_rfl) (by simp) ?_
            refine AllReadyH.cons (o := { dst := some 32, op := .call { callee := .value (.func 20), args := #[.tmp 31, .const (Value.int IntKind.i64 6)], argTypes := #[3, 3] }, type := 3, pos := "outright.go:65", after := #[{ on := 4, ground := .data }, { on := 2, ground := .chain }], guard := none }) rfl (fun K hK => ?_) AllReadyH.nil
            go_simp
            refine (P2.out _).mono ?_
            rintro e wp ⟨rfl, rfl⟩
            go_wp2_with fail
            refine hK.out _ _ trivial (fun _ => ?_)
            clear hK K
            try simp only [Act.put, List.setIfInBounds_toArray, List.set_cons_zero, List.set_cons_succ]
            refine wpAnyH_ready (rs := [7]) (by kernel_rfl) (by simp) ?_
            refine AllReadyH.cons (o := { dst := none, op := .store 3 (.tmp 33) (.tmp 29), type := 0, pos := "outright.go:65", after := #[{ on := 6, ground := .data }, { on := 2, ground := .data }, { on := 5, ground := .chain }, { on := 0, ground := .phase }, { on := 1, ground := .phase }, { on := 2, ground := .phase }, { on := 3, ground := .phase }, { on := 4, ground := .phase }, { on := 5, ground := .textOnly .lateStoresUnsure }], guard := none }) rfl (fun K hK => ?_) AllReadyH.nil
            go_simp
            refine hK.out _ _ trivial (fun _ => ?_)
            clear hK K
            try simp only [Act.put, List.setIfInBounds_toArray, List.set_cons_zero, List.set_cons_succ]
            refine wpAnyH_take (i := 8) (oi := { dst := some 34, op := .fieldAddr 33 (.tmp 6) 2, type := 0, pos := "outright.go:65", after := #[{ on := 0, ground := .phase }, { on := 1, ground := .phase }, { on := 2, ground := .phase }, { on := 3, ground := .phase }, { on := 4, ground := .phase }, { on := 5, ground := .phase }, { on := 6, ground := .phase }, { on := 7, ground := .phase }], guard := none }) (v := .pointer (some ⟨q, 2, none⟩)) rfl (by kernel_rfl) (by kernel_rfl) (by kernel_rfl) (fun _ _ _ h => h) (Or.inl ⟨by rfl, by intro w hSw; clear hSw; go_simp⟩) trivial ?_
            try simp only [Act.put, List.setIfInBounds_toArray, List.set_cons_zero, List.set_cons_succ]
            refine wpAnyH_ready (rs := [9]) (by kernel_rfl) (by simp) ?_
            refine AllReadyH.cons (o := { dst := none, op := .store 3 (.tmp 34) (.tmp 32), type := 0, pos := "outright.go:65", after := #[{ on := 8, ground := .data }, { on := 5, ground := .data }, { on := 7, ground := .chain }, { on := 0, ground := .phase }, { on := 1, ground := .phase }, { on := 2, ground := .phase }, { on := 3, ground := .phase }, { on := 4, ground := .phase }, { on := 5, ground := .phase }, { on := 6, ground := .phase }, { on := 7, ground := .phase }], guard := none }) rfl (fun K hK => ?_) AllReadyH.nil
            go_simp
            refine hK.out _ _ trivial (fun _ => ?_)
            clear hK K
            try simp only [Act.put, List.setIfInBounds_toArray, List.set_cons_zero, List.set_cons_succ]
            refine wpAnyH_done (by kernel_rfl) ?_ _
            go_wp2_with fail
            go_meet
            exact ⟨rfl, Lib.hid FT.out⟩
        · skip
          go_simp
          refine hK.out _ _ trivial (fun _ => ?_)
          clear hK K
          try simp only [Act.put, List.setIfInBounds_toArray, List.set_cons_zero, List.set_cons_succ]
          refine wpAnyH_ready (rs := [1]) (by kernel_rfl) (by simp) ?_
          refine AllReadyH.cons (o := { dst := some 28, op := .load 3 (.tmp 27), type := 3, pos := "outright.go:65", after := #[{ on := 0, ground := .data }], guard := none }) rfl (fun K hK => ?_) AllReadyH.nil
          go_simp
          refine hK.out _ _ trivial (fun _ => ?_)
          clear hK K
          try simp only [Act.put, List.setIfInBounds_toArray, List.set_cons_zero, List.set_cons_succ]
          refine wpAnyH_ready (rs := [2]) (by kernel_rfl) (by simp) ?_
          refine AllReadyH.cons (o := { dst := some 29, op := .call { callee := .value (.func 20), args := #[.tmp 28, .const (Value.int IntKind.i64 6)], argTypes := #[3, 3] }, type := 3, pos := "outright.go:65", after := #[{ on := 1, ground := .data }], guard := none }) rfl (fun K hK => ?_) AllReadyH.nil
          go_simp
          refine (P1.out _).mono ?_
          rintro e wp ⟨rfl, rfl⟩
          go_wp2_with fail
          refine hK.out _ _ trivial (fun _ => ?_)
          clear hK K
          try simp only [Act.put, List.setIfInBounds_toArray, List.set_cons_zero, List.set_cons_succ]
          refine wpAnyH_take (i := 6) (oi := { dst := some 33, op := .fieldAddr 33 (.tmp 6) 1, type := 0, pos := "outright.go:65", after := #[{ on := 0, ground := .phase }, { on := 1, ground := .phase }, { on := 2, ground := .phase }, { on := 3, ground := .phase }, { on := 4, ground := .phase }, { on := 5, ground := .textOnly .lateStoresUnsure }], guard := none }) (v := .pointer (some ⟨q, 1, none⟩)) rfl (by kernel_rfl) (by kernel_rfl) (by kernel_rfl) (fun _ _ _ h => h) (Or.inl ⟨by rfl, by intro w hSw; clear hSw; go_simp⟩) trivial ?_
          try simp only [Act.put, List.setIfInBounds_toArray, List.set_cons_zero, List.set_cons_succ]
          refine wpAnyH_ready (rs := [5]) (by kernel_rfl) (by simp) ?_
          refine AllReadyH.cons (o := { dst := some 32, op := .call { callee := .value (.func 20), args := #[.tmp 31, .const (Value.int IntKind.i64 6)], argTypes := #[3, 3] }, type := 3, pos := "outright.go:65", after := #[{ on := 4, ground := .data }, { on := 2, ground := .chain }], guard := none }) rfl (fun K hK => ?_) AllReadyH.nil
          go_simp
          refine (P2.out _).mono ?_
          rintro e wp ⟨rfl, rfl⟩
          go_wp2_with fail
          refine hK.out _ _ trivial (fun _ => ?_)
          clear hK K
          try simp only [Act.put, List.setIfInBounds_toArray, List.set_cons_zero, List.set_cons_succ]
          refine wpAnyH_ready (rs := [7]) (by kernel_rfl) (by simp) ?_
          refine AllReadyH.cons (o := { dst := none, op := .store 3 (.tmp 33) (.tmp 29), type := 0, pos := "outright.go:65", after := #[{ on := 6, ground := .data }, { on := 2, ground := .data }, { on := 5, ground := .chain }, { on := 0, ground := .phase }, { on := 1, ground := .phase }, { on := 2, ground := .phase }, { on := 3, ground := .phase }, { on := 4, ground := .phase }, { on := 5, ground := .textOnly .lateStoresUnsure }], guard := none }) rfl (fun K hK => ?_) AllReadyH.nil
          go_simp
          refine hK.out _ _ trivial (fun _ => ?_)
          clear hK K
          try simp only [Act.put, List.setIfInBounds_toArray, List.set_cons_zero, List.set_cons_succ]
          refine wpAnyH_take (i := 8) (oi := { dst := some 34, op := .fieldAddr 33 (.tmp 6) 2, type := 0, pos := "outright.go:65", after := #[{ on := 0, ground := .phase }, { on := 1, ground := .phase }, { on := 2, ground := .phase }, { on := 3, ground := .phase }, { on := 4, ground := .phase }, { on := 5, ground := .phase }, { on := 6, ground := .phase }, { on := 7, ground := .phase }], guard := none }) (v := .pointer (some ⟨q, 2, none⟩)) rfl (by kernel_rfl) (by kernel_rfl) (by kernel_rfl) (fun _ _ _ h => h) (Or.inl ⟨by rfl, by intro w hSw; clear hSw; go_simp⟩) trivial ?_
          try simp only [Act.put, List.setIfInBounds_toArray, List.set_cons_zero, List.set_cons_succ]
          refine wpAnyH_ready (rs := [9]) (by kernel_rfl) (by simp) ?_
          refine AllReadyH.cons (o := { dst := none, op := .store 3 (.tmp 34) (.tmp 32), type := 0, pos := "outright.go:65", after := #[{ on := 8, ground := .data }, { on := 5, ground := .data }, { on := 7, ground := .chain }, { on := 0, ground := .phase }, { on := 1, ground := .phase }, { on := 2, ground := .phase }, { on := 3, ground := .phase }, { on := 4, ground := .phase }, { on := 5, ground := .phase }, { on := 6, ground := .phase }, { on := 7, ground := .phase }], guard := none }) rfl (fun K hK => ?_) AllReadyH.nil
          go_simp
          refine hK.out _ _ trivial (fun _ => ?_)
          clear hK K
          try simp only [Act.put, List.setIfInBounds_toArray, List.set_cons_zero, List.set_cons_succ]
          refine wpAnyH_done (by kernel_rfl) ?_ _
          go_wp2_with fail
          go_meet
          exact ⟨rfl, Lib.hid FT.out⟩
      case rest =>
        obtain ⟨rfl, HX⟩ := hcut
        have c0 := HX.out.1.cell 0 rfl
        have c1 := HX.out.1.cell 1 rfl
        have c2 := HX.out.1.cell 2 rfl
        have c3 := HX.out.1.cell 3 rfl
        have HJX := Lib.hid (HJ.out.bel HX.out.2)
        have DN := Lib.hid (doesN HJX.out (Nat.le_trans HL.out (by omega)) a (i % 6) (k % 6) u HBB.out.six)
        have LE := Lib.hid (actL_one zs L a (i % 6) (k % 6) u)
        clear bq hbW hqW
        by_cases ha7 : a = 7
        · subst ha7
          go_wp2
          go_roundw
          case rel =>
            first
              | exact ⟨m + 1, zs, L, by omega, by go_num, Nat.le_succ_of_le HL.out, HJX.out⟩
              | exact ⟨m + 1, by omega, by go_num, zs, L, Nat.le_succ_of_le HL.out, HJX.out⟩
          case measure => simp [iv]; omega
        · have ha7b : (a == 7) = false := by simp [ha7]
          go_wp2_with fail
          refine DN.out.mono ?_
          rintro e w5 ⟨rfl, h5⟩
          have H5 := Lib.hid h5
          clear h5 c0 c1 c2 c3
          go_wp2
          go_roundw
          case rel =>
            first
              | exact ⟨m + 1, _, _, by omega, by go_num, Nat.le_trans LE.out (Nat.succ_le_succ HL.out), H5.out⟩
              | exact ⟨m + 1, by omega, by go_num, _, _, Nat.le_trans LE.out (Nat.succ_le_succ HL.out), H5.out⟩
          case measure => simp [iv]; omega
    · obtain rfl : m = n := by omega
      go_wp2
      go_ret
      exact ⟨pj, zs, L, rfl, HJ.out, HL.out⟩
end Jn
end Go.Proofs.Ytogphhhlbofgkaa
