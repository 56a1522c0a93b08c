/-
  What the law HopLists answers: true, for every list, hop and numbers. Condition: the numbers are ints.
-/
import Derived.Test.YtahhnfnonekbmaaHp10
namespace Go.Proofs.Ytahhnfnonekbmaa
open Go.RowKit Go.Shelf
set_option linter.unusedVariables false
set_option linter.unusedSimpArgs false
namespace Hp
open Kk Pm

theorem own_lt {w : World} {base b : Nat} {v : Value} {l : List R4} (h : OwnH w base v l) (hb : v.ownBlock = some b) : b < w.heap.size := (Rw.own_blk h hb).elim fun _ hC => hC.lt
theorem own_addr {w : World} {base : Nat} {A : Option Addr} {n c : Nat} {l : List R4} (h : OwnH w base (.slice A n c) l) {x : Addr} (hx : A = some x) : (Value.slice A n c).ownBlock = some x.block := by subst hx; rfl
theorem halves_at {w : World} {base : Nat} {A1 A2 : Option Addr} {n1 c1 n2 c2 : Nat} {l1 l2 : List R4} (h : Halves w base A1 n1 c1 A2 n2 c2 l1 l2) : (∀ k, (0 < n1 ∧ ∃ x : Addr, A1 = some x ∧ x.block = k) → base ≤ k ∧ k < w.heap.size) ∧ (∀ k, (0 < n2 ∧ ∃ x : Addr, A2 = some x ∧ x.block = k) → base ≤ k ∧ k < w.heap.size) := by
  rcases h.g with ⟨h1, h2⟩ | ⟨g, cur, h1, h2, h3, h4, h5⟩
  · exact ⟨fun k hk => absurd hk.1 (by omega), fun k hk => absurd hk.1 (by omega)⟩
  · refine ⟨fun k hk => ?_, fun k hk => ?_⟩
    · obtain ⟨h0, x, hx, rfl⟩ := hk
      rw [h3 h0] at hx
      injection hx with hx
      subst hx
      exact ⟨h1, h2.lt⟩
    · obtain ⟨h0, x, hx, rfl⟩ := hk
      rw [h4 h0] at hx
      injection hx with hx
      subst hx
      exact ⟨h1, h2.lt⟩
set_option maxRecDepth 100000 in
set_option maxHeartbeats 16000000 in
theorem listsLaw (A : Option Addr) (n c : Nat) (l : List R4) (x1 x2 x3 x4 m h u : Int) (w : World) (hi : Rw.RS hR w A n c l) (h3 : ∀ r ∈ l, W3 r) (hx1 : I64 x1) (hx2 : I64 x2) (hx3 : I64 x3) :
    Calls Try.prog 3 #[.slice A n c, .agg #[.int .i64 x1, .int .i64 x2, .int .i64 x3, .int .i64 x4], .int .i64 m, .int .i64 h, .int .i64 u] w fun e w' => e = .returned (.bool true) ∧ Bel w w' := by
  have P0 := Lib.hid (Blk.new w #[.int .i64 x1, .int .i64 x2, .int .i64 x3, .int .i64 x4] 24)
  obtain ⟨W, hW⟩ : ∃ W, w.alloc (.cells #[.int .i64 x1, .int .i64 x2, .int .i64 x3, .int .i64 x4] 24) = W := ⟨_, rfl⟩
  have BW := Lib.hid (show Bel w W by rw [← hW]; exact (Bel.refl w).alloc _)
  rw [hW] at P0
  have HI := Lib.hid (hi.bel BW.out)
  have HLN := Lib.hid hi.len
  have H3 := Lib.hid h3
  have HXX := Lib.hid (⟨hx1, hx2, hx3⟩ : I64 x1 ∧ I64 x2 ∧ I64 x3)
  clear hi h3 hx1 hx2 hx3
  by_cases hlong : 60 < n
  · have AW := Lib.hid (awake W)
    have hlong3 : (60 : Int) < n := by omega
    go_enter Try.func3, Try.ntmps3
    go_wp2_with fail
    try rw [hW]
    refine AW.out.mono ?_
    rintro e w1 ⟨rfl, kb⟩
    have KB := Lib.hid (BW.out.trans kb)
    clear kb
    go_wp2_with fail
    go_ret
    exact ⟨rfl, KB.out⟩
  have hlong3 : ¬ (60 : Int) < n := by omega
  have HN := Lib.hid (show n ≤ 1000000 by omega)
  have CP := Lib.hid (copy A n c l W HI.out (by omega))
  go_enter Try.func3, Try.ntmps3
  go_upto_region 1 with fail
  try rw [hW]
  obtain ⟨p, hp⟩ : ∃ p, w.heap.size = p := ⟨_, rfl⟩
  rw [hp] at P0 ⊢
  clear hW hp
  go_wp2_with fail
  refine CP.out.mono ?_
  rintro e w1 ⟨vc, rfl, hc, kb⟩
  obtain ⟨Ac, cc, rfl, hcr⟩ := hc.slice
  rw [HLN.out] at hcr ⊢
  have HC := Lib.hid hcr
  have P1 := Lib.hid (P0.out.bel kb)
  have BW1 := Lib.hid (BW.out.trans kb)
  have I1 := Lib.hid (HI.out.bel kb)
  clear kb hc hcr CP P0 HI
  have C1 := Lib.hid (check Ac n cc l w1 HC.out (by have := HN.out; omega))
  obtain ⟨e1, he1⟩ : ∃ e, (chk l).1 = e := ⟨_, rfl⟩
  obtain ⟨e2, he2⟩ : ∃ e, (chk l).2 = e := ⟨_, rfl⟩
  have C2 := Lib.hid (fun V (hv : Bel w1 V) => checkR A n c l V (I1.out.bel hv) (by have := HN.out; omega))
  rw [he1, he2] at C1 C2
  clear he1 he2
  go_wp2_with fail
  refine C1.out.mono ?_
  rintro e w2 ⟨rfl, kb⟩
  have K2 := Lib.hid kb
  clear kb C1
  go_wp2_with fail
  refine (C2.out _ K2.out).mono ?_
  rintro e w3 ⟨rfl, kb⟩
  have K3 := Lib.hid (K2.out.trans kb)
  clear kb C2
  have N1 := Lib.hid (next Ac n cc l u w3 (HC.out.bel K3.out) HN.out)
  have N2 := Lib.hid (fun V (hv : Bel w1 V) => nextR A n c l u V (I1.out.bel hv) HN.out)
  obtain ⟨y1, hy1⟩ : ∃ e, (nxt l u).1 = e := ⟨_, rfl⟩
  obtain ⟨y2, hy2⟩ : ∃ e, (nxt l u).2 = e := ⟨_, rfl⟩
  rw [hy1, hy2] at N1 N2
  clear hy1 hy2
  go_wp2_with fail
  refine N1.out.mono ?_
  rintro e w4 ⟨rfl, kb⟩
  have K4 := Lib.hid (K3.out.trans kb)
  clear kb N1
  go_wp2_with fail
  refine (N2.out _ K4.out).mono ?_
  rintro e w5 ⟨rfl, kb⟩
  have K5 := Lib.hid (K4.out.trans kb)
  clear kb N2
  have BW5 := Lib.hid (BW1.out.trans K5.out)
  have HC5 := Lib.hid (HC.out.bel K5.out)
  have P5 := Lib.hid (P1.out.bel K5.out)
  have I5 := Lib.hid (I1.out.bel K5.out)
  have CN := Lib.hid (fun V (hv : Bel w5 V) => count Ac n cc l x1 x2 x3 V (HC5.out.bel hv) (by have := HN.out; omega) H3.out HXX.out.1 HXX.out.2.1 HXX.out.2.2)
  have CN2 := Lib.hid (fun V (hv : Bel w5 V) => countR A n c l x1 x2 x3 V (I5.out.bel hv) (by have := HN.out; omega))
  obtain ⟨C, hC⟩ : ∃ C, cnt l x1 x2 x3 = C := ⟨_, rfl⟩
  rw [hC] at CN CN2
  clear hC K2 K3 K4 HC P1 I1 K5
  go_upto_region 8 with fail
  refine wp_region_held_drew (S := fun Vx => Bel w5 Vx) (by kernel_rfl) (Bel.refl _).drew (fun hS0 => ?_)
  obtain ⟨w6, hw6⟩ : ∃ w6, World.drew w5 = w6 := ⟨_, rfl⟩
  rw [hw6] at hS0 ⊢
  clear hw6
  refine wpAnyH_take (i := 0) (oi := { dst := some 58, op := .move (.tmp 12), type := 27, pos := "law.go:28", after := #[], guard := none }) (v := .int .i64 e1) rfl (by kernel_rfl) (by kernel_rfl) (by kernel_rfl) (fun _ _ _ h => h) (Or.inl ⟨by rfl, by intro w hSw; clear hSw; go_simp⟩) hS0 ?_
  try simp only [Act.put, List.setIfInBounds_toArray, List.set_cons_zero, List.set_cons_succ]
  refine wpAnyH_take (i := 1) (oi := { dst := some 59, op := .move (.tmp 14), type := 27, pos := "law.go:28", after := #[], guard := none }) (v := .int .i64 e1) rfl (by kernel_rfl) (by kernel_rfl) (by kernel_rfl) (fun _ _ _ h => h) (Or.inl ⟨by rfl, by intro w hSw; clear hSw; go_simp⟩) hS0 ?_
  try simp only [Act.put, List.setIfInBounds_toArray, List.set_cons_zero, List.set_cons_succ]
  refine wpAnyH_take (i := 2) (oi := { dst := some 60, op := .binOp .neq 27 (.tmp 58) (.tmp 59) 27, type := 4, pos := "law.go:28", after := #[{ on := 0, ground := .data }, { on := 1, ground := .data }], guard := none }) (v := .bool false) rfl (by kernel_rfl) (by kernel_rfl) (by kernel_rfl) (fun _ _ _ h => h) (Or.inl ⟨by rfl, by intro w hSw; clear hSw; go_simp⟩) hS0 ?_
  try simp only [Act.put, List.setIfInBounds_toArray, List.set_cons_zero, List.set_cons_succ]
  refine wpAnyH_take (i := 3) (oi := { dst := some 61, op := .move (.tmp 60), type := 4, pos := "law.go:28", after := #[{ on := 2, ground := .data }], guard := none }) (v := .bool false) rfl (by kernel_rfl) (by kernel_rfl) (by kernel_rfl) (fun _ _ _ h => h) (Or.inl ⟨by rfl, by intro w hSw; clear hSw; go_simp⟩) hS0 ?_
  try simp only [Act.put, List.setIfInBounds_toArray, List.set_cons_zero, List.set_cons_succ]
  refine wpAnyH_take (i := 4) (oi := { dst := some 62, op := .move (.tmp 13), type := 3, pos := "law.go:28", after := #[{ on := 3, ground := .guard }], guard := some (3, false) }) (v := .int .i64 e2) rfl (by kernel_rfl) (by kernel_rfl) (by kernel_rfl) (fun _ _ _ h => h) (Or.inl ⟨by rfl, by intro w hSw; clear hSw; go_simp⟩) hS0 ?_
  try simp only [Act.put, List.setIfInBounds_toArray, List.set_cons_zero, List.set_cons_succ]
  refine wpAnyH_take (i := 5) (oi := { dst := some 63, op := .move (.tmp 15), type := 3, pos := "law.go:28", after := #[{ on := 3, ground := .guard }], guard := some (3, false) }) (v := .int .i64 e2) rfl (by kernel_rfl) (by kernel_rfl) (by kernel_rfl) (fun _ _ _ h => h) (Or.inl ⟨by rfl, by intro w hSw; clear hSw; go_simp⟩) hS0 ?_
  try simp only [Act.put, List.setIfInBounds_toArray, List.set_cons_zero, List.set_cons_succ]
  refine wpAnyH_take (i := 6) (oi := { dst := some 64, op := .binOp .neq 3 (.tmp 62) (.tmp 63) 3, type := 4, pos := "law.go:28", after := #[{ on := 4, ground := .data }, { on := 5, ground := .data }, { on := 3, ground := .guard }], guard := some (3, false) }) (v := .bool false) rfl (by kernel_rfl) (by kernel_rfl) (by kernel_rfl) (fun _ _ _ h => h) (Or.inl ⟨by rfl, by intro w hSw; clear hSw; go_simp⟩) hS0 ?_
  try simp only [Act.put, List.setIfInBounds_toArray, List.set_cons_zero, List.set_cons_succ]
  refine wpAnyH_take (i := 7) (oi := { dst := some 65, op := .pick (.tmp 61) (.const (Value.bool true)) (.tmp 64), type := 4, pos := "law.go:28", after := #[{ on := 3, ground := .data }, { on := 6, ground := .data }], guard := none }) (v := .bool false) rfl (by kernel_rfl) (by kernel_rfl) (by kernel_rfl) (fun _ _ _ h => h) (Or.inl ⟨by rfl, by intro w hSw; clear hSw; go_simp⟩) hS0 ?_
  try simp only [Act.put, List.setIfInBounds_toArray, List.set_cons_zero, List.set_cons_succ]
  refine wpAnyH_take (i := 8) (oi := { dst := some 66, op := .move (.tmp 65), type := 4, pos := "law.go:28", after := #[{ on := 7, ground := .data }, { on := 3, ground := .chain }], guard := none }) (v := .bool false) rfl (by kernel_rfl) (by kernel_rfl) (by kernel_rfl) (fun _ _ _ h => h) (Or.inl ⟨by rfl, by intro w hSw; clear hSw; go_simp⟩) hS0 ?_
  try simp only [Act.put, List.setIfInBounds_toArray, List.set_cons_zero, List.set_cons_succ]
  refine wpAnyH_take (i := 9) (oi := { dst := some 67, op := .move (.tmp 16), type := 3, pos := "law.go:28", after := #[{ on := 8, ground := .guard }], guard := some (8, false) }) (v := .int .i64 y1) rfl (by kernel_rfl) (by kernel_rfl) (by kernel_rfl) (fun _ _ _ h => h) (Or.inl ⟨by rfl, by intro w hSw; clear hSw; go_simp⟩) hS0 ?_
  try simp only [Act.put, List.setIfInBounds_toArray, List.set_cons_zero, List.set_cons_succ]
  refine wpAnyH_take (i := 10) (oi := { dst := some 68, op := .move (.tmp 18), type := 3, pos := "law.go:28", after := #[{ on := 8, ground := .guard }], guard := some (8, false) }) (v := .int .i64 y1) rfl (by kernel_rfl) (by kernel_rfl) (by kernel_rfl) (fun _ _ _ h => h) (Or.inl ⟨by rfl, by intro w hSw; clear hSw; go_simp⟩) hS0 ?_
  try simp only [Act.put, List.setIfInBounds_toArray, List.set_cons_zero, List.set_cons_succ]
  refine wpAnyH_take (i := 11) (oi := { dst := some 69, op := .binOp .neq 3 (.tmp 67) (.tmp 68) 3, type := 4, pos := "law.go:28", after := #[{ on := 9, ground := .data }, { on := 10, ground := .data }, { on := 8, ground := .guard }], guard := some (8, false) }) (v := .bool false) rfl (by kernel_rfl) (by kernel_rfl) (by kernel_rfl) (fun _ _ _ h => h) (Or.inl ⟨by rfl, by intro w hSw; clear hSw; go_simp⟩) hS0 ?_
  try simp only [Act.put, List.setIfInBounds_toArray, List.set_cons_zero, List.set_cons_succ]
  refine wpAnyH_take (i := 12) (oi := { dst := some 70, op := .pick (.tmp 66) (.const (Value.bool true)) (.tmp 69), type := 4, pos := "law.go:28", after := #[{ on := 8, ground := .data }, { on := 11, ground := .data }], guard := none }) (v := .bool false) rfl (by kernel_rfl) (by kernel_rfl) (by kernel_rfl) (fun _ _ _ h => h) (Or.inl ⟨by rfl, by intro w hSw; clear hSw; go_simp⟩) hS0 ?_
  try simp only [Act.put, List.setIfInBounds_toArray, List.set_cons_zero, List.set_cons_succ]
  refine wpAnyH_take (i := 13) (oi := { dst := some 71, op := .move (.tmp 70), type := 4, pos := "law.go:28", after := #[{ on := 12, ground := .data }, { on := 8, ground := .chain }], guard := none }) (v := .bool false) rfl (by kernel_rfl) (by kernel_rfl) (by kernel_rfl) (fun _ _ _ h => h) (Or.inl ⟨by rfl, by intro w hSw; clear hSw; go_simp⟩) hS0 ?_
  try simp only [Act.put, List.setIfInBounds_toArray, List.set_cons_zero, List.set_cons_succ]
  refine wpAnyH_take (i := 14) (oi := { dst := some 72, op := .move (.tmp 17), type := 4, pos := "law.go:28", after := #[{ on := 13, ground := .guard }], guard := some (13, false) }) (v := .bool y2) rfl (by kernel_rfl) (by kernel_rfl) (by kernel_rfl) (fun _ _ _ h => h) (Or.inl ⟨by rfl, by intro w hSw; clear hSw; go_simp⟩) hS0 ?_
  try simp only [Act.put, List.setIfInBounds_toArray, List.set_cons_zero, List.set_cons_succ]
  refine wpAnyH_take (i := 15) (oi := { dst := some 73, op := .move (.tmp 19), type := 4, pos := "law.go:28", after := #[{ on := 13, ground := .guard }], guard := some (13, false) }) (v := .bool y2) rfl (by kernel_rfl) (by kernel_rfl) (by kernel_rfl) (fun _ _ _ h => h) (Or.inl ⟨by rfl, by intro w hSw; clear hSw; go_simp⟩) hS0 ?_
  try simp only [Act.put, List.setIfInBounds_toArray, List.set_cons_zero, List.set_cons_succ]
  refine wpAnyH_take (i := 16) (oi := { dst := some 74, op := .binOp .neq 4 (.tmp 72) (.tmp 73) 4, type := 4, pos := "law.go:28", after := #[{ on := 14, ground := .data }, { on := 15, ground := .data }, { on := 13, ground := .guard }], guard := some (13, false) }) (v := .bool false) rfl (by kernel_rfl) (by kernel_rfl) (by kernel_rfl) (fun _ _ _ h => h) (Or.inl ⟨by rfl, by intro w hSw; clear hSw; go_simp⟩) hS0 ?_
  try simp only [Act.put, List.setIfInBounds_toArray, List.set_cons_zero, List.set_cons_succ]
  refine wpAnyH_take (i := 17) (oi := { dst := some 75, op := .pick (.tmp 71) (.const (Value.bool true)) (.tmp 74), type := 4, pos := "law.go:28", after := #[{ on := 13, ground := .data }, { on := 16, ground := .data }], guard := none }) (v := .bool false) rfl (by kernel_rfl) (by kernel_rfl) (by kernel_rfl) (fun _ _ _ h => h) (Or.inl ⟨by rfl, by intro w hSw; clear hSw; go_simp⟩) hS0 ?_
  try simp only [Act.put, List.setIfInBounds_toArray, List.set_cons_zero, List.set_cons_succ]
  refine wpAnyH_take (i := 18) (oi := { dst := some 76, op := .move (.tmp 75), type := 4, pos := "law.go:28", after := #[{ on := 17, ground := .data }, { on := 13, ground := .chain }], guard := none }) (v := .bool false) rfl (by kernel_rfl) (by kernel_rfl) (by kernel_rfl) (fun _ _ _ h => h) (Or.inl ⟨by rfl, by intro w hSw; clear hSw; go_simp⟩) hS0 ?_
  try simp only [Act.put, List.setIfInBounds_toArray, List.set_cons_zero, List.set_cons_succ]
  refine wpAnyH_take (i := 19) (oi := { dst := some 77, op := .move (.tmp 11), type := 22, pos := "law.go:28", after := #[{ on := 18, ground := .guard }], guard := some (18, false) }) (v := .slice Ac n cc) rfl (by kernel_rfl) (by kernel_rfl) (by kernel_rfl) (fun _ _ _ h => h) (Or.inl ⟨by rfl, by intro w hSw; clear hSw; go_simp⟩) hS0 ?_
  try simp only [Act.put, List.setIfInBounds_toArray, List.set_cons_zero, List.set_cons_succ]
  refine wpAnyH_take (i := 20) (oi := { dst := some 78, op := .fieldAddr 24 (.tmp 6) 0, type := 0, pos := "law.go:28", after := #[{ on := 18, ground := .guard }], guard := some (18, false) }) (v := .pointer (some ⟨p, 0, none⟩)) rfl (by kernel_rfl) (by kernel_rfl) (by kernel_rfl) (fun _ _ _ h => h) (Or.inl ⟨by rfl, by intro w hSw; clear hSw; go_simp⟩) hS0 ?_
  try simp only [Act.put, List.setIfInBounds_toArray, List.set_cons_zero, List.set_cons_succ]
  refine wpAnyH_take (i := 21) (oi := { dst := some 79, op := .load 3 (.tmp 78), type := 3, pos := "law.go:28", after := #[{ on := 20, ground := .data }, { on := 18, ground := .guard }], guard := some (18, false) }) (v := .int .i64 x1) rfl (by kernel_rfl) (by kernel_rfl) (by kernel_rfl) (fun _ _ _ h => h) (Or.inl ⟨by rfl, by intro w h; have hcell := ((P5.out.bel h).cell 0 rfl); clear h; go_simp⟩) hS0 ?_
  try simp only [Act.put, List.setIfInBounds_toArray, List.set_cons_zero, List.set_cons_succ]
  refine wpAnyH_take (i := 22) (oi := { dst := some 80, op := .fieldAddr 24 (.tmp 6) 1, type := 0, pos := "law.go:28", after := #[{ on := 18, ground := .guard }], guard := some (18, false) }) (v := .pointer (some ⟨p, 1, none⟩)) rfl (by kernel_rfl) (by kernel_rfl) (by kernel_rfl) (fun _ _ _ h => h) (Or.inl ⟨by rfl, by intro w hSw; clear hSw; go_simp⟩) hS0 ?_
  try simp only [Act.put, List.setIfInBounds_toArray, List.set_cons_zero, List.set_cons_succ]
  refine wpAnyH_take (i := 23) (oi := { dst := some 81, op := .load 3 (.tmp 80), type := 3, pos := "law.go:28", after := #[{ on := 22, ground := .data }, { on := 18, ground := .guard }], guard := some (18, false) }) (v := .int .i64 x2) rfl (by kernel_rfl) (by kernel_rfl) (by kernel_rfl) (fun _ _ _ h => h) (Or.inl ⟨by rfl, by intro w h; have hcell := ((P5.out.bel h).cell 1 rfl); clear h; go_simp⟩) hS0 ?_
  try simp only [Act.put, List.setIfInBounds_toArray, List.set_cons_zero, List.set_cons_succ]
  refine wpAnyH_take (i := 24) (oi := { dst := some 82, op := .fieldAddr 24 (.tmp 6) 2, type := 0, pos := "law.go:28", after := #[{ on := 18, ground := .guard }], guard := some (18, false) }) (v := .pointer (some ⟨p, 2, none⟩)) rfl (by kernel_rfl) (by kernel_rfl) (by kernel_rfl) (fun _ _ _ h => h) (Or.inl ⟨by rfl, by intro w hSw; clear hSw; go_simp⟩) hS0 ?_
  try simp only [Act.put, List.setIfInBounds_toArray, List.set_cons_zero, List.set_cons_succ]
  refine wpAnyH_take (i := 25) (oi := { dst := some 83, op := .load 3 (.tmp 82), type := 3, pos := "law.go:28", after := #[{ on := 24, ground := .data }, { on := 18, ground := .guard }], guard := some (18, false) }) (v := .int .i64 x3) rfl (by kernel_rfl) (by kernel_rfl) (by kernel_rfl) (fun _ _ _ h => h) (Or.inl ⟨by rfl, by intro w h; have hcell := ((P5.out.bel h).cell 2 rfl); clear h; go_simp⟩) hS0 ?_
  try simp only [Act.put, List.setIfInBounds_toArray, List.set_cons_zero, List.set_cons_succ]
  refine wpAnyH_take (i := 27) (oi := { dst := some 85, op := .move (.tmp 0), type := 22, pos := "law.go:28", after := #[{ on := 18, ground := .guard }], guard := some (18, false) }) (v := .slice A n c) rfl (by kernel_rfl) (by kernel_rfl) (by kernel_rfl) (fun _ _ _ h => h) (Or.inl ⟨by rfl, by intro w hSw; clear hSw; go_simp⟩) hS0 ?_
  try simp only [Act.put, List.setIfInBounds_toArray, List.set_cons_zero, List.set_cons_succ]
  refine wpAnyH_take (i := 28) (oi := { dst := some 86, op := .fieldAddr 24 (.tmp 6) 0, type := 0, pos := "law.go:28", after := #[{ on := 18, ground := .guard }], guard := some (18, false) }) (v := .pointer (some ⟨p, 0, none⟩)) rfl (by kernel_rfl) (by kernel_rfl) (by kernel_rfl) (fun _ _ _ h => h) (Or.inl ⟨by rfl, by intro w hSw; clear hSw; go_simp⟩) hS0 ?_
  try simp only [Act.put, List.setIfInBounds_toArray, List.set_cons_zero, List.set_cons_succ]
  refine wpAnyH_take (i := 29) (oi := { dst := some 87, op := .load 3 (.tmp 86), type := 3, pos := "law.go:28", after := #[{ on := 28, ground := .data }, { on := 18, ground := .guard }], guard := some (18, false) }) (v := .int .i64 x1) rfl (by kernel_rfl) (by kernel_rfl) (by kernel_rfl) (fun _ _ _ h => h) (Or.inl ⟨by rfl, by intro w h; have hcell := ((P5.out.bel h).cell 0 rfl); clear h; go_simp⟩) hS0 ?_
  try simp only [Act.put, List.setIfInBounds_toArray, List.set_cons_zero, List.set_cons_succ]
  refine wpAnyH_take (i := 30) (oi := { dst := some 88, op := .fieldAddr 24 (.tmp 6) 1, type := 0, pos := "law.go:28", after := #[{ on := 18, ground := .guard }], guard := some (18, false) }) (v := .pointer (some ⟨p, 1, none⟩)) rfl (by kernel_rfl) (by kernel_rfl) (by kernel_rfl) (fun _ _ _ h => h) (Or.inl ⟨by rfl, by intro w hSw; clear hSw; go_simp⟩) hS0 ?_
  try simp only [Act.put, List.setIfInBounds_toArray, List.set_cons_zero, List.set_cons_succ]
  refine wpAnyH_take (i := 31) (oi := { dst := some 89, op := .load 3 (.tmp 88), type := 3, pos := "law.go:28", after := #[{ on := 30, ground := .data }, { on := 18, ground := .guard }], guard := some (18, false) }) (v := .int .i64 x2) rfl (by kernel_rfl) (by kernel_rfl) (by kernel_rfl) (fun _ _ _ h => h) (Or.inl ⟨by rfl, by intro w h; have hcell := ((P5.out.bel h).cell 1 rfl); clear h; go_simp⟩) hS0 ?_
  try simp only [Act.put, List.setIfInBounds_toArray, List.set_cons_zero, List.set_cons_succ]
  refine wpAnyH_take (i := 32) (oi := { dst := some 90, op := .fieldAddr 24 (.tmp 6) 2, type := 0, pos := "law.go:28", after := #[{ on := 18, ground := .guard }], guard := some (18, false) }) (v := .pointer (some ⟨p, 2, none⟩)) rfl (by kernel_rfl) (by kernel_rfl) (by kernel_rfl) (fun _ _ _ h => h) (Or.inl ⟨by rfl, by intro w hSw; clear hSw; go_simp⟩) hS0 ?_
  try simp only [Act.put, List.setIfInBounds_toArray, List.set_cons_zero, List.set_cons_succ]
  refine wpAnyH_take (i := 33) (oi := { dst := some 91, op := .load 3 (.tmp 90), type := 3, pos := "law.go:28", after := #[{ on := 32, ground := .data }, { on := 18, ground := .guard }], guard := some (18, false) }) (v := .int .i64 x3) rfl (by kernel_rfl) (by kernel_rfl) (by kernel_rfl) (fun _ _ _ h => h) (Or.inl ⟨by rfl, by intro w h; have hcell := ((P5.out.bel h).cell 2 rfl); clear h; go_simp⟩) hS0 ?_
  try simp only [Act.put, List.setIfInBounds_toArray, List.set_cons_zero, List.set_cons_succ]
  refine wpAnyH_ready (rs := [26]) (by kernel_rfl) (by simp) ?_
  refine AllReadyH.cons (o := { dst := some 84, op := .call { callee := .value (.func 15), args := #[.tmp 77, .tmp 79, .tmp 81, .tmp 83], argTypes := #[22, 3, 3, 3] }, type := 3, pos := "law.go:28", after := #[{ on := 19, ground := .data }, { on := 21, ground := .data }, { on := 23, ground := .data }, { on := 25, ground := .data }, { on := 18, ground := .chain }, { on := 18, ground := .guard }], guard := some (18, false) }) rfl (fun K hK => ?_) AllReadyH.nil
  go_simp
  refine (CN.out _ hS0).mono ?_
  rintro e v1 ⟨rfl, kb⟩
  go_wp2_with fail
  refine hK.out _ _ (hS0.trans kb) (fun hS1 => ?_)
  clear hK K
  try simp only [Act.put, List.setIfInBounds_toArray, List.set_cons_zero, List.set_cons_succ]
  refine wpAnyH_ready (rs := [34]) (by kernel_rfl) (by simp) ?_
  refine AllReadyH.cons (o := { dst := some 92, op := .call { callee := .value (.func 16), args := #[.tmp 85, .tmp 87, .tmp 89, .tmp 91], argTypes := #[22, 3, 3, 3] }, type := 3, pos := "law.go:28", after := #[{ on := 27, ground := .data }, { on := 29, ground := .data }, { on := 31, ground := .data }, { on := 33, ground := .data }, { on := 26, ground := .chain }, { on := 18, ground := .guard }], guard := some (18, false) }) rfl (fun K hK => ?_) AllReadyH.nil
  go_simp
  refine (CN2.out _ hS1).mono ?_
  rintro e v2 ⟨rfl, kb⟩
  go_wp2_with fail
  refine hK.out _ _ (hS1.trans kb) (fun hS2 => ?_)
  clear hK K
  try simp only [Act.put, List.setIfInBounds_toArray, List.set_cons_zero, List.set_cons_succ]
  refine wpAnyH_take (i := 35) (oi := { dst := some 93, op := .binOp .neq 3 (.tmp 84) (.tmp 92) 3, type := 4, pos := "law.go:28", after := #[{ on := 26, ground := .data }, { on := 34, ground := .data }, { on := 18, ground := .guard }], guard := some (18, false) }) (v := .bool false) rfl (by kernel_rfl) (by kernel_rfl) (by kernel_rfl) (fun _ _ _ h => h) (Or.inl ⟨by rfl, by intro w hSw; clear hSw; go_simp⟩) hS2 ?_
  try simp only [Act.put, List.setIfInBounds_toArray, List.set_cons_zero, List.set_cons_succ]
  refine wpAnyH_take (i := 36) (oi := { dst := some 94, op := .pick (.tmp 76) (.const (Value.bool true)) (.tmp 93), type := 4, pos := "law.go:28", after := #[{ on := 18, ground := .data }, { on := 35, ground := .data }], guard := none }) (v := .bool false) rfl (by kernel_rfl) (by kernel_rfl) (by kernel_rfl) (fun _ _ _ h => h) (Or.inl ⟨by rfl, by intro w hSw; clear hSw; go_simp⟩) hS2 ?_
  try simp only [Act.put, List.setIfInBounds_toArray, List.set_cons_zero, List.set_cons_succ]
  refine wpAnyH_done (by kernel_rfl) ?_ _
  have K6 := Lib.hid (show Bel w5 v2 from hS2)
  have HC6 := Lib.hid (HC5.out.bel hS2)
  have P6 := Lib.hid (P5.out.bel hS2)
  have I6 := Lib.hid (I5.out.bel hS2)
  have HCL := Lib.hid (fun (y : Addr) (hy : Ac = some y) (h0 : 0 < n) => show y.block < w5.heap.size from by
    obtain ⟨b, o, e, hlt, _⟩ := HC5.out.row h0
    rw [e] at hy; injection hy with hy; subst hy; exact hlt)
  have IL := Lib.hid (fun (y : Addr) (hy : A = some y) (h0 : 0 < n) => show y.block < w5.heap.size from by
    obtain ⟨b, o, e, hlt, _⟩ := I5.out.row h0
    rw [e] at hy; injection hy with hy; subst hy; exact hlt)
  have AD := Lib.hid (add Ac n cc l x1 x2 x3 x4 m v2 HC6.out HN.out H3.out)
  have AD2 := Lib.hid (fun V (hv : Bel v2 V) => addR A n c l x1 x2 x3 x4 m V (I6.out.bel hv) HN.out)
  have RP := Lib.hid (fun V (hv : Bel v2 V) => ripe Ac n cc l h u V (HC6.out.bel hv) HN.out)
  have RP2 := Lib.hid (fun V (hv : Bel v2 V) => ripeR A n c l h u V (I6.out.bel hv) HN.out)
  obtain ⟨LA, hLA⟩ : ∃ x, addL l (x1, x2, x3, x4) m = x := ⟨_, rfl⟩
  have HLA := Lib.hid (show LA.length ≤ 1000000 from by
    rw [← hLA]; unfold addL; split
    · rw [List.length_append, HLN.out]; simp; omega
    · simp)
  obtain ⟨EA, hEA⟩ : ∃ x, addE l (x1, x2, x3, x4) m = x := ⟨_, rfl⟩
  have HLR := Lib.hid (show (ripL l h u).length ≤ 1000000 ∧ (lftL l h u).length ≤ 1000000 from by
    have q1 : (rip l (h - u)).length ≤ l.length := List.length_filter_le _ _
    have q2 : (lft l (h - u)).length ≤ l.length := List.length_filter_le _ _
    have := HLN.out
    have := HN.out
    unfold ripL lftL
    constructor <;> split <;> first | omega | simp)
  obtain ⟨LR, hLR⟩ : ∃ x, ripL l h u = x := ⟨_, rfl⟩
  obtain ⟨LL, hLL⟩ : ∃ x, lftL l h u = x := ⟨_, rfl⟩
  obtain ⟨ER, hER⟩ : ∃ x, ripE l h u = x := ⟨_, rfl⟩
  unfold AddR at AD AD2
  unfold RipeR at RP
  rw [hLA, hEA] at AD AD2
  rw [hLR, hLL, hER] at RP RP2
  rw [hLR, hLL] at HLR
  clear hLA hEA hLR hLL hER HC5 P5 I5 CN CN2
  obtain ⟨wz, hwz⟩ : ∃ V, V = v2 := ⟨_, rfl⟩
  subst hwz
  have g0 := P6.out.cell 0 rfl
  have g1 := P6.out.cell 1 rfl
  have g2 := P6.out.cell 2 rfl
  have g3 := P6.out.cell 3 rfl
  go_wp2_with fail
  refine AD.out.mono ?_
  rintro e k7 ⟨va, rfl, ha, kb⟩
  have HA7 := Lib.hid ha
  have K7 := Lib.hid kb
  have P7 := Lib.hid (P6.out.bel kb)
  clear kb ha AD g0 g1 g2 g3
  have g0 := P7.out.cell 0 rfl
  have g1 := P7.out.cell 1 rfl
  have g2 := P7.out.cell 2 rfl
  have g3 := P7.out.cell 3 rfl
  go_wp2_with fail
  refine (AD2.out _ K7.out).mono ?_
  rintro e k8 ⟨vb, rfl, hb, kb⟩
  have HB8 := Lib.hid hb
  have HA8 := Lib.hid (HA7.out.bel kb)
  have K8 := Lib.hid (K7.out.trans kb)
  have Z78 := Lib.hid (Below.size kb)
  have P8 := Lib.hid (P7.out.bel kb)
  clear kb hb AD2 g0 g1 g2 g3
  go_wp2_with fail
  refine (RP.out _ K8.out).mono ?_
  rintro e k9 ⟨A1, n1, c1, A2, n2, c2, rfl, hv, kb⟩
  have HV9 := Lib.hid hv
  have HA9 := Lib.hid (HA8.out.bel kb)
  have HB9 := Lib.hid (HB8.out.bel kb)
  have K9 := Lib.hid (K8.out.trans kb)
  have Z89 := Lib.hid (Below.size kb)
  have P9 := Lib.hid (P8.out.bel kb)
  clear kb hv RP
  go_wp2_with fail
  refine (RP2.out _ K9.out).mono ?_
  rintro e kk ⟨vr, vs, rfl, hr, hs, kb⟩
  have HVk := Lib.hid (HV9.out.bel kb)
  have HAk := Lib.hid (HA9.out.bel kb)
  have HBk := Lib.hid (HB9.out.bel kb)
  have HRk := Lib.hid hr
  have HSk := Lib.hid hs
  have Kk := Lib.hid (K9.out.trans kb)
  have Z9k := Lib.hid (Below.size kb)
  have Pk := Lib.hid (P9.out.bel kb)
  clear kb hr hs RP2
  -- where all lies
  obtain ⟨Aa, ca, rfl, har⟩ := HAk.out.slice
  obtain ⟨Ab, cb, rfl, hbr⟩ := HBk.out.slice
  obtain ⟨Ar, cr_, rfl, hrr⟩ := HRk.out.slice
  obtain ⟨As, cs, rfl, hsr⟩ := HSk.out.slice
  clear har hbr hrr hsr
  have IN := Lib.hid (fun V (hv : Bel kk V) => into_ Ac n cc l x1 x3 V (HC6.out.bel (Kk.out.trans hv)) (by have := HN.out; omega))
  have IN2 := Lib.hid (fun V (hv : Bel kk V) => intoR A n c l x1 x3 V (I6.out.bel (Kk.out.trans hv)) (by have := HN.out; omega))
  have HLI := Lib.hid (show (l.filter (into x1 x3)).length ≤ 1000000 from Nat.le_trans (List.length_filter_le _ _) (by rw [HLN.out]; exact HN.out))
  obtain ⟨LI, hLI⟩ : ∃ x, l.filter (into x1 x3) = x := ⟨_, rfl⟩
  rw [hLI] at IN IN2 HLI
  clear hLI
  go_upto_region 14 with fail
  refine wp_region_held_drew (S := fun Vx => Kep (fun k => wz.heap.size ≤ k) kk Vx) (by kernel_rfl) (Kep.drew (Kep.refl _ _)) (fun hS0 => ?_)
  have HD := Lib.hid ((Bel.refl kk).drew)
  obtain ⟨w6, hw6⟩ : ∃ w6, World.drew kk = w6 := ⟨_, rfl⟩
  rw [hw6] at hS0 HD ⊢
  clear hw6
  have HPP := Lib.hid (show p < wz.heap.size from P6.out.lt)
  have HWZ := Lib.hid (Below.size K6.out)
  refine wpAnyH_take (i := 0) (oi := { dst := some 125, op := .move (.tmp 21), type := 27, pos := "law.go:35", after := #[], guard := none }) (v := .int .i64 EA) rfl (by kernel_rfl) (by kernel_rfl) (by kernel_rfl) (fun _ _ _ h => h) (Or.inl ⟨by rfl, by intro w hSw; clear hSw; go_simp⟩) hS0 ?_
  try simp only [Act.put, List.setIfInBounds_toArray, List.set_cons_zero, List.set_cons_succ]
  refine wpAnyH_take (i := 1) (oi := { dst := some 126, op := .move (.tmp 23), type := 27, pos := "law.go:35", after := #[], guard := none }) (v := .int .i64 EA) rfl (by kernel_rfl) (by kernel_rfl) (by kernel_rfl) (fun _ _ _ h => h) (Or.inl ⟨by rfl, by intro w hSw; clear hSw; go_simp⟩) hS0 ?_
  try simp only [Act.put, List.setIfInBounds_toArray, List.set_cons_zero, List.set_cons_succ]
  refine wpAnyH_take (i := 2) (oi := { dst := some 127, op := .binOp .eql 27 (.tmp 125) (.tmp 126) 27, type := 4, pos := "law.go:35", after := #[{ on := 0, ground := .data }, { on := 1, ground := .data }], guard := none }) (v := .bool true) rfl (by kernel_rfl) (by kernel_rfl) (by kernel_rfl) (fun _ _ _ h => h) (Or.inl ⟨by rfl, by intro w hSw; clear hSw; go_simp⟩) hS0 ?_
  try simp only [Act.put, List.setIfInBounds_toArray, List.set_cons_zero, List.set_cons_succ]
  refine wpAnyH_take (i := 3) (oi := { dst := some 128, op := .move (.tmp 127), type := 4, pos := "law.go:35", after := #[{ on := 2, ground := .data }], guard := none }) (v := .bool true) rfl (by kernel_rfl) (by kernel_rfl) (by kernel_rfl) (fun _ _ _ h => h) (Or.inl ⟨by rfl, by intro w hSw; clear hSw; go_simp⟩) hS0 ?_
  try simp only [Act.put, List.setIfInBounds_toArray, List.set_cons_zero, List.set_cons_succ]
  refine wpAnyH_take (i := 4) (oi := { dst := some 129, op := .move (.tmp 26), type := 27, pos := "law.go:35", after := #[{ on := 3, ground := .guard }], guard := some (3, true) }) (v := .int .i64 ER) rfl (by kernel_rfl) (by kernel_rfl) (by kernel_rfl) (fun _ _ _ h => h) (Or.inl ⟨by rfl, by intro w hSw; clear hSw; go_simp⟩) hS0 ?_
  try simp only [Act.put, List.setIfInBounds_toArray, List.set_cons_zero, List.set_cons_succ]
  refine wpAnyH_take (i := 5) (oi := { dst := some 130, op := .move (.tmp 29), type := 27, pos := "law.go:35", after := #[{ on := 3, ground := .guard }], guard := some (3, true) }) (v := .int .i64 ER) rfl (by kernel_rfl) (by kernel_rfl) (by kernel_rfl) (fun _ _ _ h => h) (Or.inl ⟨by rfl, by intro w hSw; clear hSw; go_simp⟩) hS0 ?_
  try simp only [Act.put, List.setIfInBounds_toArray, List.set_cons_zero, List.set_cons_succ]
  refine wpAnyH_take (i := 6) (oi := { dst := some 131, op := .binOp .eql 27 (.tmp 129) (.tmp 130) 27, type := 4, pos := "law.go:35", after := #[{ on := 4, ground := .data }, { on := 5, ground := .data }, { on := 3, ground := .guard }], guard := some (3, true) }) (v := .bool true) rfl (by kernel_rfl) (by kernel_rfl) (by kernel_rfl) (fun _ _ _ h => h) (Or.inl ⟨by rfl, by intro w hSw; clear hSw; go_simp⟩) hS0 ?_
  try simp only [Act.put, List.setIfInBounds_toArray, List.set_cons_zero, List.set_cons_succ]
  refine wpAnyH_take (i := 7) (oi := { dst := some 132, op := .pick (.tmp 128) (.tmp 131) (.const (Value.bool false)), type := 4, pos := "law.go:35", after := #[{ on := 3, ground := .data }, { on := 6, ground := .data }], guard := none }) (v := .bool true) rfl (by kernel_rfl) (by kernel_rfl) (by kernel_rfl) (fun _ _ _ h => h) (Or.inl ⟨by rfl, by intro w hSw; clear hSw; go_simp⟩) hS0 ?_
  try simp only [Act.put, List.setIfInBounds_toArray, List.set_cons_zero, List.set_cons_succ]
  refine wpAnyH_take (i := 8) (oi := { dst := some 133, op := .move (.tmp 132), type := 4, pos := "law.go:35", after := #[{ on := 7, ground := .data }, { on := 3, ground := .chain }], guard := none }) (v := .bool true) rfl (by kernel_rfl) (by kernel_rfl) (by kernel_rfl) (fun _ _ _ h => h) (Or.inl ⟨by rfl, by intro w hSw; clear hSw; go_simp⟩) hS0 ?_
  try simp only [Act.put, List.setIfInBounds_toArray, List.set_cons_zero, List.set_cons_succ]
  refine wpAnyH_take (i := 9) (oi := { dst := some 134, op := .move (.tmp 11), type := 22, pos := "law.go:35", after := #[{ on := 8, ground := .guard }], guard := some (8, true) }) (v := .slice Ac n cc) rfl (by kernel_rfl) (by kernel_rfl) (by kernel_rfl) (fun _ _ _ h => h) (Or.inl ⟨by rfl, by intro w hSw; clear hSw; go_simp⟩) hS0 ?_
  try simp only [Act.put, List.setIfInBounds_toArray, List.set_cons_zero, List.set_cons_succ]
  refine wpAnyH_take (i := 10) (oi := { dst := some 135, op := .fieldAddr 24 (.tmp 6) 0, type := 0, pos := "law.go:35", after := #[{ on := 8, ground := .guard }], guard := some (8, true) }) (v := .pointer (some ⟨p, 0, none⟩)) rfl (by kernel_rfl) (by kernel_rfl) (by kernel_rfl) (fun _ _ _ h => h) (Or.inl ⟨by rfl, by intro w hSw; clear hSw; go_simp⟩) hS0 ?_
  try simp only [Act.put, List.setIfInBounds_toArray, List.set_cons_zero, List.set_cons_succ]
  refine wpAnyH_take (i := 11) (oi := { dst := some 136, op := .load 3 (.tmp 135), type := 3, pos := "law.go:35", after := #[{ on := 10, ground := .data }, { on := 8, ground := .guard }], guard := some (8, true) }) (v := .int .i64 x1) rfl (by kernel_rfl) (by kernel_rfl) (by kernel_rfl) (fun _ _ _ h => h) (Or.inl ⟨by rfl, by intro w h; have hcell := ((Pk.out.kep h (Nat.not_le.2 HPP.out)).cell 0 rfl); clear h; go_simp⟩) hS0 ?_
  try simp only [Act.put, List.setIfInBounds_toArray, List.set_cons_zero, List.set_cons_succ]
  refine wpAnyH_take (i := 12) (oi := { dst := some 137, op := .fieldAddr 24 (.tmp 6) 2, type := 0, pos := "law.go:35", after := #[{ on := 8, ground := .guard }], guard := some (8, true) }) (v := .pointer (some ⟨p, 2, none⟩)) rfl (by kernel_rfl) (by kernel_rfl) (by kernel_rfl) (fun _ _ _ h => h) (Or.inl ⟨by rfl, by intro w hSw; clear hSw; go_simp⟩) hS0 ?_
  try simp only [Act.put, List.setIfInBounds_toArray, List.set_cons_zero, List.set_cons_succ]
  refine wpAnyH_take (i := 13) (oi := { dst := some 138, op := .load 3 (.tmp 137), type := 3, pos := "law.go:35", after := #[{ on := 12, ground := .data }, { on := 8, ground := .guard }], guard := some (8, true) }) (v := .int .i64 x3) rfl (by kernel_rfl) (by kernel_rfl) (by kernel_rfl) (fun _ _ _ h => h) (Or.inl ⟨by rfl, by intro w h; have hcell := ((Pk.out.kep h (Nat.not_le.2 HPP.out)).cell 2 rfl); clear h; go_simp⟩) hS0 ?_
  try simp only [Act.put, List.setIfInBounds_toArray, List.set_cons_zero, List.set_cons_succ]
  refine wpAnyH_take (i := 15) (oi := { dst := some 140, op := .move (.tmp 0), type := 22, pos := "law.go:35", after := #[{ on := 8, ground := .guard }], guard := some (8, true) }) (v := .slice A n c) rfl (by kernel_rfl) (by kernel_rfl) (by kernel_rfl) (fun _ _ _ h => h) (Or.inl ⟨by rfl, by intro w hSw; clear hSw; go_simp⟩) hS0 ?_
  try simp only [Act.put, List.setIfInBounds_toArray, List.set_cons_zero, List.set_cons_succ]
  refine wpAnyH_take (i := 16) (oi := { dst := some 141, op := .fieldAddr 24 (.tmp 6) 0, type := 0, pos := "law.go:35", after := #[{ on := 8, ground := .guard }], guard := some (8, true) }) (v := .pointer (some ⟨p, 0, none⟩)) rfl (by kernel_rfl) (by kernel_rfl) (by kernel_rfl) (fun _ _ _ h => h) (Or.inl ⟨by rfl, by intro w hSw; clear hSw; go_simp⟩) hS0 ?_
  try simp only [Act.put, List.setIfInBounds_toArray, List.set_cons_zero, List.set_cons_succ]
  refine wpAnyH_take (i := 17) (oi := { dst := some 142, op := .load 3 (.tmp 141), type := 3, pos := "law.go:35", after := #[{ on := 16, ground := .data }, { on := 8, ground := .guard }], guard := some (8, true) }) (v := .int .i64 x1) rfl (by kernel_rfl) (by kernel_rfl) (by kernel_rfl) (fun _ _ _ h => h) (Or.inl ⟨by rfl, by intro w h; have hcell := ((Pk.out.kep h (Nat.not_le.2 HPP.out)).cell 0 rfl); clear h; go_simp⟩) hS0 ?_
  try simp only [Act.put, List.setIfInBounds_toArray, List.set_cons_zero, List.set_cons_succ]
  refine wpAnyH_take (i := 18) (oi := { dst := some 143, op := .fieldAddr 24 (.tmp 6) 2, type := 0, pos := "law.go:35", after := #[{ on := 8, ground := .guard }], guard := some (8, true) }) (v := .pointer (some ⟨p, 2, none⟩)) rfl (by kernel_rfl) (by kernel_rfl) (by kernel_rfl) (fun _ _ _ h => h) (Or.inl ⟨by rfl, by intro w hSw; clear hSw; go_simp⟩) hS0 ?_
  try simp only [Act.put, List.setIfInBounds_toArray, List.set_cons_zero, List.set_cons_succ]
  refine wpAnyH_take (i := 19) (oi := { dst := some 144, op := .load 3 (.tmp 143), type := 3, pos := "law.go:35", after := #[{ on := 18, ground := .data }, { on := 8, ground := .guard }], guard := some (8, true) }) (v := .int .i64 x3) rfl (by kernel_rfl) (by kernel_rfl) (by kernel_rfl) (fun _ _ _ h => h) (Or.inl ⟨by rfl, by intro w h; have hcell := ((Pk.out.kep h (Nat.not_le.2 HPP.out)).cell 2 rfl); clear h; go_simp⟩) hS0 ?_
  try simp only [Act.put, List.setIfInBounds_toArray, List.set_cons_zero, List.set_cons_succ]
  refine wpAnyH_ready (rs := [14]) (by kernel_rfl) (by simp) ?_
  refine AllReadyH.cons (o := { dst := some 139, op := .call { callee := .value (.func 22), args := #[.tmp 134, .tmp 136, .tmp 138], argTypes := #[22, 3, 3] }, type := 22, pos := "law.go:35", after := #[{ on := 9, ground := .data }, { on := 11, ground := .data }, { on := 13, ground := .data }, { on := 8, ground := .chain }, { on := 8, ground := .guard }], guard := some (8, true) }) rfl (fun K hK => ?_) AllReadyH.nil
  go_simp
  refine (IN.out _ HD.out).mono ?_
  rintro e v1 ⟨vi, rfl, hoi, kbi⟩
  go_wp2_with fail
  refine hK.out _ _ (hS0.trans (Kep.of_bel kbi)) (fun hS1 => ?_)
  clear hK K
  try simp only [Act.put, List.setIfInBounds_toArray, List.set_cons_zero, List.set_cons_succ]
  refine wpAnyH_ready (rs := [20]) (by kernel_rfl) (by simp) ?_
  refine AllReadyH.cons (o := { dst := some 145, op := .call { callee := .value (.func 23), args := #[.tmp 140, .tmp 142, .tmp 144], argTypes := #[22, 3, 3] }, type := 22, pos := "law.go:35", after := #[{ on := 15, ground := .data }, { on := 17, ground := .data }, { on := 19, ground := .data }, { on := 14, ground := .chain }, { on := 8, ground := .guard }], guard := some (8, true) }) rfl (fun K hK => ?_) AllReadyH.nil
  have B2 := Lib.hid (HD.out.trans kbi)
  go_simp
  refine (IN2.out _ B2.out).mono ?_
  rintro e v2 ⟨vj, rfl, hoj, kbj⟩
  go_wp2_with fail
  refine hK.out _ _ (hS1.trans (Kep.of_bel kbj)) (fun hS2 => ?_)
  clear hK K
  try simp only [Act.put, List.setIfInBounds_toArray, List.set_cons_zero, List.set_cons_succ]
  refine wpAnyH_ready (rs := [21]) (by kernel_rfl) (by simp) ?_
  refine AllReadyH.cons (o := { dst := some 146, op := .call { callee := .value (.func 21), args := #[.tmp 139, .tmp 145], argTypes := #[22, 22] }, type := 4, pos := "law.go:35", after := #[{ on := 14, ground := .data }, { on := 20, ground := .data }, { on := 20, ground := .chain }, { on := 8, ground := .guard }], guard := some (8, true) }) rfl (fun K hK => ?_) AllReadyH.nil
  obtain ⟨Ai, ci, rfl, hri⟩ := (hoi.bel kbj).slice
  obtain ⟨Aj, cj, rfl, hrj⟩ := hoj.slice
  have hyi := lay_own (hoi.bel kbj)
  have B3 := Lib.hid (B2.out.trans kbj)
  have HYI := Lib.hid (fun (k : Nat) (hk : 0 < LI.length ∧ ∃ x : Addr, Ai = some x ∧ x.block = k) => show kk.heap.size ≤ k from by
    obtain ⟨_, x, hx, rfl⟩ := hk
    have h1 := Rw.own_ge hoi (own_addr hoi hx)
    exact Nat.le_trans (Below.size HD.out) h1)
  have TI := told Ai Aj LI.length ci LI.length cj LI LI v2 hri hrj hyi (by have := HLI.out; omega) (by have := HLI.out; omega)
  rw [decide_eq_true (rfl : LI = LI)] at TI
  go_simp
  refine (TI).mono ?_
  rintro e v3 ⟨rfl, Wi, kbw, ov⟩
  go_wp2_with fail
  refine hK.out _ _ ((hS2.trans (Kep.of_bel kbw)).trans (ov.kep.mono fun k _ hk => Nat.le_trans (Below.size Kk.out) (HYI.out k hk))) (fun hS3 => ?_)
  clear hK K
  try simp only [Act.put, List.setIfInBounds_toArray, List.set_cons_zero, List.set_cons_succ]
  refine wpAnyH_take (i := 22) (oi := { dst := some 147, op := .pick (.tmp 133) (.tmp 146) (.const (Value.bool false)), type := 4, pos := "law.go:35", after := #[{ on := 8, ground := .data }, { on := 21, ground := .data }], guard := none }) (v := .bool true) rfl (by kernel_rfl) (by kernel_rfl) (by kernel_rfl) (fun _ _ _ h => h) (Or.inl ⟨by rfl, by intro w hSw; clear hSw; go_simp⟩) hS3 ?_
  try simp only [Act.put, List.setIfInBounds_toArray, List.set_cons_zero, List.set_cons_succ]
  refine wpAnyH_take (i := 23) (oi := { dst := some 148, op := .move (.tmp 147), type := 4, pos := "law.go:35", after := #[{ on := 22, ground := .data }, { on := 21, ground := .chain }], guard := none }) (v := .bool true) rfl (by kernel_rfl) (by kernel_rfl) (by kernel_rfl) (fun _ _ _ h => h) (Or.inl ⟨by rfl, by intro w hSw; clear hSw; go_simp⟩) hS3 ?_
  try simp only [Act.put, List.setIfInBounds_toArray, List.set_cons_zero, List.set_cons_succ]
  refine wpAnyH_take (i := 24) (oi := { dst := some 149, op := .move (.tmp 20), type := 22, pos := "law.go:35", after := #[{ on := 23, ground := .guard }], guard := some (23, true) }) (v := .slice Aa LA.length ca) rfl (by kernel_rfl) (by kernel_rfl) (by kernel_rfl) (fun _ _ _ h => h) (Or.inl ⟨by rfl, by intro w hSw; clear hSw; go_simp⟩) hS3 ?_
  try simp only [Act.put, List.setIfInBounds_toArray, List.set_cons_zero, List.set_cons_succ]
  refine wpAnyH_take (i := 25) (oi := { dst := some 150, op := .move (.tmp 22), type := 22, pos := "law.go:35", after := #[{ on := 23, ground := .guard }], guard := some (23, true) }) (v := .slice Ab LA.length cb) rfl (by kernel_rfl) (by kernel_rfl) (by kernel_rfl) (fun _ _ _ h => h) (Or.inl ⟨by rfl, by intro w hSw; clear hSw; go_simp⟩) hS3 ?_
  try simp only [Act.put, List.setIfInBounds_toArray, List.set_cons_zero, List.set_cons_succ]
  refine wpAnyH_ready (rs := [26]) (by kernel_rfl) (by simp) ?_
  refine AllReadyH.cons (o := { dst := some 151, op := .call { callee := .value (.func 21), args := #[.tmp 149, .tmp 150], argTypes := #[22, 22] }, type := 4, pos := "law.go:35", after := #[{ on := 24, ground := .data }, { on := 25, ground := .data }, { on := 23, ground := .chain }, { on := 23, ground := .guard }], guard := some (23, true) }) rfl (fun K hK => ?_) AllReadyH.nil
  have K3 := Lib.hid (show Kep (fun k => kk.heap.size ≤ k) kk v3 from (Kep.of_bel (B3.out.trans kbw)).trans (ov.kep.mono fun k _ hk => HYI.out k hk))
  have ha3 : OwnH v3 wz.heap.size (.slice Aa LA.length ca) LA := HAk.out.kep K3.out (fun i hi => Nat.not_le.2 (own_lt HAk.out hi))
  have hb3 : OwnH v3 k7.heap.size (.slice Ab LA.length cb) LA := HBk.out.kep K3.out (fun i hi => Nat.not_le.2 (own_lt HBk.out hi))
  obtain ⟨_, _, ea, har⟩ := ha3.slice
  injection ea with ea1 _ ea2
  subst ea1 ea2
  obtain ⟨_, _, eb, hbr⟩ := hb3.slice
  injection eb with eb1 _ eb2
  subst eb1 eb2
  have hya := lay_own ha3
  have HYA := Lib.hid (fun (k : Nat) (hk : 0 < LA.length ∧ ∃ x : Addr, Aa = some x ∧ x.block = k) => show wz.heap.size ≤ k ∧ k < k7.heap.size from by
    obtain ⟨_, x, hx, rfl⟩ := hk
    exact ⟨Rw.own_ge HA7.out (own_addr HA7.out hx), own_lt HA7.out (own_addr HA7.out hx)⟩)
  have TA := told Aa Ab LA.length ca LA.length cb LA LA v3 har hbr hya (by have := HLA.out; omega) (by have := HLA.out; omega)
  rw [decide_eq_true (rfl : LA = LA)] at TA
  go_simp
  refine (TA).mono ?_
  rintro e v4 ⟨rfl, Wa, kbwa, ova⟩
  go_wp2_with fail
  refine hK.out _ _ ((hS3.trans (Kep.of_bel kbwa)).trans (ova.kep.mono fun k _ hk => (HYA.out k hk).1)) (fun hS4 => ?_)
  clear hK K
  try simp only [Act.put, List.setIfInBounds_toArray, List.set_cons_zero, List.set_cons_succ]
  refine wpAnyH_take (i := 27) (oi := { dst := some 152, op := .pick (.tmp 148) (.tmp 151) (.const (Value.bool false)), type := 4, pos := "law.go:35", after := #[{ on := 23, ground := .data }, { on := 26, ground := .data }], guard := none }) (v := .bool true) rfl (by kernel_rfl) (by kernel_rfl) (by kernel_rfl) (fun _ _ _ h => h) (Or.inl ⟨by rfl, by intro w hSw; clear hSw; go_simp⟩) hS4 ?_
  try simp only [Act.put, List.setIfInBounds_toArray, List.set_cons_zero, List.set_cons_succ]
  refine wpAnyH_take (i := 28) (oi := { dst := some 153, op := .move (.tmp 152), type := 4, pos := "law.go:35", after := #[{ on := 27, ground := .data }, { on := 26, ground := .chain }], guard := none }) (v := .bool true) rfl (by kernel_rfl) (by kernel_rfl) (by kernel_rfl) (fun _ _ _ h => h) (Or.inl ⟨by rfl, by intro w hSw; clear hSw; go_simp⟩) hS4 ?_
  try simp only [Act.put, List.setIfInBounds_toArray, List.set_cons_zero, List.set_cons_succ]
  refine wpAnyH_take (i := 29) (oi := { dst := some 154, op := .move (.tmp 24), type := 22, pos := "law.go:35", after := #[{ on := 28, ground := .guard }], guard := some (28, true) }) (v := .slice A1 n1 c1) rfl (by kernel_rfl) (by kernel_rfl) (by kernel_rfl) (fun _ _ _ h => h) (Or.inl ⟨by rfl, by intro w hSw; clear hSw; go_simp⟩) hS4 ?_
  try simp only [Act.put, List.setIfInBounds_toArray, List.set_cons_zero, List.set_cons_succ]
  refine wpAnyH_take (i := 30) (oi := { dst := some 155, op := .move (.tmp 27), type := 22, pos := "law.go:35", after := #[{ on := 28, ground := .guard }], guard := some (28, true) }) (v := .slice Ar LR.length cr_) rfl (by kernel_rfl) (by kernel_rfl) (by kernel_rfl) (fun _ _ _ h => h) (Or.inl ⟨by rfl, by intro w hSw; clear hSw; go_simp⟩) hS4 ?_
  try simp only [Act.put, List.setIfInBounds_toArray, List.set_cons_zero, List.set_cons_succ]
  refine wpAnyH_ready (rs := [31]) (by kernel_rfl) (by simp) ?_
  refine AllReadyH.cons (o := { dst := some 156, op := .call { callee := .value (.func 21), args := #[.tmp 154, .tmp 155], argTypes := #[22, 22] }, type := 4, pos := "law.go:35", after := #[{ on := 29, ground := .data }, { on := 30, ground := .data }, { on := 28, ground := .chain }, { on := 28, ground := .guard }], guard := some (28, true) }) rfl (fun K hK => ?_) AllReadyH.nil
  have K4 := Lib.hid (show Kep (fun k => kk.heap.size ≤ k ∨ k < k7.heap.size) kk v4 from ((K3.out.mono fun k _ hk => Or.inl hk).trans (Kep.of_bel kbwa)).trans (ova.kep.mono fun k _ hk => Or.inr (HYA.out k hk).2))
  have hv4 := Lib.hid (HVk.out.kep K4.out (fun k h1 h2 hh => by have := Z78.out; omega))
  have hr4 : OwnH v4 k9.heap.size (.slice Ar LR.length cr_) LR := HRk.out.kep K4.out (fun i hi hh => by have h1 := own_lt HRk.out hi; have h2 := Rw.own_ge HRk.out hi; have := Z78.out; have := Z89.out; omega)
  have hs4 : OwnH v4 k9.heap.size (.slice As LL.length cs) LL := HSk.out.kep K4.out (fun i hi hh => by have h1 := own_lt HSk.out hi; have h2 := Rw.own_ge HSk.out hi; have := Z78.out; have := Z89.out; omega)
  obtain ⟨_, _, er, hrr⟩ := hr4.slice
  injection er with er1 _ er2
  subst er1 er2
  have HVA := Lib.hid (halves_at HV9.out)
  have TP := told A1 Ar n1 c1 LR.length cr_ LR LR v4 hv4.out.r1 hrr hv4.out.lay (by have := HLR.out; have := hv4.out.r1.len; omega) (by have := HLR.out; omega)
  rw [decide_eq_true (rfl : LR = LR)] at TP
  go_simp
  refine (TP).mono ?_
  rintro e v5 ⟨rfl, Wp_, kbwp, ovp⟩
  go_wp2_with fail
  refine hK.out _ _ ((hS4.trans (Kep.of_bel kbwp)).trans (ovp.kep.mono fun k _ hk => by have := (HVA.out.1 k hk).1; have := Below.size K8.out; omega)) (fun hS5 => ?_)
  clear hK K
  try simp only [Act.put, List.setIfInBounds_toArray, List.set_cons_zero, List.set_cons_succ]
  refine wpAnyH_take (i := 32) (oi := { dst := some 157, op := .pick (.tmp 153) (.tmp 156) (.const (Value.bool false)), type := 4, pos := "law.go:35", after := #[{ on := 28, ground := .data }, { on := 31, ground := .data }], guard := none }) (v := .bool true) rfl (by kernel_rfl) (by kernel_rfl) (by kernel_rfl) (fun _ _ _ h => h) (Or.inl ⟨by rfl, by intro w hSw; clear hSw; go_simp⟩) hS5 ?_
  try simp only [Act.put, List.setIfInBounds_toArray, List.set_cons_zero, List.set_cons_succ]
  refine wpAnyH_take (i := 33) (oi := { dst := some 158, op := .move (.tmp 157), type := 4, pos := "law.go:35", after := #[{ on := 32, ground := .data }, { on := 31, ground := .chain }], guard := none }) (v := .bool true) rfl (by kernel_rfl) (by kernel_rfl) (by kernel_rfl) (fun _ _ _ h => h) (Or.inl ⟨by rfl, by intro w hSw; clear hSw; go_simp⟩) hS5 ?_
  try simp only [Act.put, List.setIfInBounds_toArray, List.set_cons_zero, List.set_cons_succ]
  refine wpAnyH_take (i := 34) (oi := { dst := some 159, op := .move (.tmp 25), type := 22, pos := "law.go:35", after := #[{ on := 33, ground := .guard }], guard := some (33, true) }) (v := .slice A2 n2 c2) rfl (by kernel_rfl) (by kernel_rfl) (by kernel_rfl) (fun _ _ _ h => h) (Or.inl ⟨by rfl, by intro w hSw; clear hSw; go_simp⟩) hS5 ?_
  try simp only [Act.put, List.setIfInBounds_toArray, List.set_cons_zero, List.set_cons_succ]
  refine wpAnyH_take (i := 35) (oi := { dst := some 160, op := .move (.tmp 28), type := 22, pos := "law.go:35", after := #[{ on := 33, ground := .guard }], guard := some (33, true) }) (v := .slice As LL.length cs) rfl (by kernel_rfl) (by kernel_rfl) (by kernel_rfl) (fun _ _ _ h => h) (Or.inl ⟨by rfl, by intro w hSw; clear hSw; go_simp⟩) hS5 ?_
  try simp only [Act.put, List.setIfInBounds_toArray, List.set_cons_zero, List.set_cons_succ]
  refine wpAnyH_ready (rs := [36]) (by kernel_rfl) (by simp) ?_
  refine AllReadyH.cons (o := { dst := some 161, op := .call { callee := .value (.func 21), args := #[.tmp 159, .tmp 160], argTypes := #[22, 22] }, type := 4, pos := "law.go:35", after := #[{ on := 34, ground := .data }, { on := 35, ground := .data }, { on := 33, ground := .chain }, { on := 33, ground := .guard }], guard := some (33, true) }) rfl (fun K hK => ?_) AllReadyH.nil
  obtain ⟨hq5, hyq5⟩ := (hv4.out.bel kbwp).over ovp
  have hs5 : OwnH v5 k9.heap.size (.slice As LL.length cs) LL := (hs4.bel kbwp).kep ovp.kep (fun i hi hh => by have h1 := (HVA.out.1 i hh).2; have h2 := Rw.own_ge hs4 hi; omega)
  obtain ⟨_, _, es, hsr⟩ := hs5.slice
  injection es with es1 _ es2
  subst es1 es2
  have TQ := told A2 As n2 c2 LL.length cs LL LL v5 hq5 hsr hyq5 (by have := HLR.out; have := hq5.len; omega) (by have := HLR.out; omega)
  rw [decide_eq_true (rfl : LL = LL)] at TQ
  go_simp
  refine (TQ).mono ?_
  rintro e v6 ⟨rfl, Wq, kbwq, ovq⟩
  go_wp2_with fail
  refine hK.out _ _ ((hS5.trans (Kep.of_bel kbwq)).trans (ovq.kep.mono fun k _ hk => by have := (HVA.out.2 k hk).1; have := Below.size K8.out; omega)) (fun hS6 => ?_)
  clear hK K
  try simp only [Act.put, List.setIfInBounds_toArray, List.set_cons_zero, List.set_cons_succ]
  refine wpAnyH_take (i := 37) (oi := { dst := some 162, op := .pick (.tmp 158) (.tmp 161) (.const (Value.bool false)), type := 4, pos := "law.go:35", after := #[{ on := 33, ground := .data }, { on := 36, ground := .data }], guard := none }) (v := .bool true) rfl (by kernel_rfl) (by kernel_rfl) (by kernel_rfl) (fun _ _ _ h => h) (Or.inl ⟨by rfl, by intro w hSw; clear hSw; go_simp⟩) hS6 ?_
  try simp only [Act.put, List.setIfInBounds_toArray, List.set_cons_zero, List.set_cons_succ]
  refine wpAnyH_take (i := 38) (oi := { dst := some 163, op := .move (.tmp 162), type := 4, pos := "law.go:35", after := #[{ on := 37, ground := .data }, { on := 36, ground := .chain }], guard := none }) (v := .bool true) rfl (by kernel_rfl) (by kernel_rfl) (by kernel_rfl) (fun _ _ _ h => h) (Or.inl ⟨by rfl, by intro w hSw; clear hSw; go_simp⟩) hS6 ?_
  try simp only [Act.put, List.setIfInBounds_toArray, List.set_cons_zero, List.set_cons_succ]
  refine wpAnyH_take (i := 39) (oi := { dst := some 164, op := .move (.tmp 11), type := 22, pos := "law.go:35", after := #[{ on := 38, ground := .guard }], guard := some (38, true) }) (v := .slice Ac n cc) rfl (by kernel_rfl) (by kernel_rfl) (by kernel_rfl) (fun _ _ _ h => h) (Or.inl ⟨by rfl, by intro w hSw; clear hSw; go_simp⟩) hS6 ?_
  try simp only [Act.put, List.setIfInBounds_toArray, List.set_cons_zero, List.set_cons_succ]
  refine wpAnyH_take (i := 40) (oi := { dst := some 165, op := .move (.tmp 0), type := 22, pos := "law.go:35", after := #[{ on := 38, ground := .guard }], guard := some (38, true) }) (v := .slice A n c) rfl (by kernel_rfl) (by kernel_rfl) (by kernel_rfl) (fun _ _ _ h => h) (Or.inl ⟨by rfl, by intro w hSw; clear hSw; go_simp⟩) hS6 ?_
  try simp only [Act.put, List.setIfInBounds_toArray, List.set_cons_zero, List.set_cons_succ]
  refine wpAnyH_ready (rs := [41]) (by kernel_rfl) (by simp) ?_
  refine AllReadyH.cons (o := { dst := some 166, op := .call { callee := .value (.func 24), args := #[.tmp 164, .tmp 165], argTypes := #[22, 22] }, type := 4, pos := "law.go:35", after := #[{ on := 39, ground := .data }, { on := 40, ground := .data }, { on := 38, ground := .chain }, { on := 38, ground := .guard }], guard := some (38, true) }) rfl (fun K hK => ?_) AllReadyH.nil
  have SM := same_hops Ac A n cc n c l l v6 ((HC6.out.bel Kk.out).kep2 hS6 (fun h0 x hx => by have := HCL.out x hx h0; have := HWZ.out; omega)) ((I6.out.bel Kk.out).kep2 hS6 (fun h0 x hx => by have := IL.out x hx h0; have := HWZ.out; omega)) (by have := HN.out; omega) (by have := HN.out; omega)
  rw [decide_eq_true (rfl : l = l)] at SM
  go_simp
  refine (SM).mono ?_
  rintro e v7 ⟨rfl, kbs⟩
  go_wp2_with fail
  refine hK.out _ _ (hS6.trans (Kep.of_bel kbs)) (fun hS7 => ?_)
  clear hK K
  try simp only [Act.put, List.setIfInBounds_toArray, List.set_cons_zero, List.set_cons_succ]
  refine wpAnyH_take (i := 42) (oi := { dst := some 167, op := .pick (.tmp 163) (.tmp 166) (.const (Value.bool false)), type := 4, pos := "law.go:35", after := #[{ on := 38, ground := .data }, { on := 41, ground := .data }], guard := none }) (v := .bool true) rfl (by kernel_rfl) (by kernel_rfl) (by kernel_rfl) (fun _ _ _ h => h) (Or.inl ⟨by rfl, by intro w hSw; clear hSw; go_simp⟩) hS7 ?_
  try simp only [Act.put, List.setIfInBounds_toArray, List.set_cons_zero, List.set_cons_succ]
  refine wpAnyH_take (i := 43) (oi := { dst := some 168, op := .move (.tmp 167), type := 4, pos := "law.go:35", after := #[{ on := 42, ground := .data }, { on := 41, ground := .chain }], guard := none }) (v := .bool true) rfl (by kernel_rfl) (by kernel_rfl) (by kernel_rfl) (fun _ _ _ h => h) (Or.inl ⟨by rfl, by intro w hSw; clear hSw; go_simp⟩) hS7 ?_
  try simp only [Act.put, List.setIfInBounds_toArray, List.set_cons_zero, List.set_cons_succ]
  refine wpAnyH_ready (rs := [44]) (by kernel_rfl) (by simp) ?_
  refine AllReadyH.cons (o := { dst := some 169, op := .call { callee := .value (.func 9), args := #[], argTypes := #[] }, type := 4, pos := "law.go:35", after := #[{ on := 43, ground := .chain }, { on := 43, ground := .guard }], guard := some (43, true) }) rfl (fun K hK => ?_) AllReadyH.nil
  go_simp
  refine (awake _).mono ?_
  rintro e v8 ⟨rfl, kbz⟩
  go_wp2_with fail
  refine hK.out _ _ (hS7.trans (Kep.of_bel kbz)) (fun hS8 => ?_)
  clear hK K
  try simp only [Act.put, List.setIfInBounds_toArray, List.set_cons_zero, List.set_cons_succ]
  refine wpAnyH_take (i := 45) (oi := { dst := some 170, op := .pick (.tmp 168) (.tmp 169) (.const (Value.bool false)), type := 4, pos := "law.go:35", after := #[{ on := 43, ground := .data }, { on := 44, ground := .data }], guard := none }) (v := .bool true) rfl (by kernel_rfl) (by kernel_rfl) (by kernel_rfl) (fun _ _ _ h => h) (Or.inl ⟨by rfl, by intro w hSw; clear hSw; go_simp⟩) hS8 ?_
  try simp only [Act.put, List.setIfInBounds_toArray, List.set_cons_zero, List.set_cons_succ]
  refine wpAnyH_take (i := 46) (oi := { dst := some 10, op := .assign (.tmp 170), type := 4, pos := "law.go:35", after := #[{ on := 45, ground := .data }, { on := 44, ground := .chain }, { on := 0, ground := .phase }, { on := 1, ground := .phase }, { on := 2, ground := .phase }, { on := 3, ground := .phase }, { on := 4, ground := .phase }, { on := 5, ground := .phase }, { on := 6, ground := .phase }, { on := 7, ground := .phase }, { on := 8, ground := .phase }, { on := 9, ground := .phase }, { on := 10, ground := .phase }, { on := 11, ground := .phase }, { on := 12, ground := .phase }, { on := 13, ground := .phase }, { on := 14, ground := .phase }, { on := 15, ground := .phase }, { on := 16, ground := .phase }, { on := 17, ground := .phase }, { on := 18, ground := .phase }, { on := 19, ground := .phase }, { on := 20, ground := .phase }, { on := 21, ground := .phase }, { on := 22, ground := .phase }, { on := 23, ground := .phase }, { on := 24, ground := .phase }, { on := 25, ground := .phase }, { on := 26, ground := .phase }, { on := 27, ground := .phase }, { on := 28, ground := .phase }, { on := 29, ground := .phase }, { on := 30, ground := .phase }, { on := 31, ground := .phase }, { on := 32, ground := .phase }, { on := 33, ground := .phase }, { on := 34, ground := .phase }, { on := 35, ground := .phase }, { on := 36, ground := .phase }, { on := 37, ground := .phase }, { on := 38, ground := .phase }, { on := 39, ground := .phase }, { on := 40, ground := .phase }, { on := 41, ground := .phase }, { on := 42, ground := .phase }, { on := 43, ground := .phase }, { on := 44, ground := .phase }, { on := 45, ground := .phase }], guard := none }) (v := .bool true) rfl (by kernel_rfl) (by kernel_rfl) (by kernel_rfl) (fun _ _ _ h => h) (Or.inl ⟨by rfl, by intro w hSw; clear hSw; go_simp⟩) hS8 ?_
  try simp only [Act.put, List.setIfInBounds_toArray, List.set_cons_zero, List.set_cons_succ]
  refine wpAnyH_done (by kernel_rfl) ?_ _
  have KF := Lib.hid (show Bel w _ from Kep.bel ((BW5.out.trans K6.out).trans Kk.out) hS8 (fun i hi => Nat.le_trans (Below.size (BW5.out.trans K6.out)) hi))
  go_wp2_with fail
  go_ret
  exact ⟨rfl, KF.out⟩
end Hp
end Go.Proofs.Ytahhnfnonekbmaa
