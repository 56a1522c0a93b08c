/-
  What params.Read answers in this program: the record that the bytes say, or the fault. Conditions: at most 10^6 bytes.
-/
import Derived.Test.YtpohcdfmkcfonaaGreatDoorGPRd0
namespace Go.Proofs.YtpohcdfmkcfonaaGreatDoor
open Go.RowKit Go.Shelf
set_option linter.unusedVariables false
namespace Pm
open Kk

theorem rd_two (e p : Int) : (#[Value.int .i64 e, .int .i64 p] : Array Value).all (·.oneCell') = true := all_oneCell_toArray (cs := [.int .i64 e, .int .i64 p]) (by
  intro v hv
  simp at hv
  rcases hv with rfl | rfl <;> rfl)
theorem rd_flt : (Tryz.prog.info? 34).map (·.size) = some 2 := by kernel_rfl
/-- What Read answers of the bytes. -/
def ReadE (zs : List Int) (x : Nat → Int) (k : Nat) (f : Option (Int × Int)) (w : World) (e : Ending) (w' : World) : Prop :=
  e = .returned (.tuple #[.agg (recC (if (Cd.endOf zs.length k f).1 = 0 then x else zr)).toArray, .agg #[.int .i64 (if (Cd.endOf zs.length k f).1 = 0 then 0 else (Cd.endOf zs.length k f).1), .int .i64 (if (Cd.endOf zs.length k f).1 = 0 then 0 else (Cd.endOf zs.length k f).2)]]) ∧ Bel w w'

set_option maxRecDepth 100000 in
set_option maxHeartbeats 8000000 in
theorem readP (A : Option Addr) (n c : Nat) (zs : List Int) (w : World) (hz : Cd.Sl w A n c zs) (hn : n ≤ 1000000) (hb : Cd.Bytes zs) (xe : Nat → Int) (ke : Nat) (fe : Option (Int × Int)) (hT : To zs xe ke fe 11 zr 0 none) : Calls Tryz.prog 13 #[.slice A n c] w (ReadE zs xe ke fe w) := by
  obtain ⟨Z, hZ⟩ : ∃ Z, Z = recC zr := ⟨_, rfl⟩
  have HZA := Lib.hid (show Z.toArray = #[.int .i64 0, .int .i64 0, .int .i64 0, .int .i64 0, .int .i64 0, .int .i64 0, .int .i64 0, .int .u64 0, .int .u64 0, .int .i64 0, .int .u64 0] by rw [hZ]; rfl)
  have HZI := Lib.hid (show (Tryz.prog.info? 24).map (·.size) = some Z.length by rw [hZ]; exact info_rec)
  have HZI2 := Lib.hid (show (Tryz.prog.info? 24).map (·.size) = some Z.toArray.size by rw [hZ]; exact info_rec)
  have HZO := Lib.hid (all_oneCell_toArray (cs := Z) (by rw [hZ]; exact recC_cells _))
  have HZ := Lib.hid hZ
  clear hZ
  obtain ⟨a, ha⟩ : ∃ a, w.heap.size = a := ⟨_, rfl⟩
  obtain ⟨W1, hW1⟩ : ∃ W1, w.alloc (.cells #[.int .i64 0, .int .i64 0, .int .i64 0, .int .i64 0, .int .i64 0, .int .i64 0, .int .i64 0, .int .u64 0, .int .u64 0, .int .i64 0, .int .u64 0] 24) = W1 := ⟨_, rfl⟩
  obtain ⟨W2, hW2⟩ : ∃ W2, W1.alloc (.cells #[.int .i64 0, .int .i64 0] 34) = W2 := ⟨_, rfl⟩
  obtain ⟨W, hW⟩ : ∃ W, W2.alloc (.cells #[.int .i64 0, .int .i64 0, .int .i64 0, .int .i64 0, .int .i64 0, .int .i64 0, .int .i64 0, .int .u64 0, .int .u64 0, .int .i64 0, .int .u64 0] 24) = W := ⟨_, rfl⟩
  have z1 : W1.heap.size = a + 1 := by rw [← hW1, ← ha]; simp
  have z2 : W2.heap.size = a + 2 := by rw [← hW2]; simp; omega
  have z3 : W.heap.size = a + 3 := by rw [← hW]; simp; omega
  have b1 : Bel w W1 := by rw [← hW1]; exact (Bel.refl w).alloc _
  have b2 : Bel W1 W2 := by rw [← hW2]; exact (Bel.refl W1).alloc _
  have b3 : Bel W2 W := by rw [← hW]; exact (Bel.refl W2).alloc _
  have q1 : Blk W1 a (recC zr).toArray 24 := by rw [← hW1, ← ha]; exact Blk.new w (recC zr).toArray _
  have q2 : Blk W2 (a + 1) #[.int .i64 0, .int .i64 0] 34 := by rw [← hW2, ← z1]; exact Blk.new W1 _ _
  have q3 : Blk W (a + 2) (recC zr).toArray 24 := by rw [← hW, ← z2]; exact Blk.new W2 (recC zr).toArray _
  have Q := Lib.hid (show Blk W a (recC zr).toArray 24 ∧ Blk W (a + 1) #[.int .i64 0, .int .i64 0] 34 ∧ Blk W (a + 2) (recC zr).toArray 24 ∧ Bel w W ∧ W.heap.size = a + 3 from ⟨(q1.bel b2).bel b3, q2.bel b3, q3, (b1.trans b2).trans b3, z3⟩)
  have NR := Lib.hid (Cd.newReader A n c zs W (hz.bel ((b1.trans b2).trans b3)) hn hb)
  have HT := Lib.hid hT
  have HA := Lib.hid ha
  have HW := Lib.hid (show ((w.alloc (.cells #[.int .i64 0, .int .i64 0, .int .i64 0, .int .i64 0, .int .i64 0, .int .i64 0, .int .i64 0, .int .u64 0, .int .u64 0, .int .i64 0, .int .u64 0] 24)).alloc (.cells #[.int .i64 0, .int .i64 0] 34)).alloc (.cells #[.int .i64 0, .int .i64 0, .int .i64 0, .int .i64 0, .int .i64 0, .int .i64 0, .int .i64 0, .int .u64 0, .int .u64 0, .int .i64 0, .int .u64 0] 24) = W by rw [hW1, hW2, hW])
  clear ha hW hW1 hW2 z1 z2 z3 b1 b2 b3 q1 q2 q3 hz hn hb hT
  go_enter Tryz.func13, Tryz.ntmps13
  go_upto_region 2 with fail
  rw [HW.out, HA.out]
  go_wp2_with fail
  refine NR.out.mono ?_
  rintro e w1 ⟨b, A', c', rfl, hb, hst, hA', k1⟩
  have HST := Lib.hid hst
  have HB1 := Lib.hid (show a + 2 < b by have := Q.out.2.2.2.2; omega)
  have HA1 := Lib.hid (show ∀ y : Addr, A' = some y → y.block ≠ a + 2 from fun y hy => by have := hA' y hy; have := Q.out.2.2.2.2; omega)
  have B1 : Hid (Bel W w1) := Lib.hid k1
  clear hb hst hA' k1 NR
  go_wp2_with fail
  refine (fieldsR (a + 2) w1).mono ?_
  rintro e w2 ⟨l, rfl, hF, k1⟩
  have S0 := Lib.hid (show Rs w a b w1.heap.size A' n c' zs l zr 0 none w2 from
    ⟨HA.out, HB1.out, HST.out.blk.lt, HA1.out, Cd.RD.bel ⟨none, HST.out, .inl ⟨rfl, rfl⟩, fun x hx => by cases hx⟩ k1, (Q.out.2.2.1.bel B1.out).bel k1, (Q.out.1.bel B1.out).bel k1, (Q.out.2.1.bel B1.out).bel k1, hF, (Q.out.2.2.2.1.trans B1.out).trans k1⟩)
  obtain ⟨m, hm⟩ : ∃ m, w1.heap.size = m := ⟨_, rfl⟩
  rw [hm] at S0
  clear hF k1 hm Q HST
  go_wp2_with fail
  go_loopw [14] (fun u14 wr => ∃ i : Nat, u14 = .int .i64 i ∧ i ≤ 11 ∧ ∃ x k f, To zs xe ke fe (11 - i) x k f ∧ Rs w a b m A' n c' zs l x k f wr) (fun u14 _ => 11 - (intOf u14).toNat)
  case atStart => exact ⟨0, rfl, by omega, zr, 0, none, HT.out, S0.out⟩
  case round =>
    obtain ⟨i, rfl, hi, x, k, f, hR, hS⟩ := hrel
    have HR := Lib.hid hR
    have HS := Lib.hid hS
    clear hR hS S0
    by_cases hlt : i < 11
    · obtain ⟨cc, h1, h2, h3⟩ := HS.out.fds.all i hlt
      obtain ⟨Y, hY⟩ : ∃ Y, Y = fldC (nm i) (lo i) (Pm.hi i) (gf i) (sf i) cc := ⟨_, rfl⟩
      rw [← hY] at h1
      have HYl := Lib.hid (show Y.length = 5 by rw [hY]; rfl)
      have YI := Lib.hid (show (Tryz.prog.info? 55).map (·.size) = some Y.length by rw [HYl.out]; exact info_fld)
      have YI2 := Lib.hid (show (Tryz.prog.info? 55).map (·.size) = some Y.toArray.size by rw [List.size_toArray]; exact YI.out)
      have YO := Lib.hid (all_oneCell_toArray (cs := Y) (by rw [hY]; exact fldC_cells _ _ _ _ _ _))
      have HY := Lib.hid hY
      have R1 := Lib.hid h1
      obtain ⟨p1, p2, p3⟩ := put5 wr Y HYl.out
      have P1 := Lib.hid p1
      have P2 := Lib.hid p2
      have P3 := Lib.hid p3
      have C1 := Lib.hid h2
      have M1 := Lib.hid h3
      clear h1 h2 h3 p1 p2 p3 hY
      go_upto_region 6 with (first | (refine wpList_load_mid rfl 55 (.tmp 16) rfl l (i * 5) rfl Y _ R1.out Tryz.underlying55 rfl YI.out ?_) | (refine wpList_store_mid rfl 55 (.tmp 7) (.tmp 17) rfl wr.heap.size 0 Y.toArray rfl rfl P1.out YI2.out YO.out ?_))
      obtain ⟨fb, hf⟩ : ∃ f, wr.heap.size = f := ⟨_, rfl⟩
      obtain ⟨V, hV⟩ : ∃ V, (wr.alloc ZF).setCells wr.heap.size 0 Y = V := ⟨_, rfl⟩
      have hV' := hV
      rw [hf] at hV' ⊢
      rw [hV] at P2 P3
      rw [hf] at P3
      rw [hV']
      have FB := Lib.hid (show fb ≠ b ∧ fb ≠ a + 2 from ⟨by have := (HS.out.rd.rs).choose_spec.choose_spec.choose_spec.choose_spec.1.blk.lt; omega, by have := HS.out.rc.lt; omega⟩)
      clear hV hV' hf
      have V0 := Lib.hid (HS.out.up P2.out)
      have CV := Lib.hid (cell_bel C1.out P2.out)
      obtain ⟨pa, hpa⟩ : ∃ p, Cd.atOf k f = p := ⟨_, rfl⟩
      have AT := Lib.hid (show Calls Tryz.prog 37 #[.pointer (some ⟨b, 0, none⟩)] V fun e w' => e = .returned (.int .i64 pa) ∧ V = w' by rw [← hpa]; exact Cd.rAt b zs k f V V0.out.rd.rs)
      have HPA := Lib.hid hpa
      clear hpa
      go_wp2_with fail
      refine AT.out.mono ?_
      rintro e w3 ⟨rfl, rfl⟩
      go_upto_region 7 with fail
      obtain ⟨v, k', f1, hN, hv, hT'⟩ := HR.out.next hlt
      have hl := lohi i hlt
      have e1 : IntKind.i64.wrap (lo i) = lo i := by simp [IntKind.wrap, IntKind.bits, IntKind.signed]; omega
      have e2 : IntKind.i64.wrap (Pm.hi i) = Pm.hi i := by simp [IntKind.wrap, IntKind.bits, IntKind.signed]; omega
      have e3 : IntKind.u64.wrap v = v := by simp [IntKind.wrap, IntKind.bits, IntKind.signed]; omega
      have e4 : sv i v = v := sv_num i v (by omega) (by omega)
      have GN := Lib.hid (show Calls Tryz.prog 38 #[.pointer (some ⟨b, 0, none⟩), .int .i64 (IntKind.i64.wrap (lo i)), .int .i64 (IntKind.i64.wrap (Pm.hi i))] V.drew fun e w' => e = .returned (.int .i64 v) ∧ Rs w a b m A' n c' zs l x k' f1 w' ∧ w'.rangeAt fb 0 Y ∧ w'.cell? ⟨cc, 0, none⟩ = some (.pointer (some ⟨a + 2, i, none⟩)) by
        have V1 := V0.out.up (Bel.refl V).drew
        rw [e1, e2]
        exact (Cd.yN (a + 2) b A' n c' zs k f (lo i) (Pm.hi i) v k' f1 V.drew V1.rd hN (by omega) V1.rc.lt).mono fun e w' h => ⟨h.1, V1.read h.2.1 (kk h.2.2), rng_kep (rng_bel (rngB P3.out) (Bel.refl V).drew) (kk h.2.2) FB.out.1, cell_kep (cell_bel CV.out (Bel.refl V).drew) (kk h.2.2) (by have := HS.out.hm; have := M1.out; omega)⟩)
      have GS := Lib.hid (show ∀ V : World, Rs w a b m A' n c' zs l x k' f1 V → V.rangeAt fb 0 Y → V.cell? ⟨cc, 0, none⟩ = some (.pointer (some ⟨a + 2, i, none⟩)) → Calls Tryz.prog (sf i) #[.int .u64 (IntKind.u64.wrap v), .pointer (some ⟨cc, 0, none⟩)] V fun e w' => e = .returned (.tuple #[]) ∧ Rs w a b m A' n c' zs l (upd x i v) k' f1 w' ∧ w'.rangeAt fb 0 Y from fun V h hr hc => by
        rw [e3]
        refine (setAt cc (a + 2) i x v V hlt hc h.rc).mono fun e w' hh => ?_
        rw [e4] at hh
        exact ⟨hh.1, h.move hh.2.1 hh.2.2, rng_kep hr hh.2.2 FB.out.2⟩)
      have C4 := Lib.hid (show ∀ V : World, V.rangeAt fb 0 Y → V.cell? ⟨fb, 4, none⟩ = some (.func (.func (sf i)) #[] #[.pointer (some ⟨cc, 0, none⟩)]) from fun V h => by have := h 4 (.func (.func (sf i)) #[] #[.pointer (some ⟨cc, 0, none⟩)]) (by rw [HY.out]; rfl); rwa [Nat.zero_add] at this)
      have CL := Lib.hid (show ∀ V : World, V.rangeAt fb 0 Y → V.cell? ⟨fb, 1, none⟩ = some (.int .u64 (lo i)) from fun V h => by have := h 1 (.int .u64 (lo i)) (by rw [HY.out]; rfl); rwa [Nat.zero_add] at this)
      have CH := Lib.hid (show ∀ V : World, V.rangeAt fb 0 Y → V.cell? ⟨fb, 2, none⟩ = some (.int .u64 (Pm.hi i)) from fun V h => by have := h 2 (.int .u64 (Pm.hi i)) (by rw [HY.out]; rfl); rwa [Nat.zero_add] at this)
      have CF := enter_sf i hlt
      have NX := Lib.hid (show ∀ f', f' = (if upd x i v 1 ≤ upd x i v 0 then f1 else Cd.failOf f1 9 pa) → To zs xe ke fe (11 - (i + 1)) (upd x i v) k' f' from fun f' hf => by rw [hf, ← HPA.out]; exact hT')
      obtain ⟨y, hy⟩ : ∃ y, upd x i v = y := ⟨_, rfl⟩
      obtain ⟨g, hg⟩ : ∃ g, sf i = g := ⟨_, rfl⟩
      obtain ⟨lL, hlL⟩ : ∃ L, lo i = L := ⟨_, rfl⟩
      obtain ⟨lH, hlH⟩ : ∃ L, Pm.hi i = L := ⟨_, rfl⟩
      rw [hg] at C4 GS CF
      rw [hy] at GS NX
      rw [hlL] at GN CL
      rw [hlH] at GN CH
      have S0d := rng_bel (rngB P3.out) (Bel.refl V).drew
      clear hg hy hlL hlH e1 e2 e3 e4 hl hv hN hT'
      refine wp_region_held_drew (S := fun V => V.rangeAt fb 0 Y) (by kernel_rfl) S0d (fun hS0 => ?_)
      obtain ⟨w6, hw6⟩ : ∃ w6, V.drew = w6 := ⟨_, rfl⟩
      rw [hw6] at hS0 GN ⊢
      clear hw6 S0d
      refine wpAnyH_take (i := 0) (oi := { dst := some 20, op := .fieldAddr 55 (.tmp 7) 4, type := 0, pos := "encode.go:26", after := #[], guard := none }) (v := .pointer (some ⟨fb, 4, none⟩)) rfl (by kernel_rfl) (by kernel_rfl) (by kernel_rfl) (fun _ _ _ h => h) (Or.inl ⟨by rfl, by intro w hSw; clear hSw; go_simp⟩) hS0 ?_
      try simp only [Act.put, List.setIfInBounds_toArray, List.set_cons_zero, List.set_cons_succ]
      refine wpAnyH_take (i := 1) (oi := { dst := some 21, op := .load 53 (.tmp 20), type := 53, pos := "encode.go:26", after := #[{ on := 0, ground := .data }], guard := none }) (v := .func (.func g) #[] #[.pointer (some ⟨cc, 0, none⟩)]) rfl (by kernel_rfl) (by kernel_rfl) (by kernel_rfl) (fun _ _ _ h => h) (Or.inl ⟨by rfl, by intro w h; have hcell := (C4.out _ h); clear h; go_simp⟩) hS0 ?_
      try simp only [Act.put, List.setIfInBounds_toArray, List.set_cons_zero, List.set_cons_succ]
      refine wpAnyH_take (i := 2) (oi := { dst := some 22, op := .move (.tmp 5), type := 78, pos := "encode.go:26", after := #[], guard := none }) (v := .pointer (some ⟨b, 0, none⟩)) rfl (by kernel_rfl) (by kernel_rfl) (by kernel_rfl) (fun _ _ _ h => h) (Or.inl ⟨by rfl, by intro w hSw; clear hSw; go_simp⟩) hS0 ?_
      try simp only [Act.put, List.setIfInBounds_toArray, List.set_cons_zero, List.set_cons_succ]
      refine wpAnyH_take (i := 3) (oi := { dst := some 23, op := .fieldAddr 55 (.tmp 7) 1, type := 0, pos := "encode.go:26", after := #[], guard := none }) (v := .pointer (some ⟨fb, 1, none⟩)) rfl (by kernel_rfl) (by kernel_rfl) (by kernel_rfl) (fun _ _ _ h => h) (Or.inl ⟨by rfl, by intro w hSw; clear hSw; go_simp⟩) hS0 ?_
      try simp only [Act.put, List.setIfInBounds_toArray, List.set_cons_zero, List.set_cons_succ]
      refine wpAnyH_take (i := 4) (oi := { dst := some 24, op := .load 22 (.tmp 23), type := 22, pos := "encode.go:26", after := #[{ on := 3, ground := .data }], guard := none }) (v := .int .u64 lL) rfl (by kernel_rfl) (by kernel_rfl) (by kernel_rfl) (fun _ _ _ h => h) (Or.inl ⟨by rfl, by intro w h; have hcell := (CL.out _ h); clear h; go_simp⟩) hS0 ?_
      try simp only [Act.put, List.setIfInBounds_toArray, List.set_cons_zero, List.set_cons_succ]
      refine wpAnyH_take (i := 5) (oi := { dst := some 25, op := .convert 22 3 (.tmp 24), type := 3, pos := "encode.go:26", after := #[{ on := 4, ground := .data }], guard := none }) (v := .int .i64 (IntKind.i64.wrap lL)) rfl (by kernel_rfl) (by kernel_rfl) (by kernel_rfl) (fun _ _ _ h => h) (Or.inl ⟨by rfl, by intro w hSw; clear hSw; go_simp⟩) hS0 ?_
      try simp only [Act.put, List.setIfInBounds_toArray, List.set_cons_zero, List.set_cons_succ]
      refine wpAnyH_take (i := 6) (oi := { dst := some 26, op := .fieldAddr 55 (.tmp 7) 2, type := 0, pos := "encode.go:26", after := #[], guard := none }) (v := .pointer (some ⟨fb, 2, none⟩)) rfl (by kernel_rfl) (by kernel_rfl) (by kernel_rfl) (fun _ _ _ h => h) (Or.inl ⟨by rfl, by intro w hSw; clear hSw; go_simp⟩) hS0 ?_
      try simp only [Act.put, List.setIfInBounds_toArray, List.set_cons_zero, List.set_cons_succ]
      refine wpAnyH_take (i := 7) (oi := { dst := some 27, op := .load 22 (.tmp 26), type := 22, pos := "encode.go:26", after := #[{ on := 6, ground := .data }], guard := none }) (v := .int .u64 lH) rfl (by kernel_rfl) (by kernel_rfl) (by kernel_rfl) (fun _ _ _ h => h) (Or.inl ⟨by rfl, by intro w h; have hcell := (CH.out _ h); clear h; go_simp⟩) hS0 ?_
      try simp only [Act.put, List.setIfInBounds_toArray, List.set_cons_zero, List.set_cons_succ]
      refine wpAnyH_take (i := 8) (oi := { dst := some 28, op := .convert 22 3 (.tmp 27), type := 3, pos := "encode.go:26", after := #[{ on := 7, ground := .data }], guard := none }) (v := .int .i64 (IntKind.i64.wrap lH)) rfl (by kernel_rfl) (by kernel_rfl) (by kernel_rfl) (fun _ _ _ h => h) (Or.inl ⟨by rfl, by intro w hSw; clear hSw; go_simp⟩) hS0 ?_
      try simp only [Act.put, List.setIfInBounds_toArray, List.set_cons_zero, List.set_cons_succ]
      refine wpAnyH_ready (rs := [9]) (by kernel_rfl) (by simp) ?_
      refine AllReadyH.cons (o := { dst := some 29, op := .call { callee := .value (.func 38), args := #[.tmp 22, .tmp 25, .tmp 28], argTypes := #[78, 3, 3] }, type := 3, pos := "encode.go:26", after := #[{ on := 2, ground := .data }, { on := 5, ground := .data }, { on := 8, ground := .data }], guard := none }) rfl (fun K hK => ?_) AllReadyH.nil
      go_simp
      refine (GN.out).mono ?_
      rintro e v1 ⟨rfl, r1, s1, t1⟩
      go_wp2_with fail
      refine hK.out _ _ (s1) (fun hS1 => ?_)
      clear hK K
      try simp only [Act.put, List.setIfInBounds_toArray, List.set_cons_zero, List.set_cons_succ]
      refine wpAnyH_take (i := 10) (oi := { dst := some 30, op := .convert 3 22 (.tmp 29), type := 22, pos := "encode.go:26", after := #[{ on := 9, ground := .data }], guard := none }) (v := .int .u64 (IntKind.u64.wrap v)) rfl (by kernel_rfl) (by kernel_rfl) (by kernel_rfl) (fun _ _ _ h => h) (Or.inl ⟨by rfl, by intro w hSw; clear hSw; go_simp⟩) hS1 ?_
      try simp only [Act.put, List.setIfInBounds_toArray, List.set_cons_zero, List.set_cons_succ]
      refine wpAnyH_ready (rs := [11]) (by kernel_rfl) (by simp) ?_
      refine AllReadyH.cons (o := { dst := some 31, op := .call { callee := .value (.tmp 21), args := #[.tmp 30], argTypes := #[22] }, type := 0, pos := "encode.go:26", after := #[{ on := 1, ground := .data }, { on := 10, ground := .data }, { on := 9, ground := .chain }], guard := none }) rfl (fun K hK => ?_) AllReadyH.nil
      go_simp
      refine (GS.out _ r1 hS1 t1).mono ?_
      rintro e v2 ⟨rfl, r2, s2⟩
      go_wp2_with fail
      refine hK.out _ _ (s2) (fun hS2 => ?_)
      clear hK K
      try simp only [Act.put, List.setIfInBounds_toArray, List.set_cons_zero, List.set_cons_succ]
      refine wpAnyH_done (by kernel_rfl) ?_ _
      have R8 := Lib.hid r2
      clear CF C4 CL CH GN GS hS0 hS1 hS2 r1 r2 s1 s2 t1
      obtain ⟨E, hE⟩ : ∃ E, E = recC y := ⟨_, rfl⟩
      have HEl := Lib.hid (show E.length = 11 by rw [hE]; rfl)
      have RE := Lib.hid (show v2.rangeAt (a + 2) 0 E by rw [hE]; exact rngB R8.out.rc)
      have CE := Lib.hid (ordered y)
      rw [← hE] at CE
      have EI := Lib.hid (show (Tryz.prog.info? 24).map (·.size) = some E.length by rw [HEl.out]; exact info_rec)
      clear hE
      by_cases ho : y 1 ≤ y 0
      · have hd : decide (y 1 ≤ y 0) = true := by simpa using ho
        go_wp2_with (first | (refine wpList_load_mid rfl 24 (.tmp 4) rfl (a + 2) 0 rfl E _ RE.out Tryz.underlying24 rfl EI.out ?_) | (go_at_call 31; refine (CE.out v2).mono ?_; rintro e w9 ⟨rfl, k9⟩; have B9 : Hid (Bel v2 w9) := Lib.hid k9; clear k9))
        go_roundw
        case rel => exact ⟨i + 1, by go_num, by omega, y, k', f1, NX.out _ (by rw [if_pos ho]), R8.out.up B9.out⟩
        case measure => simp [intOf]; omega
      · have hd : decide (y 1 ≤ y 0) = false := by simpa using ho
        have HO := Lib.hid ho
        go_wp2_with (first | (refine wpList_load_mid rfl 24 (.tmp 4) rfl (a + 2) 0 rfl E _ RE.out Tryz.underlying24 rfl EI.out ?_) | (go_at_call 31; refine (CE.out v2).mono ?_; rintro e w9 ⟨rfl, k9⟩; have R9 := Lib.hid (R8.out.up k9); clear k9) | (go_at_call 39; refine (Cd.yFail (a + 2) b A' n c' zs k' f1 9 pa _ R9.out.rd R9.out.rc.lt).mono ?_; rintro e w10 ⟨rfl, r10, k10⟩; have RA := Lib.hid (R9.out.read r10 (kk k10)); clear r10 k10))
        go_roundw
        case rel => exact ⟨i + 1, by go_num, by omega, y, k', Cd.failOf f1 9 pa, NX.out (Cd.failOf f1 9 pa) (if_neg (Int.not_le.2 HO.out)).symm, RA.out⟩
        case measure => simp [intOf]; omega
    · obtain rfl : i = 11 := by omega
      obtain ⟨rfl, rfl, rfl⟩ := HR.out
      obtain ⟨fe, hfe⟩ : ∃ fe, Cd.endOf zs.length k f = fe := ⟨_, rfl⟩
      obtain ⟨e1, p1⟩ := fe
      have EN := Lib.hid (show Calls Tryz.prog 40 #[.pointer (some ⟨b, 0, none⟩)] wr fun e w' => e = .returned (.agg #[.int .i64 e1, .int .i64 p1]) ∧ Bel wr w' by have h := Cd.rEnd b zs k f wr HS.out.rd.rs; rw [hfe] at h; exact h)
      have HFE := Lib.hid hfe
      clear hfe
      go_wp2_with fail
      refine EN.out.mono ?_
      rintro e w2 ⟨rfl, k2⟩
      have S2 := Lib.hid (HS.out.up k2)
      clear k2
      have TH := Lib.hid (bthere (Blk.new w2 #[.int .i64 0, .int .i64 0] 34) 0 2 (Nat.le_refl _))
      go_upto_region 12 with (refine wpList_store_mid rfl 34 (.tmp 9) (.tmp 40) rfl w2.heap.size 0 #[.int .i64 e1, .int .i64 p1] rfl rfl TH.out rd_flt (rd_two _ _) ?_)
      obtain ⟨q, hq⟩ : ∃ q, w2.heap.size = q := ⟨_, rfl⟩
      have QB := bwhole (vs := [.int .i64 e1, .int .i64 p1]) (Blk.new w2 #[.int .i64 0, .int .i64 0] 34) rfl
      have QL := bel_setCells ((Bel.refl w2).alloc (.cells #[.int .i64 0, .int .i64 0] 34)) (Nat.le_refl _) 0 [.int .i64 e1, .int .i64 p1]
      rw [hq] at QB QL ⊢
      obtain ⟨V, hV⟩ : ∃ V, (w2.alloc (.cells #[.int .i64 0, .int .i64 0] 34)).setCells q 0 [.int .i64 e1, .int .i64 p1] = V := ⟨_, rfl⟩
      rw [hV] at QB QL ⊢
      have S3 := Lib.hid (S2.out.up QL)
      have Q3 := Lib.hid QB
      have HQ := Lib.hid (show a + 2 < q by have := S2.out.rc.lt; omega)
      have c0 : V.cell? ⟨q, 0, none⟩ = some (.int .i64 e1) := QB.cell 0 rfl
      clear hq hV QB QL TH EN
      by_cases he : e1 = 0
      · subst he
        obtain ⟨E, hE⟩ : ∃ E, E = recC x := ⟨_, rfl⟩
        have HE := Lib.hid hE
        have EI := Lib.hid (show (Tryz.prog.info? 24).map (·.size) = some E.length by rw [hE]; exact info_rec)
        have EI2 := Lib.hid (show (Tryz.prog.info? 24).map (·.size) = some E.toArray.size by rw [hE]; exact info_rec)
        have EO := Lib.hid (all_oneCell_toArray (cs := E) (by rw [hE]; exact recC_cells _))
        have RE := Lib.hid (show V.rangeAt (a + 2) 0 E by rw [hE]; exact rngB S3.out.rc)
        obtain ⟨t1, t2⟩ := store_rec (z := x) S3.out.r1
        rw [← hE] at t1 t2
        have T1 := Lib.hid t1
        have T2 := Lib.hid t2
        have S4 := Lib.hid (S3.out.r2.kep (kep_setCells a E 0 V) (by omega))
        have T3 := Lib.hid (bthere S4.out 0 2 (Nat.le_refl _))
        clear t1 t2 hE
        go_wp2_with (first | (refine wpList_load_mid rfl 24 (.tmp 4) rfl (a + 2) 0 rfl E _ RE.out Tryz.underlying24 rfl EI.out ?_) | (refine wpList_store_mid rfl 24 (.tmp 2) (.tmp 46) rfl a 0 E.toArray rfl rfl T1.out EI2.out EO.out ?_) | (refine wpList_store_mid rfl 34 (.tmp 3) (.tmp 47) rfl (a + 1) 0 #[.int .i64 0, .int .i64 0] rfl rfl T3.out rd_flt (rd_two _ _) ?_))
        have F1 := T2.out.kep (kep_setCells (a + 1) [.int .i64 0, .int .i64 0] 0 _) (by omega)
        have F2 := bwhole (vs := [.int .i64 0, .int .i64 0]) S4.out rfl
        refine bodyPost_ret (res_cc Tryz.results13 _ _ ⟨a, 0, none⟩ ⟨a + 1, 0, none⟩ (.agg E.toArray) (.agg #[.int .i64 0, .int .i64 0]) rfl rfl (load_b F1 Tryz.underlying24 rfl EI.out) (load_b F2 Tryz.underlying34 rfl rd_flt)) rfl ⟨by rw [HFE.out, HE.out]; rfl, bel_setCells (bel_setCells S3.out.bel (by rw [HA.out]; exact Nat.le_refl _) 0 E) (by rw [HA.out]; omega) 0 _⟩
      · have fe : (e1 != 0) = true := by rw [bne_iff_ne]; exact he
        have HE := Lib.hid he
        clear he
        go_upto_region 13 with fail
        have S0d : V.drew.rangeAt q 0 [.int .i64 e1, .int .i64 p1] := rng_bel (rngB Q3.out) (Bel.refl V).drew
        have uL := Tryz.underlying34
        have iL := rd_flt
        refine wp_region_held_drew (S := fun V => V.rangeAt q 0 [.int .i64 e1, .int .i64 p1]) (by kernel_rfl) S0d (fun hS0 => ?_)
        obtain ⟨w6, hw6⟩ : ∃ w6, V.drew = w6 := ⟨_, rfl⟩
        have S4 := Lib.hid (show Rs w a b m A' n c' zs l x k f w6 by rw [← hw6]; exact S3.out.up (Bel.refl V).drew)
        rw [hw6] at hS0 ⊢
        clear hw6 S0d c0
        obtain ⟨t1, t2⟩ := store_rec (z := zr) S4.out.r1
        rw [← HZ.out] at t1 t2
        have T1 := Lib.hid t1
        have T2 := Lib.hid t2
        have S5 := Lib.hid (S4.out.r2.kep (kep_setCells a Z 0 w6) (by omega))
        have T3 := Lib.hid (bthere S5.out 0 2 (Nat.le_refl _))
        clear t1 t2
        refine wpAnyH_take (i := 0) (oi := { dst := some 44, op := .build 24 #[], type := 24, pos := "encode.go:32", after := #[], guard := none }) (v := .agg #[.int .i64 0, .int .i64 0, .int .i64 0, .int .i64 0, .int .i64 0, .int .i64 0, .int .i64 0, .int .u64 0, .int .u64 0, .int .i64 0, .int .u64 0]) rfl (by kernel_rfl) (by kernel_rfl) (by kernel_rfl) (fun _ _ _ h => h) (Or.inl ⟨by rfl, by intro w hSw; clear hSw; go_simp⟩) hS0 ?_
        try simp only [Act.put, List.setIfInBounds_toArray, List.set_cons_zero, List.set_cons_succ]
        refine wpAnyH_take (i := 1) (oi := { dst := some 45, op := .load 34 (.tmp 9), type := 34, pos := "encode.go:32", after := #[{ on := 2, ground := .gcOnly .lateStores }], guard := none }) (v := .agg #[.int .i64 e1, .int .i64 p1]) rfl (by kernel_rfl) (by kernel_rfl) (by kernel_rfl) (fun _ _ _ h => h) (yieldsIf_load_mid (by rfl) _ _ rfl _ _ rfl _ _ (fun w h => h) uL rfl iL) hS0 ?_
        try simp only [Act.put, List.setIfInBounds_toArray, List.set_cons_zero, List.set_cons_succ]
        refine wpAnyH_ready (rs := [2]) (by kernel_rfl) (by simp) ?_
        refine AllReadyH.cons (o := { dst := none, op := .store 24 (.tmp 2) (.tmp 44), type := 0, pos := "encode.go:32", after := #[{ on := 0, ground := .data }, { on := 0, ground := .phase }, { on := 1, ground := .textOnly .lateStores }], guard := none }) rfl (fun K hK => ?_) AllReadyH.nil
        rw [if_pos (by rfl)]
        refine wp_store_mid 24 (.tmp 2) (.tmp 44) rfl a 0 Z.toArray rfl (by rw [HZA.out]; rfl) T1.out HZI2.out HZO.out ?_
        refine hK.out _ _ (rng_kep hS0 (kep_setCells a _ 0 _) (by have := HQ.out; omega)) (fun hS1 => ?_)
        clear hK K
        try simp only [Act.put]
        refine wpAnyH_ready (rs := [3]) (by kernel_rfl) (by simp) ?_
        refine AllReadyH.cons (o := { dst := none, op := .store 34 (.tmp 3) (.tmp 45), type := 0, pos := "encode.go:32", after := #[{ on := 1, ground := .data }, { on := 2, ground := .chain }, { on := 0, ground := .phase }, { on := 1, ground := .phase }, { on := 2, ground := .phase }], guard := none }) rfl (fun K hK => ?_) AllReadyH.nil
        rw [if_pos (by rfl)]
        refine wp_store_mid 34 (.tmp 3) (.tmp 45) rfl (a + 1) 0 #[.int .i64 e1, .int .i64 p1] rfl rfl T3.out rd_flt (rd_two _ _) ?_
        refine hK.out _ _ (rng_kep hS1 (kep_setCells (a + 1) _ 0 _) (by have := HQ.out; omega)) (fun hS2 => ?_)
        clear hK K
        try simp only [Act.put]
        refine wpAnyH_done (by kernel_rfl) ?_ _
        go_wp2_with fail
        have F1 := T2.out.kep (kep_setCells (a + 1) [.int .i64 e1, .int .i64 p1] 0 _) (by omega)
        have F2 := bwhole (vs := [.int .i64 e1, .int .i64 p1]) S5.out rfl
        refine bodyPost_ret (res_cc Tryz.results13 _ _ ⟨a, 0, none⟩ ⟨a + 1, 0, none⟩ (.agg Z.toArray) (.agg #[.int .i64 e1, .int .i64 p1]) rfl rfl (load_b F1 Tryz.underlying24 rfl HZI.out) (load_b F2 Tryz.underlying34 rfl rd_flt)) rfl ⟨by rw [HFE.out, if_neg HE.out, if_neg HE.out, if_neg HE.out, show recC zr = Z by first | exact HZ.out | exact HZ.out.symm], bel_setCells (bel_setCells S4.out.bel (by rw [HA.out]; exact Nat.le_refl _) 0 Z) (by rw [HA.out]; omega) 0 _⟩
end Pm
end Go.Proofs.YtpohcdfmkcfonaaGreatDoor
