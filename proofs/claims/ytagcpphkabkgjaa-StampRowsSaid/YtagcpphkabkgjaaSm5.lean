/-
  What the statements' awake answers, and StampKnown: the chapter's examples are answered as it says. No condition.
-/
import Derived.Test.YtagcpphkabkgjaaSm3b
namespace Go.Proofs.Ytagcpphkabkgjaa
open Go.RowKit Go.Shelf
set_option linter.unusedVariables false
namespace Sm
open Cd

theorem checkC (a b c d : Int) (w : World) : Calls Try.prog 38 #[stV a b c d] w fun r w' => r = .returned (.int .i64 (ck a b c d)) ∧ Bel w w' := check a b c d w
theorem backedC (a b c d v h u : Int) (w : World) : Calls Try.prog 37 #[stV a b c d, .int .i64 v, .int .i64 h, .int .i64 u] w fun r w' => r = .returned (.bool (bkB a b c d v h u)) ∧ Bel w w' := backed a b c d v h u w
theorem compareC (a b c d e f g h : Int) (w : World) : Calls Try.prog 40 #[stV a b c d, stV e f g h] w fun r w' => r = .returned (.int .i64 (cmp a b c d e f g h)) ∧ Bel w w' := compare a b c d e f g h w
theorem newC (a b : Int) (w : World) : Calls Try.prog 34 #[.int .i64 a, .int .i64 b] w fun r w' => r = .returned (ansV (ck a b (-1) 0) a b (-1) 0) ∧ Bel w w' := new a b w

theorem chapter (w : World) : Calls Try.prog 33 #[] w fun r w' => r = .returned (stV 2 9 1 5) ∧ Bel w w' := by
  have Q0 := Lib.hid (Blk.new w #[.int .i64 2, .int .i64 9, .int .i64 1, .int .i64 5] 23)
  have B0 := Lib.hid ((Bel.refl w).alloc (.cells #[.int .i64 2, .int .i64 9, .int .i64 1, .int .i64 5] 23))
  go_enter Try.func33, Try.ntmps33
  go_wp2_with fail
  refine bodyPost_ret (Pm.res_c rfl _ _ ⟨w.heap.size, 0, none⟩ _ rfl (load_st Q0.out)) rfl ⟨rfl, B0.out⟩
theorem bare (v h : Int) (w : World) : Calls Try.prog 35 #[.int .i64 v, .int .i64 h] w fun r w' => r = .returned (stV v h (-1) 0) ∧ Bel w w' := by
  have Q0 := Lib.hid (Blk.new w #[.int .i64 v, .int .i64 h, .int .i64 (-1), .int .i64 0] 23)
  have B0 := Lib.hid ((Bel.refl w).alloc (.cells #[.int .i64 v, .int .i64 h, .int .i64 (-1), .int .i64 0] 23))
  go_enter Try.func35, Try.ntmps35
  go_wp2_with fail
  refine bodyPost_ret (Pm.res_c rfl _ _ ⟨w.heap.size, 0, none⟩ _ rfl (load_st Q0.out)) rfl ⟨rfl, B0.out⟩
set_option maxHeartbeats 1000000 in
theorem hops (a b c d v h p q r s E : Int) (w : World) (hE : hopE a b c d v h = E) (h1 : orZ E v = p) (h2 : orZ E h = q) (h3 : orZ E a = r) (h4 : orZ E b = s) :
    Calls Try.prog 36 #[stV a b c d, .int .i64 v, .int .i64 h, stV p q r s, .int .i64 E] w fun e w' => e = .returned (.bool true) ∧ Bel w w' := by
  have HO := Lib.hid (fun W => show Calls Try.prog 56 #[stV a b c d, .int .i64 v, .int .i64 h] W fun r' w' => r' = .returned (.tuple #[stV p q r s, .int .i64 E]) ∧ Bel W w' by
    have := hop a b c d v h W
    rw [hE, show ansV E v h a b = .tuple #[stV (orZ E v) (orZ E h) (orZ E a) (orZ E b), .int .i64 E] from rfl, h1, h2, h3, h4] at this
    exact this)
  have P0 : Blk ((w.alloc (.cells #[.int .i64 a, .int .i64 b, .int .i64 c, .int .i64 d] 23)).alloc (.cells #[.int .i64 p, .int .i64 q, .int .i64 r, .int .i64 s] 23)) (w.heap.size + 1) #[.int .i64 p, .int .i64 q, .int .i64 r, .int .i64 s] 23 := by
    have := Blk.new (w.alloc (.cells #[.int .i64 a, .int .i64 b, .int .i64 c, .int .i64 d] 23)) #[.int .i64 p, .int .i64 q, .int .i64 r, .int .i64 s] 23
    rw [World.size_alloc] at this
    exact this
  have B0 := ((Bel.refl w).alloc (.cells #[.int .i64 a, .int .i64 b, .int .i64 c, .int .i64 d] 23)).alloc (.cells #[.int .i64 p, .int .i64 q, .int .i64 r, .int .i64 s] 23)
  have P0 := Lib.hid P0
  have B0 := Lib.hid B0
  clear hE h1 h2 h3 h4
  go_enter Try.func36, Try.ntmps36
  go_upto_region 1 with fail
  obtain ⟨W, hW⟩ : ∃ W, (w.alloc (.cells #[.int .i64 a, .int .i64 b, .int .i64 c, .int .i64 d] 23)).alloc (.cells #[.int .i64 p, .int .i64 q, .int .i64 r, .int .i64 s] 23) = W := ⟨_, rfl⟩
  obtain ⟨g, hg⟩ : ∃ g, w.heap.size + 1 = g := ⟨_, rfl⟩
  obtain ⟨g0, hg0⟩ : ∃ g, w.heap.size = g := ⟨_, rfl⟩
  have PA : Blk W g0 #[.int .i64 a, .int .i64 b, .int .i64 c, .int .i64 d] 23 := by rw [← hW, ← hg0]; exact (Blk.new w _ _).alloc _
  rw [hW, hg] at P0
  rw [hW] at B0
  rw [hW, hg, hg0]
  clear hW hg hg0
  have c0 := PA.cell 0 rfl
  have c1 := PA.cell 1 rfl
  have c2 := PA.cell 2 rfl
  have c3 := PA.cell 3 rfl
  clear PA
  go_wp2_with fail
  refine (HO.out _).mono ?_
  rintro e w1 ⟨rfl, kb⟩
  have PB := P0.out.bel kb
  have PC := PB.alloc (.cells #[.int .i64 p, .int .i64 q, .int .i64 r, .int .i64 s] 23)
  have K := Lib.hid (B0.out.trans kb)
  clear kb c0 c1 c2 c3 PB
  have c0 := PC.cell 0 rfl
  have c1 := PC.cell 1 rfl
  have c2 := PC.cell 2 rfl
  have c3 := PC.cell 3 rfl
  clear PC
  go_wp2_with fail
  go_ret
  exact ⟨rfl, K.out.alloc _⟩

/-- A number's byte. -/
theorem enc_one {x : Int} (h : x < 128) : enc x = [x] := encN_small _ h
theorem tk_enc (pre post : List Int) (a b c d : Int) (a0 : 0 ≤ a) (a1 : a ≤ 31) (b0 : 1 ≤ b) (b1 : b ≤ 4294967296) (c0 : -1 ≤ c) (c1 : c ≤ 31) (d0 : 0 ≤ d) (d1 : d ≤ 4294967296) :
    Tk (pre ++ enc4 a b c d ++ post) pre.length none a b c d (pre.length + (enc4 a b c d).length) (failOf none (ck a b c d) pre.length) := by
  have h1 := Rm.rn_enc pre (enc b ++ enc (c + 1) ++ enc d ++ post) a 0 31 a0 (by omega) a0 a1
  have h2 := Rm.rn_enc (pre ++ enc a) (enc (c + 1) ++ enc d ++ post) b 1 4294967296 (by omega) (by omega) b0 b1
  have h3 := Rm.rn_enc (pre ++ enc a ++ enc b) (enc d ++ post) (c + 1) 0 32 (by omega) (by omega) (by omega) (by omega)
  have h4 := Rm.rn_enc (pre ++ enc a ++ enc b ++ enc (c + 1)) post d 0 4294967296 d0 (by omega) d0 d1
  have e : pre ++ enc4 a b c d ++ post = pre ++ enc a ++ enc b ++ enc (c + 1) ++ enc d ++ post := by unfold enc4; simp only [List.append_assoc]
  rw [e]
  refine ⟨pre.length + (enc a).length, none, pre.length + (enc a).length + (enc b).length, none, pre.length + (enc a).length + (enc b).length + (enc (c + 1)).length, none, c + 1, none, ?_, ?_, ?_, ?_, by omega, by omega, by omega, rfl⟩
  · simpa only [List.append_assoc] using h1
  · simpa only [List.append_assoc, List.length_append, Nat.add_assoc] using h2
  · simpa only [List.append_assoc, List.length_append, Nat.add_assoc] using h3
  · have := h4
    simp only [List.append_assoc, List.length_append, Nat.add_assoc] at this ⊢
    unfold enc4
    simpa only [List.append_assoc, List.length_append, Nat.add_assoc] using this
theorem bytes_le {l : List Int} (h : ∀ z ∈ l, 0 ≤ z ∧ z ≤ 255) : Bytes l := bytes_of h
/-- A number out of bounds. -/
theorem tk_32 : Tk [32] 0 none 0 0 (-1) 0 0 (some (3, 0)) := by
  have hw : Cd.Way [32] 0 32 1 0 0 := by
    have := Rm.way_enc [] [] 32 (by decide) (by decide)
    rw [enc_one (by decide)] at this
    exact this
  exact ⟨0, some (3, 0), 0, some (3, 0), 0, some (3, 0), 0, some (3, 0), .inr ⟨rfl, 0, 3, 0, ⟨32, 1, 0, 0, hw, by decide, by decide, .inr (.inl ⟨rfl, .inr (by decide), rfl, rfl, rfl, rfl⟩)⟩, .inr ⟨by decide, rfl, rfl⟩, by decide, fun _ => rfl⟩,
    .inl ⟨(3, 0), rfl, rfl, rfl, rfl⟩, .inl ⟨(3, 0), rfl, rfl, rfl, rfl⟩, .inl ⟨(3, 0), rfl, rfl, rfl, rfl⟩, rfl, by decide, by decide, by decide⟩

set_option maxHeartbeats 1000000 in
theorem faultC (A : Option Addr) (n c : Nat) (zs : List Int) (x1 x2 x3 x4 : Int) (k' : Nat) (f' : Option (Int × Int)) (e1 e2 : Int) (w : World) (hs : Sl w A n c zs) (hn : n ≤ 1000000) (hb : Bytes zs) (ht : Tk zs 0 none x1 x2 x3 x4 k' f') (he : endOf zs.length k' f' = (e1, e2)) :
    Calls Try.prog 39 #[.slice A n c] w fun r w' => r = .returned (.agg #[.int .i64 e1, .int .i64 e2]) ∧ Bel w w' := by
  have RD := Lib.hid (fun V (hv : Bel w V) => read A n c zs x1 x2 x3 x4 k' f' e1 e2 V (hs.bel hv) hn hb ht he)
  obtain ⟨y1, hy1⟩ : ∃ y, rz e1 x1 = y := ⟨_, rfl⟩
  obtain ⟨y2, hy2⟩ : ∃ y, rz e1 x2 = y := ⟨_, rfl⟩
  obtain ⟨y3, hy3⟩ : ∃ y, rz e1 x3 = y := ⟨_, rfl⟩
  obtain ⟨y4, hy4⟩ : ∃ y, rz e1 x4 = y := ⟨_, rfl⟩
  rw [hy1, hy2, hy3, hy4] at RD
  have Q0 := Lib.hid (Blk.new w #[.int .i64 0, .int .i64 0] 33)
  have B0 := Lib.hid ((Bel.refl w).alloc (.cells #[.int .i64 0, .int .i64 0] 33))
  have HQ := Lib.hid (Nat.le_refl w.heap.size)
  clear hs hn hb ht he hy1 hy2 hy3 hy4
  go_enter Try.func39, Try.ntmps39
  go_wp2_with fail
  obtain ⟨W, hW⟩ : ∃ W, w.alloc (.cells #[.int .i64 0, .int .i64 0] 33) = W := ⟨_, rfl⟩
  obtain ⟨q, hq⟩ : ∃ q, w.heap.size = q := ⟨_, rfl⟩
  rw [hW, hq] at Q0
  rw [hW] at B0
  rw [hW, hq]
  have HLQ := Lib.hid (show w.heap.size ≤ q by rw [hq]; exact Nat.le_refl _)
  clear hW hq HQ
  refine (RD.out _ B0.out).mono ?_
  rintro e w1 ⟨rfl, kb⟩
  have K1 := Lib.hid (((B0.out.trans kb).alloc (.cells #[.int .i64 y1, .int .i64 y2, .int .i64 y3, .int .i64 y4] 23)).alloc (.cells #[.int .i64 e1, .int .i64 e2] 33))
  have QB := ((Q0.out.bel kb).alloc (.cells #[.int .i64 y1, .int .i64 y2, .int .i64 y3, .int .i64 y4] 23)).alloc (.cells #[.int .i64 e1, .int .i64 e2] 33)
  clear kb
  have c0 := QB.cell 0 rfl
  have c1 := QB.cell 1 rfl
  have f0 := QB.frozen 0
  have f1 := QB.frozen 1
  have QQ := Lib.hid QB
  clear QB
  go_wp2_with fail
  refine bodyPost_ret (Pm.res_c rfl _ _ ⟨q, 0, none⟩ _ rfl (load_flt ((QQ.out.set 0 _).set 1 _))) rfl ⟨rfl, (K1.out.set HLQ.out _).set HLQ.out _⟩

theorem v1 : bkB 2 9 1 5 2 9 0 = true ∧ bkB 2 9 1 5 2 8 0 = false ∧ bkB 2 9 1 5 1 9 0 = true ∧ bkB 2 9 1 5 1 5 0 = true ∧ bkB 2 9 1 5 1 10 0 = false ∧ cmp 2 9 (-1) 0 2 9 1 5 = -1 := by decide +kernel
set_option maxRecDepth 10000 in
set_option maxHeartbeats 4000000 in
theorem awake (w : World) : Calls Try.prog 8 #[] w fun r w' => r = .returned (.bool true) ∧ Bel w w' := by
  obtain ⟨h1, h2, h3, h4, h5, h6⟩ := v1
  go_enter Try.func8, Try.ntmps8
  go_upto_region 1 with fail
  go_wp2_with fail
  refine (chapter _).mono ?_
  rintro e w1 ⟨rfl, kb⟩
  go_upto_region 2 with fail
  have P0 := Blk.new w1 #[.int .i64 2, .int .i64 9, .int .i64 1, .int .i64 5] 23
  have B0 := kb.alloc (.cells #[.int .i64 2, .int .i64 9, .int .i64 1, .int .i64 5] 23)
  obtain ⟨p, hp⟩ : ∃ p, w1.heap.size = p := ⟨_, rfl⟩
  obtain ⟨W, hW⟩ : ∃ W, w1.alloc (.cells #[.int .i64 2, .int .i64 9, .int .i64 1, .int .i64 5] 23) = W := ⟨_, rfl⟩
  rw [hW, hp] at P0
  rw [hW] at B0
  rw [hW, hp]
  clear hW hp kb
  have P1 := P0.bel (Bel.refl W).drew
  have hA : (Bel w W.drew ∧ W.drew.cell? ⟨p, 0, none⟩ = some (.int .i64 2) ∧ W.drew.cell? ⟨p, 1, none⟩ = some (.int .i64 9) ∧ W.drew.cell? ⟨p, 2, none⟩ = some (.int .i64 1) ∧ W.drew.cell? ⟨p, 3, none⟩ = some (.int .i64 5)) := ⟨B0.drew, P1.cell 0 rfl, P1.cell 1 rfl, P1.cell 2 rfl, P1.cell 3 rfl⟩
  clear P0 P1 B0
  have KEEP := Lib.hid (show ∀ V V' : World, (Bel w V ∧ V.cell? ⟨p, 0, none⟩ = some (.int .i64 2) ∧ V.cell? ⟨p, 1, none⟩ = some (.int .i64 9) ∧ V.cell? ⟨p, 2, none⟩ = some (.int .i64 1) ∧ V.cell? ⟨p, 3, none⟩ = some (.int .i64 5)) → Bel V V' → (Bel w V' ∧ V'.cell? ⟨p, 0, none⟩ = some (.int .i64 2) ∧ V'.cell? ⟨p, 1, none⟩ = some (.int .i64 9) ∧ V'.cell? ⟨p, 2, none⟩ = some (.int .i64 1) ∧ V'.cell? ⟨p, 3, none⟩ = some (.int .i64 5)) from
    fun V V' h hb => ⟨h.1.trans hb, Pm.cell_bel h.2.1 hb, Pm.cell_bel h.2.2.1 hb, Pm.cell_bel h.2.2.2.1 hb, Pm.cell_bel h.2.2.2.2 hb⟩)
  go_region_held3 (fun V => Bel w V ∧ V.cell? ⟨p, 0, none⟩ = some (.int .i64 2) ∧ V.cell? ⟨p, 1, none⟩ = some (.int .i64 9) ∧ V.cell? ⟨p, 2, none⟩ = some (.int .i64 1) ∧ V.cell? ⟨p, 3, none⟩ = some (.int .i64 5)) (first | assumption | exact KEEP.out _ _ (by assumption) (by assumption)) (first | (go_at_call 35; refine (bare _ _ _).mono ?_; rintro e w9 ⟨rfl, kb⟩) | (go_at_call 36; refine (hops _ _ _ _ _ _ _ _ _ _ _ _ (by decide +kernel) (by decide +kernel) (by decide +kernel) (by decide +kernel) (by decide +kernel)).mono ?_; rintro e w9 ⟨rfl, kb⟩) | (go_at_call 37; refine (backedC _ _ _ _ _ _ _ _).mono ?_; rintro e w9 ⟨rfl, kb⟩) | (go_at_call 40; refine (compareC _ _ _ _ _ _ _ _ _).mono ?_; rintro e w9 ⟨rfl, kb⟩) | (go_at_call 38; refine (checkC _ _ _ _ _).mono ?_; rintro e w9 ⟨rfl, kb⟩))
  rename_i hA
  go_wp2_with fail
  go_ret
  exact ⟨rfl, hA.1⟩

end Sm
end Go.Proofs.Ytagcpphkabkgjaa
