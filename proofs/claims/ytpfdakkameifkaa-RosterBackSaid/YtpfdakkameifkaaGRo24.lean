/-
  What fault, unjails, jails and punishes of the law's package answer; how the chapter's bytes are read. Conditions: at most 10^6 bytes; the bytes are bytes.
-/
import Derived.Test.YtpfdakkameifkaaGRo23
namespace Go.Proofs.Ytpfdakkameifkaa
open Go.RowKit Go.Shelf
set_option linter.unusedVariables false
set_option linter.unusedSimpArgs false
namespace Ro
open Cd

theorem sl_lit (w : World) (zs : List Int) : Sl (w.alloc (.cells (zs.map (Value.int .u8)).toArray 5)) (some ⟨w.heap.size, 0, none⟩) zs.length zs.length zs := by
  refine ⟨⟨rfl, fun hn => ⟨w.heap.size, 0, rfl, by simp, fun i hi => ?_⟩⟩, Nat.le_refl _, fun h => by cases h⟩
  rw [Nat.zero_add, World.cell?_alloc_new, List.getElem?_toArray, List.getElem?_map, List.getElem?_eq_getElem hi, Kk.getD_eq _ _ hi]
  rfl
theorem way_one {zs : List Int} {k : Nat} {z : Int} (hz : zs.getD k 0 = z) (hk : k < zs.length) (h0 : 0 ≤ z) (h1 : z < 128) : Cd.Way zs k z ((k + 1 : Nat) : Int) 0 0 := by
  refine .inr (.inr ⟨k, 0, rfl, by decide, hk, fun i hi => absurd hi (by omega), by rw [Nat.add_zero, hz]; exact h1, fun h => absurd h (by omega), fun h => absurd h (by omega), (Rm.val_one zs k hz h0 h1).symm, by push_cast; omega, rfl, rfl⟩)
theorem rn_ok {zs : List Int} {k : Nat} {z least most : Int} (hz : zs.getD k 0 = z) (hk : k < zs.length) (h0 : 0 ≤ z) (h1 : z < 128) (hl : least ≤ z) (hm : z ≤ most) : Cd.RN zs k none least most z (k + 1) none :=
  .inr ⟨rfl, ((k + 1 : Nat) : Int), 0, 0, ⟨z, _, 0, 0, way_one hz hk h0 h1, h0, by omega, .inr (.inr ⟨rfl, hl, hm, rfl, rfl, rfl, rfl⟩)⟩, .inl ⟨rfl, rfl, rfl⟩, by omega, fun h => absurd rfl h⟩
theorem rn_no {zs : List Int} {k : Nat} {z least most : Int} (hz : zs.getD k 0 = z) (hk : k < zs.length) (h0 : 0 ≤ z) (h1 : z < 128) (hb : z < least ∨ most < z) : Cd.RN zs k none least most 0 k (some (3, (k : Int))) :=
  .inr ⟨rfl, 0, 3, (k : Int), ⟨z, _, 0, 0, way_one hz hk h0 h1, h0, by omega, .inr (.inl ⟨rfl, hb, rfl, rfl, rfl, rfl⟩)⟩, .inr ⟨by decide, rfl, rfl⟩, by omega, fun _ => rfl⟩
set_option maxRecDepth 10000 in
set_option maxHeartbeats 1000000 in
theorem fault_ (A : Option Addr) (n c : Nat) (zs : List Int) (m k1 : Nat) (f1 : Option (Int × Int)) (L : List V6) (k' : Nat) (f' : Option (Int × Int)) (e1 e2 : Int) (w : World) (hs : Sl w A n c zs) (hn : n ≤ 1000000) (hb : Bytes zs)
    (hr : RN zs 0 none 0 32 (m : Int) k1 f1) (hm : m ≤ 32) (hl : L.length = m) (hk : Lk zs [] L k1 f1 k' f') (hw : ∀ r ∈ L, WV r) (he : endOf zs.length k' f' = (e1, e2)) :
    Calls Try.prog 47 #[.slice A n c] w fun r w' => r = .returned (.agg #[.int .i64 e1, .int .i64 e2]) ∧ Bel w w' := by
  have Q0 := Lib.hid (Blk.new w #[.int .i64 0, .int .i64 0] 54)
  obtain ⟨W, hW⟩ : ∃ W, w.alloc (.cells #[.int .i64 0, .int .i64 0] 54) = W := ⟨_, rfl⟩
  have BW := Lib.hid (show Bel w W by rw [← hW]; exact (Bel.refl w).alloc _)
  obtain ⟨q, hq⟩ : ∃ q, w.heap.size = q := ⟨_, rfl⟩
  rw [hW, hq] at Q0
  have RD_ := Lib.hid (readV A n c zs m k1 f1 L k' f' e1 e2 W (hs.bel BW.out) hn hb hr hm hl hk hw he)
  have HW := Lib.hid hW
  have HQ := Lib.hid hq
  clear hs hb hr hl hk he hW hq
  go_enter Try.func47, Try.ntmps47
  go_upto_region 1 with fail
  rw [HW.out, HQ.out]
  go_wp2_with fail
  refine RD_.out.mono ?_
  rintro e w1 ⟨v, rfl, _, kb⟩
  have K1 := Lib.hid (BW.out.trans kb)
  have Q1 := Lib.hid (Q0.out.bel kb)
  clear kb RD_
  go_upto_region 2 with fail
  have T0 := Blk.new w1 #[.int .i64 e1, .int .i64 e2] 54
  have TB := (Bel.refl w1).alloc (.cells #[.int .i64 e1, .int .i64 e2] 54)
  obtain ⟨W5, hW⟩ : ∃ W, w1.alloc (.cells #[.int .i64 e1, .int .i64 e2] 54) = W := ⟨_, rfl⟩
  obtain ⟨u, hu⟩ : ∃ u, w1.heap.size = u := ⟨_, rfl⟩
  rw [hW] at T0 TB ⊢
  rw [hu] at T0 ⊢
  have T5 := Lib.hid T0
  have Q5 := Lib.hid (Q1.out.bel TB)
  have K5 := Lib.hid (K1.out.trans TB)
  have LU := Lib.hid (show q < u by rw [← hu]; exact Q1.out.lt)
  clear hW hu T0 TB Q1 K1
  have hqu : q ≠ u := by have := LU.out; omega
  have t0 := T5.out.cell 0 rfl
  have t1 := T5.out.cell 1 rfl
  have q0 := Q5.out.cell 0 rfl
  have q1 := Q5.out.cell 1 rfl
  have fq0 := Q5.out.frozen 0
  have fq1 := Q5.out.frozen 1
  have HLQ := Lib.hid (show w.heap.size ≤ q by rw [HQ.out]; exact Nat.le_refl _)
  go_wp2_with fail
  have QF := ((Q5.out.set 0 (.int .i64 e1)).set 1 (.int .i64 e2))
  exact bodyPost_ret (Pm.res_c rfl _ _ ⟨q, 0, none⟩ _ rfl (load_flt QF)) rfl ⟨rfl, (K5.out.set HLQ.out _).set HLQ.out _⟩
theorem bytesC (l : List Int) (h : (l.all fun z => decide (0 ≤ z ∧ z ≤ 255)) = true) : Bytes l := fun i => by
  rw [List.getD_eq_getElem?_getD]
  rcases hl : l[i]? with _ | z
  · simp
  · have := of_decide_eq_true (List.all_eq_true.1 h z (List.mem_of_getElem? hl))
    simp
    omega
theorem ru_ok {zs : List Int} {k : Nat} {z : Int} (hz : zs.getD k 0 = z) (hk : k < zs.length) (h0 : 0 ≤ z) (h1 : z < 128) : Cd.RU zs k none z (k + 1) none :=
  .inr ⟨rfl, ((k + 1 : Nat) : Int), 0, 0, way_one hz hk h0 h1, .inl ⟨rfl, rfl, rfl⟩, by omega, fun h => absurd rfl h⟩
theorem lk_cons {zs : List Int} {pre l : List V6} {x : V6} {k k1 k' : Nat} {f f1 g f' : Option (Int × Int)} (h1 : Tv zs k f x k1 f1) (hf : failOf f1 (chk (pre ++ [x])).1 (atOf k f) = g) (h2 : Lk zs (pre ++ [x]) l k1 g k' f') : Lk zs pre (x :: l) k f k' f' :=
  ⟨k1, f1, h1, by rw [hf]; exact h2⟩
theorem ra : RN [1, 5, 1, 1, 0, 1] 0 none 0 32 ((1 : Nat) : Int) 1 none := rn_ok rfl (by decide) (by decide) (by decide) (by decide) (by decide)
theorem la : Lk [1, 5, 1, 1, 0, 1] [] [(5, 1, 1, 0, true, false)] 1 none 6 (some (11, 1)) :=
  lk_cons (g := some (11, 1)) (⟨5, 1, 1, 0, 1, 2, none, 3, none, 4, none, 5, none, by decide, by decide, rn_ok (z := 5) rfl (by decide) (by decide) (by decide) (by decide) (by decide), ru_ok (z := 1) rfl (by decide) (by decide) (by decide), rn_ok (z := 1) rfl (by decide) (by decide) (by decide) (by decide) (by decide), rn_ok (z := 0) rfl (by decide) (by decide) (by decide) (by decide) (by decide), rn_ok (z := 1) rfl (by decide) (by decide) (by decide) (by decide) (by decide)⟩ : Tv [1, 5, 1, 1, 0, 1] 1 none (5, 1, 1, 0, true, false) 6 none) (by decide) (⟨rfl, rfl⟩)
theorem rb : RN [1, 5, 0, 1, 0, 0] 0 none 0 32 ((1 : Nat) : Int) 1 none := rn_ok rfl (by decide) (by decide) (by decide) (by decide) (by decide)
theorem lb : Lk [1, 5, 0, 1, 0, 0] [] [(5, 0, 1, 0, false, false)] 1 none 6 (some (2, 1)) :=
  lk_cons (g := some (2, 1)) (⟨5, 0, 1, 0, 0, 2, none, 3, none, 4, none, 5, none, by decide, by decide, rn_ok (z := 5) rfl (by decide) (by decide) (by decide) (by decide) (by decide), ru_ok (z := 0) rfl (by decide) (by decide) (by decide), rn_ok (z := 1) rfl (by decide) (by decide) (by decide) (by decide) (by decide), rn_ok (z := 0) rfl (by decide) (by decide) (by decide) (by decide) (by decide), rn_ok (z := 0) rfl (by decide) (by decide) (by decide) (by decide) (by decide)⟩ : Tv [1, 5, 0, 1, 0, 0] 1 none (5, 0, 1, 0, false, false) 6 none) (by decide) (⟨rfl, rfl⟩)
theorem rc : RN [2, 5, 1, 1, 0, 0, 5, 1, 1, 0, 0] 0 none 0 32 ((2 : Nat) : Int) 1 none := rn_ok rfl (by decide) (by decide) (by decide) (by decide) (by decide)
theorem lc : Lk [2, 5, 1, 1, 0, 0, 5, 1, 1, 0, 0] [] [(5, 1, 1, 0, false, false), (5, 1, 1, 0, false, false)] 1 none 11 (some (8, 6)) :=
  lk_cons (g := none) (⟨5, 1, 1, 0, 0, 2, none, 3, none, 4, none, 5, none, by decide, by decide, rn_ok (z := 5) rfl (by decide) (by decide) (by decide) (by decide) (by decide), ru_ok (z := 1) rfl (by decide) (by decide) (by decide), rn_ok (z := 1) rfl (by decide) (by decide) (by decide) (by decide) (by decide), rn_ok (z := 0) rfl (by decide) (by decide) (by decide) (by decide) (by decide), rn_ok (z := 0) rfl (by decide) (by decide) (by decide) (by decide) (by decide)⟩ : Tv [2, 5, 1, 1, 0, 0, 5, 1, 1, 0, 0] 1 none (5, 1, 1, 0, false, false) 6 none) (by decide) (lk_cons (g := some (8, 6)) (⟨5, 1, 1, 0, 0, 7, none, 8, none, 9, none, 10, none, by decide, by decide, rn_ok (z := 5) rfl (by decide) (by decide) (by decide) (by decide) (by decide), ru_ok (z := 1) rfl (by decide) (by decide) (by decide), rn_ok (z := 1) rfl (by decide) (by decide) (by decide) (by decide) (by decide), rn_ok (z := 0) rfl (by decide) (by decide) (by decide) (by decide) (by decide), rn_ok (z := 0) rfl (by decide) (by decide) (by decide) (by decide) (by decide)⟩ : Tv [2, 5, 1, 1, 0, 0, 5, 1, 1, 0, 0] 6 none (5, 1, 1, 0, false, false) 11 none) (by decide) (⟨rfl, rfl⟩))
theorem rd : RN [33] 0 none 0 32 ((0 : Nat) : Int) 0 (some (3, 0)) := rn_no (z := 33) rfl (by decide) (by decide) (by decide) (.inr (by decide))
theorem ld : Lk [33] [] [] 0 (some (3, 0)) 0 (some (3, 0)) := ⟨rfl, rfl⟩
theorem wvs {l : List V6} (h : l.all (fun r => match r with | (a, b, c, d, _, _) => decide (-1000 ≤ a ∧ a ≤ 1000 ∧ 0 ≤ b ∧ b ≤ 1000 ∧ -1000 ≤ c ∧ c ≤ 1000 ∧ -1000 ≤ d ∧ d ≤ 1000)) = true) : ∀ r ∈ l, WV r := fun r hr => by
  have h1 := List.all_eq_true.1 h r hr
  obtain ⟨a, b, c, d, e, f⟩ := r
  have h2 := of_decide_eq_true h1
  refine ⟨?_, ?_, ?_, ?_⟩ <;> (try unfold I64) <;> omega
set_option maxHeartbeats 1000000 in
theorem unjails_c (A : Option Addr) (n c : Nat) (l : List V6) (v b h : Int) (w : World) (hi : Rw.RS vR w A n c l) (E : Int) (hE : cgE l v (unE b h) = E) (hn : n ≤ 1000000) (hO : ∀ r ∈ l, I64 (op r)) :
    Calls Try.prog 92 #[.slice A n c, .int .i64 v, .int .i64 b, .int .i64 h] w fun e w' => e = .returned (.int .i64 E) ∧ Bel w w' := by
  have CH := Lib.hid (unjail_c A n c l v b h w hi E _ hE rfl hn hO)
  clear hi hO hE
  go_enter Try.func92, Try.ntmps92
  go_wp2_with fail
  refine CH.out.mono ?_
  rintro x w1 ⟨y, rfl, _, kb⟩
  have KB := Lib.hid kb
  clear kb CH
  go_wp2_with fail
  go_ret
  exact ⟨rfl, KB.out⟩
set_option maxRecDepth 100000 in
set_option maxHeartbeats 8000000 in
theorem jails (w : World) : Calls Try.prog 48 #[] w fun e w' => e = .returned (.bool true) ∧ Bel w w' := by
  go_enter Try.func48, Try.ntmps48
  have K0 := Lib.hid (Bel.refl w)
  have C1 := Lib.hid (chapter w)
  go_wp2_with fail
  refine C1.out.mono ?_
  rintro x w1 ⟨v, rfl, ho, kb⟩
  have K1 := Lib.hid (K0.out.trans kb)
  clear C1
  have ho : OwnV w1 w.heap.size v [(5, 1, 1, 0, false, false), (3, 9, 1, 0, false, false)] := ho
  obtain ⟨Al, cl, rfl, hl⟩ := Rw.OwnR.slice ho
  have Hl := Lib.hid (show Rw.RS vR w1 Al 2 cl [(5, 1, 1, 0, false, false), (3, 9, 1, 0, false, false)] from hl)
  clear hl
  have C2 := Lib.hid (choose_c Al 2 cl [(5, 1, 1, 0, false, false), (3, 9, 1, 0, false, false)] (some ⟨w1.heap.size, 0, none⟩) 2 2 [true, false] (w1.alloc (.cells #[.bool true, .bool false] 4)) (Hl.out.bel ((Bel.refl _).alloc _)) (Rw.rs_blk bR (Blk.new w1 #[.bool true, .bool false] 4) (l := [true, false]) rfl (Nat.le_refl _) rfl) 0 [(5, 1, 2, 0, false, false), (3, 9, 1, 0, false, false)] (by decide) (by decide) (by decide) (i64s rfl) (by decide))
  go_wp2_with fail
  refine C2.out.mono ?_
  rintro x w2 ⟨v, rfl, ho, kb⟩
  have kb := (((Bel.refl w1).alloc (.cells #[.bool true, .bool false] 4))).trans kb
  have K2 := Lib.hid (K1.out.trans kb)
  have Hl := Lib.hid (Hl.out.bel kb)
  clear C2
  obtain ⟨Am, cm, rfl, hm⟩ := Rw.OwnR.slice ho
  have Hm := Lib.hid (show Rw.RS vR w2 Am 2 cm [(5, 1, 2, 0, false, false), (3, 9, 1, 0, false, false)] from hm)
  clear hm
  have C3 := Lib.hid (jail_c Am 2 cm [(5, 1, 2, 0, false, false), (3, 9, 1, 0, false, false)] 0 30 w2 Hm.out 0 [(5, 1, 3, 30, false, false), (3, 9, 1, 0, false, false)] (by decide) (by decide) (by decide) (i64s rfl))
  go_wp2_with fail
  refine C3.out.mono ?_
  rintro x w3 ⟨v, rfl, ho, kb⟩
  have K3 := Lib.hid (K2.out.trans kb)
  have Hl := Lib.hid (Hl.out.bel kb)
  have Hm := Lib.hid (Hm.out.bel kb)
  clear C3
  obtain ⟨Ak, ck, rfl, hk⟩ := Rw.OwnR.slice ho
  have Hk := Lib.hid (show Rw.RS vR w3 Ak 2 ck [(5, 1, 3, 30, false, false), (3, 9, 1, 0, false, false)] from hk)
  clear hk
  have C4 := Lib.hid (choose_c Al 2 cl [(5, 1, 1, 0, false, false), (3, 9, 1, 0, false, false)] (some ⟨w3.heap.size, 0, none⟩) 1 1 [true] (w3.alloc (.cells #[.bool true] 4)) (Hl.out.bel ((Bel.refl _).alloc _)) (Rw.rs_blk bR (Blk.new w3 #[.bool true] 4) (l := [true]) rfl (Nat.le_refl _) rfl) 2 [] (by decide) (by decide) (by decide) (i64s rfl) (by decide))
  go_wp2_with fail
  refine C4.out.mono ?_
  rintro x w4 ⟨v, rfl, ho, kb⟩
  have kb := (((Bel.refl w3).alloc (.cells #[.bool true] 4))).trans kb
  have K4 := Lib.hid (K3.out.trans kb)
  have Hl := Lib.hid (Hl.out.bel kb)
  have Hm := Lib.hid (Hm.out.bel kb)
  have Hk := Lib.hid (Hk.out.bel kb)
  clear C4
  clear ho
  have C5 := Lib.hid (unjail_c Ak 2 ck [(5, 1, 3, 30, false, false), (3, 9, 1, 0, false, false)] 0 5 30 w4 Hk.out 0 [(5, 1, 1, 30, false, false), (3, 9, 1, 0, false, false)] (by decide) (by decide) (by decide) (i64s rfl))
  go_wp2_with fail
  refine C5.out.mono ?_
  rintro x w5 ⟨v, rfl, ho, kb⟩
  have K5 := Lib.hid (K4.out.trans kb)
  have Hl := Lib.hid (Hl.out.bel kb)
  have Hm := Lib.hid (Hm.out.bel kb)
  have Hk := Lib.hid (Hk.out.bel kb)
  clear C5
  obtain ⟨An, cn, rfl, hn⟩ := Rw.OwnR.slice ho
  have Hn := Lib.hid (show Rw.RS vR w5 An 2 cn [(5, 1, 1, 30, false, false), (3, 9, 1, 0, false, false)] from hn)
  clear hn
  have C6 := Lib.hid (unjails_c Ak 2 ck [(5, 1, 3, 30, false, false), (3, 9, 1, 0, false, false)] 0 3 30 w5 Hk.out 24 (by decide) (by decide) (i64s rfl))
  go_wp2_with fail
  refine C6.out.mono ?_
  rintro x w6 ⟨rfl, kb⟩
  have K6 := Lib.hid (K5.out.trans kb)
  have Hl := Lib.hid (Hl.out.bel kb)
  have Hm := Lib.hid (Hm.out.bel kb)
  have Hk := Lib.hid (Hk.out.bel kb)
  have Hn := Lib.hid (Hn.out.bel kb)
  clear C6
  have C7 := Lib.hid (unjails_c Ak 2 ck [(5, 1, 3, 30, false, false), (3, 9, 1, 0, false, false)] 0 5 29 w6 Hk.out 21 (by decide) (by decide) (i64s rfl))
  go_wp2_with fail
  refine C7.out.mono ?_
  rintro x w7 ⟨rfl, kb⟩
  have K7 := Lib.hid (K6.out.trans kb)
  have Hl := Lib.hid (Hl.out.bel kb)
  have Hm := Lib.hid (Hm.out.bel kb)
  have Hk := Lib.hid (Hk.out.bel kb)
  have Hn := Lib.hid (Hn.out.bel kb)
  clear C7
  have C8 := Lib.hid (unjails_c Ak 2 ck [(5, 1, 3, 30, false, false), (3, 9, 1, 0, false, false)] 1 3 99 w7 Hk.out 11 (by decide) (by decide) (i64s rfl))
  go_wp2_with fail
  refine C8.out.mono ?_
  rintro x w8 ⟨rfl, kb⟩
  have K8 := Lib.hid (K7.out.trans kb)
  have Hl := Lib.hid (Hl.out.bel kb)
  have Hm := Lib.hid (Hm.out.bel kb)
  have Hk := Lib.hid (Hk.out.bel kb)
  have Hn := Lib.hid (Hn.out.bel kb)
  clear C8
  have C9 := Lib.hid (unjails_c Ak 2 ck [(5, 1, 3, 30, false, false), (3, 9, 1, 0, false, false)] 2 3 0 w8 Hk.out 10 (by decide) (by decide) (i64s rfl))
  go_wp2_with fail
  refine C9.out.mono ?_
  rintro x w9 ⟨rfl, kb⟩
  have K9 := Lib.hid (K8.out.trans kb)
  have Hl := Lib.hid (Hl.out.bel kb)
  have Hm := Lib.hid (Hm.out.bel kb)
  have Hk := Lib.hid (Hk.out.bel kb)
  have Hn := Lib.hid (Hn.out.bel kb)
  clear C9
  have C10 := Lib.hid ((show Calls Try.prog 20 #[.slice An 2 cn] w9 fun e w' => ∃ v, e = .returned v ∧ OwnB w' _ v [true, true] ∧ Bel w9 w' from free_ An 2 cn [(5, 1, 1, 30, false, false), (3, 9, 1, 0, false, false)] w9 Hn.out (by decide)))
  go_wp2_with fail
  refine C10.out.mono ?_
  rintro x w10 ⟨v, rfl, ho, kb⟩
  have K10 := Lib.hid (K9.out.trans kb)
  have Hl := Lib.hid (Hl.out.bel kb)
  have Hm := Lib.hid (Hm.out.bel kb)
  have Hk := Lib.hid (Hk.out.bel kb)
  have Hn := Lib.hid (Hn.out.bel kb)
  clear C10
  obtain ⟨Ab, cb, rfl, hb⟩ := Rw.OwnR.slice ho
  have Hb := Lib.hid (show Rw.RS bR w10 Ab 2 cb [true, true] from hb)
  clear hb
  have C11 := Lib.hid ((show Calls Try.prog 19 #[.slice Ab 2 cb, .slice (some ⟨w10.heap.size, 0, none⟩) 2 2] (w10.alloc (.cells #[.bool true, .bool true] 4)) fun e w' => e = .returned (.bool true) ∧ Bel (w10.alloc (.cells #[.bool true, .bool true] 4)) w' from same_bools Ab _ 2 cb 2 2 [true, true] [true, true] (w10.alloc (.cells #[.bool true, .bool true] 4)) (Hb.out.bel ((Bel.refl _).alloc _)) (Rw.rs_blk bR (Blk.new w10 #[.bool true, .bool true] 4) (l := [true, true]) rfl (Nat.le_refl _) rfl) (by decide) (by decide)))
  go_wp2_with fail
  refine C11.out.mono ?_
  rintro x w11 ⟨rfl, kb⟩
  have kb := (((Bel.refl w10).alloc (.cells #[.bool true, .bool true] 4))).trans kb
  have K11 := Lib.hid (K10.out.trans kb)
  have Hl := Lib.hid (Hl.out.bel kb)
  have Hm := Lib.hid (Hm.out.bel kb)
  have Hk := Lib.hid (Hk.out.bel kb)
  have Hn := Lib.hid (Hn.out.bel kb)
  have Hb := Lib.hid (Hb.out.bel kb)
  clear C11
  go_wp2_with fail
  go_ret
  exact ⟨rfl, K11.out⟩
set_option maxRecDepth 100000 in
set_option maxHeartbeats 8000000 in
theorem punishes (w : World) : Calls Try.prog 49 #[] w fun e w' => e = .returned (.bool true) ∧ Bel w w' := by
  go_enter Try.func49, Try.ntmps49
  have K0 := Lib.hid (Bel.refl w)
  have C1 := Lib.hid (chapter w)
  go_wp2_with fail
  refine C1.out.mono ?_
  rintro x w1 ⟨v, rfl, ho, kb⟩
  have K1 := Lib.hid (K0.out.trans kb)
  clear C1
  have ho : OwnV w1 w.heap.size v [(5, 1, 1, 0, false, false), (3, 9, 1, 0, false, false)] := ho
  obtain ⟨Al, cl, rfl, hl⟩ := Rw.OwnR.slice ho
  have Hl := Lib.hid (show Rw.RS vR w1 Al 2 cl [(5, 1, 1, 0, false, false), (3, 9, 1, 0, false, false)] from hl)
  clear hl
  have C2 := Lib.hid (punish_c Al 2 cl [(5, 1, 1, 0, false, false), (3, 9, 1, 0, false, false)] 1 2 30 w1 Hl.out 0 [(5, 1, 1, 0, false, false), (3, 9, 3, 30, false, true)] (by decide) (by decide) (by decide) (i64s rfl))
  go_wp2_with fail
  refine C2.out.mono ?_
  rintro x w2 ⟨v, rfl, ho, kb⟩
  have K2 := Lib.hid (K1.out.trans kb)
  have Hl := Lib.hid (Hl.out.bel kb)
  clear C2
  obtain ⟨Ap, cp, rfl, hp⟩ := Rw.OwnR.slice ho
  have Hp := Lib.hid (show Rw.RS vR w2 Ap 2 cp [(5, 1, 1, 0, false, false), (3, 9, 3, 30, false, true)] from hp)
  clear hp
  have C3 := Lib.hid ((show Calls Try.prog 36 #[.slice Ap 2 cp, .int .i64 1, .int .i64 2] w2 fun e w' => e = .returned (.int .i64 19) ∧ Bel w2 w' from punished Ap 2 cp [(5, 1, 1, 0, false, false), (3, 9, 3, 30, false, true)] 1 2 w2 Hp.out (by decide) (i64s rfl)))
  go_wp2_with fail
  refine C3.out.mono ?_
  rintro x w3 ⟨rfl, kb⟩
  have K3 := Lib.hid (K2.out.trans kb)
  have Hl := Lib.hid (Hl.out.bel kb)
  have Hp := Lib.hid (Hp.out.bel kb)
  clear C3
  have C4 := Lib.hid ((show Calls Try.prog 36 #[.slice Ap 2 cp, .int .i64 1, .int .i64 1] w3 fun e w' => e = .returned (.int .i64 0) ∧ Bel w3 w' from punished Ap 2 cp [(5, 1, 1, 0, false, false), (3, 9, 3, 30, false, true)] 1 1 w3 Hp.out (by decide) (i64s rfl)))
  go_wp2_with fail
  refine C4.out.mono ?_
  rintro x w4 ⟨rfl, kb⟩
  have K4 := Lib.hid (K3.out.trans kb)
  have Hl := Lib.hid (Hl.out.bel kb)
  have Hp := Lib.hid (Hp.out.bel kb)
  clear C4
  have C5 := Lib.hid ((show Calls Try.prog 36 #[.slice Ap 2 cp, .int .i64 1, .int .i64 3] w4 fun e w' => e = .returned (.int .i64 2) ∧ Bel w4 w' from punished Ap 2 cp [(5, 1, 1, 0, false, false), (3, 9, 3, 30, false, true)] 1 3 w4 Hp.out (by decide) (i64s rfl)))
  go_wp2_with fail
  refine C5.out.mono ?_
  rintro x w5 ⟨rfl, kb⟩
  have K5 := Lib.hid (K4.out.trans kb)
  have Hl := Lib.hid (Hl.out.bel kb)
  have Hp := Lib.hid (Hp.out.bel kb)
  clear C5
  have C6 := Lib.hid (punish_c Ap 2 cp [(5, 1, 1, 0, false, false), (3, 9, 3, 30, false, true)] 1 1 20 w5 Hp.out 0 [(5, 1, 1, 0, false, false), (3, 9, 4, 30, true, true)] (by decide) (by decide) (by decide) (i64s rfl))
  go_wp2_with fail
  refine C6.out.mono ?_
  rintro x w6 ⟨v, rfl, ho, kb⟩
  have K6 := Lib.hid (K5.out.trans kb)
  have Hl := Lib.hid (Hl.out.bel kb)
  have Hp := Lib.hid (Hp.out.bel kb)
  clear C6
  obtain ⟨Aq, cq, rfl, hq⟩ := Rw.OwnR.slice ho
  have Hq := Lib.hid (show Rw.RS vR w6 Aq 2 cq [(5, 1, 1, 0, false, false), (3, 9, 4, 30, true, true)] from hq)
  clear hq
  obtain ⟨bq, oq, hAq, _, hcq⟩ := Hq.out.at (i := 1) (by decide) rfl
  subst hAq
  have hcq : World.rangeAt w6 bq (oq + 6) [.int .i64 3, .int .u64 9, .int .i64 4, .int .i64 30, .bool true, .bool true] := hcq
  obtain ⟨q0, q1, q2, q3, q4, q5⟩ := rng6 hcq
  clear q0 q1 q4 q5 hcq
  have C7 := Lib.hid ((show Calls Try.prog 24 #[.slice (some ⟨bq, oq, none⟩) 2 cq, .int .i64 1] w6 fun e w' => e = .returned (.int .i64 20) ∧ Bel w6 w' from refuse (some ⟨bq, oq, none⟩) 2 cq [(5, 1, 1, 0, false, false), (3, 9, 4, 30, true, true)] 1 w6 Hq.out (by decide)))
  go_wp2_with fail
  refine C7.out.mono ?_
  rintro x w7 ⟨rfl, kb⟩
  have K7 := Lib.hid (K6.out.trans kb)
  have Hl := Lib.hid (Hl.out.bel kb)
  have Hp := Lib.hid (Hp.out.bel kb)
  have Hq := Lib.hid (Hq.out.bel kb)
  clear C7
  have C8 := Lib.hid (unjails_c (some ⟨bq, oq, none⟩) 2 cq [(5, 1, 1, 0, false, false), (3, 9, 4, 30, true, true)] 1 3 99 w7 Hq.out 20 (by decide) (by decide) (i64s rfl))
  go_wp2_with fail
  refine C8.out.mono ?_
  rintro x w8 ⟨rfl, kb⟩
  have K8 := Lib.hid (K7.out.trans kb)
  have Hl := Lib.hid (Hl.out.bel kb)
  have Hp := Lib.hid (Hp.out.bel kb)
  have Hq := Lib.hid (Hq.out.bel kb)
  clear C8
  have C9 := Lib.hid ((show Calls Try.prog 36 #[.slice (some ⟨bq, oq, none⟩) 2 cq, .int .i64 1, .int .i64 2] w8 fun e w' => e = .returned (.int .i64 20) ∧ Bel w8 w' from punished (some ⟨bq, oq, none⟩) 2 cq [(5, 1, 1, 0, false, false), (3, 9, 4, 30, true, true)] 1 2 w8 Hq.out (by decide) (i64s rfl)))
  go_wp2_with fail
  refine C9.out.mono ?_
  rintro x w9 ⟨rfl, kb⟩
  have K9 := Lib.hid (K8.out.trans kb)
  have Hl := Lib.hid (Hl.out.bel kb)
  have Hp := Lib.hid (Hp.out.bel kb)
  have Hq := Lib.hid (Hq.out.bel kb)
  clear C9
  go_wp2_with fail
  go_ret
  exact ⟨rfl, K9.out⟩
end Ro
end Go.Proofs.Ytpfdakkameifkaa
