/-
  What item of a reader answers in this program where the item is a hash.
  Conditions: the reader is one that NewReader made of at most 10^6 bytes.
-/
import Derived.Test.YtejbhfcmhijfcaaHash2
namespace Go.Proofs.Ytejbhfcmhijfcaa
open Go.RowKit Go.Shelf
set_option linter.unusedVariables false
namespace Cd

abbrev ZO : Obj := .cells Z32 44
abbrev FO : Obj := .cells #[.int .i64 0, .int .i64 0] 29
theorem z32_size : Z32.size = 32 := rfl

/-- What stands of a block that is to hold a hash, and of one that is to hold a fault. -/
theorem there_bel {w w' : World} {g : Nat} (h : w.there g 0 32) (hb : Bel w w') : w'.there g 0 32 := fun j hj => by
  obtain ⟨h1, h2⟩ := h j hj
  obtain ⟨v, hv⟩ := Option.isSome_iff_exists.1 h1
  have hl : g < w.heap.size := World.block_lt_of_cell? w _ hv
  refine ⟨?_, ?_⟩
  · rw [Below.cell (p := ⟨g, 0 + j, none⟩) hb hl]; exact h1
  · rw [Below.frozen (p := ⟨g, 0 + j, none⟩) hb hl]; exact h2
theorem there_z (w : World) {g : Nat} (h : w.heap.size = g) : (w.alloc ZO).there g 0 32 := by
  subst h
  exact there_new (by rw [z32_size]; exact Nat.le_refl _)
theorem r_self {w : World} {g : Nat} {Y : List Value} (h : w.there g 0 32) (hl : Y.length = 32) : (w.setCells g 0 Y).rangeAt g 0 Y := World.rangeAt_setCells_same w g 0 Y (by rw [hl]; exact h)
theorem cell_apart (w : World) (g : Nat) (vs : List Value) (c o : Nat) (h : c ≠ g) : (w.setCells g 0 vs).cell? ⟨c, o, none⟩ = w.cell? ⟨c, o, none⟩ :=
  World.cell?_setCells_out g vs 0 w ⟨c, o, none⟩ (fun hb _ => absurd hb h)
theorem frozen_apart (w : World) (g : Nat) (vs : List Value) (a : Addr) : (w.setCells g 0 vs).frozen? a = w.frozen? a := by rw [World.frozen?_setCells]
theorem blk_apart {w : World} {g c : Nat} {vs : List Value} {C : Array Value} {t : TypeId} (h : Blk w c C t) (hne : c ≠ g) : Blk (w.setCells g 0 vs) c C t := h.kep (kep_setCells g vs 0 w) hne
theorem bel_setCells {w w' : World} (h : Bel w w') {g : Nat} (hg : w.heap.size ≤ g) (vs : List Value) : Bel w (w'.setCells g 0 vs) := Kep.bel h (kep_setCells g vs 0 w') (fun i hi => by rw [hi]; exact hg)
theorem size_setCells (g : Nat) : ∀ (vs : List Value) (o : Nat) (w : World), (w.setCells g o vs).heap.size = w.heap.size
  | [], _, _ => rfl
  | v :: r, o, w => by
    rw [World.setCells, size_setCells g r (o + 1)]
    simp

abbrev Past (W w1 : World) (b : Nat) : Prop := Hid (Bel W w1) ∧ w1.heap.size ≠ b ∧ b ≠ w1.heap.size ∧ w1.heap.size + 1 ≠ b ∧ b ≠ w1.heap.size + 1
theorem past {W w1 : World} {b : Nat} (h : Bel W w1) (hb : b < W.heap.size) : Past W w1 b := by
  have := Below.size h
  exact ⟨h, by omega, by omega, by omega, by omega⟩
abbrev Emp (w1 : World) (g : Nat) : Prop := w1.cell? ⟨g, 0, none⟩ = some (.int .i64 0) ∧ w1.cell? ⟨g, 1, none⟩ = some (.int .i64 0) ∧ w1.frozen? ⟨g, 0, none⟩ = false ∧ w1.frozen? ⟨g, 1, none⟩ = false ∧ Hid (Blk w1 g #[.int .i64 0, .int .i64 0] 29)
theorem emp {W0 w1 : World} {g : Nat} (h : Blk W0 g #[.int .i64 0, .int .i64 0] 29) (hb : Bel W0 w1) : Emp w1 g :=
  ⟨(h.bel hb).cell 0 rfl, (h.bel hb).cell 1 rfl, (h.bel hb).frozen 0, (h.bel hb).frozen 1, h.bel hb⟩
theorem drew_there {w : World} {g : Nat} (h : w.there g 0 32) : w.drew.there g 0 32 := (World.there_drew w g 0 32).2 h
theorem blk_drew {w : World} {g : Nat} {C : Array Value} {t : TypeId} (h : Blk w g C t) : Blk w.drew g C t := h.bel ((Bel.refl w).drew)
/-- The five worlds in which the item may be asked for. -/
theorem at0 (W : World) (b : Nat) (hb : b < W.heap.size) : ∀ w1, Bel W.drew w1 → Past W w1 b := fun w1 h => past (((Bel.refl W).drew).trans h) hb
theorem at5 (W : World) (b : Nat) (hb : b < W.heap.size) : ∀ w1, Bel (W.alloc ZO).drew w1 → Past W w1 b ∧ w1.there W.heap.size 0 32 ∧ w1.heap.size ≠ W.heap.size ∧ W.heap.size ≠ w1.heap.size := fun w1 h => by
  have h2 := Below.size h
  simp at h2
  exact ⟨past ((((Bel.refl W).alloc _).drew).trans h) hb, there_bel (drew_there (there_z W rfl)) h, by omega, by omega⟩
theorem at7 (W : World) (b : Nat) (hb : b < W.heap.size) : ∀ w1, Bel (W.alloc FO).drew w1 → Past W w1 b ∧ Emp w1 W.heap.size ∧ Emp (w1.alloc ZO) W.heap.size ∧ w1.heap.size ≠ W.heap.size ∧ W.heap.size ≠ w1.heap.size := fun w1 h => by
  have h2 := Below.size h
  simp at h2
  exact ⟨past ((((Bel.refl W).alloc _).drew).trans h) hb, emp (blk_drew (Blk.new W _ _)) h, emp (blk_drew (Blk.new W _ _)) (h.alloc _), by omega, by omega⟩
theorem at57 (W : World) (b : Nat) (hb : b < W.heap.size) : ∀ w1, Bel ((W.alloc ZO).alloc FO).drew w1 → Past W w1 b ∧ Emp w1 (W.heap.size + 1) ∧ w1.there W.heap.size 0 32 := fun w1 h => by
  have h3 := Blk.new (W.alloc ZO) #[.int .i64 0, .int .i64 0] 29
  rw [World.size_alloc] at h3
  exact ⟨past (((((Bel.refl W).alloc _).alloc _).drew).trans h) hb, emp (blk_drew h3) h, there_bel (drew_there (World.there_alloc (there_z W rfl) _)) h⟩
theorem at75 (W : World) (b : Nat) (hb : b < W.heap.size) : ∀ w1, Bel ((W.alloc FO).alloc ZO).drew w1 → Past W w1 b ∧ Emp w1 W.heap.size ∧ w1.there (W.heap.size + 1) 0 32 := fun w1 h =>
  ⟨past (((((Bel.refl W).alloc _).alloc _).drew).trans h) hb, emp (blk_drew ((Blk.new W _ _).alloc _)) h, there_bel (drew_there (there_z (W.alloc FO) (World.size_alloc W _))) h⟩

theorem results_c1 {fn : Func} {p : Tmp} {tp : TypeId} (h : fn.results = #[.cell p tp]) (tmps : Array Value) (w : World) (a : Addr) (X : Value)
    (hp : tmps.getD p undef = .pointer (some a)) (hX : (loadVar tp a).run Try.prog w = .ok X w) : (results fn tmps).run Try.prog w = .ok X w := by
  have hp' : tmps[p]?.getD undef = .pointer (some a) := by simpa using hp
  simp [results, h, hp', asAddr, hX]
theorem closed {W w2 : World} {gh g : Nat} {Y : List Value} {e bad tl : Int} (hT : w2.there gh 0 32) (hl : Y.length = 32) (hB : Blk w2 g #[.int .i64 0, .int .i64 0] 29) (hb : Bel W w2) (hgh : W.heap.size ≤ gh) (hg : W.heap.size ≤ g) (hne : g ≠ gh) :
    ∃ gh' g' : Nat, Value.pointer (some ⟨gh, 0, none⟩) = .pointer (some ⟨gh', 0, none⟩) ∧ Value.int .i64 tl = .int .i64 tl ∧ Value.pointer (some ⟨g, 0, none⟩) = .pointer (some ⟨g', 0, none⟩) ∧ W.heap.size ≤ gh' ∧ W.heap.size ≤ g' ∧ Hid ((((w2.setCells gh 0 Y).setCell ⟨g, 0, none⟩ (.int .i64 e)).setCell ⟨g, 1, none⟩ (.int .i64 bad)).rangeAt gh' 0 Y) ∧ Blk (((w2.setCells gh 0 Y).setCell ⟨g, 0, none⟩ (.int .i64 e)).setCell ⟨g, 1, none⟩ (.int .i64 bad)) g' #[.int .i64 e, .int .i64 bad] 29 ∧ Bel W (((w2.setCells gh 0 Y).setCell ⟨g, 0, none⟩ (.int .i64 e)).setCell ⟨g, 1, none⟩ (.int .i64 bad)) :=
  ⟨gh, g, rfl, rfl, rfl, hgh, hg, range_set (range_set (r_self hT hl) hne.symm 0 _) hne.symm 1 _, ((blk_apart hB hne).set 0 _).set 1 _, ((bel_setCells hb hgh Y).set hg _).set hg _⟩
theorem kep_new {S : Nat → Prop} {w w2 w3 : World} (h : Kep S w w2) (h3 : Kep (fun i => i = w.heap.size) w2 w3) : Kep S w w3 :=
  ⟨h3.os.trans h.os, h3.tape.trans h.tape, h3.output.trans h.output, Nat.le_trans h.size h3.size, fun i hi hs => (h3.block i (Nat.lt_of_lt_of_le hi h.size) (Nat.ne_of_lt hi)).trans (h.block i hi hs)⟩
theorem blk_second (w : World) (o : Obj) : Blk ((w.alloc o).alloc FO) (w.heap.size + 1) #[.int .i64 0, .int .i64 0] 29 := by
  have h := Blk.new (w.alloc o) #[.int .i64 0, .int .i64 0] 29
  rwa [World.size_alloc] at h

set_option maxRecDepth 100000 in
set_option maxHeartbeats 4000000 in
theorem itemH (b : Nat) (A : Option Addr) (n c : Nat) (zs : List Int) (k : Nat) (ys : List Int) (tl e bad : Int) (k' : Nat) (f' : Option (Int × Int)) (w : World) (h : RSt w b A n c zs k none) (hG : ∀ w', Bel w w' → Calls Try.prog 62 #[.slice A n c, .int .i64 (k : Int)] w' fun r w1 => r = .returned (.tuple #[hash ys, .int .i64 tl, .agg #[.int .i64 e, .int .i64 bad]]) ∧ Bel w' w1) (hl : ys.length = 32) (hm : Moves k tl e bad k' f') (hk' : k' ≤ n) (hn : e = 0 → 0 < n) :
    Calls Try.prog 61 #[.pointer (some ⟨b, 0, none⟩), .func (.func 62) #[] #[]] w fun r w' => r = .returned (hash (if e = 0 then ys else List.replicate 32 0)) ∧ (∃ F', RSt w' b A n c zs k' F' ∧ Flt w' b F' f' ∧ ∀ x : Addr, F' = some x → w.heap.size ≤ x.block) ∧ Kep (fun i => i = b) w w' := by
  have hA := (Bel.refl w).alloc ZO
  obtain ⟨W, hW⟩ : ∃ W, w.alloc ZO = W := ⟨_, rfl⟩
  rw [hW] at hA
  have HAB := Lib.hid (show e = 0 → ∀ x : Addr, A = some x → x.block ≠ w.heap.size from fun he x hx => by
    obtain ⟨b', o', h1, h2, _⟩ := h.sl.ints.2 (hn he)
    rw [h1] at hx
    cases hx
    exact Nat.ne_of_lt h2)
  clear hn
  have hbl : b < w.heap.size := h.blk.lt
  have hWb : b < W.heap.size := Nat.lt_of_lt_of_le hbl (Below.size hA)
  have R0 := Lib.hid (show W.rangeAt w.heap.size 0 Z32.toList by rw [← hW]; exact range_new)
  have TH0 := Lib.hid (show W.there w.heap.size 0 32 by rw [← hW]; exact there_z w rfl)
  have hWs : w.heap.size < W.heap.size := by rw [← hW, World.size_alloc]; exact Nat.lt_succ_self _
  have T := Lib.hid (trouble b A n c zs k none W (h.bel hA))
  have H := Lib.hid (h.bel hA)
  have HA := Lib.hid hA
  obtain ⟨Y, hY⟩ : ∃ Y, ys.map (Value.int .u8) = Y := ⟨_, rfl⟩
  have HY := Lib.hid hY
  have YL : Y.length = 32 := by rw [← hY]; simpa using hl
  have YO : ∀ v ∈ Y, v.oneCell' = true := by rw [← hY]; exact ints_ok _
  have YI : (Try.prog.info? 44).map (·.size) = some Y.length := by rw [YL]; exact info_hash
  have G := Lib.hid (fun w' (hb : Bel W w') => (hG w' (hA.trans hb)).mono (R' := fun r w1 => r = .returned (.tuple #[.agg Y.toArray, .int .i64 tl, .agg #[.int .i64 e, .int .i64 bad]]) ∧ Bel w' w1 ∧ w1.cell? ⟨b, 1, none⟩ = some (.slice A n c) ∧ w1.cell? ⟨b, 2, none⟩ = some (.int .i64 (k : Int))) fun r w1 hr => ⟨by rw [hr.1, ← hY], hr.2, (h.blk.bel (hA.trans (hb.trans hr.2))).cell 1 rfl, (h.blk.bel (hA.trans (hb.trans hr.2))).cell 2 rfl⟩)
  have c1 : W.cell? ⟨b, 1, none⟩ = some (.slice A n c) := H.out.blk.cell 1 rfl
  have c2 : W.cell? ⟨b, 2, none⟩ = some (.int .i64 (k : Int)) := H.out.blk.cell 2 rfl
  have n1 : W.heap.size ≠ b := by omega
  have n2 : b ≠ W.heap.size := by omega
  clear h hG hY hA hl
  go_enter Try.func61, Try.ntmps61
  go_upto_region 2 with (go_at_call 54; refine (T.out).mono ?_; rintro e w' ⟨rfl, rfl⟩)
  have B0 := Lib.hid (show Bel W W.drew from (Bel.refl W).drew)
  have B5 := Lib.hid (show Bel W (W.alloc ZO).drew from ((Bel.refl W).alloc _).drew)
  have B7 := Lib.hid (show Bel W (W.alloc FO).drew from ((Bel.refl W).alloc _).drew)
  have B57 := Lib.hid (show Bel W ((W.alloc ZO).alloc FO).drew from (((Bel.refl W).alloc _).alloc _).drew)
  have B75 := Lib.hid (show Bel W ((W.alloc FO).alloc ZO).drew from (((Bel.refl W).alloc _).alloc _).drew)
  have L0 := Lib.hid (at0 W b hWb)
  have L5 := Lib.hid (at5 W b hWb)
  have L7 := Lib.hid (at7 W b hWb)
  have L57 := Lib.hid (at57 W b hWb)
  have L75 := Lib.hid (at75 W b hWb)
  have n3 : W.heap.size + 1 ≠ b := by omega
  have n4 : b ≠ W.heap.size + 1 := by omega
  have E1 : ∀ w0 : World, (w0.alloc ZO).there w0.heap.size 0 32 := fun w0 => there_z w0 rfl
  have E2 : ∀ (w0 : World) (ob : Obj), ((w0.alloc ob).alloc ZO).there (w0.heap.size + 1) 0 32 := fun w0 ob => there_z _ (World.size_alloc w0 ob)
  have E3 : ∀ (w0 : World) (ob : Obj) (g : Nat), w0.there g 0 32 → (w0.alloc ob).there g 0 32 := fun w0 ob g h => World.there_alloc h ob
  have EC := cell_apart
  have EF := frozen_apart
  go_cut [5, 6, 7] (fun s5 s6 s7 wx => ∃ gh g : Nat, s5 = .pointer (some ⟨gh, 0, none⟩) ∧ s6 = .int .i64 tl ∧ s7 = .pointer (some ⟨g, 0, none⟩) ∧ W.heap.size ≤ gh ∧ W.heap.size ≤ g ∧ Hid (wx.rangeAt gh 0 Y) ∧ Blk wx g #[.int .i64 e, .int .i64 bad] 29 ∧ Bel W wx)
  case first =>
    go_region_held3 (fun w' => w'.cell? ⟨b, 1, none⟩ = some (.slice A n c) ∧ w'.cell? ⟨b, 2, none⟩ = some (.int .i64 (k : Int))) (simp [*, World.cell?_alloc_some, World.cell?_setCell_far])
      (first | (go_at_call 62; first
        | (refine (G.out _ ?_).mono ?_; exact B0.out; rintro r w1 ⟨rfl, hb1, k1, k2⟩; obtain ⟨hb2, q1, q2, q3, q4⟩ := L0.out w1 hb1; clear hb1)
        | (refine (G.out _ ?_).mono ?_; exact B5.out; rintro r w1 ⟨rfl, hb1, k1, k2⟩; obtain ⟨⟨hb2, q1, q2, q3, q4⟩, t1, m1, m2⟩ := L5.out w1 hb1; clear hb1)
        | (refine (G.out _ ?_).mono ?_; exact B7.out; rintro r w1 ⟨rfl, hb1, k1, k2⟩; obtain ⟨⟨hb2, q1, q2, q3, q4⟩, ⟨d0, d1, d2, d3, d4⟩, ⟨d5, d6, d7, d8, d9⟩, m1, m2⟩ := L7.out w1 hb1; clear hb1)
        | (refine (G.out _ ?_).mono ?_; exact B57.out; rintro r w1 ⟨rfl, hb1, k1, k2⟩; obtain ⟨⟨hb2, q1, q2, q3, q4⟩, ⟨d0, d1, d2, d3, d4⟩, t1⟩ := L57.out w1 hb1; clear hb1)
        | (refine (G.out _ ?_).mono ?_; exact B75.out; rintro r w1 ⟨rfl, hb1, k1, k2⟩; obtain ⟨⟨hb2, q1, q2, q3, q4⟩, ⟨d0, d1, d2, d3, d4⟩, t1⟩ := L75.out w1 hb1; clear hb1)))
    all_goals (go_wp2_with fail; go_meet; have hz := Below.size hb2.out; first
      | exact closed t1 YL d4.out hb2.out (by omega) (by omega) (by omega)
      | exact closed (World.there_alloc t1 _) YL (Blk.new w1 _ _) (hb2.out.alloc _) (by omega) (by omega) (by omega)
      | exact closed (there_z w1 rfl) YL d9.out (hb2.out.alloc _) (by omega) (by omega) (by omega)
      | exact closed (World.there_alloc (there_z w1 rfl) _) YL (blk_second w1 _) ((hb2.out.alloc _).alloc _) (by omega) (by omega) (by omega)
      | exact closed (there_z _ (World.size_alloc w1 _)) YL ((Blk.new w1 _ _).alloc _) ((hb2.out.alloc _).alloc _) (by omega) (by omega) (by omega))
  case rest =>
    obtain ⟨gh, g, rfl, rfl, rfl, hgh, hg, hR, hG, hbel⟩ := hcut
    have HG := Lib.hid hG
    have HB := Lib.hid hbel
    have HR := Lib.hid (H.out.bel hbel)
    have TH := Lib.hid (there_bel TH0.out hbel)
    have R0c := Lib.hid (range_kep (S := fun _ => False) R0.out (Kep.of_bel hbel) id)
    have g0 : wc.cell? ⟨g, 0, none⟩ = some (.int .i64 e) := hG.cell 0 rfl
    have hne : g ≠ b := by omega
    have hnh : gh ≠ b := by omega
    have hnw : w.heap.size ≠ b := by omega
    clear hG hbel c1 c2 n1 n2 n3 n4 E1 E2 E3 EC EF B0 B5 B7 B57 B75 L0 L5 L7 L57 L75
    rcases hm with ⟨rfl, rfl, rfl⟩ | ⟨he, rfl, rfl⟩
    · have k2 : wc.cell? ⟨b, 2, none⟩ = some (.int .i64 (k : Int)) := HR.out.blk.cell 2 rfl
      have f2 := HR.out.blk.frozen 2
      have R := Lib.hid (range_set hR.out hnh 2 (.int .i64 (k' : Int)))
      have hz : Y.toArray.size = 32 := by simp [YL]
      have TH2 : Hid ((wc.setCell ⟨b, 2, none⟩ (.int .i64 (k' : Int))).there w.heap.size 0 Y.toArray.size) := by
        rw [hz]
        exact fun j hj => by
          obtain ⟨h1, h2⟩ := TH.out j hj
          obtain ⟨v, hv⟩ := Option.isSome_iff_exists.1 h1
          exact ⟨by rw [World.cell?_setCell_far _ _ _ _ (show b ≠ w.heap.size from hnw.symm)]; exact h1, by simpa using h2⟩
      have HO := Lib.hid (all_oneCell_toArray YO)
      have HI := Lib.hid YI
      have HI2 := Lib.hid (show (Try.prog.info? 44).map (·.size) = some Y.toArray.size by rw [hz]; exact info_hash)
      have HL := Lib.hid YL
      have HM := Lib.hid (HR.out.move hk')
      clear hz YL YO YI R0c
      go_wp2_with (first | (refine wpList_load_mid rfl 44 (.tmp 5) rfl gh 0 rfl Y _ R.out Try.underlying44 rfl HI.out ?_) | (refine wpList_store_mid rfl 44 (.tmp 4) (.tmp 35) rfl w.heap.size 0 Y.toArray rfl rfl TH2.out HI2.out HO.out ?_))
      refine bodyPost_ret (results_c1 Try.results61 _ _ ⟨w.heap.size, 0, none⟩ (.agg Y.toArray) rfl (run_loadVar_mid (P := Try.prog) _ _ _ 44 Y _ (World.rangeAt_setCells_same _ _ _ _ (by have := TH2.out; simpa using this)) Try.underlying44 rfl HI.out)) rfl ⟨?_, ?_, ?_⟩
      · rw [← HY.out]
      · exact ⟨none, HM.out.kep (kep_setCells w.heap.size Y 0 _) (fun e => hnw e.symm) (HAB.out (by trivial)), .inl ⟨rfl, rfl⟩, fun x hx => by cases hx⟩
      · exact kep_new (((Kep.of_bel (HA.out.trans HB.out)).set_self _ _)) (kep_setCells w.heap.size Y 0 _)
    · have k3 : wc.cell? ⟨b, 3, none⟩ = some (.pointer none) := HR.out.blk.cell 3 rfl
      have f3 := HR.out.blk.frozen 3
      have fe : (e != 0) = true := by rw [bne_iff_ne]; exact he
      have HE := Lib.hid he
      clear he YL YO YI
      go_wp2
      refine bodyPost_ret (results_c1 Try.results61 _ _ ⟨w.heap.size, 0, none⟩ (.agg Z32.toList.toArray) rfl (run_loadVar_mid (P := Try.prog) _ _ _ 44 Z32.toList _ (range_set R0c.out hnw 3 _) Try.underlying44 rfl info_hash)) rfl ⟨?_, ?_, ?_⟩
      · rfl
      · exact ⟨_, HR.out.fault (some ⟨g, 0, none⟩), .inr ⟨e, bad, g, rfl, rfl, hne, HG.out.other hne 3 _, HE.out⟩, fun x hx => by cases hx; exact Nat.le_trans (Nat.le_of_lt hWs) hg⟩
      · exact (Kep.of_bel (HA.out.trans HB.out)).set_self _ _
end Cd
end Go.Proofs.Ytejbhfcmhijfcaa
