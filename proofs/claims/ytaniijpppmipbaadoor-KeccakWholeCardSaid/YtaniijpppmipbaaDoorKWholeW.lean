/-
  The walk of the law KeccakWhole: it returns true. Conditions: the table of turns lies in its variable; the bytes may be read; the cuts are numbers.
-/
import Derived.Test.YtaniijpppmipbaaDoorKMade
import Derived.Test.YtaniijpppmipbaaDoorKEq
import Derived.Test.YtaniijpppmipbaaDoorKTurns
import Derived.Test.YtaniijpppmipbaaDoorKKnown
import Derived.Test.YtaniijpppmipbaaDoorKJoin
namespace Go.Proofs.YtaniijpppmipbaaDoor
open Go.RowKit Go.Shelf
set_option linter.unusedVariables false
namespace Kk

theorem bytes_len {n : Nat} (h : n ≤ 500) : bytesOf (BitVec.ofInt 64 (n : Int)) = [((n % 256 : Nat) : Int), ((n / 256 : Nat) : Int), 0, 0, 0, 0, 0, 0] := by
  have : ∀ m : Fin 501, bytesOf (BitVec.ofInt 64 ((m.1 : Nat) : Int)) = [((m.1 % 256 : Nat) : Int), ((m.1 / 256 : Nat) : Int), 0, 0, 0, 0, 0, 0] := by decide +kernel
  exact this ⟨n, by omega⟩
theorem joinB_one (zs : List Int) (h : zs.length ≤ 500) : joinB 7 [zs] 1 = [7, ((zs.length % 256 : Nat) : Int), ((zs.length / 256 : Nat) : Int), 0, 0, 0, 0, 0, 0] ++ zs := by
  show ([7] ++ bytesOf (BitVec.ofInt 64 (zs.length : Int))) ++ zs = _
  rw [bytes_len h]
  rfl
/-- The two hashes behind a bytes. -/
structure Wh (w0 w : World) (b1 b2 a : Nat) (zs : List Int) : Prop where
  o1 : Ob w b1 (zs.take a)
  o2 : Ob w b2 (zs.take a)
  bel : Bel w0 w
theorem Wh.up {w0 w w' : World} {b1 b2 a : Nat} {zs : List Int} (h : Wh w0 w b1 b2 a zs) (hb : Bel w w') : Wh w0 w' b1 b2 a zs := ⟨h.o1.bel hb, h.o2.bel hb, h.bel.trans hb⟩

/-- What the law compares. -/
structure Sw (w0 W : World) (xb yb b1 n : Nat) (va : Value) (zs js : List Int) (base : Nat) : Prop where
  lx : xb < W.heap.size
  ly : yb < W.heap.size
  ob : Ob W b1 zs
  row : W.ownsRow base 5 1 va n (js.map (Value.int .u8))
  bel : Bel w0 W
theorem Sw.up {w0 W W' : World} {xb yb b1 n : Nat} {va : Value} {zs js : List Int} {base : Nat} (h : Sw w0 W xb yb b1 n va zs js base) (hb : Bel W W') : Sw w0 W' xb yb b1 n va zs js base :=
  ⟨Nat.lt_of_lt_of_le h.lx (Below.size hb), Nat.lt_of_lt_of_le h.ly (Below.size hb), h.ob.bel hb, owns_bel h.row hb, h.bel.trans hb⟩

set_option maxRecDepth 100000 in
set_option maxHeartbeats 8000000 in
theorem wholeLaw (A : Option Addr) (n c : Nat) (zs : List Int) (A2 : Option Addr) (n2 c2 : Nat) (cs : List Int) (w : World) (hz : Sl w A n c zs) (hby : By zs) (hcm : c ≤ maxLen)
    (hcs : Ints .i64 w A2 n2 cs) (hci : ∀ z ∈ cs, -9223372036854775808 ≤ z ∧ z ≤ 9223372036854775807) (hn2 : n2 ≤ maxLen) (hT : Tn w) :
    Calls Tryd.prog 8 #[.slice A n c, .slice A2 n2 c2] w fun e w' => e = .returned (.bool true) ∧ Bel w w' := by
  have HZ := Lib.hid hz
  have HC := Lib.hid hcs
  have HCI := Lib.hid hci
  have HT := Lib.hid hT
  have HBY := Lib.hid hby
  have h0 : 0 < w.heap.size := hT.1
  have hcn : n ≤ c := hz.cap
  have HCM := Lib.hid hcm
  have hn9 : n ≤ 9223372036854775807 := by unfold maxLen at hcm; omega
  have hn29 : n2 ≤ 9223372036854775807 := by unfold maxLen at hn2; omega
  clear hz hcs hci hT hby hcm hn2
  go_enter Tryd.func8, Tryd.ntmps8
  go_wp2_with fail
  refine (knownLaw _ HT.out).mono ?_
  rintro e w1 ⟨rfl, k1⟩
  have K1 := Lib.hid (show Bel w w1 from k1)
  clear k1
  by_cases hbig : 500 < n
  · have hb : (500 : Int) < (n : Int) := by omega
    go_wp2
    go_ret
    exact ⟨rfl, K1.out⟩
  by_cases hbig2 : 20 < n2
  · have hb : (20 : Int) < (n2 : Int) := by omega
    have hb2 : ¬ (500 : Int) < (n : Int) := by omega
    go_wp2
    go_ret
    exact ⟨rfl, K1.out⟩
  have hb1 : ¬ (500 : Int) < (n : Int) := by omega
  have hb2 : ¬ (20 : Int) < (n2 : Int) := by omega
  have hb3 : (n : Int) ≤ 500 := by omega
  have hb4 : (n2 : Int) ≤ 20 := by omega
  go_wp2_with fail
  refine (hNew _).mono ?_
  rintro e w2 ⟨b1, hb1s, rfl, ho1, k2⟩
  have hb1l := ho1.lt
  go_wp2_with fail
  refine (hNew _).mono ?_
  rintro e w3 ⟨b2, hb2s, rfl, ho2, k3⟩
  have hbb : b1 ≠ b2 := by omega
  have hb1w : w.heap.size ≤ b1 := Nat.le_trans (Below.size K1.out) hb1s
  have hb2w : w.heap.size ≤ b2 := by omega
  have W0 := Lib.hid (show Wh w w3 b1 b2 0 zs from ⟨ho1.bel k3, ho2, (K1.out.trans k2).trans k3⟩)
  clear ho1 ho2 k2 k3 hb1s hb2s hb1l
  go_wp2_with fail
  go_loopw [8, 9] (fun at_ i wr => ∃ a k : Nat, at_ = .int .i64 a ∧ i = .int .i64 k ∧ a ≤ n ∧ k ≤ n2 + 1 ∧ (k = n2 + 1 → a = n) ∧ Wh w wr b1 b2 a zs) (fun _ i _ => n2 + 1 - (intOf i).toNat)
  case atStart => exact ⟨0, 0, rfl, rfl, Nat.zero_le _, Nat.zero_le _, fun h => by omega, W0.out⟩
  case round =>
    obtain ⟨a, k, rfl, rfl, ha, hk, hka, hW⟩ := hrel
    have HW := Lib.hid hW
    clear hW
    by_cases hlt : k ≤ n2
    · have hlt2 : (k : Int) ≤ (n2 : Int) := by omega
      go_upto_if 39 with fail
      go_cut [10] (fun s10 wx => ∃ t : Nat, s10 = .int .i64 t ∧ a ≤ t ∧ t ≤ n ∧ (k = n2 → t = n) ∧ wx = wr)
      case first =>
        by_cases hkn : k < n2
        · obtain ⟨cb, co, rfl, hcb, hcc⟩ := HC.out.2 (by omega)
          have cl : wr.cell? ⟨cb, co + k, none⟩ = some (.int .i64 (cs.getD k 0)) := (Below.cell (p := ⟨cb, co + k, none⟩) HW.out.bel hcb).trans (hcc k hkn)
          have hzb : -9223372036854775808 ≤ cs.getD k 0 ∧ cs.getD k 0 ≤ 9223372036854775807 := by
            have hl := HC.out.1
            rw [getD_eq _ _ (by omega)]
            exact HCI.out _ (List.getElem_mem _)
          obtain ⟨z, hz⟩ : ∃ z, cs.getD k 0 = z := ⟨_, rfl⟩
          rw [hz] at cl hzb
          have PK := Lib.hid (fun W => pick z ((n : Int) - a + 1) W hzb.1 hzb.2 (by omega) (by omega))
          have p0 := Int.emod_nonneg z (show (n : Int) - a + 1 ≠ 0 by omega)
          have p1 := Int.emod_lt_of_pos z (show 0 < (n : Int) - a + 1 by omega)
          obtain ⟨q, hq⟩ : ∃ q : Nat, (q : Int) = z % ((n : Int) - a + 1) := ⟨(z % ((n : Int) - a + 1)).toNat, by omega⟩
          rw [← hq] at PK p0 p1
          clear hcc hz hq hzb
          have hkn2 : (k : Int) < (n2 : Int) := by omega
          go_wp2_with fail
          refine (PK.out _).mono ?_
          rintro e w' ⟨rfl, rfl⟩
          go_wp2_with fail
          go_meet
          exact ⟨a + q, by go_num, by omega, by omega, fun h => by omega, rfl⟩
        · have hkn2 : ¬ (k : Int) < (n2 : Int) := by omega
          go_wp2_with fail
          go_meet
          exact ⟨n, rfl, ha, Nat.le_refl _, fun _ => rfl, rfl⟩
      case rest =>
        obtain ⟨t, rfl, hat, htn, htk, rfl⟩ := hcut
        obtain ⟨A3, hA3⟩ : ∃ A3, (if c = a then A else A.map (·.add (a * 1))) = A3 := ⟨_, rfl⟩
        have sl := fun W => slice_lh A n c (a : Int) (t : Int) W (by omega) (by omega) (by omega)
        rw [Int.toNat_natCast, Int.toNat_natCast, hA3] at sl
        obtain ⟨Z, hZ⟩ : ∃ Z, Z = (zs.drop a).take (t - a) := ⟨_, rfl⟩
        have DT := Lib.hid (show zs.take a ++ Z = zs.take t by rw [hZ, ← List.take_add, show a + (t - a) = t by omega])
        have ZB := Lib.hid (show By Z by rw [hZ]; exact (HBY.out.drop a).take _)
        have IW := Lib.hid (show ∀ W, Bel w W → Ints .u8 W A3 (t - a) Z from fun W hW => by
          have h := (HZ.out.ints.bel hW).part (k := a) (m := t - a) (c := c) (by omega) HZ.out.cap
          rw [hA3, ← hZ] at h
          exact h)
        have LT := Lib.hid (show (zs.take a).length ≤ 500 by rw [List.length_take]; omega)
        have NB := Lib.hid (show 0 < t - a → ∀ x, A3 = some x → x.block < w.heap.size from fun h0 x hx => by
          obtain ⟨pb, po, e, hp, _⟩ := (IW.out w (Bel.refl w)).2 h0
          rw [e] at hx
          cases hx
          exact hp)
        have hca : c - a ≤ maxLen := Nat.le_trans (Nat.sub_le _ _) HCM.out
        have WR1 := Lib.hid (hWriteS b1 (zs.take a) A3 (t - a) (c - a) Z wc HW.out.o1 (IW.out wc HW.out.bel) (by omega) hca ZB.out (fun h0 x hx => by have := NB.out h0 x hx; omega) (HT.out.bel HW.out.bel) (by omega) (by have := LT.out; omega))
        have HCA := Lib.hid hca
        clear hA3 hZ hca
        go_wp2_with fail
        refine (WR1.out).mono ?_
        rintro e w4 ⟨rfl, o4, k4⟩
        rw [DT.out] at o4
        have B4 := Lib.hid (Kep.bel HW.out.bel k4 (fun i hi => by rw [hi]; exact hb1w))
        have O4 := Lib.hid o4
        have P4 := Lib.hid (HW.out.o2.kep k4 (fun e => hbb e.symm))
        have WR2 := Lib.hid (hWriteS b2 (zs.take a) A3 (t - a) (c - a) Z w4 P4.out (IW.out w4 B4.out) (by omega) HCA.out ZB.out (fun h0 x hx => by have := NB.out h0 x hx; omega) (HT.out.bel B4.out) (by omega) (by have := LT.out; omega))
        clear o4 k4 WR1
        go_wp2_with fail
        refine (WR2.out).mono ?_
        rintro e w5 ⟨rfl, o5, k5⟩
        rw [DT.out] at o5
        have W5 := Lib.hid (show Wh w w5 b1 b2 t zs from ⟨O4.out.kep k5 hbb, o5, Kep.bel B4.out k5 (fun i hi => by rw [hi]; exact hb2w)⟩)
        have SM := Lib.hid (hSum b1 (zs.take t) w5 W5.out.o1 (HT.out.bel W5.out.bel))
        clear o5 k5 WR2 sl
        go_wp2_with fail
        refine (SM.out).mono ?_
        rintro e w6 ⟨rfl, k6⟩
        have W6 := Lib.hid (W5.out.up k6)
        clear k6 SM
        go_wp2_with fail
        refine ⟨⟨t, k + 1, rfl, by go_num, htn, by omega, fun h => htk (by omega), W6.out⟩, ?_⟩
        simp [intOf]
        omega
    · obtain rfl : k = n2 + 1 := by omega
      obtain rfl : a = n := hka rfl
      have HZl := Lib.hid HZ.out.len
      have TN := Lib.hid (show zs.take a = zs from List.take_of_length_le (by rw [HZl.out]; exact Nat.le_refl _))
      have O1 := HW.out.o1
      have O2 := HW.out.o2
      rw [TN.out] at O1 O2
      have BW := Lib.hid HW.out.bel
      have HO1 := Lib.hid O1
      have HO2 := Lib.hid O2
      have SM1 := Lib.hid (hSum b1 zs wr O1 (HT.out.bel BW.out))
      obtain ⟨Y, hY⟩ : ∃ Y, Y = (sumOf zs).map B8 := ⟨_, rfl⟩
      have HYl := Lib.hid (show Y.length = 32 by rw [hY, List.length_map]; exact len_hashOf _)
      have YI := Lib.hid (show (Tryd.prog.info? 31).map (·.size) = some Y.length by rw [HYl.out]; exact info_hash)
      have YS := Lib.hid (show Y.toArray.size = Y.length from List.size_toArray)
      have YI2 := Lib.hid (show (Tryd.prog.info? 31).map (·.size) = some Y.toArray.size by rw [YS.out]; exact YI.out)
      have YO := Lib.hid (all_oneCell_toArray (cs := Y) (by rw [hY]; exact ints_b8 _))
      have YV := Lib.hid (show hsV (sumOf zs) = .agg Y.toArray by rw [hY])
      clear O1 O2 hY hka
      go_wp2_with fail
      refine (SM1.out).mono ?_
      rintro e w7 ⟨rfl, k7⟩
      rw [YV.out]
      obtain ⟨y1, y2, y3, y4⟩ := put32 w7 Y HYl.out
      have TY := Lib.hid y1
      obtain ⟨w8, hw8⟩ : ∃ w8, (w7.alloc (.cells Z32l.toArray 31)).setCells w7.heap.size 0 Y = w8 := ⟨_, rfl⟩
      obtain ⟨xb, hxb⟩ : ∃ xb, xb = w7.heap.size := ⟨_, rfl⟩
      rw [hw8] at y2 y3 y4
      rw [← hxb] at y3 y4
      have B8a : Bel wr w8 := Bel.trans k7 y2
      have R8 := Lib.hid y3
      have SM2 := Lib.hid (hSum b2 zs w8 (HO2.out.bel B8a) (HT.out.bel (BW.out.trans B8a)))
      have HB8 := Lib.hid B8a
      have HW8 := Lib.hid hw8
      have HXB := Lib.hid hxb
      clear y1 y2 y3 k7 SM1 B8a hw8 hxb
      go_upto_region 17 with (refine wpList_store_mid rfl 31 (.tmp 11) (.tmp 74) rfl w7.heap.size 0 Y.toArray rfl rfl TY.out YI2.out YO.out ?_)
      rw [HW8.out, ← HXB.out]
      go_wp2_with fail
      refine (SM2.out).mono ?_
      rintro e w9 ⟨rfl, k9⟩
      rw [YV.out]
      obtain ⟨z1, z2, z3, z4⟩ := put32 w9 Y HYl.out
      have TZ := Lib.hid z1
      obtain ⟨w10, hw10⟩ : ∃ w10, (w9.alloc (.cells Z32l.toArray 31)).setCells w9.heap.size 0 Y = w10 := ⟨_, rfl⟩
      obtain ⟨yb, hyb⟩ : ∃ yb, yb = w9.heap.size := ⟨_, rfl⟩
      rw [hw10] at z2 z3 z4
      rw [← hyb] at z3 z4
      have B10a : Bel w8 w10 := Bel.trans k9 z2
      have R10 := Lib.hid (range_bel R8.out B10a y4)
      have Q10 := Lib.hid z3
      have HB10 := Lib.hid ((BW.out.trans HB8.out).trans B10a)
      have HO10 := Lib.hid (HO1.out.bel (HB8.out.trans B10a))
      have hx10 : xb < w10.heap.size := Nat.lt_of_lt_of_le y4 (Below.size B10a)
      have HW10 := Lib.hid hw10
      have HYB := Lib.hid hyb
      clear z1 z2 z3 k9 SM2 B10a hw10 hyb
      go_upto_region 18 with (refine wpList_store_mid rfl 31 (.tmp 13) (.tmp 79) rfl w9.heap.size 0 Y.toArray rfl rfl TZ.out YI2.out YO.out ?_)
      rw [HW10.out, ← HYB.out]
      have m1 : ((a : Int)).tmod 256 = ((a % 256 : Nat) : Int) := by rw [Int.tmod_eq_emod_of_nonneg (by omega)]; omega
      have m2 : ((a : Int)).tdiv 256 = ((a / 256 : Nat) : Int) := by rw [Int.tdiv_eq_ediv_of_nonneg (by omega)]; omega
      obtain ⟨p, hp⟩ : ∃ p, a % 256 = p := ⟨_, rfl⟩
      obtain ⟨q, hq⟩ : ∃ q, a / 256 = q := ⟨_, rfl⟩
      have JB := Lib.hid (show joinB 7 [zs] 1 = [7, (p : Int), (q : Int), 0, 0, 0, 0, 0, 0] ++ zs by rw [joinB_one zs (by rw [HZl.out]; omega), HZl.out, hp, hq])
      rw [hp] at m1
      rw [hq] at m2
      have m1' : ((a : Int)) % 256 = (p : Int) := by omega
      have m2' : ((a : Int)) / 256 = (q : Int) := by omega
      have hp2 : p ≤ 255 := by omega
      have hq2 : q ≤ 255 := by omega
      clear hp hq
      have u1 : IntKind.u8.wrap (p : Int) = p := by rw [IntKind.wrap_u8]; omega
      have u2 : IntKind.u8.wrap (q : Int) = q := by rw [IntKind.wrap_u8]; omega
      have i1 : IntKind.i64.wrap (q : Int) = q := IntWalk.i64_in _ (by omega)
      have LIT := Lib.hid (show (w10.alloc (.cells #[.int .u8 7, .int .u8 (p : Int), .int .u8 (q : Int), .int .u8 0, .int .u8 0, .int .u8 0, .int .u8 0, .int .u8 0, .int .u8 0] 5)).ownsRow w10.heap.size 5 1 (.slice (some ⟨w10.heap.size, 0, none⟩) 9 9) 9 ([7, (p : Int), (q : Int), 0, 0, 0, 0, 0, 0].map (Value.int .u8)) from
        World.ownsRow_lit w10 #[.int .u8 7, .int .u8 (p : Int), .int .u8 (q : Int), .int .u8 0, .int .u8 0, .int .u8 0, .int .u8 0, .int .u8 0, .int .u8 0] 9 (Nat.le_refl _) (by unfold maxLen; omega) rfl)
      have SLZ := Lib.hid ((HZ.out.bel HB10.out).bel ((Bel.refl w10).alloc (.cells #[.int .u8 7, .int .u8 (p : Int), .int .u8 (q : Int), .int .u8 0, .int .u8 0, .int .u8 0, .int .u8 0, .int .u8 0, .int .u8 0] 5)))
      go_wp2_with (at_builtin; refine wpList_append_sl rfl _ _ rfl w10.heap.size _ 9 _ rfl LIT.out A a c zs rfl SLZ.out (by omega) (by rw [World.size_alloc]; omega) ?_; intro va w11 hown hgrow)
      obtain ⟨js, hjs⟩ : ∃ js, js = joinB 7 [zs] 1 := ⟨_, rfl⟩
      have JS := Lib.hid hjs
      have B11 : Bel w10 w11 := Bel.grown ((Bel.refl w10).alloc _) hgrow (fun k hk => (LIT.out.lt k hk).1)
      have row11 : w11.ownsRow w10.heap.size 5 1 va (9 + a) (js.map (Value.int .u8)) := by
        rw [hjs, JB.out, List.map_append]
        exact hown
      have HJB := Lib.hid (show By js by
        rw [hjs, JB.out]
        refine By.append (fun z hz => ?_) HBY.out
        simp only [List.mem_cons, List.not_mem_nil, or_false] at hz
        rcases hz with rfl | rfl | rfl | rfl | rfl | rfl | rfl | rfl | rfl <;> exact ⟨by omega, by omega⟩)
      obtain ⟨Ab, cb, rfl, _, _, _, _⟩ := own_ptr row11
      obtain ⟨V', hV'⟩ : ∃ V', V' = (sumOf js).map B8 := ⟨_, rfl⟩
      have VV := Lib.hid (show hsV (sumOf js) = .agg V'.toArray by rw [hV'])
      have S11 : w11.rangeAt xb 0 Y ∧ w11.rangeAt yb 0 Y ∧ Sw w w11 xb yb b1 (9 + a) (.slice Ab (9 + a) cb) zs js w10.heap.size := ⟨range_bel R10.out B11 hx10, range_bel Q10.out B11 z4, Nat.lt_of_lt_of_le hx10 (Below.size B11), Nat.lt_of_lt_of_le z4 (Below.size B11), HO10.out.bel B11, row11, HB10.out.trans B11⟩
      have KEEP := Lib.hid (show ∀ W W' : World, (W.rangeAt xb 0 Y ∧ W.rangeAt yb 0 Y ∧ Sw w W xb yb b1 (9 + a) (.slice Ab (9 + a) cb) zs js w10.heap.size) → Bel W W' → (W'.rangeAt xb 0 Y ∧ W'.rangeAt yb 0 Y ∧ Sw w W' xb yb b1 (9 + a) (.slice Ab (9 + a) cb) zs js w10.heap.size) from
        fun W W' h hb => ⟨range_bel h.1 hb h.2.2.lx, range_bel h.2.1 hb h.2.2.ly, h.2.2.up hb⟩)
      have SB := Lib.hid (show ∀ W, (W.rangeAt xb 0 Y ∧ W.rangeAt yb 0 Y ∧ Sw w W xb yb b1 (9 + a) (.slice Ab (9 + a) cb) zs js w10.heap.size) → Calls Tryd.prog 17 #[.slice A a c] W fun e w' => e = .returned (.agg Y.toArray) ∧ Bel W w' from fun W hW => by
        rw [← YV.out]
        exact hashSumS A a c zs W ⟨HZ.out.ints.bel hW.2.2.bel, HZ.out.cap, HCM.out, HBY.out⟩ (by omega) (HT.out.bel hW.2.2.bel))
      have LN := Lib.hid (show ∀ W, (W.rangeAt xb 0 Y ∧ W.rangeAt yb 0 Y ∧ Sw w W xb yb b1 (9 + a) (.slice Ab (9 + a) cb) zs js w10.heap.size) → Calls Tryd.prog 32 #[.pointer (some ⟨b1, 0, none⟩)] W fun e w' => e = .returned (.int .i64 (a : Int)) ∧ W = w' from fun W hW => by
        have h := hLen b1 zs W hW.2.2.ob
        rw [HZl.out] at h
        exact h)
      have JN := Lib.hid (show ∀ W, (W.rangeAt xb 0 Y ∧ W.rangeAt yb 0 Y ∧ Sw w W xb yb b1 (9 + a) (.slice Ab (9 + a) cb) zs js w10.heap.size) → Calls Tryd.prog 18 #[.int .u8 7, .slice (some ⟨W.heap.size, 0, none⟩) 1 1] (W.alloc (.cells #[.slice A a c] 22)) fun e w' => e = .returned (.agg V'.toArray) ∧ Bel (W.alloc (.cells #[.slice A a c] 22)) w' from fun W hW => by
        rw [← VV.out, JS.out]
        have hB : Bel w (W.alloc (.cells #[.slice A a c] 22)) := hW.2.2.bel.alloc _
        refine join 7 (some ⟨W.heap.size, 0, none⟩) 1 1 [zs] _ ⟨rfl, fun _ => ⟨W.heap.size, 0, rfl, by simp, fun i hi => ?_⟩⟩ (by decide) (by decide) (by show 0 + zs.length ≤ 1000000; rw [HZl.out]; omega) (by decide) (HT.out.bel hB)
        obtain rfl : i = 0 := by omega
        exact ⟨A, a, c, (Blk.new W #[.slice A a c] 22).cell 0 rfl, HZ.out.bel hB, HBY.out, by omega, HCM.out⟩)
      have SA := Lib.hid (show ∀ W, (W.rangeAt xb 0 Y ∧ W.rangeAt yb 0 Y ∧ Sw w W xb yb b1 (9 + a) (.slice Ab (9 + a) cb) zs js w10.heap.size) → Calls Tryd.prog 17 #[.slice Ab (9 + a) cb] W fun e w' => e = .returned (.agg V'.toArray) ∧ Bel W w' from fun W hW => by
        rw [← VV.out]
        obtain ⟨A', c', e, h1, h2, h3⟩ := ints_of_own hW.2.2.row
        injection e with e1 e2 e3
        subst e1
        subst e3
        exact hashSumS _ _ _ js W ⟨h1, h2, h3, HJB.out⟩ (by omega) (HT.out.bel hW.2.2.bel))
      have eYY : ∀ W, (binOp .eql 31 (.agg Y.toArray) (.agg Y.toArray)).run Tryd.prog W = .ok (.bool true) W := fun W => by
        rw [← YV.out, eql_hs (sumOf _) (sumOf _) (len_hashOf _) (len_hashOf _) W, beq_self_eq_true]
      have eVV : ∀ W, (binOp .eql 31 (.agg V'.toArray) (.agg V'.toArray)).run Tryd.prog W = .ok (.bool true) W := fun W => by
        rw [← VV.out, eql_hs (sumOf _) (sumOf _) (len_hashOf _) (len_hashOf _) W, beq_self_eq_true]
      have uH := Tryd.underlying31
      have iY := YI.out
      have S11d := KEEP.out _ _ S11 (Bel.refl w11).drew
      clear hV' hjs hown hgrow row11 B11 LIT SLZ m1 m2 m1' m2' u1 u2 i1
      go_wp2_with fail
      refine wp_region_held_drew (S := fun W => W.rangeAt xb 0 Y ∧ W.rangeAt yb 0 Y ∧ Sw w W xb yb b1 (9 + a) (.slice Ab (9 + a) cb) zs js w10.heap.size) (by kernel_rfl) S11d (fun hS0 => ?_)
      refine wpAnyH_take (i := 0) (oi := { dst := some 92, op := .move (.tmp 5), type := 4, pos := "outright.go:82", after := #[], guard := none }) (v := .bool true) rfl (by kernel_rfl) (by kernel_rfl) (by kernel_rfl) (fun _ _ _ h => h) (Or.inl ⟨by rfl, by intro w hSw; clear hSw; go_simp⟩) hS0 ?_
      try simp only [Act.put, List.setIfInBounds_toArray, List.set_cons_zero, List.set_cons_succ]
      refine wpAnyH_take (i := 1) (oi := { dst := some 93, op := .move (.tmp 92), type := 4, pos := "outright.go:82", after := #[{ on := 0, ground := .data }], guard := none }) (v := .bool true) rfl (by kernel_rfl) (by kernel_rfl) (by kernel_rfl) (fun _ _ _ h => h) (Or.inl ⟨by rfl, by intro w hSw; clear hSw; go_simp⟩) hS0 ?_
      try simp only [Act.put, List.setIfInBounds_toArray, List.set_cons_zero, List.set_cons_succ]
      refine wpAnyH_take (i := 2) (oi := { dst := some 94, op := .move (.tmp 12), type := 32, pos := "outright.go:82", after := #[{ on := 1, ground := .guard }], guard := some (1, true) }) (v := .int .i64 0) rfl (by kernel_rfl) (by kernel_rfl) (by kernel_rfl) (fun _ _ _ h => h) (Or.inl ⟨by rfl, by intro w hSw; clear hSw; go_simp⟩) hS0 ?_
      try simp only [Act.put, List.setIfInBounds_toArray, List.set_cons_zero, List.set_cons_succ]
      refine wpAnyH_take (i := 3) (oi := { dst := some 95, op := .binOp .eql 32 (.tmp 94) (.const (Value.int IntKind.i64 0)) 32, type := 4, pos := "outright.go:82", after := #[{ on := 2, ground := .data }, { on := 1, ground := .guard }], guard := some (1, true) }) (v := .bool true) rfl (by kernel_rfl) (by kernel_rfl) (by kernel_rfl) (fun _ _ _ h => h) (Or.inl ⟨by rfl, by intro w hSw; clear hSw; go_simp⟩) hS0 ?_
      try simp only [Act.put, List.setIfInBounds_toArray, List.set_cons_zero, List.set_cons_succ]
      refine wpAnyH_take (i := 4) (oi := { dst := some 96, op := .pick (.tmp 93) (.tmp 95) (.const (Value.bool false)), type := 4, pos := "outright.go:82", after := #[{ on := 1, ground := .data }, { on := 3, ground := .data }], guard := none }) (v := .bool true) rfl (by kernel_rfl) (by kernel_rfl) (by kernel_rfl) (fun _ _ _ h => h) (Or.inl ⟨by rfl, by intro w hSw; clear hSw; go_simp⟩) hS0 ?_
      try simp only [Act.put, List.setIfInBounds_toArray, List.set_cons_zero, List.set_cons_succ]
      refine wpAnyH_take (i := 5) (oi := { dst := some 97, op := .move (.tmp 96), type := 4, pos := "outright.go:82", after := #[{ on := 4, ground := .data }, { on := 1, ground := .chain }], guard := none }) (v := .bool true) rfl (by kernel_rfl) (by kernel_rfl) (by kernel_rfl) (fun _ _ _ h => h) (Or.inl ⟨by rfl, by intro w hSw; clear hSw; go_simp⟩) hS0 ?_
      try simp only [Act.put, List.setIfInBounds_toArray, List.set_cons_zero, List.set_cons_succ]
      refine wpAnyH_take (i := 6) (oi := { dst := some 98, op := .move (.tmp 14), type := 32, pos := "outright.go:82", after := #[{ on := 5, ground := .guard }], guard := some (5, true) }) (v := .int .i64 0) rfl (by kernel_rfl) (by kernel_rfl) (by kernel_rfl) (fun _ _ _ h => h) (Or.inl ⟨by rfl, by intro w hSw; clear hSw; go_simp⟩) hS0 ?_
      try simp only [Act.put, List.setIfInBounds_toArray, List.set_cons_zero, List.set_cons_succ]
      refine wpAnyH_take (i := 7) (oi := { dst := some 99, op := .binOp .eql 32 (.tmp 98) (.const (Value.int IntKind.i64 0)) 32, type := 4, pos := "outright.go:82", after := #[{ on := 6, ground := .data }, { on := 5, ground := .guard }], guard := some (5, true) }) (v := .bool true) rfl (by kernel_rfl) (by kernel_rfl) (by kernel_rfl) (fun _ _ _ h => h) (Or.inl ⟨by rfl, by intro w hSw; clear hSw; go_simp⟩) hS0 ?_
      try simp only [Act.put, List.setIfInBounds_toArray, List.set_cons_zero, List.set_cons_succ]
      refine wpAnyH_take (i := 8) (oi := { dst := some 100, op := .pick (.tmp 97) (.tmp 99) (.const (Value.bool false)), type := 4, pos := "outright.go:82", after := #[{ on := 5, ground := .data }, { on := 7, ground := .data }], guard := none }) (v := .bool true) rfl (by kernel_rfl) (by kernel_rfl) (by kernel_rfl) (fun _ _ _ h => h) (Or.inl ⟨by rfl, by intro w hSw; clear hSw; go_simp⟩) hS0 ?_
      try simp only [Act.put, List.setIfInBounds_toArray, List.set_cons_zero, List.set_cons_succ]
      refine wpAnyH_take (i := 9) (oi := { dst := some 101, op := .move (.tmp 100), type := 4, pos := "outright.go:82", after := #[{ on := 8, ground := .data }, { on := 5, ground := .chain }], guard := none }) (v := .bool true) rfl (by kernel_rfl) (by kernel_rfl) (by kernel_rfl) (fun _ _ _ h => h) (Or.inl ⟨by rfl, by intro w hSw; clear hSw; go_simp⟩) hS0 ?_
      try simp only [Act.put, List.setIfInBounds_toArray, List.set_cons_zero, List.set_cons_succ]
      refine wpAnyH_take (i := 10) (oi := { dst := some 102, op := .load 31 (.tmp 11), type := 31, pos := "outright.go:82", after := #[{ on := 9, ground := .guard }], guard := some (9, true) }) (v := .agg Y.toArray) rfl (by kernel_rfl) (by kernel_rfl) (by kernel_rfl) (fun _ _ _ h => h) (yieldsIf_load_mid (by rfl) _ _ rfl _ _ rfl _ _ (fun w h => h.1) uH rfl iY) hS0 ?_
      try simp only [Act.put, List.setIfInBounds_toArray, List.set_cons_zero, List.set_cons_succ]
      refine wpAnyH_take (i := 11) (oi := { dst := some 103, op := .load 31 (.tmp 13), type := 31, pos := "outright.go:82", after := #[{ on := 9, ground := .guard }], guard := some (9, true) }) (v := .agg Y.toArray) rfl (by kernel_rfl) (by kernel_rfl) (by kernel_rfl) (fun _ _ _ h => h) (yieldsIf_load_mid (by rfl) _ _ rfl _ _ rfl _ _ (fun w h => h.2.1) uH rfl iY) hS0 ?_
      try simp only [Act.put, List.setIfInBounds_toArray, List.set_cons_zero, List.set_cons_succ]
      refine wpAnyH_take (i := 12) (oi := { dst := some 104, op := .binOp .eql 31 (.tmp 102) (.tmp 103) 31, type := 4, pos := "outright.go:82", after := #[{ on := 10, ground := .data }, { on := 11, ground := .data }, { on := 9, ground := .guard }], guard := some (9, true) }) (v := .bool true) rfl (by kernel_rfl) (by kernel_rfl) (by kernel_rfl) (fun _ _ _ h => h) (Or.inl ⟨by rfl, by intro w hSw; clear hSw; go_simp⟩) hS0 ?_
      try simp only [Act.put, List.setIfInBounds_toArray, List.set_cons_zero, List.set_cons_succ]
      refine wpAnyH_take (i := 13) (oi := { dst := some 105, op := .pick (.tmp 101) (.tmp 104) (.const (Value.bool false)), type := 4, pos := "outright.go:82", after := #[{ on := 9, ground := .data }, { on := 12, ground := .data }], guard := none }) (v := .bool true) rfl (by kernel_rfl) (by kernel_rfl) (by kernel_rfl) (fun _ _ _ h => h) (Or.inl ⟨by rfl, by intro w hSw; clear hSw; go_simp⟩) hS0 ?_
      try simp only [Act.put, List.setIfInBounds_toArray, List.set_cons_zero, List.set_cons_succ]
      refine wpAnyH_take (i := 14) (oi := { dst := some 106, op := .move (.tmp 105), type := 4, pos := "outright.go:82", after := #[{ on := 13, ground := .data }, { on := 9, ground := .chain }], guard := none }) (v := .bool true) rfl (by kernel_rfl) (by kernel_rfl) (by kernel_rfl) (fun _ _ _ h => h) (Or.inl ⟨by rfl, by intro w hSw; clear hSw; go_simp⟩) hS0 ?_
      try simp only [Act.put, List.setIfInBounds_toArray, List.set_cons_zero, List.set_cons_succ]
      refine wpAnyH_take (i := 15) (oi := { dst := some 107, op := .load 31 (.tmp 11), type := 31, pos := "outright.go:82", after := #[{ on := 14, ground := .guard }], guard := some (14, true) }) (v := .agg Y.toArray) rfl (by kernel_rfl) (by kernel_rfl) (by kernel_rfl) (fun _ _ _ h => h) (yieldsIf_load_mid (by rfl) _ _ rfl _ _ rfl _ _ (fun w h => h.1) uH rfl iY) hS0 ?_
      try simp only [Act.put, List.setIfInBounds_toArray, List.set_cons_zero, List.set_cons_succ]
      refine wpAnyH_take (i := 16) (oi := { dst := some 108, op := .move (.tmp 0), type := 22, pos := "outright.go:82", after := #[{ on := 14, ground := .guard }], guard := some (14, true) }) (v := .slice A a c) rfl (by kernel_rfl) (by kernel_rfl) (by kernel_rfl) (fun _ _ _ h => h) (Or.inl ⟨by rfl, by intro w hSw; clear hSw; go_simp⟩) hS0 ?_
      try simp only [Act.put, List.setIfInBounds_toArray, List.set_cons_zero, List.set_cons_succ]
      refine wpAnyH_ready (rs := [17]) (by kernel_rfl) (by simp) ?_
      refine AllReadyH.cons (o := { dst := some 109, op := .call { callee := .value (.func 17), args := #[.tmp 108], argTypes := #[22] }, type := 31, pos := "outright.go:82", after := #[{ on := 16, ground := .data }, { on := 14, ground := .chain }, { on := 14, ground := .guard }], guard := some (14, true) }) rfl (fun K hK => ?_) AllReadyH.nil
      go_simp
      refine (SB.out _ hS0).mono ?_
      rintro e v1 ⟨rfl, kk1⟩
      go_wp2_with fail
      refine hK.out _ _ (KEEP.out _ _ hS0 kk1) (fun hS1 => ?_)
      clear hK K
      try simp only [Act.put, List.setIfInBounds_toArray, List.set_cons_zero, List.set_cons_succ]
      refine wpAnyH_take (i := 18) (oi := { dst := some 110, op := .binOp .eql 31 (.tmp 107) (.tmp 109) 31, type := 4, pos := "outright.go:82", after := #[{ on := 15, ground := .data }, { on := 17, ground := .data }, { on := 14, ground := .guard }], guard := some (14, true) }) (v := .bool true) rfl (by kernel_rfl) (by kernel_rfl) (by kernel_rfl) (fun _ _ _ h => h) (Or.inl ⟨by rfl, by intro w hSw; clear hSw; go_simp⟩) hS1 ?_
      try simp only [Act.put, List.setIfInBounds_toArray, List.set_cons_zero, List.set_cons_succ]
      refine wpAnyH_take (i := 19) (oi := { dst := some 111, op := .pick (.tmp 106) (.tmp 110) (.const (Value.bool false)), type := 4, pos := "outright.go:82", after := #[{ on := 14, ground := .data }, { on := 18, ground := .data }], guard := none }) (v := .bool true) rfl (by kernel_rfl) (by kernel_rfl) (by kernel_rfl) (fun _ _ _ h => h) (Or.inl ⟨by rfl, by intro w hSw; clear hSw; go_simp⟩) hS1 ?_
      try simp only [Act.put, List.setIfInBounds_toArray, List.set_cons_zero, List.set_cons_succ]
      refine wpAnyH_take (i := 20) (oi := { dst := some 112, op := .move (.tmp 111), type := 4, pos := "outright.go:82", after := #[{ on := 19, ground := .data }, { on := 17, ground := .chain }], guard := none }) (v := .bool true) rfl (by kernel_rfl) (by kernel_rfl) (by kernel_rfl) (fun _ _ _ h => h) (Or.inl ⟨by rfl, by intro w hSw; clear hSw; go_simp⟩) hS1 ?_
      try simp only [Act.put, List.setIfInBounds_toArray, List.set_cons_zero, List.set_cons_succ]
      refine wpAnyH_take (i := 21) (oi := { dst := some 113, op := .move (.tmp 6), type := 43, pos := "outright.go:82", after := #[{ on := 20, ground := .guard }], guard := some (20, true) }) (v := .pointer (some ⟨b1, 0, none⟩)) rfl (by kernel_rfl) (by kernel_rfl) (by kernel_rfl) (fun _ _ _ h => h) (Or.inl ⟨by rfl, by intro w hSw; clear hSw; go_simp⟩) hS1 ?_
      try simp only [Act.put, List.setIfInBounds_toArray, List.set_cons_zero, List.set_cons_succ]
      refine wpAnyH_take (i := 23) (oi := { dst := some 115, op := .move (.tmp 0), type := 22, pos := "outright.go:82", after := #[{ on := 20, ground := .guard }], guard := some (20, true) }) (v := .slice A a c) rfl (by kernel_rfl) (by kernel_rfl) (by kernel_rfl) (fun _ _ _ h => h) (Or.inl ⟨by rfl, by intro w hSw; clear hSw; go_simp⟩) hS1 ?_
      try simp only [Act.put, List.setIfInBounds_toArray, List.set_cons_zero, List.set_cons_succ]
      refine wpAnyH_take (i := 24) (oi := { dst := some 116, op := .call { callee := .builtin .len, args := #[.tmp 115], argTypes := #[22] }, type := 3, pos := "outright.go:82", after := #[{ on := 23, ground := .data }, { on := 20, ground := .guard }], guard := some (20, true) }) (v := .int .i64 (a : Int)) rfl (by kernel_rfl) (by kernel_rfl) (by kernel_rfl) (fun _ _ _ h => h) (Or.inl ⟨by rfl, by intro w hSw; clear hSw; go_simp⟩) hS1 ?_
      try simp only [Act.put, List.setIfInBounds_toArray, List.set_cons_zero, List.set_cons_succ]
      refine wpAnyH_ready (rs := [22]) (by kernel_rfl) (by simp) ?_
      refine AllReadyH.cons (o := { dst := some 114, op := .call { callee := .value (.func 32), args := #[.tmp 113], argTypes := #[43] }, type := 3, pos := "outright.go:82", after := #[{ on := 21, ground := .data }, { on := 20, ground := .chain }, { on := 20, ground := .guard }], guard := some (20, true) }) rfl (fun K hK => ?_) AllReadyH.nil
      go_simp
      refine (LN.out _ hS1).mono ?_
      rintro e v2 ⟨rfl, rfl⟩
      go_wp2_with fail
      refine hK.out _ _ (hS1) (fun hS2 => ?_)
      clear hK K
      try simp only [Act.put, List.setIfInBounds_toArray, List.set_cons_zero, List.set_cons_succ]
      refine wpAnyH_take (i := 25) (oi := { dst := some 117, op := .binOp .eql 3 (.tmp 114) (.tmp 116) 3, type := 4, pos := "outright.go:82", after := #[{ on := 22, ground := .data }, { on := 24, ground := .data }, { on := 20, ground := .guard }], guard := some (20, true) }) (v := .bool true) rfl (by kernel_rfl) (by kernel_rfl) (by kernel_rfl) (fun _ _ _ h => h) (Or.inl ⟨by rfl, by intro w hSw; clear hSw; go_simp⟩) hS2 ?_
      try simp only [Act.put, List.setIfInBounds_toArray, List.set_cons_zero, List.set_cons_succ]
      refine wpAnyH_take (i := 26) (oi := { dst := some 118, op := .pick (.tmp 112) (.tmp 117) (.const (Value.bool false)), type := 4, pos := "outright.go:82", after := #[{ on := 20, ground := .data }, { on := 25, ground := .data }], guard := none }) (v := .bool true) rfl (by kernel_rfl) (by kernel_rfl) (by kernel_rfl) (fun _ _ _ h => h) (Or.inl ⟨by rfl, by intro w hSw; clear hSw; go_simp⟩) hS2 ?_
      try simp only [Act.put, List.setIfInBounds_toArray, List.set_cons_zero, List.set_cons_succ]
      refine wpAnyH_take (i := 27) (oi := { dst := some 119, op := .move (.tmp 118), type := 4, pos := "outright.go:82", after := #[{ on := 26, ground := .data }, { on := 22, ground := .chain }], guard := none }) (v := .bool true) rfl (by kernel_rfl) (by kernel_rfl) (by kernel_rfl) (fun _ _ _ h => h) (Or.inl ⟨by rfl, by intro w hSw; clear hSw; go_simp⟩) hS2 ?_
      try simp only [Act.put, List.setIfInBounds_toArray, List.set_cons_zero, List.set_cons_succ]
      refine wpAnyH_take (i := 28) (oi := { dst := some 120, op := .move (.tmp 0), type := 22, pos := "outright.go:82", after := #[{ on := 27, ground := .guard }], guard := some (27, true) }) (v := .slice A a c) rfl (by kernel_rfl) (by kernel_rfl) (by kernel_rfl) (fun _ _ _ h => h) (Or.inl ⟨by rfl, by intro w hSw; clear hSw; go_simp⟩) hS2 ?_
      try simp only [Act.put, List.setIfInBounds_toArray, List.set_cons_zero, List.set_cons_succ]
      refine wpAnyH_take (i := 31) (oi := { dst := some 123, op := .move (.tmp 15), type := 22, pos := "outright.go:82", after := #[{ on := 27, ground := .guard }], guard := some (27, true) }) (v := .slice Ab (9 + a) cb) rfl (by kernel_rfl) (by kernel_rfl) (by kernel_rfl) (fun _ _ _ h => h) (Or.inl ⟨by rfl, by intro w hSw; clear hSw; go_simp⟩) hS2 ?_
      try simp only [Act.put, List.setIfInBounds_toArray, List.set_cons_zero, List.set_cons_succ]
      refine wpAnyH_ready (rs := [29]) (by kernel_rfl) (by simp) ?_
      refine AllReadyH.cons (o := { dst := some 121, op := .buildSlice 23 1 #[(0, .tmp 120)], type := 23, pos := "outright.go:82", after := #[{ on := 28, ground := .data }, { on := 27, ground := .guard }], guard := some (27, true) }) rfl (fun K hK => ?_) AllReadyH.nil
      go_simp
      refine hK.out _ _ (KEEP.out _ _ hS2 ((Bel.refl _).alloc _)) (fun hS3 => ?_)
      clear hK K
      try simp only [Act.put, List.setIfInBounds_toArray, List.set_cons_zero, List.set_cons_succ]
      refine wpAnyH_ready (rs := [30]) (by kernel_rfl) (by simp) ?_
      refine AllReadyH.cons (o := { dst := some 122, op := .call { callee := .value (.func 18), args := #[.const (Value.int IntKind.u8 7), .tmp 121], argTypes := #[5, 23] }, type := 31, pos := "outright.go:82", after := #[{ on := 29, ground := .data }, { on := 27, ground := .chain }, { on := 27, ground := .guard }], guard := some (27, true) }) rfl (fun K hK => ?_) AllReadyH.nil
      go_simp
      refine (JN.out _ hS2).mono ?_
      rintro e v4 ⟨rfl, kk4⟩
      go_wp2_with fail
      refine hK.out _ _ (KEEP.out _ _ hS3 kk4) (fun hS4 => ?_)
      clear hK K
      try simp only [Act.put, List.setIfInBounds_toArray, List.set_cons_zero, List.set_cons_succ]
      refine wpAnyH_ready (rs := [32]) (by kernel_rfl) (by simp) ?_
      refine AllReadyH.cons (o := { dst := some 124, op := .call { callee := .value (.func 17), args := #[.tmp 123], argTypes := #[22] }, type := 31, pos := "outright.go:82", after := #[{ on := 31, ground := .data }, { on := 30, ground := .chain }, { on := 27, ground := .guard }], guard := some (27, true) }) rfl (fun K hK => ?_) AllReadyH.nil
      go_simp
      refine (SA.out _ hS4).mono ?_
      rintro e v5 ⟨rfl, kk5⟩
      go_wp2_with fail
      refine hK.out _ _ (KEEP.out _ _ hS4 kk5) (fun hS5 => ?_)
      clear hK K
      try simp only [Act.put, List.setIfInBounds_toArray, List.set_cons_zero, List.set_cons_succ]
      refine wpAnyH_take (i := 33) (oi := { dst := some 125, op := .binOp .eql 31 (.tmp 122) (.tmp 124) 31, type := 4, pos := "outright.go:82", after := #[{ on := 30, ground := .data }, { on := 32, ground := .data }, { on := 27, ground := .guard }], guard := some (27, true) }) (v := .bool true) rfl (by kernel_rfl) (by kernel_rfl) (by kernel_rfl) (fun _ _ _ h => h) (Or.inl ⟨by rfl, by intro w hSw; clear hSw; go_simp⟩) hS5 ?_
      try simp only [Act.put, List.setIfInBounds_toArray, List.set_cons_zero, List.set_cons_succ]
      refine wpAnyH_take (i := 34) (oi := { dst := some 126, op := .pick (.tmp 119) (.tmp 125) (.const (Value.bool false)), type := 4, pos := "outright.go:82", after := #[{ on := 27, ground := .data }, { on := 33, ground := .data }], guard := none }) (v := .bool true) rfl (by kernel_rfl) (by kernel_rfl) (by kernel_rfl) (fun _ _ _ h => h) (Or.inl ⟨by rfl, by intro w hSw; clear hSw; go_simp⟩) hS5 ?_
      try simp only [Act.put, List.setIfInBounds_toArray, List.set_cons_zero, List.set_cons_succ]
      refine wpAnyH_take (i := 35) (oi := { dst := some 4, op := .assign (.tmp 126), type := 4, pos := "outright.go:82", after := #[{ on := 34, ground := .data }, { on := 32, ground := .chain }, { on := 0, ground := .phase }, { on := 1, ground := .phase }, { on := 2, ground := .phase }, { on := 3, ground := .phase }, { on := 4, ground := .phase }, { on := 5, ground := .phase }, { on := 6, ground := .phase }, { on := 7, ground := .phase }, { on := 8, ground := .phase }, { on := 9, ground := .phase }, { on := 10, ground := .phase }, { on := 11, ground := .phase }, { on := 12, ground := .phase }, { on := 13, ground := .phase }, { on := 14, ground := .phase }, { on := 15, ground := .phase }, { on := 16, ground := .phase }, { on := 17, ground := .phase }, { on := 18, ground := .phase }, { on := 19, ground := .phase }, { on := 20, ground := .phase }, { on := 21, ground := .phase }, { on := 22, ground := .phase }, { on := 23, ground := .phase }, { on := 24, ground := .phase }, { on := 25, ground := .phase }, { on := 26, ground := .phase }, { on := 27, ground := .phase }, { on := 28, ground := .phase }, { on := 29, ground := .phase }, { on := 30, ground := .phase }, { on := 31, ground := .phase }, { on := 32, ground := .phase }, { on := 33, ground := .phase }, { on := 34, ground := .phase }], guard := none }) (v := .bool true) rfl (by kernel_rfl) (by kernel_rfl) (by kernel_rfl) (fun _ _ _ h => h) (Or.inl ⟨by rfl, by intro w hSw; clear hSw; go_simp⟩) hS5 ?_
      try simp only [Act.put, List.setIfInBounds_toArray, List.set_cons_zero, List.set_cons_succ]
      refine wpAnyH_done (by kernel_rfl) ?_ _
      go_wp2_with fail
      go_ret
      exact ⟨rfl, hS5.2.2.bel⟩
end Kk
end Go.Proofs.YtaniijpppmipbaaDoor
