/-
  What the reference's Parse answers of a text. Condition: the text has at most 10^9 bytes.
-/
import Derived.Test.YtpohcdfmkcfonaaGreatDoorPF
import Derived.Test.YtpohcdfmkcfonaaGreatDoorGPf3m
import Derived.Test.YtpohcdfmkcfonaaGreatDoorGPf6m
import Derived.Test.YtpohcdfmkcfonaaGreatDoorGPRd
import Derived.Test.YtpohcdfmkcfonaaGreatDoorGPPrs
namespace Go.Proofs.YtpohcdfmkcfonaaGreatDoor
open Go.RowKit Go.Shelf
set_option linter.unusedVariables false
namespace Pm
open Kk

/-- How far it is: PZ is what the whole answers. -/
structure Rp (PZ : (Nat → Int) × Int × Int) (i : Nat) (x : Nat → Int) (f : Nat) (l : List UInt8) : Prop where
  run : PZ = prs i x (pcs f l)
  len : l.length ≤ f
  le : i ≤ 11
  bnd : ∀ j, 0 ≤ x j ∧ x j ≤ 1000000000
  zero : ∀ j, i ≤ j → x j = 0
  ord : 2 ≤ i → x 1 ≤ x 0
theorem Rp.next {PZ : (Nat → Int) × Int × Int} {i : Nat} {x : Nat → Int} {f : Nat} {l : List UInt8} (h : Rp PZ i x f l) (hi11 : i < 11) {k : Nat} (hk : Lib.indexByte l 10 = (k : Int)) {n : Int} (hn : lnB i (l.take k) = some n) (ho : okB (lo i) (hi i) n = true) :
    (¬ (i = 1 ∧ x 0 < n) → ∃ g, Rp PZ (i + 1) (upd x i n) g (l.drop (k + 1))) ∧ (i = 1 ∧ x 0 < n → PZ = (zr, 9, (i : Int))) := by
  obtain ⟨g, hg, e⟩ := step_go x hi11 h.len hk hn ho
  have hlh := lohi i hi11
  have hb : lo i ≤ n ∧ n ≤ hi i := by unfold okB at ho; exact of_decide_eq_true ho
  refine ⟨fun hno => ?_, fun hy => ?_⟩
  · have hle : upd x i n 1 ≤ upd x i n 0 := by
      rcases Nat.lt_or_ge i 2 with hlt | hge
      · match i, hlt, hno, h, hb, hlh with
        | 0, _, _, h, hb, hlh => rw [upd_at, upd_other x n (by decide), h.zero 1 (by omega)]; omega
        | 1, _, hno, _, _, _ =>
          rw [upd_at, upd_other x n (by decide)]
          have : ¬ x 0 < n := fun hh => hno ⟨rfl, hh⟩
          omega
      · rw [upd_other x n (by omega), upd_other x n (by omega)]
        exact h.ord hge
    rw [if_pos hle] at e
    refine ⟨g, h.run.trans e, hg, by omega, fun j => ?_, fun j hj => by rw [upd_other x n (by omega)]; exact h.zero j (by omega), fun _ => hle⟩
    unfold upd
    split
    · omega
    · exact h.bnd j
  · obtain ⟨rfl, hlt⟩ := hy
    have ho2 : ¬ upd x 1 n 1 ≤ upd x 1 n 0 := by rw [upd_at, upd_other x n (by decide)]; omega
    rw [if_neg ho2] at e
    exact h.run.trans e

/-- The memory of the reference's Parse. -/
structure Pp7 (w : World) (r t : Nat) (L : Value) (i : Nat) (x : Nat → Int) (B : Nat) (W : World) : Prop where
  bel : Bel w W
  res : Blk W r (recC zr).toArray 24
  flt : Blk W t #[.int .i64 0, .int .i64 0] 34
  hr : w.heap.size ≤ r
  ht : w.heap.size ≤ t
  rt : r ≠ t
  lt : r < B ∧ t < B
  row : W.ownsRow B 3 1 L i ((sofar x i).map (Value.int .i64))
  base : B ≤ W.heap.size
theorem Pp7.up {w W V : World} {r t : Nat} {L : Value} {i : Nat} {x : Nat → Int} {B : Nat} (h : Pp7 w r t L i x B W) (hk : Bel W V) : Pp7 w r t L i x B V :=
  ⟨h.bel.trans hk, h.res.bel hk, h.flt.bel hk, h.hr, h.ht, h.rt, h.lt, owns_bel h.row hk, Nat.le_trans h.base (Below.size hk)⟩
theorem Pp7.grow {w W V : World} {r t : Nat} {L L' : Value} {i : Nat} {x y : Nat → Int} {B : Nat} (h : Pp7 w r t L i x B W) (hg : W.grownBy V L.ownBlock) (ho : V.ownsRow B 3 1 L' (i + 1) ((sofar y (i + 1)).map (Value.int .i64))) (hw : w.heap.size ≤ B) : Pp7 w r t L' (i + 1) y B V := by
  have hk : Kep (fun j => L.ownBlock = some j) W V := (Kep.refl _ W).grown hg (fun j hj _ => hj)
  have hB : ∀ j, L.ownBlock = some j → B ≤ j := fun j hj => (h.row.lt j hj).1
  exact ⟨Kep.bel h.bel hk (fun j hj => Nat.le_trans hw (hB j hj)), h.res.kep hk (fun e => by have := hB r e; have := h.lt.1; omega), h.flt.kep hk (fun e => by have := hB t e; have := h.lt.2; omega), h.hr, h.ht, h.rt, h.lt, ho, Nat.le_trans h.base hk.size⟩
/-- The two results are stored. -/
theorem Pp7.two {w W : World} {r t : Nat} {L : Value} {i : Nat} {x : Nat → Int} {B : Nat} (h : Pp7 w r t L i x B W) (z : Nat → Int) (e p : Int) :
    W.there r 0 (recC z).toArray.size ∧ (W.setCells r 0 (recC z)).there t 0 2 ∧ Blk ((W.setCells r 0 (recC z)).setCells t 0 [.int .i64 e, .int .i64 p]) r (recC z).toArray 24 ∧
    Blk ((W.setCells r 0 (recC z)).setCells t 0 [.int .i64 e, .int .i64 p]) t [Value.int .i64 e, .int .i64 p].toArray 34 ∧ Bel w ((W.setCells r 0 (recC z)).setCells t 0 [.int .i64 e, .int .i64 p]) := by
  obtain ⟨t1, t2⟩ := store_rec (z := z) h.res
  have s := h.flt.kep (kep_setCells r (recC z) 0 W) (fun e => h.rt e.symm)
  exact ⟨t1, bthere s 0 2 (Nat.le_refl _), t2.kep (kep_setCells t _ 0 _) h.rt, bwhole s rfl, bel_setCells (bel_setCells h.bel h.hr 0 _) h.ht 0 _⟩

set_option maxRecDepth 100000 in
set_option maxHeartbeats 8000000 in
theorem parseR (s : ByteArray) (hs : s.size ≤ 1000000000) (w : World) : Calls Tryz.prog 11 #[.string s] w (PrsE s w) := by
  obtain ⟨PZ, hPZ⟩ : ∃ PZ, prs 0 zr (pcs s.data.toList.length s.data.toList) = PZ := ⟨_, rfl⟩
  have HPZ := Lib.hid hPZ
  have R0 := Lib.hid (show Rp PZ 0 zr s.data.toList.length s.data.toList from ⟨hPZ.symm, Nat.le_refl _, by omega, fun j => ⟨Int.le_refl 0, by show (0 : Int) ≤ 1000000000; decide⟩, fun j _ => rfl, fun h => by omega⟩)
  have HS := Lib.hid hs
  obtain ⟨Z, hZ⟩ : ∃ Z, Z = recC zr := ⟨_, rfl⟩
  have HZA := Lib.hid (show Z.toArray = #[.int .i64 0, .int .i64 0, .int .i64 0, .int .i64 0, .int .i64 0, .int .i64 0, .int .i64 0, .int .u64 0, .int .u64 0, .int .i64 0, .int .u64 0] by rw [hZ]; rfl)
  have HZI := Lib.hid (show (Tryz.prog.info? 24).map (·.size) = some Z.length by rw [hZ]; exact info_rec)
  have HZI2 := Lib.hid (show (Tryz.prog.info? 24).map (·.size) = some Z.toArray.size by rw [hZ]; exact info_rec)
  have HZO := Lib.hid (all_oneCell_toArray (cs := Z) (by rw [hZ]; exact recC_cells _))
  have HZ2 := Lib.hid hZ
  obtain ⟨W, hW⟩ : ∃ W, (w.alloc (.cells #[.int .i64 0, .int .i64 0, .int .i64 0, .int .i64 0, .int .i64 0, .int .i64 0, .int .i64 0, .int .u64 0, .int .u64 0, .int .i64 0, .int .u64 0] 24)).alloc (.cells #[.int .i64 0, .int .i64 0] 34) = W := ⟨_, rfl⟩
  have r0 : Blk W w.heap.size (recC zr).toArray 24 := by rw [← hW]; exact (Blk.new w _ _).alloc _
  have t0 : Blk W (w.heap.size + 1) #[.int .i64 0, .int .i64 0] 34 := by rw [← hW]; exact blk_at (by simp) rfl
  have BW := Lib.hid (show Bel w W by rw [← hW]; exact ((Bel.refl w).alloc _).alloc _)
  obtain ⟨r, hr⟩ : ∃ r, w.heap.size = r := ⟨_, rfl⟩
  obtain ⟨t, ht⟩ : ∃ t, r + 1 = t := ⟨_, rfl⟩
  obtain ⟨B, hB⟩ : ∃ B, W.heap.size = B := ⟨_, rfl⟩
  rw [hr] at r0
  rw [hr, ht] at t0
  have M0 := Lib.hid (show Pp7 w r t (.slice none 0 0) 0 zr B W from ⟨BW.out, r0, t0, by omega, by omega, by omega, ⟨by rw [← hB]; exact r0.lt, by rw [← hB]; exact t0.lt⟩, World.ownsRow_nil _ _ _ _, by omega⟩)
  have HwB := Lib.hid (show w.heap.size ≤ B by rw [← hB]; exact Below.size BW.out)
  have HR := Lib.hid hr
  have HT := Lib.hid ht
  have HW := Lib.hid hW
  clear hs hW r0 t0 hr ht hB hZ hPZ
  go_enter Tryz.func11, Tryz.ntmps11
  go_upto_region 1 with fail
  rw [HW.out, HR.out, HT.out]
  go_wp2_with fail
  go_loopw [0, 4, 5] (fun s0 s4 s5 wx => ∃ (i : Nat) (x : Nat → Int) (q : ByteArray) (f : Nat), s0 = .string q ∧ s5 = .int .i64 i ∧ i ≤ 11 ∧ q.size ≤ 1000000000 ∧ Hid (Rp PZ i x f q.data.toList ∧ Pp7 w r t s4 i x B wx)) (fun _ _ s5 _ => 11 - (intOf s5).toNat)
  case atStart => exact ⟨0, zr, s, _, rfl, rfl, by omega, HS.out, Lib.hid ⟨R0.out, M0.out⟩⟩
  case round =>
    obtain ⟨i, x, q, f, rfl, rfl, hi11, hqs, hh⟩ := hrel
    have hlen : q.data.toList.length = q.size := by rw [Array.length_toList]; rfl
    have HLEN := Lib.hid hlen
    clear hlen
    by_cases hlt : i < 11
    · have hlt2 : (i : Int) < 11 := by omega
      have HLT := Lib.hid hlt
      obtain ⟨a, ha⟩ : ∃ a, Lib.indexByte q.data.toList 10 = a := ⟨_, rfl⟩
      have FD := Lib.hid (fun V => show Calls Tryz.prog 32 #[.string q] V fun e w' => e = .returned (.int .i64 a) ∧ V = w' by rw [← ha]; exact feed q hqs V)
      have HA := Lib.hid ha
      by_cases ha0 : a < 0
      · clear ha
        go_upto_region 6 with fail
        refine (FD.out _).mono ?_
        rintro e v1 ⟨rfl, rfl⟩
        have HRN := Lib.hid (show PZ = (zr, 6, ((i : Int))) from hh.out.1.run.trans (step_short x HLT.out (by rw [HA.out]; exact ha0)))
        obtain ⟨t1, t2, t3, t4, t5⟩ := hh.out.2.two zr 6 ((i : Int))
        rw [← HZ2.out] at t1 t2 t3 t4 t5
        have T1 := Lib.hid t1
        have T3 := Lib.hid t2
        have F1 := Lib.hid t3
        have F2 := Lib.hid t4
        have F3 := Lib.hid t5
        clear t1 t2 t3 t4 t5
        go_wp2_with (first | (refine wpList_store_mid rfl 24 (.tmp 2) (.tmp 17) rfl r 0 Z.toArray rfl (by rw [HZA.out]; rfl) T1.out HZI2.out HZO.out ?_) | (refine wpList_store_mid rfl 34 (.tmp 3) (.tmp 19) rfl t 0 #[.int .i64 6, .int .i64 ((i : Int))] rfl rfl T3.out rd_flt (rd_two _ _) ?_))
        refine bodyPost_ret (res_cc Tryz.results11 _ _ ⟨r, 0, none⟩ ⟨t, 0, none⟩ (.agg Z.toArray) (.agg #[.int .i64 6, .int .i64 ((i : Int))]) rfl rfl (load_b F1.out Tryz.underlying24 rfl HZI.out) (load_b F2.out Tryz.underlying34 rfl rd_flt)) rfl ⟨zr, 6, (i : Int), by rw [HZ2.out], by rw [HPZ.out]; exact HRN.out, F3.out⟩
      · obtain ⟨k, rfl⟩ : ∃ k : Nat, a = (k : Int) := ⟨a.toNat, by omega⟩
        have hks : k < q.size := by
          have h1 := (Lib.indexByte_some ha).1
          have := (List.getElem?_eq_some_iff.1 h1).1
          rw [HLEN.out] at this
          exact this
        have HKS := Lib.hid hks
        have hk1 : (k : Int) < q.size := by omega
        have hk2 : (k : Int) + 1 ≤ q.size := by omega
        have hq1 : (q.size : Int) ≤ 1000000000 := by omega
        have ET : (q.extract 0 k).data.toList = q.data.toList.take k := by
          rw [ByteArray.data_extract, Array.toList_extract]
          simp
        have ED := Lib.hid (show (q.extract (k + 1) q.size).data.toList = q.data.toList.drop (k + 1) by
          rw [ByteArray.data_extract, Array.toList_extract, List.extract_eq_take_drop, List.take_of_length_le (by rw [List.length_drop, HLEN.out]; exact Nat.le_refl _)])
        have ES := Lib.hid (show (q.extract (k + 1) q.size).size ≤ 1000000000 by rw [ByteArray.size_extract]; omega)
        obtain ⟨o, ho⟩ : ∃ o, lnB i (q.data.toList.take k) = o := ⟨_, rfl⟩
        have HO := Lib.hid ho
        have LN := Lib.hid (fun V => show Calls Tryz.prog 33 #[.int .i64 (i : Int), .string (q.extract 0 k)] V fun e w' => e = .returned (.tuple #[.int .i64 (o.getD 0), .bool o.isSome]) ∧ Bel V w' by
          have h := lineR i HLT.out (q.extract 0 k) (by rw [ByteArray.size_extract]; omega) V
          rw [ET, ho] at h
          exact h)
        clear ha ha0 ET ho hks
        go_upto_region 6 with fail
        refine (FD.out _).mono ?_
        rintro e v1 ⟨rfl, rfl⟩
        cases o with
        | none =>
          have LN2 := Lib.hid (fun V => show Calls Tryz.prog 33 #[.int .i64 (i : Int), .string (q.extract 0 k)] V fun e w' => e = .returned (.tuple #[.int .i64 0, .bool false]) ∧ Bel V w' from LN.out V)
          go_upto_region 9 with fail
          refine (LN2.out _).mono ?_
          rintro e v2 ⟨rfl, k2⟩
          have M2 := Lib.hid (hh.out.2.up k2)
          clear k2
          have HRN := Lib.hid (show PZ = (zr, 5, ((i : Int))) from hh.out.1.run.trans (step_form x HLT.out hh.out.1.len HA.out HO.out))
          obtain ⟨t1, t2, t3, t4, t5⟩ := M2.out.two zr 5 ((i : Int))
          rw [← HZ2.out] at t1 t2 t3 t4 t5
          have T1 := Lib.hid t1
          have T3 := Lib.hid t2
          have F1 := Lib.hid t3
          have F2 := Lib.hid t4
          have F3 := Lib.hid t5
          clear t1 t2 t3 t4 t5
          go_wp2_with (first | (refine wpList_store_mid rfl 24 (.tmp 2) (.tmp 35) rfl r 0 Z.toArray rfl (by rw [HZA.out]; rfl) T1.out HZI2.out HZO.out ?_) | (refine wpList_store_mid rfl 34 (.tmp 3) (.tmp 37) rfl t 0 #[.int .i64 5, .int .i64 ((i : Int))] rfl rfl T3.out rd_flt (rd_two _ _) ?_))
          refine bodyPost_ret (res_cc Tryz.results11 _ _ ⟨r, 0, none⟩ ⟨t, 0, none⟩ (.agg Z.toArray) (.agg #[.int .i64 5, .int .i64 ((i : Int))]) rfl rfl (load_b F1.out Tryz.underlying24 rfl HZI.out) (load_b F2.out Tryz.underlying34 rfl rd_flt)) rfl ⟨zr, 5, (i : Int), by rw [HZ2.out], by rw [HPZ.out]; exact HRN.out, F3.out⟩
        | some n =>
          have LN2 := Lib.hid (fun V => show Calls Tryz.prog 33 #[.int .i64 (i : Int), .string (q.extract 0 k)] V fun e w' => e = .returned (.tuple #[.int .i64 n, .bool true]) ∧ Bel V w' from LN.out V)
          obtain ⟨b, hb⟩ : ∃ b, okB (lo i) (hi i) n = b := ⟨_, rfl⟩
          have HB2 := Lib.hid hb
          have WI := Lib.hid (fun V => show Calls Tryz.prog 34 #[.int .i64 (i : Int), .int .i64 n] V fun e w' => e = .returned (.bool b) ∧ Bel V w' by rw [← hb]; exact within i HLT.out n V)
          clear hb
          go_upto_region 9 with fail
          refine (LN2.out _).mono ?_
          rintro e v2 ⟨rfl, k2⟩
          have M2 := Lib.hid (hh.out.2.up k2)
          clear k2
          go_upto_region 13 with fail
          refine (WI.out _).mono ?_
          rintro e v3 ⟨rfl, k3⟩
          have M3 := Lib.hid (M2.out.up k3)
          clear k3
          cases b with
          | false =>
            have HRN := Lib.hid (show PZ = (zr, 3, ((i : Int))) from hh.out.1.run.trans (step_range x HLT.out hh.out.1.len HA.out HO.out HB2.out))
            obtain ⟨t1, t2, t3, t4, t5⟩ := M3.out.two zr 3 ((i : Int))
            rw [← HZ2.out] at t1 t2 t3 t4 t5
            have T1 := Lib.hid t1
            have T3 := Lib.hid t2
            have F1 := Lib.hid t3
            have F2 := Lib.hid t4
            have F3 := Lib.hid t5
            clear t1 t2 t3 t4 t5
            go_wp2_with (first | (refine wpList_store_mid rfl 24 (.tmp 2) (.tmp 43) rfl r 0 Z.toArray rfl (by rw [HZA.out]; rfl) T1.out HZI2.out HZO.out ?_) | (refine wpList_store_mid rfl 34 (.tmp 3) (.tmp 45) rfl t 0 #[.int .i64 3, .int .i64 ((i : Int))] rfl rfl T3.out rd_flt (rd_two _ _) ?_))
            refine bodyPost_ret (res_cc Tryz.results11 _ _ ⟨r, 0, none⟩ ⟨t, 0, none⟩ (.agg Z.toArray) (.agg #[.int .i64 3, .int .i64 ((i : Int))]) rfl rfl (load_b F1.out Tryz.underlying24 rfl HZI.out) (load_b F2.out Tryz.underlying34 rfl rd_flt)) rfl ⟨zr, 3, (i : Int), by rw [HZ2.out], by rw [HPZ.out]; exact HRN.out, F3.out⟩
          | true =>
            have NXT := Lib.hid (hh.out.1.next HLT.out HA.out HO.out HB2.out)
            obtain ⟨AL, cL, hL, hI, _, _⟩ := ints_of_own M3.out.row
            subst hL
            by_cases h1 : i = 1
            · obtain ⟨g, o, hAL, _, c0⟩ := hI.cell (i := 0) (by omega)
              rw [sofar_at x (by omega), Nat.add_zero] at c0
              subst hAL
              subst h1
              by_cases h2 : x 0 < n
              · have NX := Lib.hid (NXT.out.2 ⟨rfl, h2⟩)
                obtain ⟨X0, hX0⟩ : ∃ X, x 0 = X := ⟨_, rfl⟩
                rw [hX0] at c0 h2
                clear hX0 hI
                have HRN := Lib.hid (show PZ = (zr, 9, (1)) from NX.out)
                obtain ⟨t1, t2, t3, t4, t5⟩ := M3.out.two zr 9 (1)
                rw [← HZ2.out] at t1 t2 t3 t4 t5
                have T1 := Lib.hid t1
                have T3 := Lib.hid t2
                have F1 := Lib.hid t3
                have F2 := Lib.hid t4
                have F3 := Lib.hid t5
                clear t1 t2 t3 t4 t5
                go_wp2_with (first | (refine wpList_store_mid rfl 24 (.tmp 2) (.tmp 56) rfl r 0 Z.toArray rfl (by rw [HZA.out]; rfl) T1.out HZI2.out HZO.out ?_) | (refine wpList_store_mid rfl 34 (.tmp 3) (.tmp 58) rfl t 0 #[.int .i64 9, .int .i64 (1)] rfl rfl T3.out rd_flt (rd_two _ _) ?_))
                refine bodyPost_ret (res_cc Tryz.results11 _ _ ⟨r, 0, none⟩ ⟨t, 0, none⟩ (.agg Z.toArray) (.agg #[.int .i64 9, .int .i64 (1)]) rfl rfl (load_b F1.out Tryz.underlying24 rfl HZI.out) (load_b F2.out Tryz.underlying34 rfl rd_flt)) rfl ⟨zr, 9, 1, by rw [HZ2.out], by rw [HPZ.out]; exact HRN.out, F3.out⟩
              · have NX := Lib.hid (NXT.out.1 (fun h => h2 h.2))
                obtain ⟨X0, hX0⟩ : ∃ X, x 0 = X := ⟨_, rfl⟩
                rw [hX0] at c0 h2
                clear hX0 hI
                have MA := Lib.hid (M3.out.up ((Bel.refl v3).alloc (.cells #[.int .i64 n] 3)))
                have cv : (World.alloc v3 (.cells #[.int .i64 n] 3)).cell? ⟨(World.heap v3).size, 0, none⟩ = some (.int .i64 n) := (Blk.new v3 _ _).cell 0 rfl
                go_wp2_with (at_builtin; refine wpList_append_int rfl _ _ rfl B _ 1 (sofar x 1) rfl MA.out.row ⟨(World.heap v3).size, 0, none⟩ n rfl cv (by omega) MA.out.base ?_; intro v' w9 hown hgrow)
                obtain ⟨g2, hg2⟩ := NX.out
                exact ⟨⟨1 + 1, upd x 1 n, q.extract (k + 1) q.size, g2, rfl, by go_num, by omega, ES.out, Lib.hid ⟨by rw [ED.out]; exact hg2, MA.out.grow hgrow (by rw [sofar_next]; exact hown) HwB.out⟩⟩, by simp [intOf] <;> omega⟩
            · have e1 : ((i : Int) == 1) = false := beq_eq_false_iff_ne.2 (by omega)
              have NX := Lib.hid (NXT.out.1 (fun h => h1 h.1))
              clear h1 hI
              have MA := Lib.hid (M3.out.up ((Bel.refl v3).alloc (.cells #[.int .i64 n] 3)))
              have cv : (World.alloc v3 (.cells #[.int .i64 n] 3)).cell? ⟨(World.heap v3).size, 0, none⟩ = some (.int .i64 n) := (Blk.new v3 _ _).cell 0 rfl
              go_wp2_with (at_builtin; refine wpList_append_int rfl _ _ rfl B _ i (sofar x i) rfl MA.out.row ⟨(World.heap v3).size, 0, none⟩ n rfl cv (by omega) MA.out.base ?_; intro v' w9 hown hgrow)
              obtain ⟨g2, hg2⟩ := NX.out
              exact ⟨⟨i + 1, upd x i n, q.extract (k + 1) q.size, g2, rfl, by go_num, by omega, ES.out, Lib.hid ⟨by rw [ED.out]; exact hg2, MA.out.grow hgrow (by rw [sofar_next]; exact hown) HwB.out⟩⟩, by simp [intOf] <;> omega⟩
    · obtain rfl : i = 11 := by omega
      have HEND := Lib.hid (hh.out.1.run.trans (step_end x))
      have hbnd := hh.out.1.bnd
      have M2 := Lib.hid hh.out.2
      by_cases hz : q.size = 0
      · have hz2 : ¬ (0 : Int) < q.size := by omega
        have HRN := Lib.hid (show PZ = (x, 0, 0) by rw [HEND.out, if_pos (by rw [HLEN.out, hz])])
        obtain ⟨E, hE⟩ : ∃ E, E = recC x := ⟨_, rfl⟩
        have HE := Lib.hid hE
        have EI := Lib.hid (show (Tryz.prog.info? 24).map (·.size) = some E.length by rw [hE]; exact info_rec)
        have EI2 := Lib.hid (show (Tryz.prog.info? 24).map (·.size) = some E.toArray.size by rw [hE]; exact info_rec)
        have EO := Lib.hid (all_oneCell_toArray (cs := E) (by rw [hE]; exact recC_cells _))
        have RO := Lib.hid (show Calls Tryz.prog 35 #[u4] wr fun e w' => e = .returned (.agg E.toArray) ∧ Bel wr w' by
          have h := recordO B u4 x (fun j _ => ⟨(hbnd j).1, by have := (hbnd j).2; omega⟩) wr M2.out.row
          rw [hE]
          exact h)
        clear hE hz hbnd
        go_wp2_with fail
        refine RO.out.mono ?_
        rintro e v1 ⟨rfl, kb⟩
        have M3 := Lib.hid (M2.out.up kb)
        obtain ⟨t1, t2, t3, t4, t5⟩ := M3.out.two x 0 0
        rw [← HE.out] at t1 t2 t3 t4 t5
        have T1 := Lib.hid t1
        have T3 := Lib.hid t2
        have F1 := Lib.hid t3
        have F2 := Lib.hid t4
        have F3 := Lib.hid t5
        clear t1 t2 t3 t4 t5 kb
        go_wp2_with (first | (refine wpList_store_mid rfl 24 (.tmp 2) (.tmp 69) rfl r 0 E.toArray rfl rfl T1.out EI2.out EO.out ?_) | (refine wpList_store_mid rfl 34 (.tmp 3) (.tmp 70) rfl t 0 #[.int .i64 0, .int .i64 0] rfl rfl T3.out rd_flt (rd_two _ _) ?_))
        refine bodyPost_ret (res_cc Tryz.results11 _ _ ⟨r, 0, none⟩ ⟨t, 0, none⟩ (.agg E.toArray) (.agg #[.int .i64 0, .int .i64 0]) rfl rfl (load_b F1.out Tryz.underlying24 rfl EI.out) (load_b F2.out Tryz.underlying34 rfl rd_flt)) rfl ⟨x, 0, 0, by rw [HE.out], by rw [HPZ.out]; exact HRN.out, F3.out⟩
      · have hz2 : (0 : Int) < q.size := by omega
        have HNZ := Lib.hid hz
        clear hz hbnd
        have HRN := Lib.hid (show PZ = (zr, 4, (11)) from by rw [HEND.out, if_neg (by rw [HLEN.out]; exact HNZ.out)])
        obtain ⟨t1, t2, t3, t4, t5⟩ := M2.out.two zr 4 (11)
        rw [← HZ2.out] at t1 t2 t3 t4 t5
        have T1 := Lib.hid t1
        have T3 := Lib.hid t2
        have F1 := Lib.hid t3
        have F2 := Lib.hid t4
        have F3 := Lib.hid t5
        clear t1 t2 t3 t4 t5
        go_wp2_with (first | (refine wpList_store_mid rfl 24 (.tmp 2) (.tmp 66) rfl r 0 Z.toArray rfl (by rw [HZA.out]; rfl) T1.out HZI2.out HZO.out ?_) | (refine wpList_store_mid rfl 34 (.tmp 3) (.tmp 67) rfl t 0 #[.int .i64 4, .int .i64 (11)] rfl rfl T3.out rd_flt (rd_two _ _) ?_))
        refine bodyPost_ret (res_cc Tryz.results11 _ _ ⟨r, 0, none⟩ ⟨t, 0, none⟩ (.agg Z.toArray) (.agg #[.int .i64 4, .int .i64 (11)]) rfl rfl (load_b F1.out Tryz.underlying24 rfl HZI.out) (load_b F2.out Tryz.underlying34 rfl rd_flt)) rfl ⟨zr, 4, 11, by rw [HZ2.out], by rw [HPZ.out]; exact HRN.out, F3.out⟩
end Pm
end Go.Proofs.YtpohcdfmkcfonaaGreatDoor
