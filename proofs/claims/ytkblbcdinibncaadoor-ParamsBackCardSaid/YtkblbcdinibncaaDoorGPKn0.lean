/-
  What the statements' parses and reads answer: the fault. Conditions: a text of at most 10^9 bytes; at most 10^6 bytes.
-/
import Derived.Test.YtkblbcdinibncaaDoorGPRd
import Derived.Test.YtkblbcdinibncaaDoorGPPrs
namespace Go.Proofs.YtkblbcdinibncaaDoor
open Go.RowKit Go.Shelf
set_option linter.unusedVariables false
namespace Pm
open Kk

abbrev ZP : Obj := .cells #[.int .i64 0, .int .i64 0, .int .i64 0, .int .i64 0, .int .i64 0, .int .i64 0, .int .i64 0, .int .u64 0, .int .u64 0, .int .i64 0, .int .u64 0] 26
abbrev ZT : Obj := .cells #[.int .i64 0, .int .i64 0] 47
set_option maxRecDepth 100000 in
set_option maxHeartbeats 4000000 in
theorem readsT (A : Option Addr) (n c : Nat) (zs : List Int) (w : World) (hz : Cd.Sl w A n c zs) (hn : n ≤ 1000000) (hb : Cd.Bytes zs) (xe : Nat → Int) (ke : Nat) (fe : Option (Int × Int)) (hT : To zs xe ke fe 11 zr 0 none) (a b : Int) (hab : Cd.endOf zs.length ke fe = (a, b)) (ha : a ≠ 0) :
    Calls Tryd.prog 21 #[.slice A n c] w fun e w' => e = .returned (.agg #[.int .i64 a, .int .i64 b]) ∧ Bel w w' := by
  have RD := Lib.hid (readP A n c zs (w.alloc ZT) (hz.bel ((Bel.refl w).alloc _)) hn hb xe ke fe hT)
  unfold ReadE at RD
  rw [hab] at RD
  obtain ⟨E, hE⟩ : ∃ E, recC (if a = 0 then xe else zr) = E := ⟨_, rfl⟩
  have HEl := Lib.hid (show E.length = 11 by rw [← hE]; rfl)
  have EI2 := Lib.hid (show (Tryd.prog.info? 26).map (·.size) = some E.toArray.size by rw [List.size_toArray, HEl.out]; exact info_rec)
  have EO := Lib.hid (all_oneCell_toArray (cs := E) (by rw [← hE]; exact recC_cells _))
  have HA := Lib.hid ha
  rw [show (if (a, b).1 = 0 then xe else zr) = (if a = 0 then xe else zr) from rfl, hE, show (if (a, b).1 = 0 then (0 : Int) else (a, b).1) = a from if_neg ha, show (if (a, b).1 = 0 then (0 : Int) else (a, b).2) = b from if_neg ha] at RD
  clear hz hn hb hT hab hE ha
  go_enter Tryd.func21, Tryd.ntmps21
  go_upto_region 1 with fail
  go_wp2_with fail
  refine RD.out.mono ?_
  rintro e w1 ⟨rfl, k1⟩
  have K1 := Lib.hid (show Blk w1 w.heap.size #[.int .i64 0, .int .i64 0] 47 from (Blk.new w _ _).bel k1)
  have B1 := Lib.hid (show Bel w w1 from ((Bel.refl w).alloc _).trans k1)
  have HRL := Lib.hid (show w.heap.size ≠ w1.heap.size ∧ w.heap.size ≠ w1.heap.size + 1 by have := K1.out.lt; exact ⟨by omega, by omega⟩)
  have Q0 := Lib.hid (show Blk ((w1.alloc ZP).alloc ZT) w1.heap.size #[.int .i64 0, .int .i64 0, .int .i64 0, .int .i64 0, .int .i64 0, .int .i64 0, .int .i64 0, .int .u64 0, .int .u64 0, .int .i64 0, .int .u64 0] 26 from (Blk.new w1 _ _).alloc _)
  have Q1 := Lib.hid (show Blk ((w1.alloc ZP).alloc ZT) (w1.heap.size + 1) #[.int .i64 0, .int .i64 0] 47 by have h := Blk.new (w1.alloc ZP) #[.int .i64 0, .int .i64 0] 47; rw [World.size_alloc] at h; exact h)
  have T1 := Lib.hid (bthere Q0.out 0 E.toArray.size (by rw [List.size_toArray, HEl.out]; exact Nat.le_refl _))
  have Q2 := Lib.hid (Q1.out.kep (kep_setCells w1.heap.size E 0 _) (by omega))
  have T2 := Lib.hid (bthere Q2.out 0 2 (Nat.le_refl _))
  have Q3 := Lib.hid (bwhole (vs := [.int .i64 a, .int .i64 b]) Q2.out rfl)
  have RG := Lib.hid (rngB Q3.out)
  have K2 := Lib.hid (((K1.out.bel (((Bel.refl w1).alloc ZP).alloc ZT)).kep (kep_setCells w1.heap.size E 0 _) HRL.out.1).kep (kep_setCells (w1.heap.size + 1) [.int .i64 a, .int .i64 b] 0 _) HRL.out.2)
  have T3 := Lib.hid (bthere K2.out 0 2 (Nat.le_refl _))
  have F := Lib.hid (bwhole (vs := [.int .i64 a, .int .i64 b]) K2.out rfl)
  clear k1
  go_wp2_with (first | (refine wpList_store_mid rfl 26 (.tmp 3) (.tmp 8) rfl w1.heap.size 0 E.toArray rfl rfl T1.out EI2.out EO.out ?_) | (refine wpList_store_mid rfl 47 (.tmp 4) (.tmp 9) rfl (w1.heap.size + 1) 0 #[.int .i64 a, .int .i64 b] rfl rfl T2.out rd_flt (rd_two _ _) ?_) | (refine wpList_load_mid rfl 47 (.tmp 4) rfl (w1.heap.size + 1) 0 rfl [.int .i64 a, .int .i64 b] _ RG.out Tryd.underlying47 rfl rd_flt ?_) | (refine wpList_store_mid rfl 47 (.tmp 2) (.tmp 10) rfl w.heap.size 0 #[.int .i64 a, .int .i64 b] rfl rfl T3.out rd_flt (rd_two _ _) ?_))
  refine bodyPost_ret (res_c Tryd.results21 _ _ ⟨w.heap.size, 0, none⟩ (.agg #[.int .i64 a, .int .i64 b]) rfl (load_b F.out Tryd.underlying47 rfl rd_flt)) rfl ⟨rfl, bel_setCells (bel_setCells (bel_setCells ((B1.out.alloc ZP).alloc ZT) (Nat.le_of_lt K1.out.lt) 0 E) (Nat.le_succ_of_le (Nat.le_of_lt K1.out.lt)) 0 _) (Nat.le_refl _) 0 _⟩

set_option maxRecDepth 100000 in
set_option maxHeartbeats 4000000 in
theorem parsesT (s : ByteArray) (hs : s.size ≤ 1000000000) (w : World) (x : Nat → Int) (a b : Int) (hab : prs 0 zr (pcs s.data.toList.length s.data.toList) = (x, a, b)) :
    Calls Tryd.prog 20 #[.string s] w fun e w' => e = .returned (.agg #[.int .i64 a, .int .i64 b]) ∧ Bel w w' := by
  have RD := Lib.hid (show Calls Tryd.prog 16 #[.string s] (w.alloc ZT) fun e w' => e = .returned (.tuple #[.agg (List.toArray (recC x)), .agg #[.int .i64 a, .int .i64 b]]) ∧ Bel (w.alloc ZT) w' from (parseP s hs (w.alloc ZT)).mono fun e w' ⟨y, a', b', h1, h2, h3⟩ => by
    rw [hab] at h2
    injection h2 with h2 h4
    injection h4 with h4 h5
    subst h2
    subst h4
    subst h5
    exact ⟨h1, h3⟩)
  obtain ⟨E, hE⟩ : ∃ E, recC x = E := ⟨_, rfl⟩
  have HEl := Lib.hid (show E.length = 11 by rw [← hE]; rfl)
  have EI2 := Lib.hid (show (Tryd.prog.info? 26).map (·.size) = some E.toArray.size by rw [List.size_toArray, HEl.out]; exact info_rec)
  have EO := Lib.hid (all_oneCell_toArray (cs := E) (by rw [← hE]; exact recC_cells _))
  rw [hE] at RD
  clear hs hab hE
  go_enter Tryd.func20, Tryd.ntmps20
  go_upto_region 1 with fail
  go_wp2_with fail
  refine RD.out.mono ?_
  rintro e w1 ⟨rfl, k1⟩
  have K1 := Lib.hid (show Blk w1 w.heap.size #[.int .i64 0, .int .i64 0] 47 from (Blk.new w _ _).bel k1)
  have B1 := Lib.hid (show Bel w w1 from ((Bel.refl w).alloc _).trans k1)
  have HRL := Lib.hid (show w.heap.size ≠ w1.heap.size ∧ w.heap.size ≠ w1.heap.size + 1 by have := K1.out.lt; exact ⟨by omega, by omega⟩)
  have Q0 := Lib.hid (show Blk ((w1.alloc ZP).alloc ZT) w1.heap.size #[.int .i64 0, .int .i64 0, .int .i64 0, .int .i64 0, .int .i64 0, .int .i64 0, .int .i64 0, .int .u64 0, .int .u64 0, .int .i64 0, .int .u64 0] 26 from (Blk.new w1 _ _).alloc _)
  have Q1 := Lib.hid (show Blk ((w1.alloc ZP).alloc ZT) (w1.heap.size + 1) #[.int .i64 0, .int .i64 0] 47 by have h := Blk.new (w1.alloc ZP) #[.int .i64 0, .int .i64 0] 47; rw [World.size_alloc] at h; exact h)
  have T1 := Lib.hid (bthere Q0.out 0 E.toArray.size (by rw [List.size_toArray, HEl.out]; exact Nat.le_refl _))
  have Q2 := Lib.hid (Q1.out.kep (kep_setCells w1.heap.size E 0 _) (by omega))
  have T2 := Lib.hid (bthere Q2.out 0 2 (Nat.le_refl _))
  have Q3 := Lib.hid (bwhole (vs := [.int .i64 a, .int .i64 b]) Q2.out rfl)
  have RG := Lib.hid (rngB Q3.out)
  have K2 := Lib.hid (((K1.out.bel (((Bel.refl w1).alloc ZP).alloc ZT)).kep (kep_setCells w1.heap.size E 0 _) HRL.out.1).kep (kep_setCells (w1.heap.size + 1) [.int .i64 a, .int .i64 b] 0 _) HRL.out.2)
  have T3 := Lib.hid (bthere K2.out 0 2 (Nat.le_refl _))
  have F := Lib.hid (bwhole (vs := [.int .i64 a, .int .i64 b]) K2.out rfl)
  clear k1
  go_wp2_with (first | (refine wpList_store_mid rfl 26 (.tmp 3) (.tmp 8) rfl w1.heap.size 0 E.toArray rfl rfl T1.out EI2.out EO.out ?_) | (refine wpList_store_mid rfl 47 (.tmp 4) (.tmp 9) rfl (w1.heap.size + 1) 0 #[.int .i64 a, .int .i64 b] rfl rfl T2.out rd_flt (rd_two _ _) ?_) | (refine wpList_load_mid rfl 47 (.tmp 4) rfl (w1.heap.size + 1) 0 rfl [.int .i64 a, .int .i64 b] _ RG.out Tryd.underlying47 rfl rd_flt ?_) | (refine wpList_store_mid rfl 47 (.tmp 2) (.tmp 10) rfl w.heap.size 0 #[.int .i64 a, .int .i64 b] rfl rfl T3.out rd_flt (rd_two _ _) ?_))
  refine bodyPost_ret (res_c Tryd.results20 _ _ ⟨w.heap.size, 0, none⟩ (.agg #[.int .i64 a, .int .i64 b]) rfl (load_b F.out Tryd.underlying47 rfl rd_flt)) rfl ⟨rfl, bel_setCells (bel_setCells (bel_setCells ((B1.out.alloc ZP).alloc ZT) (Nat.le_of_lt K1.out.lt) 0 E) (Nat.le_succ_of_le (Nat.le_of_lt K1.out.lt)) 0 _) (Nat.le_refl _) 0 _⟩
end Pm
end Go.Proofs.YtkblbcdinibncaaDoor
