/-
  The law BankKnown returns true: the chapter's examples are answered as it says. No condition (the law has no argument).
-/
import Derived.Test.YthdcgkikhindiaaBH
namespace Go.Proofs.Ythdcgkikhindiaa
open Go.RowKit Go.Shelf
set_option linter.unusedVariables false
namespace Bk
open Pm

set_option maxRecDepth 20000 in
set_option maxHeartbeats 16000000 in
theorem known (w : World) : Calls Try.prog 5 #[] w fun e w' => e = .returned (.bool true) ∧ Kk.Bel w w' := by
  have uB := Try.underlying26
  have EF := Lib.hid eql_fault
  go_enter Try.func5, Try.ntmps5
  have CB := Lib.hid (chapter w)
  go_wp2_with fail
  refine CB.out.mono ?_
  rintro e w1 ⟨Y1, rfl, hnb⟩
  clear CB
  have KO := Lib.hid (show Kk.Bel w w from (Kk.Bel.refl w))
  have NN := Lib.hid (NB.after KO.out hnb)
  have hk := Lib.hid hnb.bel
  clear hnb KO
  have KB := Lib.hid (show Kk.Bel w _ from hk.out)
  clear hk
  have PT := Lib.hid (put_there w1 Y1 NN.out.2.len)
  have PI := Lib.hid NN.out.infoA
  have PO := Lib.hid NN.out.one
  go_upto_region 2 with ((with_reducible refine wpList_store_mid ?_ 26 (.tmp 1) (.tmp 22) ?_ (World.heap w1).size 0 Y1.toArray ?_ ?_ PT.out PI.out PO.out ?_); rfl; rfl; rfl; rfl)
  have V_b := Lib.hid (put_var NN.out (Kk.Bel.refl _))
  have hk := Lib.hid (put_bel w1 Y1)
  have KB := Lib.hid (KB.out.trans hk.out)
  obtain ⟨q_b, hq⟩ : ∃ q, (World.heap w1).size = q := ⟨_, rfl⟩
  obtain ⟨w2, hw⟩ : ∃ v, (World.alloc w1 (.cells ZB 26)).setCells (World.heap w1).size 0 Y1 = v := ⟨_, rfl⟩
  rw [hw]
  rw [hw] at V_b KB
  rw [hq] at V_b ⊢
  clear hk hw hq PT PI PO NN
  go_wp2_with ((with_reducible refine wpList_load_g ?_ 26 (.tmp 1) ?_ q_b 0 ?_ Y1 _ (Var.rng V_b.out) uB ?_ (NB.info V_b.out.nb) ?_); rfl; rfl; rfl; rfl)
  refine (haveV 0 _ _ _ _ V_b.out.bv).mono ?_
  rintro e w3 ⟨rfl, k⟩
  have hk := Lib.hid k
  clear k
  have V_b := Lib.hid (V_b.out.bel hk.out)
  have KB := Lib.hid (KB.out.trans hk.out)
  clear hk
  have C2 := Lib.hid (haveV 2 _ _ _ _ V_b.out.bv)
  rw [show havE [70, 50] [30, 0, 0, 0] 2 = 10 from rfl, show okI 10 (List.getD [70, 50] (Int.toNat 2) 0) = 0 from rfl] at C2
  go_wp2_with ((with_reducible refine wpList_load_g ?_ 26 (.tmp 1) ?_ q_b 0 ?_ Y1 _ (Var.rng V_b.out) uB ?_ (NB.info V_b.out.nb) ?_); rfl; rfl; rfl; rfl)
  refine (C2.out).mono ?_
  rintro e w4 ⟨rfl, k⟩
  have hk := Lib.hid k
  clear k
  have V_b := Lib.hid (V_b.out.bel hk.out)
  have KB := Lib.hid (KB.out.trans hk.out)
  clear hk
  have C3 := Lib.hid (totalV _ _ _ _ V_b.out.bv)
  rw [show chk [70, 50] [30, 0, 0, 0] = 0 from rfl, show okI 0 (List.sum [70, 50]) = 120 from rfl] at C3
  go_wp2_with ((with_reducible refine wpList_load_g ?_ 26 (.tmp 1) ?_ q_b 0 ?_ Y1 _ (Var.rng V_b.out) uB ?_ (NB.info V_b.out.nb) ?_); rfl; rfl; rfl; rfl)
  refine (C3.out).mono ?_
  rintro e w5 ⟨rfl, k⟩
  have hk := Lib.hid k
  clear k
  have V_b := Lib.hid (V_b.out.bel hk.out)
  have KB := Lib.hid (KB.out.trans hk.out)
  clear hk
  clear C2 C3
  go_wp2_with ((with_reducible refine wpList_load_g ?_ 26 (.tmp 1) ?_ q_b 0 ?_ Y1 _ (Var.rng V_b.out) uB ?_ (NB.info V_b.out.nb) ?_); rfl; rfl; rfl; rfl)
  refine (errs 0 0 1 71 13 _ _ _ _ V_b.out.bv (by decide) (by decide) (by decide) (by decide)).mono ?_
  rintro e w6 ⟨rfl, k⟩
  have hk := Lib.hid k
  clear k
  have V_b := Lib.hid (V_b.out.bel hk.out)
  have KB := Lib.hid (KB.out.trans hk.out)
  clear hk
  go_wp2_with ((with_reducible refine wpList_load_g ?_ 26 (.tmp 1) ?_ q_b 0 ?_ Y1 _ (Var.rng V_b.out) uB ?_ (NB.info V_b.out.nb) ?_); rfl; rfl; rfl; rfl)
  refine (errs 0 0 0 1 2 _ _ _ _ V_b.out.bv (by decide) (by decide) (by decide) (by decide)).mono ?_
  rintro e w7 ⟨rfl, k⟩
  have hk := Lib.hid k
  clear k
  have V_b := Lib.hid (V_b.out.bel hk.out)
  have KB := Lib.hid (KB.out.trans hk.out)
  clear hk
  go_wp2_with ((with_reducible refine wpList_load_g ?_ 26 (.tmp 1) ?_ q_b 0 ?_ Y1 _ (Var.rng V_b.out) uB ?_ (NB.info V_b.out.nb) ?_); rfl; rfl; rfl; rfl)
  refine (errs 0 0 1 0 2 _ _ _ _ V_b.out.bv (by decide) (by decide) (by decide) (by decide)).mono ?_
  rintro e w8 ⟨rfl, k⟩
  have hk := Lib.hid k
  clear k
  have V_b := Lib.hid (V_b.out.bel hk.out)
  have KB := Lib.hid (KB.out.trans hk.out)
  clear hk
  go_wp2_with ((with_reducible refine wpList_load_g ?_ 26 (.tmp 1) ?_ q_b 0 ?_ Y1 _ (Var.rng V_b.out) uB ?_ (NB.info V_b.out.nb) ?_); rfl; rfl; rfl; rfl)
  refine (errs 0 0 2 0 10 _ _ _ _ V_b.out.bv (by decide) (by decide) (by decide) (by decide)).mono ?_
  rintro e w9 ⟨rfl, k⟩
  have hk := Lib.hid k
  clear k
  have V_b := Lib.hid (V_b.out.bel hk.out)
  have KB := Lib.hid (KB.out.trans hk.out)
  clear hk
  have CB := Lib.hid (burnV 0 10 _ _ _ _ V_b.out.bv (by decide) (by decide))
  rw [show xE [70, 50] [30, 0, 0, 0] true true 0 2 10 0 = 0 from rfl, show xZ [70, 50] [30, 0, 0, 0] true true 0 2 10 0 = [70, 50] from rfl, show xP [70, 50] [30, 0, 0, 0] true true 0 2 10 0 = [20, 0, 10, 0] from rfl] at CB
  go_wp2_with ((with_reducible refine wpList_load_g ?_ 26 (.tmp 1) ?_ q_b 0 ?_ Y1 _ (Var.rng V_b.out) uB ?_ (NB.info V_b.out.nb) ?_); rfl; rfl; rfl; rfl)
  refine CB.out.mono ?_
  rintro e w10 ⟨Y10, rfl, hnb⟩
  clear CB
  have KO := Lib.hid (show Kk.Bel w w9 from KB.out)
  have NN := Lib.hid (NB.after KO.out hnb)
  have hk := Lib.hid hnb.bel
  clear hnb KO
  have V_b := Lib.hid (V_b.out.bel hk.out)
  have KB := Lib.hid (KB.out.trans hk.out)
  clear hk
  have PT := Lib.hid (put_there w10 Y10 NN.out.2.len)
  have PI := Lib.hid NN.out.infoA
  have PO := Lib.hid NN.out.one
  go_upto_region 8 with (first | ((with_reducible refine wpList_store_mid ?_ 26 (.tmp 11) (.tmp 81) ?_ (World.heap w10).size 0 Y10.toArray ?_ ?_ PT.out PI.out PO.out ?_); rfl; rfl; rfl; rfl) | ((with_reducible refine wpList_load_g ?_ 26 (.tmp 1) ?_ q_b 0 ?_ Y1 _ (Var.rng V_b.out) uB ?_ (NB.info V_b.out.nb) ?_); rfl; rfl; rfl; rfl))
  have V_d := Lib.hid (put_var NN.out (Kk.Bel.refl _))
  have hk := Lib.hid (put_bel w10 Y10)
  have V_b := Lib.hid (V_b.out.bel hk.out)
  have KB := Lib.hid (KB.out.trans hk.out)
  obtain ⟨q_d, hq⟩ : ∃ q, (World.heap w10).size = q := ⟨_, rfl⟩
  obtain ⟨w11, hw⟩ : ∃ v, (World.alloc w10 (.cells ZB 26)).setCells (World.heap w10).size 0 Y10 = v := ⟨_, rfl⟩
  rw [hw]
  rw [hw] at V_b V_d KB
  rw [hq] at V_d ⊢
  clear hk hw hq PT PI PO NN
  have CB := Lib.hid (payV 0 1 0 _ _ _ _ V_b.out.bv (by decide) (by decide))
  rw [show xE [70, 50] [30, 0, 0, 0] true false 0 1 0 0 = 0 from rfl, show xZ [70, 50] [30, 0, 0, 0] true false 0 1 0 0 = [70, 50] from rfl, show xP [70, 50] [30, 0, 0, 0] true false 0 1 0 0 = [30, 0, 0, 0] from rfl] at CB
  go_wp2_with (first | ((with_reducible refine wpList_load_g ?_ 26 (.tmp 1) ?_ q_b 0 ?_ Y1 _ (Var.rng V_b.out) uB ?_ (NB.info V_b.out.nb) ?_); rfl; rfl; rfl; rfl) | ((with_reducible refine wpList_load_g ?_ 26 (.tmp 11) ?_ q_d 0 ?_ Y10 _ (Var.rng V_d.out) uB ?_ (NB.info V_d.out.nb) ?_); rfl; rfl; rfl; rfl))
  refine CB.out.mono ?_
  rintro e w12 ⟨Y12, rfl, hnb⟩
  clear CB
  have KO := Lib.hid (show Kk.Bel w w11 from KB.out)
  have NN := Lib.hid (NB.after KO.out hnb)
  have hk := Lib.hid hnb.bel
  clear hnb KO
  have V_b := Lib.hid (V_b.out.bel hk.out)
  have V_d := Lib.hid (V_d.out.bel hk.out)
  have KB := Lib.hid (KB.out.trans hk.out)
  clear hk
  have PT := Lib.hid (put_there w12 Y12 NN.out.2.len)
  have PI := Lib.hid NN.out.infoA
  have PO := Lib.hid NN.out.one
  go_upto_region 9 with (first | ((with_reducible refine wpList_store_mid ?_ 26 (.tmp 13) (.tmp 86) ?_ (World.heap w12).size 0 Y12.toArray ?_ ?_ PT.out PI.out PO.out ?_); rfl; rfl; rfl; rfl) | ((with_reducible refine wpList_load_g ?_ 26 (.tmp 1) ?_ q_b 0 ?_ Y1 _ (Var.rng V_b.out) uB ?_ (NB.info V_b.out.nb) ?_); rfl; rfl; rfl; rfl) | ((with_reducible refine wpList_load_g ?_ 26 (.tmp 11) ?_ q_d 0 ?_ Y10 _ (Var.rng V_d.out) uB ?_ (NB.info V_d.out.nb) ?_); rfl; rfl; rfl; rfl))
  have V_c := Lib.hid (put_var NN.out (Kk.Bel.refl _))
  have hk := Lib.hid (put_bel w12 Y12)
  have V_b := Lib.hid (V_b.out.bel hk.out)
  have V_d := Lib.hid (V_d.out.bel hk.out)
  have KB := Lib.hid (KB.out.trans hk.out)
  obtain ⟨q_c, hq⟩ : ∃ q, (World.heap w12).size = q := ⟨_, rfl⟩
  obtain ⟨w13, hw⟩ : ∃ v, (World.alloc w12 (.cells ZB 26)).setCells (World.heap w12).size 0 Y12 = v := ⟨_, rfl⟩
  rw [hw]
  rw [hw] at V_b V_d V_c KB
  rw [hq] at V_c ⊢
  clear hk hw hq PT PI PO NN
  go_wp2_with (first | ((with_reducible refine wpList_load_g ?_ 26 (.tmp 1) ?_ q_b 0 ?_ Y1 _ (Var.rng V_b.out) uB ?_ (NB.info V_b.out.nb) ?_); rfl; rfl; rfl; rfl) | ((with_reducible refine wpList_load_g ?_ 26 (.tmp 11) ?_ q_d 0 ?_ Y10 _ (Var.rng V_d.out) uB ?_ (NB.info V_d.out.nb) ?_); rfl; rfl; rfl; rfl) | ((with_reducible refine wpList_load_g ?_ 26 (.tmp 13) ?_ q_c 0 ?_ Y12 _ (Var.rng V_c.out) uB ?_ (NB.info V_c.out.nb) ?_); rfl; rfl; rfl; rfl))
  refine (errs 1 2 0 1 2 _ _ _ _ V_d.out.bv (by decide) (by decide) (by decide) (by decide)).mono ?_
  rintro e w14 ⟨rfl, k⟩
  have hk := Lib.hid k
  clear k
  have V_b := Lib.hid (V_b.out.bel hk.out)
  have V_d := Lib.hid (V_d.out.bel hk.out)
  have V_c := Lib.hid (V_c.out.bel hk.out)
  have KB := Lib.hid (KB.out.trans hk.out)
  clear hk
  go_wp2_with (first | ((with_reducible refine wpList_load_g ?_ 26 (.tmp 1) ?_ q_b 0 ?_ Y1 _ (Var.rng V_b.out) uB ?_ (NB.info V_b.out.nb) ?_); rfl; rfl; rfl; rfl) | ((with_reducible refine wpList_load_g ?_ 26 (.tmp 11) ?_ q_d 0 ?_ Y10 _ (Var.rng V_d.out) uB ?_ (NB.info V_d.out.nb) ?_); rfl; rfl; rfl; rfl) | ((with_reducible refine wpList_load_g ?_ 26 (.tmp 13) ?_ q_c 0 ?_ Y12 _ (Var.rng V_c.out) uB ?_ (NB.info V_c.out.nb) ?_); rfl; rfl; rfl; rfl))
  refine (errs 3 0 4 1 3 _ _ _ _ V_b.out.bv (by decide) (by decide) (by decide) (by decide)).mono ?_
  rintro e w15 ⟨rfl, k⟩
  have hk := Lib.hid k
  clear k
  have V_b := Lib.hid (V_b.out.bel hk.out)
  have V_d := Lib.hid (V_d.out.bel hk.out)
  have V_c := Lib.hid (V_c.out.bel hk.out)
  have KB := Lib.hid (KB.out.trans hk.out)
  clear hk
  have CS := Lib.hid (sameBank _ _ _ _ _ _ w15 V_c.out.bv V_b.out.bv)
  rw [show decide (([70, 50] : List Int) = [70, 50] ∧ ([30, 0, 0, 0] : List Int) = [30, 0, 0, 0]) = true from rfl] at CS
  go_wp2_with (first | ((with_reducible refine wpList_load_g ?_ 26 (.tmp 1) ?_ q_b 0 ?_ Y1 _ (Var.rng V_b.out) uB ?_ (NB.info V_b.out.nb) ?_); rfl; rfl; rfl; rfl) | ((with_reducible refine wpList_load_g ?_ 26 (.tmp 11) ?_ q_d 0 ?_ Y10 _ (Var.rng V_d.out) uB ?_ (NB.info V_d.out.nb) ?_); rfl; rfl; rfl; rfl) | ((with_reducible refine wpList_load_g ?_ 26 (.tmp 13) ?_ q_c 0 ?_ Y12 _ (Var.rng V_c.out) uB ?_ (NB.info V_c.out.nb) ?_); rfl; rfl; rfl; rfl))
  refine (CS.out).mono ?_
  rintro e w16 ⟨rfl, k⟩
  have hk := Lib.hid k
  clear k
  have V_b := Lib.hid (V_b.out.bel hk.out)
  have V_d := Lib.hid (V_d.out.bel hk.out)
  have V_c := Lib.hid (V_c.out.bel hk.out)
  have KB := Lib.hid (KB.out.trans hk.out)
  clear hk
  clear CS
  go_wp2_with (first | ((with_reducible refine wpList_load_g ?_ 26 (.tmp 1) ?_ q_b 0 ?_ Y1 _ (Var.rng V_b.out) uB ?_ (NB.info V_b.out.nb) ?_); rfl; rfl; rfl; rfl) | ((with_reducible refine wpList_load_g ?_ 26 (.tmp 11) ?_ q_d 0 ?_ Y10 _ (Var.rng V_d.out) uB ?_ (NB.info V_d.out.nb) ?_); rfl; rfl; rfl; rfl) | ((with_reducible refine wpList_load_g ?_ 26 (.tmp 13) ?_ q_c 0 ?_ Y12 _ (Var.rng V_c.out) uB ?_ (NB.info V_c.out.nb) ?_); rfl; rfl; rfl; rfl))
  refine (news none 0 0 [] _ ⟨Kk.Ints.nil_, Nat.le_refl _, fun _ => rfl⟩ (by omega) words_nil).mono ?_
  rintro e w17 ⟨rfl, k⟩
  have hk := Lib.hid k
  clear k
  have V_b := Lib.hid (V_b.out.bel hk.out)
  have V_d := Lib.hid (V_d.out.bel hk.out)
  have V_c := Lib.hid (V_c.out.bel hk.out)
  have KB := Lib.hid (KB.out.trans hk.out)
  clear hk
  go_wp2_with ((with_reducible refine wpList_make_g _ ?_ (.const (.int .i64 65)) (.const (.int .i64 65)) ?_ 65 ?_ ?_ ?_ ?_); rfl; rfl; rfl; rfl; omega; intro w18 hown km)
  have hsl := su_of_own hown
  obtain ⟨A9, c9, e9, hsu9⟩ := hsl
  injection e9 with a9 b9 c9e
  subst a9 c9e
  have SU9 := Lib.hid hsu9
  have hk := Lib.hid km
  clear km hown hsu9
  have V_b := Lib.hid (V_b.out.bel hk.out)
  have V_d := Lib.hid (V_d.out.bel hk.out)
  have V_c := Lib.hid (V_c.out.bel hk.out)
  have KB := Lib.hid (KB.out.trans hk.out)
  clear hk
  go_wp2_with (first | ((with_reducible refine wpList_load_g ?_ 26 (.tmp 1) ?_ q_b 0 ?_ Y1 _ (Var.rng V_b.out) uB ?_ (NB.info V_b.out.nb) ?_); rfl; rfl; rfl; rfl) | ((with_reducible refine wpList_load_g ?_ 26 (.tmp 11) ?_ q_d 0 ?_ Y10 _ (Var.rng V_d.out) uB ?_ (NB.info V_d.out.nb) ?_); rfl; rfl; rfl; rfl) | ((with_reducible refine wpList_load_g ?_ 26 (.tmp 13) ?_ q_c 0 ?_ Y12 _ (Var.rng V_c.out) uB ?_ (NB.info V_c.out.nb) ?_); rfl; rfl; rfl; rfl))
  refine (news _ _ _ _ _ SU9.out (by omega) (words_rep 65)).mono ?_
  rintro e w19 ⟨rfl, k⟩
  have hk := Lib.hid k
  clear k
  have V_b := Lib.hid (V_b.out.bel hk.out)
  have V_d := Lib.hid (V_d.out.bel hk.out)
  have V_c := Lib.hid (V_c.out.bel hk.out)
  have KB := Lib.hid (KB.out.trans hk.out)
  clear hk
  have CL := Lib.hid (news (some ⟨w19.heap.size, 0, none⟩) 2 2 [4611686018427387904, 1] (World.alloc w19 (.cells #[.int .u64 4611686018427387904, .int .u64 1] 23)) (lit2 w19 4611686018427387904 1) (by omega) (words_two (by decide) (by decide)))
  go_wp2_with (first | ((with_reducible refine wpList_load_g ?_ 26 (.tmp 1) ?_ q_b 0 ?_ Y1 _ (Var.rng V_b.out) uB ?_ (NB.info V_b.out.nb) ?_); rfl; rfl; rfl; rfl) | ((with_reducible refine wpList_load_g ?_ 26 (.tmp 11) ?_ q_d 0 ?_ Y10 _ (Var.rng V_d.out) uB ?_ (NB.info V_d.out.nb) ?_); rfl; rfl; rfl; rfl) | ((with_reducible refine wpList_load_g ?_ 26 (.tmp 13) ?_ q_c 0 ?_ Y12 _ (Var.rng V_c.out) uB ?_ (NB.info V_c.out.nb) ?_); rfl; rfl; rfl; rfl))
  refine CL.out.mono ?_
  rintro e w20 ⟨rfl, k⟩
  have hk := Lib.hid (((Kk.Bel.refl w19).alloc (.cells #[.int .u64 4611686018427387904, .int .u64 1] 23)).trans k)
  clear k CL
  have V_b := Lib.hid (V_b.out.bel hk.out)
  have V_d := Lib.hid (V_d.out.bel hk.out)
  have V_c := Lib.hid (V_c.out.bel hk.out)
  have KB := Lib.hid (KB.out.trans hk.out)
  clear hk
  have CL := Lib.hid (news (some ⟨w20.heap.size, 0, none⟩) 1 1 [4611686018427387904] (World.alloc w20 (.cells #[.int .u64 4611686018427387904] 23)) (su_lit w20 [4611686018427387904]) (by omega) (words_cons (by decide) (by decide) words_nil))
  go_wp2_with (first | ((with_reducible refine wpList_load_g ?_ 26 (.tmp 1) ?_ q_b 0 ?_ Y1 _ (Var.rng V_b.out) uB ?_ (NB.info V_b.out.nb) ?_); rfl; rfl; rfl; rfl) | ((with_reducible refine wpList_load_g ?_ 26 (.tmp 11) ?_ q_d 0 ?_ Y10 _ (Var.rng V_d.out) uB ?_ (NB.info V_d.out.nb) ?_); rfl; rfl; rfl; rfl) | ((with_reducible refine wpList_load_g ?_ 26 (.tmp 13) ?_ q_c 0 ?_ Y12 _ (Var.rng V_c.out) uB ?_ (NB.info V_c.out.nb) ?_); rfl; rfl; rfl; rfl))
  refine CL.out.mono ?_
  rintro e w21 ⟨rfl, k⟩
  have hk := Lib.hid (((Kk.Bel.refl w20).alloc (.cells #[.int .u64 4611686018427387904] 23)).trans k)
  clear k CL
  have V_b := Lib.hid (V_b.out.bel hk.out)
  have V_d := Lib.hid (V_d.out.bel hk.out)
  have V_c := Lib.hid (V_c.out.bel hk.out)
  have KB := Lib.hid (KB.out.trans hk.out)
  clear hk
  have CL := Lib.hid (news (some ⟨w21.heap.size, 0, none⟩) 2 2 [18446744073709551615, 18446744073709551615] (World.alloc w21 (.cells #[.int .u64 18446744073709551615, .int .u64 18446744073709551615] 23)) (lit2 w21 18446744073709551615 18446744073709551615) (by omega) (words_two (by decide) (by decide)))
  go_wp2_with (first | ((with_reducible refine wpList_load_g ?_ 26 (.tmp 1) ?_ q_b 0 ?_ Y1 _ (Var.rng V_b.out) uB ?_ (NB.info V_b.out.nb) ?_); rfl; rfl; rfl; rfl) | ((with_reducible refine wpList_load_g ?_ 26 (.tmp 11) ?_ q_d 0 ?_ Y10 _ (Var.rng V_d.out) uB ?_ (NB.info V_d.out.nb) ?_); rfl; rfl; rfl; rfl) | ((with_reducible refine wpList_load_g ?_ 26 (.tmp 13) ?_ q_c 0 ?_ Y12 _ (Var.rng V_c.out) uB ?_ (NB.info V_c.out.nb) ?_); rfl; rfl; rfl; rfl))
  refine CL.out.mono ?_
  rintro e w22 ⟨rfl, k⟩
  have hk := Lib.hid (((Kk.Bel.refl w21).alloc (.cells #[.int .u64 18446744073709551615, .int .u64 18446744073709551615] 23)).trans k)
  clear k CL
  have V_b := Lib.hid (V_b.out.bel hk.out)
  have V_d := Lib.hid (V_d.out.bel hk.out)
  have V_c := Lib.hid (V_c.out.bel hk.out)
  have KB := Lib.hid (KB.out.trans hk.out)
  clear hk
  have CB := Lib.hid (bytesV _ _ _ _ V_b.out.bv)
  rw [show bytesB [70, 50] [30, 0, 0, 0] = [2, 70, 50, 30, 0, 0, 0] from rfl, show chk [70, 50] [30, 0, 0, 0] = 0 from rfl] at CB
  go_wp2_with (first | ((with_reducible refine wpList_load_g ?_ 26 (.tmp 1) ?_ q_b 0 ?_ Y1 _ (Var.rng V_b.out) uB ?_ (NB.info V_b.out.nb) ?_); rfl; rfl; rfl; rfl) | ((with_reducible refine wpList_load_g ?_ 26 (.tmp 11) ?_ q_d 0 ?_ Y10 _ (Var.rng V_d.out) uB ?_ (NB.info V_d.out.nb) ?_); rfl; rfl; rfl; rfl) | ((with_reducible refine wpList_load_g ?_ 26 (.tmp 13) ?_ q_c 0 ?_ Y12 _ (Var.rng V_c.out) uB ?_ (NB.info V_c.out.nb) ?_); rfl; rfl; rfl; rfl))
  refine CB.out.mono ?_
  rintro e w23 ⟨v23, rfl, hf⟩
  obtain ⟨A8, c8, hv8, hsl⟩ := hf.sl
  subst hv8
  have SB := Lib.hid hsl
  have hk := Lib.hid hf.2
  clear hf hsl CB
  have V_b := Lib.hid (V_b.out.bel hk.out)
  have V_d := Lib.hid (V_d.out.bel hk.out)
  have V_c := Lib.hid (V_c.out.bel hk.out)
  have KB := Lib.hid (KB.out.trans hk.out)
  clear hk
  have CL := Lib.hid (Kk.same A8 (some ⟨w23.heap.size, 0, none⟩) 7 c8 7 7 [2, 70, 50, 30, 0, 0, 0] (World.alloc w23 (.cells #[.int .u8 2, .int .u8 70, .int .u8 50, .int .u8 30, .int .u8 0, .int .u8 0, .int .u8 0] 5)) (SB.out.ints.bel ((Kk.Bel.refl _).alloc _)) (Kk.sl_lit w23 [2, 70, 50, 30, 0, 0, 0]).ints)
  go_wp2_with (first | ((with_reducible refine wpList_load_g ?_ 26 (.tmp 1) ?_ q_b 0 ?_ Y1 _ (Var.rng V_b.out) uB ?_ (NB.info V_b.out.nb) ?_); rfl; rfl; rfl; rfl) | ((with_reducible refine wpList_load_g ?_ 26 (.tmp 11) ?_ q_d 0 ?_ Y10 _ (Var.rng V_d.out) uB ?_ (NB.info V_d.out.nb) ?_); rfl; rfl; rfl; rfl) | ((with_reducible refine wpList_load_g ?_ 26 (.tmp 13) ?_ q_c 0 ?_ Y12 _ (Var.rng V_c.out) uB ?_ (NB.info V_c.out.nb) ?_); rfl; rfl; rfl; rfl))
  refine CL.out.mono ?_
  rintro e w24 ⟨rfl, k0⟩
  have hk := Lib.hid (show Kk.Bel w23 w24 by rw [← k0]; exact ((Kk.Bel.refl w23).alloc (.cells #[.int .u8 2, .int .u8 70, .int .u8 50, .int .u8 30, .int .u8 0, .int .u8 0, .int .u8 0] 5)))
  clear k0 CL
  have V_b := Lib.hid (V_b.out.bel hk.out)
  have V_d := Lib.hid (V_d.out.bel hk.out)
  have V_c := Lib.hid (V_c.out.bel hk.out)
  have KB := Lib.hid (KB.out.trans hk.out)
  clear hk
  have CL := Lib.hid ((reads (some ⟨w24.heap.size, 0, none⟩) 5 5 [1, 0, 0, 0, 0] (World.alloc w24 (.cells #[.int .u8 1, .int .u8 0, .int .u8 0, .int .u8 0, .int .u8 0] 5)) (Kk.sl_lit w24 [1, 0, 0, 0, 0]) (by omega) (bytes_small (by decide)) 1 [0, 0, 0, 0, 0] 5 (some (6, 5)) run_a))
  go_wp2_with (first | ((with_reducible refine wpList_load_g ?_ 26 (.tmp 1) ?_ q_b 0 ?_ Y1 _ (Var.rng V_b.out) uB ?_ (NB.info V_b.out.nb) ?_); rfl; rfl; rfl; rfl) | ((with_reducible refine wpList_load_g ?_ 26 (.tmp 11) ?_ q_d 0 ?_ Y10 _ (Var.rng V_d.out) uB ?_ (NB.info V_d.out.nb) ?_); rfl; rfl; rfl; rfl) | ((with_reducible refine wpList_load_g ?_ 26 (.tmp 13) ?_ q_c 0 ?_ Y12 _ (Var.rng V_c.out) uB ?_ (NB.info V_c.out.nb) ?_); rfl; rfl; rfl; rfl))
  refine CL.out.mono ?_
  rintro e w25 ⟨rfl, k⟩
  have hk := Lib.hid (((Kk.Bel.refl w24).alloc (.cells #[.int .u8 1, .int .u8 0, .int .u8 0, .int .u8 0, .int .u8 0] 5)).trans k)
  clear k CL
  have V_b := Lib.hid (V_b.out.bel hk.out)
  have V_d := Lib.hid (V_d.out.bel hk.out)
  have V_c := Lib.hid (V_c.out.bel hk.out)
  have KB := Lib.hid (KB.out.trans hk.out)
  clear hk
  have hef1 := fun W => EF.out 6 5 6 5 W
  have CL := Lib.hid ((reads (some ⟨w25.heap.size, 0, none⟩) 1 1 [0] (World.alloc w25 (.cells #[.int .u8 0] 5)) (Kk.sl_lit w25 [0]) (by omega) (bytes_small (by decide)) 0 [0, 0, 0, 0] 0 (some (3, 0)) run_b))
  go_wp2_with (first | ((with_reducible refine wpList_load_g ?_ 26 (.tmp 1) ?_ q_b 0 ?_ Y1 _ (Var.rng V_b.out) uB ?_ (NB.info V_b.out.nb) ?_); rfl; rfl; rfl; rfl) | ((with_reducible refine wpList_load_g ?_ 26 (.tmp 11) ?_ q_d 0 ?_ Y10 _ (Var.rng V_d.out) uB ?_ (NB.info V_d.out.nb) ?_); rfl; rfl; rfl; rfl) | ((with_reducible refine wpList_load_g ?_ 26 (.tmp 13) ?_ q_c 0 ?_ Y12 _ (Var.rng V_c.out) uB ?_ (NB.info V_c.out.nb) ?_); rfl; rfl; rfl; rfl))
  refine CL.out.mono ?_
  rintro e w26 ⟨rfl, k⟩
  have hk := Lib.hid (((Kk.Bel.refl w25).alloc (.cells #[.int .u8 0] 5)).trans k)
  clear k CL
  have V_b := Lib.hid (V_b.out.bel hk.out)
  have V_d := Lib.hid (V_d.out.bel hk.out)
  have V_c := Lib.hid (V_c.out.bel hk.out)
  have KB := Lib.hid (KB.out.trans hk.out)
  clear hk
  have hef2 := fun W => EF.out 3 0 3 0 W
  have CL := Lib.hid ((reads (some ⟨w26.heap.size, 0, none⟩) 2 2 [1, 0] (World.alloc w26 (.cells #[.int .u8 1, .int .u8 0] 5)) (Kk.sl_lit w26 [1, 0]) (by omega) (bytes_small (by decide)) 1 [0, 0, 0, 0, 0] 2 (some (6, 2)) run_c))
  go_wp2_with (first | ((with_reducible refine wpList_load_g ?_ 26 (.tmp 1) ?_ q_b 0 ?_ Y1 _ (Var.rng V_b.out) uB ?_ (NB.info V_b.out.nb) ?_); rfl; rfl; rfl; rfl) | ((with_reducible refine wpList_load_g ?_ 26 (.tmp 11) ?_ q_d 0 ?_ Y10 _ (Var.rng V_d.out) uB ?_ (NB.info V_d.out.nb) ?_); rfl; rfl; rfl; rfl) | ((with_reducible refine wpList_load_g ?_ 26 (.tmp 13) ?_ q_c 0 ?_ Y12 _ (Var.rng V_c.out) uB ?_ (NB.info V_c.out.nb) ?_); rfl; rfl; rfl; rfl))
  refine CL.out.mono ?_
  rintro e w27 ⟨rfl, k⟩
  have hk := Lib.hid (((Kk.Bel.refl w26).alloc (.cells #[.int .u8 1, .int .u8 0] 5)).trans k)
  clear k CL
  have V_b := Lib.hid (V_b.out.bel hk.out)
  have V_d := Lib.hid (V_d.out.bel hk.out)
  have V_c := Lib.hid (V_c.out.bel hk.out)
  have KB := Lib.hid (KB.out.trans hk.out)
  clear hk
  have hef3 := fun W => EF.out 6 2 6 2 W
  go_wp2_with (first | ((with_reducible refine wpList_load_g ?_ 26 (.tmp 1) ?_ q_b 0 ?_ Y1 _ (Var.rng V_b.out) uB ?_ (NB.info V_b.out.nb) ?_); rfl; rfl; rfl; rfl) | ((with_reducible refine wpList_load_g ?_ 26 (.tmp 11) ?_ q_d 0 ?_ Y10 _ (Var.rng V_d.out) uB ?_ (NB.info V_d.out.nb) ?_); rfl; rfl; rfl; rfl) | ((with_reducible refine wpList_load_g ?_ 26 (.tmp 13) ?_ q_c 0 ?_ Y12 _ (Var.rng V_c.out) uB ?_ (NB.info V_c.out.nb) ?_); rfl; rfl; rfl; rfl))
  refine (awake _).mono ?_
  rintro e w28 ⟨rfl, k⟩
  have hk := Lib.hid k
  clear k
  have V_b := Lib.hid (V_b.out.bel hk.out)
  have V_d := Lib.hid (V_d.out.bel hk.out)
  have V_c := Lib.hid (V_c.out.bel hk.out)
  have KB := Lib.hid (KB.out.trans hk.out)
  clear hk
  go_wp2
  go_ret
  exact ⟨rfl, KB.out⟩
end Bk
end Go.Proofs.Ythdcgkikhindiaa
