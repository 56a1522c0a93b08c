/-
  What the law HopRipens answers: true, for all numbers. Condition: the numbers are ints.
-/
import Derived.Test.YtahhnfnonekbmaaQJ
import Derived.Test.YtahhnfnonekbmaaGRwG
namespace Go.Proofs.Ytahhnfnonekbmaa
open Go.RowKit Go.Shelf
set_option linter.unusedVariables false
set_option linter.unusedSimpArgs false
namespace Hp
open Kk Pm

theorem ripe_ok {l : List R4} {h u : Int} (hl : Ok l) (h0 : 1 ≤ h) (h1 : h ≤ 4294967296) (u0 : 1 ≤ u) (u1 : u ≤ 1048576) : ripE l h u = 0 ∧ ripL l h u = rip l (h - u) ∧ lftL l h u = lft l (h - u) := by
  have e : ripE l h u = 0 := (rip_ways l h u).2.2 (chk_ok.2 hl) ⟨h0, h1, u0, u1⟩
  exact ⟨e, if_pos e, if_pos e⟩
theorem mi_max {m : Int} {k : Nat} {s : List R4 × Int} (h : Mi m k s) {j : Nat} {r : R4} (hj : s.1[j]? = some r) : cr r ≤ s.2 := by
  have hlt := (List.getElem?_eq_some_iff.1 hj).1
  obtain ⟨x, hx⟩ : ∃ x, s.1[s.1.length - 1]? = some x := ⟨_, List.getElem?_eq_getElem (by omega)⟩
  have h1 := srt_get s.1 0 h.srt j (s.1.length - 1) r x (by omega) hj hx
  have h2 := h.bef
  have e : bef 0 s.1 s.1.length = cr x := by
    obtain ⟨q, hq⟩ : ∃ q, s.1.length = q + 1 := ⟨s.1.length - 1, by omega⟩
    rw [hq]
    rw [hq, Nat.add_sub_cancel] at hx
    exact bef_succ hx
  omega
theorem rip_len (l : List R4) (m : Int) : (rip l m).length ≤ l.length ∧ (lft l m).length ≤ l.length := ⟨List.length_filter_le _ _, List.length_filter_le _ _⟩
set_option maxRecDepth 100000 in
set_option maxHeartbeats 16000000 in
theorem ripensLaw (A : Option Addr) (n c : Nat) (zs : List Int) (mo un fi la : Int) (w : World) (hi : Ints .i64 w A n zs) (hz : ∀ z ∈ zs, -9223372036854775808 ≤ z ∧ z ≤ 9223372036854775807)
    (a0 : -9223372036854775808 ≤ mo) (a1 : mo ≤ 9223372036854775807) (b0 : -9223372036854775808 ≤ un) (b1 : un ≤ 9223372036854775807) (c0 : -9223372036854775808 ≤ fi) (c1 : fi ≤ 9223372036854775807) (d0 : -9223372036854775808 ≤ la) (d1 : la ≤ 9223372036854775807) :
    Calls Try.prog 7 #[.slice A n c, .int .i64 mo, .int .i64 un, .int .i64 fi, .int .i64 la] w fun e w' => e = .returned (.bool true) ∧ Bel w w' := by
  have HI := Lib.hid hi
  have HZ := Lib.hid hz
  have HLN := Lib.hid (show zs.length = n from hi.1)
  have KN := Lib.hid (known w)
  clear hi hz
  by_cases hlong : 60 < n
  · have hlong3 : (60 : Int) < n := by omega
    go_enter Try.func7, Try.ntmps7
    go_wp2_with fail
    refine KN.out.mono ?_
    rintro e w1 ⟨rfl, kb⟩
    have KB := Lib.hid kb
    clear kb
    go_wp2_with fail
    go_ret
    exact ⟨rfl, KB.out⟩
  have hlong3 : ¬ (60 : Int) < n := by omega
  have HN := Lib.hid (show n ≤ 60 by omega)
  have PM := Lib.hid (fun V => pick mo 16 V a0 a1 (by decide) (by decide))
  have PU := Lib.hid (fun V => pick un 40 V b0 b1 (by decide) (by decide))
  have PF := Lib.hid (fun V => pick fi 200 V c0 c1 (by decide) (by decide))
  have PL := Lib.hid (fun V => pick la 100 V d0 d1 (by decide) (by decide))
  have wM : IntKind.i64.wrap (1 + mo % 16) = 1 + mo % 16 := IntWalk.i64_in _ (by omega)
  have wU : IntKind.i64.wrap (1 + un % 40) = 1 + un % 40 := IntWalk.i64_in _ (by omega)
  have wF : IntKind.i64.wrap (1 + fi % 200) = 1 + fi % 200 := IntWalk.i64_in _ (by omega)
  obtain ⟨M, hM⟩ : ∃ M, 1 + mo % 16 = M := ⟨_, rfl⟩
  obtain ⟨U, hU⟩ : ∃ U, 1 + un % 40 = U := ⟨_, rfl⟩
  obtain ⟨F, hF⟩ : ∃ F, 1 + fi % 200 = F := ⟨_, rfl⟩
  obtain ⟨G, hG⟩ : ∃ G, F + la % 100 = G := ⟨_, rfl⟩
  have wG : IntKind.i64.wrap (F + la % 100) = G := by rw [IntWalk.i64_in _ (by omega)]; exact hG
  have HB := Lib.hid (show 1 ≤ M ∧ M ≤ 16 ∧ 1 ≤ U ∧ U ≤ 40 ∧ 1 ≤ F ∧ F ≤ 200 ∧ F ≤ G ∧ G ≤ 300 by omega)
  have HM_ := Lib.hid hM
  have HU_ := Lib.hid hU
  have HF_ := Lib.hid hF
  clear hM hU hF hG wM wU wF a0 a1 b0 b1 c0 c1 d0 d1 hlong
  go_enter Try.func7, Try.ntmps7
  go_wp2_with fail
  refine KN.out.mono ?_
  rintro e w1 ⟨rfl, kb⟩
  have K1 := Lib.hid kb
  clear kb KN
  go_wp2_with fail
  refine (PM.out _).mono ?_
  rintro e w2 ⟨rfl, rfl⟩
  go_wp2_with fail
  refine (PU.out _).mono ?_
  rintro e w2 ⟨rfl, rfl⟩
  clear PM PU
  have MD := Lib.hid (made A n c zs M w1 (HI.out.bel K1.out) HN.out HZ.out HB.out.1 HB.out.2.1)
  have MI := Lib.hid (show Mi M n (mad M zs) from by
    have := mi_take HB.out.1 zs (by rw [HLN.out]; have := HN.out; omega) n (by rw [HLN.out]; exact Nat.le_refl _)
    rwa [List.take_of_length_le (by rw [HLN.out]; exact Nat.le_refl _)] at this)
  obtain ⟨l, hl⟩ : ∃ l, (mad M zs).1 = l := ⟨_, rfl⟩
  rw [hl] at MD
  have HOK := Lib.hid (show Ok l from ⟨by rw [← hl]; have := MI.out.len; have := HN.out; omega, by rw [← hl]; exact MI.out.srt⟩)
  have HLL := Lib.hid (show l.length ≤ 60 by rw [← hl]; have := MI.out.len; have := HN.out; omega)
  have HMX := Lib.hid (show ∀ r ∈ l, cr r ≤ 181 from fun r hr => by
    rw [← hl] at hr
    obtain ⟨j, hj⟩ := List.getElem?_of_mem hr
    have h1 := mi_max MI.out hj
    have := MI.out.hi
    have := HN.out
    omega)
  have HMO := Lib.hid (show ∀ o s d, (cnt l o s d : Int) ≤ M from by rw [← hl]; exact MI.out.most)
  have HW3 := Lib.hid (show ∀ r ∈ l, W3 r from by rw [← hl]; exact mi_w3 MI.out)
  clear hl MI
  go_wp2_with fail
  rw [HM_.out, HU_.out]
  refine MD.out.mono ?_
  rintro e w2 ⟨vl, rfl, ho, kb⟩
  have K2 := Lib.hid (K1.out.trans kb)
  obtain ⟨Al, cl, rfl, hrs⟩ := ho.slice
  obtain ⟨N, hN⟩ : ∃ N, l.length = N := ⟨_, rfl⟩
  rw [hN] at hrs HLL ⊢
  have R2 := Lib.hid hrs
  clear kb ho hrs MD K1
  go_wp2_with fail
  refine (PF.out _).mono ?_
  rintro e w3 ⟨rfl, rfl⟩
  go_wp2_with fail
  rw [HF_.out]
  refine (PL.out _).mono ?_
  rintro e w3 ⟨rfl, rfl⟩
  clear PF PL
  obtain ⟨q1, q2, q3⟩ := ripe_ok (h := F) (u := U) HOK.out (by have := HB.out; omega) (by have := HB.out; omega) (by have := HB.out; omega) (by have := HB.out; omega)
  have RP1 := Lib.hid (ripe Al N cl l F U w2 R2.out (by have := HLL.out; omega))
  unfold RipeR at RP1
  rw [q1, q2, q3] at RP1
  clear q1 q2 q3
  go_wp2_with fail
  refine RP1.out.mono ?_
  rintro e w3 ⟨A1, n1, g1, A2, n2, g2, rfl, hv, kb⟩
  have HV3 := Lib.hid hv
  have K3 := Lib.hid (K2.out.trans kb)
  have R3 := Lib.hid (R2.out.bel kb)
  have L1 := Lib.hid (show n1 ≤ 60 ∧ n2 ≤ 60 from by have h1 := hv.r1.len; have h2 := hv.r2.len; have := rip_len l (F - U); have := HLL.out; omega)
  clear kb hv RP1
  obtain ⟨q1, q2, q3⟩ := ripe_ok (l := lft l (F - U)) (h := G) (u := U) (ok_lft _ HOK.out) (by have := HB.out; omega) (by have := HB.out; omega) (by have := HB.out; omega) (by have := HB.out; omega)
  have RP2 := Lib.hid (ripe A2 n2 g2 (lft l (F - U)) G U w3 HV3.out.r2 (by have := L1.out; omega))
  unfold RipeR at RP2
  rw [q1, q2, q3] at RP2
  clear q1 q2 q3 wG
  go_wp2_with fail
  refine RP2.out.mono ?_
  rintro e w4 ⟨A3, n3, g3, A4, n4, g4, rfl, hv, kb⟩
  have HV4 := Lib.hid hv
  have HV3b := Lib.hid (HV3.out.bel kb)
  have K4 := Lib.hid (K3.out.trans kb)
  have R4_ := Lib.hid (R3.out.bel kb)
  have L2 := Lib.hid (show n3 ≤ 60 ∧ n4 ≤ 60 from by have h1 := hv.r1.len; have h2 := hv.r2.len; have := rip_len (lft l (F - U)) (G - U); have := rip_len l (F - U); have := HLL.out; omega)
  clear kb hv RP2 HV3 R3
  obtain ⟨q1, q2, q3⟩ := ripe_ok (h := G) (u := U) HOK.out (by have := HB.out; omega) (by have := HB.out; omega) (by have := HB.out; omega) (by have := HB.out; omega)
  have RP3 := Lib.hid (ripe Al N cl l G U w4 R4_.out (by have := HLL.out; omega))
  unfold RipeR at RP3
  rw [q1, q2, q3] at RP3
  clear q1 q2 q3
  go_wp2_with fail
  refine RP3.out.mono ?_
  rintro e w5 ⟨A5, n5, g5, A6, n6, g6, rfl, hv, kb⟩
  have HV5 := Lib.hid hv
  have HV4b := Lib.hid (HV4.out.bel kb)
  have HV3c := Lib.hid (HV3b.out.bel kb)
  have K5 := Lib.hid (K4.out.trans kb)
  have R5 := Lib.hid (R4_.out.bel kb)
  have L3 := Lib.hid (show n5 ≤ 60 ∧ n6 ≤ 60 from by have h1 := hv.r1.len; have h2 := hv.r2.len; have := rip_len l (G - U); have := HLL.out; omega)
  clear kb hv RP3 HV4 HV3b R4_
  have E1 := Lib.hid (rip_two l 0 (F - U) (G - U) HOK.out.2 (by have := HB.out; omega))
  have E2 := Lib.hid (lft_two l (F - U) (G - U) (by have := HB.out; omega))
  have E3 := Lib.hid (rip_lft l 0 (F - U) HOK.out.2)
  have LN1 := Lib.hid HV3c.out.r1.len
  have LN2 := Lib.hid HV3c.out.r2.len
  obtain ⟨la1, hla1⟩ : ∃ x, rip l (F - U) = x := ⟨_, rfl⟩
  obtain ⟨lb1, hlb1⟩ : ∃ x, lft l (F - U) = x := ⟨_, rfl⟩
  have HLA := Lib.hid hla1
  rw [hla1, hlb1] at HV3c E1 E3
  rw [hlb1] at HV4b E2
  rw [hla1] at LN1
  rw [hlb1] at LN2
  clear hla1 hlb1
  obtain ⟨lc, hlc⟩ : ∃ x, rip lb1 (G - U) = x := ⟨_, rfl⟩
  obtain ⟨ld, hld⟩ : ∃ x, lft lb1 (G - U) = x := ⟨_, rfl⟩
  obtain ⟨lx, hlx⟩ : ∃ x, rip l (G - U) = x := ⟨_, rfl⟩
  obtain ⟨ly, hly⟩ : ∃ x, lft l (G - U) = x := ⟨_, rfl⟩
  rw [hlc] at HV4b E1
  rw [hld] at HV4b E2
  rw [hlx] at HV5 E1
  rw [hly] at HV5 E2
  clear hlc hld hlx hly
  -- what is joined
  have C1 := Lib.hid (copy A1 n1 g1 la1 w5 HV3c.out.r1 (by have := L1.out; omega))
  go_wp2_with fail
  refine C1.out.mono ?_
  rintro e w6 ⟨v6, rfl, ho, kb⟩
  have O6 := Lib.hid ho
  have K6 := Lib.hid kb
  clear kb ho C1
  go_wp2_with (at_builtin; refine Rw.append_g hR (by rfl) _ _ _ 24 rfl underH zero_h rfl (by decide) w5.heap.size _ la1 rfl O6.out A3 n3 g3 lc rfl (HV4b.out.r1.bel K6.out) (by have := LN1.out; have := L1.out; have := L2.out; omega) (Below.size K6.out) ?_; intro v7_ w7_ hown' hgrow)
  have O7 := Lib.hid hown'
  have K7 := Lib.hid (show Bel w5 w7_ from Kk.Bel.grown K6.out hgrow (fun k hk => (O6.out.lt k hk).1))
  obtain ⟨A7, c7, hv7, hr7⟩ := O7.out.slice
  subst hv7
  clear hown' hgrow
  have S7 := Lib.hid (same_hops A7 A5 (la1 ++ lc).length c7 n5 g5 (la1 ++ lc) lx w7_ hr7 (HV5.out.r1.bel K7.out) (by rw [List.length_append]; have := LN1.out; have := HV4b.out.r1.len; have := L1.out; have := L2.out; omega) (by have := L3.out; omega))
  rw [decide_eq_true E1.out] at S7
  clear hr7
  go_wp2_with fail
  refine S7.out.mono ?_
  rintro e w8 ⟨rfl, kb⟩
  have K8 := Lib.hid (K7.out.trans kb)
  clear kb S7
  have S8 := Lib.hid (same_hops A4 A6 n4 g4 n6 g6 ld ly w8 (HV4b.out.r2.bel K8.out) (HV5.out.r2.bel K8.out) (by have := L2.out; omega) (by have := L3.out; omega))
  rw [decide_eq_true E2.out] at S8
  go_wp2_with fail
  refine S8.out.mono ?_
  rintro e w9 ⟨rfl, kb⟩
  have K9 := Lib.hid (K8.out.trans kb)
  clear kb S8
  have C2 := Lib.hid (copy A1 n1 g1 la1 w9 (HV3c.out.r1.bel K9.out) (by have := L1.out; omega))
  go_wp2_with fail
  refine C2.out.mono ?_
  rintro e wa ⟨va, rfl, ho, kb⟩
  have Oa := Lib.hid ho
  have Ka := Lib.hid kb
  clear kb ho C2
  go_wp2_with (at_builtin; refine Rw.append_g hR (by rfl) _ _ _ 24 rfl underH zero_h rfl (by decide) w9.heap.size _ la1 rfl Oa.out A2 n2 g2 lb1 rfl (HV3c.out.r2.bel (K9.out.trans Ka.out)) (by have := LN1.out; have := L1.out; have := L2.out; omega) (Below.size Ka.out) ?_; intro v7_ wb_ hown' hgrow)
  have Ob := Lib.hid hown'
  have Kb := Lib.hid (show Bel w9 wb_ from Kk.Bel.grown Ka.out hgrow (fun k hk => (Oa.out.lt k hk).1))
  obtain ⟨Ab, cb, hv7, hr7⟩ := Ob.out.slice
  subst hv7
  clear hown' hgrow
  have Sb := Lib.hid (same_hops Ab Al (la1 ++ lb1).length cb N cl (la1 ++ lb1) l wb_ hr7 (R5.out.bel (K9.out.trans Kb.out)) (by rw [List.length_append]; have := LN1.out; have := LN2.out; have := L1.out; omega) (by have := HLL.out; omega))
  rw [decide_eq_true E3.out] at Sb
  clear hr7
  go_wp2_with fail
  refine Sb.out.mono ?_
  rintro e wc ⟨rfl, kb⟩
  have Kc := Lib.hid (K9.out.trans (Kb.out.trans kb))
  clear kb Sb Ka Kb K6 K7 K8 K9 O6 O7 Oa Ob
  have Rc := Lib.hid (R5.out.bel Kc.out)
  have KC := Lib.hid (K5.out.trans Kc.out)
  clear R5 R2 K2 K3 K4 K5 Kc HV3c HV4b HV5 E1 E2 E3
  have HNN := Lib.hid hN
  clear hN
  go_wp2_with fail
  go_loopw [23] (fun s23 wr => ∃ i : Nat, s23 = .int .i64 i ∧ i ≤ N ∧ Hid (Bel wc wr)) (fun s23 _ => N - (intOf s23).toNat)
  case atStart => exact ⟨0, rfl, Nat.zero_le _, Lib.hid (Bel.refl _)⟩
  case round =>
    obtain ⟨i, rfl, hiN, hh⟩ := hrel
    by_cases hlt : i < N
    · have hlt3 : (i : Int) < N := by omega
      have hlt0 : (0 : Int) ≤ i := by omega
      have hN6 : N ≤ 60 := HLL.out
      obtain ⟨⟨r1, r2, r3, r4⟩, hr⟩ := Rc.out.get hlt
      obtain ⟨b, o, rfl, hb, hrow⟩ := (Rc.out.bel hh.out).at hlt hr
      have HROW := Lib.hid (show wr.rangeAt b (o + i * 4) [.int .i64 r1, .int .i64 r2, .int .i64 r3, .int .i64 r4] from hrow)
      have HIF := Lib.hid (show i < n1 ↔ r4 + U ≤ F from by
        have h1 := rip_iff (m := F - U) HOK.out.2 hr
        rw [HLA.out, LN1.out] at h1
        rw [h1]
        show r4 ≤ F - U ↔ _
        omega)
      have HBR := Lib.hid (show 1 ≤ r4 ∧ r4 ≤ 4294967296 from may_cr (srt_le l 0 HOK.out.2 _ (List.mem_of_getElem? hr)).1)
      have hwr : IntKind.i64.wrap (r4 + U) = r4 + U := IntWalk.i64_in _ (by have := HBR.out; have := HB.out; omega)
      have hw3 := HW3.out _ (List.mem_of_getElem? hr)
      have CT := Lib.hid (fun V (hv : Bel wr V) => count (some ⟨b, o, none⟩) N cl l r1 r2 r3 V (Rc.out.bel (hh.out.trans hv)) (by have := HLL.out; omega) HW3.out hw3.1 hw3.2.1 hw3.2.2)
      obtain ⟨C, hC⟩ : ∃ C, cnt l r1 r2 r3 = C := ⟨_, rfl⟩
      rw [hC] at CT
      have hCM : ¬ M < (C : Int) := by rw [← hC]; have := HMO.out r1 r2 r3; omega
      clear hr hrow hC hw3
      by_cases hq : i < n1
      · have hq3 : (i : Int) < n1 := by omega
        have hq4 : r4 + U ≤ F := HIF.out.1 hq
        go_upto_region 18 with fail
        refine wp_region_held_drew (S := fun Vx => Bel wr Vx) (by kernel_rfl) (Bel.refl _).drew (fun hS0 => ?_)
        obtain ⟨w6, hw6⟩ : ∃ w6, World.drew wr = w6 := ⟨_, rfl⟩
        rw [hw6] at hS0 ⊢
        clear hw6
        refine wpAnyH_take (i := 0) (oi := { dst := some 116, op := .move (.tmp 23), type := 3, pos := "outright.go:101", after := #[], guard := none }) (v := .int .i64 i) rfl (by kernel_rfl) (by kernel_rfl) (by kernel_rfl) (fun _ _ _ h => h) (Or.inl ⟨by rfl, by intro w hSw; clear hSw; go_simp⟩) hS0 ?_
        try simp only [Act.put, List.setIfInBounds_toArray, List.set_cons_zero, List.set_cons_succ]
        refine wpAnyH_take (i := 1) (oi := { dst := some 117, op := .move (.tmp 14), type := 22, pos := "outright.go:101", after := #[], guard := none }) (v := .slice A1 n1 g1) rfl (by kernel_rfl) (by kernel_rfl) (by kernel_rfl) (fun _ _ _ h => h) (Or.inl ⟨by rfl, by intro w hSw; clear hSw; go_simp⟩) hS0 ?_
        try simp only [Act.put, List.setIfInBounds_toArray, List.set_cons_zero, List.set_cons_succ]
        refine wpAnyH_take (i := 2) (oi := { dst := some 118, op := .call { callee := .builtin .len, args := #[.tmp 117], argTypes := #[22] }, type := 3, pos := "outright.go:101", after := #[{ on := 1, ground := .data }], guard := none }) (v := .int .i64 n1) rfl (by kernel_rfl) (by kernel_rfl) (by kernel_rfl) (fun _ _ _ h => h) (Or.inl ⟨by rfl, by intro w hSw; clear hSw; go_simp⟩) hS0 ?_
        try simp only [Act.put, List.setIfInBounds_toArray, List.set_cons_zero, List.set_cons_succ]
        refine wpAnyH_take (i := 3) (oi := { dst := some 119, op := .binOp .lss 3 (.tmp 116) (.tmp 118) 3, type := 4, pos := "outright.go:101", after := #[{ on := 0, ground := .data }, { on := 2, ground := .data }], guard := none }) (v := .bool true) rfl (by kernel_rfl) (by kernel_rfl) (by kernel_rfl) (fun _ _ _ h => h) (Or.inl ⟨by rfl, by intro w hSw; clear hSw; go_simp⟩) hS0 ?_
        try simp only [Act.put, List.setIfInBounds_toArray, List.set_cons_zero, List.set_cons_succ]
        refine wpAnyH_take (i := 4) (oi := { dst := some 120, op := .move (.tmp 12), type := 22, pos := "outright.go:101", after := #[], guard := none }) (v := .slice (some ⟨b, o, none⟩) N cl) rfl (by kernel_rfl) (by kernel_rfl) (by kernel_rfl) (fun _ _ _ h => h) (Or.inl ⟨by rfl, by intro w hSw; clear hSw; go_simp⟩) hS0 ?_
        try simp only [Act.put, List.setIfInBounds_toArray, List.set_cons_zero, List.set_cons_succ]
        refine wpAnyH_take (i := 5) (oi := { dst := some 121, op := .move (.tmp 23), type := 3, pos := "outright.go:101", after := #[], guard := none }) (v := .int .i64 i) rfl (by kernel_rfl) (by kernel_rfl) (by kernel_rfl) (fun _ _ _ h => h) (Or.inl ⟨by rfl, by intro w hSw; clear hSw; go_simp⟩) hS0 ?_
        try simp only [Act.put, List.setIfInBounds_toArray, List.set_cons_zero, List.set_cons_succ]
        refine wpAnyH_take (i := 6) (oi := { dst := some 122, op := .indexAddr 22 (.tmp 120) (.tmp 121), type := 0, pos := "outright.go:101", after := #[{ on := 4, ground := .data }, { on := 5, ground := .data }], guard := none }) (v := .pointer (some ⟨b, o + i * 4, none⟩)) rfl (by kernel_rfl) (by kernel_rfl) (by kernel_rfl) (fun _ _ _ h => h) (Or.inl ⟨by rfl, by intro w hSw; clear hSw; go_simp⟩) hS0 ?_
        try simp only [Act.put, List.setIfInBounds_toArray, List.set_cons_zero, List.set_cons_succ]
        refine wpAnyH_take (i := 7) (oi := { dst := some 123, op := .fieldAddr 24 (.tmp 122) 3, type := 0, pos := "outright.go:101", after := #[{ on := 6, ground := .data }], guard := none }) (v := .pointer (some ⟨b, o + i * 4 + 3, none⟩)) rfl (by kernel_rfl) (by kernel_rfl) (by kernel_rfl) (fun _ _ _ h => h) (Or.inl ⟨by rfl, by intro w hSw; clear hSw; go_simp⟩) hS0 ?_
        try simp only [Act.put, List.setIfInBounds_toArray, List.set_cons_zero, List.set_cons_succ]
        refine wpAnyH_take (i := 8) (oi := { dst := some 124, op := .load 3 (.tmp 123), type := 3, pos := "outright.go:101", after := #[{ on := 7, ground := .data }], guard := none }) (v := .int .i64 r4) rfl (by kernel_rfl) (by kernel_rfl) (by kernel_rfl) (fun _ _ _ h => h) (Or.inl ⟨by rfl, by intro w h; have hcell := ((rng4 (Pm.rng_bel HROW.out h)).2.2.2); clear h; go_simp⟩) hS0 ?_
        try simp only [Act.put, List.setIfInBounds_toArray, List.set_cons_zero, List.set_cons_succ]
        refine wpAnyH_take (i := 9) (oi := { dst := some 125, op := .move (.tmp 2), type := 3, pos := "outright.go:101", after := #[], guard := none }) (v := .int .i64 U) rfl (by kernel_rfl) (by kernel_rfl) (by kernel_rfl) (fun _ _ _ h => h) (Or.inl ⟨by rfl, by intro w hSw; clear hSw; go_simp⟩) hS0 ?_
        try simp only [Act.put, List.setIfInBounds_toArray, List.set_cons_zero, List.set_cons_succ]
        refine wpAnyH_take (i := 10) (oi := { dst := some 126, op := .binOp .add 3 (.tmp 124) (.tmp 125) 3, type := 3, pos := "outright.go:101", after := #[{ on := 8, ground := .data }, { on := 9, ground := .data }], guard := none }) (v := .int .i64 (r4 + U)) rfl (by kernel_rfl) (by kernel_rfl) (by kernel_rfl) (fun _ _ _ h => h) (Or.inl ⟨by rfl, by intro w hSw; clear hSw; go_simp⟩) hS0 ?_
        try simp only [Act.put, List.setIfInBounds_toArray, List.set_cons_zero, List.set_cons_succ]
        refine wpAnyH_take (i := 11) (oi := { dst := some 127, op := .move (.tmp 3), type := 3, pos := "outright.go:101", after := #[], guard := none }) (v := .int .i64 F) rfl (by kernel_rfl) (by kernel_rfl) (by kernel_rfl) (fun _ _ _ h => h) (Or.inl ⟨by rfl, by intro w hSw; clear hSw; go_simp⟩) hS0 ?_
        try simp only [Act.put, List.setIfInBounds_toArray, List.set_cons_zero, List.set_cons_succ]
        refine wpAnyH_take (i := 12) (oi := { dst := some 128, op := .binOp .leq 3 (.tmp 126) (.tmp 127) 3, type := 4, pos := "outright.go:101", after := #[{ on := 10, ground := .data }, { on := 11, ground := .data }], guard := none }) (v := .bool true) rfl (by kernel_rfl) (by kernel_rfl) (by kernel_rfl) (fun _ _ _ h => h) (Or.inl ⟨by rfl, by intro w hSw; clear hSw; go_simp⟩) hS0 ?_
        try simp only [Act.put, List.setIfInBounds_toArray, List.set_cons_zero, List.set_cons_succ]
        refine wpAnyH_take (i := 13) (oi := { dst := some 129, op := .binOp .neq 4 (.tmp 119) (.tmp 128) 4, type := 4, pos := "outright.go:101", after := #[{ on := 3, ground := .data }, { on := 12, ground := .data }], guard := none }) (v := .bool false) rfl (by kernel_rfl) (by kernel_rfl) (by kernel_rfl) (fun _ _ _ h => h) (Or.inl ⟨by rfl, by intro w hSw; clear hSw; go_simp⟩) hS0 ?_
        try simp only [Act.put, List.setIfInBounds_toArray, List.set_cons_zero, List.set_cons_succ]
        refine wpAnyH_take (i := 14) (oi := { dst := some 130, op := .move (.tmp 129), type := 4, pos := "outright.go:101", after := #[{ on := 13, ground := .data }], guard := none }) (v := .bool false) rfl (by kernel_rfl) (by kernel_rfl) (by kernel_rfl) (fun _ _ _ h => h) (Or.inl ⟨by rfl, by intro w hSw; clear hSw; go_simp⟩) hS0 ?_
        try simp only [Act.put, List.setIfInBounds_toArray, List.set_cons_zero, List.set_cons_succ]
        refine wpAnyH_take (i := 15) (oi := { dst := some 131, op := .move (.tmp 12), type := 22, pos := "outright.go:101", after := #[{ on := 14, ground := .guard }], guard := some (14, false) }) (v := .slice (some ⟨b, o, none⟩) N cl) rfl (by kernel_rfl) (by kernel_rfl) (by kernel_rfl) (fun _ _ _ h => h) (Or.inl ⟨by rfl, by intro w hSw; clear hSw; go_simp⟩) hS0 ?_
        try simp only [Act.put, List.setIfInBounds_toArray, List.set_cons_zero, List.set_cons_succ]
        refine wpAnyH_take (i := 16) (oi := { dst := some 132, op := .move (.tmp 12), type := 22, pos := "outright.go:101", after := #[{ on := 14, ground := .guard }], guard := some (14, false) }) (v := .slice (some ⟨b, o, none⟩) N cl) rfl (by kernel_rfl) (by kernel_rfl) (by kernel_rfl) (fun _ _ _ h => h) (Or.inl ⟨by rfl, by intro w hSw; clear hSw; go_simp⟩) hS0 ?_
        try simp only [Act.put, List.setIfInBounds_toArray, List.set_cons_zero, List.set_cons_succ]
        refine wpAnyH_take (i := 17) (oi := { dst := some 133, op := .move (.tmp 23), type := 3, pos := "outright.go:101", after := #[{ on := 14, ground := .guard }], guard := some (14, false) }) (v := .int .i64 i) rfl (by kernel_rfl) (by kernel_rfl) (by kernel_rfl) (fun _ _ _ h => h) (Or.inl ⟨by rfl, by intro w hSw; clear hSw; go_simp⟩) hS0 ?_
        try simp only [Act.put, List.setIfInBounds_toArray, List.set_cons_zero, List.set_cons_succ]
        refine wpAnyH_take (i := 18) (oi := { dst := some 134, op := .indexAddr 22 (.tmp 132) (.tmp 133), type := 0, pos := "outright.go:101", after := #[{ on := 16, ground := .data }, { on := 17, ground := .data }, { on := 14, ground := .guard }], guard := some (14, false) }) (v := .pointer (some ⟨b, o + i * 4, none⟩)) rfl (by kernel_rfl) (by kernel_rfl) (by kernel_rfl) (fun _ _ _ h => h) (Or.inl ⟨by rfl, by intro w hSw; clear hSw; go_simp⟩) hS0 ?_
        try simp only [Act.put, List.setIfInBounds_toArray, List.set_cons_zero, List.set_cons_succ]
        refine wpAnyH_take (i := 19) (oi := { dst := some 135, op := .fieldAddr 24 (.tmp 134) 0, type := 0, pos := "outright.go:101", after := #[{ on := 18, ground := .data }, { on := 14, ground := .guard }], guard := some (14, false) }) (v := .pointer (some ⟨b, o + i * 4, none⟩)) rfl (by kernel_rfl) (by kernel_rfl) (by kernel_rfl) (fun _ _ _ h => h) (Or.inl ⟨by rfl, by intro w hSw; clear hSw; go_simp⟩) hS0 ?_
        try simp only [Act.put, List.setIfInBounds_toArray, List.set_cons_zero, List.set_cons_succ]
        refine wpAnyH_take (i := 20) (oi := { dst := some 136, op := .load 3 (.tmp 135), type := 3, pos := "outright.go:101", after := #[{ on := 19, ground := .data }, { on := 14, ground := .guard }], guard := some (14, false) }) (v := .int .i64 r1) rfl (by kernel_rfl) (by kernel_rfl) (by kernel_rfl) (fun _ _ _ h => h) (Or.inl ⟨by rfl, by intro w h; have hcell := ((rng4 (Pm.rng_bel HROW.out h)).1); clear h; go_simp⟩) hS0 ?_
        try simp only [Act.put, List.setIfInBounds_toArray, List.set_cons_zero, List.set_cons_succ]
        refine wpAnyH_take (i := 21) (oi := { dst := some 137, op := .move (.tmp 12), type := 22, pos := "outright.go:101", after := #[{ on := 14, ground := .guard }], guard := some (14, false) }) (v := .slice (some ⟨b, o, none⟩) N cl) rfl (by kernel_rfl) (by kernel_rfl) (by kernel_rfl) (fun _ _ _ h => h) (Or.inl ⟨by rfl, by intro w hSw; clear hSw; go_simp⟩) hS0 ?_
        try simp only [Act.put, List.setIfInBounds_toArray, List.set_cons_zero, List.set_cons_succ]
        refine wpAnyH_take (i := 22) (oi := { dst := some 138, op := .move (.tmp 23), type := 3, pos := "outright.go:101", after := #[{ on := 14, ground := .guard }], guard := some (14, false) }) (v := .int .i64 i) rfl (by kernel_rfl) (by kernel_rfl) (by kernel_rfl) (fun _ _ _ h => h) (Or.inl ⟨by rfl, by intro w hSw; clear hSw; go_simp⟩) hS0 ?_
        try simp only [Act.put, List.setIfInBounds_toArray, List.set_cons_zero, List.set_cons_succ]
        refine wpAnyH_take (i := 23) (oi := { dst := some 139, op := .indexAddr 22 (.tmp 137) (.tmp 138), type := 0, pos := "outright.go:101", after := #[{ on := 21, ground := .data }, { on := 22, ground := .data }, { on := 14, ground := .guard }], guard := some (14, false) }) (v := .pointer (some ⟨b, o + i * 4, none⟩)) rfl (by kernel_rfl) (by kernel_rfl) (by kernel_rfl) (fun _ _ _ h => h) (Or.inl ⟨by rfl, by intro w hSw; clear hSw; go_simp⟩) hS0 ?_
        try simp only [Act.put, List.setIfInBounds_toArray, List.set_cons_zero, List.set_cons_succ]
        refine wpAnyH_take (i := 24) (oi := { dst := some 140, op := .fieldAddr 24 (.tmp 139) 1, type := 0, pos := "outright.go:101", after := #[{ on := 23, ground := .data }, { on := 14, ground := .guard }], guard := some (14, false) }) (v := .pointer (some ⟨b, o + i * 4 + 1, none⟩)) rfl (by kernel_rfl) (by kernel_rfl) (by kernel_rfl) (fun _ _ _ h => h) (Or.inl ⟨by rfl, by intro w hSw; clear hSw; go_simp⟩) hS0 ?_
        try simp only [Act.put, List.setIfInBounds_toArray, List.set_cons_zero, List.set_cons_succ]
        refine wpAnyH_take (i := 25) (oi := { dst := some 141, op := .load 3 (.tmp 140), type := 3, pos := "outright.go:101", after := #[{ on := 24, ground := .data }, { on := 14, ground := .guard }], guard := some (14, false) }) (v := .int .i64 r2) rfl (by kernel_rfl) (by kernel_rfl) (by kernel_rfl) (fun _ _ _ h => h) (Or.inl ⟨by rfl, by intro w h; have hcell := ((rng4 (Pm.rng_bel HROW.out h)).2.1); clear h; go_simp⟩) hS0 ?_
        try simp only [Act.put, List.setIfInBounds_toArray, List.set_cons_zero, List.set_cons_succ]
        refine wpAnyH_take (i := 26) (oi := { dst := some 142, op := .move (.tmp 12), type := 22, pos := "outright.go:101", after := #[{ on := 14, ground := .guard }], guard := some (14, false) }) (v := .slice (some ⟨b, o, none⟩) N cl) rfl (by kernel_rfl) (by kernel_rfl) (by kernel_rfl) (fun _ _ _ h => h) (Or.inl ⟨by rfl, by intro w hSw; clear hSw; go_simp⟩) hS0 ?_
        try simp only [Act.put, List.setIfInBounds_toArray, List.set_cons_zero, List.set_cons_succ]
        refine wpAnyH_take (i := 27) (oi := { dst := some 143, op := .move (.tmp 23), type := 3, pos := "outright.go:101", after := #[{ on := 14, ground := .guard }], guard := some (14, false) }) (v := .int .i64 i) rfl (by kernel_rfl) (by kernel_rfl) (by kernel_rfl) (fun _ _ _ h => h) (Or.inl ⟨by rfl, by intro w hSw; clear hSw; go_simp⟩) hS0 ?_
        try simp only [Act.put, List.setIfInBounds_toArray, List.set_cons_zero, List.set_cons_succ]
        refine wpAnyH_take (i := 28) (oi := { dst := some 144, op := .indexAddr 22 (.tmp 142) (.tmp 143), type := 0, pos := "outright.go:101", after := #[{ on := 26, ground := .data }, { on := 27, ground := .data }, { on := 14, ground := .guard }], guard := some (14, false) }) (v := .pointer (some ⟨b, o + i * 4, none⟩)) rfl (by kernel_rfl) (by kernel_rfl) (by kernel_rfl) (fun _ _ _ h => h) (Or.inl ⟨by rfl, by intro w hSw; clear hSw; go_simp⟩) hS0 ?_
        try simp only [Act.put, List.setIfInBounds_toArray, List.set_cons_zero, List.set_cons_succ]
        refine wpAnyH_take (i := 29) (oi := { dst := some 145, op := .fieldAddr 24 (.tmp 144) 2, type := 0, pos := "outright.go:101", after := #[{ on := 28, ground := .data }, { on := 14, ground := .guard }], guard := some (14, false) }) (v := .pointer (some ⟨b, o + i * 4 + 2, none⟩)) rfl (by kernel_rfl) (by kernel_rfl) (by kernel_rfl) (fun _ _ _ h => h) (Or.inl ⟨by rfl, by intro w hSw; clear hSw; go_simp⟩) hS0 ?_
        try simp only [Act.put, List.setIfInBounds_toArray, List.set_cons_zero, List.set_cons_succ]
        refine wpAnyH_take (i := 30) (oi := { dst := some 146, op := .load 3 (.tmp 145), type := 3, pos := "outright.go:101", after := #[{ on := 29, ground := .data }, { on := 14, ground := .guard }], guard := some (14, false) }) (v := .int .i64 r3) rfl (by kernel_rfl) (by kernel_rfl) (by kernel_rfl) (fun _ _ _ h => h) (Or.inl ⟨by rfl, by intro w h; have hcell := ((rng4 (Pm.rng_bel HROW.out h)).2.2.1); clear h; go_simp⟩) hS0 ?_
        try simp only [Act.put, List.setIfInBounds_toArray, List.set_cons_zero, List.set_cons_succ]
        refine wpAnyH_take (i := 32) (oi := { dst := some 148, op := .move (.tmp 1), type := 3, pos := "outright.go:101", after := #[{ on := 14, ground := .guard }], guard := some (14, false) }) (v := .int .i64 M) rfl (by kernel_rfl) (by kernel_rfl) (by kernel_rfl) (fun _ _ _ h => h) (Or.inl ⟨by rfl, by intro w hSw; clear hSw; go_simp⟩) hS0 ?_
        try simp only [Act.put, List.setIfInBounds_toArray, List.set_cons_zero, List.set_cons_succ]
        refine wpAnyH_ready (rs := [31]) (by kernel_rfl) (by simp) ?_
        refine AllReadyH.cons (o := { dst := some 147, op := .call { callee := .value (.func 15), args := #[.tmp 131, .tmp 136, .tmp 141, .tmp 146], argTypes := #[22, 3, 3, 3] }, type := 3, pos := "outright.go:101", after := #[{ on := 15, ground := .data }, { on := 20, ground := .data }, { on := 25, ground := .data }, { on := 30, ground := .data }, { on := 14, ground := .chain }, { on := 14, ground := .guard }], guard := some (14, false) }) rfl (fun K hK => ?_) AllReadyH.nil
        go_simp
        refine (CT.out _ hS0).mono ?_
        rintro e v1 ⟨rfl, kb⟩
        go_wp2_with fail
        refine hK.out _ _ (hS0.trans kb) (fun hS1 => ?_)
        clear hK K
        try simp only [Act.put, List.setIfInBounds_toArray, List.set_cons_zero, List.set_cons_succ]
        refine wpAnyH_take (i := 33) (oi := { dst := some 149, op := .binOp .gtr 3 (.tmp 147) (.tmp 148) 3, type := 4, pos := "outright.go:101", after := #[{ on := 31, ground := .data }, { on := 32, ground := .data }, { on := 14, ground := .guard }], guard := some (14, false) }) (v := .bool false) rfl (by kernel_rfl) (by kernel_rfl) (by kernel_rfl) (fun _ _ _ h => h) (Or.inl ⟨by rfl, by intro w hSw; clear hSw; go_simp⟩) hS1 ?_
        try simp only [Act.put, List.setIfInBounds_toArray, List.set_cons_zero, List.set_cons_succ]
        refine wpAnyH_take (i := 34) (oi := { dst := some 150, op := .pick (.tmp 130) (.const (Value.bool true)) (.tmp 149), type := 4, pos := "outright.go:101", after := #[{ on := 14, ground := .data }, { on := 33, ground := .data }], guard := none }) (v := .bool false) rfl (by kernel_rfl) (by kernel_rfl) (by kernel_rfl) (fun _ _ _ h => h) (Or.inl ⟨by rfl, by intro w hSw; clear hSw; go_simp⟩) hS1 ?_
        try simp only [Act.put, List.setIfInBounds_toArray, List.set_cons_zero, List.set_cons_succ]
        refine wpAnyH_done (by kernel_rfl) ?_ _
        have KR := Lib.hid (show Bel wc v1 from hh.out.trans hS1)
        go_wp2_with fail
        go_roundw
        case rel => exact ⟨i + 1, by go_num, by omega, KR⟩
        case measure => simp [intOf]; omega
      · have hq3 : ¬ (i : Int) < n1 := by omega
        have hq4 : ¬ r4 + U ≤ F := fun h => hq (HIF.out.2 h)
        go_upto_region 18 with fail
        refine wp_region_held_drew (S := fun Vx => Bel wr Vx) (by kernel_rfl) (Bel.refl _).drew (fun hS0 => ?_)
        obtain ⟨w6, hw6⟩ : ∃ w6, World.drew wr = w6 := ⟨_, rfl⟩
        rw [hw6] at hS0 ⊢
        clear hw6
        refine wpAnyH_take (i := 0) (oi := { dst := some 116, op := .move (.tmp 23), type := 3, pos := "outright.go:101", after := #[], guard := none }) (v := .int .i64 i) rfl (by kernel_rfl) (by kernel_rfl) (by kernel_rfl) (fun _ _ _ h => h) (Or.inl ⟨by rfl, by intro w hSw; clear hSw; go_simp⟩) hS0 ?_
        try simp only [Act.put, List.setIfInBounds_toArray, List.set_cons_zero, List.set_cons_succ]
        refine wpAnyH_take (i := 1) (oi := { dst := some 117, op := .move (.tmp 14), type := 22, pos := "outright.go:101", after := #[], guard := none }) (v := .slice A1 n1 g1) rfl (by kernel_rfl) (by kernel_rfl) (by kernel_rfl) (fun _ _ _ h => h) (Or.inl ⟨by rfl, by intro w hSw; clear hSw; go_simp⟩) hS0 ?_
        try simp only [Act.put, List.setIfInBounds_toArray, List.set_cons_zero, List.set_cons_succ]
        refine wpAnyH_take (i := 2) (oi := { dst := some 118, op := .call { callee := .builtin .len, args := #[.tmp 117], argTypes := #[22] }, type := 3, pos := "outright.go:101", after := #[{ on := 1, ground := .data }], guard := none }) (v := .int .i64 n1) rfl (by kernel_rfl) (by kernel_rfl) (by kernel_rfl) (fun _ _ _ h => h) (Or.inl ⟨by rfl, by intro w hSw; clear hSw; go_simp⟩) hS0 ?_
        try simp only [Act.put, List.setIfInBounds_toArray, List.set_cons_zero, List.set_cons_succ]
        refine wpAnyH_take (i := 3) (oi := { dst := some 119, op := .binOp .lss 3 (.tmp 116) (.tmp 118) 3, type := 4, pos := "outright.go:101", after := #[{ on := 0, ground := .data }, { on := 2, ground := .data }], guard := none }) (v := .bool false) rfl (by kernel_rfl) (by kernel_rfl) (by kernel_rfl) (fun _ _ _ h => h) (Or.inl ⟨by rfl, by intro w hSw; clear hSw; go_simp⟩) hS0 ?_
        try simp only [Act.put, List.setIfInBounds_toArray, List.set_cons_zero, List.set_cons_succ]
        refine wpAnyH_take (i := 4) (oi := { dst := some 120, op := .move (.tmp 12), type := 22, pos := "outright.go:101", after := #[], guard := none }) (v := .slice (some ⟨b, o, none⟩) N cl) rfl (by kernel_rfl) (by kernel_rfl) (by kernel_rfl) (fun _ _ _ h => h) (Or.inl ⟨by rfl, by intro w hSw; clear hSw; go_simp⟩) hS0 ?_
        try simp only [Act.put, List.setIfInBounds_toArray, List.set_cons_zero, List.set_cons_succ]
        refine wpAnyH_take (i := 5) (oi := { dst := some 121, op := .move (.tmp 23), type := 3, pos := "outright.go:101", after := #[], guard := none }) (v := .int .i64 i) rfl (by kernel_rfl) (by kernel_rfl) (by kernel_rfl) (fun _ _ _ h => h) (Or.inl ⟨by rfl, by intro w hSw; clear hSw; go_simp⟩) hS0 ?_
        try simp only [Act.put, List.setIfInBounds_toArray, List.set_cons_zero, List.set_cons_succ]
        refine wpAnyH_take (i := 6) (oi := { dst := some 122, op := .indexAddr 22 (.tmp 120) (.tmp 121), type := 0, pos := "outright.go:101", after := #[{ on := 4, ground := .data }, { on := 5, ground := .data }], guard := none }) (v := .pointer (some ⟨b, o + i * 4, none⟩)) rfl (by kernel_rfl) (by kernel_rfl) (by kernel_rfl) (fun _ _ _ h => h) (Or.inl ⟨by rfl, by intro w hSw; clear hSw; go_simp⟩) hS0 ?_
        try simp only [Act.put, List.setIfInBounds_toArray, List.set_cons_zero, List.set_cons_succ]
        refine wpAnyH_take (i := 7) (oi := { dst := some 123, op := .fieldAddr 24 (.tmp 122) 3, type := 0, pos := "outright.go:101", after := #[{ on := 6, ground := .data }], guard := none }) (v := .pointer (some ⟨b, o + i * 4 + 3, none⟩)) rfl (by kernel_rfl) (by kernel_rfl) (by kernel_rfl) (fun _ _ _ h => h) (Or.inl ⟨by rfl, by intro w hSw; clear hSw; go_simp⟩) hS0 ?_
        try simp only [Act.put, List.setIfInBounds_toArray, List.set_cons_zero, List.set_cons_succ]
        refine wpAnyH_take (i := 8) (oi := { dst := some 124, op := .load 3 (.tmp 123), type := 3, pos := "outright.go:101", after := #[{ on := 7, ground := .data }], guard := none }) (v := .int .i64 r4) rfl (by kernel_rfl) (by kernel_rfl) (by kernel_rfl) (fun _ _ _ h => h) (Or.inl ⟨by rfl, by intro w h; have hcell := ((rng4 (Pm.rng_bel HROW.out h)).2.2.2); clear h; go_simp⟩) hS0 ?_
        try simp only [Act.put, List.setIfInBounds_toArray, List.set_cons_zero, List.set_cons_succ]
        refine wpAnyH_take (i := 9) (oi := { dst := some 125, op := .move (.tmp 2), type := 3, pos := "outright.go:101", after := #[], guard := none }) (v := .int .i64 U) rfl (by kernel_rfl) (by kernel_rfl) (by kernel_rfl) (fun _ _ _ h => h) (Or.inl ⟨by rfl, by intro w hSw; clear hSw; go_simp⟩) hS0 ?_
        try simp only [Act.put, List.setIfInBounds_toArray, List.set_cons_zero, List.set_cons_succ]
        refine wpAnyH_take (i := 10) (oi := { dst := some 126, op := .binOp .add 3 (.tmp 124) (.tmp 125) 3, type := 3, pos := "outright.go:101", after := #[{ on := 8, ground := .data }, { on := 9, ground := .data }], guard := none }) (v := .int .i64 (r4 + U)) rfl (by kernel_rfl) (by kernel_rfl) (by kernel_rfl) (fun _ _ _ h => h) (Or.inl ⟨by rfl, by intro w hSw; clear hSw; go_simp⟩) hS0 ?_
        try simp only [Act.put, List.setIfInBounds_toArray, List.set_cons_zero, List.set_cons_succ]
        refine wpAnyH_take (i := 11) (oi := { dst := some 127, op := .move (.tmp 3), type := 3, pos := "outright.go:101", after := #[], guard := none }) (v := .int .i64 F) rfl (by kernel_rfl) (by kernel_rfl) (by kernel_rfl) (fun _ _ _ h => h) (Or.inl ⟨by rfl, by intro w hSw; clear hSw; go_simp⟩) hS0 ?_
        try simp only [Act.put, List.setIfInBounds_toArray, List.set_cons_zero, List.set_cons_succ]
        refine wpAnyH_take (i := 12) (oi := { dst := some 128, op := .binOp .leq 3 (.tmp 126) (.tmp 127) 3, type := 4, pos := "outright.go:101", after := #[{ on := 10, ground := .data }, { on := 11, ground := .data }], guard := none }) (v := .bool false) rfl (by kernel_rfl) (by kernel_rfl) (by kernel_rfl) (fun _ _ _ h => h) (Or.inl ⟨by rfl, by intro w hSw; clear hSw; go_simp⟩) hS0 ?_
        try simp only [Act.put, List.setIfInBounds_toArray, List.set_cons_zero, List.set_cons_succ]
        refine wpAnyH_take (i := 13) (oi := { dst := some 129, op := .binOp .neq 4 (.tmp 119) (.tmp 128) 4, type := 4, pos := "outright.go:101", after := #[{ on := 3, ground := .data }, { on := 12, ground := .data }], guard := none }) (v := .bool false) rfl (by kernel_rfl) (by kernel_rfl) (by kernel_rfl) (fun _ _ _ h => h) (Or.inl ⟨by rfl, by intro w hSw; clear hSw; go_simp⟩) hS0 ?_
        try simp only [Act.put, List.setIfInBounds_toArray, List.set_cons_zero, List.set_cons_succ]
        refine wpAnyH_take (i := 14) (oi := { dst := some 130, op := .move (.tmp 129), type := 4, pos := "outright.go:101", after := #[{ on := 13, ground := .data }], guard := none }) (v := .bool false) rfl (by kernel_rfl) (by kernel_rfl) (by kernel_rfl) (fun _ _ _ h => h) (Or.inl ⟨by rfl, by intro w hSw; clear hSw; go_simp⟩) hS0 ?_
        try simp only [Act.put, List.setIfInBounds_toArray, List.set_cons_zero, List.set_cons_succ]
        refine wpAnyH_take (i := 15) (oi := { dst := some 131, op := .move (.tmp 12), type := 22, pos := "outright.go:101", after := #[{ on := 14, ground := .guard }], guard := some (14, false) }) (v := .slice (some ⟨b, o, none⟩) N cl) rfl (by kernel_rfl) (by kernel_rfl) (by kernel_rfl) (fun _ _ _ h => h) (Or.inl ⟨by rfl, by intro w hSw; clear hSw; go_simp⟩) hS0 ?_
        try simp only [Act.put, List.setIfInBounds_toArray, List.set_cons_zero, List.set_cons_succ]
        refine wpAnyH_take (i := 16) (oi := { dst := some 132, op := .move (.tmp 12), type := 22, pos := "outright.go:101", after := #[{ on := 14, ground := .guard }], guard := some (14, false) }) (v := .slice (some ⟨b, o, none⟩) N cl) rfl (by kernel_rfl) (by kernel_rfl) (by kernel_rfl) (fun _ _ _ h => h) (Or.inl ⟨by rfl, by intro w hSw; clear hSw; go_simp⟩) hS0 ?_
        try simp only [Act.put, List.setIfInBounds_toArray, List.set_cons_zero, List.set_cons_succ]
        refine wpAnyH_take (i := 17) (oi := { dst := some 133, op := .move (.tmp 23), type := 3, pos := "outright.go:101", after := #[{ on := 14, ground := .guard }], guard := some (14, false) }) (v := .int .i64 i) rfl (by kernel_rfl) (by kernel_rfl) (by kernel_rfl) (fun _ _ _ h => h) (Or.inl ⟨by rfl, by intro w hSw; clear hSw; go_simp⟩) hS0 ?_
        try simp only [Act.put, List.setIfInBounds_toArray, List.set_cons_zero, List.set_cons_succ]
        refine wpAnyH_take (i := 18) (oi := { dst := some 134, op := .indexAddr 22 (.tmp 132) (.tmp 133), type := 0, pos := "outright.go:101", after := #[{ on := 16, ground := .data }, { on := 17, ground := .data }, { on := 14, ground := .guard }], guard := some (14, false) }) (v := .pointer (some ⟨b, o + i * 4, none⟩)) rfl (by kernel_rfl) (by kernel_rfl) (by kernel_rfl) (fun _ _ _ h => h) (Or.inl ⟨by rfl, by intro w hSw; clear hSw; go_simp⟩) hS0 ?_
        try simp only [Act.put, List.setIfInBounds_toArray, List.set_cons_zero, List.set_cons_succ]
        refine wpAnyH_take (i := 19) (oi := { dst := some 135, op := .fieldAddr 24 (.tmp 134) 0, type := 0, pos := "outright.go:101", after := #[{ on := 18, ground := .data }, { on := 14, ground := .guard }], guard := some (14, false) }) (v := .pointer (some ⟨b, o + i * 4, none⟩)) rfl (by kernel_rfl) (by kernel_rfl) (by kernel_rfl) (fun _ _ _ h => h) (Or.inl ⟨by rfl, by intro w hSw; clear hSw; go_simp⟩) hS0 ?_
        try simp only [Act.put, List.setIfInBounds_toArray, List.set_cons_zero, List.set_cons_succ]
        refine wpAnyH_take (i := 20) (oi := { dst := some 136, op := .load 3 (.tmp 135), type := 3, pos := "outright.go:101", after := #[{ on := 19, ground := .data }, { on := 14, ground := .guard }], guard := some (14, false) }) (v := .int .i64 r1) rfl (by kernel_rfl) (by kernel_rfl) (by kernel_rfl) (fun _ _ _ h => h) (Or.inl ⟨by rfl, by intro w h; have hcell := ((rng4 (Pm.rng_bel HROW.out h)).1); clear h; go_simp⟩) hS0 ?_
        try simp only [Act.put, List.setIfInBounds_toArray, List.set_cons_zero, List.set_cons_succ]
        refine wpAnyH_take (i := 21) (oi := { dst := some 137, op := .move (.tmp 12), type := 22, pos := "outright.go:101", after := #[{ on := 14, ground := .guard }], guard := some (14, false) }) (v := .slice (some ⟨b, o, none⟩) N cl) rfl (by kernel_rfl) (by kernel_rfl) (by kernel_rfl) (fun _ _ _ h => h) (Or.inl ⟨by rfl, by intro w hSw; clear hSw; go_simp⟩) hS0 ?_
        try simp only [Act.put, List.setIfInBounds_toArray, List.set_cons_zero, List.set_cons_succ]
        refine wpAnyH_take (i := 22) (oi := { dst := some 138, op := .move (.tmp 23), type := 3, pos := "outright.go:101", after := #[{ on := 14, ground := .guard }], guard := some (14, false) }) (v := .int .i64 i) rfl (by kernel_rfl) (by kernel_rfl) (by kernel_rfl) (fun _ _ _ h => h) (Or.inl ⟨by rfl, by intro w hSw; clear hSw; go_simp⟩) hS0 ?_
        try simp only [Act.put, List.setIfInBounds_toArray, List.set_cons_zero, List.set_cons_succ]
        refine wpAnyH_take (i := 23) (oi := { dst := some 139, op := .indexAddr 22 (.tmp 137) (.tmp 138), type := 0, pos := "outright.go:101", after := #[{ on := 21, ground := .data }, { on := 22, ground := .data }, { on := 14, ground := .guard }], guard := some (14, false) }) (v := .pointer (some ⟨b, o + i * 4, none⟩)) rfl (by kernel_rfl) (by kernel_rfl) (by kernel_rfl) (fun _ _ _ h => h) (Or.inl ⟨by rfl, by intro w hSw; clear hSw; go_simp⟩) hS0 ?_
        try simp only [Act.put, List.setIfInBounds_toArray, List.set_cons_zero, List.set_cons_succ]
        refine wpAnyH_take (i := 24) (oi := { dst := some 140, op := .fieldAddr 24 (.tmp 139) 1, type := 0, pos := "outright.go:101", after := #[{ on := 23, ground := .data }, { on := 14, ground := .guard }], guard := some (14, false) }) (v := .pointer (some ⟨b, o + i * 4 + 1, none⟩)) rfl (by kernel_rfl) (by kernel_rfl) (by kernel_rfl) (fun _ _ _ h => h) (Or.inl ⟨by rfl, by intro w hSw; clear hSw; go_simp⟩) hS0 ?_
        try simp only [Act.put, List.setIfInBounds_toArray, List.set_cons_zero, List.set_cons_succ]
        refine wpAnyH_take (i := 25) (oi := { dst := some 141, op := .load 3 (.tmp 140), type := 3, pos := "outright.go:101", after := #[{ on := 24, ground := .data }, { on := 14, ground := .guard }], guard := some (14, false) }) (v := .int .i64 r2) rfl (by kernel_rfl) (by kernel_rfl) (by kernel_rfl) (fun _ _ _ h => h) (Or.inl ⟨by rfl, by intro w h; have hcell := ((rng4 (Pm.rng_bel HROW.out h)).2.1); clear h; go_simp⟩) hS0 ?_
        try simp only [Act.put, List.setIfInBounds_toArray, List.set_cons_zero, List.set_cons_succ]
        refine wpAnyH_take (i := 26) (oi := { dst := some 142, op := .move (.tmp 12), type := 22, pos := "outright.go:101", after := #[{ on := 14, ground := .guard }], guard := some (14, false) }) (v := .slice (some ⟨b, o, none⟩) N cl) rfl (by kernel_rfl) (by kernel_rfl) (by kernel_rfl) (fun _ _ _ h => h) (Or.inl ⟨by rfl, by intro w hSw; clear hSw; go_simp⟩) hS0 ?_
        try simp only [Act.put, List.setIfInBounds_toArray, List.set_cons_zero, List.set_cons_succ]
        refine wpAnyH_take (i := 27) (oi := { dst := some 143, op := .move (.tmp 23), type := 3, pos := "outright.go:101", after := #[{ on := 14, ground := .guard }], guard := some (14, false) }) (v := .int .i64 i) rfl (by kernel_rfl) (by kernel_rfl) (by kernel_rfl) (fun _ _ _ h => h) (Or.inl ⟨by rfl, by intro w hSw; clear hSw; go_simp⟩) hS0 ?_
        try simp only [Act.put, List.setIfInBounds_toArray, List.set_cons_zero, List.set_cons_succ]
        refine wpAnyH_take (i := 28) (oi := { dst := some 144, op := .indexAddr 22 (.tmp 142) (.tmp 143), type := 0, pos := "outright.go:101", after := #[{ on := 26, ground := .data }, { on := 27, ground := .data }, { on := 14, ground := .guard }], guard := some (14, false) }) (v := .pointer (some ⟨b, o + i * 4, none⟩)) rfl (by kernel_rfl) (by kernel_rfl) (by kernel_rfl) (fun _ _ _ h => h) (Or.inl ⟨by rfl, by intro w hSw; clear hSw; go_simp⟩) hS0 ?_
        try simp only [Act.put, List.setIfInBounds_toArray, List.set_cons_zero, List.set_cons_succ]
        refine wpAnyH_take (i := 29) (oi := { dst := some 145, op := .fieldAddr 24 (.tmp 144) 2, type := 0, pos := "outright.go:101", after := #[{ on := 28, ground := .data }, { on := 14, ground := .guard }], guard := some (14, false) }) (v := .pointer (some ⟨b, o + i * 4 + 2, none⟩)) rfl (by kernel_rfl) (by kernel_rfl) (by kernel_rfl) (fun _ _ _ h => h) (Or.inl ⟨by rfl, by intro w hSw; clear hSw; go_simp⟩) hS0 ?_
        try simp only [Act.put, List.setIfInBounds_toArray, List.set_cons_zero, List.set_cons_succ]
        refine wpAnyH_take (i := 30) (oi := { dst := some 146, op := .load 3 (.tmp 145), type := 3, pos := "outright.go:101", after := #[{ on := 29, ground := .data }, { on := 14, ground := .guard }], guard := some (14, false) }) (v := .int .i64 r3) rfl (by kernel_rfl) (by kernel_rfl) (by kernel_rfl) (fun _ _ _ h => h) (Or.inl ⟨by rfl, by intro w h; have hcell := ((rng4 (Pm.rng_bel HROW.out h)).2.2.1); clear h; go_simp⟩) hS0 ?_
        try simp only [Act.put, List.setIfInBounds_toArray, List.set_cons_zero, List.set_cons_succ]
        refine wpAnyH_take (i := 32) (oi := { dst := some 148, op := .move (.tmp 1), type := 3, pos := "outright.go:101", after := #[{ on := 14, ground := .guard }], guard := some (14, false) }) (v := .int .i64 M) rfl (by kernel_rfl) (by kernel_rfl) (by kernel_rfl) (fun _ _ _ h => h) (Or.inl ⟨by rfl, by intro w hSw; clear hSw; go_simp⟩) hS0 ?_
        try simp only [Act.put, List.setIfInBounds_toArray, List.set_cons_zero, List.set_cons_succ]
        refine wpAnyH_ready (rs := [31]) (by kernel_rfl) (by simp) ?_
        refine AllReadyH.cons (o := { dst := some 147, op := .call { callee := .value (.func 15), args := #[.tmp 131, .tmp 136, .tmp 141, .tmp 146], argTypes := #[22, 3, 3, 3] }, type := 3, pos := "outright.go:101", after := #[{ on := 15, ground := .data }, { on := 20, ground := .data }, { on := 25, ground := .data }, { on := 30, ground := .data }, { on := 14, ground := .chain }, { on := 14, ground := .guard }], guard := some (14, false) }) rfl (fun K hK => ?_) AllReadyH.nil
        go_simp
        refine (CT.out _ hS0).mono ?_
        rintro e v1 ⟨rfl, kb⟩
        go_wp2_with fail
        refine hK.out _ _ (hS0.trans kb) (fun hS1 => ?_)
        clear hK K
        try simp only [Act.put, List.setIfInBounds_toArray, List.set_cons_zero, List.set_cons_succ]
        refine wpAnyH_take (i := 33) (oi := { dst := some 149, op := .binOp .gtr 3 (.tmp 147) (.tmp 148) 3, type := 4, pos := "outright.go:101", after := #[{ on := 31, ground := .data }, { on := 32, ground := .data }, { on := 14, ground := .guard }], guard := some (14, false) }) (v := .bool false) rfl (by kernel_rfl) (by kernel_rfl) (by kernel_rfl) (fun _ _ _ h => h) (Or.inl ⟨by rfl, by intro w hSw; clear hSw; go_simp⟩) hS1 ?_
        try simp only [Act.put, List.setIfInBounds_toArray, List.set_cons_zero, List.set_cons_succ]
        refine wpAnyH_take (i := 34) (oi := { dst := some 150, op := .pick (.tmp 130) (.const (Value.bool true)) (.tmp 149), type := 4, pos := "outright.go:101", after := #[{ on := 14, ground := .data }, { on := 33, ground := .data }], guard := none }) (v := .bool false) rfl (by kernel_rfl) (by kernel_rfl) (by kernel_rfl) (fun _ _ _ h => h) (Or.inl ⟨by rfl, by intro w hSw; clear hSw; go_simp⟩) hS1 ?_
        try simp only [Act.put, List.setIfInBounds_toArray, List.set_cons_zero, List.set_cons_succ]
        refine wpAnyH_done (by kernel_rfl) ?_ _
        have KR := Lib.hid (show Bel wc v1 from hh.out.trans hS1)
        go_wp2_with fail
        go_roundw
        case rel => exact ⟨i + 1, by go_num, by omega, KR⟩
        case measure => simp [intOf]; omega
    · obtain rfl : i = N := by omega
      have Rd := Lib.hid (Rc.out.bel hh.out)
      have KD := Lib.hid (KC.out.trans hh.out)
      have NX := Lib.hid (next Al i cl l U wr Rd.out (by have := HLL.out; omega))
      have NW := Lib.hid (nxt_ways l U)
      by_cases hn0 : i = 0
      · subst hn0
        rw [NW.out.1 (fun h => by have := h.2.1; have := HNN.out; omega)] at NX
        clear NW
        go_wp2_with fail
        refine NX.out.mono ?_
        rintro e wd ⟨rfl, kb⟩
        have KE := Lib.hid (KD.out.trans kb)
        clear kb NX
        go_wp2_with fail
        go_ret
        exact ⟨rfl, KE.out⟩
      · obtain ⟨⟨r1, r2, r3, r4⟩, hr⟩ := Rd.out.get (show 0 < i by omega)
        have hnx : nxt l U = (r4 + U, true) := NW.out.2 _ (chk_ok.2 HOK.out) hr (by have := HB.out; omega) (by have := HB.out; omega)
        rw [hnx] at NX
        clear hnx
        have HBR := Lib.hid (show 1 ≤ r4 ∧ r4 ≤ 4294967296 from may_cr (srt_le l 0 HOK.out.2 _ (List.mem_of_getElem? hr)).1)
        obtain ⟨q1, q2, q3⟩ := rip_first HOK.out.2 hr
        have hr4 := (show r4 ≤ 1 + 3 * 60 + 4294967296 by have := HBR.out; omega)
        have hin : (0 : Int) < i := by omega
        have hin2 : 0 < i := by omega
        have hwr : IntKind.i64.wrap (r4 + U - 1) = r4 + U - 1 := IntWalk.i64_in _ (by have := HBR.out; have := HB.out; omega)
        have RS1 := Lib.hid (fun V (hv : Bel wr V) => ripes Al i cl l (r4 + U - 1) U 0 V (Rd.out.bel hv) (by have := HLL.out; omega) (Nat.zero_le _))
        have RS2 := Lib.hid (fun V (hv : Bel wr V) => ripes Al i cl l (r4 + U) U 0 V (Rd.out.bel hv) (by have := HLL.out; omega) (Nat.zero_le _))
        have hcap : l.length ≤ 60 := by rw [HNN.out]; exact HLL.out
        have T1 : (decide (ripE l (r4 + U - 1) U = 0) && decide (ripL l (r4 + U - 1) U = l.take 0) && decide (lftL l (r4 + U - 1) U = l.drop 0)) = true := by
          by_cases hbig : r4 + U - 1 ≤ 4294967296
          · obtain ⟨p1, p2, p3⟩ := ripe_ok (h := r4 + U - 1) (u := U) HOK.out (by have := HBR.out; have := HB.out; omega) hbig (by have := HB.out; omega) (by have := HB.out; omega)
            rw [p1, p2, p3, show r4 + U - 1 - U = r4 - 1 by omega]
            rw [show rip l (r4 - 1) = [] from q1, show lft l (r4 - 1) = l from q2]
            simp
          · exfalso
            have := HMX.out _ (List.mem_of_getElem? hr)
            have h2 : cr (r1, r2, r3, r4) = r4 := rfl
            have := HB.out
            omega
        have T2 : (decide (ripE l (r4 + U) U = 0) && decide (ripL l (r4 + U) U = l.take 0) && decide (lftL l (r4 + U) U = l.drop 0)) = false := by
          by_cases hbig : r4 + U ≤ 4294967296
          · obtain ⟨p1, p2, p3⟩ := ripe_ok (h := r4 + U) (u := U) HOK.out (by have := HBR.out; have := HB.out; omega) hbig (by have := HB.out; omega) (by have := HB.out; omega)
            rw [p1, p2, show r4 + U - U = r4 by omega]
            have : ¬ rip l r4 = l.take 0 := fun e => by
              have h3 : 0 < (rip l r4).length := q3
              rw [e] at h3
              simp at h3
            rw [decide_eq_false this]
            simp
          · exfalso
            have := HMX.out _ (List.mem_of_getElem? hr)
            have h2 : cr (r1, r2, r3, r4) = r4 := rfl
            have := HB.out
            omega
        rw [T1] at RS1
        rw [T2] at RS2
        clear NW T1 T2 q1 q2 q3 hr hn0 hcap
        go_wp2_with fail
        refine NX.out.mono ?_
        rintro e wd ⟨rfl, kb⟩
        have KE := Lib.hid kb
        clear kb NX
        go_wp2_with fail
        refine (RS1.out _ KE.out).mono ?_
        rintro e we ⟨rfl, kb⟩
        have KF := Lib.hid (KE.out.trans kb)
        clear kb RS1
        go_wp2_with fail
        refine (RS2.out _ KF.out).mono ?_
        rintro e wf ⟨rfl, kb⟩
        have KG := Lib.hid (KD.out.trans (KF.out.trans kb))
        clear kb RS2
        go_wp2_with fail
        go_ret
        exact ⟨rfl, KG.out⟩
end Hp
end Go.Proofs.Ytahhnfnonekbmaa
