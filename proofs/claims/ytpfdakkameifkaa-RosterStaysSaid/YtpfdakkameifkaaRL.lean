/-
  Texts of this claim, put together: Ro28, Ro29. What each one says, and under which conditions, stands ahead of it.
-/
import Derived.Test.YtpfdakkameifkaaRK
import Derived.Test.YtpfdakkameifkaaRJ

section
/-
  What does of the law's package makes of a roster that may be. Conditions: the act's numbers are ints.
-/
namespace Go.Proofs.Ytpfdakkameifkaa
open Go.RowKit Go.Shelf
set_option linter.unusedVariables false
set_option linter.unusedSimpArgs false
namespace Ro
open Kk Pm

/-- What does tells. -/
def DoR (w w' : World) (n : Nat) (l : List V6) (kd h : Int) (e : Ending) : Prop :=
  ∃ (A' : Option Addr) (n' c' : Nat) (l' : List V6) (E : Int), e = .returned (.tuple #[.slice A' n' c', .int .i64 E]) ∧ Rw.RS vR w' A' n' c' l' ∧ (chk l').1 = 0 ∧ n ≤ n' ∧ n' ≤ n + 1 ∧ (E = 0 → ∀ (i : Nat) (r r' : V6), l[i]? = some r → l'[i]? = some r' → StepP r r' kd h) ∧ Bel w w'
theorem doR_no {w w' : World} {A : Option Addr} {n c : Nat} {l : List V6} {kd h E : Int} (hi : Rw.RS vR w' A n c l) (hc : (chk l).1 = 0) (hb : Bel w w') (hE : E ≠ 0) : DoR w w' n l kd h (.returned (.tuple #[.slice A n c, .int .i64 E])) :=
  ⟨A, n, c, l, E, rfl, hi, hc, Nat.le_refl _, by omega, fun h => absurd h hE, hb⟩
theorem doR_yes {w w' : World} {n : Nat} {l L : List V6} {kd h : Int} {base : Nat} {A : Option Addr} {m c : Nat} (hl : l.length = n) (ho : Rw.RS vR w' A m c L) (hd : Did l L kd h) (hb : Bel w w') : DoR w w' n l kd h (.returned (.tuple #[.slice A m c, .int .i64 0])) :=
  ⟨A, m, c, L, 0, rfl, ho, hd.chk, by have := hd.lo; have := ho.len; omega, by have := hd.hi; have := ho.len; omega, fun _ => hd.steps, hb⟩
set_option maxRecDepth 100000 in
set_option maxHeartbeats 32000000 in
theorem does_ (A : Option Addr) (n c : Nat) (l : List V6) (K I H C : Int) (w : World) (hi : Rw.RS vR w A n c l) (hc : (chk l).1 = 0) (hK : I64 K) (hI : I64 I) (hH : I64 H) (hC : I64 C) :
    Calls Try.prog 50 #[.slice A n c, .agg #[.int .i64 K, .int .i64 I, .int .i64 H, .int .i64 C]] w fun e w' => DoR w w' n l (K % 5) (H % 1000) e := by
  have HLN := Lib.hid hi.len
  have HCK := Lib.hid hc
  have HO := Lib.hid (show ∀ r ∈ l, I64 (op r) from fun r hr => by
    obtain ⟨k, hk⟩ := List.getElem?_of_mem hr
    have hg := gd_at hc hk
    obtain ⟨a1, a2, a3, a4, a5, a6⟩ := r
    obtain ⟨g1, g2, _⟩ := hg
    show I64 a1
    unfold I64; omega)
  have HN := Lib.hid (show n ≤ 32 by have := (chk_ok.1 hc).1; rw [hi.len] at this; exact this)
  have PK := Lib.hid (fun V => pick_ K 5 V hK.1 hK.2 (by decide) (by decide))
  have PI := Lib.hid (fun V => pick_ I 8 V hI.1 hI.2 (by decide) (by decide))
  have PH := Lib.hid (fun V => pick_ H 1000 V hH.1 hH.2 (by decide) (by decide))
  have PC2 := Lib.hid (fun V => pick_ C 2 V hC.1 hC.2 (by decide) (by decide))
  have PC3 := Lib.hid (fun V => pick_ C 3 V hC.1 hC.2 (by decide) (by decide))
  have bK := Int.emod_nonneg K (b := 5) (by decide)
  have bK2 := Int.emod_lt_of_pos K (b := 5) (by decide)
  have bI := Int.emod_nonneg I (b := 8) (by decide)
  have bI2 := Int.emod_lt_of_pos I (b := 8) (by decide)
  have bH := Int.emod_nonneg H (b := 1000) (by decide)
  have bH2 := Int.emod_lt_of_pos H (b := 1000) (by decide)
  have bC := Int.emod_nonneg C (b := 2) (by decide)
  have bC2 := Int.emod_lt_of_pos C (b := 2) (by decide)
  obtain ⟨kd, hkd⟩ : ∃ x, K % 5 = x := ⟨_, rfl⟩
  obtain ⟨iv, hiv⟩ : ∃ x, I % 8 = x := ⟨_, rfl⟩
  obtain ⟨hd, hhd⟩ : ∃ x, H % 1000 = x := ⟨_, rfl⟩
  obtain ⟨cc, hcc⟩ : ∃ x, C % 2 = x := ⟨_, rfl⟩
  obtain ⟨cd, hcd⟩ : ∃ x, C % 3 = x := ⟨_, rfl⟩
  rw [hkd] at PK bK bK2 ⊢
  rw [hiv] at PI bI bI2
  rw [hhd] at PH bH bH2 ⊢
  rw [hcc] at PC2 bC bC2
  rw [hcd] at PC3
  have HB := Lib.hid (And.intro (And.intro bK bK2) (And.intro (And.intro bI bI2) (And.intro (And.intro bH bH2) (And.intro bC bC2))))
  clear hkd hiv hhd hcc hcd hK hI hH hC bK bK2 bI bI2 bH bH2 bC bC2 hc
  have B0 := Lib.hid (Blk.new w #[.int .i64 K, .int .i64 I, .int .i64 H, .int .i64 C] 63)
  obtain ⟨V, hV⟩ : ∃ V, w.alloc (.cells #[.int .i64 K, .int .i64 I, .int .i64 H, .int .i64 C] 63) = V := ⟨_, rfl⟩
  have EV := Lib.hid (show Bel w V by rw [← hV]; exact (Bel.refl _).alloc _)
  have IV := Lib.hid (hi.bel EV.out)
  rw [hV] at B0
  have HV := Lib.hid hV
  clear hV hi
  go_enter Try.func50, Try.ntmps50
  go_upto_region 3 with fail
  try rw [HV.out]
  obtain ⟨g, hg⟩ : ∃ g, w.heap.size = g := ⟨_, rfl⟩
  rw [hg] at B0 ⊢
  clear hg HV
  refine wp_region_held_drew (S := fun Vx => Bel V Vx) (by kernel_rfl) (Bel.refl _).drew (fun hS0 => ?_)
  obtain ⟨w6, hw6⟩ : ∃ w6, World.drew V = w6 := ⟨_, rfl⟩
  rw [hw6] at hS0 ⊢
  clear hw6
  refine wpAnyH_take (i := 0) (oi := { dst := some 14, op := .fieldAddr 63 (.tmp 3) 1, type := 0, pos := "outright.go:83", after := #[], guard := none }) (v := .pointer (some ⟨g, 1, none⟩)) rfl (by kernel_rfl) (by kernel_rfl) (by kernel_rfl) (fun _ _ _ h => h) (Or.inl ⟨by rfl, by intro w hSw; clear hSw; go_simp⟩) hS0 ?_
  try simp only [Act.put, List.setIfInBounds_toArray, List.set_cons_zero, List.set_cons_succ]
  refine wpAnyH_take (i := 1) (oi := { dst := some 15, op := .load 3 (.tmp 14), type := 3, pos := "outright.go:83", after := #[{ on := 0, ground := .data }], guard := none }) (v := .int .i64 I) rfl (by kernel_rfl) (by kernel_rfl) (by kernel_rfl) (fun _ _ _ h => h) (Or.inl ⟨by rfl, by intro w h; have hcell := ((B0.out.bel h).cell 1 rfl); clear h; go_simp⟩) hS0 ?_
  try simp only [Act.put, List.setIfInBounds_toArray, List.set_cons_zero, List.set_cons_succ]
  refine Rw.still_take (i := 2) (x := { dst := some 16, op := .call { callee := .value (.func 93), args := #[.tmp 15, .const (Value.int IntKind.i64 8)], argTypes := #[3, 3] }, type := 3, pos := "outright.go:83", after := #[{ on := 1, ground := .data }], guard := none }) (v := .int .i64 iv) rfl (by kernel_rfl) (by kernel_rfl) (by kernel_rfl) (fun _ _ _ h => h) ⟨by rfl, 93, #[.int .i64 I, .int .i64 8], by intro w hSw; clear hSw; go_simp, fun w h => PI.out _⟩ hS0 ?_
  try simp only [Act.put, List.setIfInBounds_toArray, List.set_cons_zero, List.set_cons_succ]
  refine wpAnyH_take (i := 3) (oi := { dst := some 17, op := .fieldAddr 63 (.tmp 3) 2, type := 0, pos := "outright.go:83", after := #[], guard := none }) (v := .pointer (some ⟨g, 2, none⟩)) rfl (by kernel_rfl) (by kernel_rfl) (by kernel_rfl) (fun _ _ _ h => h) (Or.inl ⟨by rfl, by intro w hSw; clear hSw; go_simp⟩) hS0 ?_
  try simp only [Act.put, List.setIfInBounds_toArray, List.set_cons_zero, List.set_cons_succ]
  refine wpAnyH_take (i := 4) (oi := { dst := some 18, op := .load 3 (.tmp 17), type := 3, pos := "outright.go:83", after := #[{ on := 3, ground := .data }], guard := none }) (v := .int .i64 H) rfl (by kernel_rfl) (by kernel_rfl) (by kernel_rfl) (fun _ _ _ h => h) (Or.inl ⟨by rfl, by intro w h; have hcell := ((B0.out.bel h).cell 2 rfl); clear h; go_simp⟩) hS0 ?_
  try simp only [Act.put, List.setIfInBounds_toArray, List.set_cons_zero, List.set_cons_succ]
  refine Rw.still_take (i := 5) (x := { dst := some 19, op := .call { callee := .value (.func 93), args := #[.tmp 18, .const (Value.int IntKind.i64 1000)], argTypes := #[3, 3] }, type := 3, pos := "outright.go:83", after := #[{ on := 4, ground := .data }, { on := 2, ground := .chain }], guard := none }) (v := .int .i64 hd) rfl (by kernel_rfl) (by kernel_rfl) (by kernel_rfl) (fun _ _ _ h => h) ⟨by rfl, 93, #[.int .i64 H, .int .i64 1000], by intro w hSw; clear hSw; go_simp, fun w h => PH.out _⟩ hS0 ?_
  try simp only [Act.put, List.setIfInBounds_toArray, List.set_cons_zero, List.set_cons_succ]
  refine wpAnyH_take (i := 6) (oi := { dst := some 8, op := .assign (.tmp 16), type := 3, pos := "outright.go:83", after := #[{ on := 2, ground := .data }, { on := 5, ground := .chain }, { on := 0, ground := .phase }, { on := 1, ground := .phase }, { on := 2, ground := .phase }, { on := 3, ground := .textOnly .lateStores }, { on := 4, ground := .textOnly .lateStores }, { on := 5, ground := .textOnly .lateStoresUnsure }], guard := none }) (v := .int .i64 iv) rfl (by kernel_rfl) (by kernel_rfl) (by kernel_rfl) (fun _ _ _ h => h) (Or.inl ⟨by rfl, by intro w hSw; clear hSw; go_simp⟩) hS0 ?_
  try simp only [Act.put, List.setIfInBounds_toArray, List.set_cons_zero, List.set_cons_succ]
  refine wpAnyH_take (i := 7) (oi := { dst := some 9, op := .assign (.tmp 19), type := 3, pos := "outright.go:83", after := #[{ on := 5, ground := .data }, { on := 6, ground := .chain }, { on := 0, ground := .phase }, { on := 1, ground := .phase }, { on := 2, ground := .phase }, { on := 3, ground := .phase }, { on := 4, ground := .phase }, { on := 5, ground := .phase }, { on := 6, ground := .phase }], guard := none }) (v := .int .i64 hd) rfl (by kernel_rfl) (by kernel_rfl) (by kernel_rfl) (fun _ _ _ h => h) (Or.inl ⟨by rfl, by intro w hSw; clear hSw; go_simp⟩) hS0 ?_
  try simp only [Act.put, List.setIfInBounds_toArray, List.set_cons_zero, List.set_cons_succ]
  refine wpAnyH_done (by kernel_rfl) ?_ _
  have KV := Lib.hid (EV.out.trans hS0)
  have C0 := Lib.hid (B0.out.bel hS0)
  have I0 := Lib.hid (IV.out.bel hS0)
  obtain ⟨wv, hwv⟩ : ∃ W, w6 = W := ⟨_, rfl⟩
  rw [hwv] at C0 I0 KV ⊢
  clear hS0 hwv PI PH B0 IV EV
  have a0 := C0.out.cell 0 rfl
  have a3 := C0.out.cell 3 rfl
  go_wp2_with fail
  refine (PK.out _).mono ?_
  rintro e wz ⟨rfl, rfl⟩
  clear PK
  obtain ⟨⟨b1, b2⟩, ⟨b3, b4⟩, ⟨b5, b6⟩, b7, b8⟩ := HB.out
  have hk5 : kd = 0 ∨ kd = 1 ∨ kd = 2 ∨ kd = 3 ∨ kd = 4 := by omega
  have w1 : IntKind.i64.wrap (1 + hd) = 1 + hd := IntWalk.i64_in _ (by omega)
  have w2 : IntKind.u64.wrap hd = hd := by rw [IntKind.wrap_u64]; omega
  have HV8 := Lib.hid (show I64 iv by unfold I64; omega)
  have HI8 := Lib.hid (show 0 ≤ iv ∧ iv < 8 by omega)
  have HH8 := Lib.hid (show 0 ≤ hd ∧ hd < 1000 by omega)
  have HC8 := Lib.hid (show 0 ≤ cc ∧ cc < 2 by omega)
  clear b1 b2 b3 b4 b5 b6 b7 b8 HB
  rcases hk5 with rfl | rfl | rfl | rfl | rfl
  · obtain ⟨E, hEq⟩ : ∃ x, crE l iv hd = x := ⟨_, rfl⟩
    have HEQ := Lib.hid hEq
    clear hEq PC2 PC3 a3
    have CC := Lib.hid (create_c A n c l iv hd wv I0.out E _ _ HEQ.out rfl rfl (by have := HN.out; omega) HO.out HV8.out)
    go_wp2_with fail
    refine CC.out.mono ?_
    rintro e wq ⟨v, rfl, ho, kb⟩
    have KQ := Lib.hid (KV.out.trans kb)
    have IQ := Lib.hid (I0.out.bel kb)
    by_cases hE : E = 0
    · subst hE
      have DD := Lib.hid (did_create (kd := 0) (h := hd) HEQ.out)
      obtain ⟨Aq, cq, rfl, hrs⟩ := Rw.OwnR.slice ho
      have RQ := Lib.hid hrs
      clear ho hrs kb CC
      go_wp2_with fail
      go_ret2
      exact doR_yes (base := 0) HLN.out RQ.out DD.out KQ.out
    · have hne : (E != 0) = true := by rw [bne_iff_ne]; exact hE
      obtain ⟨Aq, cq, rfl, _⟩ := Rw.OwnR.slice ho
      clear ho kb CC
      go_wp2_with fail
      go_ret2
      exact doR_no IQ.out HCK.out KQ.out hE
  · have FR := Lib.hid (free_ A n c l wv I0.out (by have := HN.out; omega))
    clear PC2 PC3 a3
    go_wp2_with fail
    refine FR.out.mono ?_
    rintro e wf ⟨vf, rfl, hf, kb⟩
    obtain ⟨Af, cf, rfl, hfr⟩ := Rw.OwnR.slice hf
    rw [List.length_map, HLN.out] at hfr ⊢
    have KF := Lib.hid (KV.out.trans kb)
    have IF := Lib.hid (I0.out.bel kb)
    have RF := Lib.hid hfr
    clear hf hfr kb FR
    go_wp2_with fail
    go_loopw [10, 12] (fun s10 s12 wr => ∃ (k : Nat) (bs : List Bool), k ≤ n ∧ s12 = .int .i64 k ∧ bs.length = k ∧ Hid (OwnB wr wf.heap.size s10 bs) ∧ Hid (Bel wf wr)) (fun _ s12 _ => n - (intOf s12).toNat)
    case atStart => exact ⟨0, [], Nat.zero_le _, rfl, rfl, Lib.hid (Rw.OwnR.nil_ _ _ _ _), Lib.hid (Bel.refl _)⟩
    case round =>
      obtain ⟨k, bs, hk, rfl, hbl, ho, hh⟩ := hrel
      by_cases hlt : k < n
      · obtain ⟨b1, b2, y, rfl, _, hy, cb⟩ := bool_at (RF.out.bel hh.out) hlt
        have hlt3 : (k : Int) < n := by omega
        have hlt0 : (0 : Int) ≤ k := by omega
        have hkm : (0 : Int) ≤ Int.tmod (k : Int) 9 := Int.tmod_nonneg _ (by omega)
        have HSZ := Lib.hid (Below.size hh.out)
        have HBL := Lib.hid hbl
        have hn32 := HN.out
        clear hy hbl
        cases y with
        | false =>
          have HCE := Lib.hid ((Blk.new wr #[.bool false] 4).cell 0 rfl)
          have HOA := Lib.hid (show OwnB _ wf.heap.size _ _ from ho.out.bel ((Bel.refl wr).alloc (.cells #[.bool false] 4)))
          have HB := Lib.hid (hh.out.alloc (.cells #[.bool false] 4))
          clear ho
          go_wp2_with (at_builtin; refine append_b rfl _ _ rfl wf.heap.size _ bs rfl HOA.out ⟨wr.heap.size, 0, none⟩ false rfl HCE.out (by have := HBL.out; have := HN.out; omega) (by have := HSZ.out; simp; omega) ?_; intro v' w1 hown' hgrow)
          have HO2 := Lib.hid hown'
          have HB2 := Lib.hid (show Bel wf w1 from Kk.Bel.grown HB.out hgrow (fun k hk => (HOA.out.lt k hk).1))
          clear hown' hgrow HOA HB HCE
          go_wp2_with fail
          go_roundw
          case rel => exact ⟨k + 1, bs ++ [false], by omega, by go_num, by have := HBL.out; simp; omega, HO2, HB2⟩
          case measure => simp [intOf]; omega
        | true =>
          have HCE := Lib.hid ((Blk.new wr #[.bool (Int.tmod (hd / (2 ^ (HMod.hMod k 9 : Nat) : Int)) 2 == 1)] 4).cell 0 rfl)
          have HOA := Lib.hid (show OwnB _ wf.heap.size _ _ from ho.out.bel ((Bel.refl wr).alloc (.cells #[.bool (Int.tmod (hd / (2 ^ (HMod.hMod k 9 : Nat) : Int)) 2 == 1)] 4)))
          have HB := Lib.hid (hh.out.alloc (.cells #[.bool (Int.tmod (hd / (2 ^ (HMod.hMod k 9 : Nat) : Int)) 2 == 1)] 4))
          clear ho
          go_wp2_with (at_builtin; refine append_b rfl _ _ rfl wf.heap.size _ bs rfl HOA.out ⟨wr.heap.size, 0, none⟩ (Int.tmod (hd / (2 ^ (HMod.hMod k 9 : Nat) : Int)) 2 == 1) rfl HCE.out (by have := HBL.out; have := HN.out; omega) (by have := HSZ.out; simp; omega) ?_; intro v' w1 hown' hgrow)
          have HO2 := Lib.hid hown'
          have HB2 := Lib.hid (show Bel wf w1 from Kk.Bel.grown HB.out hgrow (fun k hk => (HOA.out.lt k hk).1))
          clear hown' hgrow HOA HB HCE
          go_wp2_with fail
          go_roundw
          case rel => exact ⟨k + 1, bs ++ [(Int.tmod (hd / (2 ^ (HMod.hMod k 9 : Nat) : Int)) 2 == 1)], by omega, by go_num, by have := HBL.out; simp; omega, HO2, HB2⟩
          case measure => simp [intOf]; omega
      · obtain rfl : k = n := by omega
        have hlt3 : ¬ (k : Int) < k := by omega
        obtain ⟨Ab, cb, rfl, hb⟩ := Rw.OwnR.slice ho.out
        rw [hbl] at hb ⊢
        have RB := Lib.hid hb
        have IR := Lib.hid (IF.out.bel hh.out)
        have KR := Lib.hid (KF.out.trans hh.out)
        clear ho hb hh hbl IF KF RF
        obtain ⟨E, hEq⟩ : ∃ x, chE l bs = x := ⟨_, rfl⟩
        have HEQ := Lib.hid hEq
        clear hEq
        have CC := Lib.hid (choose_c A k c l Ab k cb bs wr IR.out RB.out E _ HEQ.out rfl (by have := HN.out; omega) HO.out (by have := HN.out; omega))
        go_wp2_with fail
        refine CC.out.mono ?_
        rintro e wq ⟨v, rfl, ho, kb⟩
        have KQ := Lib.hid (KR.out.trans kb)
        have IQ := Lib.hid (IR.out.bel kb)
        by_cases hE : E = 0
        · subst hE
          have DD := Lib.hid (did_choose (kd := 1) (h := hd) HEQ.out)
          obtain ⟨Aq, cq, rfl, hrs⟩ := Rw.OwnR.slice ho
          have RQ := Lib.hid hrs
          clear ho hrs kb CC
          go_wp2_with fail
          go_ret2
          exact doR_yes (base := 0) HLN.out RQ.out DD.out KQ.out
        · have hne : (E != 0) = true := by rw [bne_iff_ne]; exact hE
          obtain ⟨Aq, cq, rfl, _⟩ := Rw.OwnR.slice ho
          clear ho kb CC
          go_wp2_with fail
          go_ret2
          exact doR_no IQ.out HCK.out KQ.out hE
  · obtain ⟨E, hEq⟩ : ∃ x, cgE l iv (jaE (1 + hd)) = x := ⟨_, rfl⟩
    have HEQ := Lib.hid hEq
    clear hEq PC2 PC3 a3
    have CC := Lib.hid (jail_c A n c l iv (1 + hd) wv I0.out E _ HEQ.out rfl (by have := HN.out; omega) HO.out)
    go_wp2_with fail
    refine CC.out.mono ?_
    rintro e wq ⟨v, rfl, ho, kb⟩
    have KQ := Lib.hid (KV.out.trans kb)
    have IQ := Lib.hid (I0.out.bel kb)
    by_cases hE : E = 0
    · subst hE
      have DD := Lib.hid (did_jail (kd := 2) (h := hd) HEQ.out)
      obtain ⟨Aq, cq, rfl, hrs⟩ := Rw.OwnR.slice ho
      have RQ := Lib.hid hrs
      clear ho hrs kb CC
      go_wp2_with fail
      go_ret2
      exact doR_yes (base := 0) HLN.out RQ.out DD.out KQ.out
    · have hne : (E != 0) = true := by rw [bne_iff_ne]; exact hE
      obtain ⟨Aq, cq, rfl, _⟩ := Rw.OwnR.slice ho
      clear ho kb CC
      go_wp2_with fail
      go_ret2
      exact doR_no IQ.out HCK.out KQ.out hE
  · obtain ⟨k, hk⟩ : ∃ k : Nat, iv = k := ⟨iv.toNat, by have := HI8.out; omega⟩
    subst hk
    by_cases hlt : k < n
    · have hlt3 : (k : Int) < n := by omega
      have hlt0 : (0 : Int) ≤ k := by omega
      obtain ⟨⟨r1, r2, r3, r4, r5, r6⟩, hr⟩ := I0.out.get hlt
      obtain ⟨bb, qq, rfl, hbb, hrow⟩ := I0.out.at hlt hr
      have HROW := Lib.hid (show wv.rangeAt bb (qq + k * 6) [.int .i64 r1, .int .u64 r2, .int .i64 r3, .int .i64 r4, .bool r5, .bool r6] from hrow)
      have hg := gd_at HCK.out hr
      have hwr : IntKind.i64.wrap (r1 + cc) = r1 + cc := IntWalk.i64_in _ (by have := hg.1; have := hg.2.1; have := HC8.out; omega)
      clear hr hrow hg hbb PC3
      go_upto_region 21 with fail
      refine wp_region_held_drew (S := fun Vx => Bel wv Vx) (by kernel_rfl) (Bel.refl _).drew (fun hS0 => ?_)
      obtain ⟨w6, hw6⟩ : ∃ w6, World.drew wv = w6 := ⟨_, rfl⟩
      rw [hw6] at hS0 ⊢
      clear hw6
      refine wpAnyH_take (i := 0) (oi := { dst := some 99, op := .move (.tmp 0), type := 22, pos := "outright.go:99", after := #[], guard := none }) (v := .slice (some ⟨bb, qq, none⟩) n c) rfl (by kernel_rfl) (by kernel_rfl) (by kernel_rfl) (fun _ _ _ h => h) (Or.inl ⟨by rfl, by intro w hSw; clear hSw; go_simp⟩) hS0 ?_
      try simp only [Act.put, List.setIfInBounds_toArray, List.set_cons_zero, List.set_cons_succ]
      refine wpAnyH_take (i := 1) (oi := { dst := some 100, op := .move (.tmp 8), type := 3, pos := "outright.go:99", after := #[], guard := none }) (v := .int .i64 k) rfl (by kernel_rfl) (by kernel_rfl) (by kernel_rfl) (fun _ _ _ h => h) (Or.inl ⟨by rfl, by intro w hSw; clear hSw; go_simp⟩) hS0 ?_
      try simp only [Act.put, List.setIfInBounds_toArray, List.set_cons_zero, List.set_cons_succ]
      refine wpAnyH_take (i := 2) (oi := { dst := some 101, op := .indexAddr 22 (.tmp 99) (.tmp 100), type := 0, pos := "outright.go:99", after := #[{ on := 0, ground := .data }, { on := 1, ground := .data }], guard := none }) (v := .pointer (some ⟨bb, qq + k * 6, none⟩)) rfl (by kernel_rfl) (by kernel_rfl) (by kernel_rfl) (fun _ _ _ h => h) (Or.inl ⟨by rfl, by intro w hSw; clear hSw; go_simp⟩) hS0 ?_
      try simp only [Act.put, List.setIfInBounds_toArray, List.set_cons_zero, List.set_cons_succ]
      refine wpAnyH_take (i := 3) (oi := { dst := some 102, op := .fieldAddr 66 (.tmp 101) 0, type := 0, pos := "outright.go:99", after := #[{ on := 2, ground := .data }], guard := none }) (v := .pointer (some ⟨bb, qq + k * 6, none⟩)) rfl (by kernel_rfl) (by kernel_rfl) (by kernel_rfl) (fun _ _ _ h => h) (Or.inl ⟨by rfl, by intro w hSw; clear hSw; go_simp⟩) hS0 ?_
      try simp only [Act.put, List.setIfInBounds_toArray, List.set_cons_zero, List.set_cons_succ]
      refine wpAnyH_take (i := 4) (oi := { dst := some 103, op := .load 3 (.tmp 102), type := 3, pos := "outright.go:99", after := #[{ on := 3, ground := .data }], guard := none }) (v := .int .i64 r1) rfl (by kernel_rfl) (by kernel_rfl) (by kernel_rfl) (fun _ _ _ h => h) (Or.inl ⟨by rfl, by intro w h; have hcell := ((rng6 (Pm.rng_bel HROW.out h)).1); clear h; go_simp⟩) hS0 ?_
      try simp only [Act.put, List.setIfInBounds_toArray, List.set_cons_zero, List.set_cons_succ]
      refine wpAnyH_take (i := 5) (oi := { dst := some 104, op := .fieldAddr 63 (.tmp 3) 3, type := 0, pos := "outright.go:99", after := #[], guard := none }) (v := .pointer (some ⟨g, 3, none⟩)) rfl (by kernel_rfl) (by kernel_rfl) (by kernel_rfl) (fun _ _ _ h => h) (Or.inl ⟨by rfl, by intro w hSw; clear hSw; go_simp⟩) hS0 ?_
      try simp only [Act.put, List.setIfInBounds_toArray, List.set_cons_zero, List.set_cons_succ]
      refine wpAnyH_take (i := 6) (oi := { dst := some 105, op := .load 3 (.tmp 104), type := 3, pos := "outright.go:99", after := #[{ on := 5, ground := .data }], guard := none }) (v := .int .i64 C) rfl (by kernel_rfl) (by kernel_rfl) (by kernel_rfl) (fun _ _ _ h => h) (Or.inl ⟨by rfl, by intro w h; have hcell := ((C0.out.bel h).cell 3 rfl); clear h; go_simp⟩) hS0 ?_
      try simp only [Act.put, List.setIfInBounds_toArray, List.set_cons_zero, List.set_cons_succ]
      refine Rw.still_take (i := 7) (x := { dst := some 106, op := .call { callee := .value (.func 93), args := #[.tmp 105, .const (Value.int IntKind.i64 2)], argTypes := #[3, 3] }, type := 3, pos := "outright.go:99", after := #[{ on := 6, ground := .data }], guard := none }) (v := .int .i64 cc) rfl (by kernel_rfl) (by kernel_rfl) (by kernel_rfl) (fun _ _ _ h => h) ⟨by rfl, 93, #[.int .i64 C, .int .i64 2], by intro w hSw; clear hSw; go_simp, fun w h => PC2.out _⟩ hS0 ?_
      try simp only [Act.put, List.setIfInBounds_toArray, List.set_cons_zero, List.set_cons_succ]
      refine wpAnyH_take (i := 8) (oi := { dst := some 107, op := .binOp .add 3 (.tmp 103) (.tmp 106) 3, type := 3, pos := "outright.go:99", after := #[{ on := 4, ground := .data }, { on := 7, ground := .data }], guard := none }) (v := .int .i64 (r1 + cc)) rfl (by kernel_rfl) (by kernel_rfl) (by kernel_rfl) (fun _ _ _ h => h) (Or.inl ⟨by rfl, by intro w hSw; clear hSw; go_simp⟩) hS0 ?_
      try simp only [Act.put, List.setIfInBounds_toArray, List.set_cons_zero, List.set_cons_succ]
      refine wpAnyH_take (i := 9) (oi := { dst := some 13, op := .assign (.tmp 107), type := 3, pos := "outright.go:99", after := #[{ on := 8, ground := .data }, { on := 7, ground := .chain }, { on := 0, ground := .phase }, { on := 1, ground := .phase }, { on := 2, ground := .phase }, { on := 3, ground := .phase }, { on := 4, ground := .phase }, { on := 5, ground := .phase }, { on := 6, ground := .phase }, { on := 7, ground := .phase }, { on := 8, ground := .phase }], guard := none }) (v := .int .i64 (r1 + cc)) rfl (by kernel_rfl) (by kernel_rfl) (by kernel_rfl) (fun _ _ _ h => h) (Or.inl ⟨by rfl, by intro w hSw; clear hSw; go_simp⟩) hS0 ?_
      try simp only [Act.put, List.setIfInBounds_toArray, List.set_cons_zero, List.set_cons_succ]
      refine wpAnyH_done (by kernel_rfl) ?_ _
      have KV2 := Lib.hid (KV.out.trans hS0)
      have I2 := Lib.hid (I0.out.bel hS0)
      obtain ⟨wu, hwu⟩ : ∃ W, w6 = W := ⟨_, rfl⟩
      rw [hwu] at I2 KV2 ⊢
      clear hS0 hwu PC2 a3 hwr
      obtain ⟨E, hEq⟩ : ∃ x, cgE l (k : Int) (unE (r1 + cc) hd) = x := ⟨_, rfl⟩
      have HEQ := Lib.hid hEq
      clear hEq
      have CC := Lib.hid (unjail_c (some ⟨bb, qq, none⟩) n c l k (r1 + cc) hd wu I2.out E _ HEQ.out rfl (by have := HN.out; omega) HO.out)
      go_wp2_with fail
      refine CC.out.mono ?_
      rintro e wq ⟨v, rfl, ho, kb⟩
      have KQ := Lib.hid (KV2.out.trans kb)
      have IQ := Lib.hid (I2.out.bel kb)
      by_cases hE : E = 0
      · subst hE
        have DD := Lib.hid (did_unjail (h := hd) HEQ.out)
        obtain ⟨Aq, cq, rfl, hrs⟩ := Rw.OwnR.slice ho
        have RQ := Lib.hid hrs
        clear ho hrs kb CC
        go_wp2_with fail
        go_ret2
        exact doR_yes (base := 0) HLN.out RQ.out DD.out KQ.out
      · have hne : (E != 0) = true := by rw [bne_iff_ne]; exact hE
        obtain ⟨Aq, cq, rfl, _⟩ := Rw.OwnR.slice ho
        clear ho kb CC
        go_wp2_with fail
        go_ret2
        exact doR_no IQ.out HCK.out KQ.out hE
    · have hlt3 : ¬ (k : Int) < n := by omega
      clear PC2 PC3 a3
      obtain ⟨E, hEq⟩ : ∃ x, cgE l (k : Int) (unE (k : Int) hd) = x := ⟨_, rfl⟩
      have HEQ := Lib.hid hEq
      clear hEq
      have CC := Lib.hid (unjail_c A n c l k k hd wv I0.out E _ HEQ.out rfl (by have := HN.out; omega) HO.out)
      go_wp2_with fail
      refine CC.out.mono ?_
      rintro e wq ⟨v, rfl, ho, kb⟩
      have KQ := Lib.hid (KV.out.trans kb)
      have IQ := Lib.hid (I0.out.bel kb)
      by_cases hE : E = 0
      · subst hE
        have DD := Lib.hid (did_unjail (h := hd) HEQ.out)
        obtain ⟨Aq, cq, rfl, hrs⟩ := Rw.OwnR.slice ho
        have RQ := Lib.hid hrs
        clear ho hrs kb CC
        go_wp2_with fail
        go_ret2
        exact doR_yes (base := 0) HLN.out RQ.out DD.out KQ.out
      · have hne : (E != 0) = true := by rw [bne_iff_ne]; exact hE
        obtain ⟨Aq, cq, rfl, _⟩ := Rw.OwnR.slice ho
        clear ho kb CC
        go_wp2_with fail
        go_ret2
        exact doR_no IQ.out HCK.out KQ.out hE
  · obtain ⟨E, hEq⟩ : ∃ x, puE l iv cd (1 + hd) = x := ⟨_, rfl⟩
    have HEQ := Lib.hid hEq
    clear hEq PC2
    go_wp2_with fail
    refine (PC3.out _).mono ?_
    rintro e wz ⟨rfl, rfl⟩
    clear PC3 a3
    have CC := Lib.hid (punish_c A n c l iv cd (1 + hd) wv I0.out E _ HEQ.out rfl (by have := HN.out; omega) HO.out)
    go_wp2_with fail
    refine CC.out.mono ?_
    rintro e wq ⟨v, rfl, ho, kb⟩
    have KQ := Lib.hid (KV.out.trans kb)
    have IQ := Lib.hid (I0.out.bel kb)
    by_cases hE : E = 0
    · subst hE
      have DD := Lib.hid (did_punish (h := hd) HEQ.out)
      obtain ⟨Aq, cq, rfl, hrs⟩ := Rw.OwnR.slice ho
      have RQ := Lib.hid hrs
      clear ho hrs kb CC
      go_wp2_with fail
      go_ret2
      exact doR_yes (base := 0) HLN.out RQ.out DD.out KQ.out
    · have hne : (E != 0) = true := by rw [bne_iff_ne]; exact hE
      obtain ⟨Aq, cq, rfl, _⟩ := Rw.OwnR.slice ho
      clear ho kb CC
      go_wp2_with fail
      go_ret2
      exact doR_no IQ.out HCK.out KQ.out hE
end Ro
end Go.Proofs.Ytpfdakkameifkaa
end

section
/-
  What the law RosterStays answers: true, for all lists of acts. Conditions: the numbers are ints.
-/
namespace Go.Proofs.Ytpfdakkameifkaa
open Go.RowKit Go.Shelf
set_option linter.unusedVariables false
set_option linter.unusedSimpArgs false
namespace Ro
open Kk Pm

/-- An act: its kind, a number, a height, a class, each by a number. -/
abbrev A4 := Int × Int × Int × Int
def aC : A4 → List Value
  | (a, b, c, d) => [.int .i64 a, .int .i64 b, .int .i64 c, .int .i64 d]
def aR : Rw.Row A4 where
  k := aC
  z := 4
  len := fun _ => rfl
  one := fun r u hu => by
    obtain ⟨a, b, c, d⟩ := r
    simp [aC] at hu
    rcases hu with rfl | rfl | rfl | rfl <;> rfl
  pos := by decide
def WA : A4 → Prop
  | (a, b, c, d) => I64 a ∧ I64 b ∧ I64 c ∧ I64 d
/-- Acts as they come in. -/
def Acts (w : World) (A : Option Addr) (n c : Nat) : Prop :=
  n ≤ c ∧ (A = none → c = 0) ∧ (0 < n → ∃ b o, A = some ⟨b, o, none⟩ ∧ b < w.heap.size ∧ ∀ i, i < n → ∃ z0 z1 z2 z3 : Int, (-9223372036854775808 ≤ z0 ∧ z0 ≤ 9223372036854775807 ∧ -9223372036854775808 ≤ z1 ∧ z1 ≤ 9223372036854775807 ∧ -9223372036854775808 ≤ z2 ∧ z2 ≤ 9223372036854775807 ∧ -9223372036854775808 ≤ z3 ∧ z3 ≤ 9223372036854775807) ∧ w.rangeAt b (o + i * 4) [.int .i64 z0, .int .i64 z1, .int .i64 z2, .int .i64 z3])
theorem acts_rs {w : World} {A : Option Addr} {n c : Nat} (h : Acts w A n c) : ∃ l, Rw.RS aR w A n c l ∧ ∀ r ∈ l, WA r := by
  obtain ⟨h1, h2, h3⟩ := h
  refine rs_in aR WA h1 h2 fun h0 => ?_
  obtain ⟨b, o, e, hlt, hr⟩ := h3 h0
  refine ⟨b, o, e, hlt, fun i hi => ?_⟩
  obtain ⟨z0, z1, z2, z3, hz, hc⟩ := hr i hi
  exact ⟨(z0, z1, z2, z3), ⟨⟨hz.1, hz.2.1⟩, ⟨hz.2.2.1, hz.2.2.2.1⟩, ⟨hz.2.2.2.2.1, hz.2.2.2.2.2.1⟩, ⟨hz.2.2.2.2.2.2.1, hz.2.2.2.2.2.2.2⟩⟩, hc⟩
theorem info_a : (Try.prog.info? 63).map (·.size) = some 4 := by kernel_rfl
theorem rng4 {w : World} {b o : Nat} {a1 a2 a3 a4 : Value} (h : w.rangeAt b o [a1, a2, a3, a4]) : w.cell? ⟨b, o, none⟩ = some a1 ∧ w.cell? ⟨b, o + 1, none⟩ = some a2 ∧ w.cell? ⟨b, o + 2, none⟩ = some a3 ∧ w.cell? ⟨b, o + 3, none⟩ = some a4 :=
  ⟨h 0 _ rfl, h 1 _ rfl, h 2 _ rfl, h 3 _ rfl⟩
theorem ops_i {l : List V6} (hc : (chk l).1 = 0) : ∀ r ∈ l, I64 (op r) := fun r hr => by
  obtain ⟨k, hk⟩ := List.getElem?_of_mem hr
  have hg := gd_at hc hk
  obtain ⟨a1, a2, a3, a4, a5, a6⟩ := r
  obtain ⟨g1, g2, _⟩ := hg
  show I64 a1
  unfold I64; omega
set_option maxRecDepth 100000 in
set_option maxHeartbeats 32000000 in
theorem staysLaw (A : Option Addr) (n c : Nat) (l : List A4) (w : World) (hi : Rw.RS aR w A n c l) (hw : ∀ r ∈ l, WA r) :
    Calls Try.prog 7 #[.slice A n c] w fun e w' => e = .returned (.bool true) ∧ Bel w w' := by
  have HI := Lib.hid hi
  have HW := Lib.hid hw
  have KN := Lib.hid (known w)
  clear hi hw
  by_cases hlong : 80 < n
  · have hlong3 : (80 : Int) < n := by omega
    go_enter Try.func7, Try.ntmps7
    go_wp2_with fail
    refine KN.out.mono ?_
    rintro e w1 ⟨rfl, kb⟩
    have KB := Lib.hid (show Bel w w1 from kb)
    clear kb
    go_wp2_with fail
    go_ret
    exact ⟨rfl, KB.out⟩
  have hlong3 : ¬ (80 : Int) < n := by omega
  go_enter Try.func7, Try.ntmps7
  go_wp2_with fail
  refine KN.out.mono ?_
  rintro e w1 ⟨rfl, kb⟩
  have KB := Lib.hid (show Bel w w1 from kb)
  clear kb KN
  go_wp2_with fail
  go_loopw [2, 4, 5] (fun s2 s4 s5 wr => ∃ (k N cN : Nat) (AN : Option Addr) (L : List V6), s2 = .bool false ∧ s5 = .int .i64 k ∧ k ≤ n ∧ s4 = .slice AN N cN ∧ Hid (Rw.RS vR wr AN N cN L) ∧ Hid ((chk L).1 = 0) ∧ Hid (Bel w wr)) (fun _ _ s5 _ => n - (intOf s5).toNat)
  case atStart => exact ⟨0, 0, 0, none, [], rfl, rfl, Nat.zero_le _, rfl, Lib.hid (Rw.RS.nil_ (K := vR)), Lib.hid rfl, KB⟩
  case round =>
    obtain ⟨k, N, cN, AN, L, rfl, rfl, hk, rfl, hr, hc, hh⟩ := hrel
    by_cases hlt : k < n
    · obtain ⟨⟨x1, x2, x3, x4⟩, hrow0⟩ := HI.out.get hlt
      obtain ⟨ba, qa, rfl, hba, hrow⟩ := (HI.out.bel hh.out).at hlt hrow0
      obtain ⟨hK, hI', hH, hC⟩ := HW.out _ (List.mem_of_getElem? hrow0)
      have hrow' : wr.rangeAt ba (qa + k * 4) [.int .i64 x1, .int .i64 x2, .int .i64 x3, .int .i64 x4] := hrow
      have HROW := Lib.hid hrow'
      have HKI := Lib.hid hK
      have HHI := Lib.hid hH
      obtain ⟨c0, c1, c2, c3⟩ := rng4 hrow'
      have DO := Lib.hid (does_ AN N cN L x1 x2 x3 x4 wr hr.out hc.out hK hI' hH hC)
      have HN := Lib.hid (show N ≤ 32 by have := (chk_ok.1 hc.out).1; rw [hr.out.len] at this; exact this)
      have hlt3 : (k : Int) < n := by omega
      have hlt0 : (0 : Int) ≤ k := by omega
      clear hrow hrow' hK hI' hH hC hrow0 hba
      go_wp2_with fail
      refine DO.out.mono ?_
      rintro e w2 ⟨A', n', c', l', E, rfl, hr2, hc2, hlo, hhi, hst, kb⟩
      have ROW2 := Lib.hid (Pm.rng_bel HROW.out kb)
      have R1 := Lib.hid (hr.out.bel kb)
      have K2 := Lib.hid (hh.out.trans kb)
      have R2 := Lib.hid hr2
      have C2 := Lib.hid hc2
      have ST := Lib.hid hst
      have hn' : n' ≤ 33 := by have := HN.out; omega
      have CH := Lib.hid (show Calls Try.prog 15 #[.slice A' n' c'] w2 fun e w' => e = .returned (.tuple #[.int .i64 0, .int .i64 (chk l').2]) ∧ Bel w2 w' by
        have := check A' n' c' l' w2 hr2 (by omega) (ops_i hc2)
        rw [hc2] at this
        exact this)
      clear c0 c1 c2 c3 DO HROW hr hc hh hr2 hc2 hst kb
      go_wp2_with fail
      refine CH.out.mono ?_
      rintro e w3 ⟨rfl, kb⟩
      have ROW3 := Lib.hid (Pm.rng_bel ROW2.out kb)
      have R13 := Lib.hid (R1.out.bel kb)
      have R23 := Lib.hid (R2.out.bel kb)
      have K3 := Lib.hid (K2.out.trans kb)
      clear CH kb ROW2 R1 R2 K2
      have hn32 := HN.out
      have hlo3 : ¬ (n' : Int) < N := by omega
      have hw1 : IntKind.i64.wrap ((N : Int) + 1) = N + 1 := IntWalk.i64_in _ (by omega)
      have hhi3 : ¬ (N : Int) + 1 < n' := by omega
      have hd1 : decide ((n' : Int) < N) = false := decide_eq_false hlo3
      have hd2 : decide ((N : Int) + 1 < n') = false := decide_eq_false hhi3
      have hd3 : decide (n' < N) = false := decide_eq_false (by omega)
      go_wp2_with fail
      go_loopw [2, 10] (fun s2 s10 wr => ∃ i : Nat, s2 = .bool false ∧ s10 = .int .i64 i ∧ i ≤ N ∧ Hid (Bel w3 wr)) (fun _ s10 _ => N - (intOf s10).toNat)
      case atStart => exact ⟨0, rfl, rfl, Nat.zero_le _, Lib.hid (Bel.refl _)⟩
      case round =>
        obtain ⟨i, rfl, rfl, hiN, hx⟩ := hrel
        by_cases hli : i < N
        · have hli3 : (i : Int) < N := by omega
          have hli0 : (0 : Int) ≤ i := by omega
          have hlm : i < n' := by omega
          have hlm3 : (i : Int) < n' := by omega
          obtain ⟨⟨r1, r2, r3, r4, r5, r6⟩, hra⟩ := R13.out.get hli
          obtain ⟨⟨q1, q2, q3, q4, q5, q6⟩, hrb⟩ := R23.out.get hlm
          obtain ⟨bn, qn, rfl, _, hwa⟩ := (R13.out.bel hx.out).at hli hra
          obtain ⟨bm, qm, rfl, _, hwb⟩ := (R23.out.bel hx.out).at hlm hrb
          have HA := Lib.hid (show wr.rangeAt bn (qn + i * 6) [.int .i64 r1, .int .u64 r2, .int .i64 r3, .int .i64 r4, .bool r5, .bool r6] from hwa)
          have HB := Lib.hid (show wr.rangeAt bm (qm + i * 6) [.int .i64 q1, .int .u64 q2, .int .i64 q3, .int .i64 q4, .bool q5, .bool q6] from hwb)
          have HC := Lib.hid (Pm.rng_bel ROW3.out hx.out)
          have HRA := Lib.hid hra
          have HRB := Lib.hid hrb
          clear hwa hwb hra hrb
          by_cases hE : E = 0
          · have heq : (E == 0) = true := beq_iff_eq.2 hE
            have HS := Lib.hid (ST.out hE i _ _ HRA.out HRB.out)
            clear hE
            go_upto_region 15 with fail
            refine wp_region_held_drew (S := fun Vx => Bel wr Vx) (by kernel_rfl) (Bel.refl _).drew (fun hS0 => ?_)
            obtain ⟨w6, hw6⟩ : ∃ w6, World.drew wr = w6 := ⟨_, rfl⟩
            rw [hw6] at hS0 ⊢
            clear hw6
            refine wpAnyH_take (i := 0) (oi := { dst := some 59, op := .move (.tmp 7), type := 26, pos := "outright.go:136", after := #[], guard := none }) (v := .int .i64 E) rfl (by kernel_rfl) (by kernel_rfl) (by kernel_rfl) (fun _ _ _ h => h) (Or.inl ⟨by rfl, by intro w hSw; clear hSw; go_simp⟩) hS0 ?_
            try simp only [Act.put, List.setIfInBounds_toArray, List.set_cons_zero, List.set_cons_succ]
            refine wpAnyH_take (i := 1) (oi := { dst := some 60, op := .binOp .eql 26 (.tmp 59) (.const (Value.int IntKind.i64 0)) 26, type := 4, pos := "outright.go:136", after := #[{ on := 0, ground := .data }], guard := none }) (v := .bool true) rfl (by kernel_rfl) (by kernel_rfl) (by kernel_rfl) (fun _ _ _ h => h) (Or.inl ⟨by rfl, by intro w hSw; clear hSw; go_simp⟩) hS0 ?_
            try simp only [Act.put, List.setIfInBounds_toArray, List.set_cons_zero, List.set_cons_succ]
            refine wpAnyH_take (i := 2) (oi := { dst := some 61, op := .move (.tmp 60), type := 4, pos := "outright.go:136", after := #[{ on := 1, ground := .data }], guard := none }) (v := .bool true) rfl (by kernel_rfl) (by kernel_rfl) (by kernel_rfl) (fun _ _ _ h => h) (Or.inl ⟨by rfl, by intro w hSw; clear hSw; go_simp⟩) hS0 ?_
            try simp only [Act.put, List.setIfInBounds_toArray, List.set_cons_zero, List.set_cons_succ]
            refine wpAnyH_take (i := 3) (oi := { dst := some 62, op := .move (.tmp 4), type := 22, pos := "outright.go:136", after := #[{ on := 2, ground := .guard }], guard := some (2, true) }) (v := .slice (some ⟨bn, qn, none⟩) N cN) rfl (by kernel_rfl) (by kernel_rfl) (by kernel_rfl) (fun _ _ _ h => h) (Or.inl ⟨by rfl, by intro w hSw; clear hSw; go_simp⟩) hS0 ?_
            try simp only [Act.put, List.setIfInBounds_toArray, List.set_cons_zero, List.set_cons_succ]
            refine wpAnyH_take (i := 4) (oi := { dst := some 63, op := .move (.tmp 10), type := 3, pos := "outright.go:136", after := #[{ on := 2, ground := .guard }], guard := some (2, true) }) (v := .int .i64 i) rfl (by kernel_rfl) (by kernel_rfl) (by kernel_rfl) (fun _ _ _ h => h) (Or.inl ⟨by rfl, by intro w hSw; clear hSw; go_simp⟩) hS0 ?_
            try simp only [Act.put, List.setIfInBounds_toArray, List.set_cons_zero, List.set_cons_succ]
            refine wpAnyH_take (i := 5) (oi := { dst := some 64, op := .indexAddr 22 (.tmp 62) (.tmp 63), type := 0, pos := "outright.go:136", after := #[{ on := 3, ground := .data }, { on := 4, ground := .data }, { on := 2, ground := .guard }], guard := some (2, true) }) (v := .pointer (some ⟨bn, qn + i * 6, none⟩)) rfl (by kernel_rfl) (by kernel_rfl) (by kernel_rfl) (fun _ _ _ h => h) (Or.inl ⟨by rfl, by intro w hSw; clear hSw; go_simp⟩) hS0 ?_
            try simp only [Act.put, List.setIfInBounds_toArray, List.set_cons_zero, List.set_cons_succ]
            refine wpAnyH_take (i := 6) (oi := { dst := some 65, op := .load 66 (.tmp 64), type := 66, pos := "outright.go:136", after := #[{ on := 5, ground := .data }, { on := 2, ground := .guard }], guard := some (2, true) }) (v := .agg #[.int .i64 r1, .int .u64 r2, .int .i64 r3, .int .i64 r4, .bool r5, .bool r6]) rfl (by kernel_rfl) (by kernel_rfl) (by kernel_rfl) (fun _ _ _ h => h) (yieldsIf_load_mid (by rfl) _ _ rfl _ _ rfl _ _ (fun w h => Pm.rng_bel HA.out h) Try.underlying66 rfl info_v) hS0 ?_
            try simp only [Act.put, List.setIfInBounds_toArray, List.set_cons_zero, List.set_cons_succ]
            refine wpAnyH_take (i := 7) (oi := { dst := some 66, op := .move (.tmp 6), type := 22, pos := "outright.go:136", after := #[{ on := 2, ground := .guard }], guard := some (2, true) }) (v := .slice (some ⟨bm, qm, none⟩) n' c') rfl (by kernel_rfl) (by kernel_rfl) (by kernel_rfl) (fun _ _ _ h => h) (Or.inl ⟨by rfl, by intro w hSw; clear hSw; go_simp⟩) hS0 ?_
            try simp only [Act.put, List.setIfInBounds_toArray, List.set_cons_zero, List.set_cons_succ]
            refine wpAnyH_take (i := 8) (oi := { dst := some 67, op := .move (.tmp 10), type := 3, pos := "outright.go:136", after := #[{ on := 2, ground := .guard }], guard := some (2, true) }) (v := .int .i64 i) rfl (by kernel_rfl) (by kernel_rfl) (by kernel_rfl) (fun _ _ _ h => h) (Or.inl ⟨by rfl, by intro w hSw; clear hSw; go_simp⟩) hS0 ?_
            try simp only [Act.put, List.setIfInBounds_toArray, List.set_cons_zero, List.set_cons_succ]
            refine wpAnyH_take (i := 9) (oi := { dst := some 68, op := .indexAddr 22 (.tmp 66) (.tmp 67), type := 0, pos := "outright.go:136", after := #[{ on := 7, ground := .data }, { on := 8, ground := .data }, { on := 2, ground := .guard }], guard := some (2, true) }) (v := .pointer (some ⟨bm, qm + i * 6, none⟩)) rfl (by kernel_rfl) (by kernel_rfl) (by kernel_rfl) (fun _ _ _ h => h) (Or.inl ⟨by rfl, by intro w hSw; clear hSw; go_simp⟩) hS0 ?_
            try simp only [Act.put, List.setIfInBounds_toArray, List.set_cons_zero, List.set_cons_succ]
            refine wpAnyH_take (i := 10) (oi := { dst := some 69, op := .load 66 (.tmp 68), type := 66, pos := "outright.go:136", after := #[{ on := 9, ground := .data }, { on := 2, ground := .guard }], guard := some (2, true) }) (v := .agg #[.int .i64 q1, .int .u64 q2, .int .i64 q3, .int .i64 q4, .bool q5, .bool q6]) rfl (by kernel_rfl) (by kernel_rfl) (by kernel_rfl) (fun _ _ _ h => h) (yieldsIf_load_mid (by rfl) _ _ rfl _ _ rfl _ _ (fun w h => Pm.rng_bel HB.out h) Try.underlying66 rfl info_v) hS0 ?_
            try simp only [Act.put, List.setIfInBounds_toArray, List.set_cons_zero, List.set_cons_succ]
            refine wpAnyH_take (i := 11) (oi := { dst := some 70, op := .move (.tmp 0), type := 60, pos := "outright.go:136", after := #[{ on := 2, ground := .guard }], guard := some (2, true) }) (v := .slice (some ⟨ba, qa, none⟩) n c) rfl (by kernel_rfl) (by kernel_rfl) (by kernel_rfl) (fun _ _ _ h => h) (Or.inl ⟨by rfl, by intro w hSw; clear hSw; go_simp⟩) hS0 ?_
            try simp only [Act.put, List.setIfInBounds_toArray, List.set_cons_zero, List.set_cons_succ]
            refine wpAnyH_take (i := 12) (oi := { dst := some 71, op := .move (.tmp 5), type := 3, pos := "outright.go:136", after := #[{ on := 2, ground := .guard }], guard := some (2, true) }) (v := .int .i64 k) rfl (by kernel_rfl) (by kernel_rfl) (by kernel_rfl) (fun _ _ _ h => h) (Or.inl ⟨by rfl, by intro w hSw; clear hSw; go_simp⟩) hS0 ?_
            try simp only [Act.put, List.setIfInBounds_toArray, List.set_cons_zero, List.set_cons_succ]
            refine wpAnyH_take (i := 13) (oi := { dst := some 72, op := .indexAddr 60 (.tmp 70) (.tmp 71), type := 0, pos := "outright.go:136", after := #[{ on := 11, ground := .data }, { on := 12, ground := .data }, { on := 2, ground := .guard }], guard := some (2, true) }) (v := .pointer (some ⟨ba, qa + k * 4, none⟩)) rfl (by kernel_rfl) (by kernel_rfl) (by kernel_rfl) (fun _ _ _ h => h) (Or.inl ⟨by rfl, by intro w hSw; clear hSw; go_simp⟩) hS0 ?_
            try simp only [Act.put, List.setIfInBounds_toArray, List.set_cons_zero, List.set_cons_succ]
            refine wpAnyH_take (i := 14) (oi := { dst := some 73, op := .load 63 (.tmp 72), type := 63, pos := "outright.go:136", after := #[{ on := 13, ground := .data }, { on := 2, ground := .guard }], guard := some (2, true) }) (v := .agg #[.int .i64 x1, .int .i64 x2, .int .i64 x3, .int .i64 x4]) rfl (by kernel_rfl) (by kernel_rfl) (by kernel_rfl) (fun _ _ _ h => h) (yieldsIf_load_mid (by rfl) _ _ rfl _ _ rfl _ _ (fun w h => Pm.rng_bel HC.out h) Try.underlying63 rfl info_a) hS0 ?_
            try simp only [Act.put, List.setIfInBounds_toArray, List.set_cons_zero, List.set_cons_succ]
            refine wpAnyH_ready (rs := [15]) (by kernel_rfl) (by simp) ?_
            refine AllReadyH.cons (o := { dst := some 74, op := .call { callee := .value (.func 51), args := #[.tmp 65, .tmp 69, .tmp 73], argTypes := #[66, 66, 63] }, type := 4, pos := "outright.go:136", after := #[{ on := 6, ground := .data }, { on := 10, ground := .data }, { on := 14, ground := .data }, { on := 2, ground := .chain }, { on := 2, ground := .guard }], guard := some (2, true) }) rfl (fun K hK => ?_) AllReadyH.nil
            rw [if_pos (by kernel_rfl)]
            go_simp
            refine (steps_ r1 r2 r3 r4 r5 r6 q1 q2 q3 q4 q5 q6 x1 x2 x3 x4 _ HKI.out HHI.out HS.out).mono ?_
            rintro e v1 ⟨rfl, kb⟩
            go_wp2_with fail
            refine hK.out _ _ (hS0.trans kb) (fun hS1 => ?_)
            clear hK K
            try simp only [Act.put, List.setIfInBounds_toArray, List.set_cons_zero, List.set_cons_succ]
            refine wpAnyH_take (i := 16) (oi := { dst := some 75, op := .unOp .not 4 (.tmp 74), type := 4, pos := "outright.go:136", after := #[{ on := 15, ground := .data }, { on := 2, ground := .guard }], guard := some (2, true) }) (v := .bool false) rfl (by kernel_rfl) (by kernel_rfl) (by kernel_rfl) (fun _ _ _ h => h) (Or.inl ⟨by rfl, by intro w hSw; clear hSw; go_simp⟩) hS1 ?_
            try simp only [Act.put, List.setIfInBounds_toArray, List.set_cons_zero, List.set_cons_succ]
            refine wpAnyH_take (i := 17) (oi := { dst := some 76, op := .pick (.tmp 61) (.tmp 75) (.const (Value.bool false)), type := 4, pos := "outright.go:136", after := #[{ on := 2, ground := .data }, { on := 16, ground := .data }], guard := none }) (v := .bool false) rfl (by kernel_rfl) (by kernel_rfl) (by kernel_rfl) (fun _ _ _ h => h) (Or.inl ⟨by rfl, by intro w hSw; clear hSw; go_simp⟩) hS1 ?_
            try simp only [Act.put, List.setIfInBounds_toArray, List.set_cons_zero, List.set_cons_succ]
            refine wpAnyH_done (by kernel_rfl) ?_ _
            have KX := Lib.hid (hx.out.trans hS1)
            clear hS1 HA HB HC HRA HRB HS
            go_wp2_with fail
            go_roundw
            case rel => exact ⟨i + 1, rfl, by go_num, by omega, KX⟩
            case measure => simp [intOf]; omega
          · have hne : (E == 0) = false := beq_eq_false_iff_ne.2 hE
            go_upto_region 15 with fail
            refine wp_region_held_drew (S := fun Vx => Bel wr Vx) (by kernel_rfl) (Bel.refl _).drew (fun hS0 => ?_)
            obtain ⟨w6, hw6⟩ : ∃ w6, World.drew wr = w6 := ⟨_, rfl⟩
            rw [hw6] at hS0 ⊢
            clear hw6
            refine wpAnyH_take (i := 0) (oi := { dst := some 59, op := .move (.tmp 7), type := 26, pos := "outright.go:136", after := #[], guard := none }) (v := .int .i64 E) rfl (by kernel_rfl) (by kernel_rfl) (by kernel_rfl) (fun _ _ _ h => h) (Or.inl ⟨by rfl, by intro w hSw; clear hSw; go_simp⟩) hS0 ?_
            try simp only [Act.put, List.setIfInBounds_toArray, List.set_cons_zero, List.set_cons_succ]
            refine wpAnyH_take (i := 1) (oi := { dst := some 60, op := .binOp .eql 26 (.tmp 59) (.const (Value.int IntKind.i64 0)) 26, type := 4, pos := "outright.go:136", after := #[{ on := 0, ground := .data }], guard := none }) (v := .bool false) rfl (by kernel_rfl) (by kernel_rfl) (by kernel_rfl) (fun _ _ _ h => h) (Or.inl ⟨by rfl, by intro w hSw; clear hSw; go_simp⟩) hS0 ?_
            try simp only [Act.put, List.setIfInBounds_toArray, List.set_cons_zero, List.set_cons_succ]
            refine wpAnyH_take (i := 2) (oi := { dst := some 61, op := .move (.tmp 60), type := 4, pos := "outright.go:136", after := #[{ on := 1, ground := .data }], guard := none }) (v := .bool false) rfl (by kernel_rfl) (by kernel_rfl) (by kernel_rfl) (fun _ _ _ h => h) (Or.inl ⟨by rfl, by intro w hSw; clear hSw; go_simp⟩) hS0 ?_
            try simp only [Act.put, List.setIfInBounds_toArray, List.set_cons_zero, List.set_cons_succ]
            refine wpAnyH_take (i := 3) (oi := { dst := some 62, op := .move (.tmp 4), type := 22, pos := "outright.go:136", after := #[{ on := 2, ground := .guard }], guard := some (2, true) }) (v := undef) rfl (by kernel_rfl) (by kernel_rfl) (by kernel_rfl) (fun _ _ _ h => h) (Or.inr ⟨by rfl, by rfl⟩) hS0 ?_
            try simp only [Act.put, List.setIfInBounds_toArray, List.set_cons_zero, List.set_cons_succ]
            refine wpAnyH_take (i := 4) (oi := { dst := some 63, op := .move (.tmp 10), type := 3, pos := "outright.go:136", after := #[{ on := 2, ground := .guard }], guard := some (2, true) }) (v := undef) rfl (by kernel_rfl) (by kernel_rfl) (by kernel_rfl) (fun _ _ _ h => h) (Or.inr ⟨by rfl, by rfl⟩) hS0 ?_
            try simp only [Act.put, List.setIfInBounds_toArray, List.set_cons_zero, List.set_cons_succ]
            refine wpAnyH_take (i := 5) (oi := { dst := some 64, op := .indexAddr 22 (.tmp 62) (.tmp 63), type := 0, pos := "outright.go:136", after := #[{ on := 3, ground := .data }, { on := 4, ground := .data }, { on := 2, ground := .guard }], guard := some (2, true) }) (v := undef) rfl (by kernel_rfl) (by kernel_rfl) (by kernel_rfl) (fun _ _ _ h => h) (Or.inr ⟨by rfl, by rfl⟩) hS0 ?_
            try simp only [Act.put, List.setIfInBounds_toArray, List.set_cons_zero, List.set_cons_succ]
            refine wpAnyH_take (i := 6) (oi := { dst := some 65, op := .load 66 (.tmp 64), type := 66, pos := "outright.go:136", after := #[{ on := 5, ground := .data }, { on := 2, ground := .guard }], guard := some (2, true) }) (v := undef) rfl (by kernel_rfl) (by kernel_rfl) (by kernel_rfl) (fun _ _ _ h => h) (Or.inr ⟨by rfl, by rfl⟩) hS0 ?_
            try simp only [Act.put, List.setIfInBounds_toArray, List.set_cons_zero, List.set_cons_succ]
            refine wpAnyH_take (i := 7) (oi := { dst := some 66, op := .move (.tmp 6), type := 22, pos := "outright.go:136", after := #[{ on := 2, ground := .guard }], guard := some (2, true) }) (v := undef) rfl (by kernel_rfl) (by kernel_rfl) (by kernel_rfl) (fun _ _ _ h => h) (Or.inr ⟨by rfl, by rfl⟩) hS0 ?_
            try simp only [Act.put, List.setIfInBounds_toArray, List.set_cons_zero, List.set_cons_succ]
            refine wpAnyH_take (i := 8) (oi := { dst := some 67, op := .move (.tmp 10), type := 3, pos := "outright.go:136", after := #[{ on := 2, ground := .guard }], guard := some (2, true) }) (v := undef) rfl (by kernel_rfl) (by kernel_rfl) (by kernel_rfl) (fun _ _ _ h => h) (Or.inr ⟨by rfl, by rfl⟩) hS0 ?_
            try simp only [Act.put, List.setIfInBounds_toArray, List.set_cons_zero, List.set_cons_succ]
            refine wpAnyH_take (i := 9) (oi := { dst := some 68, op := .indexAddr 22 (.tmp 66) (.tmp 67), type := 0, pos := "outright.go:136", after := #[{ on := 7, ground := .data }, { on := 8, ground := .data }, { on := 2, ground := .guard }], guard := some (2, true) }) (v := undef) rfl (by kernel_rfl) (by kernel_rfl) (by kernel_rfl) (fun _ _ _ h => h) (Or.inr ⟨by rfl, by rfl⟩) hS0 ?_
            try simp only [Act.put, List.setIfInBounds_toArray, List.set_cons_zero, List.set_cons_succ]
            refine wpAnyH_take (i := 10) (oi := { dst := some 69, op := .load 66 (.tmp 68), type := 66, pos := "outright.go:136", after := #[{ on := 9, ground := .data }, { on := 2, ground := .guard }], guard := some (2, true) }) (v := undef) rfl (by kernel_rfl) (by kernel_rfl) (by kernel_rfl) (fun _ _ _ h => h) (Or.inr ⟨by rfl, by rfl⟩) hS0 ?_
            try simp only [Act.put, List.setIfInBounds_toArray, List.set_cons_zero, List.set_cons_succ]
            refine wpAnyH_take (i := 11) (oi := { dst := some 70, op := .move (.tmp 0), type := 60, pos := "outright.go:136", after := #[{ on := 2, ground := .guard }], guard := some (2, true) }) (v := undef) rfl (by kernel_rfl) (by kernel_rfl) (by kernel_rfl) (fun _ _ _ h => h) (Or.inr ⟨by rfl, by rfl⟩) hS0 ?_
            try simp only [Act.put, List.setIfInBounds_toArray, List.set_cons_zero, List.set_cons_succ]
            refine wpAnyH_take (i := 12) (oi := { dst := some 71, op := .move (.tmp 5), type := 3, pos := "outright.go:136", after := #[{ on := 2, ground := .guard }], guard := some (2, true) }) (v := undef) rfl (by kernel_rfl) (by kernel_rfl) (by kernel_rfl) (fun _ _ _ h => h) (Or.inr ⟨by rfl, by rfl⟩) hS0 ?_
            try simp only [Act.put, List.setIfInBounds_toArray, List.set_cons_zero, List.set_cons_succ]
            refine wpAnyH_take (i := 13) (oi := { dst := some 72, op := .indexAddr 60 (.tmp 70) (.tmp 71), type := 0, pos := "outright.go:136", after := #[{ on := 11, ground := .data }, { on := 12, ground := .data }, { on := 2, ground := .guard }], guard := some (2, true) }) (v := undef) rfl (by kernel_rfl) (by kernel_rfl) (by kernel_rfl) (fun _ _ _ h => h) (Or.inr ⟨by rfl, by rfl⟩) hS0 ?_
            try simp only [Act.put, List.setIfInBounds_toArray, List.set_cons_zero, List.set_cons_succ]
            refine wpAnyH_take (i := 14) (oi := { dst := some 73, op := .load 63 (.tmp 72), type := 63, pos := "outright.go:136", after := #[{ on := 13, ground := .data }, { on := 2, ground := .guard }], guard := some (2, true) }) (v := undef) rfl (by kernel_rfl) (by kernel_rfl) (by kernel_rfl) (fun _ _ _ h => h) (Or.inr ⟨by rfl, by rfl⟩) hS0 ?_
            try simp only [Act.put, List.setIfInBounds_toArray, List.set_cons_zero, List.set_cons_succ]
            refine wpAnyH_take (i := 15) (oi := { dst := some 74, op := .call { callee := .value (.func 51), args := #[.tmp 65, .tmp 69, .tmp 73], argTypes := #[66, 66, 63] }, type := 4, pos := "outright.go:136", after := #[{ on := 6, ground := .data }, { on := 10, ground := .data }, { on := 14, ground := .data }, { on := 2, ground := .chain }, { on := 2, ground := .guard }], guard := some (2, true) }) (v := undef) rfl (by kernel_rfl) (by kernel_rfl) (by kernel_rfl) (fun _ _ _ h => h) (Or.inr ⟨by rfl, by rfl⟩) hS0 ?_
            try simp only [Act.put, List.setIfInBounds_toArray, List.set_cons_zero, List.set_cons_succ]
            refine wpAnyH_take (i := 16) (oi := { dst := some 75, op := .unOp .not 4 (.tmp 74), type := 4, pos := "outright.go:136", after := #[{ on := 15, ground := .data }, { on := 2, ground := .guard }], guard := some (2, true) }) (v := undef) rfl (by kernel_rfl) (by kernel_rfl) (by kernel_rfl) (fun _ _ _ h => h) (Or.inr ⟨by rfl, by rfl⟩) hS0 ?_
            try simp only [Act.put, List.setIfInBounds_toArray, List.set_cons_zero, List.set_cons_succ]
            refine wpAnyH_take (i := 17) (oi := { dst := some 76, op := .pick (.tmp 61) (.tmp 75) (.const (Value.bool false)), type := 4, pos := "outright.go:136", after := #[{ on := 2, ground := .data }, { on := 16, ground := .data }], guard := none }) (v := .bool false) rfl (by kernel_rfl) (by kernel_rfl) (by kernel_rfl) (fun _ _ _ h => h) (Or.inl ⟨by rfl, by intro w hSw; clear hSw; go_simp⟩) hS0 ?_
            try simp only [Act.put, List.setIfInBounds_toArray, List.set_cons_zero, List.set_cons_succ]
            refine wpAnyH_done (by kernel_rfl) ?_ _
            have KX := Lib.hid (hx.out.trans hS0)
            clear hS0 HA HB HC HRA HRB
            go_wp2_with fail
            go_roundw
            case rel => exact ⟨i + 1, rfl, by go_num, by omega, KX⟩
            case measure => simp [intOf]; omega
        · obtain rfl : i = N := by omega
          have hli3 : ¬ (i : Int) < i := by omega
          have R2x := Lib.hid (R23.out.bel hx.out)
          have K3x := Lib.hid (K3.out.trans hx.out)
          go_wp2_with fail
          go_roundw
          case rel => exact ⟨k + 1, n', c', A', l', rfl, by go_num, by omega, rfl, R2x, C2, K3x⟩
          case measure => simp [intOf]; omega
    · obtain rfl : k = n := by omega
      have hlt3 : ¬ (k : Int) < k := by omega
      go_wp2_with fail
      go_ret
      exact ⟨rfl, hh.out⟩
theorem staysLawW (A : Option Addr) (n c : Nat) (w : World) (hn : n ≤ 9223372036854775807) (hi : Acts w A n c) :
    Calls Try.prog 7 #[.slice A n c] w fun e w' => e = .returned (.bool true) ∧ Bel w w' := by
  obtain ⟨l, hl, hw⟩ := acts_rs hi
  exact staysLaw A n c l w hl hw
end Ro
end Go.Proofs.Ytpfdakkameifkaa
end
