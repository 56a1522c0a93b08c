/-
  What the reference's Choose answers of any list. Conditions: at most a million validators and bools.
-/
import Derived.Test.YtpfdakkameifkaaRo14
namespace Go.Proofs.Ytpfdakkameifkaa
open Go.RowKit Go.Shelf
set_option linter.unusedVariables false
set_option linter.unusedSimpArgs false
namespace Ro
open Kk Pm

set_option maxRecDepth 100000 in
set_option maxHeartbeats 8000000 in
theorem chooseR (A : Option Addr) (n c : Nat) (l : List V6) (B : Option Addr) (m d : Nat) (bs : List Bool) (w : World) (hi : Rw.RS vR w A n c l) (hn : n ≤ 1000000) (hb : Rw.RS bR w B m d bs) (hm : m ≤ 1000000) :
    Calls Try.prog 29 #[.slice A n c, .slice B m d] w fun x w' => ChR w w' l bs x := by
  have HI := Lib.hid hi
  have HLN := Lib.hid hi.len
  have HLB := Lib.hid hb.len
  have HB := Lib.hid hb
  have CK := Lib.hid (checkR A n c l w hi (by omega))
  have CN := Lib.hid (fun V (hv : Bel w V) => copy A n c l V (hi.bel hv) (by omega))
  obtain ⟨e1, he1⟩ : ∃ e, (chk l).1 = e := ⟨_, rfl⟩
  obtain ⟨e2, he2⟩ : ∃ e, (chk l).2 = e := ⟨_, rfl⟩
  have H1 := Lib.hid he1
  rw [he1, he2] at CK
  clear hi he1 he2 hb
  go_enter Try.func29, Try.ntmps29
  go_wp2_with fail
  refine CK.out.mono ?_
  rintro x w1 ⟨rfl, kb⟩
  have K1 := Lib.hid kb
  clear kb CK
  by_cases h0 : e1 = 0
  case neg =>
    have hne : (e1 != 0) = true := by rw [bne_iff_ne]; exact h0
    have HE := Lib.hid (chE_0 (l := l) (b := bs) (by rw [H1.out]; exact h0))
    go_wp2_with fail
    go_ret2
    exact chR_no K1.out (HE.out.trans H1.out) h0
  subst h0
  by_cases hmn : m = n
  case neg =>
    have hne : ((m : Int) != n) = true := by rw [bne_iff_ne]; omega
    have HE := Lib.hid (chE_2 (l := l) (b := bs) H1.out (by rw [HLN.out, HLB.out]; exact hmn))
    go_wp2_with fail
    go_ret2
    exact chR_no K1.out HE.out (by decide)
  subst hmn
  have hne : ((m : Int) != m) = false := by simp
  have HEQ := Lib.hid (show bs.length = l.length by rw [HLN.out, HLB.out])
  have CN := Lib.hid (CN.out w1 K1.out)
  go_wp2_with fail
  refine CN.out.mono ?_
  rintro x w2 ⟨vc, rfl, ho, kb⟩
  obtain ⟨Ac, cc, rfl, hrs⟩ := ho.slice
  rw [HLN.out] at hrs ho ⊢
  have K2 := Lib.hid (K1.out.trans kb)
  have HO := Lib.hid (ho.mono (Below.size K1.out))
  have FR := Lib.hid (freeR A m c l w2 (HI.out.bel K2.out) (by omega))
  clear kb ho hrs CN
  go_wp2_with fail
  refine FR.out.mono ?_
  rintro x w3 ⟨vf, rfl, hf, kb⟩
  obtain ⟨Af, cf, rfl, hfr⟩ := hf.slice
  rw [List.length_map, HLN.out] at hf hfr ⊢
  have K3 := Lib.hid (K2.out.trans kb)
  have HO3 := Lib.hid (HO.out.bel kb)
  have HF3 := Lib.hid hf
  clear kb hf hfr FR HO
  go_wp2_with fail
  go_loopw [4, 5, 10] (fun s4 s5 s10 wr => ∃ k : Nat, k ≤ m ∧ s10 = .int .i64 k ∧ s4 = .slice none 0 0 ∧ s5 = .int .i64 0 ∧ Hid (OwnV wr w.heap.size (.slice Ac m cc) (cur l bs k)) ∧ Hid (OwnB wr w2.heap.size (.slice Af m cf) (l.map free)) ∧ Hid (Bel w wr) ∧ Hid (∀ (j : Nat) (r : V6) (x : Bool), j < k → l[j]? = some r → bs[j]? = some x → (x && !free r) = false)) (fun _ _ s10 _ => m - (intOf s10).toNat)
  case atStart => exact ⟨0, Nat.zero_le _, rfl, rfl, rfl, Lib.hid (by rw [cur_zero]; exact HO3.out), HF3, K3, Lib.hid (fun j r x hj => absurd hj (by omega))⟩
  case round =>
    obtain ⟨k, hk, rfl, rfl, rfl, ho, hf, hh, hz⟩ := hrel
    by_cases hlt : k < m
    · obtain ⟨⟨r1, r2, r3, r4, r5, r6⟩, hr⟩ := HI.out.get hlt
      obtain ⟨a1, a2, x, rfl, _, hx, ca⟩ := bool_at (HB.out.bel hh.out) hlt
      have hfs : Rw.RS bR wr Af m cf (l.map free) := by
        obtain ⟨A', c', e, h⟩ := hf.out.slice
        injection e with e1 e2 e3
        subst e1 e3
        rw [List.length_map, HLN.out] at h
        exact h
      obtain ⟨b1, b2, y, rfl, _, hy, cb⟩ := bool_at hfs hlt
      have hy2 : free (r1, r2, r3, r4, r5, r6) = y := by
        rw [List.getElem?_map, hr] at hy
        exact Option.some.inj hy
      clear hfs hy
      obtain ⟨g, cap, e, hge, hrb, hcm⟩ := Rw.rb_own vR ho.out (by rw [cur_len HEQ.out (by rw [HLN.out]; omega), HLN.out]; omega)
      rw [cur_len HEQ.out (by rw [HLN.out]; omega), HLN.out] at e
      injection e with ea eb ec
      subst ea ec
      have HRB := Lib.hid hrb
      have HGE := Lib.hid hge
      have HCM := Lib.hid hcm
      have HAL := Lib.hid (show a1 < w.heap.size from by
        obtain ⟨b', o', e', hlt', _⟩ := HB.out.row (by omega)
        injection e' with e'
        injection e' with e1' _
        rw [e1']; exact hlt')
      have HR := Lib.hid hr
      have HX := Lib.hid hx
      have HY := Lib.hid hy2
      have hlt3 : (k : Int) < m := by omega
      have hlt0 : (0 : Int) ≤ k := by omega
      have hfz := hrb.frozen (k * 6 + 2)
      have hthere : wr.cell? ⟨g, k * 6 + 2, none⟩ = some (.int .i64 r3) := (rb_cells hrb (cur_at HEQ.out hr)).2.2.1
      have STEP := fun (s : Int) (hp : pick (r1, r2, r3, r4, r5, r6) x = (r1, r2, s, r4, r5, r6)) => (show
          OwnV (wr.setCell ⟨g, k * 6 + 2, none⟩ (.int .i64 s)) w.heap.size (.slice (some ⟨g, 0, none⟩) m cc) (cur l bs (k + 1)) ∧ OwnB (wr.setCell ⟨g, k * 6 + 2, none⟩ (.int .i64 s)) w2.heap.size (.slice (some ⟨b1, b2, none⟩) m cf) (l.map free) ∧ Bel w (wr.setCell ⟨g, k * 6 + 2, none⟩ (.int .i64 s)) from by
        have h1 := HRB.out.set (o := 2) (r' := (r1, r2, s, r4, r5, r6)) (v := .int .i64 s) (by decide) (cur_at HEQ.out HR.out) rfl
        rw [← hp, cur_set HEQ.out HR.out HX.out] at h1
        have h2 := own_rb h1 HGE.out HCM.out
        rw [cur_len HEQ.out (by rw [HLN.out]; omega), HLN.out] at h2
        refine ⟨h2, hf.out.kep (S := fun b => b = g) (Kep.set_self (Kep.refl _ _) _ _) (fun i e e' => ?_), hh.out.set HGE.out _⟩
        obtain ⟨C, hC, _⟩ := HRB.out.blk
        subst e'
        exact Rw.own_ne hf.out hC (by decide) e)
      have STEP := Lib.hid STEP
      have HZ := fun (h : (x && !y) = false) => (show ∀ (j : Nat) (r : V6) (x : Bool), j < k + 1 → l[j]? = some r → bs[j]? = some x → (x && !free r) = false from fun j r x' hj h1 h2 => by
        rcases Nat.lt_or_ge j k with h' | h'
        · exact hz.out j r x' h' h1 h2
        · obtain rfl : j = k := by omega
          rw [HR.out] at h1
          rw [HX.out] at h2
          injection h1 with h1
          injection h2 with h2
          subst h1 h2
          rw [HY.out]; exact h)
      have HZ := Lib.hid HZ
      have HNE := Lib.hid (fun h : (x && !y) = true => chE_11 (l := l) (b := bs) H1.out HEQ.out (clash_at HR.out HX.out (by rw [HY.out]; exact h)))
      have HSM := Lib.hid (fun h : pick (r1, r2, r3, r4, r5, r6) x = (r1, r2, r3, r4, r5, r6) => cur_same HEQ.out HR.out HX.out h)
      clear hrb hge hcm hr hx hy2
      cases x with
      | true =>
        cases y with
        | true =>
          have hp := pick_t HY.out
          have hgz := Kep.set_self (Kep.refl (fun b => b = g) wr) (k * 6 + 2) (.int .i64 1)
          have h1 := HRB.out.set (o := 2) (r' := (r1, r2, 1, r4, r5, r6)) (v := .int .i64 1) (by decide) (cur_at HEQ.out HR.out) rfl
          have hkl : k < (cur l bs k).length := by rw [cur_len HEQ.out (by rw [HLN.out]; omega), HLN.out]; exact hlt
          have hthere2 := (rb_cells h1 (List.getElem?_set_self hkl)).2.2.1
          have hfz2 := h1.frozen (k * 6 + 2)
          have h2 := h1.set (o := 2) (r' := (r1, r2, 2, r4, r5, r6)) (v := .int .i64 2) (by decide) (List.getElem?_set_self hkl) rfl
          rw [List.set_set, ← hp, cur_set HEQ.out HR.out HX.out] at h2
          have h3 := own_rb h2 HGE.out HCM.out
          rw [cur_len HEQ.out (by rw [HLN.out]; omega), HLN.out] at h3
          have S1 := Lib.hid h3
          have S2 := Lib.hid (hf.out.kep (S := fun b => b = g) (Kep.set_self hgz (k * 6 + 2) (.int .i64 2)) (fun i e e' => by
            obtain ⟨C, hC, _⟩ := HRB.out.blk
            subst e'
            exact Rw.own_ne hf.out hC (by decide) e))
          have S3 := Lib.hid ((hh.out.set (p := ⟨g, k * 6 + 2, none⟩) HGE.out (.int .i64 1)).set (p := ⟨g, k * 6 + 2, none⟩) HGE.out (.int .i64 2))
          have Z := Lib.hid (HZ.out rfl)
          have cb2 := hgz.cell (S := fun b => b = g) (b := b1) (o := b2 + k) (fun e => by
            obtain ⟨C, hC, _⟩ := HRB.out.blk
            subst e
            exact Rw.own_ne hf.out hC (by decide) rfl) cb
          have ca2 := hgz.cell (S := fun b => b = g) (b := a1) (o := a2 + k) (fun e => by
            have := HGE.out
            have := HAL.out
            omega) ca
          clear h1 h2 h3 hp hgz hkl STEP HZ HNE HSM
          go_wp2_with fail
          go_roundw
          case rel => exact ⟨k + 1, by omega, by go_num, rfl, rfl, S1, S2, S3, Z⟩
          case measure => simp [intOf]; omega
        | false =>
          have HE := Lib.hid (HNE.out rfl)
          clear STEP HZ HNE HSM
          go_wp2_with fail
          (try rw [Exit.noGoto_ret])
          go_ret2
          exact chR_no hh.out HE.out (by decide)
      | false =>
        cases y with
        | true =>
          have hp := pick_f HY.out
          obtain ⟨s1, s2, s3⟩ := STEP.out 1 hp
          have ca2 := (Kep.set_self (Kep.refl (fun b => b = g) wr) (k * 6 + 2) (.int .i64 1)).cell (S := fun b => b = g) (b := a1) (o := a2 + k) (fun e => by
            have := HGE.out
            have := HAL.out
            omega) ca
          have S1 := Lib.hid s1
          have S2 := Lib.hid s2
          have S3 := Lib.hid s3
          have Z := Lib.hid (HZ.out rfl)
          clear s1 s2 s3 hp STEP HZ HNE HSM
          go_wp2_with fail
          go_roundw
          case rel => exact ⟨k + 1, by omega, by go_num, rfl, rfl, S1, S2, S3, Z⟩
          case measure => simp [intOf]; omega
        | false =>
          have S1 := Lib.hid (show OwnV wr w.heap.size (.slice (some ⟨g, 0, none⟩) m cc) (cur l bs (k + 1)) by rw [HSM.out (pick_n HY.out)]; exact ho.out)
          have Z := Lib.hid (HZ.out rfl)
          clear STEP HZ HNE HSM
          go_wp2_with fail
          go_roundw
          case rel => exact ⟨k + 1, by omega, by go_num, rfl, rfl, S1, hf, hh, Z⟩
          case measure => simp [intOf]; omega
    · obtain rfl : k = m := by omega
      have HE := Lib.hid (chE_ok (l := l) (b := bs) H1.out HEQ.out (clash_no HEQ.out (fun j r x h1 h2 => hz.out j r x (by have := (List.getElem?_eq_some_iff.1 h1).1; have := HLN.out; omega) h1 h2)))
      go_wp2_with fail
      (try rw [Exit.noGoto_ret])
      go_ret2
      refine ⟨_, by rw [HE.out]; rfl, ?_, hh.out⟩
      unfold chL
      rw [if_pos HE.out, ← cur_end HEQ.out, HLN.out]
      exact ho.out
end Ro
end Go.Proofs.Ytpfdakkameifkaa
