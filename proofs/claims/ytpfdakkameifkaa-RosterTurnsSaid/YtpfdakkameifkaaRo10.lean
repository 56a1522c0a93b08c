/-
  What roster.Choose answers of any list. Conditions: at most a million validators and bools; operators are ints.
-/
import Derived.Test.YtpfdakkameifkaaRo9
namespace Go.Proofs.Ytpfdakkameifkaa
open Go.RowKit Go.Shelf
set_option linter.unusedVariables false
set_option linter.unusedSimpArgs false
namespace Ro
open Kk Pm

/-- The list with the first k chosen. -/
def cur (l : List V6) (b : List Bool) (k : Nat) : List V6 := (l.zipWith pick b).take k ++ l.drop k
theorem cur_len {l : List V6} {b : List Bool} (h : b.length = l.length) {k : Nat} (hk : k ≤ l.length) : (cur l b k).length = l.length := by
  unfold cur
  rw [List.length_append, List.length_take, List.length_zipWith, List.length_drop]; omega
theorem cur_zero (l : List V6) (b : List Bool) : cur l b 0 = l := by simp [cur]
theorem cur_end {l : List V6} {b : List Bool} (h : b.length = l.length) : cur l b l.length = l.zipWith pick b := by
  unfold cur
  rw [List.drop_length, List.append_nil, List.take_of_length_le (by rw [List.length_zipWith]; omega)]
theorem cur_at {l : List V6} {b : List Bool} (h : b.length = l.length) {k : Nat} {r : V6} (hr : l[k]? = some r) : (cur l b k)[k]? = some r := by
  have hk := (List.getElem?_eq_some_iff.1 hr).1
  have h1 : ((l.zipWith pick b).take k).length = k := by rw [List.length_take, List.length_zipWith]; omega
  unfold cur
  rw [List.getElem?_append_right (by omega), h1, Nat.sub_self, List.getElem?_drop, Nat.add_zero, hr]
theorem cur_set {l : List V6} {b : List Bool} (h : b.length = l.length) {k : Nat} {r : V6} {x : Bool} (hr : l[k]? = some r) (hx : b[k]? = some x) : (cur l b k).set k (pick r x) = cur l b (k + 1) := by
  have hk := (List.getElem?_eq_some_iff.1 hr).1
  have h1 : ((l.zipWith pick b).take k).length = k := by rw [List.length_take, List.length_zipWith]; omega
  have h2 : (l.zipWith pick b)[k]? = some (pick r x) := by rw [List.getElem?_zipWith, hr, hx]
  unfold cur
  rw [List.set_append_right _ _ (by omega), h1, Nat.sub_self, List.take_add_one, h2, show l.drop k = l[k] :: l.drop (k + 1) from List.drop_eq_getElem_cons hk, List.set_cons_zero]
  simp only [Option.toList_some, List.append_assoc, List.cons_append, List.nil_append]
theorem cur_same {l : List V6} {b : List Bool} (h : b.length = l.length) {k : Nat} {r : V6} {x : Bool} (hr : l[k]? = some r) (hx : b[k]? = some x) (hp : pick r x = r) : cur l b (k + 1) = cur l b k := by
  rw [← cur_set h hr hx, hp]
  have := cur_at h hr
  obtain ⟨h1, h2⟩ := List.getElem?_eq_some_iff.1 this
  rw [← h2]
  exact List.set_getElem_self h1
theorem clash_at : ∀ {l : List V6} {b : List Bool} {k : Nat} {r : V6} {x : Bool}, l[k]? = some r → b[k]? = some x → (x && !free r) = true → clash l b = true
  | y :: l, z :: b, 0, r, x, h1, h2, h3 => by
    simp at h1 h2
    subst h1 h2
    show ((z && !free y) || clash l b) = true
    rw [h3]; rfl
  | y :: l, z :: b, k + 1, r, x, h1, h2, h3 => by
    show ((z && !free y) || clash l b) = true
    rw [clash_at (l := l) (b := b) (k := k) (by simpa using h1) (by simpa using h2) h3, Bool.or_true]
  | [], _, _, _, _, h1, _, _ => by simp at h1
  | _ :: _, [], _, _, _, _, h2, _ => by simp at h2
theorem clash_no : ∀ {l : List V6} {b : List Bool}, b.length = l.length → (∀ (j : Nat) (r : V6) (x : Bool), l[j]? = some r → b[j]? = some x → (x && !free r) = false) → clash l b = false
  | [], _, _, _ => rfl
  | _ :: _, [], h, _ => by simp at h
  | y :: l, z :: b, h, hh => by
    show ((z && !free y) || clash l b) = false
    rw [hh 0 y z rfl rfl, clash_no (l := l) (b := b) (by simpa using h) (fun j r x h1 h2 => hh (j + 1) r x (by simpa using h1) (by simpa using h2))]; rfl
/-- What Choose tells. -/
def ChR (w w' : World) (l : List V6) (b : List Bool) (e : Ending) : Prop :=
  ∃ x, e = .returned (.tuple #[x, .int .i64 (chE l b)]) ∧ OwnV w' w.heap.size x (chL l b) ∧ Bel w w'
theorem chR_no {w w' : World} {l : List V6} {b : List Bool} {E : Int} (hb : Bel w w') (he : chE l b = E) (hx : E ≠ 0) : ChR w w' l b (.returned (.tuple #[.slice none 0 0, .int .i64 E])) := by
  refine ⟨.slice none 0 0, by rw [he], ?_, hb⟩
  unfold chL; rw [if_neg (by rw [he]; exact hx)]; exact Rw.OwnR.nil_ _ _ _ _
theorem chE_0 {l : List V6} {b : List Bool} (h : (chk l).1 ≠ 0) : chE l b = (chk l).1 := if_pos h
theorem chE_2 {l : List V6} {b : List Bool} (h : (chk l).1 = 0) (h1 : b.length ≠ l.length) : chE l b = 2 := by unfold chE; rw [if_neg (by omega), if_pos h1]
theorem chE_11 {l : List V6} {b : List Bool} (h : (chk l).1 = 0) (h1 : b.length = l.length) (h2 : clash l b = true) : chE l b = 11 := by unfold chE; rw [if_neg (by omega), if_neg (by omega), if_pos h2]
theorem chE_ok {l : List V6} {b : List Bool} (h : (chk l).1 = 0) (h1 : b.length = l.length) (h2 : clash l b = false) : chE l b = 0 := by unfold chE; rw [if_neg (by omega), if_neg (by omega), if_neg (by rw [h2]; decide)]
theorem pick_t {r1 r2 r3 r4 : Int} {r5 r6 : Bool} (h : free (r1, r2, r3, r4, r5, r6) = true) : pick (r1, r2, r3, r4, r5, r6) true = (r1, r2, 2, r4, r5, r6) := if_pos h
theorem pick_f {r1 r2 r3 r4 : Int} {r5 r6 : Bool} (h : free (r1, r2, r3, r4, r5, r6) = true) : pick (r1, r2, r3, r4, r5, r6) false = (r1, r2, 1, r4, r5, r6) := if_pos h
theorem pick_n {r : V6} {x : Bool} (h : free r = false) : pick r x = r := by unfold pick; rw [if_neg (by rw [h]; decide)]
set_option maxRecDepth 100000 in
set_option maxHeartbeats 8000000 in
theorem choose (A : Option Addr) (n c : Nat) (l : List V6) (B : Option Addr) (m d : Nat) (bs : List Bool) (w : World) (hi : Rw.RS vR w A n c l) (hn : n ≤ 1000000) (hO : ∀ r ∈ l, I64 (op r)) (hb : Rw.RS bR w B m d bs) (hm : m ≤ 1000000) :
    Calls Try.prog 28 #[.slice A n c, .slice B m d] w fun x w' => ChR w w' l bs x := by
  have HI := Lib.hid hi
  have HLN := Lib.hid hi.len
  have HLB := Lib.hid hb.len
  have HB := Lib.hid hb
  have CK := Lib.hid (check A n c l w hi (by omega) hO)
  have CN := Lib.hid (fun V (hv : Bel w V) => clone A n c l V (hi.bel hv) (by omega))
  obtain ⟨e1, he1⟩ : ∃ e, (chk l).1 = e := ⟨_, rfl⟩
  obtain ⟨e2, he2⟩ : ∃ e, (chk l).2 = e := ⟨_, rfl⟩
  have H1 := Lib.hid he1
  rw [he1, he2] at CK
  clear hi he1 he2 hO hb
  go_enter Try.func28, Try.ntmps28
  go_wp2_with fail
  refine CK.out.mono ?_
  rintro x w1 ⟨rfl, kb⟩
  have K1 := Lib.hid kb
  clear kb CK
  by_cases h0 : e1 = 0
  case neg =>
    have hne : (e1 != 0) = true := by rw [bne_iff_ne]; exact h0
    have HE := Lib.hid (chE_0 (l := l) (b := bs) (by rw [H1.out]; exact h0))
    go_wp2_with fail
    go_ret2
    exact chR_no K1.out (HE.out.trans H1.out) h0
  subst h0
  by_cases hmn : m = n
  case neg =>
    have hne : ((m : Int) != n) = true := by rw [bne_iff_ne]; omega
    have HE := Lib.hid (chE_2 (l := l) (b := bs) H1.out (by rw [HLN.out, HLB.out]; exact hmn))
    go_wp2_with fail
    go_ret2
    exact chR_no K1.out HE.out (by decide)
  subst hmn
  have hne : ((m : Int) != m) = false := by simp
  have HEQ := Lib.hid (show bs.length = l.length by rw [HLN.out, HLB.out])
  have CN := Lib.hid (CN.out w1 K1.out)
  go_wp2_with fail
  refine CN.out.mono ?_
  rintro x w2 ⟨vc, rfl, ho, kb⟩
  obtain ⟨Ac, cc, rfl, hrs⟩ := ho.slice
  rw [HLN.out] at hrs ho ⊢
  have K2 := Lib.hid (K1.out.trans kb)
  have HO := Lib.hid (ho.mono (Below.size K1.out))
  have FR := Lib.hid (free_ Ac m cc l w2 hrs (by omega))
  clear kb ho hrs CN
  go_wp2_with fail
  refine FR.out.mono ?_
  rintro x w3 ⟨vf, rfl, hf, kb⟩
  obtain ⟨Af, cf, rfl, hfr⟩ := hf.slice
  rw [List.length_map, HLN.out] at hf hfr ⊢
  have K3 := Lib.hid (K2.out.trans kb)
  have HO3 := Lib.hid (HO.out.bel kb)
  have HF3 := Lib.hid hf
  clear kb hf hfr FR HO
  go_wp2_with fail
  go_loopw [4, 5, 28] (fun s4 s5 s28 wr => ∃ k : Nat, k ≤ m ∧ s28 = .int .i64 k ∧ s4 = .slice none 0 0 ∧ s5 = .int .i64 0 ∧ Hid (OwnV wr w.heap.size (.slice Ac m cc) (cur l bs k)) ∧ Hid (OwnB wr w2.heap.size (.slice Af m cf) (l.map free)) ∧ Hid (Bel w wr) ∧ Hid (∀ (j : Nat) (r : V6) (x : Bool), j < k → l[j]? = some r → bs[j]? = some x → (x && !free r) = false)) (fun _ _ s28 _ => m - (intOf s28).toNat)
  case atStart => exact ⟨0, Nat.zero_le _, rfl, rfl, rfl, Lib.hid (by rw [cur_zero]; exact HO3.out), HF3, K3, Lib.hid (fun j r x hj => absurd hj (by omega))⟩
  case round =>
    obtain ⟨k, hk, rfl, rfl, rfl, ho, hf, hh, hz⟩ := hrel
    by_cases hlt : k < m
    · obtain ⟨⟨r1, r2, r3, r4, r5, r6⟩, hr⟩ := HI.out.get hlt
      obtain ⟨a1, a2, x, rfl, _, hx, ca⟩ := bool_at (HB.out.bel hh.out) hlt
      have hfs : Rw.RS bR wr Af m cf (l.map free) := by
        obtain ⟨A', c', e, h⟩ := hf.out.slice
        injection e with e1 e2 e3
        subst e1 e3
        rw [List.length_map, HLN.out] at h
        exact h
      obtain ⟨b1, b2, y, rfl, _, hy, cb⟩ := bool_at hfs hlt
      have hy2 : free (r1, r2, r3, r4, r5, r6) = y := by
        rw [List.getElem?_map, hr] at hy
        exact Option.some.inj hy
      clear hfs hy
      obtain ⟨g, cap, e, hge, hrb, hcm⟩ := Rw.rb_own vR ho.out (by rw [cur_len HEQ.out (by rw [HLN.out]; omega), HLN.out]; omega)
      rw [cur_len HEQ.out (by rw [HLN.out]; omega), HLN.out] at e
      injection e with ea eb ec
      subst ea ec
      have HRB := Lib.hid hrb
      have HGE := Lib.hid hge
      have HCM := Lib.hid hcm
      have HR := Lib.hid hr
      have HX := Lib.hid hx
      have HY := Lib.hid hy2
      have hlt3 : (k : Int) < m := by omega
      have hlt0 : (0 : Int) ≤ k := by omega
      have hfz := hrb.frozen (k * 6 + 2)
      have hthere : wr.cell? ⟨g, k * 6 + 2, none⟩ = some (.int .i64 r3) := (rb_cells hrb (cur_at HEQ.out hr)).2.2.1
      have STEP := fun (s : Int) (hp : pick (r1, r2, r3, r4, r5, r6) x = (r1, r2, s, r4, r5, r6)) => (show
          OwnV (wr.setCell ⟨g, k * 6 + 2, none⟩ (.int .i64 s)) w.heap.size (.slice (some ⟨g, 0, none⟩) m cc) (cur l bs (k + 1)) ∧ OwnB (wr.setCell ⟨g, k * 6 + 2, none⟩ (.int .i64 s)) w2.heap.size (.slice (some ⟨b1, b2, none⟩) m cf) (l.map free) ∧ Bel w (wr.setCell ⟨g, k * 6 + 2, none⟩ (.int .i64 s)) from by
        have h1 := HRB.out.set (o := 2) (r' := (r1, r2, s, r4, r5, r6)) (v := .int .i64 s) (by decide) (cur_at HEQ.out HR.out) rfl
        rw [← hp, cur_set HEQ.out HR.out HX.out] at h1
        have h2 := own_rb h1 HGE.out HCM.out
        rw [cur_len HEQ.out (by rw [HLN.out]; omega), HLN.out] at h2
        refine ⟨h2, hf.out.kep (S := fun b => b = g) (Kep.set_self (Kep.refl _ _) _ _) (fun i e e' => ?_), hh.out.set HGE.out _⟩
        obtain ⟨C, hC, _⟩ := HRB.out.blk
        subst e'
        exact Rw.own_ne hf.out hC (by decide) e)
      have STEP := Lib.hid STEP
      have HZ := fun (h : (x && !y) = false) => (show ∀ (j : Nat) (r : V6) (x : Bool), j < k + 1 → l[j]? = some r → bs[j]? = some x → (x && !free r) = false from fun j r x' hj h1 h2 => by
        rcases Nat.lt_or_ge j k with h' | h'
        · exact hz.out j r x' h' h1 h2
        · obtain rfl : j = k := by omega
          rw [HR.out] at h1
          rw [HX.out] at h2
          injection h1 with h1
          injection h2 with h2
          subst h1 h2
          rw [HY.out]; exact h)
      have HZ := Lib.hid HZ
      have HNE := Lib.hid (fun h : (x && !y) = true => chE_11 (l := l) (b := bs) H1.out HEQ.out (clash_at HR.out HX.out (by rw [HY.out]; exact h)))
      have HSM := Lib.hid (fun h : pick (r1, r2, r3, r4, r5, r6) x = (r1, r2, r3, r4, r5, r6) => cur_same HEQ.out HR.out HX.out h)
      clear hrb hge hcm hr hx hy2
      cases x with
      | true =>
        cases y with
        | true =>
          have hp := pick_t HY.out
          obtain ⟨s1, s2, s3⟩ := STEP.out 2 hp
          have S1 := Lib.hid s1
          have S2 := Lib.hid s2
          have S3 := Lib.hid s3
          have Z := Lib.hid (HZ.out rfl)
          clear s1 s2 s3 hp STEP HZ HNE HSM
          go_wp2_with fail
          go_roundw
          case rel => exact ⟨k + 1, by omega, by go_num, rfl, rfl, S1, S2, S3, Z⟩
          case measure => simp [intOf]; omega
        | false =>
          have HE := Lib.hid (HNE.out rfl)
          clear STEP HZ HNE HSM
          go_wp2_with fail
          (try rw [Exit.noGoto_ret])
          go_ret2
          exact chR_no hh.out HE.out (by decide)
      | false =>
        cases y with
        | true =>
          have hp := pick_f HY.out
          obtain ⟨s1, s2, s3⟩ := STEP.out 1 hp
          have S1 := Lib.hid s1
          have S2 := Lib.hid s2
          have S3 := Lib.hid s3
          have Z := Lib.hid (HZ.out rfl)
          clear s1 s2 s3 hp STEP HZ HNE HSM
          go_wp2_with fail
          go_roundw
          case rel => exact ⟨k + 1, by omega, by go_num, rfl, rfl, S1, S2, S3, Z⟩
          case measure => simp [intOf]; omega
        | false =>
          have S1 := Lib.hid (show OwnV wr w.heap.size (.slice (some ⟨g, 0, none⟩) m cc) (cur l bs (k + 1)) by rw [HSM.out (pick_n HY.out)]; exact ho.out)
          have Z := Lib.hid (HZ.out rfl)
          clear STEP HZ HNE HSM
          go_wp2_with fail
          go_roundw
          case rel => exact ⟨k + 1, by omega, by go_num, rfl, rfl, S1, hf, hh, Z⟩
          case measure => simp [intOf]; omega
    · obtain rfl : k = m := by omega
      have HE := Lib.hid (chE_ok (l := l) (b := bs) H1.out HEQ.out (clash_no HEQ.out (fun j r x h1 h2 => hz.out j r x (by have := (List.getElem?_eq_some_iff.1 h1).1; have := HLN.out; omega) h1 h2)))
      go_wp2_with fail
      (try rw [Exit.noGoto_ret])
      go_ret2
      refine ⟨_, by rw [HE.out]; rfl, ?_, hh.out⟩
      unfold chL
      rw [if_pos HE.out, ← cur_end HEQ.out, HLN.out]
      exact ho.out
end Ro
end Go.Proofs.Ytpfdakkameifkaa
