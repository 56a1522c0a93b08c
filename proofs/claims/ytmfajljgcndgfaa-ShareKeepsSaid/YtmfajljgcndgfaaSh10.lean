/-
  ShareCuts: a cut takes of each share the same. Conditions: the numbers are words.
-/
import Derived.Test.YtmfajljgcndgfaaSh9
import Derived.Test.YtmfajljgcndgfaaSh7
namespace Go.Proofs.Ytmfajljgcndgfaa
open Go.RowKit Go.Shelf
set_option linter.unusedVariables false
namespace Sh
open Gt
open Fix (partN partE)

/-- A pool that may be. -/
def Ok (T S : Int) : Prop := 0 ≤ T ∧ T ≤ 4611686018427387904 ∧ T ≤ S ∧ S ≤ 18446744073709551615 ∧ (T = 0 → S = 0)
theorem Ok.chk {T S : Int} (h : Ok T S) : chk T S = 0 := by
  obtain ⟨h1, h2, h3, h4, h5⟩ := h
  refine chk00 (by omega) (by omega) ?_
  by_cases e : T = 0
  · exact .inr (h5 e)
  · exact .inl e
theorem ok_of {t s : Int} (t0 : 0 ≤ t) (s0 : 0 ≤ s) (s1 : s ≤ 18446744073709551615) : Ok (oT t) (oS t s) := of_ok t0 s0 s1
/-- What a cut leaves of the shares. -/
def cq (T S b : Int) : Int := if partN T b = T then 0 else S
theorem cut_is {T S b : Int} (h : Ok T S) (b0 : 0 ≤ b) (b1 : b ≤ 1000000000) : cutE T S b = 0 ∧ cutT T S b = T - partN T b ∧ cutS T S b = cq T S b ∧ cutN T S b = partN T b ∧ 0 ≤ partN T b ∧ partN T b ≤ T ∧ Ok (T - partN T b) (cq T S b) := by
  obtain ⟨e1, e2, e3, e4⟩ := part_of' (a := T) (p := b) h.1 (by have := h.2.1; omega) b0 b1
  have hc : cutE T S b = 0 := by rw [(cut_ways T S b).2 h.chk]; exact e2
  obtain ⟨y1, y2, y3, y4⟩ := cut_yes hc
  rw [← e1] at e3 e4
  have hs : cutS T S b = cq T S b := by
    unfold cq
    by_cases e : partN T b = T
    · rw [if_pos e, y3 e]
    · rw [if_neg e, y4 e]
  refine ⟨hc, y1, hs, y2, e3, e4, ?_⟩
  obtain ⟨h1, h2, h3, h4, h5⟩ := h
  unfold cq
  split
  · exact ⟨by omega, by omega, by omega, by omega, fun _ => rfl⟩
  · exact ⟨by omega, by omega, by omega, by omega, fun e => by omega⟩
theorem cutV (T S b : Int) (w : World) (h : Ok T S) (b0 : 0 ≤ b) (b1 : b ≤ 1000000000) :
    Calls Try.prog 25 #[pV T S, .int .u64 b] w fun r w' => r = .returned (.tuple #[pV (T - partN T b) (cq T S b), .int .u64 (partN T b), .int .i64 0]) ∧ Bel w w' := by
  obtain ⟨h1, h2, h3, h4, _⟩ := cut_is h b0 b1
  have := cutX T S b w h.1 (by have := h.2.1; omega) (by have := h.1; have := h.2.2.1; omega) h.2.2.2.1 b0 (by omega)
  rw [h1, h2, h3, h4] at this
  exact this
theorem part0 {T : Int} (h : 0 ≤ T) (h1 : T ≤ 4611686018427387904) : partN T 0 = 0 := by
  rw [(part_of' h (by omega) (by decide) (by decide)).1]; simp
theorem part1 {T : Int} (h : 0 ≤ T) (h1 : T ≤ 4611686018427387904) : partN T 1000000000 = T := by
  rw [(part_of' h (by omega) (by decide) (by decide)).1]; omega
theorem cutZ (T S : Int) (w : World) (h : Ok T S) :
    Calls Try.prog 25 #[pV T S, .int .u64 0] w fun r w' => r = .returned (.tuple #[pV T S, .int .u64 0, .int .i64 0]) ∧ Bel w w' := by
  have := cutV T S 0 w h (by decide) (by decide)
  have e : cq T S 0 = S := by
    unfold cq
    rw [part0 h.1 h.2.1]
    split
    · rename_i e; exact (h.2.2.2.2 e.symm).symm
    · rfl
  rw [e, part0 h.1 h.2.1, Int.sub_zero] at this
  exact this
theorem cutA (T S : Int) (w : World) (h : Ok T S) :
    Calls Try.prog 25 #[pV T S, .int .u64 1000000000] w fun r w' => r = .returned (.tuple #[pV 0 0, .int .u64 T, .int .i64 0]) ∧ Bel w w' := by
  have := cutV T S 1000000000 w h (by decide) (by decide)
  have e : cq T S 1000000000 = 0 := by
    unfold cq
    rw [part1 h.1 h.2.1, if_pos rfl]
  rw [e, part1 h.1 h.2.1, Int.sub_self] at this
  exact this

/-- A pool's variable. -/
abbrev PB (W : World) (b : Nat) (T S : Int) : Prop := Kk.Blk W b #[.int .u64 T, .int .u64 S] 24
theorem PB.new {W : World} (T S : Int) : PB (W.alloc (.cells #[.int .u64 T, .int .u64 S] 24)) W.heap.size T S := Kk.Blk.new _ _ _
theorem PB.two {w V : World} {p q : Nat} {T S A B : Int} (hb : Bel w V) (h : PB V p T S) (k : PB V q A B) : Two w V p q T S A B := ⟨hb, h.cell 0 rfl, h.cell 1 rfl, k.cell 0 rfl, k.cell 1 rfl⟩

set_option maxRecDepth 10000 in
set_option maxHeartbeats 4000000 in
theorem cutsLaw (t s one two x : Int) (w : World) (t0 : 0 ≤ t) (t1 : t ≤ 18446744073709551615) (s0 : 0 ≤ s) (s1 : s ≤ 18446744073709551615) (a0 : 0 ≤ one) (a1 : one ≤ 18446744073709551615) (b0 : 0 ≤ two) (b1 : two ≤ 18446744073709551615) (x0 : 0 ≤ x) (x1 : x ≤ 18446744073709551615) :
    Calls Try.prog 7 #[.int .u64 t, .int .u64 s, .int .u64 one, .int .u64 two, .int .u64 x] w fun r w' => r = .returned (.bool true) ∧ Bel w w' := by
  have KN := Lib.hid (fun W => known W)
  have OF := Lib.hid (fun W => of t s W t0 t1 s0 s1)
  have hok := ok_of (t := t) t0 s0 s1
  obtain ⟨T, hT⟩ : ∃ T, oT t = T := ⟨_, rfl⟩
  obtain ⟨S, hS⟩ : ∃ S, oS t s = S := ⟨_, rfl⟩
  rw [hT, hS] at OF hok
  clear hT hS
  have e1 : one.tmod 1000000001 = one % 1000000001 := Int.tmod_eq_emod_of_nonneg a0
  have e2 : two.tmod 1000000001 = two % 1000000001 := Int.tmod_eq_emod_of_nonneg b0
  obtain ⟨u, hu⟩ : ∃ u, one % 1000000001 = u := ⟨_, rfl⟩
  obtain ⟨v, hv⟩ : ∃ v, two % 1000000001 = v := ⟨_, rfl⟩
  rw [hu] at e1
  rw [hv] at e2
  have u0 : 0 ≤ u := by omega
  have u1 : u ≤ 1000000000 := by omega
  have v0 : 0 ≤ v := by omega
  have v1 : v ≤ 1000000000 := by omega
  have e3 : IntKind.u64.wrap u = u := by rw [IntKind.wrap_u64]; omega
  have e4 : IntKind.u64.wrap v = v := by rw [IntKind.wrap_u64]; omega
  clear hu hv
  obtain ⟨_, _, _, _, n0, n1, hok2⟩ := cut_is hok u0 u1
  have C1 := Lib.hid (fun W => cutV T S u W hok u0 u1)
  have CZ := Lib.hid (fun W => cutZ T S W hok)
  have CA := Lib.hid (fun W => cutA T S W hok)
  have hcq : cq T S u = if partN T u = T then 0 else S := rfl
  obtain ⟨n, hn⟩ : ∃ n, partN T u = n := ⟨_, rfl⟩
  obtain ⟨Q, hQ⟩ : ∃ Q, T - partN T u = Q := ⟨_, rfl⟩
  obtain ⟨R, hR⟩ : ∃ R, cq T S u = R := ⟨_, rfl⟩
  rw [hQ, hn, hR] at C1
  rw [hQ, hR] at hok2
  rw [hn] at n0 n1 hQ hcq
  rw [hR] at hcq
  clear hn hR
  obtain ⟨_, _, _, _, m0, m1, hok3⟩ := cut_is hok2 v0 v1
  have C2 := Lib.hid (fun W => cutV Q R v W hok2 v0 v1)
  obtain ⟨m, hm⟩ : ∃ m, partN Q v = m := ⟨_, rfl⟩
  obtain ⟨U, hU⟩ : ∃ U, Q - partN Q v = U := ⟨_, rfl⟩
  obtain ⟨V, hV⟩ : ∃ V, cq Q R v = V := ⟨_, rfl⟩
  rw [hU, hm, hV] at C2
  rw [hU, hV] at hok3
  rw [hm] at m0 m1 hU
  clear hm hV
  obtain ⟨T0, T1, TS, S1, TZ⟩ := hok
  obtain ⟨Q0, Q1, QR, R1', QZ⟩ := hok2
  obtain ⟨U0, U1, UV, V1, UZ⟩ := hok3
  have HCQ := Lib.hid hcq
  have HTZ := Lib.hid TZ
  have HQZ := Lib.hid QZ
  have HUZ := Lib.hid UZ
  have HQ := Lib.hid hQ
  have HU := Lib.hid hU
  have X0 := Lib.hid x0
  have X1 := Lib.hid x1
  clear t0 t1 s0 s1 a0 a1 b0 b1 u0 u1 v0 v1 hcq TZ QZ UZ hQ hU
  go_enter Try.func7, Try.ntmps7
  go_wp2_with fail
  refine (KN.out _).mono ?_
  rintro e w1 ⟨rfl, kb⟩
  have K1 := Lib.hid kb
  clear kb
  go_wp2_with fail
  refine (OF.out _).mono ?_
  rintro e w2 ⟨rfl, kb⟩
  have K2 := Lib.hid (K1.out.trans kb)
  clear kb K1
  go_upto_region 3 with fail
  have Pp := PB.new (W := w2) (T) (S)
  obtain ⟨p, hp⟩ : ∃ b, (w2).heap.size = b := ⟨_, rfl⟩
  obtain ⟨Xp, hXp⟩ : ∃ X, (w2).alloc (.cells #[.int .u64 (T), .int .u64 (S)] 24) = X := ⟨_, rfl⟩
  have Dp : Bel w2 Xp := by rw [← hXp]; exact (Bel.refl _).alloc _
  rw [hXp, hp] at Pp
  rw [hXp, hp]
  have Kp := Lib.hid (K2.out.trans Dp)
  clear hp hXp Dp
  have cp0 := Pp.cell 0 rfl
  have cp1 := Pp.cell 1 rfl
  go_wp2_with fail
  clear cp0 cp1
  refine (C1.out _).mono ?_
  rintro e w3 ⟨rfl, kb⟩
  have Pp := Pp.bel kb
  have K3 := Lib.hid (Kp.out.trans kb)
  clear kb
  go_upto_region 5 with fail
  have Pq := PB.new (W := w3) (Q) (R)
  obtain ⟨q, hq⟩ : ∃ b, (w3).heap.size = b := ⟨_, rfl⟩
  obtain ⟨Xq, hXq⟩ : ∃ X, (w3).alloc (.cells #[.int .u64 (Q), .int .u64 (R)] 24) = X := ⟨_, rfl⟩
  have Dq : Bel w3 Xq := by rw [← hXq]; exact (Bel.refl _).alloc _
  rw [hXq, hq] at Pq
  rw [hXq, hq]
  have Pp := Pp.bel Dq
  have Kq := Lib.hid (K3.out.trans Dq)
  clear hq hXq Dq
  have cp0 := Pp.cell 0 rfl
  have cp1 := Pp.cell 1 rfl
  have cq0 := Pq.cell 0 rfl
  have cq1 := Pq.cell 1 rfl
  go_wp2_with fail
  clear cp0 cp1 cq0 cq1
  refine (C2.out _).mono ?_
  rintro e w4 ⟨rfl, kb⟩
  have Pp := Pp.bel kb
  have Pq := Pq.bel kb
  have K4 := Lib.hid (Kq.out.trans kb)
  clear kb
  go_upto_region 6 with fail
  have Pr := PB.new (W := w4) (U) (V)
  obtain ⟨r, hr⟩ : ∃ b, (w4).heap.size = b := ⟨_, rfl⟩
  obtain ⟨Xr, hXr⟩ : ∃ X, (w4).alloc (.cells #[.int .u64 (U), .int .u64 (V)] 24) = X := ⟨_, rfl⟩
  have Dr : Bel w4 Xr := by rw [← hXr]; exact (Bel.refl _).alloc _
  rw [hXr, hr] at Pr
  rw [hXr, hr]
  have Pp := Pp.bel Dr
  have Pq := Pq.bel Dr
  have Kr := Lib.hid (K4.out.trans Dr)
  clear hr hXr Dr
  have cp0 := Pp.cell 0 rfl
  have cp1 := Pp.cell 1 rfl
  have cq0 := Pq.cell 0 rfl
  have cq1 := Pq.cell 1 rfl
  have cr0 := Pr.cell 0 rfl
  have cr1 := Pr.cell 1 rfl
  go_wp2_with fail
  clear cp0 cp1 cq0 cq1 cr0 cr1
  refine (CZ.out _).mono ?_
  rintro e w5 ⟨rfl, kb⟩
  have Pp := Pp.bel kb
  have Pq := Pq.bel kb
  have Pr := Pr.bel kb
  have K5 := Lib.hid (Kr.out.trans kb)
  clear kb
  go_upto_region 7 with fail
  have Pz := PB.new (W := w5) (T) (S)
  obtain ⟨z, hz⟩ : ∃ b, (w5).heap.size = b := ⟨_, rfl⟩
  obtain ⟨Xz, hXz⟩ : ∃ X, (w5).alloc (.cells #[.int .u64 (T), .int .u64 (S)] 24) = X := ⟨_, rfl⟩
  have Dz : Bel w5 Xz := by rw [← hXz]; exact (Bel.refl _).alloc _
  rw [hXz, hz] at Pz
  rw [hXz, hz]
  have Pp := Pp.bel Dz
  have Pq := Pq.bel Dz
  have Pr := Pr.bel Dz
  have Kz := Lib.hid (K5.out.trans Dz)
  clear hz hXz Dz
  have cp0 := Pp.cell 0 rfl
  have cp1 := Pp.cell 1 rfl
  have cq0 := Pq.cell 0 rfl
  have cq1 := Pq.cell 1 rfl
  have cr0 := Pr.cell 0 rfl
  have cr1 := Pr.cell 1 rfl
  have cz0 := Pz.cell 0 rfl
  have cz1 := Pz.cell 1 rfl
  go_wp2_with fail
  clear cp0 cp1 cq0 cq1 cr0 cr1 cz0 cz1
  refine (CA.out _).mono ?_
  rintro e w6 ⟨rfl, kb⟩
  have Pp := Pp.bel kb
  have Pq := Pq.bel kb
  have Pr := Pr.bel kb
  have Pz := Pz.bel kb
  have K6 := Lib.hid (Kz.out.trans kb)
  clear kb
  go_upto_region 8 with fail
  have Pa := PB.new (W := w6) (0) (0)
  obtain ⟨a, ha⟩ : ∃ b, (w6).heap.size = b := ⟨_, rfl⟩
  obtain ⟨Xa, hXa⟩ : ∃ X, (w6).alloc (.cells #[.int .u64 (0), .int .u64 (0)] 24) = X := ⟨_, rfl⟩
  have Da : Bel w6 Xa := by rw [← hXa]; exact (Bel.refl _).alloc _
  rw [hXa, ha] at Pa
  rw [hXa, ha]
  have Pp := Pp.bel Da
  have Pq := Pq.bel Da
  have Pr := Pr.bel Da
  have Pz := Pz.bel Da
  have Ka := Lib.hid (K6.out.trans Da)
  clear ha hXa Da
  have cp0 := Pp.cell 0 rfl
  have cp1 := Pp.cell 1 rfl
  have cq0 := Pq.cell 0 rfl
  have cq1 := Pq.cell 1 rfl
  have cr0 := Pr.cell 0 rfl
  have cr1 := Pr.cell 1 rfl
  have cz0 := Pz.cell 0 rfl
  have cz1 := Pz.cell 1 rfl
  have ca0 := Pa.cell 0 rfl
  have ca1 := Pa.cell 1 rfl
  by_cases hR : R = 0
  · obtain hQ : Q = 0 := by omega
    subst hQ hR
    obtain rfl : n = T := by have := HQ.out; omega
    obtain rfl : m = 0 := by omega
    obtain rfl : U = 0 := by have := HU.out; omega
    obtain rfl : V = 0 := HUZ.out rfl
    go_wp2_with fail
    go_ret
    exact ⟨rfl, Ka.out⟩
  · have hR1 : (R == 0) = false := by simpa using hR
    have hnT : ¬ n = T := fun e => hR (by rw [HCQ.out, if_pos e])
    obtain rfl : R = S := by rw [HCQ.out, if_neg hnT]
    have x5 : x.tmod R = x % R := Int.tmod_eq_emod_of_nonneg X0.out
    obtain ⟨y, hy⟩ : ∃ y, x % R = y := ⟨_, rfl⟩
    have y0 : 0 ≤ y := by rw [← hy]; exact Int.emod_nonneg x hR
    have y1 : y ≤ 18446744073709551615 := by have := Int.emod_lt_of_pos x (b := R) (by omega); omega
    rw [hy] at x5
    have y5 : IntKind.u64.wrap y = y := by rw [IntKind.wrap_u64]; omega
    clear hy
    go_upto_region 13 with fail
    have q5 : IntKind.u64.wrap (T - n) = Q := by have := HQ.out; rw [IntKind.wrap_u64]; omega
    have HG_y := Lib.hid (fun W => great y W y0 y1)
    have HG_t := Lib.hid (fun W => great T W T0 (by omega))
    have HG_q := Lib.hid (fun W => great Q W Q0 (by omega))
    have I0 : Two w Xa p q T R Q R := PB.two Ka.out Pp Pq
    clear cp0 cp1 cq0 cq1 cr0 cr1 cz0 cz1 ca0 ca1
    refine wp_region_held_drew (S := fun V => Two w V p q T R Q R) (by kernel_rfl) (I0.up (Bel.refl _).drew) (fun hS0 => ?_)
    obtain ⟨Xad, hXad⟩ : ∃ Xad, Xa.drew = Xad := ⟨_, rfl⟩
    have DXad := Lib.hid (show Bel Xa Xad by rw [← hXad]; exact (Bel.refl _).drew)
    rw [hXad] at hS0 ⊢
    clear hXad
    refine wpAnyH_take (i := 0) (oi := { dst := some 126, op := .move (.tmp 4), type := 22, pos := "outright.go:163", after := #[], guard := none }) (v := .int .u64 y) rfl (by kernel_rfl) (by kernel_rfl) (by kernel_rfl) (fun _ _ _ h => h) (Or.inl ⟨by rfl, by intro w hSw; clear hSw; go_simp⟩) hS0 ?_
    try simp only [Act.put, List.setIfInBounds_toArray, List.set_cons_zero, List.set_cons_succ]
    refine wpAnyH_take (i := 2) (oi := { dst := some 128, op := .fieldAddr 24 (.tmp 12) 0, type := 0, pos := "outright.go:163", after := #[], guard := none }) (v := .pointer (some ⟨p, 0, none⟩)) rfl (by kernel_rfl) (by kernel_rfl) (by kernel_rfl) (fun _ _ _ h => h) (Or.inl ⟨by rfl, by intro w hSw; clear hSw; go_simp⟩) hS0 ?_
    try simp only [Act.put, List.setIfInBounds_toArray, List.set_cons_zero, List.set_cons_succ]
    refine wpAnyH_take (i := 3) (oi := { dst := some 129, op := .load 22 (.tmp 128), type := 22, pos := "outright.go:163", after := #[{ on := 2, ground := .data }], guard := none }) (v := .int .u64 T) rfl (by kernel_rfl) (by kernel_rfl) (by kernel_rfl) (fun _ _ _ h => h) (Or.inl ⟨by rfl, by intro w h; have hcell := (h.2.1); clear h; go_simp⟩) hS0 ?_
    try simp only [Act.put, List.setIfInBounds_toArray, List.set_cons_zero, List.set_cons_succ]
    refine wpAnyH_take (i := 6) (oi := { dst := some 132, op := .fieldAddr 24 (.tmp 12) 0, type := 0, pos := "outright.go:163", after := #[], guard := none }) (v := .pointer (some ⟨p, 0, none⟩)) rfl (by kernel_rfl) (by kernel_rfl) (by kernel_rfl) (fun _ _ _ h => h) (Or.inl ⟨by rfl, by intro w hSw; clear hSw; go_simp⟩) hS0 ?_
    try simp only [Act.put, List.setIfInBounds_toArray, List.set_cons_zero, List.set_cons_succ]
    refine wpAnyH_take (i := 7) (oi := { dst := some 133, op := .load 22 (.tmp 132), type := 22, pos := "outright.go:163", after := #[{ on := 6, ground := .data }], guard := none }) (v := .int .u64 T) rfl (by kernel_rfl) (by kernel_rfl) (by kernel_rfl) (fun _ _ _ h => h) (Or.inl ⟨by rfl, by intro w h; have hcell := (h.2.1); clear h; go_simp⟩) hS0 ?_
    try simp only [Act.put, List.setIfInBounds_toArray, List.set_cons_zero, List.set_cons_succ]
    refine wpAnyH_take (i := 8) (oi := { dst := some 134, op := .move (.tmp 14), type := 22, pos := "outright.go:163", after := #[], guard := none }) (v := .int .u64 n) rfl (by kernel_rfl) (by kernel_rfl) (by kernel_rfl) (fun _ _ _ h => h) (Or.inl ⟨by rfl, by intro w hSw; clear hSw; go_simp⟩) hS0 ?_
    try simp only [Act.put, List.setIfInBounds_toArray, List.set_cons_zero, List.set_cons_succ]
    refine wpAnyH_take (i := 9) (oi := { dst := some 135, op := .binOp .sub 22 (.tmp 133) (.tmp 134) 22, type := 22, pos := "outright.go:163", after := #[{ on := 7, ground := .data }, { on := 8, ground := .data }], guard := none }) (v := .int .u64 Q) rfl (by kernel_rfl) (by kernel_rfl) (by kernel_rfl) (fun _ _ _ h => h) (Or.inl ⟨by rfl, by intro w hSw; clear hSw; go_simp⟩) hS0 ?_
    try simp only [Act.put, List.setIfInBounds_toArray, List.set_cons_zero, List.set_cons_succ]
    refine wpAnyH_ready (rs := [1]) (by kernel_rfl) (by simp) ?_
    refine AllReadyH.cons (o := { dst := some 127, op := .call { callee := .value (.func 27), args := #[.tmp 126], argTypes := #[22] }, type := 46, pos := "outright.go:163", after := #[{ on := 0, ground := .data }], guard := none }) rfl (fun K hK => ?_) AllReadyH.nil
    go_simp
    refine ((HG_y).out _).mono ?_
    rintro e v1 ⟨g0, rfl, hg0, kb0⟩
    go_wp2_with fail
    refine hK.out _ _ (hS0.up kb0) (fun hS1 => ?_)
    clear hK K
    try simp only [Act.put, List.setIfInBounds_toArray, List.set_cons_zero, List.set_cons_succ]
    refine wpAnyH_ready (rs := [4]) (by kernel_rfl) (by simp) ?_
    refine AllReadyH.cons (o := { dst := some 130, op := .call { callee := .value (.func 27), args := #[.tmp 129], argTypes := #[22] }, type := 46, pos := "outright.go:163", after := #[{ on := 3, ground := .data }, { on := 1, ground := .chain }], guard := none }) rfl (fun K hK => ?_) AllReadyH.nil
    go_simp
    refine ((HG_t).out _).mono ?_
    rintro e v2 ⟨g1, rfl, hg1, kb1⟩
    go_wp2_with fail
    refine hK.out _ _ (hS1.up kb1) (fun hS2 => ?_)
    clear hK K
    try simp only [Act.put, List.setIfInBounds_toArray, List.set_cons_zero, List.set_cons_succ]
    refine wpAnyH_ready (rs := [5]) (by kernel_rfl) (by simp) ?_
    refine AllReadyH.cons (o := { dst := some 131, op := .call { callee := .value (.func 26), args := #[.tmp 127, .tmp 130], argTypes := #[46, 46] }, type := 46, pos := "outright.go:163", after := #[{ on := 1, ground := .data }, { on := 4, ground := .data }, { on := 4, ground := .chain }], guard := none }) rfl (fun K hK => ?_) AllReadyH.nil
    go_simp
    refine (Gt.times _ _ _ _ _ _ _ (hg0.bel kb1) hg1 (by decide) (by decide)).mono ?_
    rintro e v3 ⟨g2, rfl, hg2, kb2⟩
    go_wp2_with fail
    refine hK.out _ _ (hS2.up kb2) (fun hS3 => ?_)
    clear hK K
    try simp only [Act.put, List.setIfInBounds_toArray, List.set_cons_zero, List.set_cons_succ]
    refine wpAnyH_ready (rs := [10]) (by kernel_rfl) (by simp) ?_
    refine AllReadyH.cons (o := { dst := some 136, op := .call { callee := .value (.func 27), args := #[.tmp 135], argTypes := #[22] }, type := 46, pos := "outright.go:163", after := #[{ on := 9, ground := .data }, { on := 5, ground := .chain }], guard := none }) rfl (fun K hK => ?_) AllReadyH.nil
    go_simp
    refine ((HG_q).out _).mono ?_
    rintro e v4 ⟨g3, rfl, hg3, kb3⟩
    go_wp2_with fail
    refine hK.out _ _ (hS3.up kb3) (fun hS4 => ?_)
    clear hK K
    try simp only [Act.put, List.setIfInBounds_toArray, List.set_cons_zero, List.set_cons_succ]
    refine wpAnyH_ready (rs := [11]) (by kernel_rfl) (by simp) ?_
    refine AllReadyH.cons (o := { dst := some 137, op := .call { callee := .value (.func 26), args := #[.tmp 131, .tmp 136], argTypes := #[46, 46] }, type := 46, pos := "outright.go:163", after := #[{ on := 5, ground := .data }, { on := 10, ground := .data }, { on := 10, ground := .chain }], guard := none }) rfl (fun K hK => ?_) AllReadyH.nil
    go_simp
    refine (Gt.times _ _ _ _ _ _ _ (hg2.bel kb3) hg3 (by decide) (by decide)).mono ?_
    rintro e v5 ⟨g4, rfl, hg4, kb4⟩
    go_wp2_with fail
    refine hK.out _ _ (hS4.up kb4) (fun hS5 => ?_)
    clear hK K
    try simp only [Act.put, List.setIfInBounds_toArray, List.set_cons_zero, List.set_cons_succ]
    refine wpAnyH_take (i := 12) (oi := { dst := some 25, op := .assign (.tmp 137), type := 46, pos := "outright.go:163", after := #[{ on := 11, ground := .data }, { on := 11, ground := .chain }, { on := 0, ground := .phase }, { on := 1, ground := .phase }, { on := 2, ground := .phase }, { on := 3, ground := .phase }, { on := 4, ground := .phase }, { on := 5, ground := .phase }, { on := 6, ground := .phase }, { on := 7, ground := .phase }, { on := 8, ground := .phase }, { on := 9, ground := .phase }, { on := 10, ground := .phase }, { on := 11, ground := .phase }], guard := none }) (v := g4) rfl (by kernel_rfl) (by kernel_rfl) (by kernel_rfl) (fun _ _ _ h => h) (Or.inl ⟨by rfl, by intro w hSw; clear hSw; go_simp⟩) hS5 ?_
    try simp only [Act.put, List.setIfInBounds_toArray, List.set_cons_zero, List.set_cons_succ]
    refine wpAnyH_done (by kernel_rfl) ?_ _
    have R13 := Lib.hid hg4
    have I13 := Lib.hid hS5
    clear hS0 hS1 hS2 hS3 hS4 hS5
    have KB13 := Lib.hid (DXad.out.trans (kb0.trans (kb1.trans (kb2.trans (kb3.trans kb4)))))
    obtain ⟨W13, hW13⟩ : ∃ W, v5 = W := ⟨_, rfl⟩
    rw [hW13] at R13 I13 KB13 ⊢
    clear hW13
    have Pp := Pp.bel KB13.out
    have Pq := Pq.bel KB13.out
    have Pr := Pr.bel KB13.out
    have Pz := Pz.bel KB13.out
    have Pa := Pa.bel KB13.out
    go_upto_region 14 with fail
    refine wp_region_held_drew (S := fun V => Two w V p q T R Q R) (by kernel_rfl) (I13.out.up (Bel.refl _).drew) (fun hS0 => ?_)
    obtain ⟨W13d, hW13d⟩ : ∃ W13d, W13.drew = W13d := ⟨_, rfl⟩
    have DW13d := Lib.hid (show Bel W13 W13d by rw [← hW13d]; exact (Bel.refl _).drew)
    rw [hW13d] at hS0 ⊢
    clear hW13d
    refine wpAnyH_take (i := 0) (oi := { dst := some 138, op := .move (.tmp 4), type := 22, pos := "outright.go:164", after := #[], guard := none }) (v := .int .u64 y) rfl (by kernel_rfl) (by kernel_rfl) (by kernel_rfl) (fun _ _ _ h => h) (Or.inl ⟨by rfl, by intro w hSw; clear hSw; go_simp⟩) hS0 ?_
    try simp only [Act.put, List.setIfInBounds_toArray, List.set_cons_zero, List.set_cons_succ]
    refine wpAnyH_take (i := 2) (oi := { dst := some 140, op := .fieldAddr 24 (.tmp 13) 0, type := 0, pos := "outright.go:164", after := #[], guard := none }) (v := .pointer (some ⟨q, 0, none⟩)) rfl (by kernel_rfl) (by kernel_rfl) (by kernel_rfl) (fun _ _ _ h => h) (Or.inl ⟨by rfl, by intro w hSw; clear hSw; go_simp⟩) hS0 ?_
    try simp only [Act.put, List.setIfInBounds_toArray, List.set_cons_zero, List.set_cons_succ]
    refine wpAnyH_take (i := 3) (oi := { dst := some 141, op := .load 22 (.tmp 140), type := 22, pos := "outright.go:164", after := #[{ on := 2, ground := .data }], guard := none }) (v := .int .u64 Q) rfl (by kernel_rfl) (by kernel_rfl) (by kernel_rfl) (fun _ _ _ h => h) (Or.inl ⟨by rfl, by intro w h; have hcell := (h.2.2.2.1); clear h; go_simp⟩) hS0 ?_
    try simp only [Act.put, List.setIfInBounds_toArray, List.set_cons_zero, List.set_cons_succ]
    refine wpAnyH_take (i := 6) (oi := { dst := some 144, op := .fieldAddr 24 (.tmp 12) 0, type := 0, pos := "outright.go:164", after := #[], guard := none }) (v := .pointer (some ⟨p, 0, none⟩)) rfl (by kernel_rfl) (by kernel_rfl) (by kernel_rfl) (fun _ _ _ h => h) (Or.inl ⟨by rfl, by intro w hSw; clear hSw; go_simp⟩) hS0 ?_
    try simp only [Act.put, List.setIfInBounds_toArray, List.set_cons_zero, List.set_cons_succ]
    refine wpAnyH_take (i := 7) (oi := { dst := some 145, op := .load 22 (.tmp 144), type := 22, pos := "outright.go:164", after := #[{ on := 6, ground := .data }], guard := none }) (v := .int .u64 T) rfl (by kernel_rfl) (by kernel_rfl) (by kernel_rfl) (fun _ _ _ h => h) (Or.inl ⟨by rfl, by intro w h; have hcell := (h.2.1); clear h; go_simp⟩) hS0 ?_
    try simp only [Act.put, List.setIfInBounds_toArray, List.set_cons_zero, List.set_cons_succ]
    refine wpAnyH_ready (rs := [1]) (by kernel_rfl) (by simp) ?_
    refine AllReadyH.cons (o := { dst := some 139, op := .call { callee := .value (.func 27), args := #[.tmp 138], argTypes := #[22] }, type := 46, pos := "outright.go:164", after := #[{ on := 0, ground := .data }], guard := none }) rfl (fun K hK => ?_) AllReadyH.nil
    go_simp
    refine ((HG_y).out _).mono ?_
    rintro e v1 ⟨g0, rfl, hg0, kb0⟩
    go_wp2_with fail
    refine hK.out _ _ (hS0.up kb0) (fun hS1 => ?_)
    clear hK K
    try simp only [Act.put, List.setIfInBounds_toArray, List.set_cons_zero, List.set_cons_succ]
    refine wpAnyH_ready (rs := [4]) (by kernel_rfl) (by simp) ?_
    refine AllReadyH.cons (o := { dst := some 142, op := .call { callee := .value (.func 27), args := #[.tmp 141], argTypes := #[22] }, type := 46, pos := "outright.go:164", after := #[{ on := 3, ground := .data }, { on := 1, ground := .chain }], guard := none }) rfl (fun K hK => ?_) AllReadyH.nil
    go_simp
    refine ((HG_q).out _).mono ?_
    rintro e v2 ⟨g1, rfl, hg1, kb1⟩
    go_wp2_with fail
    refine hK.out _ _ (hS1.up kb1) (fun hS2 => ?_)
    clear hK K
    try simp only [Act.put, List.setIfInBounds_toArray, List.set_cons_zero, List.set_cons_succ]
    refine wpAnyH_ready (rs := [5]) (by kernel_rfl) (by simp) ?_
    refine AllReadyH.cons (o := { dst := some 143, op := .call { callee := .value (.func 26), args := #[.tmp 139, .tmp 142], argTypes := #[46, 46] }, type := 46, pos := "outright.go:164", after := #[{ on := 1, ground := .data }, { on := 4, ground := .data }, { on := 4, ground := .chain }], guard := none }) rfl (fun K hK => ?_) AllReadyH.nil
    go_simp
    refine (Gt.times _ _ _ _ _ _ _ (hg0.bel kb1) hg1 (by decide) (by decide)).mono ?_
    rintro e v3 ⟨g2, rfl, hg2, kb2⟩
    go_wp2_with fail
    refine hK.out _ _ (hS2.up kb2) (fun hS3 => ?_)
    clear hK K
    try simp only [Act.put, List.setIfInBounds_toArray, List.set_cons_zero, List.set_cons_succ]
    refine wpAnyH_ready (rs := [8]) (by kernel_rfl) (by simp) ?_
    refine AllReadyH.cons (o := { dst := some 146, op := .call { callee := .value (.func 27), args := #[.tmp 145], argTypes := #[22] }, type := 46, pos := "outright.go:164", after := #[{ on := 7, ground := .data }, { on := 5, ground := .chain }], guard := none }) rfl (fun K hK => ?_) AllReadyH.nil
    go_simp
    refine ((HG_t).out _).mono ?_
    rintro e v4 ⟨g3, rfl, hg3, kb3⟩
    go_wp2_with fail
    refine hK.out _ _ (hS3.up kb3) (fun hS4 => ?_)
    clear hK K
    try simp only [Act.put, List.setIfInBounds_toArray, List.set_cons_zero, List.set_cons_succ]
    refine wpAnyH_ready (rs := [9]) (by kernel_rfl) (by simp) ?_
    refine AllReadyH.cons (o := { dst := some 147, op := .call { callee := .value (.func 26), args := #[.tmp 143, .tmp 146], argTypes := #[46, 46] }, type := 46, pos := "outright.go:164", after := #[{ on := 5, ground := .data }, { on := 8, ground := .data }, { on := 8, ground := .chain }], guard := none }) rfl (fun K hK => ?_) AllReadyH.nil
    go_simp
    refine (Gt.times _ _ _ _ _ _ _ (hg2.bel kb3) hg3 (by decide) (by decide)).mono ?_
    rintro e v5 ⟨g4, rfl, hg4, kb4⟩
    go_wp2_with fail
    refine hK.out _ _ (hS4.up kb4) (fun hS5 => ?_)
    clear hK K
    try simp only [Act.put, List.setIfInBounds_toArray, List.set_cons_zero, List.set_cons_succ]
    refine wpAnyH_take (i := 10) (oi := { dst := some 26, op := .assign (.tmp 147), type := 46, pos := "outright.go:164", after := #[{ on := 9, ground := .data }, { on := 9, ground := .chain }, { on := 0, ground := .phase }, { on := 1, ground := .phase }, { on := 2, ground := .phase }, { on := 3, ground := .phase }, { on := 4, ground := .phase }, { on := 5, ground := .phase }, { on := 6, ground := .phase }, { on := 7, ground := .phase }, { on := 8, ground := .phase }, { on := 9, ground := .phase }], guard := none }) (v := g4) rfl (by kernel_rfl) (by kernel_rfl) (by kernel_rfl) (fun _ _ _ h => h) (Or.inl ⟨by rfl, by intro w hSw; clear hSw; go_simp⟩) hS5 ?_
    try simp only [Act.put, List.setIfInBounds_toArray, List.set_cons_zero, List.set_cons_succ]
    refine wpAnyH_done (by kernel_rfl) ?_ _
    have R14 := Lib.hid hg4
    have I14 := Lib.hid hS5
    clear hS0 hS1 hS2 hS3 hS4 hS5
    have KB14 := Lib.hid (DW13d.out.trans (kb0.trans (kb1.trans (kb2.trans (kb3.trans kb4)))))
    obtain ⟨W14, hW14⟩ : ∃ W, v5 = W := ⟨_, rfl⟩
    rw [hW14] at R14 I14 KB14 ⊢
    clear hW14
    have Pp := Pp.bel KB14.out
    have Pq := Pq.bel KB14.out
    have Pr := Pr.bel KB14.out
    have Pz := Pz.bel KB14.out
    have Pa := Pa.bel KB14.out
    go_upto_region 15 with fail
    have cp0 := Pp.cell 0 rfl
    have cp1 := Pp.cell 1 rfl
    have cq0 := Pq.cell 0 rfl
    have cq1 := Pq.cell 1 rfl
    have cr0 := Pr.cell 0 rfl
    have cr1 := Pr.cell 1 rfl
    have cz0 := Pz.cell 0 rfl
    have cz1 := Pz.cell 1 rfl
    have ca0 := Pa.cell 0 rfl
    have ca1 := Pa.cell 1 rfl
    have SM := Lib.hid (Gt.same _ _ _ _ _ _ _ (R13.out.bel KB14.out) R14.out (by decide) (by decide))
    have eq1 : decide (y * T * Q = y * Q * T) = true := decide_eq_true (by rw [Int.mul_assoc, Int.mul_comm T Q, ← Int.mul_assoc])
    rw [eq1] at SM
    have hUQ : U ≤ Q := by have := HU.out; omega
    have hQT : Q ≤ T := by have := HQ.out; omega
    go_wp2_with fail
    refine (SM.out).mono ?_
    rintro e w9 ⟨rfl, kb⟩
    have K9 := Lib.hid (I14.out.1.trans kb)
    have Pp := Pp.bel kb
    have Pq := Pq.bel kb
    have Pr := Pr.bel kb
    have Pz := Pz.bel kb
    have Pa := Pa.bel kb
    clear kb
    clear cp0 cp1 cq0 cq1 cr0 cr1 cz0 cz1 ca0 ca1
    have cp0 := Pp.cell 0 rfl
    have cp1 := Pp.cell 1 rfl
    have cq0 := Pq.cell 0 rfl
    have cq1 := Pq.cell 1 rfl
    have cr0 := Pr.cell 0 rfl
    have cr1 := Pr.cell 1 rfl
    have cz0 := Pz.cell 0 rfl
    have cz1 := Pz.cell 1 rfl
    have ca0 := Pa.cell 0 rfl
    have ca1 := Pa.cell 1 rfl
    go_wp2_with fail
    go_ret
    exact ⟨rfl, K9.out⟩
end Sh
end Go.Proofs.Ytmfajljgcndgfaa
