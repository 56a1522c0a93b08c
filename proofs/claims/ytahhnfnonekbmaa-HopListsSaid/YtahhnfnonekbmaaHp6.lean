/-
  What hop.Ripe and hop.Next answer of any list of hops, and what lies behind: sort.Search over a method value. Conditions: at most a million hops; heights are ints.
-/
import Derived.Test.YtahhnfnonekbmaaHp5
import Derived.Test.YtahhnfnonekbmaaRwF
namespace Go.Proofs.Ytahhnfnonekbmaa
open Go.RowKit Go.Shelf
set_option linter.unusedVariables false
set_option linter.unusedSimpArgs false
namespace Hp
open Kk Pm

theorem underL : Try.prog.underlying 69 = some (.slice 24) := by kernel_rfl
theorem elemH : Try.prog.elem 22 = 24 := by kernel_rfl
theorem elemL : Try.prog.elem 69 = 24 := by kernel_rfl
theorem sizeH : ∀ w, (sizeOf 24).run Try.prog w = .ok 4 w := fun w => by kernel_rfl
set_option maxRecDepth 10000 in
set_option maxHeartbeats 1000000 in
theorem isLeft (A : Option Addr) (n c k : Nat) (L : List R4) (r m : R4) (w : World) (hi : Rw.RS hR w A n c L) (hn : n ≤ 1000000000) (hk : k < n) (hr : L[k]? = some r) (hm : L[n - 1]? = some m) :
    Calls Try.prog 49 #[.slice A n c, .int .i64 k] w fun e w' => e = .returned (.bool (decide (cr m < cr r))) ∧ Bel w w' := by
  obtain ⟨b, o, rfl, hb, hrow⟩ := hi.at hk hr
  obtain ⟨b', o', e', hb', hrow'⟩ := hi.at (show n - 1 < n by omega) hm
  injection e' with e'
  injection e' with e1 e2
  subst e1 e2
  obtain ⟨r1, r2, r3, r4⟩ := r
  obtain ⟨m1, m2, m3, m4⟩ := m
  obtain ⟨c0, c1, c2, c3⟩ := rng4 (show w.rangeAt b (o + k * 4) [.int .i64 r1, .int .i64 r2, .int .i64 r3, .int .i64 r4] from hrow)
  obtain ⟨d0, d1, d2, d3⟩ := rng4 (show w.rangeAt b (o + (n - 1) * 4) [.int .i64 m1, .int .i64 m2, .int .i64 m3, .int .i64 m4] from hrow')
  obtain ⟨j, rfl⟩ : ∃ j, n = j + 1 := ⟨n - 1, by omega⟩
  rw [Nat.add_sub_cancel] at d3
  have hs : IntKind.i64.wrap (((j + 1 : Nat) : Int) - 1) = (j : Int) := by rw [IntWalk.i64_in _ (by omega)]; omega
  have hk3 : (k : Int) < ((j + 1 : Nat) : Int) := by omega
  have hk0 : (0 : Int) ≤ k := by omega
  have hj3 : (j : Int) < ((j + 1 : Nat) : Int) := by omega
  clear hrow hrow' c0 c1 c2 d0 d1 d2 hi hm hr hb hb'
  show Calls Try.prog 49 #[.slice (some ⟨b, o, none⟩) (j + 1) c, .int .i64 k] w fun e w' => e = .returned (.bool (decide (m4 < r4))) ∧ Bel w w'
  go_enter Try.func49, Try.ntmps49
  go_upto_region 1 with fail
  go_quiet (fail)
  go_wp2_with fail
  go_ret
  exact ⟨rfl, by first | exact Bel.refl _ | exact bel_drewN _ _⟩

theorem half (i j : Nat) (h : i + j ≤ 2000000000) : IntKind.i64.wrap ((i : Int) + (j : Int)) = ((i + j : Nat) : Int) := by rw [IntWalk.i64_in _ (by omega)]; omega
set_option maxRecDepth 100000 in
set_option maxHeartbeats 4000000 in
theorem search (A : Option Addr) (n c : Nat) (l : List R4) (m : R4) (w : World) (hi : Rw.RS hR w A (n + 1) c (l ++ [m])) (hn : n ≤ 1000000) (hs : ∀ (i j : Nat) (x y : R4), i ≤ j → l[i]? = some x → l[j]? = some y → cr x ≤ cr y) :
    Calls Try.prog 48 #[.int .i64 n, .func (.func 49) #[.slice A (n + 1) c] #[]] w fun e w' => ∃ k : Nat, e = .returned (.int .i64 k) ∧ k ≤ n ∧ (∀ (i : Nat) (x : R4), i < k → l[i]? = some x → cr x ≤ cr m) ∧ (∀ (i : Nat) (x : R4), k ≤ i → l[i]? = some x → cr m < cr x) ∧ Bel w w' := by
  have hl : l.length = n := by have := hi.len; simp at this; exact this
  have IL := Lib.hid (fun (h : Nat) (r : R4) (hh : h < n) (hr : l[h]? = some r) V (hv : Bel w V) => isLeft A (n + 1) c h (l ++ [m]) r m V (hi.bel hv) (by omega) (by omega) (by rw [List.getElem?_append_left (by omega)]; exact hr) (by rw [Nat.add_sub_cancel, List.getElem?_append_right (by omega), hl, Nat.sub_self]; rfl))
  have HL := Lib.hid hl
  have HS := Lib.hid hs
  clear hi hl hs
  go_enter Try.func48, Try.ntmps48
  go_wp2_with fail
  go_loopw [5, 6] (fun s5 s6 wr => ∃ i j : Nat, s5 = .int .i64 i ∧ s6 = .int .i64 j ∧ i ≤ j ∧ j ≤ n ∧ Hid ((∀ (t : Nat) (x : R4), t < i → l[t]? = some x → cr x ≤ cr m) ∧ (∀ (t : Nat) (x : R4), j ≤ t → l[t]? = some x → cr m < cr x) ∧ Bel w wr)) (fun s5 s6 _ => (intOf s6).toNat - (intOf s5).toNat)
  case atStart => exact ⟨0, n, rfl, rfl, Nat.zero_le _, Nat.le_refl _, Lib.hid ⟨fun t x ht => absurd ht (by omega), fun t x ht hx => by have := (List.getElem?_eq_some_iff.1 hx).1; have := HL.out; omega, Bel.refl _⟩⟩
  case round =>
    obtain ⟨i, j, rfl, rfl, hij, hjn, hh⟩ := hrel
    by_cases hlt : i < j
    · obtain ⟨h, hhd⟩ : ∃ h, (i + j) / 2 = h := ⟨_, rfl⟩
      have hb : i ≤ h ∧ h < j := by omega
      obtain ⟨r, hr⟩ : ∃ r, l[h]? = some r := ⟨_, List.getElem?_eq_getElem (by have := HL.out; omega)⟩
      have CI := Lib.hid (IL.out h r (by omega) hr wr hh.out.2.2)
      obtain ⟨y, hy⟩ : ∃ y, decide (cr m < cr r) = y := ⟨_, rfl⟩
      rw [hy] at CI
      have NX := Lib.hid (show (y = false → ∀ (t : Nat) (x : R4), t < h + 1 → l[t]? = some x → cr x ≤ cr m) ∧ (y = true → ∀ (t : Nat) (x : R4), h ≤ t → l[t]? = some x → cr m < cr x) from ⟨fun e t x ht hx => by
        subst e
        have h1 := of_decide_eq_false hy
        have h2 := HS.out t h x r (by omega) hx hr
        omega, fun e t x ht hx => by
        subst e
        have h1 := of_decide_eq_true hy
        have h2 := HS.out h t r x ht hr hx
        omega⟩)
      have hlt3 : (i : Int) < j := by omega
      have hsum := half i j (by omega)
      have hu : IntKind.u64.wrap ((i + j : Nat) : Int) = ((i + j : Nat) : Int) := IntWalk.u64_in _ (by omega)
      have e2 : ((i : Int) + (j : Int)) / 2 = (h : Int) := by omega
      clear hr hy
      go_upto_region 4 with fail
      try rw [e2]
      clear e2 hsum hu hhd
      go_wp2_with fail
      refine CI.out.mono ?_
      rintro e w1 ⟨rfl, kb⟩
      have K1 := Lib.hid (hh.out.2.2.trans kb)
      clear kb CI
      cases y
      · have N1 := Lib.hid (NX.out.1 rfl)
        clear NX
        go_wp2_with fail
        go_roundw
        case rel => exact ⟨h + 1, j, by go_num, rfl, by omega, hjn, Lib.hid ⟨N1.out, hh.out.2.1, K1.out⟩⟩
        case measure => simp [intOf]; omega
      · have N1 := Lib.hid (NX.out.2 rfl)
        clear NX
        go_wp2_with fail
        go_roundw
        case rel => exact ⟨i, h, rfl, rfl, by omega, by omega, Lib.hid ⟨hh.out.1, N1.out, K1.out⟩⟩
        case measure => simp [intOf]; omega
    · obtain rfl : i = j := by omega
      go_wp2_with fail
      go_ret
      exact ⟨i, rfl, hjn, hh.out.1, fun t x ht hx => hh.out.2.1 t x ht hx, hh.out.2.2⟩
theorem sliced_zero (A : Option Addr) (n s : Nat) : sliced A 0 n n s = .slice A n n := by
  unfold sliced
  by_cases h : n = 0
  · subst h; simp
  · rw [if_neg h]
    cases A with
    | none => simp
    | some a => simp [Addr.add]
theorem slice_full (A : Option Addr) (n c : Nat) (h : n ≤ c) (w : World) : (Instr.slice 22 (.slice A n c) none (some (.int .i64 n)) (some (.int .i64 n))).run Try.prog w = .ok (.slice A n n) w := by
  rw [run_slice_hm (P := Try.prog) (w := w) (t := 22) (a := A) (len := n) (cap := c) (by rw [elemH]; exact underH) .i64 .i64 n n (by omega) (by omega) (by omega), elemH]
  simp [sizeH, Result.andThen, sliced_zero]
theorem slice_fullL (A : Option Addr) (N k c : Nat) (h : k ≤ c) (w : World) : (Instr.slice 69 (.slice A N c) none (some (.int .i64 k)) (some (.int .i64 k))).run Try.prog w = .ok (.slice A k k) w := by
  rw [run_slice_hm (P := Try.prog) (w := w) (t := 69) (a := A) (len := N) (cap := c) (by rw [elemL]; exact underL) .i64 .i64 k k (by omega) (by omega) (by omega), elemL]
  simp [sizeH, Result.andThen, sliced_zero]
theorem slice_low' (g N k n c : Nat) (h : k ≤ n) (h2 : n ≤ c) (w : World) : (Instr.slice 69 (.slice (some ⟨g, 0, none⟩) N c) (some (.int .i64 k)) (some (.int .i64 n)) (some (.int .i64 n))).run Try.prog w = .ok (.slice (if n = k then some ⟨g, 0, none⟩ else some ⟨g, k * 4, none⟩) (n - k) (n - k)) w := by
  rw [run_slice_lhm (P := Try.prog) (w := w) (t := 69) (a := some ⟨g, 0, none⟩) (len := N) (cap := c) (by rw [elemL]; exact underL) .i64 .i64 .i64 k n n (by omega) (by omega) (by omega) (by omega), elemL]
  simp only [sizeH, Result.andThen, sliced, Int.toNat_natCast, Option.map_some, Rw.add_at, Nat.zero_add]
set_option maxRecDepth 10000 in
set_option maxHeartbeats 2000000 in
theorem marked (A : Option Addr) (n c : Nat) (l : List R4) (m : Int) (w : World) (hi : Rw.RS hR w A n c l) (hn : n ≤ 1000000000) :
    Calls Try.prog 47 #[.slice A n c, .int .i64 m] w fun e w' => ∃ g cap, e = .returned (.slice (some ⟨g, 0, none⟩) (n + 1) cap) ∧ w.heap.size ≤ g ∧ Rw.RB hR 24 w' g (l ++ [(0, 0, 0, m)]) cap ∧ Bel w w' := by
  have HS := Lib.hid ((hi.cut (c' := n) (Nat.le_refl _) (fun h => by have := hi.nil h; have := hi.cap; omega)).bel ((Bel.refl w).alloc (.cells #[.int .i64 0, .int .i64 0, .int .i64 0, .int .i64 m] 24)))
  have HX := Lib.hid (Rw.rs_one hR (r := (0, 0, 0, m)) (Blk.new w #[.int .i64 0, .int .i64 0, .int .i64 0, .int .i64 m] 24))
  have hsl := fun V => slice_full A n c hi.cap V
  have BW := Lib.hid ((Bel.refl w).alloc (.cells #[.int .i64 0, .int .i64 0, .int .i64 0, .int .i64 m] 24))
  clear hi
  go_enter Try.func47, Try.ntmps47
  go_wp2_with (at_builtin; refine Rw.wpList_append_full hR rfl _ _ 69 24 rfl underL zero_h rfl (by decide) rfl HS.out rfl HX.out (by omega) (by omega) ?_; intro cap w1 hrb hown hb1)
  have HB := Lib.hid hrb
  have HB1 := Lib.hid (BW.out.trans hb1)
  have HSZ := Lib.hid (Below.size BW.out)
  clear hrb hown hb1
  go_wp2_with fail
  go_ret
  have HB2 := HB.out
  rw [World.size_alloc] at HB2
  exact ⟨_, _, rfl, Nat.le_succ _, HB2, HB1.out⟩

/-- Two halves of one row in new memory. -/
structure Halves (w : World) (base : Nat) (A1 : Option Addr) (n1 c1 : Nat) (A2 : Option Addr) (n2 c2 : Nat) (l1 l2 : List R4) : Prop where
  r1 : Rw.RS hR w A1 n1 c1 l1
  r2 : Rw.RS hR w A2 n2 c2 l2
  g : (n1 = 0 ∧ n2 = 0) ∨ ∃ g cur, base ≤ g ∧ Blk w g cur 24 ∧ (0 < n1 → A1 = some ⟨g, 0, none⟩) ∧ (0 < n2 → A2 = some ⟨g, n1 * 4, none⟩) ∧ (n1 + n2) * 4 ≤ cur.size
section
variable {w w' : World} {base : Nat} {A1 A2 : Option Addr} {n1 c1 n2 c2 : Nat} {l1 l2 : List R4}
theorem Halves.nil_ (w : World) (base : Nat) : Halves w base none 0 0 none 0 0 [] [] := ⟨Rw.RS.nil_, Rw.RS.nil_, .inl ⟨rfl, rfl⟩⟩
theorem Halves.mono (h : Halves w base A1 n1 c1 A2 n2 c2 l1 l2) {b : Nat} (hb : b ≤ base) : Halves w b A1 n1 c1 A2 n2 c2 l1 l2 :=
  ⟨h.r1, h.r2, h.g.imp id fun ⟨g, cur, h1, r⟩ => ⟨g, cur, Nat.le_trans hb h1, r⟩⟩
theorem Halves.kep {S : Nat → Prop} (h : Halves w base A1 n1 c1 A2 n2 c2 l1 l2) (hk : Kep S w w') (hs : ∀ k, base ≤ k → k < w.heap.size → ¬ S k) : Halves w' base A1 n1 c1 A2 n2 c2 l1 l2 := by
  rcases h.g with ⟨h1, h2⟩ | ⟨g, cur, h1, h2, h3, h4, h5⟩
  · exact ⟨h.r1.kep2 hk (fun h0 => absurd h0 (by omega)), h.r2.kep2 hk (fun h0 => absurd h0 (by omega)), .inl ⟨h1, h2⟩⟩
  · have hg := hs g h1 h2.lt
    exact ⟨h.r1.kep2 hk (fun h0 x hx => by rw [h3 h0] at hx; injection hx with hx; rw [← hx]; exact hg), h.r2.kep2 hk (fun h0 x hx => by rw [h4 h0] at hx; injection hx with hx; rw [← hx]; exact hg), .inr ⟨g, cur, h1, h2.kep hk hg, h3, h4, h5⟩⟩
theorem Halves.bel (h : Halves w base A1 n1 c1 A2 n2 c2 l1 l2) (hk : Bel w w') : Halves w' base A1 n1 c1 A2 n2 c2 l1 l2 := h.kep (Kep.of_bel (S := fun _ => False) hk) (fun _ _ _ h => h)
theorem Halves.lay (h : Halves w base A1 n1 c1 A2 n2 c2 l1 l2) : Lay w A1 n1 := fun h0 => by
  rcases h.g with ⟨h1, h2⟩ | ⟨g, cur, h1, h2, h3, h4, h5⟩
  · omega
  · exact ⟨g, 0, cur, h3 h0, h2, by omega⟩
/-- The first half written over leaves the second. -/
theorem Halves.over (h : Halves w base A1 n1 c1 A2 n2 c2 l1 l2) (ho : Ov A1 n1 w w') : Rw.RS hR w' A2 n2 c2 l2 ∧ Lay w' A2 n2 := by
  by_cases h2 : 0 < n2
  · rcases h.g with ⟨_, h3⟩ | ⟨g, cur, h1, hb, h3, h4, h5⟩
    · omega
    · have hA := h4 h2
      have : ∃ cur', Blk w' g cur' 24 ∧ cur'.size = cur.size ∧ ∀ j, n1 * 4 ≤ j → cur'[j]? = cur[j]? := by
        by_cases h0 : 0 < n1
        · obtain ⟨cur', q1, q2, q3⟩ := ho.row g 0 cur h0 (h3 h0) hb
          exact ⟨cur', q1, q2, fun j hj => q3 j (.inr (by omega))⟩
        · exact ⟨cur, hb.kep ho.kep (fun e => h0 e.1), rfl, fun j _ => rfl⟩
      obtain ⟨cur', q1, q2, q3⟩ := this
      refine ⟨⟨h.r2.len, h.r2.cap, h.r2.nil, fun _ => ⟨g, n1 * 4, hA, q1.lt, fun i r hi j v hv => ?_⟩⟩, fun _ => ⟨g, n1 * 4, cur', hA, q1, by omega⟩⟩
      obtain ⟨b, o, e, hlt, hc⟩ := h.r2.row h2
      rw [hA] at e
      injection e with e
      injection e with e1 e2
      subst e1 e2
      have hin : i < n2 := by have := (List.getElem?_eq_some_iff.1 hi).1; have := h.r2.len; omega
      have hj : j < 4 := by have := (List.getElem?_eq_some_iff.1 hv).1; have h4 : (hR.k r).length = 4 := hR.len r; omega
      have h1 := hc i r hi j v hv
      have hidx : n1 * 4 + i * hR.z + j < cur.size := by
        have : hR.z = 4 := rfl
        rw [this]
        omega
      have h2' := hb.cell _ (Array.getElem?_eq_getElem hidx)
      rw [h2'] at h1
      rw [q1.cell _ (by rw [q3 _ (by omega)]; exact Array.getElem?_eq_getElem hidx)]
      exact h1
  · exact ⟨h.r2.kep2 ho.kep (fun h0 => absurd h0 h2), fun h0 => absurd h0 h2⟩
end
theorem rip_ways (l : List R4) (h u : Int) : ((chk l).1 ≠ 0 → ripE l h u = (chk l).1) ∧ ((chk l).1 = 0 → ¬ (1 ≤ h ∧ h ≤ 4294967296 ∧ 1 ≤ u ∧ u ≤ 1048576) → ripE l h u = 3) ∧ ((chk l).1 = 0 → (1 ≤ h ∧ h ≤ 4294967296 ∧ 1 ≤ u ∧ u ≤ 1048576) → ripE l h u = 0) := by
  unfold ripE
  refine ⟨fun h => if_pos h, fun h1 h2 => ?_, fun h1 h2 => ?_⟩
  · rw [if_neg (by rw [h1]; decide), if_pos h2]
  · rw [if_neg (by rw [h1]; decide), if_neg (fun h => h h2)]
theorem rip_nil {l : List R4} {h u : Int} (h0 : ripE l h u ≠ 0) : ripL l h u = [] ∧ lftL l h u = [] := ⟨if_neg h0, if_neg h0⟩
/-- What Ripe tells. -/
def RipeR (w w' : World) (l : List R4) (h u : Int) (e : Ending) : Prop :=
  ∃ A1 n1 c1 A2 n2 c2, e = .returned (.tuple #[.slice A1 n1 c1, .slice A2 n2 c2, .int .i64 (ripE l h u)]) ∧ Halves w' w.heap.size A1 n1 c1 A2 n2 c2 (ripL l h u) (lftL l h u) ∧ Bel w w'
theorem rb_halves {w : World} {g cap n k base : Nat} {l : List R4} {m : R4} (h : Rw.RB hR 24 w g (l ++ [m]) cap) (hn : l.length = n) (hk : k ≤ n) (hb : base ≤ g) {Q : Option Addr} (hQ0 : Q = none → False) (hQ : k < n → Q = some ⟨g, k * 4, none⟩) :
    Halves w base (some ⟨g, 0, none⟩) k k Q (n - k) (n - k) (l.take k) (l.drop k) := by
  have hr := h.rs
  have hl : (l ++ [m]).length = n + 1 := by simp [hn]
  have h1 := (hr.part (m := k) (by rw [hl]; omega)).cut (c' := k) (Nat.le_refl _) (fun h => by cases h)
  have e1 : (l ++ [m]).take k = l.take k := List.take_append_of_le_length (by omega)
  rw [e1] at h1
  obtain ⟨cur, q1, q2, q3⟩ := h.blk
  have hcap := h.cap
  rw [hl] at hcap
  refine ⟨h1, ⟨by rw [List.length_drop, hn], Nat.le_refl _, fun h => (hQ0 h).elim, fun h0 => ?_⟩, .inr ⟨g, cur, hb, q1, fun _ => rfl, fun h0 => hQ (by omega), by rw [q3]; show (k + (n - k)) * 4 ≤ cap * 4; omega⟩⟩
  refine ⟨g, k * 4, hQ (by omega), q1.lt, fun i r hi => ?_⟩
  rw [List.getElem?_drop] at hi
  obtain ⟨b, o, e, _, hc⟩ := hr.row (by rw [hl]; omega)
  injection e with e
  injection e with e1 e2
  subst e1 e2
  have := hc (k + i) r (by rw [List.getElem?_append_left (List.getElem?_eq_some_iff.1 hi).1]; exact hi)
  have hz : hR.z = 4 := rfl
  rw [hz] at this ⊢
  rwa [show k * 4 + i * 4 = 0 + (k + i) * 4 by omega]
set_option maxRecDepth 100000 in
set_option maxHeartbeats 8000000 in
theorem ripe (A : Option Addr) (n c : Nat) (l : List R4) (h u : Int) (w : World) (hi : Rw.RS hR w A n c l) (hn : n ≤ 1000000) :
    Calls Try.prog 19 #[.slice A n c, .int .i64 h, .int .i64 u] w fun e w' => RipeR w w' l h u e := by
  have HI := Lib.hid hi
  have HLN := Lib.hid hi.len
  have CK := Lib.hid (check A n c l w hi (by omega))
  have HH := Lib.hid (fun V => isHeight h V)
  have HP := Lib.hid (fun V => isPeriod u V)
  have RW_ := Lib.hid (rip_ways l h u)
  obtain ⟨e1, he1⟩ : ∃ e, (chk l).1 = e := ⟨_, rfl⟩
  obtain ⟨e2, he2⟩ : ∃ e, (chk l).2 = e := ⟨_, rfl⟩
  have HE1 := Lib.hid he1
  rw [he1, he2] at CK
  rw [he1] at RW_
  clear hi he1 he2
  have FIN : ∀ (W : World) (x : Int), Bel w W → ripE l h u = x → x ≠ 0 → RipeR w W l h u (.returned (.tuple #[.slice none 0 0, .slice none 0 0, .int .i64 x])) := fun W x hb he hx => by
    obtain ⟨q1, q2⟩ := rip_nil (l := l) (h := h) (u := u) (by rw [he]; exact hx)
    exact ⟨none, 0, 0, none, 0, 0, by rw [he], by rw [q1, q2]; exact Halves.nil_ _ _, hb⟩
  have FIN := Lib.hid FIN
  go_enter Try.func19, Try.ntmps19
  go_wp2_with fail
  refine CK.out.mono ?_
  rintro e w1 ⟨rfl, kb⟩
  have K1 := Lib.hid kb
  clear kb CK
  by_cases h0 : e1 = 0
  · subst h0
    have hR2 := RW_.out.2
    by_cases hb : 1 ≤ h ∧ h ≤ 4294967296
    · have ih := HH.out w1
      rw [decide_eq_true hb] at ih
      by_cases hp : 1 ≤ u ∧ u ≤ 1048576
      · have ip := HP.out w1
        rw [decide_eq_true hp] at ip
        have HE := Lib.hid (hR2.2 rfl ⟨hb.1, hb.2, hp.1, hp.2⟩)
        have HOK := Lib.hid (chk_ok.1 HE1.out)
        have hwr : IntKind.i64.wrap (h - u) = h - u := IntWalk.i64_in _ (by omega)
        clear hR2 RW_ hb hp FIN
        go_wp2_with fail
        refine ih.mono ?_
        rintro e w2 ⟨rfl, rfl⟩
        clear ih
        go_wp2_with fail
        refine ip.mono ?_
        rintro e w2 ⟨rfl, rfl⟩
        clear ip
        have MK := Lib.hid (marked A n c l (h - u) w1 (HI.out.bel K1.out) (by omega))
        go_wp2_with fail
        refine MK.out.mono ?_
        rintro e w2 ⟨g, cap, rfl, hg, hrb, kb⟩
        have HG := Lib.hid (Nat.le_trans (Below.size K1.out) hg)
        have HRB := Lib.hid hrb
        have K2 := Lib.hid (K1.out.trans kb)
        have hcap : n + 1 ≤ cap := by have := hrb.cap; rw [List.length_append, HLN.out] at this; exact this
        have hrs := hrb.rs
        rw [List.length_append, HLN.out] at hrs
        have SR := Lib.hid (search (some ⟨g, 0, none⟩) n cap l (0, 0, 0, h - u) w2 hrs hn (fun i j x y hij hx hy => srt_get l 0 HOK.out.2 i j x y hij hx hy))
        clear hg hrb kb MK hrs
        go_wp2_with fail
        refine SR.out.mono ?_
        rintro e w3 ⟨k, rfl, hk, h1, h2, kb⟩
        have K3 := Lib.hid (K2.out.trans kb)
        have HRB3 := Lib.hid (HRB.out.bel kb)
        have HPT := Lib.hid (rip_at l 0 HOK.out.2 (h - u) k (by rw [HLN.out]; exact hk) h1 h2)
        clear h1 h2 kb SR HRB
        have s1 := fun V => slice_fullL (some ⟨g, 0, none⟩) (n + 1) k cap (by omega) V
        have hq1 := fun V => slice_low' g (n + 1) k n cap hk (by omega) V
        obtain ⟨Q, hQ⟩ : ∃ Q, (if n = k then some (⟨g, 0, none⟩ : Addr) else some ⟨g, k * 4, none⟩) = Q := ⟨_, rfl⟩
        rw [hQ] at hq1
        have hq2 : Q = none → False := fun e => by rw [e] at hQ; split at hQ <;> cases hQ
        have hq3 : k < n → Q = some ⟨g, k * 4, none⟩ := fun h => by rw [← hQ, if_neg (by omega)]
        clear hQ
        have HHV := Lib.hid (rb_halves HRB3.out HLN.out hk HG.out hq2 hq3)
        clear hq2 hq3
        go_upto_region 8 with fail
        go_quiet (fail)
        go_wp2_with fail
        go_ret3
        refine ⟨some ⟨g, 0, none⟩, k, k, Q, n - k, n - k, by rw [HE.out]; rfl, ?_, K3.out.trans (by first | exact Bel.refl _ | exact bel_drewN _ _)⟩
        have hrl : ripL l h u = l.take k := (if_pos HE.out).trans HPT.out.1
        have hll : lftL l h u = l.drop k := (if_pos HE.out).trans HPT.out.2
        rw [hrl, hll]
        exact HHV.out.bel (by first | exact Bel.refl _ | exact bel_drewN _ _)
      · have ip := HP.out w1
        rw [decide_eq_false hp] at ip
        have HE := Lib.hid (hR2.1 rfl (fun h => hp h.2.2))
        clear hR2 RW_ hb hp
        go_wp2_with fail
        refine ih.mono ?_
        rintro e w2 ⟨rfl, rfl⟩
        clear ih
        go_wp2_with fail
        refine ip.mono ?_
        rintro e w2 ⟨rfl, rfl⟩
        clear ip
        go_wp2_with fail
        go_ret3
        exact FIN.out _ 3 K1.out HE.out (by decide)
    · have ih := HH.out w1
      rw [decide_eq_false hb] at ih
      have HE := Lib.hid (hR2.1 rfl (fun h => hb ⟨h.1, h.2.1⟩))
      clear hR2 RW_ hb
      go_wp2_with fail
      refine ih.mono ?_
      rintro e w2 ⟨rfl, rfl⟩
      clear ih
      go_wp2_with fail
      go_ret3
      exact FIN.out _ 3 K1.out HE.out (by decide)
  · have HE := Lib.hid (RW_.out.1 h0)
    have hne : (e1 != 0) = true := by rw [bne_iff_ne]; exact h0
    have H0 := Lib.hid h0
    clear h0
    go_wp2_with fail
    go_ret3
    exact FIN.out _ e1 K1.out HE.out H0.out
end Hp
end Go.Proofs.Ytahhnfnonekbmaa
