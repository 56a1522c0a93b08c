/-
  Texts of this claim, put together: Hp12, Hp13. What each one says, and under which conditions, stands ahead of it.
-/
import Derived.Test.YtahhnfnonekbmaaQE
import Derived.Test.YtahhnfnonekbmaaGWriter3
import Derived.Test.YtahhnfnonekbmaaGRm
import Derived.Test.YtahhnfnonekbmaaGRef02

section
/-
  What hop.Bytes answers of any list of hops. Conditions: at most a million hops.
-/
namespace Go.Proofs.Ytahhnfnonekbmaa
open Go.RowKit Go.Shelf
set_option linter.unusedVariables false
set_option linter.unusedSimpArgs false
namespace Hp
open Cd

def nums : R4 → List Int
  | (a, b, c, d) => [a, b, c, d]
/-- A list's bytes. -/
def encL (l : List R4) : List Int := Rm.encs ((l.length : Int) :: l.flatMap nums)
def encP (n : Int) (l : List R4) : List Int := Rm.encs (n :: l.flatMap nums)
theorem encP_next {n : Int} {l : List R4} {k : Nat} {a b c d : Int} (h : l[k]? = some (a, b, c, d)) : encP n (l.take (k + 1)) = encP n (l.take k) ++ enc a ++ enc b ++ enc c ++ enc d := by
  unfold encP
  rw [List.take_add_one, h, List.flatMap_append, show n :: ((l.take k).flatMap nums ++ (some (a, b, c, d)).toList.flatMap nums) = (n :: (l.take k).flatMap nums) ++ [a, b, c, d] from rfl, Rm.encs_app]
  simp [Rm.encs, List.append_assoc]
theorem encP_len (n : Int) (l : List R4) : (encP n l).length ≤ 10 + 40 * l.length := by
  have h1 := Rm.encs_len (n :: l.flatMap nums)
  have h2 : (l.flatMap nums).length = 4 * l.length := by
    induction l with
    | nil => rfl
    | cons r l ih =>
      obtain ⟨a, b, c, d⟩ := r
      rw [List.flatMap_cons, List.length_append, ih (Rm.encs_len _), List.length_cons]
      simp [nums]; omega
  rw [List.length_cons, h2] at h1
  unfold encP
  omega
theorem stp_ok {L : Int} {out more : List Int} (h : ((out ++ more).length : Int) ≤ L) : stp L (out, 0) more = (out ++ more, 0) := by unfold stp; rw [if_neg (by simp), if_pos h]
/-- The writer between two hops. -/
structure Wi (w wr : World) (b : Nat) (v : Value) (zs : List Int) : Prop where
  ws : WS wr b 1048576 v 0 zs b
  bel : Bel w wr
  ge : w.heap.size ≤ b
theorem Wi.next {w wr wn : World} {b : Nat} {v v' : Value} {zs more : List Int} (h : Wi w wr b v zs) (h1 : WS wn b 1048576 v' 0 (zs ++ more) b) (hk : Kep (Own2 b v) wr wn) : Wi w wn b v' (zs ++ more) :=
  ⟨h1, Kep.bel h.bel hk (fun i hi => by
    rcases hi with rfl | hi
    · exact h.ge
    · exact Nat.le_trans h.ge (h.ws.row.lt i hi).1), h.ge⟩
theorem Wi.bel_ {w wr wn : World} {b : Nat} {v : Value} {zs : List Int} (h : Wi w wr b v zs) (hb : Bel wr wn) : Wi w wn b v zs := ⟨h.ws.bel hb, h.bel.trans hb, h.ge⟩
theorem wiN {w wr : World} {b : Nat} {v : Value} {zs : List Int} (x : Int) (h : Wi w wr b v zs) (x0 : 0 ≤ x) (x1 : x ≤ 9223372036854775807) (hf : zs.length + 10 ≤ 1048576) :
    Calls Try.prog 52 #[.pointer (some ⟨b, 0, none⟩), .int .i64 x] wr fun e w' => e = .returned (.int .i64 0) ∧ ∃ v', Wi w w' b v' (zs ++ enc x) ∧ Kep (Own2 b v) wr w' := by
  have hl := (enc_len x).2
  have e1 : stp 1048576 (zs, 0) (enc x) = (zs ++ enc x, 0) := stp_ok (by rw [List.length_append]; omega)
  have := nAny b 1048576 v (zs, 0) b x wr h.ws x0 x1
  rw [e1] at this
  refine this.mono ?_
  rintro e w' ⟨he, v', h1, _, h3⟩
  exact ⟨he, v', h.next h1 h3, h3⟩
set_option maxRecDepth 100000 in
set_option maxHeartbeats 8000000 in
theorem bytesH (A : Option Addr) (n c : Nat) (l : List R4) (w : World) (hi : Rw.RS hR w A n c l) (hn : n ≤ 1000000) :
    Calls Try.prog 26 #[.slice A n c] w fun e w' => ∃ v, e = .returned (.tuple #[v, .int .i64 (chk l).1]) ∧ Fresh w w' v (if (chk l).1 = 0 then encL l else []) := by
  have HR := Lib.hid hi
  have HLN := Lib.hid hi.len
  have CK := Lib.hid (check A n c l w hi (by omega))
  obtain ⟨e1, he1⟩ : ∃ e, (chk l).1 = e := ⟨_, rfl⟩
  obtain ⟨e2, he2⟩ : ∃ e, (chk l).2 = e := ⟨_, rfl⟩
  have HE1 := Lib.hid he1
  rw [he1, he2] at CK
  rw [he1]
  clear hi he1 he2
  by_cases h0 : e1 = 0
  · subst h0
    rw [if_pos rfl]
    have HOK := Lib.hid (chk_ok.1 HE1.out)
    go_enter Try.func26, Try.ntmps26
    go_wp2_with fail
    refine CK.out.mono ?_
    rintro e w1 ⟨rfl, kb⟩
    have K1 := Lib.hid (show Bel w w1 from kb)
    clear kb CK
    go_wp2_with fail
    refine (newWriter 1048576 w1 (by decide) (by decide)).mono ?_
    rintro e w2 ⟨rfl, hws, k1⟩
    have HGE := Lib.hid (Below.size K1.out)
    obtain ⟨b, hb⟩ : ∃ b, w1.heap.size = b := ⟨_, rfl⟩
    rw [hb] at hws HGE ⊢
    have W2 := Lib.hid (show Wi w w2 b (.slice none 0 0) [] from ⟨hws, K1.out.trans k1, HGE.out⟩)
    clear hb hws k1
    have N0 := Lib.hid (wiN (n : Int) W2.out (by omega) (by omega) (by decide))
    go_wp2_with fail
    refine N0.out.mono ?_
    rintro e w3 ⟨rfl, v3, h3, _⟩
    have W3_ := Lib.hid (show Wi w w3 b v3 (encP n (l.take 0)) from by
      have : ([] : List Int) ++ enc (n : Int) = encP n (l.take 0) := by simp [encP, Rm.encs]
      rw [← this]; exact h3)
    clear h3 N0 W2
    go_wp2_with fail
    go_loopw [31] (fun s31 wr => ∃ (k : Nat) (v : Value), s31 = .int .i64 k ∧ k ≤ n ∧ Hid (Wi w wr b v (encP n (l.take k)))) (fun s31 _ => n - (intOf s31).toNat)
    case atStart => exact ⟨0, v3, rfl, Nat.zero_le _, W3_⟩
    case round =>
      obtain ⟨k, v, rfl, hk, hh⟩ := hrel
      by_cases hlt : k < n
      · obtain ⟨⟨r1, r2, r3, r4⟩, hr⟩ := HR.out.get hlt
        obtain ⟨bb, q, rfl, hb, hrow⟩ := (HR.out.bel hh.out.bel).at hlt hr
        have HNX := Lib.hid (encP_next (n := (n : Int)) hr)
        have HMY := Lib.hid ((may_iff _ _ _ _).1 (srt_le l 0 HOK.out.2 _ (List.mem_of_getElem? hr)).1)
        have HLE := Lib.hid (show (encP n (l.take k)).length + 50 ≤ 1048576 from by
          have h1 := encP_len n (l.take k)
          have h2 : (l.take k).length ≤ 4096 := by rw [List.length_take]; have := HOK.out.1; omega
          omega)
        have hlt3 : (k : Int) < n := by omega
        have hlt0 : (0 : Int) ≤ k := by omega
        obtain ⟨c0, c1, c2, c3⟩ := rng4 (show wr.rangeAt bb (q + k * 4) [.int .i64 r1, .int .i64 r2, .int .i64 r3, .int .i64 r4] from hrow)
        clear hr hrow
        obtain ⟨zs, hzs⟩ : ∃ zs, encP n (l.take k) = zs := ⟨_, rfl⟩
        rw [hzs] at hh HNX HLE
        clear hzs
        go_upto_region 11 with fail
        have P0 := Lib.hid (Blk.new wr #[.int .i64 r1, .int .i64 r2, .int .i64 r3, .int .i64 r4] 24)
        obtain ⟨V, hV⟩ : ∃ V, wr.alloc (.cells #[.int .i64 r1, .int .i64 r2, .int .i64 r3, .int .i64 r4] 24) = V := ⟨_, rfl⟩
        have WV := Lib.hid (show Wi w V b v zs by rw [← hV]; exact hh.out.bel_ ((Bel.refl _).alloc _))
        rw [hV] at P0 ⊢
        obtain ⟨g, hg⟩ : ∃ g, wr.heap.size = g := ⟨_, rfl⟩
        have HGB := Lib.hid (show g ≠ b from by have := hh.out.ws.blk.lt; omega)
        rw [hg] at P0 ⊢
        clear hV hg c0 c1 c2 c3
        have c0 := P0.out.cell 0 rfl
        go_wp2_with fail
        refine (wiN r1 WV.out (by have := HMY.out; omega) (by have := HMY.out; omega) (by have := HLE.out; omega)).mono ?_
        rintro e w4 ⟨rfl, v4, h4, k4⟩
        have W4_ := Lib.hid h4
        have P4 := Lib.hid (P0.out.kep k4 (by rintro (h | h); exact HGB.out h; exact P0.out.not_row (by decide) WV.out.ws.row h))
        have L4 := Lib.hid (show (zs ++ enc r1).length ≤ zs.length + 10 by rw [List.length_append]; have := (enc_len r1).2; omega)
        clear h4 k4 c0
        have c1 := P4.out.cell 1 rfl
        go_wp2_with fail
        refine (wiN r2 W4_.out (by have := HMY.out; omega) (by have := HMY.out; omega) (by have := HLE.out; have := L4.out; omega)).mono ?_
        rintro e w5 ⟨rfl, v5, h5, k5⟩
        have W5_ := Lib.hid h5
        have P5 := Lib.hid (P4.out.kep k5 (by rintro (h | h); exact HGB.out h; exact P4.out.not_row (by decide) W4_.out.ws.row h))
        have L5 := Lib.hid (show (zs ++ enc r1 ++ enc r2).length ≤ zs.length + 20 by rw [List.length_append]; have := (enc_len r2).2; have := L4.out; omega)
        clear h5 k5 c1
        have c2 := P5.out.cell 2 rfl
        go_wp2_with fail
        refine (wiN r3 W5_.out (by have := HMY.out; omega) (by have := HMY.out; omega) (by have := HLE.out; have := L5.out; omega)).mono ?_
        rintro e w6 ⟨rfl, v6, h6, k6⟩
        have W6_ := Lib.hid h6
        have P6 := Lib.hid (P5.out.kep k6 (by rintro (h | h); exact HGB.out h; exact P5.out.not_row (by decide) W5_.out.ws.row h))
        have L6 := Lib.hid (show (zs ++ enc r1 ++ enc r2 ++ enc r3).length ≤ zs.length + 30 by rw [List.length_append]; have := (enc_len r3).2; have := L5.out; omega)
        clear h6 k6 c2
        have c3 := P6.out.cell 3 rfl
        go_wp2_with fail
        refine (wiN r4 W6_.out (by have := HMY.out; omega) (by have := HMY.out; omega) (by have := HLE.out; have := L6.out; omega)).mono ?_
        rintro e w7 ⟨rfl, v7, h7, k7⟩
        have W7_ := Lib.hid h7
        clear h7 k7 c3
        go_wp2_with fail
        go_roundw
        case rel => exact ⟨k + 1, v7, by go_num, by omega, Lib.hid (by rw [HNX.out]; exact W7_.out)⟩
        case measure => simp [intOf]; omega
      · obtain rfl : k = n := by omega
        have HL := Lib.hid (show encP k (l.take k) = encL l from by
          rw [List.take_of_length_le (by rw [HLN.out]; exact Nat.le_refl _)]
          unfold encP encL
          rw [HLN.out])
        rw [HL.out] at hh
        have DN := Lib.hid (wdone b 1048576 v _ b wr hh.out.ws)
        go_wp2_with fail
        refine (DN.out).mono ?_
        rintro e w8 ⟨u, rfl, hu⟩
        have HU := Lib.hid (show Fresh w w8 u (encL l) from ⟨owns_mono hu.1 (Below.size hh.out.bel), hh.out.bel.trans hu.2⟩)
        clear hu
        go_wp2_with fail
        go_ret2
        exact ⟨u, rfl, HU.out⟩
  · rw [if_neg h0]
    have hne : (e1 != 0) = true := by rw [bne_iff_ne]; exact h0
    clear h0
    go_enter Try.func26, Try.ntmps26
    go_wp2_with fail
    refine CK.out.mono ?_
    rintro e w1 ⟨rfl, kb⟩
    have K1 := Lib.hid (show Bel w w1 from kb)
    clear kb CK
    go_wp2_with fail
    go_ret2
    exact ⟨_, rfl, World.ownsRow_nil _ _ _ _, K1.out⟩
end Hp
end Go.Proofs.Ytahhnfnonekbmaa
end

section
/-
  What Bytes of the reference answers of any list of hops. Conditions: at most a million hops.
-/
namespace Go.Proofs.Ytahhnfnonekbmaa
open Go.RowKit Go.Shelf
set_option linter.unusedVariables false
set_option linter.unusedSimpArgs false
namespace Hp
open Cd

theorem take_succ' (zs : List Int) (i : Nat) (h : i < zs.length) : zs.take (i + 1) = zs.take i ++ [zs.getD i 0] := by
  rw [List.take_add_one, List.getElem?_eq_getElem h, Kk.getD_eq _ _ h]
  rfl
theorem encP_next4 {n : Int} {l : List R4} {k : Nat} {a b c d : Int} (h : l[k]? = some (a, b, c, d)) : encP n (l.take (k + 1)) = encP n (l.take k) ++ Rm.encs [a, b, c, d] := by
  rw [encP_next h]
  simp [Rm.encs, List.append_assoc]
set_option maxRecDepth 100000 in
set_option maxHeartbeats 8000000 in
theorem bytesHR (A : Option Addr) (n c : Nat) (l : List R4) (w : World) (hi : Rw.RS hR w A n c l) (hn : n ≤ 1000000) :
    Calls Try.prog 27 #[.slice A n c] w fun e w' => ∃ v, e = .returned (.tuple #[v, .int .i64 (chk l).1]) ∧ Fresh w w' v (if (chk l).1 = 0 then encL l else []) := by
  have HR := Lib.hid hi
  have HLN := Lib.hid hi.len
  have CK := Lib.hid (checkR A n c l w hi (by omega))
  obtain ⟨e1, he1⟩ : ∃ e, (chk l).1 = e := ⟨_, rfl⟩
  obtain ⟨e2, he2⟩ : ∃ e, (chk l).2 = e := ⟨_, rfl⟩
  have HE1 := Lib.hid he1
  rw [he1, he2] at CK
  rw [he1]
  clear hi he1 he2
  by_cases h0 : e1 = 0
  · subst h0
    rw [if_pos rfl]
    have HOK := Lib.hid (chk_ok.1 HE1.out)
    have eN : IntKind.u64.wrap (n : Int) = n := by rw [IntKind.wrap_u64]; omega
    go_enter Try.func27, Try.ntmps27
    go_wp2_with fail
    refine CK.out.mono ?_
    rintro e w1 ⟨rfl, kb⟩
    have K1 := Lib.hid (show Bel w w1 from kb)
    clear kb CK
    go_wp2_with fail
    refine (ref_put (n : Int) w1 (by omega) (by omega)).mono ?_
    rintro e w2 ⟨v2, rfl, hf⟩
    have H2 := Lib.hid (show w2.ownsRow w.heap.size 5 1 v2 (encP n (l.take 0)).length ((encP n (l.take 0)).map (Value.int .u8)) from by
      have e : enc (n : Int) = encP n (l.take 0) := by simp [encP, Rm.encs]
      rw [← e]
      exact owns_mono hf.1 (Below.size K1.out))
    have K2 := Lib.hid (K1.out.trans hf.2)
    clear hf
    go_wp2_with fail
    go_loopw [6, 7] (fun v i wr => ∃ k : Nat, i = .int .i64 k ∧ k ≤ n ∧ Hid (wr.ownsRow w.heap.size 5 1 v (encP n (l.take k)).length ((encP n (l.take k)).map (Value.int .u8))) ∧ Hid (Bel w wr)) (fun _ i _ => n - (intOf i).toNat)
    case atStart => exact ⟨0, rfl, Nat.zero_le _, H2, K2⟩
    case round =>
      obtain ⟨k, rfl, hk, ho, hh⟩ := hrel
      by_cases hlt : k < n
      · obtain ⟨⟨r1, r2, r3, r4⟩, hr⟩ := HR.out.get hlt
        obtain ⟨bb, q, rfl, hb, hrow⟩ := (HR.out.bel hh.out).at hlt hr
        have HROW := Lib.hid (show wr.rangeAt bb (q + k * 4) [.int .i64 r1, .int .i64 r2, .int .i64 r3, .int .i64 r4] from hrow)
        have HNX := Lib.hid (encP_next4 (n := (n : Int)) hr)
        have HMY := Lib.hid ((may_iff _ _ _ _).1 (srt_le l 0 HOK.out.2 _ (List.mem_of_getElem? hr)).1)
        have HLE := Lib.hid (show (encP n (l.take k)).length + 50 ≤ 1048576 from by
          have h1 := encP_len n (l.take k)
          have h2 : (l.take k).length ≤ 4096 := by rw [List.length_take]; have := HOK.out.1; omega
          omega)
        have hlt3 : (k : Int) < n := by omega
        have hlt0 : (0 : Int) ≤ k := by omega
        clear hr hrow
        obtain ⟨zs, hzs⟩ : ∃ zs, encP n (l.take k) = zs := ⟨_, rfl⟩
        rw [hzs] at ho HNX HLE
        clear hzs
        go_upto_region 8 with fail
        refine wp_region_held_drew (S := fun Vx => Bel wr Vx) (by kernel_rfl) (Bel.refl _).drew (fun hS0 => ?_)
        obtain ⟨w6, hw6⟩ : ∃ w6, World.drew wr = w6 := ⟨_, rfl⟩
        rw [hw6] at hS0 ⊢
        clear hw6
        refine wpAnyH_take (i := 0) (oi := { dst := some 28, op := .move (.tmp 0), type := 22, pos := "ref.go:108", after := #[], guard := none }) (v := .slice (some ⟨bb, q, none⟩) n c) rfl (by kernel_rfl) (by kernel_rfl) (by kernel_rfl) (fun _ _ _ h => h) (Or.inl ⟨by rfl, by intro w hSw; clear hSw; go_simp⟩) hS0 ?_
        try simp only [Act.put, List.setIfInBounds_toArray, List.set_cons_zero, List.set_cons_succ]
        refine wpAnyH_take (i := 1) (oi := { dst := some 29, op := .move (.tmp 7), type := 3, pos := "ref.go:108", after := #[], guard := none }) (v := .int .i64 k) rfl (by kernel_rfl) (by kernel_rfl) (by kernel_rfl) (fun _ _ _ h => h) (Or.inl ⟨by rfl, by intro w hSw; clear hSw; go_simp⟩) hS0 ?_
        try simp only [Act.put, List.setIfInBounds_toArray, List.set_cons_zero, List.set_cons_succ]
        refine wpAnyH_take (i := 2) (oi := { dst := some 30, op := .indexAddr 22 (.tmp 28) (.tmp 29), type := 0, pos := "ref.go:108", after := #[{ on := 0, ground := .data }, { on := 1, ground := .data }], guard := none }) (v := .pointer (some ⟨bb, q + k * 4, none⟩)) rfl (by kernel_rfl) (by kernel_rfl) (by kernel_rfl) (fun _ _ _ h => h) (Or.inl ⟨by rfl, by intro w hSw; clear hSw; go_simp⟩) hS0 ?_
        try simp only [Act.put, List.setIfInBounds_toArray, List.set_cons_zero, List.set_cons_succ]
        refine wpAnyH_take (i := 3) (oi := { dst := some 31, op := .fieldAddr 24 (.tmp 30) 0, type := 0, pos := "ref.go:108", after := #[{ on := 2, ground := .data }], guard := none }) (v := .pointer (some ⟨bb, q + k * 4, none⟩)) rfl (by kernel_rfl) (by kernel_rfl) (by kernel_rfl) (fun _ _ _ h => h) (Or.inl ⟨by rfl, by intro w hSw; clear hSw; go_simp⟩) hS0 ?_
        try simp only [Act.put, List.setIfInBounds_toArray, List.set_cons_zero, List.set_cons_succ]
        refine wpAnyH_take (i := 4) (oi := { dst := some 32, op := .load 3 (.tmp 31), type := 3, pos := "ref.go:108", after := #[{ on := 3, ground := .data }], guard := none }) (v := .int .i64 r1) rfl (by kernel_rfl) (by kernel_rfl) (by kernel_rfl) (fun _ _ _ h => h) (Or.inl ⟨by rfl, by intro w h; have hcell := ((rng4 (Pm.rng_bel HROW.out h)).1); clear h; go_simp⟩) hS0 ?_
        try simp only [Act.put, List.setIfInBounds_toArray, List.set_cons_zero, List.set_cons_succ]
        refine wpAnyH_take (i := 5) (oi := { dst := some 33, op := .move (.tmp 0), type := 22, pos := "ref.go:108", after := #[], guard := none }) (v := .slice (some ⟨bb, q, none⟩) n c) rfl (by kernel_rfl) (by kernel_rfl) (by kernel_rfl) (fun _ _ _ h => h) (Or.inl ⟨by rfl, by intro w hSw; clear hSw; go_simp⟩) hS0 ?_
        try simp only [Act.put, List.setIfInBounds_toArray, List.set_cons_zero, List.set_cons_succ]
        refine wpAnyH_take (i := 6) (oi := { dst := some 34, op := .move (.tmp 7), type := 3, pos := "ref.go:108", after := #[], guard := none }) (v := .int .i64 k) rfl (by kernel_rfl) (by kernel_rfl) (by kernel_rfl) (fun _ _ _ h => h) (Or.inl ⟨by rfl, by intro w hSw; clear hSw; go_simp⟩) hS0 ?_
        try simp only [Act.put, List.setIfInBounds_toArray, List.set_cons_zero, List.set_cons_succ]
        refine wpAnyH_take (i := 7) (oi := { dst := some 35, op := .indexAddr 22 (.tmp 33) (.tmp 34), type := 0, pos := "ref.go:108", after := #[{ on := 5, ground := .data }, { on := 6, ground := .data }], guard := none }) (v := .pointer (some ⟨bb, q + k * 4, none⟩)) rfl (by kernel_rfl) (by kernel_rfl) (by kernel_rfl) (fun _ _ _ h => h) (Or.inl ⟨by rfl, by intro w hSw; clear hSw; go_simp⟩) hS0 ?_
        try simp only [Act.put, List.setIfInBounds_toArray, List.set_cons_zero, List.set_cons_succ]
        refine wpAnyH_take (i := 8) (oi := { dst := some 36, op := .fieldAddr 24 (.tmp 35) 1, type := 0, pos := "ref.go:108", after := #[{ on := 7, ground := .data }], guard := none }) (v := .pointer (some ⟨bb, q + k * 4 + 1, none⟩)) rfl (by kernel_rfl) (by kernel_rfl) (by kernel_rfl) (fun _ _ _ h => h) (Or.inl ⟨by rfl, by intro w hSw; clear hSw; go_simp⟩) hS0 ?_
        try simp only [Act.put, List.setIfInBounds_toArray, List.set_cons_zero, List.set_cons_succ]
        refine wpAnyH_take (i := 9) (oi := { dst := some 37, op := .load 3 (.tmp 36), type := 3, pos := "ref.go:108", after := #[{ on := 8, ground := .data }], guard := none }) (v := .int .i64 r2) rfl (by kernel_rfl) (by kernel_rfl) (by kernel_rfl) (fun _ _ _ h => h) (Or.inl ⟨by rfl, by intro w h; have hcell := ((rng4 (Pm.rng_bel HROW.out h)).2.1); clear h; go_simp⟩) hS0 ?_
        try simp only [Act.put, List.setIfInBounds_toArray, List.set_cons_zero, List.set_cons_succ]
        refine wpAnyH_take (i := 10) (oi := { dst := some 38, op := .move (.tmp 0), type := 22, pos := "ref.go:108", after := #[], guard := none }) (v := .slice (some ⟨bb, q, none⟩) n c) rfl (by kernel_rfl) (by kernel_rfl) (by kernel_rfl) (fun _ _ _ h => h) (Or.inl ⟨by rfl, by intro w hSw; clear hSw; go_simp⟩) hS0 ?_
        try simp only [Act.put, List.setIfInBounds_toArray, List.set_cons_zero, List.set_cons_succ]
        refine wpAnyH_take (i := 11) (oi := { dst := some 39, op := .move (.tmp 7), type := 3, pos := "ref.go:108", after := #[], guard := none }) (v := .int .i64 k) rfl (by kernel_rfl) (by kernel_rfl) (by kernel_rfl) (fun _ _ _ h => h) (Or.inl ⟨by rfl, by intro w hSw; clear hSw; go_simp⟩) hS0 ?_
        try simp only [Act.put, List.setIfInBounds_toArray, List.set_cons_zero, List.set_cons_succ]
        refine wpAnyH_take (i := 12) (oi := { dst := some 40, op := .indexAddr 22 (.tmp 38) (.tmp 39), type := 0, pos := "ref.go:108", after := #[{ on := 10, ground := .data }, { on := 11, ground := .data }], guard := none }) (v := .pointer (some ⟨bb, q + k * 4, none⟩)) rfl (by kernel_rfl) (by kernel_rfl) (by kernel_rfl) (fun _ _ _ h => h) (Or.inl ⟨by rfl, by intro w hSw; clear hSw; go_simp⟩) hS0 ?_
        try simp only [Act.put, List.setIfInBounds_toArray, List.set_cons_zero, List.set_cons_succ]
        refine wpAnyH_take (i := 13) (oi := { dst := some 41, op := .fieldAddr 24 (.tmp 40) 2, type := 0, pos := "ref.go:108", after := #[{ on := 12, ground := .data }], guard := none }) (v := .pointer (some ⟨bb, q + k * 4 + 2, none⟩)) rfl (by kernel_rfl) (by kernel_rfl) (by kernel_rfl) (fun _ _ _ h => h) (Or.inl ⟨by rfl, by intro w hSw; clear hSw; go_simp⟩) hS0 ?_
        try simp only [Act.put, List.setIfInBounds_toArray, List.set_cons_zero, List.set_cons_succ]
        refine wpAnyH_take (i := 14) (oi := { dst := some 42, op := .load 3 (.tmp 41), type := 3, pos := "ref.go:108", after := #[{ on := 13, ground := .data }], guard := none }) (v := .int .i64 r3) rfl (by kernel_rfl) (by kernel_rfl) (by kernel_rfl) (fun _ _ _ h => h) (Or.inl ⟨by rfl, by intro w h; have hcell := ((rng4 (Pm.rng_bel HROW.out h)).2.2.1); clear h; go_simp⟩) hS0 ?_
        try simp only [Act.put, List.setIfInBounds_toArray, List.set_cons_zero, List.set_cons_succ]
        refine wpAnyH_take (i := 15) (oi := { dst := some 43, op := .move (.tmp 0), type := 22, pos := "ref.go:108", after := #[], guard := none }) (v := .slice (some ⟨bb, q, none⟩) n c) rfl (by kernel_rfl) (by kernel_rfl) (by kernel_rfl) (fun _ _ _ h => h) (Or.inl ⟨by rfl, by intro w hSw; clear hSw; go_simp⟩) hS0 ?_
        try simp only [Act.put, List.setIfInBounds_toArray, List.set_cons_zero, List.set_cons_succ]
        refine wpAnyH_take (i := 16) (oi := { dst := some 44, op := .move (.tmp 7), type := 3, pos := "ref.go:108", after := #[], guard := none }) (v := .int .i64 k) rfl (by kernel_rfl) (by kernel_rfl) (by kernel_rfl) (fun _ _ _ h => h) (Or.inl ⟨by rfl, by intro w hSw; clear hSw; go_simp⟩) hS0 ?_
        try simp only [Act.put, List.setIfInBounds_toArray, List.set_cons_zero, List.set_cons_succ]
        refine wpAnyH_take (i := 17) (oi := { dst := some 45, op := .indexAddr 22 (.tmp 43) (.tmp 44), type := 0, pos := "ref.go:108", after := #[{ on := 15, ground := .data }, { on := 16, ground := .data }], guard := none }) (v := .pointer (some ⟨bb, q + k * 4, none⟩)) rfl (by kernel_rfl) (by kernel_rfl) (by kernel_rfl) (fun _ _ _ h => h) (Or.inl ⟨by rfl, by intro w hSw; clear hSw; go_simp⟩) hS0 ?_
        try simp only [Act.put, List.setIfInBounds_toArray, List.set_cons_zero, List.set_cons_succ]
        refine wpAnyH_take (i := 18) (oi := { dst := some 46, op := .fieldAddr 24 (.tmp 45) 3, type := 0, pos := "ref.go:108", after := #[{ on := 17, ground := .data }], guard := none }) (v := .pointer (some ⟨bb, q + k * 4 + 3, none⟩)) rfl (by kernel_rfl) (by kernel_rfl) (by kernel_rfl) (fun _ _ _ h => h) (Or.inl ⟨by rfl, by intro w hSw; clear hSw; go_simp⟩) hS0 ?_
        try simp only [Act.put, List.setIfInBounds_toArray, List.set_cons_zero, List.set_cons_succ]
        refine wpAnyH_take (i := 19) (oi := { dst := some 47, op := .load 3 (.tmp 46), type := 3, pos := "ref.go:108", after := #[{ on := 18, ground := .data }], guard := none }) (v := .int .i64 r4) rfl (by kernel_rfl) (by kernel_rfl) (by kernel_rfl) (fun _ _ _ h => h) (Or.inl ⟨by rfl, by intro w h; have hcell := ((rng4 (Pm.rng_bel HROW.out h)).2.2.2); clear h; go_simp⟩) hS0 ?_
        try simp only [Act.put, List.setIfInBounds_toArray, List.set_cons_zero, List.set_cons_succ]
        refine wpAnyH_ready (rs := [20]) (by kernel_rfl) (by simp) ?_
        refine AllReadyH.cons (o := { dst := some 48, op := .buildSlice 57 4 #[(0, .tmp 32), (1, .tmp 37), (2, .tmp 42), (3, .tmp 47)], type := 57, pos := "ref.go:108", after := #[{ on := 4, ground := .data }, { on := 9, ground := .data }, { on := 14, ground := .data }, { on := 19, ground := .data }], guard := none }) rfl (fun K hK => ?_) AllReadyH.nil
        go_simp
        refine hK.out _ _ (hS0.alloc _) (fun hS1 => ?_)
        clear hK K
        try simp only [Act.put, List.setIfInBounds_toArray, List.set_cons_zero, List.set_cons_succ]
        have gxb := Blk.new w6 #[.int .i64 r1, .int .i64 r2, .int .i64 r3, .int .i64 r4] 3
        have gxl := Lib.hid (Below.size hS0)
        generalize hvq : World.alloc w6 (Obj.cells #[.int .i64 r1, .int .i64 r2, .int .i64 r3, .int .i64 r4] 3) = v1 at gxb hS1 ⊢
        have gxk : Bel w6 v1 := by rw [← hvq]; exact (Bel.refl _).alloc _
        clear hvq
        obtain ⟨gx, hgq⟩ : ∃ g, (World.heap w6).size = g := ⟨_, rfl⟩
        rw [hgq] at gxb gxl ⊢
        clear hgq
        have gxb := Lib.hid gxb
        refine wpAnyH_take (i := 21) (oi := { dst := some 8, op := .assign (.tmp 48), type := 57, pos := "ref.go:108", after := #[{ on := 20, ground := .data }, { on := 0, ground := .phase }, { on := 1, ground := .phase }, { on := 2, ground := .phase }, { on := 3, ground := .phase }, { on := 4, ground := .phase }, { on := 5, ground := .phase }, { on := 6, ground := .phase }, { on := 7, ground := .phase }, { on := 8, ground := .phase }, { on := 9, ground := .phase }, { on := 10, ground := .phase }, { on := 11, ground := .phase }, { on := 12, ground := .phase }, { on := 13, ground := .phase }, { on := 14, ground := .phase }, { on := 15, ground := .phase }, { on := 16, ground := .phase }, { on := 17, ground := .phase }, { on := 18, ground := .phase }, { on := 19, ground := .phase }, { on := 20, ground := .phase }], guard := none }) (v := .slice (some ⟨gx, 0, none⟩) 4 4) rfl (by kernel_rfl) (by kernel_rfl) (by kernel_rfl) (fun _ _ _ h => h) (Or.inl ⟨by rfl, by intro w hSw; clear hSw; go_simp⟩) hS1 ?_
        try simp only [Act.put, List.setIfInBounds_toArray, List.set_cons_zero, List.set_cons_succ]
        refine wpAnyH_done (by kernel_rfl) ?_ _
        have K5 := Lib.hid (show Bel w v1 from hh.out.trans hS1)
        have O5 := Lib.hid (owns_bel ho.out (show Bel wr v1 from hS1))
        obtain ⟨wb, hwb⟩ : ∃ V, V = v1 := ⟨_, rfl⟩
        subst hwb
        obtain ⟨L, hL⟩ : ∃ L, [r1, r2, r3, r4] = L := ⟨_, rfl⟩
        have HL4 := Lib.hid (show L.length = 4 by rw [← hL]; rfl)
        have HBY := Lib.hid (show ∀ i, i < 4 → 0 ≤ L.getD i 0 ∧ L.getD i 0 ≤ 4294967296 by
          rw [← hL]
          have := HMY.out
          intro i hi
          match i, hi with
          | 0, _ => show 0 ≤ r1 ∧ r1 ≤ _; omega
          | 1, _ => show 0 ≤ r2 ∧ r2 ≤ _; omega
          | 2, _ => show 0 ≤ r3 ∧ r3 ≤ _; omega
          | 3, _ => show 0 ≤ r4 ∧ r4 ≤ _; omega)
        have HLC := Lib.hid (show ∀ i, i < 4 → (#[.int .i64 r1, .int .i64 r2, .int .i64 r3, .int .i64 r4] : Array Value)[i]? = some (.int .i64 (L.getD i 0)) by
          rw [← hL]
          intro i hi
          match i, hi with
          | 0, _ => rfl
          | 1, _ => rfl
          | 2, _ => rfl
          | 3, _ => rfl)
        rw [hL] at HNX
        clear hL
        go_wp2_with fail
        go_loopw [6, 9] (fun v i wr2 => ∃ j : Nat, i = .int .i64 j ∧ j ≤ 4 ∧ Hid (wr2.ownsRow w.heap.size 5 1 v (zs ++ Rm.encs (L.take j)).length ((zs ++ Rm.encs (L.take j)).map (Value.int .u8))) ∧ Hid (Bel w wr2) ∧ Hid (Blk wr2 gx #[.int .i64 r1, .int .i64 r2, .int .i64 r3, .int .i64 r4] 3)) (fun _ i _ => 4 - (intOf i).toNat)
        case atStart => exact ⟨0, rfl, by omega, Lib.hid (by simpa [Rm.encs] using O5.out), K5, gxb⟩
        case round =>
          obtain ⟨j, rfl, hj, ho2, hh2, hgx⟩ := hrel
          by_cases hlt2 : j < 4
          · have hlt4 : (j : Int) < 4 := by omega
            have hj0 : (0 : Int) ≤ j := by omega
            obtain ⟨y0, y1⟩ := HBY.out j hlt2
            have cy := hgx.out.cell j (HLC.out j hlt2)
            have HT := take_succ' L j (by rw [HL4.out]; exact hlt2)
            have hbl := Rm.encs_len (L.take j)
            rw [show (L.take j).length = j by rw [List.length_take, HL4.out]; omega] at hbl
            obtain ⟨y, hy⟩ : ∃ y, L.getD j 0 = y := ⟨_, rfl⟩
            rw [hy] at y0 y1 cy HT
            have e5 : IntKind.u64.wrap y = y := by rw [IntKind.wrap_u64]; omega
            have PX := Lib.hid (fun V => ref_put y V y0 (by omega))
            have hbx := (enc_len y).2
            obtain ⟨zx, hzx⟩ : ∃ zx, enc y = zx := ⟨_, rfl⟩
            obtain ⟨O, hO⟩ : ∃ O, zs ++ Rm.encs (L.take j) = O := ⟨_, rfl⟩
            have HOX := Lib.hid (show zs ++ Rm.encs (L.take (j + 1)) = O ++ zx by rw [HT, Rm.encs_app, ← List.append_assoc, hO, ← hzx]; simp [Rm.encs])
            have hOL : O.length ≤ 2000000 := by rw [← hO, List.length_append]; have := HLE.out; omega
            rw [hO] at ho2
            rw [hzx] at PX hbx
            obtain ⟨ol, hol⟩ : ∃ ol, O.length = ol := ⟨_, rfl⟩
            obtain ⟨zl, hzl⟩ : ∃ zl, zx.length = zl := ⟨_, rfl⟩
            rw [hol] at ho2 hOL
            rw [hzl] at hbx
            have HOLE := Lib.hid hol
            have HZLE := Lib.hid hzl
            clear hy hO hzx hol hzl HT y0 y1
            go_wp2_with fail
            refine (PX.out _).mono ?_
            rintro e w5 ⟨v5, rfl, hf5⟩
            obtain ⟨A5, c5, rfl, hsl⟩ := (show Fresh _ w5 v5 zx from hf5).sl
            have K6 := Lib.hid (hh2.out.trans hf5.2)
            have O6 := Lib.hid (owns_bel ho2.out hf5.2)
            have SL5 := Lib.hid hsl
            rw [HZLE.out] at SL5
            rw [HZLE.out]
            have G6 := Lib.hid (hgx.out.bel hf5.2)
            have BS := Lib.hid (Below.size K6.out)
            have hbnd : ol + zl ≤ 1000000000000 := by omega
            clear hf5 hsl PX cy
            go_wp2_with (at_builtin; refine wpList_append_sl rfl _ _ rfl w.heap.size _ ol _ rfl O6.out A5 zl c5 zx rfl SL5.out hbnd BS.out ?_; intro v' w6 hown' hgrow)
            have K7 := Lib.hid (show Bel w w6 from K6.out.grown hgrow (fun i hi => (O6.out.lt i hi).1))
            have G7 := Lib.hid (show Blk w6 gx #[.int .i64 r1, .int .i64 r2, .int .i64 r3, .int .i64 r4] 3 from (hgrow.block gx G6.out.lt (fun e => G6.out.not_row (by decide) O6.out e.symm)).trans G6.out)
            have O7 := Lib.hid (show w6.ownsRow w.heap.size 5 1 v' (zs ++ Rm.encs (L.take (j + 1))).length ((zs ++ Rm.encs (L.take (j + 1))).map (Value.int .u8)) from by
              rw [HOX.out, List.map_append, List.length_append, HOLE.out, HZLE.out]
              exact hown')
            clear hown' hgrow
            go_wp2_with fail
            go_roundw
            case rel => exact ⟨j + 1, by go_num, by omega, O7, K7, G7⟩
            case measure => simp [intOf]; omega
          · obtain rfl : j = 4 := by omega
            have HLL := Lib.hid (show L.take 4 = L from List.take_of_length_le (by rw [HL4.out]; omega))
            rw [HLL.out] at ho2
            go_wp2_with fail
            go_roundw
            case rel => exact ⟨k + 1, by go_num, by omega, Lib.hid (by rw [HNX.out]; exact ho2.out), hh2⟩
            case measure => simp [intOf]; omega
      · obtain rfl : k = n := by omega
        have HL := Lib.hid (show encP k (l.take k) = encL l from by
          rw [List.take_of_length_le (by rw [HLN.out]; exact Nat.le_refl _)]
          unfold encP encL
          rw [HLN.out])
        rw [HL.out] at ho
        have HF := Lib.hid (show Fresh w wr _ (encL l) from ⟨ho.out, hh.out⟩)
        go_wp2_with fail
        go_ret2
        exact ⟨_, rfl, HF.out⟩
  · rw [if_neg h0]
    have hne : (e1 != 0) = true := by rw [bne_iff_ne]; exact h0
    clear h0
    go_enter Try.func27, Try.ntmps27
    go_wp2_with fail
    refine CK.out.mono ?_
    rintro e w1 ⟨rfl, kb⟩
    have K1 := Lib.hid (show Bel w w1 from kb)
    clear kb CK
    go_wp2_with fail
    go_ret2
    exact ⟨_, rfl, World.ownsRow_nil _ _ _ _, K1.out⟩
end Hp
end Go.Proofs.Ytahhnfnonekbmaa
end
