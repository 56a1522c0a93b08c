/-
  Texts of this claim, put together: Ro18, Ro19, RoM3. What each one says, and under which conditions, stands ahead of it.
-/
import Derived.Test.YtpfdakkameifkaaRF
import Derived.Test.YtpfdakkameifkaaGWriter3
import Derived.Test.YtpfdakkameifkaaGWref
import Derived.Test.YtpfdakkameifkaaGRm

section
/-
  What roster.Bytes and the reference's Bytes answer of any list of validators. Conditions: at most a million validators; the numbers are ints and words.
-/
namespace Go.Proofs.Ytpfdakkameifkaa
open Go.RowKit Go.Shelf
set_option linter.unusedVariables false
set_option linter.unusedSimpArgs false
namespace Ro
open Cd

/-- The flags as a number. -/
def fl (a p : Bool) : Int := (if a = true then 1 else 0) + (if p = true then 2 else 0)
theorem fl_le (a p : Bool) : 0 ≤ fl a p ∧ fl a p ≤ 3 := by cases a <;> cases p <;> decide
def nums : V6 → List Int
  | (o, m, s, u, a, p) => [o, m, s, u, fl a p]
/-- A list's bytes. -/
def encL (l : List V6) : List Int := Rm.encs ((l.length : Int) :: l.flatMap nums)
def encP (n : Int) (l : List V6) : List Int := Rm.encs (n :: l.flatMap nums)
theorem encP_next {n : Int} {l : List V6} {k : Nat} {o m s u : Int} {a p : Bool} (h : l[k]? = some (o, m, s, u, a, p)) : encP n (l.take (k + 1)) = encP n (l.take k) ++ enc o ++ enc m ++ enc s ++ enc u ++ enc (fl a p) := by
  unfold encP
  rw [List.take_add_one, h, List.flatMap_append, show n :: ((l.take k).flatMap nums ++ (some (o, m, s, u, a, p)).toList.flatMap nums) = (n :: (l.take k).flatMap nums) ++ [o, m, s, u, fl a p] from rfl, Rm.encs_app]
  simp [Rm.encs, List.append_assoc]
theorem encP_len (n : Int) (l : List V6) : (encP n l).length ≤ 10 + 50 * l.length := by
  have h1 := Rm.encs_len (n :: l.flatMap nums)
  have h2 : ∀ l : List V6, (l.flatMap nums).length = 5 * l.length := by
    intro l
    induction l with
    | nil => rfl
    | cons r l ih =>
      obtain ⟨a, b, c, d, e, f⟩ := r
      rw [List.flatMap_cons, List.length_append, ih, List.length_cons]
      simp [nums]; omega
  rw [List.length_cons, h2] at h1
  unfold encP
  omega
theorem stp_ok {L : Int} {out more : List Int} (h : ((out ++ more).length : Int) ≤ L) : stp L (out, 0) more = (out ++ more, 0) := by unfold stp; rw [if_neg (by simp), if_pos h]
theorem stpR_ok {L : Int} {out more : List Int} (h : ((out ++ more).length : Int) ≤ L) : stpR L (out, 0) more = (out ++ more, 0) := by unfold stpR; rw [if_neg (by simp), if_pos h]
/-- The writer between two validators. -/
structure Wi (w wr : World) (b : Nat) (v : Value) (zs : List Int) : Prop where
  ws : WS wr b 1048576 v 0 zs b
  bel : Bel w wr
  ge : w.heap.size ≤ b
theorem Wi.next {w wr wn : World} {b : Nat} {v v' : Value} {zs more : List Int} (h : Wi w wr b v zs) (h1 : WS wn b 1048576 v' 0 (zs ++ more) b) (hk : Kep (Own2 b v) wr wn) : Wi w wn b v' (zs ++ more) :=
  ⟨h1, Kep.bel h.bel hk (fun i hi => by
    rcases hi with rfl | hi
    · exact h.ge
    · exact Nat.le_trans h.ge (h.ws.row.lt i hi).1), h.ge⟩
theorem Wi.bel_ {w wr wn : World} {b : Nat} {v : Value} {zs : List Int} (h : Wi w wr b v zs) (hb : Bel wr wn) : Wi w wn b v zs := ⟨h.ws.bel hb, h.bel.trans hb, h.ge⟩
theorem wiN {w wr : World} {b : Nat} {v : Value} {zs : List Int} (x : Int) (h : Wi w wr b v zs) (x0 : 0 ≤ x) (x1 : x ≤ 9223372036854775807) (hf : zs.length + 10 ≤ 1048576) :
    Calls Try.prog 71 #[.pointer (some ⟨b, 0, none⟩), .int .i64 x] wr fun e w' => e = .returned (.int .i64 0) ∧ ∃ v', Wi w w' b v' (zs ++ enc x) ∧ Kep (Own2 b v) wr w' := by
  have hl := (enc_len x).2
  have e1 : stp 1048576 (zs, 0) (enc x) = (zs ++ enc x, 0) := stp_ok (by rw [List.length_append]; omega)
  have := nAny b 1048576 v (zs, 0) b x wr h.ws x0 x1
  rw [e1] at this
  refine this.mono ?_
  rintro e w' ⟨he, v', h1, _, h3⟩
  exact ⟨he, v', h.next h1 h3, h3⟩
theorem wiU {w wr : World} {b : Nat} {v : Value} {zs : List Int} (x : Int) (h : Wi w wr b v zs) (x0 : 0 ≤ x) (x1 : x ≤ 18446744073709551615) (hf : zs.length + 10 ≤ 1048576) :
    Calls Try.prog 72 #[.pointer (some ⟨b, 0, none⟩), .int .u64 x] wr fun e w' => e = .returned (.int .i64 0) ∧ ∃ v', Wi w w' b v' (zs ++ enc x) ∧ Kep (Own2 b v) wr w' := by
  have hl := (enc_len x).2
  refine (wU3 b 1048576 v zs b x wr h.ws x0 x1).mono ?_
  rintro e w' ⟨r, rfl, ha, hk⟩
  rcases ha with ⟨rfl, h1, v', h2, h3⟩ | ⟨rfl, h1, h2⟩
  · exact ⟨rfl, v', h.next h2 hk, hk⟩
  · rw [List.length_append] at h1; omega
set_option maxHeartbeats 1000000 in
theorem flags (x1 x2 x3 x4 : Int) (x5 x6 : Bool) (w : World) : Calls Try.prog 73 #[.agg #[.int .i64 x1, .int .u64 x2, .int .i64 x3, .int .i64 x4, .bool x5, .bool x6]] w fun e w' => e = .returned (.int .i64 (fl x5 x6)) ∧ Bel w w' := by
  cases x5 <;> cases x6 <;>
  · go_enter Try.func73, Try.ntmps73
    go_wp2_with fail
    go_ret
    exact ⟨rfl, (Bel.refl w).alloc _⟩
theorem bit (a : Bool) (n : Int) (w : World) : Calls Try.prog 78 #[.bool a, .int .i64 n] w fun e w' => e = .returned (.int .i64 (if a = true then n else 0)) ∧ w = w' := by
  cases a
  · go_enter Try.func78, Try.ntmps78
    go_wp2_with fail
    go_ret
    exact ⟨rfl, rfl⟩
  · go_enter Try.func78, Try.ntmps78
    go_wp2_with fail
    go_ret
    exact ⟨rfl, rfl⟩
/-- What Bytes tells. -/
def ByR (w w' : World) (l : List V6) (e : Ending) : Prop :=
  ∃ v, e = .returned (.tuple #[v, .int .i64 (chk l).1]) ∧ Fresh w w' v (if (chk l).1 = 0 then encL l else [])
set_option maxRecDepth 100000 in
set_option maxHeartbeats 16000000 in
theorem bytes_ (A : Option Addr) (n c : Nat) (l : List V6) (w : World) (hi : Rw.RS vR w A n c l) (hn : n ≤ 1000000) (hw : ∀ r ∈ l, WV r) :
    Calls Try.prog 38 #[.slice A n c] w fun e w' => ByR w w' l e := by
  have HR := Lib.hid hi
  have HLN := Lib.hid hi.len
  have HW := Lib.hid hw
  have CK := Lib.hid (check A n c l w hi (by omega) (fun r hr => (hw r hr).i))
  unfold ByR
  obtain ⟨e1, he1⟩ : ∃ e, (chk l).1 = e := ⟨_, rfl⟩
  obtain ⟨e2, he2⟩ : ∃ e, (chk l).2 = e := ⟨_, rfl⟩
  have HE1 := Lib.hid he1
  rw [he1, he2] at CK
  rw [he1]
  clear hi he1 he2 hw
  by_cases h0 : e1 = 0
  · subst h0
    rw [if_pos rfl]
    have HOK := Lib.hid (ok_iff.1 HE1.out)
    go_enter Try.func38, Try.ntmps38
    go_wp2_with fail
    refine CK.out.mono ?_
    rintro e w1 ⟨rfl, kb⟩
    have K1 := Lib.hid (show Bel w w1 from kb)
    clear kb CK
    go_wp2_with fail
    refine (newWriter 1048576 w1 (by decide) (by decide)).mono ?_
    rintro e w2 ⟨rfl, hws, k1⟩
    have HGE := Lib.hid (Below.size K1.out)
    obtain ⟨b, hb⟩ : ∃ b, w1.heap.size = b := ⟨_, rfl⟩
    rw [hb] at hws HGE ⊢
    have W2 := Lib.hid (show Wi w w2 b (.slice none 0 0) [] from ⟨hws, K1.out.trans k1, HGE.out⟩)
    clear hb hws k1
    have N0 := Lib.hid (wiN (n : Int) W2.out (by omega) (by omega) (by decide))
    go_wp2_with fail
    refine N0.out.mono ?_
    rintro e w3 ⟨rfl, v3, h3, _⟩
    have W3_ := Lib.hid (show Wi w w3 b v3 (encP n (l.take 0)) from by
      have : ([] : List Int) ++ enc (n : Int) = encP n (l.take 0) := by simp [encP, Rm.encs]
      rw [← this]; exact h3)
    clear h3 N0 W2
    go_wp2_with fail
    go_loopw [31] (fun s31 wr => ∃ (k : Nat) (v : Value), s31 = .int .i64 k ∧ k ≤ n ∧ Hid (Wi w wr b v (encP n (l.take k)))) (fun s31 _ => n - (intOf s31).toNat)
    case atStart => exact ⟨0, v3, rfl, Nat.zero_le _, W3_⟩
    case round =>
      obtain ⟨k, v, rfl, hk, hh⟩ := hrel
      by_cases hlt : k < n
      · obtain ⟨⟨r1, r2, r3, r4, r5, r6⟩, hr⟩ := HR.out.get hlt
        obtain ⟨bb, q, rfl, hb, hrow⟩ := (HR.out.bel hh.out.bel).at hlt hr
        have HNX := Lib.hid (encP_next (n := (n : Int)) hr)
        have HGD := Lib.hid (HOK.out.2 k _ hr).1
        have HWV := Lib.hid (HW.out _ (List.mem_of_getElem? hr))
        have HLE := Lib.hid (show (encP n (l.take k)).length + 60 ≤ 1048576 from by
          have h1 := encP_len n (l.take k)
          have h2 : (l.take k).length ≤ 32 := by rw [List.length_take]; have := HOK.out.1; omega
          omega)
        have HRG := Lib.hid (show (0 ≤ r1 ∧ r1 < 64) ∧ (0 ≤ r2 ∧ r2 ≤ 18446744073709551615) ∧ (1 ≤ r3 ∧ r3 ≤ 4) ∧ (0 ≤ r4 ∧ r4 ≤ 4296015872) from ⟨⟨HGD.out.1, HGD.out.2.1⟩, HWV.out.2.1, ⟨HGD.out.2.2.2.1, HGD.out.2.2.2.2.1⟩, ⟨HGD.out.2.2.2.2.2.1, HGD.out.2.2.2.2.2.2.1⟩⟩)
        have hlt3 : (k : Int) < n := by omega
        have hlt0 : (0 : Int) ≤ k := by omega
        have HBB := Lib.hid (show ¬ Own2 b v bb from by
          intro hi
          obtain ⟨b0, o0, e0, hb0, _⟩ := HR.out.at hlt hr
          injection e0 with e0
          injection e0 with e0 _
          rcases hi with hi | hi
          · have := hh.out.ge; omega
          · have := (hh.out.ws.row.lt bb hi).1; have := hh.out.ge; omega)
        have HROW := Lib.hid (show wr.rangeAt bb (q + k * 6) [.int .i64 r1, .int .u64 r2, .int .i64 r3, .int .i64 r4, .bool r5, .bool r6] from hrow)
        have HROWW := Lib.hid (show w.rangeAt bb (q + k * 6) [.int .i64 r1, .int .u64 r2, .int .i64 r3, .int .i64 r4, .bool r5, .bool r6] from by
          obtain ⟨b0, o0, e0, _, hc0⟩ := HR.out.at hlt hr
          injection e0 with e0
          injection e0 with e1 e2
          subst e1 e2
          exact hc0)
        obtain ⟨zs, hzs⟩ : ∃ zs, encP n (l.take k) = zs := ⟨_, rfl⟩
        rw [hzs] at hh HNX HLE
        clear hzs hr hrow
        obtain ⟨c0, c1, c2, c3, c4, c5⟩ := rng6 HROW.out
        go_upto_region 11 with fail
        have P0 := Lib.hid (Blk.new wr #[.int .i64 r1, .int .u64 r2, .int .i64 r3, .int .i64 r4, .bool r5, .bool r6] 66)
        obtain ⟨V, hV⟩ : ∃ V, wr.alloc (.cells #[.int .i64 r1, .int .u64 r2, .int .i64 r3, .int .i64 r4, .bool r5, .bool r6] 66) = V := ⟨_, rfl⟩
        have W4_ := Lib.hid (show Wi w V b v zs by rw [← hV]; exact hh.out.bel_ ((Bel.refl _).alloc _))
        rw [hV] at P0 ⊢
        obtain ⟨g, hg⟩ : ∃ g, wr.heap.size = g := ⟨_, rfl⟩
        have HGB := Lib.hid (show g ≠ b from by have := hh.out.ws.blk.lt; omega)
        rw [hg] at P0 ⊢
        clear hV hg c0 c1 c2 c3 c4 c5 HROW HBB
        have P4 := P0
        have L4 := Lib.hid (show zs.length ≤ zs.length + 0 by omega)
        clear P0
        have c0 := P4.out.cell 0 rfl
        go_wp2_with fail
        refine (wiN r1 W4_.out (by have := HRG.out; omega) (by have := HRG.out; omega) (by have := HLE.out; have := L4.out; omega)).mono ?_
        rintro e w5 ⟨rfl, v5, h5, k5⟩
        have W5_ := Lib.hid h5
        have P5 := Lib.hid (P4.out.kep k5 (by rintro (h | h); exact HGB.out h; exact P4.out.not_row (by decide) W4_.out.ws.row h))
        have L5 := Lib.hid (show (zs ++ enc r1).length ≤ zs.length + 10 by rw [List.length_append]; have := (enc_len r1).2; have := L4.out; omega)
        clear h5 k5 c0
        have c1 := P5.out.cell 1 rfl
        go_wp2_with fail
        refine (wiU r2 W5_.out (by have := HRG.out; omega) (by have := HRG.out; omega) (by have := HLE.out; have := L5.out; omega)).mono ?_
        rintro e w6 ⟨rfl, v6, h6, k6⟩
        have W6_ := Lib.hid h6
        have P6 := Lib.hid (P5.out.kep k6 (by rintro (h | h); exact HGB.out h; exact P5.out.not_row (by decide) W5_.out.ws.row h))
        have L6 := Lib.hid (show (zs ++ enc r1 ++ enc r2).length ≤ zs.length + 20 by rw [List.length_append]; have := (enc_len r2).2; have := L5.out; omega)
        clear h6 k6 c1
        have c2 := P6.out.cell 2 rfl
        go_wp2_with fail
        refine (wiN r3 W6_.out (by have := HRG.out; omega) (by have := HRG.out; omega) (by have := HLE.out; have := L6.out; omega)).mono ?_
        rintro e w7 ⟨rfl, v7, h7, k7⟩
        have W7_ := Lib.hid h7
        have P7 := Lib.hid (P6.out.kep k7 (by rintro (h | h); exact HGB.out h; exact P6.out.not_row (by decide) W6_.out.ws.row h))
        have L7 := Lib.hid (show (zs ++ enc r1 ++ enc r2 ++ enc r3).length ≤ zs.length + 30 by rw [List.length_append]; have := (enc_len r3).2; have := L6.out; omega)
        clear h7 k7 c2
        have c3 := P7.out.cell 3 rfl
        go_wp2_with fail
        refine (wiN r4 W7_.out (by have := HRG.out; omega) (by have := HRG.out; omega) (by have := HLE.out; have := L7.out; omega)).mono ?_
        rintro e w8 ⟨rfl, v8, h8, k8⟩
        have W8_ := Lib.hid h8
        have P8 := Lib.hid (P7.out.kep k8 (by rintro (h | h); exact HGB.out h; exact P7.out.not_row (by decide) W7_.out.ws.row h))
        have L8 := Lib.hid (show (zs ++ enc r1 ++ enc r2 ++ enc r3 ++ enc r4).length ≤ zs.length + 40 by rw [List.length_append]; have := (enc_len r4).2; have := L7.out; omega)
        clear h8 k8 c3
        have c0 := P8.out.cell 0 rfl
        have c1 := P8.out.cell 1 rfl
        have c2 := P8.out.cell 2 rfl
        have c3 := P8.out.cell 3 rfl
        have c4 := P8.out.cell 4 rfl
        have c5 := P8.out.cell 5 rfl
        have FL := Lib.hid (fun V => flags r1 r2 r3 r4 r5 r6 V)
        go_wp2_with fail
        refine (FL.out _).mono ?_
        rintro e w8f ⟨rfl, kf⟩
        have W8f_ := Lib.hid (W8_.out.bel_ kf)
        clear kf FL c0 c1 c2 c3 c4 c5
        go_wp2_with fail
        refine (wiN (fl r5 r6) W8f_.out (fl_le _ _).1 (by have := (fl_le r5 r6).2; omega) (by have := HLE.out; have := L8.out; omega)).mono ?_
        rintro e w9 ⟨rfl, v9, h9, k9⟩
        have W9_ := Lib.hid h9
        clear h9 k9
        go_wp2_with fail
        go_roundw
        case rel => exact ⟨k + 1, v9, by go_num, by omega, Lib.hid (by rw [HNX.out]; exact W9_.out)⟩
        case measure => simp [intOf]; omega
      · obtain rfl : k = n := by omega
        have HL := Lib.hid (show encP k (l.take k) = encL l from by
          rw [List.take_of_length_le (by rw [HLN.out]; exact Nat.le_refl _)]
          unfold encP encL
          rw [HLN.out])
        rw [HL.out] at hh
        have DN := Lib.hid (wdone b 1048576 v _ b wr hh.out.ws)
        go_wp2_with fail
        refine (DN.out).mono ?_
        rintro e w8 ⟨u, rfl, hu⟩
        have HU := Lib.hid (show Fresh w w8 u (encL l) from ⟨owns_mono hu.1 (Below.size hh.out.bel), hh.out.bel.trans hu.2⟩)
        clear hu
        go_wp2_with fail
        go_ret2
        exact ⟨u, rfl, HU.out⟩
  · rw [if_neg h0]
    have hne : (e1 != 0) = true := by rw [bne_iff_ne]; exact h0
    clear h0
    go_enter Try.func38, Try.ntmps38
    go_wp2_with fail
    refine CK.out.mono ?_
    rintro e w1 ⟨rfl, kb⟩
    have K1 := Lib.hid (show Bel w w1 from kb)
    clear kb CK
    go_wp2_with fail
    go_ret2
    exact ⟨_, rfl, World.ownsRow_nil _ _ _ _, K1.out⟩
end Ro
end Go.Proofs.Ytpfdakkameifkaa
end

section
/-
  What the reference's Bytes answers of any list of validators. Conditions: at most a million validators; the numbers are ints and words.
-/
namespace Go.Proofs.Ytpfdakkameifkaa
open Go.RowKit Go.Shelf
set_option linter.unusedVariables false
set_option linter.unusedSimpArgs false
namespace Ro
open Cd

set_option maxRecDepth 100000 in
set_option maxHeartbeats 2000000 in
theorem uR (b : Nat) (L : Int) (v : Value) (s : List Int × Int) (base : Nat) (x : Int) (w : World) (h : RW w b L v s.2 s.1 base) (x0 : 0 ≤ x) (x1 : x ≤ 18446744073709551615) :
    Calls Try.prog 77 #[.pointer (some ⟨b, 0, none⟩), .int .u64 x] w fun e w' => e = .returned (.int .i64 (stpR L s (enc x)).2) ∧ ∃ v', RW w' b L v' (stpR L s (enc x)).2 (stpR L s (enc x)).1 base ∧ Lies w v v' ∧ Kep (Own2 b v) w w' := by
  have PX := Lib.hid (fun V => ref_put x V x0 (by omega))
  have AD := Lib.hid (fun V A n c (hv : Bel w V) (hs : Sl V A n c (enc x)) (hn : n ≤ 1000000) => addR b L v s base A n c (enc x) V (h.bel hv) hs hn)
  have hl := (enc_len x).2
  obtain ⟨T, hT⟩ : ∃ T, stpR L s (enc x) = T := ⟨_, rfl⟩
  obtain ⟨zx, hzx⟩ : ∃ zx, enc x = zx := ⟨_, rfl⟩
  rw [hT] at AD ⊢
  rw [hzx] at PX AD hl
  clear h hT hzx x1
  go_enter Try.func77, Try.ntmps77
  go_wp2_with fail
  refine (PX.out _).mono ?_
  rintro e w1 ⟨v1, rfl, hf⟩
  obtain ⟨A1, c1, rfl, hs⟩ := hf.sl
  have K1 := Lib.hid hf.2
  have AA := Lib.hid (AD.out w1 A1 zx.length c1 K1.out hs (by omega))
  clear hf hs AD
  go_wp2_with fail
  refine (AA.out).mono ?_
  rintro e w2 ⟨rfl, v', hw, hli, hk⟩
  have HR := Lib.hid (And.intro hw (And.intro (show Lies w v v' from fun g hg => (hli g hg).imp id (fun h => Nat.le_trans (Below.size K1.out) h)) (show Kep (Own2 b v) w w2 from (Kep.of_bel K1.out).trans hk)))
  clear hw hli hk
  go_wp2_with fail
  go_ret
  exact ⟨rfl, v', HR.out.1, HR.out.2.1, HR.out.2.2⟩
/-- The reference's writer between two validators. -/
structure Ri (w wr : World) (b : Nat) (v : Value) (zs : List Int) : Prop where
  ws : RW wr b 1048576 v 0 zs b
  bel : Bel w wr
  ge : w.heap.size ≤ b
theorem Ri.next {w wr wn : World} {b : Nat} {v v' : Value} {zs more : List Int} (h : Ri w wr b v zs) (h1 : RW wn b 1048576 v' 0 (zs ++ more) b) (hk : Kep (Own2 b v) wr wn) : Ri w wn b v' (zs ++ more) :=
  ⟨h1, Kep.bel h.bel hk (fun i hi => by
    rcases hi with rfl | hi
    · exact h.ge
    · exact Nat.le_trans h.ge (h.ws.row.lt i hi).1), h.ge⟩
theorem riN {w wr : World} {b : Nat} {v : Value} {zs : List Int} (x : Int) (h : Ri w wr b v zs) (x0 : 0 ≤ x) (x1 : x ≤ 9223372036854775807) (hf : zs.length + 10 ≤ 1048576) :
    Calls Try.prog 76 #[.pointer (some ⟨b, 0, none⟩), .int .i64 x] wr fun e w' => e = .returned (.int .i64 0) ∧ ∃ v', Ri w w' b v' (zs ++ enc x) ∧ Kep (Own2 b v) wr w' ∧ Lies wr v v' := by
  have hl := (enc_len x).2
  have e1 : stpR 1048576 (zs, 0) (enc x) = (zs ++ enc x, 0) := stpR_ok (by rw [List.length_append]; omega)
  have := nR b 1048576 v (zs, 0) b x wr h.ws x0 x1
  rw [e1] at this
  refine this.mono ?_
  rintro e w' ⟨he, v', h1, h2, h3⟩
  exact ⟨he, v', h.next h1 h3, h3, h2⟩
theorem riU {w wr : World} {b : Nat} {v : Value} {zs : List Int} (x : Int) (h : Ri w wr b v zs) (x0 : 0 ≤ x) (x1 : x ≤ 18446744073709551615) (hf : zs.length + 10 ≤ 1048576) :
    Calls Try.prog 77 #[.pointer (some ⟨b, 0, none⟩), .int .u64 x] wr fun e w' => e = .returned (.int .i64 0) ∧ ∃ v', Ri w w' b v' (zs ++ enc x) ∧ Kep (Own2 b v) wr w' ∧ Lies wr v v' := by
  have hl := (enc_len x).2
  have e1 : stpR 1048576 (zs, 0) (enc x) = (zs ++ enc x, 0) := stpR_ok (by rw [List.length_append]; omega)
  have := uR b 1048576 v (zs, 0) b x wr h.ws x0 x1
  rw [e1] at this
  refine this.mono ?_
  rintro e w' ⟨he, v', h1, h2, h3⟩
  exact ⟨he, v', h.next h1 h3, h3, h2⟩
set_option maxRecDepth 100000 in
set_option maxHeartbeats 16000000 in
theorem bytesR (A : Option Addr) (n c : Nat) (l : List V6) (w : World) (hi : Rw.RS vR w A n c l) (hn : n ≤ 1000000) (hw : ∀ r ∈ l, WV r) :
    Calls Try.prog 39 #[.slice A n c] w fun e w' => ByR w w' l e := by
  have HR := Lib.hid hi
  have HLN := Lib.hid hi.len
  have HW := Lib.hid hw
  have CK := Lib.hid (checkR A n c l w hi (by omega))
  unfold ByR
  obtain ⟨e1, he1⟩ : ∃ e, (chk l).1 = e := ⟨_, rfl⟩
  obtain ⟨e2, he2⟩ : ∃ e, (chk l).2 = e := ⟨_, rfl⟩
  have HE1 := Lib.hid he1
  rw [he1, he2] at CK
  rw [he1]
  clear hi he1 he2 hw
  by_cases h0 : e1 = 0
  · subst h0
    rw [if_pos rfl]
    have HOK := Lib.hid (ok_iff.1 HE1.out)
    go_enter Try.func39, Try.ntmps39
    go_wp2_with fail
    refine CK.out.mono ?_
    rintro e w1 ⟨rfl, kb⟩
    have K1 := Lib.hid (show Bel w w1 from kb)
    clear kb CK
    go_wp2_with fail
    refine (newR 1048576 w1 (by decide) (by decide)).mono ?_
    rintro e w2 ⟨rfl, hws, k1⟩
    have HGE := Lib.hid (Below.size K1.out)
    obtain ⟨b, hb⟩ : ∃ b, w1.heap.size = b := ⟨_, rfl⟩
    rw [hb] at hws HGE ⊢
    have W2 := Lib.hid (show Ri w w2 b (.slice none 0 0) [] from ⟨hws, K1.out.trans k1, HGE.out⟩)
    clear hb hws k1
    have N0 := Lib.hid (riN (n : Int) W2.out (by omega) (by omega) (by decide))
    go_wp2_with fail
    refine N0.out.mono ?_
    rintro e w3 ⟨rfl, v3, h3, _⟩
    have W3_ := Lib.hid (show Ri w w3 b v3 (encP n (l.take 0)) from by
      have : ([] : List Int) ++ enc (n : Int) = encP n (l.take 0) := by simp [encP, Rm.encs]
      rw [← this]; exact h3)
    clear h3 N0 W2
    go_wp2_with fail
    go_loopw [8] (fun s8 wr => ∃ (k : Nat) (v : Value), s8 = .int .i64 k ∧ k ≤ n ∧ Hid (Ri w wr b v (encP n (l.take k)))) (fun s8 _ => n - (intOf s8).toNat)
    case atStart => exact ⟨0, v3, rfl, Nat.zero_le _, W3_⟩
    case round =>
      obtain ⟨k, v, rfl, hk, hh⟩ := hrel
      by_cases hlt : k < n
      · obtain ⟨⟨r1, r2, r3, r4, r5, r6⟩, hr⟩ := HR.out.get hlt
        obtain ⟨bb, q, rfl, hb, hrow⟩ := (HR.out.bel hh.out.bel).at hlt hr
        have HNX := Lib.hid (encP_next (n := (n : Int)) hr)
        have HGD := Lib.hid (HOK.out.2 k _ hr).1
        have HWV := Lib.hid (HW.out _ (List.mem_of_getElem? hr))
        have HLE := Lib.hid (show (encP n (l.take k)).length + 60 ≤ 1048576 from by
          have h1 := encP_len n (l.take k)
          have h2 : (l.take k).length ≤ 32 := by rw [List.length_take]; have := HOK.out.1; omega
          omega)
        have HRG := Lib.hid (show (0 ≤ r1 ∧ r1 < 64) ∧ (0 ≤ r2 ∧ r2 ≤ 18446744073709551615) ∧ (1 ≤ r3 ∧ r3 ≤ 4) ∧ (0 ≤ r4 ∧ r4 ≤ 4296015872) from ⟨⟨HGD.out.1, HGD.out.2.1⟩, HWV.out.2.1, ⟨HGD.out.2.2.2.1, HGD.out.2.2.2.2.1⟩, ⟨HGD.out.2.2.2.2.2.1, HGD.out.2.2.2.2.2.2.1⟩⟩)
        have hlt3 : (k : Int) < n := by omega
        have hlt0 : (0 : Int) ≤ k := by omega
        have HBB := Lib.hid (show ¬ Own2 b v bb from by
          intro hi
          obtain ⟨b0, o0, e0, hb0, _⟩ := HR.out.at hlt hr
          injection e0 with e0
          injection e0 with e0 _
          rcases hi with hi | hi
          · have := hh.out.ge; omega
          · have := (hh.out.ws.row.lt bb hi).1; have := hh.out.ge; omega)
        have HROW := Lib.hid (show wr.rangeAt bb (q + k * 6) [.int .i64 r1, .int .u64 r2, .int .i64 r3, .int .i64 r4, .bool r5, .bool r6] from hrow)
        have HROWW := Lib.hid (show w.rangeAt bb (q + k * 6) [.int .i64 r1, .int .u64 r2, .int .i64 r3, .int .i64 r4, .bool r5, .bool r6] from by
          obtain ⟨b0, o0, e0, _, hc0⟩ := HR.out.at hlt hr
          injection e0 with e0
          injection e0 with e1 e2
          subst e1 e2
          exact hc0)
        obtain ⟨zs, hzs⟩ : ∃ zs, encP n (l.take k) = zs := ⟨_, rfl⟩
        rw [hzs] at hh HNX HLE
        clear hzs hr hrow
        have L4 := Lib.hid (show zs.length ≤ zs.length + 0 by omega)
        have W4_ := hh
        have S4 := Lib.hid (Kep.refl (Own2 b v) wr)
        have Y4 := Lib.hid (Lies.refl wr v)
        have c0 := (rng6 (Pm.rng_bel HROWW.out W4_.out.bel)).1
        go_wp2_with fail
        refine (riN r1 W4_.out (by have := HRG.out; omega) (by have := HRG.out; omega) (by have := HLE.out; have := L4.out; omega)).mono ?_
        rintro e w5 ⟨rfl, v5, h5, k5, y5⟩
        have W5_ := Lib.hid h5
        have S5 := Lib.hid (show Kep (Own2 b v) wr w5 from kep_lies S4.out Y4.out k5)
        have Y5 := Lib.hid (show Lies wr v v5 from Y4.out.trans y5 S4.out.size)
        have L5 := Lib.hid (show (zs ++ enc r1).length ≤ zs.length + 10 by rw [List.length_append]; have := (enc_len r1).2; have := L4.out; omega)
        clear h5 k5 y5 c0
        have c1 := (rng6 (Pm.rng_bel HROWW.out W5_.out.bel)).2.1
        go_wp2_with fail
        refine (riU r2 W5_.out (by have := HRG.out; omega) (by have := HRG.out; omega) (by have := HLE.out; have := L5.out; omega)).mono ?_
        rintro e w6 ⟨rfl, v6, h6, k6, y6⟩
        have W6_ := Lib.hid h6
        have S6 := Lib.hid (show Kep (Own2 b v) wr w6 from kep_lies S5.out Y5.out k6)
        have Y6 := Lib.hid (show Lies wr v v6 from Y5.out.trans y6 S5.out.size)
        have L6 := Lib.hid (show (zs ++ enc r1 ++ enc r2).length ≤ zs.length + 20 by rw [List.length_append]; have := (enc_len r2).2; have := L5.out; omega)
        clear h6 k6 y6 c1
        have c2 := (rng6 (Pm.rng_bel HROWW.out W6_.out.bel)).2.2.1
        go_wp2_with fail
        refine (riN r3 W6_.out (by have := HRG.out; omega) (by have := HRG.out; omega) (by have := HLE.out; have := L6.out; omega)).mono ?_
        rintro e w7 ⟨rfl, v7, h7, k7, y7⟩
        have W7_ := Lib.hid h7
        have S7 := Lib.hid (show Kep (Own2 b v) wr w7 from kep_lies S6.out Y6.out k7)
        have Y7 := Lib.hid (show Lies wr v v7 from Y6.out.trans y7 S6.out.size)
        have L7 := Lib.hid (show (zs ++ enc r1 ++ enc r2 ++ enc r3).length ≤ zs.length + 30 by rw [List.length_append]; have := (enc_len r3).2; have := L6.out; omega)
        clear h7 k7 y7 c2
        have c3 := (rng6 (Pm.rng_bel HROWW.out W7_.out.bel)).2.2.2.1
        go_wp2_with fail
        refine (riN r4 W7_.out (by have := HRG.out; omega) (by have := HRG.out; omega) (by have := HLE.out; have := L7.out; omega)).mono ?_
        rintro e w8 ⟨rfl, v8, h8, k8, y8⟩
        have W8_ := Lib.hid h8
        have S8 := Lib.hid (show Kep (Own2 b v) wr w8 from kep_lies S7.out Y7.out k8)
        have Y8 := Lib.hid (show Lies wr v v8 from Y7.out.trans y8 S7.out.size)
        have L8 := Lib.hid (show (zs ++ enc r1 ++ enc r2 ++ enc r3 ++ enc r4).length ≤ zs.length + 40 by rw [List.length_append]; have := (enc_len r4).2; have := L7.out; omega)
        clear h8 k8 y8 c3
        have NX := Lib.hid (fun V (hv : Bel w8 V) => riN (fl r5 r6) (⟨W8_.out.ws.bel hv, W8_.out.bel.trans hv, W8_.out.ge⟩ : Ri w V b v8 _) (fl_le _ _).1 (by have := (fl_le r5 r6).2; omega) (by have := HLE.out; have := L8.out; omega))
        have B5 := Lib.hid (fun V => bit r5 1 V)
        have B6 := Lib.hid (fun V => bit r6 2 V)
        obtain ⟨f1, hf1⟩ : ∃ x, (if r5 = true then (1 : Int) else 0) = x := ⟨_, rfl⟩
        obtain ⟨f2, hf2⟩ : ∃ x, (if r6 = true then (2 : Int) else 0) = x := ⟨_, rfl⟩
        have HFL := Lib.hid (show fl r5 r6 = f1 + f2 by unfold fl; rw [hf1, hf2])
        have hfl := fl_le r5 r6
        rw [HFL.out] at NX hfl HNX
        rw [hf1] at B5
        rw [hf2] at B6
        have hwr : IntKind.i64.wrap (f1 + f2) = f1 + f2 := IntWalk.i64_in _ (by omega)
        clear hf1 hf2
        have hkn : (k : Int) < (n : Int) := hlt3
        go_upto_region 13 with fail
        have HRW := Lib.hid (show w.rangeAt bb (q + k * 6) [.int .i64 r1, .int .u64 r2, .int .i64 r3, .int .i64 r4, .bool r5, .bool r6] from HROWW.out)
        have HSB := Lib.hid (show ∀ Vx, (Bel w8 Vx ∨ ∃ v', Ri w Vx b v' (zs ++ enc r1 ++ enc r2 ++ enc r3 ++ enc r4 ++ enc (f1 + f2))) → Bel w Vx from fun Vx h => h.elim (fun h => W8_.out.bel.trans h) (fun ⟨_, h⟩ => h.bel))
        refine wp_region_held_drew (S := fun Vx => Bel w8 Vx ∨ ∃ v', Ri w Vx b v' (zs ++ enc r1 ++ enc r2 ++ enc r3 ++ enc r4 ++ enc (f1 + f2))) (by kernel_rfl) (.inl (Bel.refl w8).drew) (fun hS0 => ?_)
        have HB9 := Lib.hid (show Bel w8 (World.drew w8) from (Bel.refl w8).drew)
        obtain ⟨w9, hw9⟩ : ∃ w9, World.drew w8 = w9 := ⟨_, rfl⟩
        rw [hw9] at hS0 HB9 ⊢
        clear hw9
        refine wpAnyH_take (i := 0) (oi := { dst := some 59, op := .move (.tmp 6), type := 89, pos := "ref.go:235", after := #[], guard := none }) (v := .pointer (some ⟨b, 0, none⟩)) rfl (by kernel_rfl) (by kernel_rfl) (by kernel_rfl) (fun _ _ _ h => h) (Or.inl ⟨by rfl, by intro w hSw; clear hSw; go_simp⟩) hS0 ?_
        try simp only [Act.put, List.setIfInBounds_toArray, List.set_cons_zero, List.set_cons_succ]
        refine wpAnyH_take (i := 1) (oi := { dst := some 60, op := .move (.tmp 0), type := 22, pos := "ref.go:235", after := #[], guard := none }) (v := .slice (some ⟨bb, q, none⟩) n c) rfl (by kernel_rfl) (by kernel_rfl) (by kernel_rfl) (fun _ _ _ h => h) (Or.inl ⟨by rfl, by intro w hSw; clear hSw; go_simp⟩) hS0 ?_
        try simp only [Act.put, List.setIfInBounds_toArray, List.set_cons_zero, List.set_cons_succ]
        refine wpAnyH_take (i := 2) (oi := { dst := some 61, op := .move (.tmp 8), type := 3, pos := "ref.go:235", after := #[], guard := none }) (v := .int .i64 k) rfl (by kernel_rfl) (by kernel_rfl) (by kernel_rfl) (fun _ _ _ h => h) (Or.inl ⟨by rfl, by intro w hSw; clear hSw; go_simp⟩) hS0 ?_
        try simp only [Act.put, List.setIfInBounds_toArray, List.set_cons_zero, List.set_cons_succ]
        refine wpAnyH_take (i := 3) (oi := { dst := some 62, op := .indexAddr 22 (.tmp 60) (.tmp 61), type := 0, pos := "ref.go:235", after := #[{ on := 1, ground := .data }, { on := 2, ground := .data }], guard := none }) (v := .pointer (some ⟨bb, q + k * 6, none⟩)) rfl (by kernel_rfl) (by kernel_rfl) (by kernel_rfl) (fun _ _ _ h => h) (Or.inl ⟨by rfl, by intro w hSw; clear hSw; go_simp⟩) hS0 ?_
        try simp only [Act.put, List.setIfInBounds_toArray, List.set_cons_zero, List.set_cons_succ]
        refine wpAnyH_take (i := 4) (oi := { dst := some 63, op := .fieldAddr 66 (.tmp 62) 4, type := 0, pos := "ref.go:235", after := #[{ on := 3, ground := .data }], guard := none }) (v := .pointer (some ⟨bb, q + k * 6 + 4, none⟩)) rfl (by kernel_rfl) (by kernel_rfl) (by kernel_rfl) (fun _ _ _ h => h) (Or.inl ⟨by rfl, by intro w hSw; clear hSw; go_simp⟩) hS0 ?_
        try simp only [Act.put, List.setIfInBounds_toArray, List.set_cons_zero, List.set_cons_succ]
        refine wpAnyH_take (i := 5) (oi := { dst := some 64, op := .load 4 (.tmp 63), type := 4, pos := "ref.go:235", after := #[{ on := 4, ground := .data }], guard := none }) (v := .bool r5) rfl (by kernel_rfl) (by kernel_rfl) (by kernel_rfl) (fun _ _ _ h => h) (Or.inl ⟨by rfl, by intro w h; have hcell := ((rng6 (Pm.rng_bel HRW.out (HSB.out _ h))).2.2.2.2.1); clear h; go_simp⟩) hS0 ?_
        try simp only [Act.put, List.setIfInBounds_toArray, List.set_cons_zero, List.set_cons_succ]
        refine wpAnyH_take (i := 7) (oi := { dst := some 66, op := .move (.tmp 0), type := 22, pos := "ref.go:235", after := #[], guard := none }) (v := .slice (some ⟨bb, q, none⟩) n c) rfl (by kernel_rfl) (by kernel_rfl) (by kernel_rfl) (fun _ _ _ h => h) (Or.inl ⟨by rfl, by intro w hSw; clear hSw; go_simp⟩) hS0 ?_
        try simp only [Act.put, List.setIfInBounds_toArray, List.set_cons_zero, List.set_cons_succ]
        refine wpAnyH_take (i := 8) (oi := { dst := some 67, op := .move (.tmp 8), type := 3, pos := "ref.go:235", after := #[], guard := none }) (v := .int .i64 k) rfl (by kernel_rfl) (by kernel_rfl) (by kernel_rfl) (fun _ _ _ h => h) (Or.inl ⟨by rfl, by intro w hSw; clear hSw; go_simp⟩) hS0 ?_
        try simp only [Act.put, List.setIfInBounds_toArray, List.set_cons_zero, List.set_cons_succ]
        refine wpAnyH_take (i := 9) (oi := { dst := some 68, op := .indexAddr 22 (.tmp 66) (.tmp 67), type := 0, pos := "ref.go:235", after := #[{ on := 7, ground := .data }, { on := 8, ground := .data }], guard := none }) (v := .pointer (some ⟨bb, q + k * 6, none⟩)) rfl (by kernel_rfl) (by kernel_rfl) (by kernel_rfl) (fun _ _ _ h => h) (Or.inl ⟨by rfl, by intro w hSw; clear hSw; go_simp⟩) hS0 ?_
        try simp only [Act.put, List.setIfInBounds_toArray, List.set_cons_zero, List.set_cons_succ]
        refine wpAnyH_take (i := 10) (oi := { dst := some 69, op := .fieldAddr 66 (.tmp 68) 5, type := 0, pos := "ref.go:235", after := #[{ on := 9, ground := .data }], guard := none }) (v := .pointer (some ⟨bb, q + k * 6 + 5, none⟩)) rfl (by kernel_rfl) (by kernel_rfl) (by kernel_rfl) (fun _ _ _ h => h) (Or.inl ⟨by rfl, by intro w hSw; clear hSw; go_simp⟩) hS0 ?_
        try simp only [Act.put, List.setIfInBounds_toArray, List.set_cons_zero, List.set_cons_succ]
        refine wpAnyH_take (i := 11) (oi := { dst := some 70, op := .load 4 (.tmp 69), type := 4, pos := "ref.go:235", after := #[{ on := 10, ground := .data }], guard := none }) (v := .bool r6) rfl (by kernel_rfl) (by kernel_rfl) (by kernel_rfl) (fun _ _ _ h => h) (Or.inl ⟨by rfl, by intro w h; have hcell := ((rng6 (Pm.rng_bel HRW.out (HSB.out _ h))).2.2.2.2.2); clear h; go_simp⟩) hS0 ?_
        try simp only [Act.put, List.setIfInBounds_toArray, List.set_cons_zero, List.set_cons_succ]
        refine wpAnyH_ready (rs := [6]) (by kernel_rfl) (by simp) ?_
        refine AllReadyH.cons (o := { dst := some 65, op := .call { callee := .value (.func 78), args := #[.tmp 64, .const (Value.int IntKind.i64 1)], argTypes := #[4, 3] }, type := 3, pos := "ref.go:235", after := #[{ on := 5, ground := .data }], guard := none }) rfl (fun K hK => ?_) AllReadyH.nil
        go_simp
        refine (B5.out _).mono ?_
        rintro e v1 ⟨rfl, rfl⟩
        go_wp2_with fail
        refine hK.out _ _ (hS0) (fun hS1 => ?_)
        clear hK K
        try simp only [Act.put, List.setIfInBounds_toArray, List.set_cons_zero, List.set_cons_succ]
        refine wpAnyH_ready (rs := [12]) (by kernel_rfl) (by simp) ?_
        refine AllReadyH.cons (o := { dst := some 71, op := .call { callee := .value (.func 78), args := #[.tmp 70, .const (Value.int IntKind.i64 2)], argTypes := #[4, 3] }, type := 3, pos := "ref.go:235", after := #[{ on := 11, ground := .data }, { on := 6, ground := .chain }], guard := none }) rfl (fun K hK => ?_) AllReadyH.nil
        go_simp
        refine (B6.out _).mono ?_
        rintro e v2 ⟨rfl, rfl⟩
        go_wp2_with fail
        refine hK.out _ _ (hS1) (fun hS2 => ?_)
        clear hK K
        try simp only [Act.put, List.setIfInBounds_toArray, List.set_cons_zero, List.set_cons_succ]
        refine wpAnyH_take (i := 13) (oi := { dst := some 72, op := .binOp .add 3 (.tmp 65) (.tmp 71) 3, type := 3, pos := "ref.go:235", after := #[{ on := 6, ground := .data }, { on := 12, ground := .data }], guard := none }) (v := .int .i64 (f1 + f2)) rfl (by kernel_rfl) (by kernel_rfl) (by kernel_rfl) (fun _ _ _ h => h) (Or.inl ⟨by rfl, by intro w hSw; clear hSw; go_simp⟩) hS2 ?_
        try simp only [Act.put, List.setIfInBounds_toArray, List.set_cons_zero, List.set_cons_succ]
        refine wpAnyH_ready (rs := [14]) (by kernel_rfl) (by simp) ?_
        refine AllReadyH.cons (o := { dst := some 73, op := .call { callee := .value (.func 76), args := #[.tmp 59, .tmp 72], argTypes := #[89, 3] }, type := 26, pos := "ref.go:235", after := #[{ on := 0, ground := .data }, { on := 13, ground := .data }, { on := 12, ground := .chain }], guard := none }) rfl (fun K hK => ?_) AllReadyH.nil
        go_simp
        refine (NX.out _ HB9.out).mono ?_
        rintro e v3 ⟨rfl, v9, h9, k9, y9⟩
        go_wp2_with fail
        refine hK.out _ _ (.inr ⟨v9, h9⟩) (fun hS3 => ?_)
        clear hK K
        try simp only [Act.put, List.setIfInBounds_toArray, List.set_cons_zero, List.set_cons_succ]
        refine wpAnyH_done (by kernel_rfl) ?_ _
        have W9_ := Lib.hid h9
        clear h9 k9 y9
        go_wp2_with fail
        go_roundw
        case rel => exact ⟨k + 1, v9, by go_num, by omega, Lib.hid (by rw [HNX.out]; exact W9_.out)⟩
        case measure => simp [intOf]; omega
      · obtain rfl : k = n := by omega
        have HL := Lib.hid (show encP k (l.take k) = encL l from by
          rw [List.take_of_length_le (by rw [HLN.out]; exact Nat.le_refl _)]
          unfold encP encL
          rw [HLN.out])
        rw [HL.out] at hh
        have DN := Lib.hid (doneR b 1048576 v (encL l, 0) b wr hh.out.ws)
        go_wp2_with fail
        refine (DN.out).mono ?_
        rintro e w8 ⟨u, rfl, hu⟩
        have HU := Lib.hid (show Fresh w w8 u (encL l) from ⟨owns_mono hu.1 (Below.size hh.out.bel), hh.out.bel.trans hu.2⟩)
        clear hu
        go_wp2_with fail
        go_ret2
        exact ⟨u, rfl, HU.out⟩
  · rw [if_neg h0]
    have hne : (e1 != 0) = true := by rw [bne_iff_ne]; exact h0
    clear h0
    go_enter Try.func39, Try.ntmps39
    go_wp2_with fail
    refine CK.out.mono ?_
    rintro e w1 ⟨rfl, kb⟩
    have K1 := Lib.hid (show Bel w w1 from kb)
    clear kb CK
    go_wp2_with fail
    go_ret2
    exact ⟨_, rfl, World.ownsRow_nil _ _ _ _, K1.out⟩
end Ro
end Go.Proofs.Ytpfdakkameifkaa
end

section
/-
  How a roster is read: what a run of reads is, that there is one for any bytes, that a roster's own bytes are read as it, and that what is read without a fault may be and has just those bytes. No program.
-/
namespace Go.Proofs.Ytpfdakkameifkaa
open Go.RowKit Go.Shelf
set_option linter.unusedVariables false
namespace Ro
open Cd

def flA (g : Int) : Bool := decide (g % 2 = 1)
def flP (g : Int) : Bool := decide (2 ≤ g)
theorem fl_of {g : Int} (h : 0 ≤ g) (h2 : g ≤ 3) : fl (flA g) (flP g) = g := by
  have : g = 0 ∨ g = 1 ∨ g = 2 ∨ g = 3 := by omega
  rcases this with rfl | rfl | rfl | rfl <;> decide
theorem flA_fl (a p : Bool) : flA (fl a p) = a := by cases a <;> cases p <;> decide
theorem flP_fl (a p : Bool) : flP (fl a p) = p := by cases a <;> cases p <;> decide
/-- How a validator is read. -/
def Tv (zs : List Int) (k : Nat) (f : Option (Int × Int)) (x : V6) (k' : Nat) (f' : Option (Int × Int)) : Prop :=
  ∃ o m s u g k1 f1 k2 f2 k3 f3 k4 f4, x = (o, m, s, u, flA g, flP g) ∧ (0 ≤ g ∧ g ≤ 3) ∧ RN zs k f 0 63 o k1 f1 ∧ RU zs k1 f1 m k2 f2 ∧ RN zs k2 f2 1 4 s k3 f3 ∧ RN zs k3 f3 0 4296015872 u k4 f4 ∧ RN zs k4 f4 0 3 g k' f'
/-- How validators are read, one behind the other, behind those of pre. -/
def Lk (zs : List Int) : List V6 → List V6 → Nat → Option (Int × Int) → Nat → Option (Int × Int) → Prop
  | _, [], k, f, k', f' => k' = k ∧ f' = f
  | pre, x :: l, k, f, k', f' => ∃ k1 f1, Tv zs k f x k1 f1 ∧ Lk zs (pre ++ [x]) l k1 (failOf f1 (chk (pre ++ [x])).1 (atOf k f)) k' f'
theorem fail_some (p : Int × Int) (e q : Int) : failOf (some p) e q = some p := by
  unfold failOf
  split <;> rfl
theorem fail_no {e q : Int} (h : e = 0) : failOf none e q = none := by unfold failOf; rw [if_pos h]
theorem fail_yes {e q : Int} (h : e ≠ 0) : failOf none e q = some (e, q) := by unfold failOf; rw [if_neg h]
theorem fail_none {f : Option (Int × Int)} {e q : Int} (h : failOf f e q = none) : f = none ∧ e = 0 := by
  cases f with
  | some p => rw [fail_some] at h; cases h
  | none =>
    by_cases he : e = 0
    · exact ⟨rfl, he⟩
    · rw [fail_yes he] at h; cases h
theorem fail_nz {f : Option (Int × Int)} {e q : Int} (h : ∀ p, f = some p → p.1 ≠ 0) : ∀ p, failOf f e q = some p → p.1 ≠ 0 := fun p hp => by
  cases f with
  | some p' => rw [fail_some] at hp; exact h p hp
  | none =>
    by_cases he : e = 0
    · rw [fail_no he] at hp; cases hp
    · rw [fail_yes he] at hp; injection hp with hp; rw [← hp]; exact he
theorem rn_some {zs : List Int} {k : Nat} {p : Int × Int} {least most x : Int} {k' : Nat} {f' : Option (Int × Int)} (h : RN zs k (some p) least most x k' f') : x = 0 ∧ k' = k ∧ f' = some p := by
  rcases h with ⟨q, h1, h2, h3, h4⟩ | ⟨h1, _⟩
  · exact ⟨h2, h3, h4⟩
  · cases h1
theorem ru_some {zs : List Int} {k : Nat} {p : Int × Int} {x : Int} {k' : Nat} {f' : Option (Int × Int)} (h : RU zs k (some p) x k' f') : x = 0 ∧ k' = k ∧ f' = some p := by
  rcases h with ⟨q, h1, h2, h3, h4⟩ | ⟨h1, _⟩
  · exact ⟨h2, h3, h4⟩
  · cases h1
theorem tv_some {zs : List Int} {k : Nat} {p : Int × Int} {x : V6} {k' : Nat} {f' : Option (Int × Int)} (h : Tv zs k (some p) x k' f') : f' = some p ∧ k' = k := by
  obtain ⟨o, m, s, u, g, k1, f1, k2, f2, k3, f3, k4, f4, rfl, _, r1, r2, r3, r4, r5⟩ := h
  obtain ⟨-, rfl, rfl⟩ := rn_some r1
  obtain ⟨-, rfl, rfl⟩ := ru_some r2
  obtain ⟨-, rfl, rfl⟩ := rn_some r3
  obtain ⟨-, rfl, rfl⟩ := rn_some r4
  obtain ⟨-, rfl, rfl⟩ := rn_some r5
  exact ⟨rfl, rfl⟩
theorem lk_some {zs : List Int} : ∀ (l pre : List V6) {k : Nat} {p : Int × Int} {k' : Nat} {f' : Option (Int × Int)}, Lk zs pre l k (some p) k' f' → f' = some p ∧ k' = k
  | [], pre, k, p, k', f', h => ⟨h.2, h.1⟩
  | x :: l, pre, k, p, k', f', h => by
    obtain ⟨k1, f1, h1, h2⟩ := h
    obtain ⟨rfl, rfl⟩ := tv_some h1
    rw [fail_some] at h2
    exact lk_some l _ h2
theorem rn_all (zs : List Int) (hb : Bytes zs) (k : Nat) (hk : k ≤ zs.length) (f : Option (Int × Int)) (hf : ∀ p, f = some p → p.1 ≠ 0) (least most : Int) : ∃ x k' f', RN zs k f least most x k' f' ∧ k' ≤ zs.length ∧ (x = 0 ∨ (least ≤ x ∧ x ≤ most)) ∧ (∀ p, f' = some p → p.1 ≠ 0) ∧ (f' = none → f = none ∧ least ≤ x ∧ x ≤ most ∧ zs.take k ++ enc x = zs.take k') := by
  cases f with
  | some p => exact ⟨0, k, some p, .inl ⟨p, rfl, rfl, rfl, rfl⟩, hk, .inl rfl, hf, fun h => by cases h⟩
  | none =>
    obtain ⟨x, k', f', r, q, h⟩ := Rm.rn_of zs hb k hk least most
    rcases h with ⟨rfl, a0, a1, t⟩ | ⟨e, he, rfl, rfl, rfl⟩
    · exact ⟨x, k', none, r, q, .inr ⟨a0, a1⟩, fun p hp => (by cases hp), fun _ => ⟨rfl, a0, a1, t⟩⟩
    · exact ⟨0, k', _, r, q, .inl rfl, fun p hp => (by injection hp with hp; rw [← hp]; exact he), fun h => by cases h⟩
theorem ru_all (zs : List Int) (hb : Bytes zs) (k : Nat) (hk : k ≤ zs.length) (f : Option (Int × Int)) (hf : ∀ p, f = some p → p.1 ≠ 0) : ∃ x k' f', RU zs k f x k' f' ∧ k' ≤ zs.length ∧ (0 ≤ x ∧ x ≤ 18446744073709551615) ∧ (∀ p, f' = some p → p.1 ≠ 0) ∧ (f' = none → f = none ∧ zs.take k ++ enc x = zs.take k') := by
  cases f with
  | some p => exact ⟨0, k, some p, .inl ⟨p, rfl, rfl, rfl, rfl⟩, hk, by omega, hf, fun h => by cases h⟩
  | none =>
    obtain ⟨x, k', f', r, x0, x1, h⟩ := ru_of zs hb k hk
    rcases h with ⟨rfl, q, t⟩ | ⟨e, he, rfl, rfl⟩
    · exact ⟨x, k', none, r, q, ⟨x0, x1⟩, fun p hp => (by cases hp), fun _ => ⟨rfl, t⟩⟩
    · exact ⟨x, k', _, r, hk, ⟨x0, x1⟩, fun p hp => (by injection hp with hp; rw [← hp]; exact he), fun h => by cases h⟩
/-- A validator is read of any bytes. -/
theorem tv_of (zs : List Int) (hb : Bytes zs) (k : Nat) (hk : k ≤ zs.length) (f : Option (Int × Int)) (hf : ∀ p, f = some p → p.1 ≠ 0) : ∃ x k' f', Tv zs k f x k' f' ∧ k' ≤ zs.length ∧ WV x ∧ (∀ p, f' = some p → p.1 ≠ 0) ∧ (f' = none → f = none ∧ zs.take k ++ Rm.encs (nums x) = zs.take k') := by
  obtain ⟨o, k1, f1, r1, q1, b1, n1, g1⟩ := rn_all zs hb k hk f hf 0 63
  obtain ⟨m, k2, f2, r2, q2, b2, n2, g2⟩ := ru_all zs hb k1 q1 f1 n1
  obtain ⟨s, k3, f3, r3, q3, b3, n3, g3⟩ := rn_all zs hb k2 q2 f2 n2 1 4
  obtain ⟨u, k4, f4, r4, q4, b4, n4, g4⟩ := rn_all zs hb k3 q3 f3 n3 0 4296015872
  obtain ⟨g, k5, f5, r5, q5, b5, n5, g5⟩ := rn_all zs hb k4 q4 f4 n4 0 3
  have hg : 0 ≤ g ∧ g ≤ 3 := by omega
  refine ⟨(o, m, s, u, flA g, flP g), k5, f5, ⟨o, m, s, u, g, k1, f1, k2, f2, k3, f3, k4, f4, rfl, hg, r1, r2, r3, r4, r5⟩, q5, ⟨by unfold I64; omega, b2, by unfold I64; omega, by unfold I64; omega⟩, n5, fun h => ?_⟩
  obtain ⟨h4, _, _, t5⟩ := g5 h
  obtain ⟨h3, _, _, t4⟩ := g4 h4
  obtain ⟨h2, _, _, t3⟩ := g3 h3
  obtain ⟨h1, t2⟩ := g2 h2
  obtain ⟨h0, _, _, t1⟩ := g1 h1
  refine ⟨h0, ?_⟩
  rw [← t5, ← t4, ← t3, ← t2, ← t1]
  show zs.take k ++ Rm.encs [o, m, s, u, fl (flA g) (flP g)] = _
  rw [fl_of hg.1 hg.2]
  simp [Rm.encs, List.append_assoc]
theorem eA_pre (a b : List V6) {i : Nat} (h : i < a.length) : eA (a ++ b) i = eA a i := by
  unfold eA
  rw [List.getElem?_append_left h, List.take_append_of_le_length (Nat.le_of_lt h)]
theorem chk_pre {a b : List V6} (h : (chk (a ++ b)).1 = 0) : (chk a).1 = 0 := by
  obtain ⟨h1, h2⟩ := chk_ok.1 h
  rw [List.length_append] at h1 h2
  exact chk_ok.2 ⟨by omega, fun i hi => by rw [← eA_pre a b hi]; exact h2 i (by omega)⟩
theorem chk_snoc {a : List V6} {x : V6} (h : (chk a).1 = 0) (hl : a.length < 32) : (chk (a ++ [x])).1 = vE (has a (op x)) x := by
  obtain ⟨h1, h2⟩ := chk_ok.1 h
  have e : eA (a ++ [x]) a.length = vE (has a (op x)) x := by
    unfold eA
    rw [List.getElem?_append_right (Nat.le_refl _), Nat.sub_self, List.take_append_of_le_length (Nat.le_refl _), List.take_of_length_le (Nat.le_refl _)]
    rfl
  have hlen : (a ++ [x]).length = a.length + 1 := by simp
  by_cases h0 : eA (a ++ [x]) a.length = 0
  · rw [chk_end (by omega) (fun i hi => by
      rcases Nat.lt_or_ge i a.length with h' | h'
      · rw [eA_pre a _ h']; exact h2 i h'
      · obtain rfl : i = a.length := by omega
        exact h0), ← e, h0]
  · rw [chk_at (k := a.length) (by omega) (fun i hi => by rw [eA_pre a _ hi]; exact h2 i hi) (by omega) h0, e]
/-- A list is read of any bytes; without a fault it may be, and its bytes are just those. -/
theorem lk_of (zs : List Int) (hb : Bytes zs) : ∀ (m k : Nat) (f : Option (Int × Int)) (pre : List V6), k ≤ zs.length → (∀ p, f = some p → p.1 ≠ 0) → ∃ l k' f', Lk zs pre l k f k' f' ∧ l.length = m ∧ k' ≤ zs.length ∧ (∀ r ∈ l, WV r) ∧ (∀ p, f' = some p → p.1 ≠ 0) ∧
    (f' = none → f = none ∧ (m = 0 ∨ (chk (pre ++ l)).1 = 0) ∧ zs.take k ++ Rm.encs (l.flatMap nums) = zs.take k')
  | 0, k, f, pre, hk, hf => ⟨[], k, f, ⟨rfl, rfl⟩, rfl, hk, fun r h => (by cases h), hf, fun h => ⟨h, .inl rfl, by simp [Rm.encs]⟩⟩
  | m + 1, k, f, pre, hk, hf => by
    obtain ⟨x, k1, f1, h1, hk1, b1, n1, g1⟩ := tv_of zs hb k hk f hf
    obtain ⟨l, k', f', h2, h3, h4, h5, h6, h7⟩ := lk_of zs hb m k1 (failOf f1 (chk (pre ++ [x])).1 (atOf k f)) (pre ++ [x]) hk1 (fail_nz n1)
    refine ⟨x :: l, k', f', ⟨k1, f1, h1, h2⟩, by simp [h3], h4, fun r hr => ?_, h6, fun h => ?_⟩
    · rcases List.mem_cons.1 hr with rfl | hr
      · exact b1
      · exact h5 r hr
    · obtain ⟨q1, q2, q3⟩ := h7 h
      obtain ⟨q4, q5⟩ := fail_none q1
      obtain ⟨q6, q7⟩ := g1 q4
      refine ⟨q6, .inr ?_, ?_⟩
      · rcases q2 with q2 | q2
        · have : l = [] := List.length_eq_zero_iff.1 (by omega)
          subst this
          exact q5
        · simpa using q2
      · rw [← q3, ← q7, List.flatMap_cons, Rm.encs_app, List.append_assoc]
/-- A roster's own bytes are read as it. -/
theorem lk_enc : ∀ (l pre' : List V6) (pre post : List Int), (chk (pre' ++ l)).1 = 0 → (∀ r ∈ l, WV r) → Lk (pre ++ Rm.encs (l.flatMap nums) ++ post) pre' l pre.length none (pre.length + (Rm.encs (l.flatMap nums)).length) none
  | [], pre', pre, post, _, _ => ⟨by simp [Rm.encs], rfl⟩
  | (o, m, s, u, a, p) :: l, pre', pre, post, hs, hw => by
    have hs' : (chk ((pre' ++ [(o, m, s, u, a, p)]) ++ l)).1 = 0 := by simpa using hs
    have hg : Gd (o, m, s, u, a, p) := by
      have h1 := ok_iff.1 (chk_pre hs')
      exact (h1.2 pre'.length _ (by simp)).1
    obtain ⟨_, ⟨w1, w2⟩, _, _⟩ := hw _ (List.mem_cons_self ..)
    obtain ⟨o0, o1, _, s0, s1, u0, u1, _⟩ := hg
    have hfl := fl_le a p
    have e : Rm.encs (((o, m, s, u, a, p) :: l).flatMap nums) = enc o ++ (enc m ++ (enc s ++ (enc u ++ (enc (fl a p) ++ Rm.encs (l.flatMap nums))))) := by
      rw [List.flatMap_cons, Rm.encs_app]
      simp [nums, Rm.encs, List.append_assoc]
    obtain ⟨g, hgq⟩ : ∃ g, fl a p = g := ⟨_, rfl⟩
    rw [hgq] at hfl e
    have r1 := Rm.rn_enc pre (enc m ++ (enc s ++ (enc u ++ (enc g ++ (Rm.encs (l.flatMap nums) ++ post))))) o 0 63 o0 (by omega) o0 (by omega)
    have r2 := Rm.ru_enc (pre ++ enc o) (enc s ++ (enc u ++ (enc g ++ (Rm.encs (l.flatMap nums) ++ post)))) m w1 w2
    have r3 := Rm.rn_enc (pre ++ enc o ++ enc m) (enc u ++ (enc g ++ (Rm.encs (l.flatMap nums) ++ post))) s 1 4 (by omega) (by omega) s0 s1
    have r4 := Rm.rn_enc (pre ++ enc o ++ enc m ++ enc s) (enc g ++ (Rm.encs (l.flatMap nums) ++ post)) u 0 4296015872 u0 (by omega) u0 u1
    have r5 := Rm.rn_enc (pre ++ enc o ++ enc m ++ enc s ++ enc u) (Rm.encs (l.flatMap nums) ++ post) g 0 3 hfl.1 (by omega) hfl.1 hfl.2
    have r6 := lk_enc l (pre' ++ [(o, m, s, u, a, p)]) (pre ++ enc o ++ enc m ++ enc s ++ enc u ++ enc g) post hs' (fun r hr => hw r (List.mem_cons_of_mem _ hr))
    rw [e]
    simp only [List.append_assoc, List.length_append] at r1 r2 r3 r4 r5 r6 ⊢
    refine ⟨pre.length + (enc o).length + (enc m).length + (enc s).length + (enc u).length + (enc g).length, none, ⟨o, m, s, u, g, pre.length + (enc o).length, none, pre.length + (enc o).length + (enc m).length, none, pre.length + (enc o).length + (enc m).length + (enc s).length, none, pre.length + (enc o).length + (enc m).length + (enc s).length + (enc u).length, none, ?_, hfl, r1, ?_, ?_, ?_, ?_⟩, ?_⟩
    · rw [← hgq, flA_fl, flP_fl]
    · simpa [Nat.add_assoc] using r2
    · simpa [Nat.add_assoc] using r3
    · simpa [Nat.add_assoc] using r4
    · simpa [Nat.add_assoc] using r5
    · have hz := chk_pre hs'
      rw [fail_no hz]
      simpa [Nat.add_assoc] using r6
end Ro
end Go.Proofs.Ytpfdakkameifkaa
end
