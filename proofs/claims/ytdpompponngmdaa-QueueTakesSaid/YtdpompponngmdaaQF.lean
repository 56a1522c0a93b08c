/-
  Texts of this claim, put together: Qu25, Sm3, QuM3. What each one says, and under which conditions, stands ahead of it.
-/
import Derived.Test.YtdpompponngmdaaQE
import Derived.Test.YtdpompponngmdaaSA
import Derived.Test.YtdpompponngmdaaWA
import Derived.Test.YtdpompponngmdaaRC

section
/-
  What queue.Bytes answers of any queue. Conditions: at most 10,000 entries; Balances and Initials are words.
-/
namespace Go.Proofs.Ytdpompponngmdaa
open Go.RowKit Go.Shelf
set_option linter.unusedVariables false
set_option linter.unusedSimpArgs false
set_option Elab.async false
namespace Qu
open Cd

def nums : E8 → List Int
  | (o, a, b, c, d, u, i, n) => [o, a, b, c + 1, d, u, i, n]
/-- A list's bytes. -/
def encL (l : List E8) : List Int := Rm.encs ((l.length : Int) :: l.flatMap nums)
def encP (n : Int) (l : List E8) : List Int := Rm.encs (n :: l.flatMap nums)
theorem encP_next {n : Int} {l : List E8} {k : Nat} {o a b c d u i m : Int} (h : l[k]? = some (o, a, b, c, d, u, i, m)) : encP n (l.take (k + 1)) = encP n (l.take k) ++ enc o ++ Sm.enc4 a b c d ++ enc u ++ enc i ++ enc m := by
  unfold encP
  rw [List.take_add_one, h, List.flatMap_append, show n :: ((l.take k).flatMap nums ++ (some (o, a, b, c, d, u, i, m)).toList.flatMap nums) = (n :: (l.take k).flatMap nums) ++ [o, a, b, c + 1, d, u, i, m] from rfl, Rm.encs_app]
  simp [Rm.encs, Sm.enc4, List.append_assoc]
theorem nums_len : ∀ l : List E8, (l.flatMap nums).length = 8 * l.length := by
  intro l
  induction l with
  | nil => rfl
  | cons r l ih =>
    obtain ⟨a, b, c, d, e, f, g, h⟩ := r
    rw [List.flatMap_cons, List.length_append, ih, List.length_cons]
    simp [nums]; omega
theorem encP_len (n : Int) (l : List E8) : (encP n l).length ≤ 10 + 80 * l.length := by
  have h1 := Rm.encs_len (n :: l.flatMap nums)
  rw [List.length_cons, nums_len] at h1
  unfold encP
  omega
/-- The writer between two entries. -/
structure Wi (w wr : World) (b : Nat) (v : Value) (zs : List Int) : Prop where
  ws : WS wr b 1048576 v 0 zs b
  bel : Bel w wr
  ge : w.heap.size ≤ b
theorem Wi.next {w wr wn : World} {b : Nat} {v v' : Value} {zs more : List Int} (h : Wi w wr b v zs) (h1 : WS wn b 1048576 v' 0 (zs ++ more) b) (hk : Kep (Own2 b v) wr wn) : Wi w wn b v' (zs ++ more) :=
  ⟨h1, Kep.bel h.bel hk (fun i hi => by
    rcases hi with rfl | hi
    · exact h.ge
    · exact Nat.le_trans h.ge (h.ws.row.lt i hi).1), h.ge⟩
theorem Wi.bel_ {w wr wn : World} {b : Nat} {v : Value} {zs : List Int} (h : Wi w wr b v zs) (hb : Bel wr wn) : Wi w wn b v zs := ⟨h.ws.bel hb, h.bel.trans hb, h.ge⟩
theorem wiN {w wr : World} {b : Nat} {v : Value} {zs : List Int} (x : Int) (h : Wi w wr b v zs) (x0 : 0 ≤ x) (x1 : x ≤ 9223372036854775807) (hf : zs.length + 10 ≤ 1048576) :
    Calls Try.prog 61 #[.pointer (some ⟨b, 0, none⟩), .int .i64 x] wr fun e w' => e = .returned (.int .i64 0) ∧ ∃ v', Wi w w' b v' (zs ++ enc x) ∧ Kep (Own2 b v) wr w' := by
  have hl := (enc_len x).2
  have e1 : stp 1048576 (zs, 0) (enc x) = (zs ++ enc x, 0) := Sm.stp_ok (by rw [List.length_append]; omega)
  have := nAny b 1048576 v (zs, 0) b x wr h.ws x0 x1
  rw [e1] at this
  refine this.mono ?_
  rintro e w' ⟨he, v', h1, _, h3⟩
  exact ⟨he, v', h.next h1 h3, h3⟩
theorem wiU {w wr : World} {b : Nat} {v : Value} {zs : List Int} (x : Int) (h : Wi w wr b v zs) (x0 : 0 ≤ x) (x1 : x ≤ 18446744073709551615) (hf : zs.length + 10 ≤ 1048576) :
    Calls Try.prog 63 #[.pointer (some ⟨b, 0, none⟩), .int .u64 x] wr fun e w' => e = .returned (.int .i64 0) ∧ ∃ v', Wi w w' b v' (zs ++ enc x) ∧ Kep (Own2 b v) wr w' := by
  have hl := (enc_len x).2
  refine (wU3 b 1048576 v zs b x wr h.ws x0 x1).mono ?_
  rintro e w' ⟨r, rfl, ha, hk⟩
  rcases ha with ⟨rfl, h1, v', h2, h3⟩ | ⟨rfl, h1, h2⟩
  · exact ⟨rfl, v', h.next h2 hk, hk⟩
  · rw [List.length_append] at h1; omega
theorem put4_at {zs : List Int} {a b c d : Int} (h : Sm.ck a b c d = 0) (hf : zs.length + 40 ≤ 1048576) : Sm.put4 1048576 (zs, 0) a b c d = (zs ++ Sm.enc4 a b c d, 0) := by
  have h1 := (enc_len a).2
  have h2 := (enc_len b).2
  have h3 := (enc_len (c + 1)).2
  have h4 := (enc_len d).2
  unfold Sm.put4 Sm.enc4
  rw [if_pos h, Sm.stp_ok (by simp only [List.length_append]; omega), Sm.stp_ok (by simp only [List.length_append]; omega), Sm.stp_ok (by simp only [List.length_append]; omega), Sm.stp_ok (by simp only [List.length_append]; omega)]
  simp [List.append_assoc]
theorem wiP {w wr : World} {b : Nat} {v : Value} {zs : List Int} (x1 x2 x3 x4 : Int) (h : Wi w wr b v zs) (hk : Sm.ck x1 x2 x3 x4 = 0) (hf : zs.length + 40 ≤ 1048576) :
    Calls Try.prog 62 #[.pointer (some ⟨b, 0, none⟩), .agg #[.int .i64 x1, .int .i64 x2, .int .i64 x3, .int .i64 x4]] wr fun e w' => e = .returned (.int .i64 0) ∧ ∃ v', Wi w w' b v' (zs ++ Sm.enc4 x1 x2 x3 x4) ∧ Kep (Own2 b v) wr w' := by
  have := Sm.put b 1048576 v (zs, 0) b x1 x2 x3 x4 wr h.ws (show (0 : Int) ≠ 1 by decide)
  rw [put4_at hk hf, if_pos hk] at this
  refine this.mono ?_
  rintro e w' ⟨he, v', h1, _, h3⟩
  exact ⟨he, v', h.next h1 h3, h3⟩
/-- What Bytes tells. -/
def ByR (w w' : World) (l : List E8) (e : Ending) : Prop :=
  ∃ v, e = .returned (.tuple #[v, .int .i64 (chk l).1]) ∧ Fresh w w' v (if (chk l).1 = 0 then encL l else [])
/-- Initials are words. -/
def Wn (l : List E8) : Prop := ∀ r ∈ l, 0 ≤ ini r ∧ ini r ≤ 18446744073709551615
set_option maxRecDepth 100000 in
set_option maxHeartbeats 16000000 in
theorem bytes_ (A : Option Addr) (n c : Nat) (l : List E8) (w : World) (hi : Rw.RS eR w A n c l) (hn : n ≤ 10000) (hw : Wd l) (hwn : Wn l) :
    Calls Try.prog 37 #[.slice A n c] w fun e w' => ByR w w' l e := by
  have HR := Lib.hid hi
  have HLN := Lib.hid hi.len
  have HWD := Lib.hid hw
  have HWN := Lib.hid hwn
  have CK := Lib.hid (check A n c l w hi (by omega) hw)
  obtain ⟨e1, he1⟩ : ∃ e, (chk l).1 = e := ⟨_, rfl⟩
  obtain ⟨e2, he2⟩ : ∃ e, (chk l).2 = e := ⟨_, rfl⟩
  have HE1 := Lib.hid he1
  rw [he1, he2] at CK
  unfold ByR
  rw [he1]
  clear hi he1 he2 hw hwn
  by_cases h0 : e1 = 0
  · subst h0
    rw [if_pos rfl]
    have HOK := Lib.hid (chk_ok.1 HE1.out)
    go_enter Try.func37, Try.ntmps37
    go_wp2_with fail
    refine CK.out.mono ?_
    rintro e w1 ⟨rfl, kb⟩
    have K1 := Lib.hid (show Bel w w1 from kb)
    clear kb CK
    go_wp2_with fail
    refine (newWriter 1048576 w1 (by decide) (by decide)).mono ?_
    rintro e w2 ⟨rfl, hws, k1⟩
    have HGE := Lib.hid (Below.size K1.out)
    obtain ⟨b, hb⟩ : ∃ b, w1.heap.size = b := ⟨_, rfl⟩
    rw [hb] at hws HGE ⊢
    have W2 := Lib.hid (show Wi w w2 b (.slice none 0 0) [] from ⟨hws, K1.out.trans k1, HGE.out⟩)
    clear hb hws k1
    have N0 := Lib.hid (wiN (n : Int) W2.out (by omega) (by omega) (by decide))
    go_wp2_with fail
    refine N0.out.mono ?_
    rintro e w3 ⟨rfl, v3, h3, _⟩
    have W3_ := Lib.hid (show Wi w w3 b v3 (encP n (l.take 0)) from by
      have : ([] : List Int) ++ enc (n : Int) = encP n (l.take 0) := by simp [encP, Rm.encs]
      rw [← this]; exact h3)
    clear h3 N0 W2
    go_wp2_with fail
    go_loopw [31] (fun s31 wr => ∃ (k : Nat) (v : Value), s31 = .int .i64 k ∧ k ≤ n ∧ Hid (Wi w wr b v (encP n (l.take k)))) (fun s31 _ => n - (intOf s31).toNat)
    case atStart => exact ⟨0, v3, rfl, Nat.zero_le _, W3_⟩
    case round =>
      obtain ⟨k, v, rfl, hk, hh⟩ := hrel
      by_cases hlt : k < n
      · obtain ⟨⟨r1, r2, r3, r4, r5, r6, r7, r8⟩, hr⟩ := HR.out.get hlt
        obtain ⟨bb, q, rfl, hb, hrow⟩ := (HR.out.bel hh.out.bel).at hlt hr
        have HNX := Lib.hid (encP_next (n := (n : Int)) hr)
        have HMY := Lib.hid ((may_iff _ _ _ _ _ _ _ _).1 (srt_le l 0 HOK.out.2.1 _ (List.mem_of_getElem? hr)).1)
        have HN8 := Lib.hid (show 0 ≤ r8 ∧ r8 ≤ 18446744073709551615 from HWD.out.at hr)
        have HN7 := Lib.hid (show 0 ≤ r7 ∧ r7 ≤ 18446744073709551615 from HWN.out _ (List.mem_of_getElem? hr))
        have HLE := Lib.hid (show (encP n (l.take k)).length + 90 ≤ 1048576 from by
          have h1 := encP_len n (l.take k)
          have h2 : (l.take k).length ≤ 10000 := by rw [List.length_take]; omega
          omega)
        have hlt3 : (k : Int) < n := by omega
        have hlt0 : (0 : Int) ≤ k := by omega
        obtain ⟨c0, c1, c2, c3, c4, c5, c6, c7⟩ := rng8 (show wr.rangeAt bb (q + k * 8) [.int .i64 r1, .int .i64 r2, .int .i64 r3, .int .i64 r4, .int .i64 r5, .int .i64 r6, .int .u64 r7, .int .u64 r8] from hrow)
        clear hr hrow
        obtain ⟨zs, hzs⟩ : ∃ zs, encP n (l.take k) = zs := ⟨_, rfl⟩
        rw [hzs] at hh HNX HLE
        clear hzs
        go_upto_region 11 with fail
        have P0 := Lib.hid (Blk.new wr #[.int .i64 r1, .int .i64 r2, .int .i64 r3, .int .i64 r4, .int .i64 r5, .int .i64 r6, .int .u64 r7, .int .u64 r8] 27)
        obtain ⟨V, hV⟩ : ∃ V, wr.alloc (.cells #[.int .i64 r1, .int .i64 r2, .int .i64 r3, .int .i64 r4, .int .i64 r5, .int .i64 r6, .int .u64 r7, .int .u64 r8] 27) = V := ⟨_, rfl⟩
        have WV := Lib.hid (show Wi w V b v zs by rw [← hV]; exact hh.out.bel_ ((Bel.refl _).alloc _))
        rw [hV] at P0 ⊢
        obtain ⟨g, hg⟩ : ∃ g, wr.heap.size = g := ⟨_, rfl⟩
        have HGB := Lib.hid (show g ≠ b from by have := hh.out.ws.blk.lt; omega)
        rw [hg] at P0 ⊢
        clear hV hg c0 c1 c2 c3 c4 c5 c6 c7
        have c0 := P0.out.cell 0 rfl
        go_wp2_with fail
        refine (wiN r1 WV.out (by have := HMY.out; omega) (by have := HMY.out; omega) (by have := HLE.out; omega)).mono ?_
        rintro e w4 ⟨rfl, v4, h4, k4⟩
        have W4_ := Lib.hid h4
        have P4 := Lib.hid (P0.out.kep k4 (by rintro (h | h); exact HGB.out h; exact P0.out.not_row (by decide) WV.out.ws.row h))
        have L4 := Lib.hid (show (zs ++ enc r1).length ≤ zs.length + 10 by rw [List.length_append]; have := (enc_len r1).2; omega)
        clear h4 k4 c0
        have c1 := P4.out.cell 1 rfl
        have c2 := P4.out.cell 2 rfl
        have c3 := P4.out.cell 3 rfl
        have c4 := P4.out.cell 4 rfl
        go_wp2_with fail
        refine (wiP r2 r3 r4 r5 W4_.out HMY.out.2.1 (by have := HLE.out; have := L4.out; omega)).mono ?_
        rintro e w5 ⟨rfl, v5, h5, k5⟩
        have W5_ := Lib.hid h5
        have P5 := Lib.hid (P4.out.kep k5 (by rintro (h | h); exact HGB.out h; exact P4.out.not_row (by decide) W4_.out.ws.row h))
        have L5 := Lib.hid (show (zs ++ enc r1 ++ Sm.enc4 r2 r3 r4 r5).length ≤ zs.length + 50 by rw [List.length_append]; have := Sm.enc4_len r2 r3 r4 r5; have := L4.out; omega)
        clear h5 k5 c1 c2 c3 c4
        have c5 := P5.out.cell 5 rfl
        go_wp2_with fail
        refine (wiN r6 W5_.out (by have := HMY.out.2.2.1; omega) (by have := HMY.out.2.2.1; omega) (by have := HLE.out; have := L5.out; omega)).mono ?_
        rintro e w6 ⟨rfl, v6, h6, k6⟩
        have W6_ := Lib.hid h6
        have P6 := Lib.hid (P5.out.kep k6 (by rintro (h | h); exact HGB.out h; exact P5.out.not_row (by decide) W5_.out.ws.row h))
        have L6 := Lib.hid (show (zs ++ enc r1 ++ Sm.enc4 r2 r3 r4 r5 ++ enc r6).length ≤ zs.length + 60 by rw [List.length_append]; have := (enc_len r6).2; have := L5.out; omega)
        clear h6 k6 c5
        have c6 := P6.out.cell 6 rfl
        go_wp2_with fail
        refine (wiU r7 W6_.out HN7.out.1 HN7.out.2 (by have := HLE.out; have := L6.out; omega)).mono ?_
        rintro e w7 ⟨rfl, v7, h7, k7⟩
        have W7_ := Lib.hid h7
        have P7 := Lib.hid (P6.out.kep k7 (by rintro (h | h); exact HGB.out h; exact P6.out.not_row (by decide) W6_.out.ws.row h))
        have L7 := Lib.hid (show (zs ++ enc r1 ++ Sm.enc4 r2 r3 r4 r5 ++ enc r6 ++ enc r7).length ≤ zs.length + 70 by rw [List.length_append]; have := (enc_len r7).2; have := L6.out; omega)
        clear h7 k7 c6
        have c7 := P7.out.cell 7 rfl
        go_wp2_with fail
        refine (wiU r8 W7_.out HN8.out.1 HN8.out.2 (by have := HLE.out; have := L7.out; omega)).mono ?_
        rintro e w8 ⟨rfl, v8, h8, k8⟩
        have W8_ := Lib.hid h8
        clear h8 k8 c7
        go_wp2_with fail
        go_roundw
        case rel => exact ⟨k + 1, v8, by go_num, by omega, Lib.hid (by rw [HNX.out]; exact W8_.out)⟩
        case measure => simp [intOf]; omega
      · obtain rfl : k = n := by omega
        have HL := Lib.hid (show encP k (l.take k) = encL l from by
          rw [List.take_of_length_le (by rw [HLN.out]; exact Nat.le_refl _)]
          unfold encP encL
          rw [HLN.out])
        rw [HL.out] at hh
        have DN := Lib.hid (wdone b 1048576 v _ b wr hh.out.ws)
        go_wp2_with fail
        refine (DN.out).mono ?_
        rintro e w8 ⟨u, rfl, hu⟩
        have HU := Lib.hid (show Fresh w w8 u (encL l) from ⟨owns_mono hu.1 (Below.size hh.out.bel), hh.out.bel.trans hu.2⟩)
        clear hu
        go_wp2_with fail
        go_ret2
        exact ⟨u, rfl, HU.out⟩
  · rw [if_neg h0]
    have hne : (e1 != 0) = true := by rw [bne_iff_ne]; exact h0
    clear h0
    go_enter Try.func37, Try.ntmps37
    go_wp2_with fail
    refine CK.out.mono ?_
    rintro e w1 ⟨rfl, kb⟩
    have K1 := Lib.hid (show Bel w w1 from kb)
    clear kb CK
    go_wp2_with fail
    go_ret2
    exact ⟨_, rfl, World.ownsRow_nil _ _ _ _, K1.out⟩
end Qu
end Go.Proofs.Ytdpompponngmdaa
end

section
/-
  What stamp.Take and stamp.Read read. Conditions: the reader is one that NewReader made of at most 10^6 bytes; the bytes are bytes.
-/
namespace Go.Proofs.Ytdpompponngmdaa
open Go.RowKit Go.Shelf
set_option linter.unusedVariables false
namespace Sm
open Cd

/-- A reader stands while a block that is no fault's turns. -/
theorem rd_kep {w w' : World} {b p : Nat} {A : Option Addr} {n c : Nat} {zs : List Int} {k : Nat} {f : Option (Int × Int)} {C : Array Value} {t : TypeId} (h : RD b w b A n c zs k f) (hp : Blk w p C t) (ht : t ≠ 60)
    (hk : Kep (fun i => i = p) w w') (hbp : b ≠ p) (hA : 0 < n → ∀ x : Addr, A = some x → x.block ≠ p) : RD b w' b A n c zs k f := by
  obtain ⟨F, h1, h2, h3⟩ := h
  refine ⟨F, h1.kep0 hk hbp hA, h2.kep hk (fun x hx e => ?_), h3⟩
  rcases h2 with ⟨_, h⟩ | ⟨e', q, fb, _, h5, _, h7, _⟩
  · rw [h] at hx; cases hx
  · rw [h5] at hx
    injection hx with hx
    subst hx
    have e : fb = p := e
    subst e
    have := (show w.heap[fb]? = _ from hp).symm.trans h7
    simp at this
    exact ht this.2

/-- The memory while a stamp is read: the stamp's block p, the result's q. -/
structure Ts (w0 w : World) (b p q : Nat) (A : Option Addr) (n c : Nat) (zs : List Int) (k : Nat) (f : Option (Int × Int)) (x1 x2 x3 x4 : Int) : Prop where
  rd : RD b w b A n c zs k f
  sp : Blk w p #[.int .i64 x1, .int .i64 x2, .int .i64 x3, .int .i64 x4] 24
  rq : Blk w q #[.int .i64 0, .int .i64 0, .int .i64 0, .int .i64 0] 24
  kep : Kep (fun i => i = b) w0 w
  bp : b < w0.heap.size
  hp : w0.heap.size ≤ p
  hq : w0.heap.size ≤ q
  pq : p ≠ q
  ap : 0 < n → ∀ x : Addr, A = some x → x.block < w0.heap.size
theorem Ts.call {w0 w w' : World} {b p q : Nat} {A : Option Addr} {n c : Nat} {zs : List Int} {k k' : Nat} {f f' : Option (Int × Int)} {x1 x2 x3 x4 : Int} (h : Ts w0 w b p q A n c zs k f x1 x2 x3 x4) (hr : RD b w' b A n c zs k' f') (hk : Kep (fun i => i = b) w w') : Ts w0 w' b p q A n c zs k' f' x1 x2 x3 x4 :=
  ⟨hr, h.sp.kep hk (by have := h.bp; have := h.hp; omega), h.rq.kep hk (by have := h.bp; have := h.hq; omega), h.kep.trans hk, h.bp, h.hp, h.hq, h.pq, h.ap⟩
theorem Ts.bel {w0 w w' : World} {b p q : Nat} {A : Option Addr} {n c : Nat} {zs : List Int} {k : Nat} {f : Option (Int × Int)} {x1 x2 x3 x4 : Int} (h : Ts w0 w b p q A n c zs k f x1 x2 x3 x4) (hk : Bel w w') : Ts w0 w' b p q A n c zs k f x1 x2 x3 x4 :=
  h.call (h.rd.bel hk) (Kep.of_bel hk)
theorem kep_past1 {w0 w w' : World} {b p : Nat} (h : Kep (fun i => i = b) w0 w) (hk : Kep (fun i => i = p) w w') (hp : w0.heap.size ≤ p) : Kep (fun i => i = b) w0 w' :=
  ⟨hk.os.trans h.os, hk.tape.trans h.tape, hk.output.trans h.output, Nat.le_trans h.size hk.size, fun i hi hS => (hk.block i (Nat.lt_of_lt_of_le hi h.size) (by omega)).trans (h.block i hi hS)⟩
theorem Ts.put {w0 w : World} {b p q : Nat} {A : Option Addr} {n c : Nat} {zs : List Int} {k : Nat} {f : Option (Int × Int)} {x1 x2 x3 x4 y1 y2 y3 y4 : Int} (h : Ts w0 w b p q A n c zs k f x1 x2 x3 x4) (i : Nat) (v : Value)
    (e : (#[.int .i64 x1, .int .i64 x2, .int .i64 x3, .int .i64 x4] : Array Value).setIfInBounds i v = #[.int .i64 y1, .int .i64 y2, .int .i64 y3, .int .i64 y4]) : Ts w0 (w.setCell ⟨p, i, none⟩ v) b p q A n c zs k f y1 y2 y3 y4 := by
  have hk : Kep (fun i => i = p) w (w.setCell ⟨p, i, none⟩ v) := (Kep.refl _ _).set_self i v
  refine ⟨rd_kep h.rd h.sp (by decide) hk (by have := h.bp; have := h.hp; omega) (fun hn x hx => by have := h.ap hn x hx; have := h.hp; omega), ?_, h.rq.kep hk (fun e => h.pq e.symm), kep_past1 h.kep hk h.hp, h.bp, h.hp, h.hq, h.pq, h.ap⟩
  rw [← e]
  exact h.sp.set i v

/-- How a stamp is read. -/
def Tk (zs : List Int) (k : Nat) (f : Option (Int × Int)) (a b c d : Int) (k' : Nat) (f' : Option (Int × Int)) : Prop :=
  ∃ k1 f1 k2 f2 k3 f3 c1 f4, RN zs k f 0 31 a k1 f1 ∧ RN zs k1 f1 1 4294967296 b k2 f2 ∧ RN zs k2 f2 0 32 c1 k3 f3 ∧ RN zs k3 f3 0 4294967296 d k' f4 ∧ c = c1 - 1 ∧ 0 ≤ c1 ∧ c1 ≤ 32 ∧ f' = failOf f4 (ck a b c d) (atOf k f)
/-- What is told of what is read. -/
def tz (f : Option (Int × Int)) (x : Int) : Int := match f with
  | none => x
  | some _ => 0

theorem flt_ne {w : World} {b : Nat} {A : Option Addr} {n c : Nat} {zs : List Int} {k : Nat} {p : Int × Int} (h : RD b w b A n c zs k (some p)) : p.1 ≠ 0 := by
  obtain ⟨F, _, h2, _⟩ := h
  rcases h2 with ⟨h, _⟩ | ⟨e, q, fb, h, _, _, _, h5⟩
  · cases h
  · injection h with h; subst h; exact h5

theorem field_flt (e p : Int) (w : World) : (Instr.field 60 (.agg #[.int .i64 e, .int .i64 p]) 0).run Try.prog w = .ok (.int .i64 e) w := by kernel_rfl
set_option maxRecDepth 10000 in
set_option maxHeartbeats 1000000 in
theorem faulty (b : Nat) (A : Option Addr) (n c : Nat) (zs : List Int) (k : Nat) (f : Option (Int × Int)) (w : World) (h : RD b w b A n c zs k f) :
    Calls Try.prog 112 #[.pointer (some ⟨b, 0, none⟩)] w fun r w' => r = .returned (.bool f.isSome) ∧ Bel w w' := by
  have LE := Lib.hid (fun V (hv : Bel w V) => rLeft b zs k f V (h.rs.bel hv))
  have EN := Lib.hid (fun V (hv : Bel w V) => rEnd b zs k f V (h.rs.bel hv))
  obtain ⟨l, hl⟩ : ∃ l, Cd.leftOf zs.length k f = l := ⟨_, rfl⟩
  obtain ⟨e, he⟩ : ∃ e, endOf zs.length k f = e := ⟨_, rfl⟩
  obtain ⟨e1, e2⟩ := e
  obtain ⟨x, hx⟩ : ∃ x, f.isSome = x := ⟨_, rfl⟩
  have hcase : (x = true ∧ l = 0 ∧ e1 ≠ 0) ∨ (x = false ∧ l ≠ 0) ∨ (x = false ∧ l = 0 ∧ e1 = 0) := by
    cases f with
    | some p =>
      refine .inl ⟨hx.symm, hl.symm, ?_⟩
      have h1 : p = (e1, e2) := he
      have h2 := flt_ne h
      rw [h1] at h2
      exact h2
    | none =>
      have hle : k ≤ zs.length := by
        obtain ⟨F, hr, _⟩ := h
        have := hr.sl.len; have := hr.le; omega
      have h1 : (zs.length : Int) - k = l := hl
      have h2 : (if k < zs.length then ((4 : Int), (k : Int)) else (0, 0)) = (e1, e2) := he
      by_cases hk : k < zs.length
      · exact .inr (.inl ⟨hx.symm, by omega⟩)
      · rw [if_neg hk] at h2
        injection h2 with h2 _
        exact .inr (.inr ⟨hx.symm, by omega, h2.symm⟩)
  rw [hl] at LE
  rw [he] at EN
  have hfd := field_flt e1 e2
  have EN := Lib.hid (fun V (hv : Bel w V) => show Calls Try.prog 67 #[.pointer (some ⟨b, 0, none⟩)] V fun e w' => e = .returned (.agg #[.int .i64 e1, .int .i64 e2]) ∧ Bel V w' from EN.out V hv)
  rw [hx]
  clear hl he hx h
  go_enter Try.func112, Try.ntmps112
  go_wp2_with fail
  refine (LE.out _ (Bel.refl _)).mono ?_
  rintro r w1 ⟨rfl, kb⟩
  have K1 := Lib.hid kb
  clear kb LE
  rcases hcase with ⟨rfl, rfl, h1⟩ | ⟨rfl, h1⟩ | ⟨rfl, rfl, rfl⟩
  · have h1' : (e1 != 0) = true := by rw [bne_iff_ne]; exact h1
    clear h1
    go_wp2_with fail
    refine (EN.out _ K1.out).mono ?_
    rintro r w2 ⟨rfl, kb⟩
    have K2 := Lib.hid (K1.out.trans kb)
    clear kb
    go_wp2_with fail
    go_ret
    exact ⟨rfl, K2.out⟩
  · have h1' : (l == 0) = false := beq_eq_false_iff_ne.2 h1
    clear h1
    go_wp2_with fail
    go_ret
    exact ⟨rfl, K1.out⟩
  · go_wp2_with fail
    refine (EN.out _ K1.out).mono ?_
    rintro r w2 ⟨rfl, kb⟩
    have K2 := Lib.hid (K1.out.trans kb)
    clear kb
    go_wp2_with fail
    go_ret
    exact ⟨rfl, K2.out⟩

set_option maxRecDepth 10000 in
set_option maxHeartbeats 2000000 in
theorem take (b : Nat) (A : Option Addr) (n c : Nat) (zs : List Int) (k : Nat) (f : Option (Int × Int)) (x1 x2 x3 x4 : Int) (k' : Nat) (f' : Option (Int × Int)) (w : World) (h : RD b w b A n c zs k f) (hA : 0 < n → ∀ x : Addr, A = some x → x.block < w.heap.size) (ht : Tk zs k f x1 x2 x3 x4 k' f') :
    Calls Try.prog 103 #[.pointer (some ⟨b, 0, none⟩)] w fun r w' => r = .returned (stV (tz f' x1) (tz f' x2) (tz f' x3) (tz f' x4)) ∧ RD b w' b A n c zs k' f' ∧ Kep (fun i => i = b) w w' := by
  obtain ⟨k1, f1, k2, f2, k3, f3, y3, f4, r1, r2, r3, r4, rfl, y0, y1, hf'⟩ := ht
  have hbl : b < w.heap.size := by obtain ⟨F, hr, _⟩ := h; exact hr.blk.lt
  have T0 : Ts w ((w.alloc (.cells #[.int .i64 0, .int .i64 0, .int .i64 0, .int .i64 0] 24)).alloc (.cells #[.int .i64 0, .int .i64 0, .int .i64 0, .int .i64 0] 24)) b (w.heap.size + 1) w.heap.size A n c zs k f 0 0 0 0 := by
    have b0 : Bel w ((w.alloc (.cells #[.int .i64 0, .int .i64 0, .int .i64 0, .int .i64 0] 24)).alloc (.cells #[.int .i64 0, .int .i64 0, .int .i64 0, .int .i64 0] 24)) := ((Bel.refl w).alloc _).alloc _
    have p0 := Blk.new (w.alloc (.cells #[.int .i64 0, .int .i64 0, .int .i64 0, .int .i64 0] 24)) #[.int .i64 0, .int .i64 0, .int .i64 0, .int .i64 0] 24
    rw [World.size_alloc] at p0
    exact ⟨h.bel b0, p0, (Blk.new w _ _).alloc _, Kep.of_bel b0, hbl, Nat.le_succ _, Nat.le_refl _, by omega, hA⟩
  have T0 := Lib.hid T0
  have CK := Lib.hid (fun V => check x1 x2 (y3 - 1) x4 V)
  have AT := Lib.hid (fun V (hv : RD b V b A n c zs k f) => rAt b zs k f V hv.rs)
  have N1 := Lib.hid (fun V (hv : RD b V b A n c zs k f) (hb : b < V.heap.size) => yN b b A n c zs k f 0 31 x1 k1 f1 V hv r1 (by decide) hb)
  have N2 := Lib.hid (fun V (hv : RD b V b A n c zs k1 f1) (hb : b < V.heap.size) => yN b b A n c zs k1 f1 1 4294967296 x2 k2 f2 V hv r2 (by decide) hb)
  have N3 := Lib.hid (fun V (hv : RD b V b A n c zs k2 f2) (hb : b < V.heap.size) => yN b b A n c zs k2 f2 0 32 y3 k3 f3 V hv r3 (by decide) hb)
  have N4 := Lib.hid (fun V (hv : RD b V b A n c zs k3 f3) (hb : b < V.heap.size) => yN b b A n c zs k3 f3 0 4294967296 x4 k' f4 V hv r4 (by decide) hb)
  have FL := Lib.hid (fun V e (hv : RD b V b A n c zs k' f4) (hb : b < V.heap.size) => yFail b b A n c zs k' f4 e (atOf k f) V hv hb)
  have FY := Lib.hid (fun V (hv : RD b V b A n c zs k' f') => faulty b A n c zs k' f' V hv)
  have LT := Lib.hid (fun (V : World) (hv : Kep (fun i => i = b) w V) => Nat.lt_of_lt_of_le hbl hv.size)
  have w3 : IntKind.i64.wrap (y3 - 1) = y3 - 1 := IntWalk.i64_in _ (by omega)
  obtain ⟨x3, hx3⟩ : ∃ x, y3 - 1 = x := ⟨_, rfl⟩
  obtain ⟨e, he⟩ : ∃ e, ck x1 x2 x3 x4 = e := ⟨_, rfl⟩
  obtain ⟨a, ha⟩ : ∃ a, atOf k f = a := ⟨_, rfl⟩
  rw [hx3] at CK hf' w3 ⊢
  rw [he] at CK hf'
  rw [ha] at AT hf' FL
  have HF := Lib.hid hf'
  clear h hA r1 r2 r3 r4 y0 y1 he ha hbl hf'
  go_enter Try.func103, Try.ntmps103
  go_upto_region 2 with fail
  obtain ⟨W, hW⟩ : ∃ W, (w.alloc (.cells #[.int .i64 0, .int .i64 0, .int .i64 0, .int .i64 0] 24)).alloc (.cells #[.int .i64 0, .int .i64 0, .int .i64 0, .int .i64 0] 24) = W := ⟨_, rfl⟩
  obtain ⟨p, hp⟩ : ∃ p, w.heap.size + 1 = p := ⟨_, rfl⟩
  obtain ⟨q, hq⟩ : ∃ q, w.heap.size = q := ⟨_, rfl⟩
  rw [hW, hp, hq] at T0
  rw [hW, hp, hq]
  clear hW hp hq
  go_wp2_with fail
  refine (AT.out _ T0.out.rd).mono ?_
  rintro r w1 ⟨rfl, rfl⟩
  go_wp2_with fail
  refine (N1.out _ T0.out.rd (LT.out _ T0.out.kep)).mono ?_
  rintro r w2 ⟨rfl, hr, hk⟩
  have T1 := Lib.hid (T0.out.call hr hk)
  clear hr hk T0
  have c0 := T1.out.sp.cell 0 rfl
  have f0 := T1.out.sp.frozen 0
  go_upto_region 4 with fail
  have T2 := Lib.hid (T1.out.put (y1 := x1) (y2 := 0) (y3 := 0) (y4 := 0) 0 (.int .i64 x1) rfl)
  obtain ⟨W2, hW⟩ : ∃ W, w2.setCell ⟨p, 0, none⟩ (.int .i64 x1) = W := ⟨_, rfl⟩
  rw [hW] at T2 ⊢
  clear hW c0 f0 T1
  go_wp2_with fail
  refine (N2.out _ T2.out.rd (LT.out _ T2.out.kep)).mono ?_
  rintro r w3 ⟨rfl, hr, hk⟩
  have T3 := Lib.hid (T2.out.call hr hk)
  clear hr hk T2
  have c1 := T3.out.sp.cell 1 rfl
  have f1' := T3.out.sp.frozen 1
  go_upto_region 5 with fail
  have T4 := Lib.hid (T3.out.put (y1 := x1) (y2 := x2) (y3 := 0) (y4 := 0) 1 (.int .i64 x2) rfl)
  obtain ⟨W4, hW⟩ : ∃ W, w3.setCell ⟨p, 1, none⟩ (.int .i64 x2) = W := ⟨_, rfl⟩
  rw [hW] at T4 ⊢
  clear hW c1 f1' T3
  go_wp2_with fail
  refine (N3.out _ T4.out.rd (LT.out _ T4.out.kep)).mono ?_
  rintro r w5 ⟨rfl, hr, hk⟩
  have T5 := Lib.hid (T4.out.call hr hk)
  clear hr hk T4
  have c2 := T5.out.sp.cell 2 rfl
  have f2' := T5.out.sp.frozen 2
  go_upto_region 6 with fail
  have T6 := Lib.hid (T5.out.put (y1 := x1) (y2 := x2) (y3 := x3) (y4 := 0) 2 (.int .i64 x3) rfl)
  obtain ⟨W6, hW⟩ : ∃ W, w5.setCell ⟨p, 2, none⟩ (.int .i64 x3) = W := ⟨_, rfl⟩
  rw [hW] at T6 ⊢
  clear hW c2 f2' T5
  go_wp2_with fail
  refine (N4.out _ T6.out.rd (LT.out _ T6.out.kep)).mono ?_
  rintro r w7 ⟨rfl, hr, hk⟩
  have T7 := Lib.hid (T6.out.call hr hk)
  clear hr hk T6
  have c3 := T7.out.sp.cell 3 rfl
  have f3' := T7.out.sp.frozen 3
  go_upto_region 7 with fail
  have T8 := Lib.hid (T7.out.put (y1 := x1) (y2 := x2) (y3 := x3) (y4 := x4) 3 (.int .i64 x4) rfl)
  obtain ⟨W8, hW⟩ : ∃ W, w7.setCell ⟨p, 3, none⟩ (.int .i64 x4) = W := ⟨_, rfl⟩
  rw [hW] at T8 ⊢
  clear hW c3 f3' T7
  have c0 := T8.out.sp.cell 0 rfl
  have c1 := T8.out.sp.cell 1 rfl
  have c2 := T8.out.sp.cell 2 rfl
  have c3 := T8.out.sp.cell 3 rfl
  go_wp2_with fail
  refine (CK.out _).mono ?_
  rintro r w9 ⟨rfl, kb⟩
  have T9 := Lib.hid (T8.out.bel kb)
  clear kb T8 c0 c1 c2 c3
  go_wp2_with fail
  refine (FL.out _ _ T9.out.rd (LT.out _ T9.out.kep)).mono ?_
  rintro r wa ⟨rfl, hr, hk⟩
  rw [← HF.out] at hr
  have Ta := Lib.hid (T9.out.call hr hk)
  clear hr hk T9
  go_wp2_with fail
  refine (FY.out _ Ta.out.rd).mono ?_
  rintro r wb ⟨rfl, kb⟩
  have Tb := Lib.hid (Ta.out.bel kb)
  clear kb Ta HF CK AT N1 N2 N3 N4 FL FY
  have d0 := Tb.out.rq.cell 0 rfl
  have d1 := Tb.out.rq.cell 1 rfl
  have d2 := Tb.out.rq.cell 2 rfl
  have d3 := Tb.out.rq.cell 3 rfl
  have g0 := Tb.out.rq.frozen 0
  have g1 := Tb.out.rq.frozen 1
  have g2 := Tb.out.rq.frozen 2
  have g3 := Tb.out.rq.frozen 3
  have c0 := Tb.out.sp.cell 0 rfl
  have c1 := Tb.out.sp.cell 1 rfl
  have c2 := Tb.out.sp.cell 2 rfl
  have c3 := Tb.out.sp.cell 3 rfl
  have fin : ∀ (v1 v2 v3 v4 : Value), RD b ((((wb.setCell ⟨q, 0, none⟩ v1).setCell ⟨q, 1, none⟩ v2).setCell ⟨q, 2, none⟩ v3).setCell ⟨q, 3, none⟩ v4) b A n c zs k' f' ∧ Kep (fun i => i = b) w ((((wb.setCell ⟨q, 0, none⟩ v1).setCell ⟨q, 1, none⟩ v2).setCell ⟨q, 2, none⟩ v3).setCell ⟨q, 3, none⟩ v4) := fun v1 v2 v3 v4 => by
    have hk : Kep (fun i => i = q) wb ((((wb.setCell ⟨q, 0, none⟩ v1).setCell ⟨q, 1, none⟩ v2).setCell ⟨q, 2, none⟩ v3).setCell ⟨q, 3, none⟩ v4) := ((((Kep.refl _ _).set_self 0 v1).set_self 1 v2).set_self 2 v3).set_self 3 v4
    exact ⟨rd_kep Tb.out.rd Tb.out.rq (by decide) hk (by have := Tb.out.bp; have := Tb.out.hq; omega) (fun hn x hx => by have := Tb.out.ap hn x hx; have := Tb.out.hq; omega), kep_past1 Tb.out.kep hk Tb.out.hq⟩
  have HFin := Lib.hid fin
  have HRQ := Lib.hid Tb.out.rq
  clear fin
  cases f' with
  | none =>
    go_wp2_with fail
    refine bodyPost_ret (Pm.res_c rfl _ _ ⟨q, 0, none⟩ _ rfl (load_st ((((HRQ.out.set 0 _).set 1 _).set 2 _).set 3 _))) rfl ⟨rfl, HFin.out _ _ _ _⟩
  | some pp =>
    go_wp2_with fail
    refine bodyPost_ret (Pm.res_c rfl _ _ ⟨q, 0, none⟩ _ rfl (load_st ((((HRQ.out.set 0 _).set 1 _).set 2 _).set 3 _))) rfl ⟨rfl, HFin.out _ _ _ _⟩
end Sm
end Go.Proofs.Ytdpompponngmdaa
end

section
/-
  How a queue is read: what a run of reads is, that there is one for any bytes, that a queue's own bytes are read as it, and that what is read without a fault has just those bytes. No program.
-/
namespace Go.Proofs.Ytdpompponngmdaa
open Go.RowKit Go.Shelf
set_option linter.unusedVariables false
set_option Elab.async false
namespace Qu
open Cd

theorem fail_some (p : Int × Int) (e q : Int) : failOf (some p) e q = some p := by
  unfold failOf
  split <;> rfl
theorem fail_no {e q : Int} (h : e = 0) : failOf none e q = none := by unfold failOf; rw [if_pos h]
theorem fail_yes {e q : Int} (h : e ≠ 0) : failOf none e q = some (e, q) := by unfold failOf; rw [if_neg h]
theorem fail_none {f : Option (Int × Int)} {e q : Int} (h : failOf f e q = none) : f = none ∧ e = 0 := by
  cases f with
  | some p => rw [fail_some] at h; cases h
  | none =>
    by_cases he : e = 0
    · exact ⟨rfl, he⟩
    · rw [fail_yes he] at h; cases h
theorem fail_nz {f : Option (Int × Int)} {e q : Int} (h : ∀ p, f = some p → p.1 ≠ 0) : ∀ p, failOf f e q = some p → p.1 ≠ 0 := fun p hp => by
  cases f with
  | some p' => rw [fail_some] at hp; exact h p hp
  | none =>
    by_cases he : e = 0
    · rw [fail_no he] at hp; cases hp
    · rw [fail_yes he] at hp; injection hp with hp; rw [← hp]; exact he
theorem rn_some {zs : List Int} {k : Nat} {p : Int × Int} {least most x : Int} {k' : Nat} {f' : Option (Int × Int)} (h : RN zs k (some p) least most x k' f') : x = 0 ∧ k' = k ∧ f' = some p := by
  rcases h with ⟨q, h1, h2, h3, h4⟩ | ⟨h1, _⟩
  · exact ⟨h2, h3, h4⟩
  · cases h1
theorem ru_some {zs : List Int} {k : Nat} {p : Int × Int} {x : Int} {k' : Nat} {f' : Option (Int × Int)} (h : RU zs k (some p) x k' f') : x = 0 ∧ k' = k ∧ f' = some p := by
  rcases h with ⟨q, h1, h2, h3, h4⟩ | ⟨h1, _⟩
  · exact ⟨h2, h3, h4⟩
  · cases h1
theorem rn_all (zs : List Int) (hb : Bytes zs) (k : Nat) (hk : k ≤ zs.length) (f : Option (Int × Int)) (hf : ∀ p, f = some p → p.1 ≠ 0) (least most : Int) : ∃ x k' f', RN zs k f least most x k' f' ∧ k' ≤ zs.length ∧ (x = 0 ∨ (least ≤ x ∧ x ≤ most)) ∧ (∀ p, f' = some p → p.1 ≠ 0) ∧ (f' = none → f = none ∧ least ≤ x ∧ x ≤ most ∧ zs.take k ++ enc x = zs.take k') := by
  cases f with
  | some p => exact ⟨0, k, some p, .inl ⟨p, rfl, rfl, rfl, rfl⟩, hk, .inl rfl, hf, fun h => by cases h⟩
  | none =>
    obtain ⟨x, k', f', r, q, h⟩ := Rm.rn_of zs hb k hk least most
    rcases h with ⟨rfl, a0, a1, t⟩ | ⟨e, he, rfl, rfl, rfl⟩
    · exact ⟨x, k', none, r, q, .inr ⟨a0, a1⟩, fun p hp => (by cases hp), fun _ => ⟨rfl, a0, a1, t⟩⟩
    · exact ⟨0, k', _, r, q, .inl rfl, fun p hp => (by injection hp with hp; rw [← hp]; exact he), fun h => by cases h⟩
theorem ru_all (zs : List Int) (hb : Bytes zs) (k : Nat) (hk : k ≤ zs.length) (f : Option (Int × Int)) (hf : ∀ p, f = some p → p.1 ≠ 0) : ∃ x k' f', RU zs k f x k' f' ∧ k' ≤ zs.length ∧ (0 ≤ x ∧ x ≤ 18446744073709551615) ∧ (∀ p, f' = some p → p.1 ≠ 0) ∧ (f' = none → f = none ∧ zs.take k ++ enc x = zs.take k') := by
  cases f with
  | some p => exact ⟨0, k, some p, .inl ⟨p, rfl, rfl, rfl, rfl⟩, hk, by omega, hf, fun h => by cases h⟩
  | none =>
    obtain ⟨x, k', f', r, x0, x1, h⟩ := ru_of zs hb k hk
    rcases h with ⟨rfl, q, t⟩ | ⟨e, he, rfl, rfl⟩
    · exact ⟨x, k', none, r, q, ⟨x0, x1⟩, fun p hp => (by cases hp), fun _ => ⟨rfl, t⟩⟩
    · exact ⟨x, k', _, r, hk, ⟨x0, x1⟩, fun p hp => (by injection hp with hp; rw [← hp]; exact he), fun h => by cases h⟩
theorem tk_of (zs : List Int) (hb : Bytes zs) (k : Nat) (hk : k ≤ zs.length) : ∃ a b c d k' f', Sm.Tk zs k none a b c d k' f' ∧ k' ≤ zs.length ∧ (∀ p, f' = some p → p.1 ≠ 0) ∧ (f' = none → Sm.ck a b c d = 0 ∧ zs.take k ++ Sm.enc4 a b c d = zs.take k') := by
  obtain ⟨a, k1, f1, r1, h1, o1⟩ := Rm.rn_of zs hb k hk 0 31
  rcases o1 with ⟨rfl, a0, a1, t1⟩ | ⟨e, he, rfl, rfl, rfl⟩
  · obtain ⟨b, k2, f2, r2, h2, o2⟩ := Rm.rn_of zs hb k1 h1 1 4294967296
    rcases o2 with ⟨rfl, b0, b1, t2⟩ | ⟨e, he, rfl, rfl, rfl⟩
    · obtain ⟨c, k3, f3, r3, h3, o3⟩ := Rm.rn_of zs hb k2 h2 0 32
      rcases o3 with ⟨rfl, c0, c1, t3⟩ | ⟨e, he, rfl, rfl, rfl⟩
      · obtain ⟨d, k4, f4, r4, h4, o4⟩ := Rm.rn_of zs hb k3 h3 0 4294967296
        rcases o4 with ⟨rfl, d0, d1, t4⟩ | ⟨e, he, rfl, rfl, rfl⟩
        · refine ⟨a, b, c - 1, d, k4, failOf none (Sm.ck a b (c - 1) d) (atOf k none), ⟨k1, none, k2, none, k3, none, c, none, r1, r2, r3, r4, rfl, c0, c1, rfl⟩, h4, ?_, ?_⟩
          · intro p hp
            unfold failOf at hp
            by_cases h0 : Sm.ck a b (c - 1) d = 0
            · rw [if_pos h0] at hp; cases hp
            · rw [if_neg h0] at hp; injection hp with hp; subst hp; exact h0
          · intro hn
            unfold failOf at hn
            by_cases h0 : Sm.ck a b (c - 1) d = 0
            · refine ⟨h0, ?_⟩
              unfold Sm.enc4
              rw [show c - 1 + 1 = c by omega, ← List.append_assoc, ← List.append_assoc, ← List.append_assoc, t1, t2, t3, t4]
            · rw [if_neg h0] at hn; cases hn
        · exact ⟨a, b, c - 1, 0, k4, some (e, (k4 : Int)), ⟨k1, none, k2, none, k4, none, c, some (e, (k4 : Int)), r1, r2, r3, r4, rfl, c0, c1, by unfold failOf; split <;> rfl⟩, h4, fun p hp => by injection hp with hp; subst hp; exact he, fun h => by cases h⟩
      · exact ⟨a, b, -1, 0, k3, some (e, (k3 : Int)), ⟨k1, none, k3, none, k3, some (e, (k3 : Int)), 0, some (e, (k3 : Int)), r1, r2, r3, .inl ⟨_, rfl, rfl, rfl, rfl⟩, rfl, by decide, by decide, by unfold failOf; split <;> rfl⟩, h3, fun p hp => by injection hp with hp; subst hp; exact he, fun h => by cases h⟩
    · exact ⟨a, 0, -1, 0, k2, some (e, (k2 : Int)), ⟨k2, none, k2, some (e, (k2 : Int)), k2, some (e, (k2 : Int)), 0, some (e, (k2 : Int)), r1, r2, .inl ⟨_, rfl, rfl, rfl, rfl⟩, .inl ⟨_, rfl, rfl, rfl, rfl⟩, rfl, by decide, by decide, by unfold failOf; split <;> rfl⟩, h2, fun p hp => by injection hp with hp; subst hp; exact he, fun h => by cases h⟩
  · exact ⟨0, 0, -1, 0, k1, some (e, (k1 : Int)), ⟨k1, some (e, (k1 : Int)), k1, some (e, (k1 : Int)), k1, some (e, (k1 : Int)), 0, some (e, (k1 : Int)), r1, .inl ⟨_, rfl, rfl, rfl, rfl⟩, .inl ⟨_, rfl, rfl, rfl, rfl⟩, .inl ⟨_, rfl, rfl, rfl, rfl⟩, rfl, by decide, by decide, by unfold failOf; split <;> rfl⟩, h1, fun p hp => by injection hp with hp; subst hp; exact he, fun h => by cases h⟩

theorem tk_fault (zs : List Int) (k : Nat) (p : Int × Int) : Sm.Tk zs k (some p) 0 0 (-1) 0 k (some p) :=
  ⟨k, some p, k, some p, k, some p, 0, some p, .inl ⟨p, rfl, rfl, rfl, rfl⟩, .inl ⟨p, rfl, rfl, rfl, rfl⟩, .inl ⟨p, rfl, rfl, rfl, rfl⟩, .inl ⟨p, rfl, rfl, rfl, rfl⟩, rfl, by decide, by decide, by unfold failOf; split <;> rfl⟩
theorem tk_some {zs : List Int} {k : Nat} {p : Int × Int} {a b c d : Int} {k' : Nat} {f' : Option (Int × Int)} (h : Sm.Tk zs k (some p) a b c d k' f') : f' = some p ∧ k' = k := by
  obtain ⟨k1, f1, k2, f2, k3, f3, c1, f4, r1, r2, r3, r4, _, _, _, rfl⟩ := h
  obtain ⟨-, rfl, rfl⟩ := rn_some r1
  obtain ⟨-, rfl, rfl⟩ := rn_some r2
  obtain ⟨-, rfl, rfl⟩ := rn_some r3
  obtain ⟨-, rfl, rfl⟩ := rn_some r4
  exact ⟨fail_some _ _ _, rfl⟩
theorem tk_all (zs : List Int) (hb : Bytes zs) (k : Nat) (hk : k ≤ zs.length) (f : Option (Int × Int)) (hf : ∀ p, f = some p → p.1 ≠ 0) : ∃ a b c d k' f', Sm.Tk zs k f a b c d k' f' ∧ k' ≤ zs.length ∧ (∀ p, f' = some p → p.1 ≠ 0) ∧ (f' = none → f = none ∧ Sm.ck a b c d = 0 ∧ zs.take k ++ Sm.enc4 a b c d = zs.take k') := by
  cases f with
  | some p => exact ⟨0, 0, -1, 0, k, some p, tk_fault zs k p, hk, hf, fun h => by cases h⟩
  | none =>
    obtain ⟨a, b, c, d, k', f', h1, h2, h3, h4⟩ := tk_of zs hb k hk
    exact ⟨a, b, c, d, k', f', h1, h2, h3, fun h => ⟨rfl, h4 h⟩⟩
/-- How an entry is read, behind one that was created at bef. -/
def Te (zs : List Int) (k : Nat) (f : Option (Int × Int)) (bef : Int) (x : E8) (k' : Nat) (f' : Option (Int × Int)) : Prop :=
  ∃ o a b c d u i n k1 f1 k2 f2 k3 f3 k4 f4 f5, x = (o, Sm.tz f2 a, Sm.tz f2 b, Sm.tz f2 c, Sm.tz f2 d, u, i, n) ∧ RN zs k f 0 63 o k1 f1 ∧ Sm.Tk zs k1 f1 a b c d k2 f2 ∧ RN zs k2 f2 1 4294967296 u k3 f3 ∧ RU zs k3 f3 i k4 f4 ∧ RU zs k4 f4 n k' f5 ∧ f' = failOf f5 (qE bef x) (atOf k f)
/-- Words. -/
def Ww (x : E8) : Prop := (0 ≤ ini x ∧ ini x ≤ 18446744073709551615) ∧ 0 ≤ bal x ∧ bal x ≤ 18446744073709551615
theorem te_of (zs : List Int) (hb : Bytes zs) (k : Nat) (hk : k ≤ zs.length) (bef : Int) : ∃ x k' f', Te zs k none bef x k' f' ∧ k' ≤ zs.length ∧ Ww x ∧ (∀ p, f' = some p → p.1 ≠ 0) ∧ (f' = none → qE bef x = 0 ∧ zs.take k ++ Rm.encs (nums x) = zs.take k') := by
  obtain ⟨o, k1, f1, r1, q1, b1, n1, g1⟩ := rn_all zs hb k hk none (fun p h => by cases h) 0 63
  obtain ⟨a, b, c, d, k2, f2, r2, q2, n2, g2⟩ := tk_all zs hb k1 q1 f1 n1
  obtain ⟨u, k3, f3, r3, q3, b3, n3, g3⟩ := rn_all zs hb k2 q2 f2 n2 1 4294967296
  obtain ⟨i, k4, f4, r4, q4, b4, n4, g4⟩ := ru_all zs hb k3 q3 f3 n3
  obtain ⟨n, k5, f5, r5, q5, b5, n5, g5⟩ := ru_all zs hb k4 q4 f4 n4
  refine ⟨(o, Sm.tz f2 a, Sm.tz f2 b, Sm.tz f2 c, Sm.tz f2 d, u, i, n), k5, _, ⟨o, a, b, c, d, u, i, n, k1, f1, k2, f2, k3, f3, k4, f4, f5, rfl, r1, r2, r3, r4, r5, rfl⟩, q5, ⟨b4, b5⟩, fail_nz n5, fun h => ?_⟩
  obtain ⟨h5, hq⟩ := fail_none h
  obtain ⟨h4, t5⟩ := g5 h5
  obtain ⟨h3, t4⟩ := g4 h4
  obtain ⟨h2, _, _, t3⟩ := g3 h3
  obtain ⟨h1, _, t2⟩ := g2 h2
  obtain ⟨_, _, _, t1⟩ := g1 h1
  refine ⟨hq, ?_⟩
  subst h2
  rw [← t5, ← t4, ← t3, ← t2, ← t1]
  show zs.take k ++ Rm.encs [o, a, b, c + 1, d, u, i, n] = _
  simp [Rm.encs, Sm.enc4, List.append_assoc]
/-- How entries are read, one behind the other, without a fault till then. -/
def Rl (zs : List Int) : Nat → List E8 → Nat → Int → Nat → Option (Int × Int) → Prop
  | 0, l, k, _, k', f' => l = [] ∧ k' = k ∧ f' = none
  | m + 1, l, k, bef, k', f' => ∃ x k1 f1, Te zs k none bef x k1 f1 ∧ Ww x ∧ ((f1 = none ∧ ∃ t, l = x :: t ∧ Rl zs m t k1 (cr x) k' f') ∨ (∃ p, f1 = some p ∧ l = [] ∧ k' = k1 ∧ f' = f1))
theorem rl_of (zs : List Int) (hb : Bytes zs) : ∀ (m k : Nat) (bef : Int), k ≤ zs.length → ∃ l k' f', Rl zs m l k bef k' f' ∧ k' ≤ zs.length ∧ (∀ p, f' = some p → p.1 ≠ 0) ∧ (∀ r ∈ l, Ww r) ∧ (f' = none → l.length = m ∧ Srt bef l ∧ zs.take k ++ Rm.encs (l.flatMap nums) = zs.take k')
  | 0, k, bef, hk => ⟨[], k, none, ⟨rfl, rfl, rfl⟩, hk, fun p h => (by cases h), fun r h => (by cases h), fun _ => ⟨rfl, trivial, by simp [Rm.encs]⟩⟩
  | m + 1, k, bef, hk => by
    obtain ⟨x, k1, f1, h1, q1, w1, n1, g1⟩ := te_of zs hb k hk bef
    cases f1 with
    | some p => exact ⟨[], k1, some p, ⟨x, k1, some p, h1, w1, .inr ⟨p, rfl, rfl, rfl, rfl⟩⟩, q1, n1, fun r h => (by cases h), fun h => (by cases h)⟩
    | none =>
      obtain ⟨l, k', f', h2, q2, n2, w2, g2⟩ := rl_of zs hb m k1 (cr x) q1
      refine ⟨x :: l, k', f', ⟨x, k1, none, h1, w1, .inl ⟨rfl, l, rfl, h2⟩⟩, q2, n2, fun r hr => ?_, fun h => ?_⟩
      · rcases List.mem_cons.1 hr with rfl | hr
        · exact w1
        · exact w2 r hr
      · obtain ⟨e1, e2, e3⟩ := g2 h
        obtain ⟨e4, e5⟩ := g1 rfl
        refine ⟨by simp [e1], ⟨(qE_ok e4).1, (qE_ok e4).2, e2⟩, ?_⟩
        rw [← e3, ← e5, List.flatMap_cons, Rm.encs_app, List.append_assoc]
/-- How a queue is read. -/
def Rq (zs : List Int) (l : List E8) (k' : Nat) (f' : Option (Int × Int)) : Prop :=
  ∃ m k0 f0, RN zs 0 none 0 32768 m k0 f0 ∧ ((∃ p, f0 = some p ∧ m = 0 ∧ l = [] ∧ k' = k0 ∧ f' = f0) ∨ (f0 = none ∧ 0 ≤ m ∧ m ≤ 32768 ∧ Rl zs m.toNat l k0 0 k' f'))
theorem rq_of (zs : List Int) (hb : Bytes zs) : ∃ l k' f', Rq zs l k' f' ∧ k' ≤ zs.length ∧ (∀ p, f' = some p → p.1 ≠ 0) ∧ (∀ r ∈ l, Ww r) ∧ (f' = none → l.length ≤ 32768 ∧ Srt 0 l ∧ encL l = zs.take k') := by
  obtain ⟨m, k0, f0, r0, q0, o0⟩ := Rm.rn_of zs hb 0 (Nat.zero_le _) 0 32768
  rcases o0 with ⟨rfl, m0, m1, t0⟩ | ⟨e, he, rfl, rfl, rfl⟩
  rotate_left
  · exact ⟨[], 0, some (e, ((0 : Nat) : Int)), ⟨0, 0, some (e, ((0 : Nat) : Int)), r0, .inl ⟨_, rfl, rfl, rfl, rfl, rfl⟩⟩, q0, fun p hp => (by injection hp with hp; rw [← hp]; exact he), fun r h => (by cases h), fun h => (by cases h)⟩
  ·
    obtain ⟨l, k', f', h2, q2, n2, w2, g2⟩ := rl_of zs hb m.toNat k0 0 q0
    refine ⟨l, k', f', ⟨m, k0, none, r0, .inr ⟨rfl, m0, m1, h2⟩⟩, q2, n2, w2, fun h => ?_⟩
    obtain ⟨e1, e2, e3⟩ := g2 h
    refine ⟨by omega, e2, ?_⟩
    rw [← e3, ← t0]
    unfold encL
    rw [Rm.encs_cons, e1, show ((m.toNat : Nat) : Int) = m by omega]
    simp
end Qu
end Go.Proofs.Ytdpompponngmdaa
end
