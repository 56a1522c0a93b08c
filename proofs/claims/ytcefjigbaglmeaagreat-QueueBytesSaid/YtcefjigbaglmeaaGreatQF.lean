/-
  Texts of this claim, put together: Qu25, Sm3, QuM3, Qu26, Qu27, Qu28. What each one says, and under which conditions, stands ahead of it.
-/
import Derived.Test.YtcefjigbaglmeaaGreatQE
import Derived.Test.YtcefjigbaglmeaaGreatHA
import Derived.Test.YtcefjigbaglmeaaGreatGWriter3
import Derived.Test.YtcefjigbaglmeaaGreatRC

section
/-
  What queue.Bytes answers of any queue. Conditions: at most 10,000 entries; Balances and Initials are words.
-/
namespace Go.Proofs.YtcefjigbaglmeaaGreat
open Go.RowKit Go.Shelf
set_option linter.unusedVariables false
set_option linter.unusedSimpArgs false
set_option Elab.async false
namespace Qu
open Cd

def nums : E8 → List Int
  | (o, a, b, c, d, u, i, n) => [o, a, b, c + 1, d, u, i, n]
/-- A list's bytes. -/
def encL (l : List E8) : List Int := Rm.encs ((l.length : Int) :: l.flatMap nums)
def encP (n : Int) (l : List E8) : List Int := Rm.encs (n :: l.flatMap nums)
theorem encP_next {n : Int} {l : List E8} {k : Nat} {o a b c d u i m : Int} (h : l[k]? = some (o, a, b, c, d, u, i, m)) : encP n (l.take (k + 1)) = encP n (l.take k) ++ enc o ++ Sm.enc4 a b c d ++ enc u ++ enc i ++ enc m := by
  unfold encP
  rw [List.take_add_one, h, List.flatMap_append, show n :: ((l.take k).flatMap nums ++ (some (o, a, b, c, d, u, i, m)).toList.flatMap nums) = (n :: (l.take k).flatMap nums) ++ [o, a, b, c + 1, d, u, i, m] from rfl, Rm.encs_app]
  simp [Rm.encs, Sm.enc4, List.append_assoc]
theorem nums_len : ∀ l : List E8, (l.flatMap nums).length = 8 * l.length := by
  intro l
  induction l with
  | nil => rfl
  | cons r l ih =>
    obtain ⟨a, b, c, d, e, f, g, h⟩ := r
    rw [List.flatMap_cons, List.length_append, ih, List.length_cons]
    simp [nums]; omega
theorem encP_len (n : Int) (l : List E8) : (encP n l).length ≤ 10 + 80 * l.length := by
  have h1 := Rm.encs_len (n :: l.flatMap nums)
  rw [List.length_cons, nums_len] at h1
  unfold encP
  omega
/-- The writer between two entries. -/
structure Wi (w wr : World) (b : Nat) (v : Value) (zs : List Int) : Prop where
  ws : WS wr b 1048576 v 0 zs b
  bel : Bel w wr
  ge : w.heap.size ≤ b
theorem Wi.next {w wr wn : World} {b : Nat} {v v' : Value} {zs more : List Int} (h : Wi w wr b v zs) (h1 : WS wn b 1048576 v' 0 (zs ++ more) b) (hk : Kep (Own2 b v) wr wn) : Wi w wn b v' (zs ++ more) :=
  ⟨h1, Kep.bel h.bel hk (fun i hi => by
    rcases hi with rfl | hi
    · exact h.ge
    · exact Nat.le_trans h.ge (h.ws.row.lt i hi).1), h.ge⟩
theorem Wi.bel_ {w wr wn : World} {b : Nat} {v : Value} {zs : List Int} (h : Wi w wr b v zs) (hb : Bel wr wn) : Wi w wn b v zs := ⟨h.ws.bel hb, h.bel.trans hb, h.ge⟩
theorem wiN {w wr : World} {b : Nat} {v : Value} {zs : List Int} (x : Int) (h : Wi w wr b v zs) (x0 : 0 ≤ x) (x1 : x ≤ 9223372036854775807) (hf : zs.length + 10 ≤ 1048576) :
    Calls Tryz.prog 21 #[.pointer (some ⟨b, 0, none⟩), .int .i64 x] wr fun e w' => e = .returned (.int .i64 0) ∧ ∃ v', Wi w w' b v' (zs ++ enc x) ∧ Kep (Own2 b v) wr w' := by
  have hl := (enc_len x).2
  have e1 : stp 1048576 (zs, 0) (enc x) = (zs ++ enc x, 0) := Sm.stp_ok (by rw [List.length_append]; omega)
  have := nAny b 1048576 v (zs, 0) b x wr h.ws x0 x1
  rw [e1] at this
  refine this.mono ?_
  rintro e w' ⟨he, v', h1, _, h3⟩
  exact ⟨he, v', h.next h1 h3, h3⟩
theorem wiU {w wr : World} {b : Nat} {v : Value} {zs : List Int} (x : Int) (h : Wi w wr b v zs) (x0 : 0 ≤ x) (x1 : x ≤ 18446744073709551615) (hf : zs.length + 10 ≤ 1048576) :
    Calls Tryz.prog 23 #[.pointer (some ⟨b, 0, none⟩), .int .u64 x] wr fun e w' => e = .returned (.int .i64 0) ∧ ∃ v', Wi w w' b v' (zs ++ enc x) ∧ Kep (Own2 b v) wr w' := by
  have hl := (enc_len x).2
  refine (wU3 b 1048576 v zs b x wr h.ws x0 x1).mono ?_
  rintro e w' ⟨r, rfl, ha, hk⟩
  rcases ha with ⟨rfl, h1, v', h2, h3⟩ | ⟨rfl, h1, h2⟩
  · exact ⟨rfl, v', h.next h2 hk, hk⟩
  · rw [List.length_append] at h1; omega
theorem put4_at {zs : List Int} {a b c d : Int} (h : Sm.ck a b c d = 0) (hf : zs.length + 40 ≤ 1048576) : Sm.put4 1048576 (zs, 0) a b c d = (zs ++ Sm.enc4 a b c d, 0) := by
  have h1 := (enc_len a).2
  have h2 := (enc_len b).2
  have h3 := (enc_len (c + 1)).2
  have h4 := (enc_len d).2
  unfold Sm.put4 Sm.enc4
  rw [if_pos h, Sm.stp_ok (by simp only [List.length_append]; omega), Sm.stp_ok (by simp only [List.length_append]; omega), Sm.stp_ok (by simp only [List.length_append]; omega), Sm.stp_ok (by simp only [List.length_append]; omega)]
  simp [List.append_assoc]
theorem wiP {w wr : World} {b : Nat} {v : Value} {zs : List Int} (x1 x2 x3 x4 : Int) (h : Wi w wr b v zs) (hk : Sm.ck x1 x2 x3 x4 = 0) (hf : zs.length + 40 ≤ 1048576) :
    Calls Tryz.prog 22 #[.pointer (some ⟨b, 0, none⟩), .agg #[.int .i64 x1, .int .i64 x2, .int .i64 x3, .int .i64 x4]] wr fun e w' => e = .returned (.int .i64 0) ∧ ∃ v', Wi w w' b v' (zs ++ Sm.enc4 x1 x2 x3 x4) ∧ Kep (Own2 b v) wr w' := by
  have := Sm.put b 1048576 v (zs, 0) b x1 x2 x3 x4 wr h.ws (show (0 : Int) ≠ 1 by decide)
  rw [put4_at hk hf, if_pos hk] at this
  refine this.mono ?_
  rintro e w' ⟨he, v', h1, _, h3⟩
  exact ⟨he, v', h.next h1 h3, h3⟩
/-- What Bytes tells. -/
def ByR (w w' : World) (l : List E8) (e : Ending) : Prop :=
  ∃ v, e = .returned (.tuple #[v, .int .i64 (chk l).1]) ∧ Fresh w w' v (if (chk l).1 = 0 then encL l else [])
/-- Initials are words. -/
def Wn (l : List E8) : Prop := ∀ r ∈ l, 0 ≤ ini r ∧ ini r ≤ 18446744073709551615
set_option maxRecDepth 100000 in
set_option maxHeartbeats 16000000 in
theorem bytes_ (A : Option Addr) (n c : Nat) (l : List E8) (w : World) (hi : Rw.RS eR w A n c l) (hn : n ≤ 10000) (hw : Wd l) (hwn : Wn l) :
    Calls Tryz.prog 5 #[.slice A n c] w fun e w' => ByR w w' l e := by
  have HR := Lib.hid hi
  have HLN := Lib.hid hi.len
  have HWD := Lib.hid hw
  have HWN := Lib.hid hwn
  have CK := Lib.hid (check A n c l w hi (by omega) hw)
  obtain ⟨e1, he1⟩ : ∃ e, (chk l).1 = e := ⟨_, rfl⟩
  obtain ⟨e2, he2⟩ : ∃ e, (chk l).2 = e := ⟨_, rfl⟩
  have HE1 := Lib.hid he1
  rw [he1, he2] at CK
  unfold ByR
  rw [he1]
  clear hi he1 he2 hw hwn
  by_cases h0 : e1 = 0
  · subst h0
    rw [if_pos rfl]
    have HOK := Lib.hid (chk_ok.1 HE1.out)
    go_enter Tryz.func5, Tryz.ntmps5
    go_wp2_with fail
    refine CK.out.mono ?_
    rintro e w1 ⟨rfl, kb⟩
    have K1 := Lib.hid (show Bel w w1 from kb)
    clear kb CK
    go_wp2_with fail
    refine (newWriter 1048576 w1 (by decide) (by decide)).mono ?_
    rintro e w2 ⟨rfl, hws, k1⟩
    have HGE := Lib.hid (Below.size K1.out)
    obtain ⟨b, hb⟩ : ∃ b, w1.heap.size = b := ⟨_, rfl⟩
    rw [hb] at hws HGE ⊢
    have W2 := Lib.hid (show Wi w w2 b (.slice none 0 0) [] from ⟨hws, K1.out.trans k1, HGE.out⟩)
    clear hb hws k1
    have N0 := Lib.hid (wiN (n : Int) W2.out (by omega) (by omega) (by decide))
    go_wp2_with fail
    refine N0.out.mono ?_
    rintro e w3 ⟨rfl, v3, h3, _⟩
    have W3_ := Lib.hid (show Wi w w3 b v3 (encP n (l.take 0)) from by
      have : ([] : List Int) ++ enc (n : Int) = encP n (l.take 0) := by simp [encP, Rm.encs]
      rw [← this]; exact h3)
    clear h3 N0 W2
    go_wp2_with fail
    go_loopw [31] (fun s31 wr => ∃ (k : Nat) (v : Value), s31 = .int .i64 k ∧ k ≤ n ∧ Hid (Wi w wr b v (encP n (l.take k)))) (fun s31 _ => n - (intOf s31).toNat)
    case atStart => exact ⟨0, v3, rfl, Nat.zero_le _, W3_⟩
    case round =>
      obtain ⟨k, v, rfl, hk, hh⟩ := hrel
      by_cases hlt : k < n
      · obtain ⟨⟨r1, r2, r3, r4, r5, r6, r7, r8⟩, hr⟩ := HR.out.get hlt
        obtain ⟨bb, q, rfl, hb, hrow⟩ := (HR.out.bel hh.out.bel).at hlt hr
        have HNX := Lib.hid (encP_next (n := (n : Int)) hr)
        have HMY := Lib.hid ((may_iff _ _ _ _ _ _ _ _).1 (srt_le l 0 HOK.out.2.1 _ (List.mem_of_getElem? hr)).1)
        have HN8 := Lib.hid (show 0 ≤ r8 ∧ r8 ≤ 18446744073709551615 from HWD.out.at hr)
        have HN7 := Lib.hid (show 0 ≤ r7 ∧ r7 ≤ 18446744073709551615 from HWN.out _ (List.mem_of_getElem? hr))
        have HLE := Lib.hid (show (encP n (l.take k)).length + 90 ≤ 1048576 from by
          have h1 := encP_len n (l.take k)
          have h2 : (l.take k).length ≤ 10000 := by rw [List.length_take]; omega
          omega)
        have hlt3 : (k : Int) < n := by omega
        have hlt0 : (0 : Int) ≤ k := by omega
        obtain ⟨c0, c1, c2, c3, c4, c5, c6, c7⟩ := rng8 (show wr.rangeAt bb (q + k * 8) [.int .i64 r1, .int .i64 r2, .int .i64 r3, .int .i64 r4, .int .i64 r5, .int .i64 r6, .int .u64 r7, .int .u64 r8] from hrow)
        clear hr hrow
        obtain ⟨zs, hzs⟩ : ∃ zs, encP n (l.take k) = zs := ⟨_, rfl⟩
        rw [hzs] at hh HNX HLE
        clear hzs
        go_upto_region 11 with fail
        have P0 := Lib.hid (Blk.new wr #[.int .i64 r1, .int .i64 r2, .int .i64 r3, .int .i64 r4, .int .i64 r5, .int .i64 r6, .int .u64 r7, .int .u64 r8] 53)
        obtain ⟨V, hV⟩ : ∃ V, wr.alloc (.cells #[.int .i64 r1, .int .i64 r2, .int .i64 r3, .int .i64 r4, .int .i64 r5, .int .i64 r6, .int .u64 r7, .int .u64 r8] 53) = V := ⟨_, rfl⟩
        have WV := Lib.hid (show Wi w V b v zs by rw [← hV]; exact hh.out.bel_ ((Bel.refl _).alloc _))
        rw [hV] at P0 ⊢
        obtain ⟨g, hg⟩ : ∃ g, wr.heap.size = g := ⟨_, rfl⟩
        have HGB := Lib.hid (show g ≠ b from by have := hh.out.ws.blk.lt; omega)
        rw [hg] at P0 ⊢
        clear hV hg c0 c1 c2 c3 c4 c5 c6 c7
        have c0 := P0.out.cell 0 rfl
        go_wp2_with fail
        refine (wiN r1 WV.out (by have := HMY.out; omega) (by have := HMY.out; omega) (by have := HLE.out; omega)).mono ?_
        rintro e w4 ⟨rfl, v4, h4, k4⟩
        have W4_ := Lib.hid h4
        have P4 := Lib.hid (P0.out.kep k4 (by rintro (h | h); exact HGB.out h; exact P0.out.not_row (by decide) WV.out.ws.row h))
        have L4 := Lib.hid (show (zs ++ enc r1).length ≤ zs.length + 10 by rw [List.length_append]; have := (enc_len r1).2; omega)
        clear h4 k4 c0
        have c1 := P4.out.cell 1 rfl
        have c2 := P4.out.cell 2 rfl
        have c3 := P4.out.cell 3 rfl
        have c4 := P4.out.cell 4 rfl
        go_wp2_with fail
        refine (wiP r2 r3 r4 r5 W4_.out HMY.out.2.1 (by have := HLE.out; have := L4.out; omega)).mono ?_
        rintro e w5 ⟨rfl, v5, h5, k5⟩
        have W5_ := Lib.hid h5
        have P5 := Lib.hid (P4.out.kep k5 (by rintro (h | h); exact HGB.out h; exact P4.out.not_row (by decide) W4_.out.ws.row h))
        have L5 := Lib.hid (show (zs ++ enc r1 ++ Sm.enc4 r2 r3 r4 r5).length ≤ zs.length + 50 by rw [List.length_append]; have := Sm.enc4_len r2 r3 r4 r5; have := L4.out; omega)
        clear h5 k5 c1 c2 c3 c4
        have c5 := P5.out.cell 5 rfl
        go_wp2_with fail
        refine (wiN r6 W5_.out (by have := HMY.out.2.2.1; omega) (by have := HMY.out.2.2.1; omega) (by have := HLE.out; have := L5.out; omega)).mono ?_
        rintro e w6 ⟨rfl, v6, h6, k6⟩
        have W6_ := Lib.hid h6
        have P6 := Lib.hid (P5.out.kep k6 (by rintro (h | h); exact HGB.out h; exact P5.out.not_row (by decide) W5_.out.ws.row h))
        have L6 := Lib.hid (show (zs ++ enc r1 ++ Sm.enc4 r2 r3 r4 r5 ++ enc r6).length ≤ zs.length + 60 by rw [List.length_append]; have := (enc_len r6).2; have := L5.out; omega)
        clear h6 k6 c5
        have c6 := P6.out.cell 6 rfl
        go_wp2_with fail
        refine (wiU r7 W6_.out HN7.out.1 HN7.out.2 (by have := HLE.out; have := L6.out; omega)).mono ?_
        rintro e w7 ⟨rfl, v7, h7, k7⟩
        have W7_ := Lib.hid h7
        have P7 := Lib.hid (P6.out.kep k7 (by rintro (h | h); exact HGB.out h; exact P6.out.not_row (by decide) W6_.out.ws.row h))
        have L7 := Lib.hid (show (zs ++ enc r1 ++ Sm.enc4 r2 r3 r4 r5 ++ enc r6 ++ enc r7).length ≤ zs.length + 70 by rw [List.length_append]; have := (enc_len r7).2; have := L6.out; omega)
        clear h7 k7 c6
        have c7 := P7.out.cell 7 rfl
        go_wp2_with fail
        refine (wiU r8 W7_.out HN8.out.1 HN8.out.2 (by have := HLE.out; have := L7.out; omega)).mono ?_
        rintro e w8 ⟨rfl, v8, h8, k8⟩
        have W8_ := Lib.hid h8
        clear h8 k8 c7
        go_wp2_with fail
        go_roundw
        case rel => exact ⟨k + 1, v8, by go_num, by omega, Lib.hid (by rw [HNX.out]; exact W8_.out)⟩
        case measure => simp [intOf]; omega
      · obtain rfl : k = n := by omega
        have HL := Lib.hid (show encP k (l.take k) = encL l from by
          rw [List.take_of_length_le (by rw [HLN.out]; exact Nat.le_refl _)]
          unfold encP encL
          rw [HLN.out])
        rw [HL.out] at hh
        have DN := Lib.hid (wdone b 1048576 v _ b wr hh.out.ws)
        go_wp2_with fail
        refine (DN.out).mono ?_
        rintro e w8 ⟨u, rfl, hu⟩
        have HU := Lib.hid (show Fresh w w8 u (encL l) from ⟨owns_mono hu.1 (Below.size hh.out.bel), hh.out.bel.trans hu.2⟩)
        clear hu
        go_wp2_with fail
        go_ret2
        exact ⟨u, rfl, HU.out⟩
  · rw [if_neg h0]
    have hne : (e1 != 0) = true := by rw [bne_iff_ne]; exact h0
    clear h0
    go_enter Tryz.func5, Tryz.ntmps5
    go_wp2_with fail
    refine CK.out.mono ?_
    rintro e w1 ⟨rfl, kb⟩
    have K1 := Lib.hid (show Bel w w1 from kb)
    clear kb CK
    go_wp2_with fail
    go_ret2
    exact ⟨_, rfl, World.ownsRow_nil _ _ _ _, K1.out⟩
end Qu
end Go.Proofs.YtcefjigbaglmeaaGreat
end

section
/-
  What stamp.Take and stamp.Read read. Conditions: the reader is one that NewReader made of at most 10^6 bytes; the bytes are bytes.
-/
namespace Go.Proofs.YtcefjigbaglmeaaGreat
open Go.RowKit Go.Shelf
set_option linter.unusedVariables false
namespace Sm
open Cd

/-- A reader stands while a block that is no fault's turns. -/
theorem rd_kep {w w' : World} {b p : Nat} {A : Option Addr} {n c : Nat} {zs : List Int} {k : Nat} {f : Option (Int × Int)} {C : Array Value} {t : TypeId} (h : RD b w b A n c zs k f) (hp : Blk w p C t) (ht : t ≠ 32)
    (hk : Kep (fun i => i = p) w w') (hbp : b ≠ p) (hA : 0 < n → ∀ x : Addr, A = some x → x.block ≠ p) : RD b w' b A n c zs k f := by
  obtain ⟨F, h1, h2, h3⟩ := h
  refine ⟨F, h1.kep0 hk hbp hA, h2.kep hk (fun x hx e => ?_), h3⟩
  rcases h2 with ⟨_, h⟩ | ⟨e', q, fb, _, h5, _, h7, _⟩
  · rw [h] at hx; cases hx
  · rw [h5] at hx
    injection hx with hx
    subst hx
    have e : fb = p := e
    subst e
    have := (show w.heap[fb]? = _ from hp).symm.trans h7
    simp at this
    exact ht this.2

/-- The memory while a stamp is read: the stamp's block p, the result's q. -/
structure Ts (w0 w : World) (b p q : Nat) (A : Option Addr) (n c : Nat) (zs : List Int) (k : Nat) (f : Option (Int × Int)) (x1 x2 x3 x4 : Int) : Prop where
  rd : RD b w b A n c zs k f
  sp : Blk w p #[.int .i64 x1, .int .i64 x2, .int .i64 x3, .int .i64 x4] 51
  rq : Blk w q #[.int .i64 0, .int .i64 0, .int .i64 0, .int .i64 0] 51
  kep : Kep (fun i => i = b) w0 w
  bp : b < w0.heap.size
  hp : w0.heap.size ≤ p
  hq : w0.heap.size ≤ q
  pq : p ≠ q
  ap : 0 < n → ∀ x : Addr, A = some x → x.block < w0.heap.size
theorem Ts.call {w0 w w' : World} {b p q : Nat} {A : Option Addr} {n c : Nat} {zs : List Int} {k k' : Nat} {f f' : Option (Int × Int)} {x1 x2 x3 x4 : Int} (h : Ts w0 w b p q A n c zs k f x1 x2 x3 x4) (hr : RD b w' b A n c zs k' f') (hk : Kep (fun i => i = b) w w') : Ts w0 w' b p q A n c zs k' f' x1 x2 x3 x4 :=
  ⟨hr, h.sp.kep hk (by have := h.bp; have := h.hp; omega), h.rq.kep hk (by have := h.bp; have := h.hq; omega), h.kep.trans hk, h.bp, h.hp, h.hq, h.pq, h.ap⟩
theorem Ts.bel {w0 w w' : World} {b p q : Nat} {A : Option Addr} {n c : Nat} {zs : List Int} {k : Nat} {f : Option (Int × Int)} {x1 x2 x3 x4 : Int} (h : Ts w0 w b p q A n c zs k f x1 x2 x3 x4) (hk : Bel w w') : Ts w0 w' b p q A n c zs k f x1 x2 x3 x4 :=
  h.call (h.rd.bel hk) (Kep.of_bel hk)
theorem kep_past1 {w0 w w' : World} {b p : Nat} (h : Kep (fun i => i = b) w0 w) (hk : Kep (fun i => i = p) w w') (hp : w0.heap.size ≤ p) : Kep (fun i => i = b) w0 w' :=
  ⟨hk.os.trans h.os, hk.tape.trans h.tape, hk.output.trans h.output, Nat.le_trans h.size hk.size, fun i hi hS => (hk.block i (Nat.lt_of_lt_of_le hi h.size) (by omega)).trans (h.block i hi hS)⟩
theorem Ts.put {w0 w : World} {b p q : Nat} {A : Option Addr} {n c : Nat} {zs : List Int} {k : Nat} {f : Option (Int × Int)} {x1 x2 x3 x4 y1 y2 y3 y4 : Int} (h : Ts w0 w b p q A n c zs k f x1 x2 x3 x4) (i : Nat) (v : Value)
    (e : (#[.int .i64 x1, .int .i64 x2, .int .i64 x3, .int .i64 x4] : Array Value).setIfInBounds i v = #[.int .i64 y1, .int .i64 y2, .int .i64 y3, .int .i64 y4]) : Ts w0 (w.setCell ⟨p, i, none⟩ v) b p q A n c zs k f y1 y2 y3 y4 := by
  have hk : Kep (fun i => i = p) w (w.setCell ⟨p, i, none⟩ v) := (Kep.refl _ _).set_self i v
  refine ⟨rd_kep h.rd h.sp (by decide) hk (by have := h.bp; have := h.hp; omega) (fun hn x hx => by have := h.ap hn x hx; have := h.hp; omega), ?_, h.rq.kep hk (fun e => h.pq e.symm), kep_past1 h.kep hk h.hp, h.bp, h.hp, h.hq, h.pq, h.ap⟩
  rw [← e]
  exact h.sp.set i v

/-- How a stamp is read. -/
def Tk (zs : List Int) (k : Nat) (f : Option (Int × Int)) (a b c d : Int) (k' : Nat) (f' : Option (Int × Int)) : Prop :=
  ∃ k1 f1 k2 f2 k3 f3 c1 f4, RN zs k f 0 31 a k1 f1 ∧ RN zs k1 f1 1 4294967296 b k2 f2 ∧ RN zs k2 f2 0 32 c1 k3 f3 ∧ RN zs k3 f3 0 4294967296 d k' f4 ∧ c = c1 - 1 ∧ 0 ≤ c1 ∧ c1 ≤ 32 ∧ f' = failOf f4 (ck a b c d) (atOf k f)
/-- What is told of what is read. -/
def tz (f : Option (Int × Int)) (x : Int) : Int := match f with
  | none => x
  | some _ => 0

theorem flt_ne {w : World} {b : Nat} {A : Option Addr} {n c : Nat} {zs : List Int} {k : Nat} {p : Int × Int} (h : RD b w b A n c zs k (some p)) : p.1 ≠ 0 := by
  obtain ⟨F, _, h2, _⟩ := h
  rcases h2 with ⟨h, _⟩ | ⟨e, q, fb, h, _, _, _, h5⟩
  · cases h
  · injection h with h; subst h; exact h5

theorem field_flt (e p : Int) (w : World) : (Instr.field 32 (.agg #[.int .i64 e, .int .i64 p]) 0).run Tryz.prog w = .ok (.int .i64 e) w := by kernel_rfl
set_option maxRecDepth 10000 in
set_option maxHeartbeats 1000000 in
theorem faulty (b : Nat) (A : Option Addr) (n c : Nat) (zs : List Int) (k : Nat) (f : Option (Int × Int)) (w : World) (h : RD b w b A n c zs k f) :
    Calls Tryz.prog 99 #[.pointer (some ⟨b, 0, none⟩)] w fun r w' => r = .returned (.bool f.isSome) ∧ Bel w w' := by
  have LE := Lib.hid (fun V (hv : Bel w V) => rLeft b zs k f V (h.rs.bel hv))
  have EN := Lib.hid (fun V (hv : Bel w V) => rEnd b zs k f V (h.rs.bel hv))
  obtain ⟨l, hl⟩ : ∃ l, Cd.leftOf zs.length k f = l := ⟨_, rfl⟩
  obtain ⟨e, he⟩ : ∃ e, endOf zs.length k f = e := ⟨_, rfl⟩
  obtain ⟨e1, e2⟩ := e
  obtain ⟨x, hx⟩ : ∃ x, f.isSome = x := ⟨_, rfl⟩
  have hcase : (x = true ∧ l = 0 ∧ e1 ≠ 0) ∨ (x = false ∧ l ≠ 0) ∨ (x = false ∧ l = 0 ∧ e1 = 0) := by
    cases f with
    | some p =>
      refine .inl ⟨hx.symm, hl.symm, ?_⟩
      have h1 : p = (e1, e2) := he
      have h2 := flt_ne h
      rw [h1] at h2
      exact h2
    | none =>
      have hle : k ≤ zs.length := by
        obtain ⟨F, hr, _⟩ := h
        have := hr.sl.len; have := hr.le; omega
      have h1 : (zs.length : Int) - k = l := hl
      have h2 : (if k < zs.length then ((4 : Int), (k : Int)) else (0, 0)) = (e1, e2) := he
      by_cases hk : k < zs.length
      · exact .inr (.inl ⟨hx.symm, by omega⟩)
      · rw [if_neg hk] at h2
        injection h2 with h2 _
        exact .inr (.inr ⟨hx.symm, by omega, h2.symm⟩)
  rw [hl] at LE
  rw [he] at EN
  have hfd := field_flt e1 e2
  have EN := Lib.hid (fun V (hv : Bel w V) => show Calls Tryz.prog 33 #[.pointer (some ⟨b, 0, none⟩)] V fun e w' => e = .returned (.agg #[.int .i64 e1, .int .i64 e2]) ∧ Bel V w' from EN.out V hv)
  rw [hx]
  clear hl he hx h
  go_enter Tryz.func99, Tryz.ntmps99
  go_wp2_with fail
  refine (LE.out _ (Bel.refl _)).mono ?_
  rintro r w1 ⟨rfl, kb⟩
  have K1 := Lib.hid kb
  clear kb LE
  rcases hcase with ⟨rfl, rfl, h1⟩ | ⟨rfl, h1⟩ | ⟨rfl, rfl, rfl⟩
  · have h1' : (e1 != 0) = true := by rw [bne_iff_ne]; exact h1
    clear h1
    go_wp2_with fail
    refine (EN.out _ K1.out).mono ?_
    rintro r w2 ⟨rfl, kb⟩
    have K2 := Lib.hid (K1.out.trans kb)
    clear kb
    go_wp2_with fail
    go_ret
    exact ⟨rfl, K2.out⟩
  · have h1' : (l == 0) = false := beq_eq_false_iff_ne.2 h1
    clear h1
    go_wp2_with fail
    go_ret
    exact ⟨rfl, K1.out⟩
  · go_wp2_with fail
    refine (EN.out _ K1.out).mono ?_
    rintro r w2 ⟨rfl, kb⟩
    have K2 := Lib.hid (K1.out.trans kb)
    clear kb
    go_wp2_with fail
    go_ret
    exact ⟨rfl, K2.out⟩

set_option maxRecDepth 10000 in
set_option maxHeartbeats 2000000 in
theorem take (b : Nat) (A : Option Addr) (n c : Nat) (zs : List Int) (k : Nat) (f : Option (Int × Int)) (x1 x2 x3 x4 : Int) (k' : Nat) (f' : Option (Int × Int)) (w : World) (h : RD b w b A n c zs k f) (hA : 0 < n → ∀ x : Addr, A = some x → x.block < w.heap.size) (ht : Tk zs k f x1 x2 x3 x4 k' f') :
    Calls Tryz.prog 89 #[.pointer (some ⟨b, 0, none⟩)] w fun r w' => r = .returned (stV (tz f' x1) (tz f' x2) (tz f' x3) (tz f' x4)) ∧ RD b w' b A n c zs k' f' ∧ Kep (fun i => i = b) w w' := by
  obtain ⟨k1, f1, k2, f2, k3, f3, y3, f4, r1, r2, r3, r4, rfl, y0, y1, hf'⟩ := ht
  have hbl : b < w.heap.size := by obtain ⟨F, hr, _⟩ := h; exact hr.blk.lt
  have T0 : Ts w ((w.alloc (.cells #[.int .i64 0, .int .i64 0, .int .i64 0, .int .i64 0] 51)).alloc (.cells #[.int .i64 0, .int .i64 0, .int .i64 0, .int .i64 0] 51)) b (w.heap.size + 1) w.heap.size A n c zs k f 0 0 0 0 := by
    have b0 : Bel w ((w.alloc (.cells #[.int .i64 0, .int .i64 0, .int .i64 0, .int .i64 0] 51)).alloc (.cells #[.int .i64 0, .int .i64 0, .int .i64 0, .int .i64 0] 51)) := ((Bel.refl w).alloc _).alloc _
    have p0 := Blk.new (w.alloc (.cells #[.int .i64 0, .int .i64 0, .int .i64 0, .int .i64 0] 51)) #[.int .i64 0, .int .i64 0, .int .i64 0, .int .i64 0] 51
    rw [World.size_alloc] at p0
    exact ⟨h.bel b0, p0, (Blk.new w _ _).alloc _, Kep.of_bel b0, hbl, Nat.le_succ _, Nat.le_refl _, by omega, hA⟩
  have T0 := Lib.hid T0
  have CK := Lib.hid (fun V => check x1 x2 (y3 - 1) x4 V)
  have AT := Lib.hid (fun V (hv : RD b V b A n c zs k f) => rAt b zs k f V hv.rs)
  have N1 := Lib.hid (fun V (hv : RD b V b A n c zs k f) (hb : b < V.heap.size) => yN b b A n c zs k f 0 31 x1 k1 f1 V hv r1 (by decide) hb)
  have N2 := Lib.hid (fun V (hv : RD b V b A n c zs k1 f1) (hb : b < V.heap.size) => yN b b A n c zs k1 f1 1 4294967296 x2 k2 f2 V hv r2 (by decide) hb)
  have N3 := Lib.hid (fun V (hv : RD b V b A n c zs k2 f2) (hb : b < V.heap.size) => yN b b A n c zs k2 f2 0 32 y3 k3 f3 V hv r3 (by decide) hb)
  have N4 := Lib.hid (fun V (hv : RD b V b A n c zs k3 f3) (hb : b < V.heap.size) => yN b b A n c zs k3 f3 0 4294967296 x4 k' f4 V hv r4 (by decide) hb)
  have FL := Lib.hid (fun V e (hv : RD b V b A n c zs k' f4) (hb : b < V.heap.size) => yFail b b A n c zs k' f4 e (atOf k f) V hv hb)
  have FY := Lib.hid (fun V (hv : RD b V b A n c zs k' f') => faulty b A n c zs k' f' V hv)
  have LT := Lib.hid (fun (V : World) (hv : Kep (fun i => i = b) w V) => Nat.lt_of_lt_of_le hbl hv.size)
  have w3 : IntKind.i64.wrap (y3 - 1) = y3 - 1 := IntWalk.i64_in _ (by omega)
  obtain ⟨x3, hx3⟩ : ∃ x, y3 - 1 = x := ⟨_, rfl⟩
  obtain ⟨e, he⟩ : ∃ e, ck x1 x2 x3 x4 = e := ⟨_, rfl⟩
  obtain ⟨a, ha⟩ : ∃ a, atOf k f = a := ⟨_, rfl⟩
  rw [hx3] at CK hf' w3 ⊢
  rw [he] at CK hf'
  rw [ha] at AT hf' FL
  have HF := Lib.hid hf'
  clear h hA r1 r2 r3 r4 y0 y1 he ha hbl hf'
  go_enter Tryz.func89, Tryz.ntmps89
  go_upto_region 2 with fail
  obtain ⟨W, hW⟩ : ∃ W, (w.alloc (.cells #[.int .i64 0, .int .i64 0, .int .i64 0, .int .i64 0] 51)).alloc (.cells #[.int .i64 0, .int .i64 0, .int .i64 0, .int .i64 0] 51) = W := ⟨_, rfl⟩
  obtain ⟨p, hp⟩ : ∃ p, w.heap.size + 1 = p := ⟨_, rfl⟩
  obtain ⟨q, hq⟩ : ∃ q, w.heap.size = q := ⟨_, rfl⟩
  rw [hW, hp, hq] at T0
  rw [hW, hp, hq]
  clear hW hp hq
  go_wp2_with fail
  refine (AT.out _ T0.out.rd).mono ?_
  rintro r w1 ⟨rfl, rfl⟩
  go_wp2_with fail
  refine (N1.out _ T0.out.rd (LT.out _ T0.out.kep)).mono ?_
  rintro r w2 ⟨rfl, hr, hk⟩
  have T1 := Lib.hid (T0.out.call hr hk)
  clear hr hk T0
  have c0 := T1.out.sp.cell 0 rfl
  have f0 := T1.out.sp.frozen 0
  go_upto_region 4 with fail
  have T2 := Lib.hid (T1.out.put (y1 := x1) (y2 := 0) (y3 := 0) (y4 := 0) 0 (.int .i64 x1) rfl)
  obtain ⟨W2, hW⟩ : ∃ W, w2.setCell ⟨p, 0, none⟩ (.int .i64 x1) = W := ⟨_, rfl⟩
  rw [hW] at T2 ⊢
  clear hW c0 f0 T1
  go_wp2_with fail
  refine (N2.out _ T2.out.rd (LT.out _ T2.out.kep)).mono ?_
  rintro r w3 ⟨rfl, hr, hk⟩
  have T3 := Lib.hid (T2.out.call hr hk)
  clear hr hk T2
  have c1 := T3.out.sp.cell 1 rfl
  have f1' := T3.out.sp.frozen 1
  go_upto_region 5 with fail
  have T4 := Lib.hid (T3.out.put (y1 := x1) (y2 := x2) (y3 := 0) (y4 := 0) 1 (.int .i64 x2) rfl)
  obtain ⟨W4, hW⟩ : ∃ W, w3.setCell ⟨p, 1, none⟩ (.int .i64 x2) = W := ⟨_, rfl⟩
  rw [hW] at T4 ⊢
  clear hW c1 f1' T3
  go_wp2_with fail
  refine (N3.out _ T4.out.rd (LT.out _ T4.out.kep)).mono ?_
  rintro r w5 ⟨rfl, hr, hk⟩
  have T5 := Lib.hid (T4.out.call hr hk)
  clear hr hk T4
  have c2 := T5.out.sp.cell 2 rfl
  have f2' := T5.out.sp.frozen 2
  go_upto_region 6 with fail
  have T6 := Lib.hid (T5.out.put (y1 := x1) (y2 := x2) (y3 := x3) (y4 := 0) 2 (.int .i64 x3) rfl)
  obtain ⟨W6, hW⟩ : ∃ W, w5.setCell ⟨p, 2, none⟩ (.int .i64 x3) = W := ⟨_, rfl⟩
  rw [hW] at T6 ⊢
  clear hW c2 f2' T5
  go_wp2_with fail
  refine (N4.out _ T6.out.rd (LT.out _ T6.out.kep)).mono ?_
  rintro r w7 ⟨rfl, hr, hk⟩
  have T7 := Lib.hid (T6.out.call hr hk)
  clear hr hk T6
  have c3 := T7.out.sp.cell 3 rfl
  have f3' := T7.out.sp.frozen 3
  go_upto_region 7 with fail
  have T8 := Lib.hid (T7.out.put (y1 := x1) (y2 := x2) (y3 := x3) (y4 := x4) 3 (.int .i64 x4) rfl)
  obtain ⟨W8, hW⟩ : ∃ W, w7.setCell ⟨p, 3, none⟩ (.int .i64 x4) = W := ⟨_, rfl⟩
  rw [hW] at T8 ⊢
  clear hW c3 f3' T7
  have c0 := T8.out.sp.cell 0 rfl
  have c1 := T8.out.sp.cell 1 rfl
  have c2 := T8.out.sp.cell 2 rfl
  have c3 := T8.out.sp.cell 3 rfl
  go_wp2_with fail
  refine (CK.out _).mono ?_
  rintro r w9 ⟨rfl, kb⟩
  have T9 := Lib.hid (T8.out.bel kb)
  clear kb T8 c0 c1 c2 c3
  go_wp2_with fail
  refine (FL.out _ _ T9.out.rd (LT.out _ T9.out.kep)).mono ?_
  rintro r wa ⟨rfl, hr, hk⟩
  rw [← HF.out] at hr
  have Ta := Lib.hid (T9.out.call hr hk)
  clear hr hk T9
  go_wp2_with fail
  refine (FY.out _ Ta.out.rd).mono ?_
  rintro r wb ⟨rfl, kb⟩
  have Tb := Lib.hid (Ta.out.bel kb)
  clear kb Ta HF CK AT N1 N2 N3 N4 FL FY
  have d0 := Tb.out.rq.cell 0 rfl
  have d1 := Tb.out.rq.cell 1 rfl
  have d2 := Tb.out.rq.cell 2 rfl
  have d3 := Tb.out.rq.cell 3 rfl
  have g0 := Tb.out.rq.frozen 0
  have g1 := Tb.out.rq.frozen 1
  have g2 := Tb.out.rq.frozen 2
  have g3 := Tb.out.rq.frozen 3
  have c0 := Tb.out.sp.cell 0 rfl
  have c1 := Tb.out.sp.cell 1 rfl
  have c2 := Tb.out.sp.cell 2 rfl
  have c3 := Tb.out.sp.cell 3 rfl
  have fin : ∀ (v1 v2 v3 v4 : Value), RD b ((((wb.setCell ⟨q, 0, none⟩ v1).setCell ⟨q, 1, none⟩ v2).setCell ⟨q, 2, none⟩ v3).setCell ⟨q, 3, none⟩ v4) b A n c zs k' f' ∧ Kep (fun i => i = b) w ((((wb.setCell ⟨q, 0, none⟩ v1).setCell ⟨q, 1, none⟩ v2).setCell ⟨q, 2, none⟩ v3).setCell ⟨q, 3, none⟩ v4) := fun v1 v2 v3 v4 => by
    have hk : Kep (fun i => i = q) wb ((((wb.setCell ⟨q, 0, none⟩ v1).setCell ⟨q, 1, none⟩ v2).setCell ⟨q, 2, none⟩ v3).setCell ⟨q, 3, none⟩ v4) := ((((Kep.refl _ _).set_self 0 v1).set_self 1 v2).set_self 2 v3).set_self 3 v4
    exact ⟨rd_kep Tb.out.rd Tb.out.rq (by decide) hk (by have := Tb.out.bp; have := Tb.out.hq; omega) (fun hn x hx => by have := Tb.out.ap hn x hx; have := Tb.out.hq; omega), kep_past1 Tb.out.kep hk Tb.out.hq⟩
  have HFin := Lib.hid fin
  have HRQ := Lib.hid Tb.out.rq
  clear fin
  cases f' with
  | none =>
    go_wp2_with fail
    refine bodyPost_ret (Pm.res_c rfl _ _ ⟨q, 0, none⟩ _ rfl (load_st ((((HRQ.out.set 0 _).set 1 _).set 2 _).set 3 _))) rfl ⟨rfl, HFin.out _ _ _ _⟩
  | some pp =>
    go_wp2_with fail
    refine bodyPost_ret (Pm.res_c rfl _ _ ⟨q, 0, none⟩ _ rfl (load_st ((((HRQ.out.set 0 _).set 1 _).set 2 _).set 3 _))) rfl ⟨rfl, HFin.out _ _ _ _⟩
end Sm
end Go.Proofs.YtcefjigbaglmeaaGreat
end

section
/-
  How a queue is read: what a run of reads is, that there is one for any bytes, that a queue's own bytes are read as it, and that what is read without a fault has just those bytes. No program.
-/
namespace Go.Proofs.YtcefjigbaglmeaaGreat
open Go.RowKit Go.Shelf
set_option linter.unusedVariables false
set_option Elab.async false
namespace Qu
open Cd

theorem fail_some (p : Int × Int) (e q : Int) : failOf (some p) e q = some p := by
  unfold failOf
  split <;> rfl
theorem fail_no {e q : Int} (h : e = 0) : failOf none e q = none := by unfold failOf; rw [if_pos h]
theorem fail_yes {e q : Int} (h : e ≠ 0) : failOf none e q = some (e, q) := by unfold failOf; rw [if_neg h]
theorem fail_none {f : Option (Int × Int)} {e q : Int} (h : failOf f e q = none) : f = none ∧ e = 0 := by
  cases f with
  | some p => rw [fail_some] at h; cases h
  | none =>
    by_cases he : e = 0
    · exact ⟨rfl, he⟩
    · rw [fail_yes he] at h; cases h
theorem fail_nz {f : Option (Int × Int)} {e q : Int} (h : ∀ p, f = some p → p.1 ≠ 0) : ∀ p, failOf f e q = some p → p.1 ≠ 0 := fun p hp => by
  cases f with
  | some p' => rw [fail_some] at hp; exact h p hp
  | none =>
    by_cases he : e = 0
    · rw [fail_no he] at hp; cases hp
    · rw [fail_yes he] at hp; injection hp with hp; rw [← hp]; exact he
theorem rn_some {zs : List Int} {k : Nat} {p : Int × Int} {least most x : Int} {k' : Nat} {f' : Option (Int × Int)} (h : RN zs k (some p) least most x k' f') : x = 0 ∧ k' = k ∧ f' = some p := by
  rcases h with ⟨q, h1, h2, h3, h4⟩ | ⟨h1, _⟩
  · exact ⟨h2, h3, h4⟩
  · cases h1
theorem ru_some {zs : List Int} {k : Nat} {p : Int × Int} {x : Int} {k' : Nat} {f' : Option (Int × Int)} (h : RU zs k (some p) x k' f') : x = 0 ∧ k' = k ∧ f' = some p := by
  rcases h with ⟨q, h1, h2, h3, h4⟩ | ⟨h1, _⟩
  · exact ⟨h2, h3, h4⟩
  · cases h1
theorem rn_all (zs : List Int) (hb : Bytes zs) (k : Nat) (hk : k ≤ zs.length) (f : Option (Int × Int)) (hf : ∀ p, f = some p → p.1 ≠ 0) (least most : Int) : ∃ x k' f', RN zs k f least most x k' f' ∧ k' ≤ zs.length ∧ (x = 0 ∨ (least ≤ x ∧ x ≤ most)) ∧ (∀ p, f' = some p → p.1 ≠ 0) ∧ (f' = none → f = none ∧ least ≤ x ∧ x ≤ most ∧ zs.take k ++ enc x = zs.take k') := by
  cases f with
  | some p => exact ⟨0, k, some p, .inl ⟨p, rfl, rfl, rfl, rfl⟩, hk, .inl rfl, hf, fun h => by cases h⟩
  | none =>
    obtain ⟨x, k', f', r, q, h⟩ := Rm.rn_of zs hb k hk least most
    rcases h with ⟨rfl, a0, a1, t⟩ | ⟨e, he, rfl, rfl, rfl⟩
    · exact ⟨x, k', none, r, q, .inr ⟨a0, a1⟩, fun p hp => (by cases hp), fun _ => ⟨rfl, a0, a1, t⟩⟩
    · exact ⟨0, k', _, r, q, .inl rfl, fun p hp => (by injection hp with hp; rw [← hp]; exact he), fun h => by cases h⟩
theorem ru_all (zs : List Int) (hb : Bytes zs) (k : Nat) (hk : k ≤ zs.length) (f : Option (Int × Int)) (hf : ∀ p, f = some p → p.1 ≠ 0) : ∃ x k' f', RU zs k f x k' f' ∧ k' ≤ zs.length ∧ (0 ≤ x ∧ x ≤ 18446744073709551615) ∧ (∀ p, f' = some p → p.1 ≠ 0) ∧ (f' = none → f = none ∧ zs.take k ++ enc x = zs.take k') := by
  cases f with
  | some p => exact ⟨0, k, some p, .inl ⟨p, rfl, rfl, rfl, rfl⟩, hk, by omega, hf, fun h => by cases h⟩
  | none =>
    obtain ⟨x, k', f', r, x0, x1, h⟩ := ru_of zs hb k hk
    rcases h with ⟨rfl, q, t⟩ | ⟨e, he, rfl, rfl⟩
    · exact ⟨x, k', none, r, q, ⟨x0, x1⟩, fun p hp => (by cases hp), fun _ => ⟨rfl, t⟩⟩
    · exact ⟨x, k', _, r, hk, ⟨x0, x1⟩, fun p hp => (by injection hp with hp; rw [← hp]; exact he), fun h => by cases h⟩
theorem tk_of (zs : List Int) (hb : Bytes zs) (k : Nat) (hk : k ≤ zs.length) : ∃ a b c d k' f', Sm.Tk zs k none a b c d k' f' ∧ k' ≤ zs.length ∧ (∀ p, f' = some p → p.1 ≠ 0) ∧ (f' = none → Sm.ck a b c d = 0 ∧ zs.take k ++ Sm.enc4 a b c d = zs.take k') := by
  obtain ⟨a, k1, f1, r1, h1, o1⟩ := Rm.rn_of zs hb k hk 0 31
  rcases o1 with ⟨rfl, a0, a1, t1⟩ | ⟨e, he, rfl, rfl, rfl⟩
  · obtain ⟨b, k2, f2, r2, h2, o2⟩ := Rm.rn_of zs hb k1 h1 1 4294967296
    rcases o2 with ⟨rfl, b0, b1, t2⟩ | ⟨e, he, rfl, rfl, rfl⟩
    · obtain ⟨c, k3, f3, r3, h3, o3⟩ := Rm.rn_of zs hb k2 h2 0 32
      rcases o3 with ⟨rfl, c0, c1, t3⟩ | ⟨e, he, rfl, rfl, rfl⟩
      · obtain ⟨d, k4, f4, r4, h4, o4⟩ := Rm.rn_of zs hb k3 h3 0 4294967296
        rcases o4 with ⟨rfl, d0, d1, t4⟩ | ⟨e, he, rfl, rfl, rfl⟩
        · refine ⟨a, b, c - 1, d, k4, failOf none (Sm.ck a b (c - 1) d) (atOf k none), ⟨k1, none, k2, none, k3, none, c, none, r1, r2, r3, r4, rfl, c0, c1, rfl⟩, h4, ?_, ?_⟩
          · intro p hp
            unfold failOf at hp
            by_cases h0 : Sm.ck a b (c - 1) d = 0
            · rw [if_pos h0] at hp; cases hp
            · rw [if_neg h0] at hp; injection hp with hp; subst hp; exact h0
          · intro hn
            unfold failOf at hn
            by_cases h0 : Sm.ck a b (c - 1) d = 0
            · refine ⟨h0, ?_⟩
              unfold Sm.enc4
              rw [show c - 1 + 1 = c by omega, ← List.append_assoc, ← List.append_assoc, ← List.append_assoc, t1, t2, t3, t4]
            · rw [if_neg h0] at hn; cases hn
        · exact ⟨a, b, c - 1, 0, k4, some (e, (k4 : Int)), ⟨k1, none, k2, none, k4, none, c, some (e, (k4 : Int)), r1, r2, r3, r4, rfl, c0, c1, by unfold failOf; split <;> rfl⟩, h4, fun p hp => by injection hp with hp; subst hp; exact he, fun h => by cases h⟩
      · exact ⟨a, b, -1, 0, k3, some (e, (k3 : Int)), ⟨k1, none, k3, none, k3, some (e, (k3 : Int)), 0, some (e, (k3 : Int)), r1, r2, r3, .inl ⟨_, rfl, rfl, rfl, rfl⟩, rfl, by decide, by decide, by unfold failOf; split <;> rfl⟩, h3, fun p hp => by injection hp with hp; subst hp; exact he, fun h => by cases h⟩
    · exact ⟨a, 0, -1, 0, k2, some (e, (k2 : Int)), ⟨k2, none, k2, some (e, (k2 : Int)), k2, some (e, (k2 : Int)), 0, some (e, (k2 : Int)), r1, r2, .inl ⟨_, rfl, rfl, rfl, rfl⟩, .inl ⟨_, rfl, rfl, rfl, rfl⟩, rfl, by decide, by decide, by unfold failOf; split <;> rfl⟩, h2, fun p hp => by injection hp with hp; subst hp; exact he, fun h => by cases h⟩
  · exact ⟨0, 0, -1, 0, k1, some (e, (k1 : Int)), ⟨k1, some (e, (k1 : Int)), k1, some (e, (k1 : Int)), k1, some (e, (k1 : Int)), 0, some (e, (k1 : Int)), r1, .inl ⟨_, rfl, rfl, rfl, rfl⟩, .inl ⟨_, rfl, rfl, rfl, rfl⟩, .inl ⟨_, rfl, rfl, rfl, rfl⟩, rfl, by decide, by decide, by unfold failOf; split <;> rfl⟩, h1, fun p hp => by injection hp with hp; subst hp; exact he, fun h => by cases h⟩

theorem tk_fault (zs : List Int) (k : Nat) (p : Int × Int) : Sm.Tk zs k (some p) 0 0 (-1) 0 k (some p) :=
  ⟨k, some p, k, some p, k, some p, 0, some p, .inl ⟨p, rfl, rfl, rfl, rfl⟩, .inl ⟨p, rfl, rfl, rfl, rfl⟩, .inl ⟨p, rfl, rfl, rfl, rfl⟩, .inl ⟨p, rfl, rfl, rfl, rfl⟩, rfl, by decide, by decide, by unfold failOf; split <;> rfl⟩
theorem tk_some {zs : List Int} {k : Nat} {p : Int × Int} {a b c d : Int} {k' : Nat} {f' : Option (Int × Int)} (h : Sm.Tk zs k (some p) a b c d k' f') : f' = some p ∧ k' = k := by
  obtain ⟨k1, f1, k2, f2, k3, f3, c1, f4, r1, r2, r3, r4, _, _, _, rfl⟩ := h
  obtain ⟨-, rfl, rfl⟩ := rn_some r1
  obtain ⟨-, rfl, rfl⟩ := rn_some r2
  obtain ⟨-, rfl, rfl⟩ := rn_some r3
  obtain ⟨-, rfl, rfl⟩ := rn_some r4
  exact ⟨fail_some _ _ _, rfl⟩
theorem tk_all (zs : List Int) (hb : Bytes zs) (k : Nat) (hk : k ≤ zs.length) (f : Option (Int × Int)) (hf : ∀ p, f = some p → p.1 ≠ 0) : ∃ a b c d k' f', Sm.Tk zs k f a b c d k' f' ∧ k' ≤ zs.length ∧ (∀ p, f' = some p → p.1 ≠ 0) ∧ (f' = none → f = none ∧ Sm.ck a b c d = 0 ∧ zs.take k ++ Sm.enc4 a b c d = zs.take k') := by
  cases f with
  | some p => exact ⟨0, 0, -1, 0, k, some p, tk_fault zs k p, hk, hf, fun h => by cases h⟩
  | none =>
    obtain ⟨a, b, c, d, k', f', h1, h2, h3, h4⟩ := tk_of zs hb k hk
    exact ⟨a, b, c, d, k', f', h1, h2, h3, fun h => ⟨rfl, h4 h⟩⟩
/-- How an entry is read, behind one that was created at bef. -/
def Te (zs : List Int) (k : Nat) (f : Option (Int × Int)) (bef : Int) (x : E8) (k' : Nat) (f' : Option (Int × Int)) : Prop :=
  ∃ o a b c d u i n k1 f1 k2 f2 k3 f3 k4 f4 f5, x = (o, Sm.tz f2 a, Sm.tz f2 b, Sm.tz f2 c, Sm.tz f2 d, u, i, n) ∧ RN zs k f 0 63 o k1 f1 ∧ Sm.Tk zs k1 f1 a b c d k2 f2 ∧ RN zs k2 f2 1 4294967296 u k3 f3 ∧ RU zs k3 f3 i k4 f4 ∧ RU zs k4 f4 n k' f5 ∧ f' = failOf f5 (qE bef x) (atOf k f)
/-- Words. -/
def Ww (x : E8) : Prop := (0 ≤ ini x ∧ ini x ≤ 18446744073709551615) ∧ 0 ≤ bal x ∧ bal x ≤ 18446744073709551615
theorem te_of (zs : List Int) (hb : Bytes zs) (k : Nat) (hk : k ≤ zs.length) (bef : Int) : ∃ x k' f', Te zs k none bef x k' f' ∧ k' ≤ zs.length ∧ Ww x ∧ (∀ p, f' = some p → p.1 ≠ 0) ∧ (f' = none → qE bef x = 0 ∧ zs.take k ++ Rm.encs (nums x) = zs.take k') := by
  obtain ⟨o, k1, f1, r1, q1, b1, n1, g1⟩ := rn_all zs hb k hk none (fun p h => by cases h) 0 63
  obtain ⟨a, b, c, d, k2, f2, r2, q2, n2, g2⟩ := tk_all zs hb k1 q1 f1 n1
  obtain ⟨u, k3, f3, r3, q3, b3, n3, g3⟩ := rn_all zs hb k2 q2 f2 n2 1 4294967296
  obtain ⟨i, k4, f4, r4, q4, b4, n4, g4⟩ := ru_all zs hb k3 q3 f3 n3
  obtain ⟨n, k5, f5, r5, q5, b5, n5, g5⟩ := ru_all zs hb k4 q4 f4 n4
  refine ⟨(o, Sm.tz f2 a, Sm.tz f2 b, Sm.tz f2 c, Sm.tz f2 d, u, i, n), k5, _, ⟨o, a, b, c, d, u, i, n, k1, f1, k2, f2, k3, f3, k4, f4, f5, rfl, r1, r2, r3, r4, r5, rfl⟩, q5, ⟨b4, b5⟩, fail_nz n5, fun h => ?_⟩
  obtain ⟨h5, hq⟩ := fail_none h
  obtain ⟨h4, t5⟩ := g5 h5
  obtain ⟨h3, t4⟩ := g4 h4
  obtain ⟨h2, _, _, t3⟩ := g3 h3
  obtain ⟨h1, _, t2⟩ := g2 h2
  obtain ⟨_, _, _, t1⟩ := g1 h1
  refine ⟨hq, ?_⟩
  subst h2
  rw [← t5, ← t4, ← t3, ← t2, ← t1]
  show zs.take k ++ Rm.encs [o, a, b, c + 1, d, u, i, n] = _
  simp [Rm.encs, Sm.enc4, List.append_assoc]
/-- How entries are read, one behind the other, without a fault till then. -/
def Rl (zs : List Int) : Nat → List E8 → Nat → Int → Nat → Option (Int × Int) → Prop
  | 0, l, k, _, k', f' => l = [] ∧ k' = k ∧ f' = none
  | m + 1, l, k, bef, k', f' => ∃ x k1 f1, Te zs k none bef x k1 f1 ∧ Ww x ∧ ((f1 = none ∧ ∃ t, l = x :: t ∧ Rl zs m t k1 (cr x) k' f') ∨ (∃ p, f1 = some p ∧ l = [] ∧ k' = k1 ∧ f' = f1))
theorem rl_of (zs : List Int) (hb : Bytes zs) : ∀ (m k : Nat) (bef : Int), k ≤ zs.length → ∃ l k' f', Rl zs m l k bef k' f' ∧ k' ≤ zs.length ∧ (∀ p, f' = some p → p.1 ≠ 0) ∧ (∀ r ∈ l, Ww r) ∧ (f' = none → l.length = m ∧ Srt bef l ∧ zs.take k ++ Rm.encs (l.flatMap nums) = zs.take k')
  | 0, k, bef, hk => ⟨[], k, none, ⟨rfl, rfl, rfl⟩, hk, fun p h => (by cases h), fun r h => (by cases h), fun _ => ⟨rfl, trivial, by simp [Rm.encs]⟩⟩
  | m + 1, k, bef, hk => by
    obtain ⟨x, k1, f1, h1, q1, w1, n1, g1⟩ := te_of zs hb k hk bef
    cases f1 with
    | some p => exact ⟨[], k1, some p, ⟨x, k1, some p, h1, w1, .inr ⟨p, rfl, rfl, rfl, rfl⟩⟩, q1, n1, fun r h => (by cases h), fun h => (by cases h)⟩
    | none =>
      obtain ⟨l, k', f', h2, q2, n2, w2, g2⟩ := rl_of zs hb m k1 (cr x) q1
      refine ⟨x :: l, k', f', ⟨x, k1, none, h1, w1, .inl ⟨rfl, l, rfl, h2⟩⟩, q2, n2, fun r hr => ?_, fun h => ?_⟩
      · rcases List.mem_cons.1 hr with rfl | hr
        · exact w1
        · exact w2 r hr
      · obtain ⟨e1, e2, e3⟩ := g2 h
        obtain ⟨e4, e5⟩ := g1 rfl
        refine ⟨by simp [e1], ⟨(qE_ok e4).1, (qE_ok e4).2, e2⟩, ?_⟩
        rw [← e3, ← e5, List.flatMap_cons, Rm.encs_app, List.append_assoc]
/-- How a queue is read. -/
def Rq (zs : List Int) (l : List E8) (k' : Nat) (f' : Option (Int × Int)) : Prop :=
  ∃ m k0 f0, RN zs 0 none 0 32768 m k0 f0 ∧ ((∃ p, f0 = some p ∧ m = 0 ∧ l = [] ∧ k' = k0 ∧ f' = f0) ∨ (f0 = none ∧ 0 ≤ m ∧ m ≤ 32768 ∧ Rl zs m.toNat l k0 0 k' f'))
theorem rq_of (zs : List Int) (hb : Bytes zs) : ∃ l k' f', Rq zs l k' f' ∧ k' ≤ zs.length ∧ (∀ p, f' = some p → p.1 ≠ 0) ∧ (∀ r ∈ l, Ww r) ∧ (f' = none → l.length ≤ 32768 ∧ Srt 0 l ∧ encL l = zs.take k') := by
  obtain ⟨m, k0, f0, r0, q0, o0⟩ := Rm.rn_of zs hb 0 (Nat.zero_le _) 0 32768
  rcases o0 with ⟨rfl, m0, m1, t0⟩ | ⟨e, he, rfl, rfl, rfl⟩
  rotate_left
  · exact ⟨[], 0, some (e, ((0 : Nat) : Int)), ⟨0, 0, some (e, ((0 : Nat) : Int)), r0, .inl ⟨_, rfl, rfl, rfl, rfl, rfl⟩⟩, q0, fun p hp => (by injection hp with hp; rw [← hp]; exact he), fun r h => (by cases h), fun h => (by cases h)⟩
  ·
    obtain ⟨l, k', f', h2, q2, n2, w2, g2⟩ := rl_of zs hb m.toNat k0 0 q0
    refine ⟨l, k', f', ⟨m, k0, none, r0, .inr ⟨rfl, m0, m1, h2⟩⟩, q2, n2, w2, fun h => ?_⟩
    obtain ⟨e1, e2, e3⟩ := g2 h
    refine ⟨by omega, e2, ?_⟩
    rw [← e3, ← t0]
    unfold encL
    rw [Rm.encs_cons, e1, show ((m.toNat : Nat) : Int) = m by omega]
    simp
end Qu
end Go.Proofs.YtcefjigbaglmeaaGreat
end

section
/-
  What queue.isFaulty and queue.entry answer of any reader that NewReader made of at most 10^6 bytes.
-/
namespace Go.Proofs.YtcefjigbaglmeaaGreat
open Go.RowKit Go.Shelf
set_option linter.unusedVariables false
set_option linter.unusedSimpArgs false
set_option Elab.async false
namespace Qu
open Cd

set_option maxRecDepth 10000 in
set_option maxHeartbeats 1000000 in
theorem isFaulty (b : Nat) (A : Option Addr) (n c : Nat) (zs : List Int) (k : Nat) (f : Option (Int × Int)) (w : World) (h : RD b w b A n c zs k f) :
    Calls Tryz.prog 68 #[.pointer (some ⟨b, 0, none⟩)] w fun r w' => r = .returned (.bool f.isSome) ∧ Bel w w' := by
  have LE := Lib.hid (fun V (hv : Bel w V) => rLeft b zs k f V (h.rs.bel hv))
  have EN := Lib.hid (fun V (hv : Bel w V) => rEnd b zs k f V (h.rs.bel hv))
  obtain ⟨l, hl⟩ : ∃ l, Cd.leftOf zs.length k f = l := ⟨_, rfl⟩
  obtain ⟨e, he⟩ : ∃ e, endOf zs.length k f = e := ⟨_, rfl⟩
  obtain ⟨e1, e2⟩ := e
  obtain ⟨x, hx⟩ : ∃ x, f.isSome = x := ⟨_, rfl⟩
  have hcase : (x = true ∧ l = 0 ∧ e1 ≠ 0) ∨ (x = false ∧ l ≠ 0) ∨ (x = false ∧ l = 0 ∧ e1 = 0) := by
    cases f with
    | some p =>
      refine .inl ⟨hx.symm, hl.symm, ?_⟩
      have h1 : p = (e1, e2) := he
      have h2 := Sm.flt_ne h
      rw [h1] at h2
      exact h2
    | none =>
      have hle : k ≤ zs.length := by
        obtain ⟨F, hr, _⟩ := h
        have := hr.sl.len; have := hr.le; omega
      have h1 : (zs.length : Int) - k = l := hl
      have h2 : (if k < zs.length then ((4 : Int), (k : Int)) else (0, 0)) = (e1, e2) := he
      by_cases hk : k < zs.length
      · exact .inr (.inl ⟨hx.symm, by omega⟩)
      · rw [if_neg hk] at h2
        injection h2 with h2 _
        exact .inr (.inr ⟨hx.symm, by omega, h2.symm⟩)
  rw [hl] at LE
  rw [he] at EN
  have hfd := Sm.field_flt e1 e2
  have EN := Lib.hid (fun V (hv : Bel w V) => show Calls Tryz.prog 33 #[.pointer (some ⟨b, 0, none⟩)] V fun e w' => e = .returned (.agg #[.int .i64 e1, .int .i64 e2]) ∧ Bel V w' from EN.out V hv)
  rw [hx]
  clear hl he hx h
  go_enter Tryz.func68, Tryz.ntmps68
  go_wp2_with fail
  refine (LE.out _ (Bel.refl _)).mono ?_
  rintro r w1 ⟨rfl, kb⟩
  have K1 := Lib.hid kb
  clear kb LE
  rcases hcase with ⟨rfl, rfl, h1⟩ | ⟨rfl, h1⟩ | ⟨rfl, rfl, rfl⟩
  · have h1' : (e1 != 0) = true := by rw [bne_iff_ne]; exact h1
    clear h1
    go_wp2_with fail
    refine (EN.out _ K1.out).mono ?_
    rintro r w2 ⟨rfl, kb⟩
    have K2 := Lib.hid (K1.out.trans kb)
    clear kb
    go_wp2_with fail
    go_ret
    exact ⟨rfl, K2.out⟩
  · have h1' : (l == 0) = false := beq_eq_false_iff_ne.2 h1
    clear h1
    go_wp2_with fail
    go_ret
    exact ⟨rfl, K1.out⟩
  · go_wp2_with fail
    refine (EN.out _ K1.out).mono ?_
    rintro r w2 ⟨rfl, kb⟩
    have K2 := Lib.hid (K1.out.trans kb)
    clear kb
    go_wp2_with fail
    go_ret
    exact ⟨rfl, K2.out⟩

/-- A reader stands while a block that is no fault's turns. -/
theorem rd_kep {w w' : World} {b p : Nat} {A : Option Addr} {n c : Nat} {zs : List Int} {k : Nat} {f : Option (Int × Int)} {C : Array Value} {t : TypeId} (h : RD b w b A n c zs k f) (hp : Blk w p C t) (ht : t ≠ 32)
    (hk : Kep (fun i => i = p) w w') (hbp : b ≠ p) (hA : 0 < n → ∀ x : Addr, A = some x → x.block ≠ p) : RD b w' b A n c zs k f := by
  obtain ⟨F, h1, h2, h3⟩ := h
  refine ⟨F, h1.kep0 hk hbp hA, h2.kep hk (fun x hx e => ?_), h3⟩
  rcases h2 with ⟨_, h⟩ | ⟨e', q, fb, _, h5, _, h7, _⟩
  · rw [h] at hx; cases hx
  · rw [h5] at hx
    injection hx with hx
    subst hx
    have e : fb = p := e
    subst e
    have := (show w.heap[fb]? = _ from hp).symm.trans h7
    simp at this
    exact ht this.2
theorem kep_past1 {w0 w w' : World} {b p : Nat} (h : Kep (fun i => i = b) w0 w) (hk : Kep (fun i => i = p) w w') (hp : w0.heap.size ≤ p) : Kep (fun i => i = b) w0 w' :=
  ⟨hk.os.trans h.os, hk.tape.trans h.tape, hk.output.trans h.output, Nat.le_trans h.size hk.size, fun i hi hS => (hk.block i (Nat.lt_of_lt_of_le hi h.size) (by omega)).trans (h.block i hi hS)⟩
/-- The memory while an entry is read: the entry's block p. -/
structure Tx (w0 w : World) (b p : Nat) (A : Option Addr) (n c : Nat) (zs : List Int) (k : Nat) (f : Option (Int × Int)) (x1 x2 x3 x4 x5 x6 x7 x8 : Int) : Prop where
  rd : RD b w b A n c zs k f
  sp : Blk w p #[.int .i64 x1, .int .i64 x2, .int .i64 x3, .int .i64 x4, .int .i64 x5, .int .i64 x6, .int .u64 x7, .int .u64 x8] 53
  kep : Kep (fun i => i = b) w0 w
  bp : b < w0.heap.size
  hp : w0.heap.size ≤ p
  ap : 0 < n → ∀ x : Addr, A = some x → x.block < w0.heap.size
section
variable {w0 w w' : World} {b p : Nat} {A : Option Addr} {n c : Nat} {zs : List Int} {k k' : Nat} {f f' : Option (Int × Int)} {x1 x2 x3 x4 x5 x6 x7 x8 y1 y2 y3 y4 y5 y6 y7 y8 : Int}
theorem Tx.call (h : Tx w0 w b p A n c zs k f x1 x2 x3 x4 x5 x6 x7 x8) (hr : RD b w' b A n c zs k' f') (hk : Kep (fun i => i = b) w w') : Tx w0 w' b p A n c zs k' f' x1 x2 x3 x4 x5 x6 x7 x8 :=
  ⟨hr, h.sp.kep hk (by have := h.bp; have := h.hp; omega), h.kep.trans hk, h.bp, h.hp, h.ap⟩
theorem Tx.put (h : Tx w0 w b p A n c zs k f x1 x2 x3 x4 x5 x6 x7 x8) (i : Nat) (v : Value)
    (e : (#[.int .i64 x1, .int .i64 x2, .int .i64 x3, .int .i64 x4, .int .i64 x5, .int .i64 x6, .int .u64 x7, .int .u64 x8] : Array Value).setIfInBounds i v = #[.int .i64 y1, .int .i64 y2, .int .i64 y3, .int .i64 y4, .int .i64 y5, .int .i64 y6, .int .u64 y7, .int .u64 y8]) : Tx w0 (w.setCell ⟨p, i, none⟩ v) b p A n c zs k f y1 y2 y3 y4 y5 y6 y7 y8 := by
  have hk : Kep (fun i => i = p) w (w.setCell ⟨p, i, none⟩ v) := (Kep.refl _ _).set_self i v
  refine ⟨rd_kep h.rd h.sp (by decide) hk (by have := h.bp; have := h.hp; omega) (fun hn x hx => by have := h.ap hn x hx; have := h.hp; omega), ?_, kep_past1 h.kep hk h.hp, h.bp, h.hp, h.ap⟩
  rw [← e]
  exact h.sp.set i v
theorem Tx.lt (h : Tx w0 w b p A n c zs k f x1 x2 x3 x4 x5 x6 x7 x8) : b < w.heap.size := Nat.lt_of_lt_of_le h.bp h.kep.size
theorem Tx.al (h : Tx w0 w b p A n c zs k f x1 x2 x3 x4 x5 x6 x7 x8) : 0 < n → ∀ x : Addr, A = some x → x.block < w.heap.size := fun hn x hx => Nat.lt_of_lt_of_le (h.ap hn x hx) h.kep.size
end
set_option maxRecDepth 10000 in
set_option maxHeartbeats 8000000 in
theorem entry (b : Nat) (A : Option Addr) (n c : Nat) (zs : List Int) (k : Nat) (f : Option (Int × Int)) (o s1 s2 s3 s4 u i m : Int) (k1 : Nat) (f1 : Option (Int × Int)) (k2 : Nat) (f2 : Option (Int × Int)) (k3 : Nat) (f3 : Option (Int × Int)) (k4 : Nat) (f4 : Option (Int × Int)) (k5 : Nat) (f5 : Option (Int × Int)) (w : World) (h : RD b w b A n c zs k f) (hA : 0 < n → ∀ x : Addr, A = some x → x.block < w.heap.size)
    (r1 : RN zs k f 0 63 o k1 f1) (r2 : Sm.Tk zs k1 f1 s1 s2 s3 s4 k2 f2) (r3 : RN zs k2 f2 1 4294967296 u k3 f3) (r4 : RU zs k3 f3 i k4 f4) (r5 : RU zs k4 f4 m k5 f5) :
    Calls Tryz.prog 66 #[.pointer (some ⟨b, 0, none⟩)] w fun r w' => r = .returned (.agg #[.int .i64 o, .int .i64 (Sm.tz f2 s1), .int .i64 (Sm.tz f2 s2), .int .i64 (Sm.tz f2 s3), .int .i64 (Sm.tz f2 s4), .int .i64 u, .int .u64 i, .int .u64 m]) ∧ RD b w' b A n c zs k5 f5 ∧ Kep (fun i => i = b) w w' := by
  have hbl : b < w.heap.size := by obtain ⟨F, hr, _⟩ := h; exact hr.blk.lt
  have T0 : Tx w (w.alloc (.cells #[.int .i64 0, .int .i64 0, .int .i64 0, .int .i64 0, .int .i64 0, .int .i64 0, .int .u64 0, .int .u64 0] 53)) b w.heap.size A n c zs k f 0 0 0 0 0 0 0 0 :=
    ⟨h.bel ((Bel.refl w).alloc _), Blk.new w _ _, Kep.of_bel ((Bel.refl w).alloc _), hbl, Nat.le_refl _, hA⟩
  have T0 := Lib.hid T0
  have N1 := Lib.hid (fun V (hv : RD b V b A n c zs k f) (hb : b < V.heap.size) => yN b b A n c zs k f 0 63 o k1 f1 V hv r1 (by decide) hb)
  have N2 := Lib.hid (fun V (hv : RD b V b A n c zs k1 f1) (ha : 0 < n → ∀ x : Addr, A = some x → x.block < V.heap.size) => Sm.take b A n c zs k1 f1 s1 s2 s3 s4 k2 f2 V hv ha r2)
  have N3 := Lib.hid (fun V (hv : RD b V b A n c zs k2 f2) (hb : b < V.heap.size) => yN b b A n c zs k2 f2 1 4294967296 u k3 f3 V hv r3 (by decide) hb)
  have N4 := Lib.hid (fun V (hv : RD b V b A n c zs k3 f3) (hb : b < V.heap.size) => yU b b A n c zs k3 f3 i k4 f4 V hv r4 hb)
  have N5 := Lib.hid (fun V (hv : RD b V b A n c zs k4 f4) (hb : b < V.heap.size) => yU b b A n c zs k4 f4 m k5 f5 V hv r5 hb)
  obtain ⟨t1, ht1⟩ : ∃ t, Sm.tz f2 s1 = t := ⟨_, rfl⟩
  obtain ⟨t2, ht2⟩ : ∃ t, Sm.tz f2 s2 = t := ⟨_, rfl⟩
  obtain ⟨t3, ht3⟩ : ∃ t, Sm.tz f2 s3 = t := ⟨_, rfl⟩
  obtain ⟨t4, ht4⟩ : ∃ t, Sm.tz f2 s4 = t := ⟨_, rfl⟩
  rw [ht1, ht2, ht3, ht4] at N2 ⊢
  clear h hA r1 r2 r3 r4 r5 hbl ht1 ht2 ht3 ht4
  go_enter Tryz.func66, Tryz.ntmps66
  go_upto_region 1 with fail
  obtain ⟨W, hW⟩ : ∃ W, w.alloc (.cells #[.int .i64 0, .int .i64 0, .int .i64 0, .int .i64 0, .int .i64 0, .int .i64 0, .int .u64 0, .int .u64 0] 53) = W := ⟨_, rfl⟩
  obtain ⟨p, hp⟩ : ∃ p, w.heap.size = p := ⟨_, rfl⟩
  rw [hW, hp] at T0
  rw [hW, hp]
  clear hW hp
  go_wp2_with fail
  refine (N1.out _ T0.out.rd T0.out.lt).mono ?_
  rintro r w2 ⟨rfl, hr, hk⟩
  have T1 := Lib.hid (T0.out.call hr hk)
  clear hr hk T0
  have c0 := T1.out.sp.cell 0 rfl
  have g0 := T1.out.sp.frozen 0
  go_upto_region 2 with fail
  have T2 := Lib.hid (T1.out.put (y1 := o) (y2 := 0) (y3 := 0) (y4 := 0) (y5 := 0) (y6 := 0) (y7 := 0) (y8 := 0) 0 (.int .i64 o) rfl)
  obtain ⟨WT2, hW⟩ : ∃ W, World.setCell w2 ⟨p, 0, none⟩ (.int .i64 o) = W := ⟨_, rfl⟩
  rw [hW] at T2 ⊢
  clear hW T1 c0 g0
  go_wp2_with fail
  refine (N2.out _ T2.out.rd T2.out.al).mono ?_
  rintro r w3 ⟨rfl, hr, hk⟩
  have T3 := Lib.hid (T2.out.call hr hk)
  clear hr hk T2
  have c1 := T3.out.sp.cell 1 rfl
  have g1 := T3.out.sp.frozen 1
  have c2 := T3.out.sp.cell 2 rfl
  have g2 := T3.out.sp.frozen 2
  have c3 := T3.out.sp.cell 3 rfl
  have g3 := T3.out.sp.frozen 3
  have c4 := T3.out.sp.cell 4 rfl
  have g4 := T3.out.sp.frozen 4
  go_upto_region 3 with fail
  have T4 := Lib.hid ((((T3.out.put (y1 := o) (y2 := t1) (y3 := 0) (y4 := 0) (y5 := 0) (y6 := 0) (y7 := 0) (y8 := 0) 1 (.int .i64 t1) rfl).put (y1 := o) (y2 := t1) (y3 := t2) (y4 := 0) (y5 := 0) (y6 := 0) (y7 := 0) (y8 := 0) 2 (.int .i64 t2) rfl).put (y1 := o) (y2 := t1) (y3 := t2) (y4 := t3) (y5 := 0) (y6 := 0) (y7 := 0) (y8 := 0) 3 (.int .i64 t3) rfl).put (y1 := o) (y2 := t1) (y3 := t2) (y4 := t3) (y5 := t4) (y6 := 0) (y7 := 0) (y8 := 0) 4 (.int .i64 t4) rfl)
  obtain ⟨WT4, hW⟩ : ∃ W, World.setCell (World.setCell (World.setCell (World.setCell w3 ⟨p, 1, none⟩ (.int .i64 t1)) ⟨p, 2, none⟩ (.int .i64 t2)) ⟨p, 3, none⟩ (.int .i64 t3)) ⟨p, 4, none⟩ (.int .i64 t4) = W := ⟨_, rfl⟩
  rw [hW] at T4 ⊢
  clear hW T3 c1 g1 c2 g2 c3 g3 c4 g4
  go_wp2_with fail
  refine (N3.out _ T4.out.rd T4.out.lt).mono ?_
  rintro r w4 ⟨rfl, hr, hk⟩
  have T5 := Lib.hid (T4.out.call hr hk)
  clear hr hk T4
  have c5 := T5.out.sp.cell 5 rfl
  have g5 := T5.out.sp.frozen 5
  go_upto_region 4 with fail
  have T6 := Lib.hid (T5.out.put (y1 := o) (y2 := t1) (y3 := t2) (y4 := t3) (y5 := t4) (y6 := u) (y7 := 0) (y8 := 0) 5 (.int .i64 u) rfl)
  obtain ⟨WT6, hW⟩ : ∃ W, World.setCell w4 ⟨p, 5, none⟩ (.int .i64 u) = W := ⟨_, rfl⟩
  rw [hW] at T6 ⊢
  clear hW T5 c5 g5
  go_wp2_with fail
  refine (N4.out _ T6.out.rd T6.out.lt).mono ?_
  rintro r w5 ⟨rfl, hr, hk⟩
  have T7 := Lib.hid (T6.out.call hr hk)
  clear hr hk T6
  have c6 := T7.out.sp.cell 6 rfl
  have g6 := T7.out.sp.frozen 6
  go_upto_region 5 with fail
  have T8 := Lib.hid (T7.out.put (y1 := o) (y2 := t1) (y3 := t2) (y4 := t3) (y5 := t4) (y6 := u) (y7 := i) (y8 := 0) 6 (.int .u64 i) rfl)
  obtain ⟨WT8, hW⟩ : ∃ W, World.setCell w5 ⟨p, 6, none⟩ (.int .u64 i) = W := ⟨_, rfl⟩
  rw [hW] at T8 ⊢
  clear hW T7 c6 g6
  go_wp2_with fail
  refine (N5.out _ T8.out.rd T8.out.lt).mono ?_
  rintro r w6 ⟨rfl, hr, hk⟩
  have T9 := Lib.hid (T8.out.call hr hk)
  clear hr hk T8
  have c7 := T9.out.sp.cell 7 rfl
  have g7 := T9.out.sp.frozen 7
  go_upto_region 6 with fail
  have T10 := Lib.hid (T9.out.put (y1 := o) (y2 := t1) (y3 := t2) (y4 := t3) (y5 := t4) (y6 := u) (y7 := i) (y8 := m) 7 (.int .u64 m) rfl)
  obtain ⟨WT10, hW⟩ : ∃ W, World.setCell w6 ⟨p, 7, none⟩ (.int .u64 m) = W := ⟨_, rfl⟩
  rw [hW] at T10 ⊢
  clear hW T9 c7 g7
  have c0 := T10.out.sp.cell 0 rfl
  have g0 := T10.out.sp.frozen 0
  have c1 := T10.out.sp.cell 1 rfl
  have g1 := T10.out.sp.frozen 1
  have c2 := T10.out.sp.cell 2 rfl
  have g2 := T10.out.sp.frozen 2
  have c3 := T10.out.sp.cell 3 rfl
  have g3 := T10.out.sp.frozen 3
  have c4 := T10.out.sp.cell 4 rfl
  have g4 := T10.out.sp.frozen 4
  have c5 := T10.out.sp.cell 5 rfl
  have g5 := T10.out.sp.frozen 5
  have c6 := T10.out.sp.cell 6 rfl
  have g6 := T10.out.sp.frozen 6
  have c7 := T10.out.sp.cell 7 rfl
  have g7 := T10.out.sp.frozen 7
  have TF := Lib.hid ((((((((T10.out.put (y1 := o) (y2 := t1) (y3 := t2) (y4 := t3) (y5 := t4) (y6 := u) (y7 := i) (y8 := m) 0 (.int .i64 o) rfl).put (y1 := o) (y2 := t1) (y3 := t2) (y4 := t3) (y5 := t4) (y6 := u) (y7 := i) (y8 := m) 1 (.int .i64 t1) rfl).put (y1 := o) (y2 := t1) (y3 := t2) (y4 := t3) (y5 := t4) (y6 := u) (y7 := i) (y8 := m) 2 (.int .i64 t2) rfl).put (y1 := o) (y2 := t1) (y3 := t2) (y4 := t3) (y5 := t4) (y6 := u) (y7 := i) (y8 := m) 3 (.int .i64 t3) rfl).put (y1 := o) (y2 := t1) (y3 := t2) (y4 := t3) (y5 := t4) (y6 := u) (y7 := i) (y8 := m) 4 (.int .i64 t4) rfl).put (y1 := o) (y2 := t1) (y3 := t2) (y4 := t3) (y5 := t4) (y6 := u) (y7 := i) (y8 := m) 5 (.int .i64 u) rfl).put (y1 := o) (y2 := t1) (y3 := t2) (y4 := t3) (y5 := t4) (y6 := u) (y7 := i) (y8 := m) 6 (.int .u64 i) rfl).put (y1 := o) (y2 := t1) (y3 := t2) (y4 := t3) (y5 := t4) (y6 := u) (y7 := i) (y8 := m) 7 (.int .u64 m) rfl)
  go_wp2_with fail
  refine bodyPost_ret (Pm.res_c rfl _ _ ⟨p, 0, none⟩ _ rfl (load_e TF.out.sp)) rfl ⟨rfl, TF.out.rd, TF.out.kep⟩
end Qu
end Go.Proofs.YtcefjigbaglmeaaGreat
end

section
/-
  What queue.entries answers of any reader that NewReader made of at most 10^6 bytes.
-/
namespace Go.Proofs.YtcefjigbaglmeaaGreat
open Go.RowKit Go.Shelf
set_option linter.unusedVariables false
set_option linter.unusedSimpArgs false
set_option Elab.async false
namespace Qu
open Cd

theorem toK {S : Nat → Prop} {a w : World} (h : Cd.Kep S a w) : Kk.Kep S a w := ⟨h.os, h.tape, h.output, h.size, h.block⟩
theorem ofK {S : Nat → Prop} {a w : World} (h : Kk.Kep S a w) : Cd.Kep S a w := ⟨h.os, h.tape, h.output, h.size, h.block⟩
theorem rd_blk {w : World} {b : Nat} {A : Option Addr} {n c : Nat} {zs : List Int} {k : Nat} {f : Option (Int × Int)} (h : RD b w b A n c zs k f) : ∃ C, Blk w b C 105 := by
  obtain ⟨F, h1, _⟩ := h
  exact ⟨_, h1.blk⟩
theorem kep_grown {w w' : World} {b : Nat} (h : w.grownBy w' (some b)) : Kep (fun i => i = b) w w' :=
  ⟨h.os, h.tape, h.output, h.size, fun i hi hb => h.block i hi (fun e => hb (by injection e))⟩
theorem srt_bef {pre : List E8} {x : E8} : bef 0 (pre ++ [x]) (pre ++ [x]).length = cr x := by
  rw [show (pre ++ [x]).length = pre.length + 1 by simp]
  exact bef_succ (by simp)
/-- What is told of what was read. -/
def lz (f : Option (Int × Int)) (l : List E8) : List E8 := match f with
  | none => l
  | some _ => []
/-- Where one stands behind i rounds of m. -/
def Wh (zs : List Int) (l : List E8) (m i : Nat) (pre : List E8) (kk : Nat) (ff : Option (Int × Int)) (k' : Nat) (f' : Option (Int × Int)) : Prop :=
  (ff = none ∧ ∃ rest, Rl zs (m - i) rest kk (bef 0 pre pre.length) k' f' ∧ (f' = none → l = pre ++ rest)) ∨ (m = 0 ∧ kk = k' ∧ ff = f' ∧ f' ≠ none)
set_option maxRecDepth 100000 in
set_option maxHeartbeats 16000000 in
theorem entries (b : Nat) (A : Option Addr) (n c : Nat) (zs : List Int) (l : List E8) (k' : Nat) (f' : Option (Int × Int)) (w : World) (h : RD b w b A n c zs 0 none) (hA : 0 < n → ∀ x : Addr, A = some x → x.block < w.heap.size) (hr : Rq zs l k' f') :
    Calls Tryz.prog 32 #[.pointer (some ⟨b, 0, none⟩)] w fun r w' => ∃ v, r = .returned v ∧ OwnE w' w.heap.size v (lz f' l) ∧ RD b w' b A n c zs k' f' ∧ Kep (fun i => i = b) w w' := by
  obtain ⟨m', k0, f0, r0, hw⟩ := hr
  have hbl : b < w.heap.size := by obtain ⟨F, hr, _⟩ := h; exact hr.blk.lt
  obtain ⟨m, hm, rfl⟩ : ∃ m : Nat, m ≤ 32768 ∧ m' = (m : Int) := by
    rcases hw with ⟨p, _, h2, _⟩ | ⟨_, h2, h3, _⟩
    · exact ⟨0, by omega, h2⟩
    · exact ⟨m'.toNat, by omega, by omega⟩
  have HWH := Lib.hid (show Wh zs l m 0 [] k0 f0 k' f' from by
    rcases hw with ⟨p, h1, h2, h3, h4, h5⟩ | ⟨h1, h2, h3, h4⟩
    · exact .inr ⟨by omega, h4.symm, h5.symm, by rw [h5, h1]; simp⟩
    · refine .inl ⟨h1, l, ?_, fun _ => rfl⟩
      rw [Int.toNat_natCast] at h4
      exact h4)
  have N0 := Lib.hid (yN b b A n c zs 0 none 0 32768 (m : Int) k0 f0 w h r0 (by decide) hbl)
  have HA := Lib.hid hA
  have HBL := Lib.hid hbl
  clear h hA r0 hw hbl
  go_enter Tryz.func32, Tryz.ntmps32
  go_wp2_with fail
  refine N0.out.mono ?_
  rintro r w1 ⟨rfl, hr, hk⟩
  have R1 := Lib.hid hr
  have K1 := Lib.hid hk
  clear hr hk N0
  go_wp2_with fail
  go_loopw [2, 7] (fun s2 s7 wr => ∃ (i kk : Nat) (ff : Option (Int × Int)) (pre : List E8), s7 = .int .i64 i ∧ i ≤ m ∧ Hid (pre.length = i) ∧ Hid (OwnE wr w.heap.size s2 pre) ∧ Hid (RD b wr b A n c zs kk ff) ∧ Hid (Wh zs l m i pre kk ff k' f') ∧ Hid (Kep (fun j => j = b) w wr)) (fun _ s7 _ => m - (intOf s7).toNat)
  case atStart => exact ⟨0, k0, f0, [], rfl, Nat.zero_le _, Lib.hid rfl, Lib.hid (Rw.OwnR.nil_ _ _ _ _), R1, HWH, K1⟩
  case round =>
    obtain ⟨i, kk, ff, pre, rfl, hi, hpl, ho, hrd, hwh, hkp⟩ := hrel
    by_cases hlt : i < m
    · have hlt3 : (i : Int) < m := by omega
      obtain ⟨hff, rest, hrl, hll⟩ : ff = none ∧ ∃ rest, Rl zs (m - i) rest kk (bef 0 pre pre.length) k' f' ∧ (f' = none → l = pre ++ rest) := by
        rcases hwh.out with h | h
        · exact h
        · omega
      subst hff
      rw [show m - i = (m - (i + 1)) + 1 by omega] at hrl
      obtain ⟨x, k1, f1, ⟨o, a, b', c', d, u, ii, mm, q1, g1, q2, g2, q3, g3, q4, g4, g5, hx, t1, t2, t3, t4, t5, hf1⟩, hww, hor⟩ := hrl
      have HLL := Lib.hid hll
      have HOR := Lib.hid hor
      have HF1 := Lib.hid hf1
      have HWW := Lib.hid hww
      have AT := Lib.hid (rAt b zs kk none wr hrd.out.rs)
      obtain ⟨at_, hat⟩ : ∃ a, atOf kk none = a := ⟨_, rfl⟩
      rw [hat] at AT HF1
      obtain ⟨x1, x2, x3, x4, x5, x6, x7, x8⟩ := x
      have hx' := hx
      injection hx' with e1 e2
      injection e2 with e2 e3
      injection e3 with e3 e4
      injection e4 with e4 e5
      injection e5 with e5 e6
      injection e6 with e6 e7
      injection e7 with e7 e8
      have EN := Lib.hid (entry b A n c zs kk none o a b' c' d u ii mm q1 g1 q2 g2 q3 g3 q4 g4 k1 g5 wr hrd.out (fun hn x hx => Nat.lt_of_lt_of_le (HA.out hn x hx) hkp.out.size) t1 t2 t3 t4 t5)
      rw [← e1, ← e2, ← e3, ← e4, ← e5, ← e6, ← e7, ← e8] at EN
      clear hll hor hf1 hww hwh hx t1 t2 t3 t4 t5 hat e1 e2 e3 e4 e5 e6 e7 e8
      go_wp2_with fail
      refine AT.out.mono ?_
      rintro r w2 ⟨rfl, rfl⟩
      clear AT
      go_wp2_with fail
      refine EN.out.mono ?_
      rintro r w3 ⟨rfl, hr3, hk3⟩
      have R3 := Lib.hid hr3
      have K3 := Lib.hid (hkp.out.trans hk3)
      have O3 := Lib.hid (show OwnE w3 w.heap.size _ _ from ho.out.kep (S := fun i => i = b) (toK hk3) (fun j hj e => by
        subst e
        obtain ⟨C, hC⟩ := rd_blk hrd.out
        exact Rw.own_ne ho.out hC (by decide) hj))
      clear hr3 hk3 EN ho hrd hkp
      go_upto_region 5 with fail
      have X4 := Blk.new w3 #[.int .i64 x1, .int .i64 x2, .int .i64 x3, .int .i64 x4, .int .i64 x5, .int .i64 x6, .int .u64 x7, .int .u64 x8] 53
      have B4 := (Bel.refl w3).alloc (.cells #[.int .i64 x1, .int .i64 x2, .int .i64 x3, .int .i64 x4, .int .i64 x5, .int .i64 x6, .int .u64 x7, .int .u64 x8] 53)
      obtain ⟨w4, hw4⟩ : ∃ w4, w3.alloc (.cells #[.int .i64 x1, .int .i64 x2, .int .i64 x3, .int .i64 x4, .int .i64 x5, .int .i64 x6, .int .u64 x7, .int .u64 x8] 53) = w4 := ⟨_, rfl⟩
      obtain ⟨g, hg⟩ : ∃ g, w3.heap.size = g := ⟨_, rfl⟩
      rw [hw4] at X4 B4 ⊢
      rw [hg] at X4 ⊢
      have HGB := Lib.hid (show g ≠ b from by
        obtain ⟨C, hC⟩ := rd_blk R3.out
        have := hC.lt
        omega)
      have R4_ := Lib.hid (R3.out.bel B4)
      have K4 := Lib.hid (K3.out.trans (Kep.of_bel B4))
      have O4 := Lib.hid (O3.out.bel B4)
      have X4 := Lib.hid X4
      clear hw4 hg B4 R3 K3 O3
      obtain ⟨Ap, cp, rfl, hrp⟩ := Rw.OwnR.slice O4.out
      have FL := Lib.hid (flaw Ap pre.length cp pre x1 x2 x3 x4 x5 x6 x7 x8 w4 hrp (by have := hpl.out; omega))
      obtain ⟨E, hE⟩ : ∃ E, qE (bef 0 pre pre.length) (x1, x2, x3, x4, x5, x6, x7, x8) = E := ⟨_, rfl⟩
      rw [hE] at FL HF1
      have HQE := Lib.hid hE
      clear hE hrp
      have c0 := X4.out.cell 0 rfl
      have c1 := X4.out.cell 1 rfl
      have c2 := X4.out.cell 2 rfl
      have c3 := X4.out.cell 3 rfl
      have c4 := X4.out.cell 4 rfl
      have c5 := X4.out.cell 5 rfl
      have c6 := X4.out.cell 6 rfl
      have c7 := X4.out.cell 7 rfl
      go_wp2_with fail
      refine FL.out.mono ?_
      rintro r w5 ⟨rfl, kb⟩
      have R5 := Lib.hid (R4_.out.bel kb)
      have K5 := Lib.hid (K4.out.trans (Kep.of_bel kb))
      have O5 := Lib.hid (O4.out.bel kb)
      have X5 := Lib.hid (X4.out.bel kb)
      have HB5 := Lib.hid (show b < w5.heap.size from by obtain ⟨C, hC⟩ := rd_blk R5.out; exact hC.lt)
      clear kb FL R4_ K4 O4 X4 c0 c1 c2 c3 c4 c5 c6 c7
      have FA := Lib.hid (yFail b b A n c zs k1 g5 E at_ w5 R5.out HB5.out)
      rw [← HF1.out] at FA
      go_wp2_with fail
      refine FA.out.mono ?_
      rintro r w6 ⟨rfl, hr6, hk6⟩
      have R6 := Lib.hid hr6
      have K6 := Lib.hid (K5.out.trans hk6)
      have O6 := Lib.hid (show OwnE w6 w.heap.size _ _ from O5.out.kep (S := fun i => i = b) (toK hk6) (fun j hj e => by
        subst e
        obtain ⟨C, hC⟩ := rd_blk R5.out
        exact Rw.own_ne O5.out hC (by decide) hj))
      have X6 := Lib.hid (X5.out.kep hk6 HGB.out)
      clear hr6 hk6 FA R5 K5 O5 X5 HB5
      have IF := Lib.hid (isFaulty b A n c zs k1 f1 w6 R6.out)
      cases f1 with
      | some p =>
        have HE := Lib.hid (show k' = k1 ∧ f' = some p from by
          rcases HOR.out with ⟨h, _⟩ | ⟨_, _, _, h1, h2⟩
          · cases h
          · exact ⟨h1, h2⟩)
        go_wp2_with fail
        refine IF.out.mono ?_
        rintro r w7 ⟨rfl, kb⟩
        have R7 := Lib.hid (R6.out.bel kb)
        have K7 := Lib.hid (K6.out.trans (Kep.of_bel kb))
        clear kb IF R6 K6 O6 X6
        go_wp2_with fail
        (try rw [Exit.noGoto_ret])
        go_ret
        refine ⟨_, rfl, ?_, ?_, K7.out⟩
        · rw [HE.out.2]; exact Rw.OwnR.nil_ _ _ _ _
        · rw [HE.out.1, HE.out.2]; exact R7.out
      | none =>
        have HE := Lib.hid (show ∃ t, Rl zs (m - (i + 1)) t k1 (cr (x1, x2, x3, x4, x5, x6, x7, x8)) k' f' ∧ (f' = none → l = (pre ++ [(x1, x2, x3, x4, x5, x6, x7, x8)]) ++ t) from by
          rcases HOR.out with ⟨_, t, h1, h2⟩ | ⟨_, h, _⟩
          · exact ⟨t, h2, fun h => by rw [HLL.out h, h1]; simp⟩
          · cases h)
        go_wp2_with fail
        refine IF.out.mono ?_
        rintro r w7 ⟨rfl, kb⟩
        have R7 := Lib.hid (R6.out.bel kb)
        have K7 := Lib.hid (K6.out.trans (Kep.of_bel kb))
        have O7 := Lib.hid (O6.out.bel kb)
        have X7 := Lib.hid (X6.out.bel kb)
        clear kb IF R6 K6 O6 X6
        have c0 := X7.out.cell 0 rfl
        have c1 := X7.out.cell 1 rfl
        have c2 := X7.out.cell 2 rfl
        have c3 := X7.out.cell 3 rfl
        have c4 := X7.out.cell 4 rfl
        have c5 := X7.out.cell 5 rfl
        have c6 := X7.out.cell 6 rfl
        have c7 := X7.out.cell 7 rfl
        have HX := Lib.hid (Rw.rs_one eR (r := (x1, x2, x3, x4, x5, x6, x7, x8)) (Kk.Blk.new w7 #[.int .i64 x1, .int .i64 x2, .int .i64 x3, .int .i64 x4, .int .i64 x5, .int .i64 x6, .int .u64 x7, .int .u64 x8] 53))
        have B8 := (Bel.refl w7).alloc (.cells #[.int .i64 x1, .int .i64 x2, .int .i64 x3, .int .i64 x4, .int .i64 x5, .int .i64 x6, .int .u64 x7, .int .u64 x8] 53)
        have O8 := Lib.hid (O7.out.bel B8)
        have R8 := Lib.hid (R7.out.bel B8)
        have K8 := Lib.hid (K7.out.trans (Kep.of_bel B8))
        have HPL := Lib.hid hpl.out
        clear B8
        go_wp2_with (at_builtin; refine Rw.append_R eR rfl _ _ _ 53 rfl underE zero_E rfl (by decide) w.heap.size _ pre rfl O8.out (some ⟨w7.heap.size, 0, none⟩) 1 1 [(x1, x2, x3, x4, x5, x6, x7, x8)] rfl HX.out (by have := HPL.out; omega) (by have := K7.out.size; simp; omega) ?_; intro v' w9 hown' hgrow)
        have hgrow : World.grownBy _ w9 (Value.ownBlock (Value.slice Ap pre.length cp)) := hgrow
        have O9 := Lib.hid hown'
        have R9 := Lib.hid (show RD b w9 b A n c zs k1 none from by
          rcases hob : Value.ownBlock (Value.slice Ap pre.length cp) with _ | j
          · rw [hob] at hgrow
            exact R8.out.bel ⟨hgrow.os, hgrow.tape, hgrow.output, hgrow.size, fun i hi => hgrow.block i hi (by simp)⟩
          · rw [hob] at hgrow
            obtain ⟨C, hC⟩ := Rw.own_blk O8.out hob
            have hjb : b ≠ j := fun e => by
              subst e
              obtain ⟨C', hC'⟩ := rd_blk R8.out
              exact Rw.own_ne O8.out hC' (by decide) hob
            refine rd_kep R8.out hC (by decide) (kep_grown hgrow) hjb (fun hn x hx => ?_)
            have h1 := HA.out hn x hx
            have h2 := Rw.own_ge O8.out hob
            omega)
        have K9 := Lib.hid (show Kep (fun j => j = b) w w9 from ⟨hgrow.os.trans K8.out.os, hgrow.tape.trans K8.out.tape, hgrow.output.trans K8.out.output, Nat.le_trans K8.out.size hgrow.size, fun j hj hne => (hgrow.block j (Nat.lt_of_lt_of_le hj K8.out.size) (fun e => by
          have h2 := Rw.own_ge O8.out e.symm
          omega)).trans (K8.out.block j hj hne)⟩)
        have W9_ := Lib.hid (show Wh zs l m (i + 1) (pre ++ [(x1, x2, x3, x4, x5, x6, x7, x8)]) k1 none k' f' from by
          obtain ⟨t, h1, h2⟩ := HE.out
          exact .inl ⟨rfl, t, by rw [srt_bef]; exact h1, h2⟩)
        have L9 := Lib.hid (show (pre ++ [(x1, x2, x3, x4, x5, x6, x7, x8)]).length = i + 1 by simp [HPL.out])
        clear hown' hgrow
        go_wp2_with fail
        go_roundw
        case rel => exact ⟨i + 1, k1, none, pre ++ [(x1, x2, x3, x4, x5, x6, x7, x8)], by go_num, by omega, L9, O9, R9, W9_, K9⟩
        case measure => simp [intOf]; omega
    · obtain rfl : i = m := by omega
      have HE := Lib.hid (show kk = k' ∧ ff = f' ∧ lz f' l = (if f' = none then pre else []) from by
        rcases hwh.out with ⟨h1, rest, h2, h3⟩ | ⟨h1, h2, h3, h4⟩
        · rw [Nat.sub_self] at h2
          obtain ⟨e1, e2, e3⟩ := h2
          subst e1 e2 e3 h1
          exact ⟨rfl, rfl, by rw [if_pos rfl]; show l = pre; rw [h3 rfl]; simp⟩
        · refine ⟨h2, h3, ?_⟩
          cases f' with
          | none => exact absurd rfl h4
          | some p => rfl)
      obtain ⟨hk1, hf1, hlz⟩ := HE.out
      subst hk1 hf1
      have HLZ := Lib.hid hlz
      clear hlz HE
      go_wp2_with fail
      (try rw [Exit.noGoto_ret])
      go_ret
      refine ⟨_, rfl, ?_, hrd.out, hkp.out⟩
      cases ff with
      | none =>
        rw [HLZ.out, if_pos rfl]
        exact ho.out
      | some p =>
        have hp0 : pre = [] := by
          rcases hwh.out with ⟨h1, _⟩ | ⟨h1, _⟩
          · cases h1
          · exact List.length_eq_zero_iff.1 (by have := hpl.out; omega)
        rw [HLZ.out, if_neg (by simp), ← hp0]
        exact ho.out
end Qu
end Go.Proofs.YtcefjigbaglmeaaGreat
end

section
/-
  What queue.Read answers. Conditions: at most 10^6 bytes; the bytes are bytes.
-/
namespace Go.Proofs.YtcefjigbaglmeaaGreat
open Go.RowKit Go.Shelf
set_option linter.unusedVariables false
set_option linter.unusedSimpArgs false
set_option Elab.async false
namespace Qu
open Cd

theorem res_tc {fn : Func} {p q : Tmp} {tq : TypeId} (h : fn.results = #[.tmp p, .cell q tq]) (tmps : Array Value) (w : World) (c : Addr) (X Y : Value)
    (hp : tmps.getD p undef = X) (hq : tmps.getD q undef = .pointer (some c)) (hY : (loadVar tq c).run Tryz.prog w = .ok Y w) : (results fn tmps).run Tryz.prog w = .ok (.tuple #[X, Y]) w := by
  have hp' : tmps[p]?.getD undef = X := by simpa using hp
  have hq' : tmps[q]?.getD undef = .pointer (some c) := by simpa using hq
  simp [results, h, hp', hq', asAddr, hY]
theorem load_flt {w : World} {b : Nat} {a1 a2 : Int} (h : Blk w b #[.int .i64 a1, .int .i64 a2] 32) : (loadVar 32 ⟨b, 0, none⟩).run Tryz.prog w = .ok (.agg #[.int .i64 a1, .int .i64 a2]) w :=
  Pm.load_b (C := [.int .i64 a1, .int .i64 a2]) h Tryz.underlying32 rfl (by kernel_rfl)
theorem end_e2 {n k : Nat} {f : Option (Int × Int)} {e1 e2 : Int} (he : endOf n k f = (e1, e2)) (hf : ∀ p, f = some p → p.1 ≠ 0) (h : e1 = 0) : e2 = 0 ∧ f = none ∧ n ≤ k := by
  cases f with
  | none =>
    have h1 : (if k < n then ((4 : Int), (k : Int)) else (0, 0)) = (e1, e2) := he
    by_cases hk : k < n
    · rw [if_pos hk] at h1
      injection h1 with h1 _
      omega
    · rw [if_neg hk] at h1
      injection h1 with _ h1
      exact ⟨h1.symm, rfl, by omega⟩
  | some p =>
    have h1 : p = (e1, e2) := he
    exact absurd h (by have := hf p rfl; rw [h1] at this; exact this)
/-- The fault of what was read. -/
def rdE (e : Int × Int) (l : List E8) : Int × Int := if e.1 ≠ 0 then e else if 4611686018427387904 < tot l then (12, 0) else (0, 0)
def rdL (e : Int × Int) (l : List E8) : List E8 := if (rdE e l).1 = 0 then l else []
set_option maxRecDepth 100000 in
set_option maxHeartbeats 8000000 in
theorem read_ (A : Option Addr) (n c : Nat) (zs : List Int) (l : List E8) (k' : Nat) (f' : Option (Int × Int)) (e1 e2 : Int) (w : World) (hs : Sl w A n c zs) (hn : n ≤ 1000000) (hb : Bytes zs)
    (hr : Rq zs l k' f') (hl : l.length ≤ 32768) (hw : Wd l) (he : endOf zs.length k' f' = (e1, e2)) :
    Calls Tryz.prog 10 #[.slice A n c] w fun r w' => ∃ v, r = .returned (.tuple #[v, .agg #[.int .i64 (rdE (e1, e2) l).1, .int .i64 (rdE (e1, e2) l).2]]) ∧ OwnE w' w.heap.size v (rdL (e1, e2) l) ∧ Bel w w' := by
  have HS := Lib.hid hs
  have HB := Lib.hid hb
  have HR := Lib.hid hr
  have HL := Lib.hid hl
  have HWD := Lib.hid hw
  have HE := Lib.hid he
  have HN := Lib.hid hn
  clear hs hb hr hl hw he hn
  have Q0 := Blk.new w #[.int .i64 0, .int .i64 0] 32
  have B0 := (Bel.refl w).alloc (.cells #[.int .i64 0, .int .i64 0] 32)
  obtain ⟨W, hW⟩ : ∃ W, w.alloc (.cells #[.int .i64 0, .int .i64 0] 32) = W := ⟨_, rfl⟩
  obtain ⟨q, hq⟩ : ∃ q, w.heap.size = q := ⟨_, rfl⟩
  rw [hW, hq] at Q0
  rw [hW] at B0
  have Q0 := Lib.hid Q0
  have B0 := Lib.hid B0
  have HW := Lib.hid hW
  have HQ := Lib.hid hq
  clear hW hq
  go_enter Tryz.func10, Tryz.ntmps10
  go_upto_region 1 with fail
  rw [HW.out, HQ.out]
  go_wp2_with fail
  refine (newReader A n c zs W (HS.out.bel B0.out) HN.out HB.out).mono ?_
  rintro r w1 ⟨b, A', c', rfl, hbb, hr, hA, kb⟩
  have Q1 := Lib.hid (Q0.out.bel kb)
  have K1 := Lib.hid (B0.out.trans kb)
  have HBQ := Lib.hid (show q < b from Nat.lt_of_lt_of_le Q0.out.lt hbb)
  have HSB := Lib.hid (show w.heap.size ≤ b from Nat.le_trans (Below.size B0.out) hbb)
  have R1 := Lib.hid (show RD b w1 b A' n c' zs 0 none from ⟨none, hr, .inl ⟨rfl, rfl⟩, fun x hx => by cases hx⟩)
  have HA1 := Lib.hid (fun (hn : 0 < n) (x : Addr) (hx : A' = some x) => show x.block < w1.heap.size from by
    obtain ⟨b', o', e, hlt, _⟩ := hr.sl.ints.cell (i := 0) hn
    rw [e] at hx; injection hx with hx; subst hx; exact hlt)
  clear hbb hr hA kb
  have NN := Lib.hid (entries b A' n c' zs l k' f' w1 R1.out HA1.out HR.out)
  go_wp2_with fail
  refine NN.out.mono ?_
  rintro r w2 ⟨v2, rfl, ho, hrd, hkp⟩
  have Q3 := Lib.hid (Q1.out.kep hkp (by have := HBQ.out; omega))
  have K3 := Lib.hid (show Bel w w2 from Kep.bel K1.out hkp (fun i hi => by rw [hi]; exact HSB.out))
  have EN := Lib.hid (rEnd b zs k' f' w2 hrd.rs)
  rw [HE.out] at EN
  have EN := Lib.hid (show Calls Tryz.prog 33 #[.pointer (some ⟨b, 0, none⟩)] w2 fun e w' => e = .returned (.agg #[.int .i64 e1, .int .i64 e2]) ∧ Bel w2 w' from EN.out)
  have HFP := Lib.hid (fun p (hp : f' = some p) => Sm.flt_ne (by rw [hp] at hrd; exact hrd))
  have O3 := Lib.hid (show OwnE w2 w.heap.size v2 (lz f' l) from ho.mono (Below.size K1.out))
  clear hkp ho hrd NN R1 Q1 K1
  go_wp2_with fail
  refine EN.out.mono ?_
  rintro r w4 ⟨rfl, kb⟩
  have Q4 := Lib.hid (Q3.out.bel kb)
  have K4 := Lib.hid (K3.out.trans kb)
  have O4 := Lib.hid (O3.out.bel kb)
  clear kb EN Q3 K3 O3
  have T0 := Blk.new w4 #[.int .i64 e1, .int .i64 e2] 32
  have TB := (Bel.refl w4).alloc (.cells #[.int .i64 e1, .int .i64 e2] 32)
  go_upto_region 4 with fail
  obtain ⟨W5, hW⟩ : ∃ W, w4.alloc (.cells #[.int .i64 e1, .int .i64 e2] 32) = W := ⟨_, rfl⟩
  obtain ⟨u, hu⟩ : ∃ u, w4.heap.size = u := ⟨_, rfl⟩
  rw [hW] at T0 TB ⊢
  rw [hu] at T0 ⊢
  have T5 := Lib.hid T0
  have Q5 := Lib.hid (Q4.out.bel TB)
  have K5 := Lib.hid (K4.out.trans TB)
  have O5 := Lib.hid (O4.out.bel TB)
  have LU := Lib.hid (show q < u by rw [← hu]; exact Q4.out.lt)
  clear hW hu T0 TB Q4 K4 O4
  have hqu : q ≠ u := by have := LU.out; omega
  have t0 := T5.out.cell 0 rfl
  have t1 := T5.out.cell 1 rfl
  have q0 := Q5.out.cell 0 rfl
  have q1 := Q5.out.cell 1 rfl
  have fq0 := Q5.out.frozen 0
  have fq1 := Q5.out.frozen 1
  have HLQ := Lib.hid (show w.heap.size ≤ q by rw [HQ.out]; exact Nat.le_refl _)
  by_cases h0 : e1 = 0
  · obtain ⟨h2, h3, -⟩ := end_e2 HE.out HFP.out h0
    subst h2 h3
    subst h0
    have O5 := Lib.hid (show OwnE W5 w.heap.size v2 l from O5.out)
    obtain ⟨Av, cv, rfl, hrs⟩ := Rw.OwnR.slice O5.out
    have BA := Lib.hid (balances Av l.length cv l W5 hrs (by have := HL.out; omega) HWD.out)
    have HG := Lib.hid (show (4611686018427387904 < cap (tot l)) ↔ 4611686018427387904 < tot l from cap_big)
    obtain ⟨C, hC⟩ : ∃ C, cap (tot l) = C := ⟨_, rfl⟩
    rw [hC] at BA HG
    clear hrs hC t0 t1 q0 q1 fq0 fq1
    have t0 := T5.out.cell 0 rfl
    go_wp2_with fail
    refine BA.out.mono ?_
    rintro r w6 ⟨rfl, kb⟩
    have Q6 := Lib.hid (Q5.out.bel kb)
    have K6 := Lib.hid (K5.out.trans kb)
    have O6 := Lib.hid (O5.out.bel kb)
    clear kb BA t0
    have q0 := Q6.out.cell 0 rfl
    have q1 := Q6.out.cell 1 rfl
    have fq0 := Q6.out.frozen 0
    have fq1 := Q6.out.frozen 1
    by_cases hov : 4611686018427387904 < C
    · have HE1 := Lib.hid (show rdE (0, 0) l = (12, 0) from by unfold rdE; rw [if_neg (by simp), if_pos (HG.out.1 hov)])
      go_wp2_with fail
      have QF := ((Q6.out.set 0 (.int .i64 12)).set 1 (.int .i64 0))
      refine bodyPost_ret (res_tc rfl _ _ ⟨q, 0, none⟩ _ _ rfl rfl (load_flt QF)) rfl ⟨_, by rw [HE1.out], ?_, (K6.out.set HLQ.out _).set HLQ.out _⟩
      unfold rdL
      rw [HE1.out, if_neg (by decide)]
      exact Rw.OwnR.nil_ _ _ _ _
    · have HE1 := Lib.hid (show rdE (0, 0) l = (0, 0) from by unfold rdE; rw [if_neg (by simp), if_neg (fun h => hov (HG.out.2 h))])
      have OF := Lib.hid (show OwnE ((w6.setCell ⟨q, 0, none⟩ (.int .i64 0)).setCell ⟨q, 1, none⟩ (.int .i64 0)) w.heap.size _ l from O6.out.kep (((Kk.Kep.refl (fun j => j = q) w6).set_self 0 _).set_self 1 _) (fun j hj e => by
        subst e
        exact Rw.own_ne O6.out Q6.out (by decide) hj))
      go_wp2_with fail
      have QF := ((Q6.out.set 0 (.int .i64 0)).set 1 (.int .i64 0))
      refine bodyPost_ret (res_tc rfl _ _ ⟨q, 0, none⟩ _ _ rfl rfl (load_flt QF)) rfl ⟨_, by rw [HE1.out], ?_, (K6.out.set HLQ.out _).set HLQ.out _⟩
      unfold rdL
      rw [HE1.out, if_pos rfl]
      exact OF.out
  · have h1 : (e1 != 0) = true := by rw [bne_iff_ne]; exact h0
    have H0 := Lib.hid h0
    have HE1 := Lib.hid (show rdE (e1, e2) l = (e1, e2) from if_pos h0)
    clear h0
    go_wp2_with fail
    go_region
    all_goals
      go_wp2_with fail
      have QF := ((Q5.out.set 0 (.int .i64 e1)).set 1 (.int .i64 e2)).bel (Bel.refl _).drew
      refine bodyPost_ret (res_tc rfl _ _ ⟨q, 0, none⟩ _ _ rfl rfl (load_flt QF)) rfl ⟨_, by rw [HE1.out], ?_, ((K5.out.set HLQ.out _).set HLQ.out _).drew⟩
      unfold rdL
      rw [HE1.out, if_neg H0.out]
      exact Rw.OwnR.nil_ _ _ _ _
end Qu
end Go.Proofs.YtcefjigbaglmeaaGreat
end
