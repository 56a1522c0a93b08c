/-
  StampRows: stamps written and read one behind the other, beside the reference. Conditions: what the slices hold is of its kinds.
-/
import Derived.Test.YtagcpphkabkgjaaSm9a
import Derived.Test.YtagcpphkabkgjaaSm7m
import Derived.Laws.StructEq
namespace Go.Proofs.Ytagcpphkabkgjaa
open Go.RowKit Go.Shelf
set_option linter.unusedVariables false
namespace Sm
open Cd

/-- Stamps in memory. -/
def StB (a b c d : Int) : Prop := -9223372036854775808 ≤ a ∧ a ≤ 9223372036854775807 ∧ -9223372036854775808 ≤ b ∧ b ≤ 9223372036854775807 ∧ -9223372036854775808 ≤ c ∧ c ≤ 9223372036854775807 ∧ -9223372036854775808 ≤ d ∧ d ≤ 9223372036854775807
def Stamps (w : World) (A : Option Addr) (n : Nat) : Prop := 0 < n → ∃ b o, A = some ⟨b, o, none⟩ ∧ b < w.heap.size ∧ ∀ i, i < n → ∃ x1 x2 x3 x4, StB x1 x2 x3 x4 ∧ w.rangeAt b (o + i * 4) [.int .i64 x1, .int .i64 x2, .int .i64 x3, .int .i64 x4]
theorem inf4 (x1 x2 x3 x4 : Int) : (Try.prog.info? 23).map (·.size) = some ([.int .i64 x1, .int .i64 x2, .int .i64 x3, .int .i64 x4] : List Value).length := info_st

/-- Both writers, side by side. -/
structure PW (w0 : World) (b d : Nat) (L : Int) (s t : List Int × Int) (W : World) : Prop where
  bel : Bel w0 W
  hb : w0.heap.size ≤ b
  hd : w0.heap.size ≤ d
  ne : b ≠ d
  ex : ∃ v u B D, WS W b L v s.2 s.1 B ∧ RW W d L u t.2 t.1 D ∧ w0.heap.size ≤ B ∧ w0.heap.size ≤ D ∧ ∀ g, v.ownBlock = some g → u.ownBlock ≠ some g
theorem PW.up {w0 : World} {b d : Nat} {L : Int} {s t : List Int × Int} {W V : World} (h : PW w0 b d L s t W) (hk : Bel W V) : PW w0 b d L s t V := by
  obtain ⟨v, u, B, D, h1, h2, h3, h4, h5⟩ := h.ex
  exact ⟨h.bel.trans hk, h.hb, h.hd, h.ne, v, u, B, D, h1.bel hk, h2.bel hk, h3, h4, h5⟩
theorem PW.put {w0 : World} {b d : Nat} {L : Int} {s t : List Int × Int} {W : World} (h : PW w0 b d L s t W) (h1 : s.2 ≠ 1) (x1 x2 x3 x4 : Int) :
    Calls Try.prog 19 #[.pointer (some ⟨b, 0, none⟩), stV x1 x2 x3 x4] W fun r w' => r = .returned (.int .i64 (if ck x1 x2 x3 x4 = 0 then (put4 L s x1 x2 x3 x4).2 else ck x1 x2 x3 x4)) ∧ PW w0 b d L (put4 L s x1 x2 x3 x4) t w' := by
  obtain ⟨v, u, B, D, hw, hr, hB, hD, ha⟩ := h.ex
  refine (Sm.put b L v s B x1 x2 x3 x4 W hw h1).mono ?_
  rintro r w' ⟨rfl, v', hw', hl, hk⟩
  have hbd : ∀ k, Own2 b v k → w0.heap.size ≤ k := by
    rintro k (rfl | hk)
    · exact h.hb
    · exact Nat.le_trans hB (hw.row.lt k hk).1
  refine ⟨rfl, Kep.bel h.bel hk hbd, h.hb, h.hd, h.ne, v', u, B, D, hw', hr.kep hk ?_ ?_, hB, hD, fun g hg hu => ?_⟩
  · rintro (e | e)
    · exact h.ne e.symm
    · exact hr.blk.not_row (by decide) hw.row e
  · rintro k hku (e | e)
    · rw [e] at hku; exact hw.blk.not_row (by decide) hr.row hku
    · exact ha k e hku
  · rcases hl g hg with e | e
    · exact ha g e hu
    · have := (hr.row.lt g hu).2; omega
theorem PW.putR {w0 : World} {b d : Nat} {L : Int} {s t : List Int × Int} {W : World} (h : PW w0 b d L s t W) (x1 x2 x3 x4 : Int) :
    Calls Try.prog 20 #[.pointer (some ⟨d, 0, none⟩), stV x1 x2 x3 x4] W fun r w' => r = .returned (.int .i64 (if ck x1 x2 x3 x4 = 0 then (put4R L t x1 x2 x3 x4).2 else ck x1 x2 x3 x4)) ∧ PW w0 b d L s (put4R L t x1 x2 x3 x4) w' := by
  obtain ⟨v, u, B, D, hw, hr, hB, hD, ha⟩ := h.ex
  refine (Sm.putR d L u t D x1 x2 x3 x4 W hr).mono ?_
  rintro r w' ⟨rfl, u', hr', hl, hk⟩
  have hbd : ∀ k, Own2 d u k → w0.heap.size ≤ k := by
    rintro k (rfl | hk)
    · exact h.hd
    · exact Nat.le_trans hD (hr.row.lt k hk).1
  refine ⟨rfl, Kep.bel h.bel hk hbd, h.hb, h.hd, h.ne, v, u', B, D, hw.kep hk ?_ ?_, hr', hB, hD, fun g hg hu => ?_⟩
  · rintro (e | e)
    · exact h.ne e
    · exact hw.blk.not_row (by decide) hr.row e
  · rintro k hkv (e | e)
    · rw [e] at hkv; exact hr.blk.not_row (by decide) hw.row hkv
    · exact ha k hkv e
  · rcases hl g hu with e | e
    · exact ha g hg e
    · have := (hw.row.lt g hg).2; omega
theorem stp_ne {L : Int} {s : List Int × Int} (h : s.2 ≠ 1) (m : List Int) : (stp L s m).2 ≠ 1 := by
  unfold stp
  split
  · exact h
  · split <;> simp
theorem put4_ne {L : Int} {s : List Int × Int} (h : s.2 ≠ 1) (a b c d : Int) : (put4 L s a b c d).2 ≠ 1 := by
  unfold put4
  split
  · exact stp_ne (stp_ne (stp_ne (stp_ne h _) _) _) _
  · exact h

/-- Both readers, side by side. -/
structure PR (w0 : World) (b d : Nat) (A B : Option Addr) (n c c' : Nat) (zs : List Int) (k : Nat) (f : Option (Int × Int)) (W : World) : Prop where
  bel : Bel w0 W
  hb : w0.heap.size ≤ b
  hd : w0.heap.size ≤ d
  ne : b ≠ d
  rd : RD b W b A n c zs k f
  qt : QT W d B n c' zs k f
  a1 : 0 < n → ∀ x : Addr, A = some x → x.block < W.heap.size ∧ x.block ≠ d
  a2 : 0 < n → ∀ x : Addr, B = some x → x.block < W.heap.size ∧ x.block ≠ b
theorem PR.up {w0 : World} {b d : Nat} {A B : Option Addr} {n c c' : Nat} {zs : List Int} {k : Nat} {f : Option (Int × Int)} {W V : World} (h : PR w0 b d A B n c c' zs k f W) (hk : Bel W V) : PR w0 b d A B n c c' zs k f V :=
  ⟨h.bel.trans hk, h.hb, h.hd, h.ne, h.rd.bel hk, h.qt.bel hk, fun hn x hx => ⟨Nat.lt_of_lt_of_le (h.a1 hn x hx).1 (Below.size hk), (h.a1 hn x hx).2⟩, fun hn x hx => ⟨Nat.lt_of_lt_of_le (h.a2 hn x hx).1 (Below.size hk), (h.a2 hn x hx).2⟩⟩
/-- Between the two Takes. -/
structure PR1 (w0 : World) (b d : Nat) (A B : Option Addr) (n c c' : Nat) (zs : List Int) (k k' : Nat) (f f' : Option (Int × Int)) (W : World) : Prop where
  bel : Bel w0 W
  hb : w0.heap.size ≤ b
  hd : w0.heap.size ≤ d
  ne : b ≠ d
  rd : RD b W b A n c zs k' f'
  qt : QT W d B n c' zs k f
  a1 : 0 < n → ∀ x : Addr, A = some x → x.block < W.heap.size ∧ x.block ≠ d
  a2 : 0 < n → ∀ x : Addr, B = some x → x.block < W.heap.size ∧ x.block ≠ b
theorem PR.take {w0 : World} {b d : Nat} {A B : Option Addr} {n c c' : Nat} {zs : List Int} {k : Nat} {f : Option (Int × Int)} {W : World} (h : PR w0 b d A B n c c' zs k f W) {x1 x2 x3 x4 : Int} {k' : Nat} {f' : Option (Int × Int)} (ht : Tk zs k f x1 x2 x3 x4 k' f') :
    Calls Try.prog 25 #[.pointer (some ⟨b, 0, none⟩)] W fun r w' => r = .returned (stV (tz f' x1) (tz f' x2) (tz f' x3) (tz f' x4)) ∧ PR1 w0 b d A B n c c' zs k k' f f' w' := by
  refine (Sm.take b A n c zs k f x1 x2 x3 x4 k' f' W h.rd (fun hn x hx => (h.a1 hn x hx).1) ht).mono ?_
  rintro r w' ⟨rfl, hr, hk⟩
  exact ⟨rfl, Kep.bel h.bel hk (fun i hi => by rw [hi]; exact h.hb), h.hb, h.hd, h.ne, hr, h.qt.kep hk (fun e => h.ne e.symm) (fun hn x hx e => (h.a2 hn x hx).2 e), fun hn x hx => ⟨Nat.lt_of_lt_of_le (h.a1 hn x hx).1 hk.size, (h.a1 hn x hx).2⟩, fun hn x hx => ⟨Nat.lt_of_lt_of_le (h.a2 hn x hx).1 hk.size, (h.a2 hn x hx).2⟩⟩
theorem PR1.take {w0 : World} {b d : Nat} {A B : Option Addr} {n c c' : Nat} {zs : List Int} {k k' : Nat} {f f' : Option (Int × Int)} {W : World} (h : PR1 w0 b d A B n c c' zs k k' f f' W) {x1 x2 x3 x4 : Int} (ht : Tk zs k f x1 x2 x3 x4 k' f') :
    Calls Try.prog 26 #[.pointer (some ⟨d, 0, none⟩)] W fun r w' => r = .returned (stV (tz f' x1) (tz f' x2) (tz f' x3) (tz f' x4)) ∧ PR w0 b d A B n c c' zs k' f' w' := by
  refine (Sm.takeR d B n c' zs k f x1 x2 x3 x4 k' f' W h.qt (fun hn x hx => (h.a2 hn x hx).1) ht).mono ?_
  rintro r w' ⟨rfl, hr, hk⟩
  obtain ⟨k2, hq, _⟩ := h.qt
  exact ⟨rfl, Kep.bel h.bel hk (fun i hi => by rw [hi]; exact h.hd), h.hb, h.hd, h.ne, rd_kep h.rd hq.blk (by decide) hk h.ne (fun hn x hx e => (h.a1 hn x hx).2 e), hr, fun hn x hx => ⟨Nat.lt_of_lt_of_le (h.a1 hn x hx).1 hk.size, (h.a1 hn x hx).2⟩, fun hn x hx => ⟨Nat.lt_of_lt_of_le (h.a2 hn x hx).1 hk.size, (h.a2 hn x hx).2⟩⟩
theorem tk_any (zs : List Int) (hb : Bytes zs) (k : Nat) (hk : k ≤ zs.length) (f : Option (Int × Int)) : ∃ a b c d k' f', Tk zs k f a b c d k' f' ∧ k' ≤ zs.length := by
  cases f with
  | none =>
    obtain ⟨a, b, c, d, k', f', h1, h2, _⟩ := tk_of zs hb k hk
    exact ⟨a, b, c, d, k', f', h1, h2⟩
  | some p => exact ⟨0, 0, -1, 0, k, some p, tk_fault zs k p, hk⟩

set_option maxRecDepth 20000 in
set_option maxHeartbeats 4000000 in
theorem rowsLaw (A : Option Addr) (n c : Nat) (L : Int) (A2 : Option Addr) (n2 m2 : Nat) (raw : List Int) (w : World) (hn : n ≤ 9223372036854775807) (hst : Stamps w A n) (hn2 : n2 ≤ 9223372036854775807) (hr : Sl w A2 n2 m2 raw) (hb : Bytes raw) :
    Calls Try.prog 4 #[.slice A n c, .int .i64 L, .slice A2 n2 m2] w fun r w' => r = .returned (.bool true) ∧ Bel w w' := by
  have AW := Lib.hid (fun W => awake W)
  have HR := Lib.hid hr
  have HB := Lib.hid hb
  have HST := Lib.hid hst
  have uS := Try.underlying23
  clear hr hb hst
  by_cases h12 : 12 < n
  · have h1 : (12 : Int) < n := by omega
    go_enter Try.func4, Try.ntmps4
    go_wp2_with fail
    refine (AW.out _).mono ?_
    rintro e' w1 ⟨rfl, kb⟩
    have K := Lib.hid kb
    clear kb
    go_wp2_with fail
    go_ret
    exact ⟨rfl, K.out⟩
  have h1 : ¬ (12 : Int) < n := by omega
  by_cases h200 : 200 < n2
  · have h2 : (200 : Int) < n2 := by omega
    go_enter Try.func4, Try.ntmps4
    go_wp2_with fail
    refine (AW.out _).mono ?_
    rintro e' w1 ⟨rfl, kb⟩
    have K := Lib.hid kb
    clear kb
    go_wp2_with fail
    go_ret
    exact ⟨rfl, K.out⟩
  have h2 : ¬ (200 : Int) < n2 := by omega
  go_enter Try.func4, Try.ntmps4
  by_cases hL : L < 0 ∨ 1048576 < L
  · have N1 := Lib.hid (fun V => newWriter_no L V hL)
    have N2 := Lib.hid (fun V => newR_no L V hL)
    clear hL
    go_wp2_with fail
    refine (N1.out _).mono ?_
    rintro e' w1 ⟨rfl, rfl⟩
    go_wp2_with fail
    refine (N2.out _).mono ?_
    rintro e' w1 ⟨rfl, rfl⟩
    go_wp2_with fail
    go_loopw [11] (fun s11 wx => s11 = .int .i64 0 ∧ Hid (Bel w wx)) (fun _ _ => 0)
    case atStart => exact ⟨rfl, Lib.hid (Bel.refl _)⟩
    case round =>
      obtain ⟨rfl, hh⟩ := hrel
      obtain ⟨WW, hWW⟩ : ∃ W, wr = W := ⟨_, rfl⟩
      have KW := Lib.hid (show Bel w WW by rw [← hWW]; exact hh.out)
      rw [hWW]
      clear hh hWW
      have NR := Lib.hid (newReader A2 n2 m2 raw WW (HR.out.bel KW.out) (by omega) HB.out)
      go_wp2_with fail
      refine (NR.out).mono ?_
      rintro e' wr1 ⟨b1, B1, d1, rfl, hbb, hr, hA, kb⟩
      have NQ := Lib.hid (qNew A2 n2 m2 raw wr1 (HR.out.bel (KW.out.trans kb)) (by omega) HB.out)
      have R1 := Lib.hid hr
      have HA1 := Lib.hid hA
      have K1 := Lib.hid (KW.out.trans kb)
      have HBB := Lib.hid (show w.heap.size ≤ b1 ∧ b1 < wr1.heap.size from ⟨Nat.le_trans (Below.size KW.out) hbb, hr.blk.lt⟩)
      clear hbb hr hA kb NR
      go_wp2_with fail
      refine (NQ.out).mono ?_
      rintro e' wr2 ⟨b2, B2, d2, rfl, hbb, hq, hA, kb⟩
      have P0 : PR w b1 b2 B1 B2 n2 d1 d2 raw 0 none wr2 := by
        refine ⟨K1.out.trans kb, HBB.out.1, Nat.le_trans (Below.size K1.out) hbb, by have := HBB.out.2; omega, ⟨none, R1.out.bel kb, .inl ⟨rfl, rfl⟩, fun x hx => by cases hx⟩, ⟨0, hq, fun _ => rfl⟩, fun hn x hx => ?_, fun hn x hx => ?_⟩
        · obtain ⟨b', o', e, hlt, _⟩ := R1.out.sl.ints.cell (i := 0) hn
          rw [e] at hx; injection hx with hx; subst hx
          exact ⟨Nat.lt_of_lt_of_le hlt (Below.size kb), by show b' ≠ b2; omega⟩
        · have h1 := hA hn x hx
          have h2 := hq.blk.lt
          have h3 := HBB.out.2
          exact ⟨by omega, by omega⟩
      have P0 := Lib.hid P0
      clear hbb hq hA kb NQ R1 HA1 K1 HBB
      go_wp2_with fail
      go_loopw [18] (fun s18 wx => ∃ (i k : Nat) (f : Option (Int × Int)), s18 = .int .i64 i ∧ i ≤ 8 ∧ Hid (k ≤ raw.length ∧ PR w b1 b2 B1 B2 n2 d1 d2 raw k f wx)) (fun s18 _ => 8 - (intOf s18).toNat)
      case atStart => exact ⟨0, 0, none, rfl, by omega, Lib.hid ⟨Nat.zero_le _, P0.out⟩⟩
      case round =>
        obtain ⟨i, k, f, rfl, hi, hh⟩ := hrel
        by_cases hlt : i < 8
        · have hlt3 : (i : Int) < 8 := by omega
          obtain ⟨x1, x2, x3, x4, k', f', ht, hk'⟩ := tk_any raw HB.out k hh.out.1 f
          have T1 := Lib.hid (hh.out.2.take ht)
          have T2 := Lib.hid (fun V (hv : PR1 w b1 b2 B1 B2 n2 d1 d2 raw k k' f f' V) => hv.take ht)
          obtain ⟨y1, hy1⟩ : ∃ y, tz f' x1 = y := ⟨_, rfl⟩
          obtain ⟨y2, hy2⟩ : ∃ y, tz f' x2 = y := ⟨_, rfl⟩
          obtain ⟨y3, hy3⟩ : ∃ y, tz f' x3 = y := ⟨_, rfl⟩
          obtain ⟨y4, hy4⟩ : ∃ y, tz f' x4 = y := ⟨_, rfl⟩
          rw [hy1, hy2, hy3, hy4] at T1 T2
          have HK' := Lib.hid hk'
          have A1 := Lib.hid (fun V (hv : PR w b1 b2 B1 B2 n2 d1 d2 raw k' f' V) => rAt b1 raw k' f' V hv.rd.rs)
          have A2' := Lib.hid (fun V (hv : PR w b1 b2 B1 B2 n2 d1 d2 raw k' f' V) => tAt b2 B2 n2 d2 raw k' f' V hv.qt)
          have L1 := Lib.hid (fun V (hv : PR w b1 b2 B1 B2 n2 d1 d2 raw k' f' V) => rLeft b1 raw k' f' V hv.rd.rs)
          have L2 := Lib.hid (fun V (hv : PR w b1 b2 B1 B2 n2 d1 d2 raw k' f' V) => tLeft b2 B2 n2 d2 raw k' f' V hv.qt)
          have E1 := Lib.hid (fun V (hv : PR w b1 b2 B1 B2 n2 d1 d2 raw k' f' V) => rEnd b1 raw k' f' V hv.rd.rs)
          have E2 := Lib.hid (fun V (hv : PR w b1 b2 B1 B2 n2 d1 d2 raw k' f' V) => tEnd b2 B2 n2 d2 raw k' f' V hv.qt)
          obtain ⟨qa, hqa⟩ : ∃ q, atOf k' f' = q := ⟨_, rfl⟩
          obtain ⟨ql, hql⟩ : ∃ q, Cd.leftOf raw.length k' f' = q := ⟨_, rfl⟩
          obtain ⟨⟨e1, e2⟩, he⟩ : ∃ q, endOf raw.length k' f' = q := ⟨_, rfl⟩
          rw [hqa] at A1 A2'
          rw [hql] at L1 L2
          rw [he] at E1 E2
          have E1 := Lib.hid (fun V (hv : PR w b1 b2 B1 B2 n2 d1 d2 raw k' f' V) => show Calls Try.prog 31 #[.pointer (some ⟨b1, 0, none⟩)] V fun e w' => e = .returned (.agg #[.int .i64 e1, .int .i64 e2]) ∧ Bel V w' from E1.out V hv)
          have E2 := Lib.hid (fun V (hv : PR w b1 b2 B1 B2 n2 d1 d2 raw k' f' V) => show Calls Try.prog 32 #[.pointer (some ⟨b2, 0, none⟩)] V fun e w' => e = .returned (.agg #[.int .i64 e1, .int .i64 e2]) ∧ Bel V w' from E2.out V hv)
          clear hy1 hy2 hy3 hy4 hqa hql he ht hk'
          go_wp2_with fail
          refine (T1.out).mono ?_
          rintro e' wx1 ⟨rfl, hp1⟩
          have T2 := Lib.hid (T2.out _ hp1)
          clear hp1
          go_wp2_with fail
          refine (T2.out).mono ?_
          rintro e' wx2 ⟨rfl, hp⟩
          have Q2 := Lib.hid hp
          clear hp T1 T2
          go_wp2_with fail
          refine (A1.out _ Q2.out).mono ?_
          rintro e' wx3 ⟨rfl, rfl⟩
          go_wp2_with fail
          refine (A2'.out _ Q2.out).mono ?_
          rintro e' wx3 ⟨rfl, rfl⟩
          go_wp2_with fail
          refine (L1.out _ Q2.out).mono ?_
          rintro e' wx3 ⟨rfl, kb⟩
          have Q3 := Lib.hid (Q2.out.up kb)
          clear kb Q2
          go_wp2_with fail
          refine (L2.out _ Q3.out).mono ?_
          rintro e' wx4 ⟨rfl, kb⟩
          have Q4 := Lib.hid (Q3.out.up kb)
          clear kb Q3
          go_wp2_with fail
          refine (E1.out _ Q4.out).mono ?_
          rintro e' wx5 ⟨rfl, kb⟩
          have Q5 := Lib.hid (Q4.out.up kb)
          clear kb Q4
          go_wp2_with fail
          refine (E2.out _ Q5.out).mono ?_
          rintro e' wx6 ⟨rfl, kb⟩
          have Q6 := Lib.hid (Q5.out.up kb)
          clear kb Q5 A1 A2' L1 L2 E1 E2
          go_wp2_with fail
          go_roundw
          case rel => exact ⟨i + 1, k', f', by go_num, by omega, Lib.hid ⟨HK'.out, Q6.out⟩⟩
          case measure => simp [intOf]; omega
        · obtain rfl : i = 8 := by omega
          have PN := Lib.hid (fun V => put0 (.pointer none) 0 1 (-1) 0 V (.inl rfl))
          have TN := Lib.hid (fun V => take0 (.pointer none) V (.inl rfl))
          have KX := Lib.hid hh.out.2.bel
          go_wp2_with fail
          refine (PN.out _).mono ?_
          rintro e' wy1 ⟨rfl, kb⟩
          have K1 := Lib.hid (KX.out.trans kb)
          clear kb
          go_wp2_with fail
          refine (TN.out _).mono ?_
          rintro e' wy2 ⟨rfl, kb⟩
          have K2 := Lib.hid (K1.out.trans kb)
          clear kb
          go_wp2_with fail
          refine (AW.out _).mono ?_
          rintro e' wy3 ⟨rfl, kb⟩
          have K3 := Lib.hid (K2.out.trans kb)
          clear kb
          go_wp2_with fail
          go_ret
          exact ⟨rfl, K3.out⟩
  · have N1 := Lib.hid (fun V => newWriter L V (by omega) (by omega))
    have N2 := Lib.hid (fun V => newR L V (by omega) (by omega))
    clear hL
    go_wp2_with fail
    refine (N1.out _).mono ?_
    rintro e' w1 ⟨rfl, hw, kb⟩
    have W1 := Lib.hid hw
    have K1 := Lib.hid kb
    clear hw kb
    go_wp2_with fail
    refine (N2.out _).mono ?_
    rintro e' w2 ⟨rfl, hw, kb⟩
    have P0 : PW w w.heap.size w1.heap.size L ([], 0) ([], 0) w2 := ⟨K1.out.trans kb, Nat.le_refl _, Below.size K1.out, by have := W1.out.blk.lt; omega, _, _, _, _, W1.out.bel kb, hw, Nat.le_refl _, Below.size K1.out, fun g hg => by simp [Value.ownBlock] at hg⟩
    obtain ⟨b, hb⟩ : ∃ b, w.heap.size = b := ⟨_, rfl⟩
    obtain ⟨d, hd⟩ : ∃ d, w1.heap.size = d := ⟨_, rfl⟩
    rw [hb, hd] at P0
    rw [hb, hd]
    have P0 := Lib.hid P0
    clear hw kb hb hd W1 K1
    go_wp2_with fail
    go_loopw [11] (fun s11 wx => ∃ (i : Nat) (s t : List Int × Int), s11 = .int .i64 i ∧ i ≤ n ∧ Hid (PW w b d L s t wx ∧ Cd.Alike s t ∧ s.2 ≠ 1)) (fun s11 _ => n - (intOf s11).toNat)
    case atStart => exact ⟨0, _, _, rfl, Nat.zero_le _, Lib.hid ⟨P0.out, ⟨rfl, fun _ => rfl⟩, by decide⟩⟩
    case round =>
      obtain ⟨i, s, t, rfl, hi, hh⟩ := hrel
      by_cases hlt : i < n
      · have hlt3 : (i : Int) < n := by omega
        obtain ⟨bb, oo, rfl, hbb, hrow⟩ := HST.out (by omega)
        obtain ⟨x1, x2, x3, x4, hx, hrg⟩ := hrow i hlt
        have RG := Lib.hid hrg
        have PP := Lib.hid (hh.out.1.put hh.out.2.2 x1 x2 x3 x4)
        have PQ := Lib.hid (fun V (hv : PW w b d L (put4 L s x1 x2 x3 x4) t V) => hv.putR x1 x2 x3 x4)
        have AL := Lib.hid (alike4 hh.out.2.1 L x1 x2 x3 x4)
        have NE := Lib.hid (put4_ne (L := L) hh.out.2.2 x1 x2 x3 x4)
        have HPW := Lib.hid hh.out.1
        obtain ⟨s', hs'⟩ : ∃ q, put4 L s x1 x2 x3 x4 = q := ⟨_, rfl⟩
        obtain ⟨t', ht'⟩ : ∃ q, put4R L t x1 x2 x3 x4 = q := ⟨_, rfl⟩
        have PP := Lib.hid (fun V (hv : Bel wr V) => (hh.out.1.up hv).put hh.out.2.2 x1 x2 x3 x4)
        rw [hs'] at PP PQ AL NE
        rw [ht'] at PQ AL
        obtain ⟨R, hR⟩ : ∃ R, (if ck x1 x2 x3 x4 = 0 then s'.2 else ck x1 x2 x3 x4) = R := ⟨_, rfl⟩
        rw [← AL.out.1] at PQ
        rw [hR] at PP PQ
        have hRR : (R != R) = false := by simp
        clear hs' ht' hR hx hrg hrow
        go_upto_region 10 with fail
        refine wp_region_held_drew (S := fun V => V.rangeAt bb (oo + i * 4) [.int .i64 x1, .int .i64 x2, .int .i64 x3, .int .i64 x4] ∧ Bel w V) (by kernel_rfl) ⟨Pm.rng_bel RG.out (hh.out.1.bel.trans (Bel.refl _).drew), hh.out.1.bel.trans (Bel.refl _).drew⟩ (fun hS0 => ?_)
        have PP := Lib.hid (PP.out _ (Bel.refl wr).drew)
        obtain ⟨w7, hw7⟩ : ∃ w7, World.drew wr = w7 := ⟨_, rfl⟩
        rw [hw7] at hS0 PP ⊢
        clear hw7
        refine wpAnyH_take (i := 0) (oi := { dst := some 60, op := .move (.tmp 7), type := 38, pos := "law.go:49", after := #[], guard := none }) (v := .pointer (some ⟨b, 0, none⟩)) rfl (by kernel_rfl) (by kernel_rfl) (by kernel_rfl) (fun _ _ _ h => h) (Or.inl ⟨by rfl, by intro w hSw; clear hSw; go_simp⟩) hS0 ?_
        try simp only [Act.put, List.setIfInBounds_toArray, List.set_cons_zero, List.set_cons_succ]
        refine wpAnyH_take (i := 1) (oi := { dst := some 61, op := .move (.tmp 0), type := 37, pos := "law.go:49", after := #[], guard := none }) (v := .slice (some ⟨bb, oo, none⟩) n c) rfl (by kernel_rfl) (by kernel_rfl) (by kernel_rfl) (fun _ _ _ h => h) (Or.inl ⟨by rfl, by intro w hSw; clear hSw; go_simp⟩) hS0 ?_
        try simp only [Act.put, List.setIfInBounds_toArray, List.set_cons_zero, List.set_cons_succ]
        refine wpAnyH_take (i := 2) (oi := { dst := some 62, op := .move (.tmp 11), type := 3, pos := "law.go:49", after := #[], guard := none }) (v := .int .i64 i) rfl (by kernel_rfl) (by kernel_rfl) (by kernel_rfl) (fun _ _ _ h => h) (Or.inl ⟨by rfl, by intro w hSw; clear hSw; go_simp⟩) hS0 ?_
        try simp only [Act.put, List.setIfInBounds_toArray, List.set_cons_zero, List.set_cons_succ]
        refine wpAnyH_take (i := 3) (oi := { dst := some 63, op := .indexAddr 37 (.tmp 61) (.tmp 62), type := 0, pos := "law.go:49", after := #[{ on := 1, ground := .data }, { on := 2, ground := .data }], guard := none }) (v := .pointer (some ⟨bb, oo + i * 4, none⟩)) rfl (by kernel_rfl) (by kernel_rfl) (by kernel_rfl) (fun _ _ _ h => h) (Or.inl ⟨by rfl, by intro w hSw; clear hSw; go_simp⟩) hS0 ?_
        try simp only [Act.put, List.setIfInBounds_toArray, List.set_cons_zero, List.set_cons_succ]
        refine wpAnyH_take (i := 4) (oi := { dst := some 64, op := .load 23 (.tmp 63), type := 23, pos := "law.go:49", after := #[{ on := 3, ground := .data }], guard := none }) (v := stV x1 x2 x3 x4) rfl (by kernel_rfl) (by kernel_rfl) (by kernel_rfl) (fun _ _ _ h => h) (yieldsIf_load_mid (by rfl) _ _ rfl _ _ rfl _ _ (fun w h => h.1) uS rfl (inf4 x1 x2 x3 x4)) hS0 ?_
        try simp only [Act.put, List.setIfInBounds_toArray, List.set_cons_zero, List.set_cons_succ]
        refine wpAnyH_take (i := 6) (oi := { dst := some 66, op := .move (.tmp 9), type := 41, pos := "law.go:49", after := #[], guard := none }) (v := .pointer (some ⟨d, 0, none⟩)) rfl (by kernel_rfl) (by kernel_rfl) (by kernel_rfl) (fun _ _ _ h => h) (Or.inl ⟨by rfl, by intro w hSw; clear hSw; go_simp⟩) hS0 ?_
        try simp only [Act.put, List.setIfInBounds_toArray, List.set_cons_zero, List.set_cons_succ]
        refine wpAnyH_take (i := 7) (oi := { dst := some 67, op := .move (.tmp 0), type := 37, pos := "law.go:49", after := #[], guard := none }) (v := .slice (some ⟨bb, oo, none⟩) n c) rfl (by kernel_rfl) (by kernel_rfl) (by kernel_rfl) (fun _ _ _ h => h) (Or.inl ⟨by rfl, by intro w hSw; clear hSw; go_simp⟩) hS0 ?_
        try simp only [Act.put, List.setIfInBounds_toArray, List.set_cons_zero, List.set_cons_succ]
        refine wpAnyH_take (i := 8) (oi := { dst := some 68, op := .move (.tmp 11), type := 3, pos := "law.go:49", after := #[], guard := none }) (v := .int .i64 i) rfl (by kernel_rfl) (by kernel_rfl) (by kernel_rfl) (fun _ _ _ h => h) (Or.inl ⟨by rfl, by intro w hSw; clear hSw; go_simp⟩) hS0 ?_
        try simp only [Act.put, List.setIfInBounds_toArray, List.set_cons_zero, List.set_cons_succ]
        refine wpAnyH_take (i := 9) (oi := { dst := some 69, op := .indexAddr 37 (.tmp 67) (.tmp 68), type := 0, pos := "law.go:49", after := #[{ on := 7, ground := .data }, { on := 8, ground := .data }], guard := none }) (v := .pointer (some ⟨bb, oo + i * 4, none⟩)) rfl (by kernel_rfl) (by kernel_rfl) (by kernel_rfl) (fun _ _ _ h => h) (Or.inl ⟨by rfl, by intro w hSw; clear hSw; go_simp⟩) hS0 ?_
        try simp only [Act.put, List.setIfInBounds_toArray, List.set_cons_zero, List.set_cons_succ]
        refine wpAnyH_take (i := 10) (oi := { dst := some 70, op := .load 23 (.tmp 69), type := 23, pos := "law.go:49", after := #[{ on := 9, ground := .data }], guard := none }) (v := stV x1 x2 x3 x4) rfl (by kernel_rfl) (by kernel_rfl) (by kernel_rfl) (fun _ _ _ h => h) (yieldsIf_load_mid (by rfl) _ _ rfl _ _ rfl _ _ (fun w h => h.1) uS rfl (inf4 x1 x2 x3 x4)) hS0 ?_
        try simp only [Act.put, List.setIfInBounds_toArray, List.set_cons_zero, List.set_cons_succ]
        refine wpAnyH_ready (rs := [5]) (by kernel_rfl) (by simp) ?_
        refine AllReadyH.cons (o := { dst := some 65, op := .call { callee := .value (.func 19), args := #[.tmp 60, .tmp 64], argTypes := #[38, 23] }, type := 26, pos := "law.go:49", after := #[{ on := 0, ground := .data }, { on := 4, ground := .data }], guard := none }) rfl (fun K hK => ?_) AllReadyH.nil
        go_simp
        refine (PP.out).mono ?_
        rintro e v1 ⟨rfl, hp1⟩
        go_wp2_with fail
        refine hK.out _ _ (⟨Pm.rng_bel RG.out hp1.bel, hp1.bel⟩) (fun hS1 => ?_)
        clear hK K
        try simp only [Act.put, List.setIfInBounds_toArray, List.set_cons_zero, List.set_cons_succ]
        have PQ := Lib.hid (PQ.out _ hp1)
        refine wpAnyH_ready (rs := [11]) (by kernel_rfl) (by simp) ?_
        refine AllReadyH.cons (o := { dst := some 71, op := .call { callee := .value (.func 20), args := #[.tmp 66, .tmp 70], argTypes := #[41, 23] }, type := 26, pos := "law.go:49", after := #[{ on := 6, ground := .data }, { on := 10, ground := .data }, { on := 5, ground := .chain }], guard := none }) rfl (fun K hK => ?_) AllReadyH.nil
        go_simp
        refine (PQ.out).mono ?_
        rintro e v2 ⟨rfl, hp2⟩
        go_wp2_with fail
        refine hK.out _ _ (⟨Pm.rng_bel RG.out hp2.bel, hp2.bel⟩) (fun hS2 => ?_)
        clear hK K
        try simp only [Act.put, List.setIfInBounds_toArray, List.set_cons_zero, List.set_cons_succ]
        refine wpAnyH_take (i := 12) (oi := { dst := some 72, op := .binOp .neq 26 (.tmp 65) (.tmp 71) 26, type := 4, pos := "law.go:49", after := #[{ on := 5, ground := .data }, { on := 11, ground := .data }], guard := none }) (v := .bool false) rfl (by kernel_rfl) (by kernel_rfl) (by kernel_rfl) (fun _ _ _ h => h) (Or.inl ⟨by rfl, by intro w hSw; clear hSw; go_simp⟩) hS2 ?_
        try simp only [Act.put, List.setIfInBounds_toArray, List.set_cons_zero, List.set_cons_succ]
        refine wpAnyH_done (by kernel_rfl) ?_ _
        have H2 := Lib.hid hp2
        clear hS0 hS1 hS2 hp1 hp2 PP PQ
        go_wp2_with fail
        go_roundw
        case rel => exact ⟨i + 1, s', t', by go_num, by omega, Lib.hid ⟨H2.out, AL.out, NE.out⟩⟩
        case measure => simp [intOf]; omega
      · obtain rfl : i = n := by omega
        obtain ⟨v, u, B, D, q1, q2, -, -, -⟩ := hh.out.1.ex
        have DW : ∃ zs, (s.2 = 0 → s.1 = zs) ∧ (s.2 ≠ 0 → zs = []) := by
          by_cases h0 : s.2 = 0
          · exact ⟨s.1, fun _ => rfl, fun h => absurd h0 h⟩
          · exact ⟨[], fun h => absurd h h0, fun _ => rfl⟩
        obtain ⟨zs, z1, z2⟩ := DW
        obtain ⟨E, hE⟩ : ∃ E, s.2 = E := ⟨_, rfl⟩
        have HE := Lib.hid hE
        have D1 := Lib.hid (show Calls Try.prog 21 #[.pointer (some ⟨b, 0, none⟩)] wr fun e w' => ∃ u, e = .returned (.tuple #[u, .int .i64 E]) ∧ Fresh wr w' u zs by
          by_cases h0 : s.2 = 0
          · have := z1 h0
            rw [h0, this] at q1
            rw [← hE, h0]
            exact wdone b L v zs B wr q1
          · rw [z2 h0, ← hE]
            exact (wdone_err b L v s.2 s.1 B wr q1 h0).mono fun e w' h => ⟨_, h.1, World.ownsRow_nil _ _ _ _, by rw [← h.2]; exact Bel.refl _⟩)
        have D2 := Lib.hid (fun V (hv : Bel wr V) => show Calls Try.prog 22 #[.pointer (some ⟨d, 0, none⟩)] V fun e w' => ∃ u, e = .returned (.tuple #[u, .int .i64 E]) ∧ Fresh V w' u zs by
          have h3 := doneR d L u t D V (q2.bel hv)
          have e1 : (if t.2 = 0 then t.1 else []) = zs := by
            by_cases h0 : s.2 = 0
            · rw [if_pos (hh.out.2.1.1 ▸ h0), ← hh.out.2.1.2 h0, z1 h0]
            · rw [if_neg (hh.out.2.1.1 ▸ h0), z2 h0]
          rw [e1, ← hh.out.2.1.1, hE] at h3
          exact h3)
        have KX := Lib.hid hh.out.1.bel
        clear z1 z2 q1 q2 hE
        go_wp2_with fail
        refine (D1.out).mono ?_
        rintro e' w3 ⟨v3, rfl, hf⟩
        obtain ⟨A3, c3, rfl, hs3⟩ := hf.sl
        have S3 := Lib.hid hs3
        have K3 := Lib.hid hf.2
        clear hf hs3 D1
        go_wp2_with fail
        refine (D2.out _ K3.out).mono ?_
        rintro e' w4 ⟨v4, rfl, hf⟩
        obtain ⟨A4, c4, rfl, hs4⟩ := hf.sl
        have SM := Lib.hid (same A3 A4 zs.length c3 zs.length c4 zs w4 (S3.out.bel hf.2).ints hs4.ints)
        have K4 := Lib.hid ((KX.out.trans K3.out).trans hf.2)
        clear hf hs4 D2
        go_wp2_with fail
        refine (SM.out).mono ?_
        rintro e' WW ⟨rfl, hWW⟩
        have KW := Lib.hid (show Bel w WW by rw [← hWW]; exact K4.out)
        clear hWW SM K4
        have NR := Lib.hid (newReader A2 n2 m2 raw WW (HR.out.bel KW.out) (by omega) HB.out)
        go_wp2_with fail
        refine (NR.out).mono ?_
        rintro e' wr1 ⟨b1, B1, d1, rfl, hbb, hr, hA, kb⟩
        have NQ := Lib.hid (qNew A2 n2 m2 raw wr1 (HR.out.bel (KW.out.trans kb)) (by omega) HB.out)
        have R1 := Lib.hid hr
        have HA1 := Lib.hid hA
        have K1 := Lib.hid (KW.out.trans kb)
        have HBB := Lib.hid (show w.heap.size ≤ b1 ∧ b1 < wr1.heap.size from ⟨Nat.le_trans (Below.size KW.out) hbb, hr.blk.lt⟩)
        clear hbb hr hA kb NR
        go_wp2_with fail
        refine (NQ.out).mono ?_
        rintro e' wr2 ⟨b2, B2, d2, rfl, hbb, hq, hA, kb⟩
        have P0 : PR w b1 b2 B1 B2 n2 d1 d2 raw 0 none wr2 := by
          refine ⟨K1.out.trans kb, HBB.out.1, Nat.le_trans (Below.size K1.out) hbb, by have := HBB.out.2; omega, ⟨none, R1.out.bel kb, .inl ⟨rfl, rfl⟩, fun x hx => by cases hx⟩, ⟨0, hq, fun _ => rfl⟩, fun hn x hx => ?_, fun hn x hx => ?_⟩
          · obtain ⟨b', o', e, hlt, _⟩ := R1.out.sl.ints.cell (i := 0) hn
            rw [e] at hx; injection hx with hx; subst hx
            exact ⟨Nat.lt_of_lt_of_le hlt (Below.size kb), by show b' ≠ b2; omega⟩
          · have h1 := hA hn x hx
            have h2 := hq.blk.lt
            have h3 := HBB.out.2
            exact ⟨by omega, by omega⟩
        have P0 := Lib.hid P0
        clear hbb hq hA kb NQ R1 HA1 K1 HBB
        go_wp2_with fail
        go_loopw [18] (fun s18 wx => ∃ (i k : Nat) (f : Option (Int × Int)), s18 = .int .i64 i ∧ i ≤ 8 ∧ Hid (k ≤ raw.length ∧ PR w b1 b2 B1 B2 n2 d1 d2 raw k f wx)) (fun s18 _ => 8 - (intOf s18).toNat)
        case atStart => exact ⟨0, 0, none, rfl, by omega, Lib.hid ⟨Nat.zero_le _, P0.out⟩⟩
        case round =>
          obtain ⟨i, k, f, rfl, hi, hh⟩ := hrel
          by_cases hlt : i < 8
          · have hlt3 : (i : Int) < 8 := by omega
            obtain ⟨x1, x2, x3, x4, k', f', ht, hk'⟩ := tk_any raw HB.out k hh.out.1 f
            have T1 := Lib.hid (hh.out.2.take ht)
            have T2 := Lib.hid (fun V (hv : PR1 w b1 b2 B1 B2 n2 d1 d2 raw k k' f f' V) => hv.take ht)
            obtain ⟨y1, hy1⟩ : ∃ y, tz f' x1 = y := ⟨_, rfl⟩
            obtain ⟨y2, hy2⟩ : ∃ y, tz f' x2 = y := ⟨_, rfl⟩
            obtain ⟨y3, hy3⟩ : ∃ y, tz f' x3 = y := ⟨_, rfl⟩
            obtain ⟨y4, hy4⟩ : ∃ y, tz f' x4 = y := ⟨_, rfl⟩
            rw [hy1, hy2, hy3, hy4] at T1 T2
            have HK' := Lib.hid hk'
            have A1 := Lib.hid (fun V (hv : PR w b1 b2 B1 B2 n2 d1 d2 raw k' f' V) => rAt b1 raw k' f' V hv.rd.rs)
            have A2' := Lib.hid (fun V (hv : PR w b1 b2 B1 B2 n2 d1 d2 raw k' f' V) => tAt b2 B2 n2 d2 raw k' f' V hv.qt)
            have L1 := Lib.hid (fun V (hv : PR w b1 b2 B1 B2 n2 d1 d2 raw k' f' V) => rLeft b1 raw k' f' V hv.rd.rs)
            have L2 := Lib.hid (fun V (hv : PR w b1 b2 B1 B2 n2 d1 d2 raw k' f' V) => tLeft b2 B2 n2 d2 raw k' f' V hv.qt)
            have E1 := Lib.hid (fun V (hv : PR w b1 b2 B1 B2 n2 d1 d2 raw k' f' V) => rEnd b1 raw k' f' V hv.rd.rs)
            have E2 := Lib.hid (fun V (hv : PR w b1 b2 B1 B2 n2 d1 d2 raw k' f' V) => tEnd b2 B2 n2 d2 raw k' f' V hv.qt)
            obtain ⟨qa, hqa⟩ : ∃ q, atOf k' f' = q := ⟨_, rfl⟩
            obtain ⟨ql, hql⟩ : ∃ q, Cd.leftOf raw.length k' f' = q := ⟨_, rfl⟩
            obtain ⟨⟨e1, e2⟩, he⟩ : ∃ q, endOf raw.length k' f' = q := ⟨_, rfl⟩
            rw [hqa] at A1 A2'
            rw [hql] at L1 L2
            rw [he] at E1 E2
            have E1 := Lib.hid (fun V (hv : PR w b1 b2 B1 B2 n2 d1 d2 raw k' f' V) => show Calls Try.prog 31 #[.pointer (some ⟨b1, 0, none⟩)] V fun e w' => e = .returned (.agg #[.int .i64 e1, .int .i64 e2]) ∧ Bel V w' from E1.out V hv)
            have E2 := Lib.hid (fun V (hv : PR w b1 b2 B1 B2 n2 d1 d2 raw k' f' V) => show Calls Try.prog 32 #[.pointer (some ⟨b2, 0, none⟩)] V fun e w' => e = .returned (.agg #[.int .i64 e1, .int .i64 e2]) ∧ Bel V w' from E2.out V hv)
            clear hy1 hy2 hy3 hy4 hqa hql he ht hk'
            go_wp2_with fail
            refine (T1.out).mono ?_
            rintro e' wx1 ⟨rfl, hp1⟩
            have T2 := Lib.hid (T2.out _ hp1)
            clear hp1
            go_wp2_with fail
            refine (T2.out).mono ?_
            rintro e' wx2 ⟨rfl, hp⟩
            have Q2 := Lib.hid hp
            clear hp T1 T2
            go_wp2_with fail
            refine (A1.out _ Q2.out).mono ?_
            rintro e' wx3 ⟨rfl, rfl⟩
            go_wp2_with fail
            refine (A2'.out _ Q2.out).mono ?_
            rintro e' wx3 ⟨rfl, rfl⟩
            go_wp2_with fail
            refine (L1.out _ Q2.out).mono ?_
            rintro e' wx3 ⟨rfl, kb⟩
            have Q3 := Lib.hid (Q2.out.up kb)
            clear kb Q2
            go_wp2_with fail
            refine (L2.out _ Q3.out).mono ?_
            rintro e' wx4 ⟨rfl, kb⟩
            have Q4 := Lib.hid (Q3.out.up kb)
            clear kb Q3
            go_wp2_with fail
            refine (E1.out _ Q4.out).mono ?_
            rintro e' wx5 ⟨rfl, kb⟩
            have Q5 := Lib.hid (Q4.out.up kb)
            clear kb Q4
            go_wp2_with fail
            refine (E2.out _ Q5.out).mono ?_
            rintro e' wx6 ⟨rfl, kb⟩
            have Q6 := Lib.hid (Q5.out.up kb)
            clear kb Q5 A1 A2' L1 L2 E1 E2
            go_wp2_with fail
            go_roundw
            case rel => exact ⟨i + 1, k', f', by go_num, by omega, Lib.hid ⟨HK'.out, Q6.out⟩⟩
            case measure => simp [intOf]; omega
          · obtain rfl : i = 8 := by omega
            have PN := Lib.hid (fun V => put0 (.pointer none) 0 1 (-1) 0 V (.inl rfl))
            have TN := Lib.hid (fun V => take0 (.pointer none) V (.inl rfl))
            have KX := Lib.hid hh.out.2.bel
            go_wp2_with fail
            refine (PN.out _).mono ?_
            rintro e' wy1 ⟨rfl, kb⟩
            have K1 := Lib.hid (KX.out.trans kb)
            clear kb
            go_wp2_with fail
            refine (TN.out _).mono ?_
            rintro e' wy2 ⟨rfl, kb⟩
            have K2 := Lib.hid (K1.out.trans kb)
            clear kb
            go_wp2_with fail
            refine (AW.out _).mono ?_
            rintro e' wy3 ⟨rfl, kb⟩
            have K3 := Lib.hid (K2.out.trans kb)
            clear kb
            go_wp2_with fail
            go_ret
            exact ⟨rfl, K3.out⟩
end Sm
end Go.Proofs.Ytagcpphkabkgjaa
