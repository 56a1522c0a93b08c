/-
  The walk of the law CodecReads: it returns true, and what was there is as it was.
  Conditions: a slice that reads as bytes, a slice of things.
-/
import Derived.Test.YtejbhfcmhijfcaaReads4
import Derived.Test.YtejbhfcmhijfcaaKept
import Derived.Test.YtejbhfcmhijfcaaAwake
namespace Go.Proofs.Ytejbhfcmhijfcaa
open Go.RowKit Go.Shelf
set_option linter.unusedVariables false
namespace Cd

theorem sl_lt {w : World} {A : Option Addr} {n c : Nat} {zs : List Int} (h : Sl w A n c zs) : 0 < n → ∀ x : Addr, A = some x → x.block < w.heap.size := fun hn x hx => by
  obtain ⟨b', o', h1, h2, _⟩ := h.ints.2 hn
  rw [h1] at hx
  cases hx
  exact h2
theorem info_thing : (Try.prog.info? 46).map (·.size) = some 38 := by kernel_rfl

set_option maxRecDepth 100000 in
set_option maxHeartbeats 8000000 in
theorem readsLaw (A : Option Addr) (m c : Nat) (zs : List Int) (B : Option Addr) (p q : Nat) (w : World) (hi : Sl w A m c zs) (hz : ∀ z ∈ zs, 0 ≤ z ∧ z ≤ 255) (hm : m ≤ maxLen) (hT : Things w B p) (hp : p ≤ maxLen) :
    Calls Try.prog 4 #[.slice A m c, .slice B p q] w fun e w' => e = .returned (.bool true) ∧ Bel w w' := by
  have LG := Lib.hid (long_ B p q w hT hp)
  have hm' := hm
  unfold maxLen at hm'
  by_cases h600 : 600 < m
  · have h600' : (600 : Int) < (m : Int) := by omega
    clear hi hz hT LG
    go_enter Try.func4, Try.ntmps4
    go_wp2_with (go_at_call 8; refine (awake _).mono ?_; rintro e w1 ⟨rfl, h1⟩)
    go_ret
    exact ⟨rfl, h1⟩
  have h600' : (m : Int) ≤ 600 := by omega
  have f1 : decide (600 < m) = false := decide_eq_false h600
  have hml : m ≤ 600 := by omega
  have HI := Lib.hid hi
  have HB := Lib.hid (bytes_of hz)
  have HT := Lib.hid hT
  have hzl := hi.len
  clear hi hz hT hm hm' h600
  go_enter Try.func4, Try.ntmps4
  go_wp2_with fail
  refine (LG.out).mono ?_
  rintro e w' ⟨⟨v, rfl, r, rfl, hr⟩, rfl⟩
  cases r with
  | true =>
    clear hr
    go_wp2_with (go_at_call 8; refine (awake _).mono ?_; rintro e w1 ⟨rfl, h1⟩)
    go_ret
    exact ⟨rfl, h1⟩
  | false =>
  have hp40 := hr rfl
  clear hr LG
  go_wp2_with fail
  refine (lent A m c zs w HI.out (by omega)).mono ?_
  rintro e w3 ⟨vl, rfl, hl3, b3⟩
  have HL := Lib.hid hl3
  have b3 : Bel w w3 := b3
  obtain ⟨Al, cl, hvl, hsl⟩ := sl_of_own hl3.own
  subst hvl
  have HSL := Lib.hid hsl
  clear hl3 hsl
  go_wp2_with fail
  refine (newReader Al m cl zs w3 HSL.out (by omega) HB.out).mono ?_
  rintro e w4 ⟨bb, A1, c1, rfl, hbb, hrs, hA1, h4⟩
  have HR := Lib.hid hrs
  have HA1 := Lib.hid hA1
  have h4 : Hid (Bel w3 w4) := h4
  have hbb4 : bb < w4.heap.size := hrs.blk.lt
  have hol := Lib.hid (sl_lt hrs.sl)
  have b4 : Bel w w4 := b3.trans h4.out
  clear hrs hA1
  go_wp2_with fail
  refine (qNew A m c zs w4 (HI.out.bel b4) (by omega) HB.out).mono ?_
  rintro e w5 ⟨d, A2, c2, rfl, hd, hqs, hA2, h5⟩
  have h5 : Hid (Bel w4 w5) := h5
  have b5 : Bel w w5 := b4.trans h5.out
  have HAP : Hid (Apart bb d A1 A2 m) := ⟨by omega, fun hn x hx => by have := hol.out hn x hx; omega, fun hn x hx => by have := hA2 hn x hx; omega⟩
  have HBo : Hid (Both w5 bb d A1 A2 m c1 c2 zs 0 none) := ⟨⟨none, HR.out.bel h5.out, .inl ⟨rfl, rfl⟩, fun x hx => by cases hx⟩, 0, hqs, fun _ => rfl⟩
  have HA2 := Lib.hid hA2
  have b35 : Hid (Bel w3 w5) := h4.out.trans h5.out
  have hsz3 : w.heap.size ≤ w3.heap.size := Below.size b3
  clear hqs hA2 b4 HR
  go_wp2_with fail
  refine (kept w.heap.size _ A m c zs w5 (HL.out.bel b35.out) (HI.out.bel b5).ints (by omega)).mono ?_
  rintro e w6 ⟨rfl, h6⟩
  have h6 : Hid (Bel w5 w6) := h6
  have b6 : Bel w w6 := b5.trans h6.out
  have HBo6 := Lib.hid (HBo.out.bel h6.out)
  have HO6 := Lib.hid (owns_bel (owns_bel HL.out.own b35.out) h6.out)
  have HO3 := Lib.hid (fun k hk => (HL.out.own.lt k hk))
  have h34 : w3.heap.size ≤ w4.heap.size := Below.size h4.out
  clear b5 HBo
  go_wp2_with fail
  refine (over_any w.heap.size _ _ zs w6 (by omega) HO6.out).mono ?_
  rintro e w7 ⟨rfl, k7⟩
  have b7 : Bel w w7 := Kep.bel b6 k7 (fun k hk => (HO3.out k hk).1)
  have HB7 : Hid (Both w7 bb d A1 A2 m c1 c2 zs 0 none) := by
    obtain ⟨⟨F, g1, g2, g3⟩, g4⟩ := HBo6.out
    refine ⟨⟨F, g1.kep0 k7 (fun e => by have := (HO3.out _ e).2; omega) (fun hn x hx e => by have := HA1.out x hx; have := (HO3.out _ e).2; omega), ?_, g3⟩, g4.kep k7 (fun e => by have := (HO3.out _ e).2; omega) (fun hn x hx e => by have := HA2.out hn x hx; have := (HO3.out _ e).2; omega)⟩
    rcases g2 with g2 | ⟨_, _, _, g2, _⟩
    · exact .inl g2
    · cases g2
  have hwb : w.heap.size ≤ bb := by omega
  have hwd : w.heap.size ≤ d := by omega
  clear k7 b6 HBo6 HO6 HO3 HL HSL b35 h4 h5 h6 HA1 HA2 hol
  go_wp2_with fail
  go_loopw [8] (fun i ws => ∃ (j k : Nat) (f : Option (Int × Int)), j ≤ p ∧ i = .int .i64 j ∧ Hid (Both ws bb d A1 A2 m c1 c2 zs k f) ∧ Bel w ws) (fun i _ => p - (intOf i).toNat)
  case atStart => exact ⟨0, 0, none, Nat.zero_le _, rfl, HB7.out, b7⟩
  case round =>
    obtain ⟨j, k, f, hj, rfl, HBs, hb⟩ := hrel
    clear HB7 b7
    by_cases hlt : j < p
    · have g1 : (j : Int) < (p : Int) := by omega
      have g0 : (0 : Int) ≤ (j : Int) := by omega
      obtain ⟨b1, o1, hBe, hb1, hc1⟩ := (HT.out.bel hb) (by omega)
      subst hBe
      obtain ⟨cs, hTc, hcs⟩ := hc1 j hlt
      have HTc := Lib.hid hTc
      have RG := Lib.hid (show wr.rangeAt b1 (o1 + j * 38) cs.toList from fun i v hv => hcs i v (by rwa [Array.getElem?_toList] at hv))
      have H38 := Lib.hid (show (Try.prog.info? 46).map (·.size) = some cs.toList.length by rw [Array.length_toList, hTc.1]; exact info_thing)
      clear hc1 hcs hTc
      go_wp2_with (refine wpList_load_mid rfl 46 (.tmp 43) rfl b1 (o1 + j * 38) rfl cs.toList _ RG.out Try.underlying46 rfl H38.out ?_)
      refine (reads_all bb d A1 A2 m c1 c2 zs k f cs wr HBs.out HAP.out HB.out HTc.out (fun hn x hx => by have := (HAP.out.a2 hn x hx).1; have := HBs.out.2.lt; omega)).mono ?_
      rintro e x1 ⟨rfl, ⟨k', f', h1⟩, hk1⟩
      have H1 := Lib.hid h1
      have y1 : Bel w x1 := Kep.bel hb hk1 (fun i hi => by rcases hi with rfl | rfl <;> assumption)
      clear h1 hk1 hb HBs RG H38 HTc
      go_wp2_with fail
      refine (rAt bb zs k' f' _ H1.out.1.rs).mono ?_
      rintro e x2 ⟨rfl, rfl⟩
      go_wp2_with fail
      refine (tAt d A2 m c2 zs k' f' _ H1.out.2).mono ?_
      rintro e x2 ⟨rfl, rfl⟩
      go_wp2_with fail
      refine (rLeft bb zs k' f' _ H1.out.1.rs).mono ?_
      rintro e x3 ⟨rfl, h3⟩
      have h3 : Bel x1 x3 := h3
      have H3 := Lib.hid (H1.out.bel h3)
      have y3 : Bel w x3 := y1.trans h3
      clear h3 H1 y1
      go_wp2_with fail
      refine (tLeft d A2 m c2 zs k' f' _ H3.out.2).mono ?_
      rintro e x4 ⟨rfl, h4⟩
      have h4 : Bel x3 x4 := h4
      have H4 := Lib.hid (H3.out.bel h4)
      have y4 : Bel w x4 := y3.trans h4
      clear h4 H3 y3
      go_wp2_with fail
      refine (rEnd bb zs k' f' _ H4.out.1.rs).mono ?_
      rintro e x5 ⟨rfl, h5⟩
      have h5 : Bel x4 x5 := h5
      have H5 := Lib.hid (H4.out.bel h5)
      have y5 : Bel w x5 := y4.trans h5
      clear h5 H4 y4
      go_wp2_with fail
      refine (tEnd d A2 m c2 zs k' f' _ H5.out.2).mono ?_
      rintro e x6 ⟨rfl, h6⟩
      have h6 : Bel x5 x6 := h6
      have H6 := Lib.hid (H5.out.bel h6)
      have y6 : Bel w x6 := y5.trans h6
      clear h6 H5 y5
      go_wp2
      go_roundw
      case rel => exact ⟨j + 1, k', f', by omega, by go_num, H6.out, y6⟩
      case measure => simp [intOf]; omega
    · obtain rfl : j = p := by omega
      go_wp2_with fail
      refine (rEnd bb zs k f _ HBs.out.1.rs).mono ?_
      rintro e x5 ⟨rfl, h5⟩
      have h5 : Bel wr x5 := h5
      have H5 := Lib.hid (HBs.out.bel h5)
      have y5 : Bel w x5 := hb.trans h5
      clear h5 HBs hb
      go_wp2_with fail
      refine (tEnd d A2 m c2 zs k f _ H5.out.2).mono ?_
      rintro e x6 ⟨rfl, h6⟩
      have y6 : Bel w x6 := y5.trans h6
      clear h6 H5 y5
      go_wp2_with fail
      refine (awake _).mono ?_
      rintro e x7 ⟨rfl, h7⟩
      have y7 : Bel w x7 := y6.trans h7
      clear h7 y6
      go_wp2
      go_ret
      exact ⟨rfl, y7⟩
end Cd
end Go.Proofs.Ytejbhfcmhijfcaa
