/-
  The walk of the law CodecNone: it returns true, and what was there is as it was.
  Conditions: a thing's 38 cells.
-/
import Derived.Test.YtejbhfcmhijfcaaNone1
namespace Go.Proofs.Ytejbhfcmhijfcaa
open Go.RowKit Go.Shelf
set_option linter.unusedVariables false
namespace Cd

theorem wpList_load_guarded {ops : Array Oper} {rest : List Oper} {op : Oper} {a : Act} {w : World} {Q : Exit → Act → World → Prop} (hw : Region.wanted op (yielded ops a.tmps) = true) (ty : TypeId) (x : Operand) (ho : op.op = .load ty x)
    (b o : Nat) (hx : a.eval x = .pointer (some ⟨b, o, none⟩)) (cs : List Value) (d : TypeDesc) (hc : w.rangeAt b o cs)
    (hu : Try.prog.underlying ty = some d) (hd : d.isRow = true) (hi : (Try.prog.info? ty).map (·.size) = some cs.length)
    (h : wpList Try.prog ops Q rest (a.put op.dst (.agg cs.toArray)) w) : wpList Try.prog ops Q (op :: rest) a w :=
  wpList_step fun K hK => by
    rw [if_pos hw]
    exact wp_load_mid ty x ho b o hx cs d hc hu hd hi (hK _ _ h)
theorem range_thing {W : World} {g : Nat} {cs : Array Value} {t : TypeId} {Y : List Value} (h : Blk W g cs t) (hY : (cs.extract 4 36).toList = Y) : W.rangeAt g 4 Y := by
  have := World.rangeAt_of_block (w := W) h 4 32
  rwa [hY] at this

set_option maxRecDepth 100000 in
set_option maxHeartbeats 8000000 in
theorem noneLaw (cs : Array Value) (x y er : Int) (A : Option Addr) (m c : Nat) (hs : List Int) (w : World) (hsz : cs.size = 38) (c1 : cs[1]? = some (.int .i64 x)) (c3 : cs[3]? = some (.int .u64 y)) (y0 : 0 ≤ y) (y1 : y ≤ 18446744073709551615) (c36 : cs[36]? = some (.slice A m c)) (c37 : cs[37]? = some (.int .i64 er)) (hh : (cs.extract 4 36).toList = hs.map (Value.int .u8)) (hl : hs.length = 32) (hm : m ≤ maxLen) :
    Calls Try.prog 5 #[.agg cs] w fun e w' => e = .returned (.bool true) ∧ Bel w w' := by
  unfold maxLen at hm
  have hA := (Bel.refl w).alloc (.cells cs 46)
  have hG := Blk.new w cs 46
  obtain ⟨W, hW⟩ : ∃ W, w.alloc (.cells cs 46) = W := ⟨_, rfl⟩
  rw [hW] at hA hG
  have HA := Lib.hid hA
  have HG := Lib.hid hG
  have k36 : W.cell? ⟨w.heap.size, 36, none⟩ = some (.slice A m c) := hG.cell 36 c36
  by_cases h200 : 200 < m
  · have h200' : (200 : Int) < (m : Int) := by omega
    clear hsz c1 c3 c36 c37 hh hG hA
    go_enter Try.func5, Try.ntmps5
    go_wp2_with (go_at_call 8; refine (awake _).mono ?_; rintro e w1 ⟨rfl, h1⟩)
    go_ret
    exact ⟨rfl, HA.out.trans h1⟩
  have h200' : (m : Int) ≤ 200 := by omega
  have f1 : decide (200 < m) = false := decide_eq_false h200
  have hm2 : m ≤ 200 := by omega
  obtain ⟨Y, hY⟩ : ∃ Y, hs.map (Value.int .u8) = Y := ⟨_, rfl⟩
  have EY := Lib.hid (show hash hs = .agg Y.toArray by rw [← hY])
  have HYI := Lib.hid (show (Try.prog.info? 44).map (·.size) = some Y.length by rw [← hY, List.length_map, hl]; exact info_hash)
  have HC := Lib.hid (show ∀ w', Bel W w' → w'.cell? ⟨w.heap.size, 1, none⟩ = some (.int .i64 x) ∧ w'.cell? ⟨w.heap.size, 3, none⟩ = some (.int .u64 y) ∧ w'.cell? ⟨w.heap.size, 36, none⟩ = some (.slice A m c) ∧ w'.cell? ⟨w.heap.size, 37, none⟩ = some (.int .i64 er) ∧ Hid (w'.rangeAt w.heap.size 4 Y) from fun w' hb =>
    ⟨(hG.bel hb).cell 1 c1, (hG.bel hb).cell 3 c3, (hG.bel hb).cell 36 c36, (hG.bel hb).cell 37 c37, range_thing (hG.bel hb) (by rw [hh, hY])⟩)
  have q44 := neq_zero
  clear hG hA hm h200 hsz c1 c3 c36 c37 hh hY
  go_enter Try.func5, Try.ntmps5
  go_wp2_with fail
  obtain ⟨V, hV⟩ : ∃ V, ((W.alloc (.cells #[.pointer none, .int .i64 0, .slice none 0 0, .int .i64 0] 52)).alloc (.cells #[.pointer none, .pointer (some ⟨W.heap.size, 0, none⟩)] 50)) = V := ⟨_, rfl⟩
  rw [hV]
  have bV : Hid (Bel W V) := by rw [← hV]; exact ((Bel.refl W).alloc _).alloc _
  have hZ : V.cell? ⟨W.heap.size, 0, none⟩ = some (.pointer none) := by rw [← hV]; exact ((Blk.new W _ _).alloc _).cell 0 rfl
  have hR : Blk V (W.heap.size + 1) #[.pointer none, .pointer (some ⟨W.heap.size, 0, none⟩)] 50 := by
    rw [← hV]
    have := Blk.new (W.alloc (.cells #[.pointer none, .int .i64 0, .slice none 0 0, .int .i64 0] 52)) #[.pointer none, .pointer (some ⟨W.heap.size, 0, none⟩)] 50
    rwa [World.size_alloc] at this
  have HE := Lib.hid (show ∀ (j : Nat), j < 2 → ∃ v, Null V v ∧ ∀ wr, Bel V wr → wr.cell? ⟨W.heap.size + 1, j, none⟩ = some v from fun j hj => by
    match j, hj with
    | 0, _ => exact ⟨_, .inl rfl, fun wr hb => (hR.bel hb).cell 0 rfl⟩
    | 1, _ => exact ⟨_, .inr ⟨_, rfl, hZ⟩, fun wr hb => (hR.bel hb).cell 1 rfl⟩)
  clear hV hZ hR
  go_loopw [4] (fun i wr => ∃ j : Nat, j ≤ 2 ∧ i = .int .i64 j ∧ Bel V wr) (fun i _ => 2 - (intOf i).toNat)
  case atStart => exact ⟨0, Nat.zero_le _, rfl, Bel.refl _⟩
  case round =>
    obtain ⟨j, hj, rfl, hb⟩ := hrel
    by_cases hlt : j < 2
    · have g3 : (j : Int) < 2 := by omega
      obtain ⟨v, hn, hx⟩ := HE.out j hlt
      have hx := hx wr hb
      have HN := Lib.hid (hn.bel hb)
      have bW := bV.out.trans hb
      obtain ⟨k1, k3, k5, k7, _⟩ := HC.out wr bW
      clear hn
      go_wp2_with fail
      refine (wDone0 v _ HN.out).mono ?_
      rintro e w' ⟨rfl, rfl⟩
      go_wp2_with fail
      refine (wU0 v y _ HN.out y0 y1).mono ?_
      rintro e w4 ⟨rfl, h4⟩
      have b4 : Bel W w4 := bW.trans h4
      have HN4 := Lib.hid (HN.out.bel h4)
      have hb4 : Bel V w4 := hb.trans h4
      clear h4 HN bW hb hx k1 k3 k5 k7
      obtain ⟨k1, k3, k5, k7, RG⟩ := HC.out w4 b4
      go_wp2_with fail
      refine (wN0 v x _ HN4.out).mono ?_
      rintro e w' ⟨rfl, rfl⟩
      go_wp2_with (refine wpList_load_guarded (by rfl) 44 (.tmp 48) rfl w.heap.size 4 rfl Y _ RG.out Try.underlying44 rfl HYI.out ?_)
      refine ((by rw [← EY.out]; exact wHash0 v hs _ HN4.out hl) : Calls Try.prog 31 #[v, .agg Y.toArray] w4 fun e w' => e = .returned (.int .i64 1) ∧ Bel w4 w').mono ?_
      rintro e w5 ⟨rfl, h5⟩
      have h5 : Bel w4 w5 := h5
      have b5 : Bel W w5 := b4.trans h5
      have HN5 := Lib.hid (HN4.out.bel h5)
      have hb5 : Bel V w5 := hb4.trans h5
      clear h5 HN4 b4 hb4 k1 k3 k5 k7 RG
      obtain ⟨k1, k3, k5, k7, RG⟩ := HC.out w5 b5
      go_wp2_with fail
      refine (wBlob0 v A m c _ HN5.out (by omega)).mono ?_
      rintro e w6 ⟨rfl, h6⟩
      have hb6 : Bel V w6 := hb5.trans h6
      clear h6 HN5 b5 hb5 k1 k3 k5 k7 RG
      go_wp2
      go_roundw
      case rel => exact ⟨j + 1, by omega, by go_num, hb6⟩
      case measure => simp [intOf]; omega
    · obtain rfl : j = 2 := by omega
      have bW := bV.out.trans hb
      go_wp2_with fail
      obtain ⟨U, hU⟩ : ∃ U, ((wr.alloc (.cells #[.pointer none, .slice none 0 0, .int .i64 0, .pointer none] 62)).alloc (.cells #[.pointer none, .pointer (some ⟨wr.heap.size, 0, none⟩)] 38)) = U := ⟨_, rfl⟩
      rw [hU]
      have bU : Hid (Bel W U) := by rw [← hU]; exact (bW.alloc _).alloc _
      have hZ : U.cell? ⟨wr.heap.size, 0, none⟩ = some (.pointer none) := by rw [← hU]; exact ((Blk.new wr _ _).alloc _).cell 0 rfl
      have hR : Blk U (wr.heap.size + 1) #[.pointer none, .pointer (some ⟨wr.heap.size, 0, none⟩)] 38 := by
        rw [← hU]
        have := Blk.new (wr.alloc (.cells #[.pointer none, .slice none 0 0, .int .i64 0, .pointer none] 62)) #[.pointer none, .pointer (some ⟨wr.heap.size, 0, none⟩)] 38
        rwa [World.size_alloc] at this
      have HE := Lib.hid (show ∀ (j : Nat), j < 2 → ∃ v, Null U v ∧ ∀ ws, Bel U ws → ws.cell? ⟨wr.heap.size + 1, j, none⟩ = some v from fun j hj => by
        match j, hj with
        | 0, _ => exact ⟨_, .inl rfl, fun ws hb => (hR.bel hb).cell 0 rfl⟩
        | 1, _ => exact ⟨_, .inr ⟨_, rfl, hZ⟩, fun ws hb => (hR.bel hb).cell 1 rfl⟩)
      clear hU hZ hR bW hb bV
      go_loopw [9] (fun i ws => ∃ j : Nat, j ≤ 2 ∧ i = .int .i64 j ∧ Bel U ws) (fun i _ => 2 - (intOf i).toNat)
      case atStart => exact ⟨0, Nat.zero_le _, rfl, Bel.refl _⟩
      case round =>
        obtain ⟨j, hj, rfl, hb⟩ := hrel
        by_cases hlt : j < 2
        · have g3 : (j : Int) < 2 := by omega
          obtain ⟨v, hn, hx⟩ := HE.out j hlt
          have hx := hx _ hb
          have HN := Lib.hid (hn.bel hb)
          have bW := bU.out.trans hb
          obtain ⟨k1, k3, k5, k7, _⟩ := HC.out _ bW
          clear hn
          go_wp2_with fail
          refine (rFail0 v er x _ HN.out).mono ?_
          rintro e x0 ⟨rfl, hx0⟩
          have HN := Lib.hid (HN.out.bel hx0)
          have hb := hb.trans hx0
          have bW := bW.trans hx0
          clear hx0 k1 k3 k5 k7
          obtain ⟨k1, k3, k5, k7, _⟩ := HC.out _ bW
          go_wp2_with fail
          refine (rU0 v _ HN.out).mono ?_
          rintro e x1 ⟨rfl, hx1⟩
          have HN := Lib.hid (HN.out.bel hx1)
          have hb := hb.trans hx1
          have bW := bW.trans hx1
          clear hx1 k1 k3 k5 k7
          obtain ⟨k1, k3, k5, k7, _⟩ := HC.out _ bW
          go_wp2_with fail
          refine (rN0 v 0 x _ HN.out).mono ?_
          rintro e x2 ⟨rfl, hx2⟩
          have HN := Lib.hid (HN.out.bel hx2)
          have hb := hb.trans hx2
          have bW := bW.trans hx2
          clear hx2 k1 k3 k5 k7
          obtain ⟨k1, k3, k5, k7, _⟩ := HC.out _ bW
          go_wp2_with fail
          refine (rHash0 v _ HN.out).mono ?_
          rintro e x3 ⟨rfl, hx3⟩
          have HN := Lib.hid (HN.out.bel hx3)
          have hb := hb.trans hx3
          have bW := bW.trans hx3
          clear hx3 k1 k3 k5 k7
          obtain ⟨k1, k3, k5, k7, _⟩ := HC.out _ bW
          go_wp2_with fail
          refine (rBlob0 v x _ HN.out).mono ?_
          rintro e x4 ⟨rfl, hx4⟩
          have HN := Lib.hid (HN.out.bel hx4)
          have hb := hb.trans hx4
          have bW := bW.trans hx4
          clear hx4 k1 k3 k5 k7
          obtain ⟨k1, k3, k5, k7, _⟩ := HC.out _ bW
          go_wp2_with fail
          refine (rAt0 v _ HN.out).mono ?_
          rintro e x5 ⟨rfl, hx5⟩
          have HN := Lib.hid (HN.out.bel hx5)
          have hb := hb.trans hx5
          have bW := bW.trans hx5
          clear hx5 k1 k3 k5 k7
          obtain ⟨k1, k3, k5, k7, _⟩ := HC.out _ bW
          go_wp2_with fail
          refine (rLeft0 v _ HN.out).mono ?_
          rintro e x6 ⟨rfl, hx6⟩
          have HN := Lib.hid (HN.out.bel hx6)
          have hb := hb.trans hx6
          have bW := bW.trans hx6
          clear hx6 k1 k3 k5 k7
          obtain ⟨k1, k3, k5, k7, _⟩ := HC.out _ bW
          go_wp2_with fail
          refine (rEnd0 v _ HN.out).mono ?_
          rintro e x7 ⟨rfl, hx7⟩
          have HN := Lib.hid (HN.out.bel hx7)
          have hb := hb.trans hx7
          have bW := bW.trans hx7
          clear hx7 k1 k3 k5 k7
          obtain ⟨k1, k3, k5, k7, _⟩ := HC.out _ bW
          go_wp2
          refine ⟨?_, ?measure⟩
          apply Exists.intro
          apply Exists.intro
          apply Exists.intro
          apply Exists.intro
          apply Exists.intro
          (repeat apply Exists.intro)
          refine ⟨?rel, rfl⟩
          case rel => exact ⟨j + 1, by omega, by go_num, hb⟩
          case measure => simp [intOf]; omega
        · obtain rfl : j = 2 := by omega
          have bW := bU.out.trans hb
          go_wp2_with fail
          refine (awake _).mono ?_
          rintro e w9 ⟨rfl, h9⟩
          have b9 : Bel w w9 := (HA.out.trans bW).trans h9
          clear h9
          go_wp2
          go_ret
          exact ⟨rfl, b9⟩
end Cd
end Go.Proofs.Ytejbhfcmhijfcaa
