/-
  What word and split answer in this program: a word of eight bytes, and the eight bytes of a word. Conditions: at least eight bytes, or a word.
-/
import Derived.Test.YtaniijpppmipbaaDoorKSp
namespace Go.Proofs.YtaniijpppmipbaaDoor
open Go.RowKit Go.Shelf
set_option linter.unusedVariables false
namespace Kk

/-- The word of the first n bytes. -/
def wN (bs : List Int) : Nat → Wd
  | 0 => 0
  | n + 1 => wN bs n ||| BitVec.ofInt 64 (bs.getD n 0) <<< (n * 8)
def wordOf (bs : List Int) : Wd := wN bs 8
theorem wN_succ (bs : List Int) (n : Nat) : wN bs (n + 1) = wN bs n ||| BitVec.ofInt 64 (bs.getD n 0) <<< (n * 8) := rfl
theorem U_zero : U 0 = 0 := rfl
theorem slice_l (A : Option Addr) (n c : Nat) (l : Int) (w : World) (h0 : 0 ≤ l) (h1 : l ≤ n) :
    (Instr.slice 22 (.slice A n c) (some (.int .i64 l)) none none).run Tryd.prog w = .ok (.slice (if c = l.toNat then A else A.map (·.add (l.toNat * 1))) (n - l.toNat) (c - l.toNat)) w := by
  rw [run_slice_l (P := Tryd.prog) (w := w) (t := 22) (a := A) (len := n) (cap := c) (by rw [elem_u8]; exact Tryd.underlying22) .i64 l h0 h1]
  rw [elem_u8]
  simp [Tryd.sizeOf5, Result.andThen, sliced]

set_option maxRecDepth 100000 in
set_option maxHeartbeats 1000000 in
theorem word (b o n c : Nat) (bs : List Int) (w : World) (hn : 8 ≤ n) (hc : n ≤ c) (hz : ∀ i, i < 8 → w.cell? ⟨b, o + i, none⟩ = some (.int .u8 (bs.getD i 0))) (hb : ∀ i, i < 8 → 0 ≤ bs.getD i 0 ∧ bs.getD i 0 ≤ 255) :
    Calls Tryd.prog 63 #[.slice (some ⟨b, o, none⟩) n c] w fun e w' => e = .returned (.int .u64 (U (wordOf bs))) ∧ w = w' := by
  have hs := fun w => slice_h (some ⟨b, o, none⟩) n c 8 w (by omega) (by omega)
  rw [if_neg (by omega), show (some (⟨b, o, none⟩ : Addr)).map (·.add (0 * 1)) = some ⟨b, o, none⟩ by simp [Addr.add], show (8 : Int).toNat - 0 = 8 from rfl] at hs
  have HZ := Lib.hid hz
  have HB := Lib.hid hb
  have uz := U_zero
  clear hz hb
  go_enter Tryd.func63, Tryd.ntmps63
  go_wp2
  go_loop [2, 8] (fun r i => ∃ k : Nat, r = .int .u64 (U (wN bs k)) ∧ i = .int .i64 k ∧ k ≤ 8) (fun _ i => 8 - (intOf i).toNat)
  case atStart => exact ⟨0, rfl, rfl, by omega⟩
  case round =>
    obtain ⟨k, rfl, rfl, hk⟩ := hrel
    by_cases hlt : k < 8
    · have hlt' : (k : Int) < 8 := by omega
      have c0 := HZ.out k hlt
      obtain ⟨b0, b1⟩ := HB.out k hlt
      have WS := Lib.hid (wN_succ bs k)
      generalize bs.getD k 0 = z at *
      have ho := or_shl (wN bs k) z (k * 8)
      go_wp2
      go_round
      case rel => exact ⟨k + 1, by rw [WS.out], by go_num, by omega⟩
      case measure => simp [intOf] <;> omega
    · obtain rfl : k = 8 := by omega
      go_wp2
      go_ret
      exact ⟨rfl, rfl⟩

/-- The bytes of a word. -/
def splitB (x : Wd) (i : Nat) : Int := U x / 2 ^ (i * 8) % 256
def bytesOf (x : Wd) : List Int := (List.range 8).map (splitB x)
theorem splitB_bd (x : Wd) (i : Nat) : 0 ≤ splitB x i ∧ splitB x i ≤ 255 := by unfold splitB; omega
def splitN (x : Wd) (n : Nat) : List Value := (List.range 8).map fun i => if i < n then B8 (splitB x i) else B8 0
theorem splitN_set (x : Wd) {n : Nat} (h : n < 8) : (splitN x n).toArray.setIfInBounds n (.int .u8 (splitB x n)) = (splitN x (n + 1)).toArray := by
  rw [List.setIfInBounds_toArray]
  congr 1
  unfold splitN
  apply List.ext_getElem (by simp)
  intro i h1 h2
  simp only [List.getElem_set, List.getElem_map, List.getElem_range]
  by_cases h : n = i
  · subst h; simp
  · rw [if_neg h]
    by_cases h3 : i < n
    · rw [if_pos h3, if_pos (by omega)]
    · rw [if_neg h3, if_neg (by omega)]
theorem splitN8 (x : Wd) : splitN x 8 = (bytesOf x).map B8 := by
  unfold splitN bytesOf
  rw [List.map_map]
  apply List.map_congr_left
  intro i hi
  rw [if_pos (by simpa using hi)]
  rfl
theorem splitN_cell (x : Wd) (n : Nat) {i : Nat} (h : i < 8) : ∃ z, (splitN x n).toArray[i]? = some (.int .u8 z) := by
  unfold splitN
  rw [List.getElem?_toArray, List.getElem?_map, List.getElem?_range h]
  by_cases h2 : i < n
  · exact ⟨splitB x i, by simp [h2]⟩
  · exact ⟨0, by simp [h2]⟩

set_option maxRecDepth 100000 in
set_option maxHeartbeats 1000000 in
theorem split (x : Wd) (w : World) :
    Calls Tryd.prog 41 #[.int .u64 (U x)] w fun e w' => e = .returned (.agg ((bytesOf x).map B8).toArray) ∧ Bel w w' := by
  have h0 := U0 x
  have h1 := U1 x
  obtain ⟨h, hh⟩ : ∃ h, h = w.heap.size := ⟨_, rfl⟩
  have BK := Lib.hid (show Blk (w.alloc (.cells (splitN x 0).toArray 76)) h (splitN x 0).toArray 76 by rw [hh]; exact Blk.new _ _ _)
  have HB := Lib.hid ((Bel.refl w).alloc (.cells (splitN x 0).toArray 76))
  have EW := Lib.hid (show w.alloc (.cells #[.int .u8 0, .int .u8 0, .int .u8 0, .int .u8 0, .int .u8 0, .int .u8 0, .int .u8 0, .int .u8 0] 76) = w.alloc (.cells (splitN x 0).toArray 76) from rfl)
  have HH := Lib.hid hh
  go_enter Tryd.func41, Tryd.ntmps41
  go_wp2_with fail
  rw [EW.out]
  rw [← hh]
  clear hh
  generalize w.alloc (.cells (splitN x 0).toArray 76) = w1 at *
  go_loopw [4] (fun i wr => ∃ k : Nat, i = .int .i64 k ∧ k ≤ 8 ∧ Blk wr h (splitN x k).toArray 76 ∧ Kep (fun i => i = h) w1 wr) (fun i _ => 8 - (intOf i).toNat)
  case atStart => exact ⟨0, rfl, by omega, BK.out, Kep.refl _ _⟩
  case round =>
    obtain ⟨k, rfl, hk, hs, hkep⟩ := hrel
    have HS := Lib.hid hs
    have HK := Lib.hid hkep
    by_cases hlt : k < 8
    · have hlt' : (k : Int) < 8 := by omega
      obtain ⟨z, hz⟩ := splitN_cell x k hlt
      have c0 := hs.cell k hz
      have f0 := hs.frozen k
      have ES := Lib.hid (show U x / 2 ^ (k * 8) % 256 = splitB x k from rfl)
      clear hs hkep hz
      go_wp2
      go_roundw
      case rel =>
        refine ⟨k + 1, by go_num, by omega, ?_, HK.out.set_self _ _⟩
        have h2 := HS.out.set k (.int .u8 (splitB x k))
        rw [splitN_set x hlt] at h2
        exact h2
      case measure => simp [intOf] <;> omega
    · obtain rfl : k = 8 := by omega
      rw [splitN8] at hs
      have RE := blk_range hs
      have HB2 := Kep.bel HB.out HK.out (fun i hi => by rw [hi, HH.out]; exact Nat.le_refl _)
      clear hs hkep
      have HRE := Lib.hid RE
      have HB3 := Lib.hid HB2
      clear RE HB2 HS HK
      go_wp2
      refine bodyPost_ret (results_c1 Tryd.results41 _ _ ⟨h, 0, none⟩ _ rfl (run_loadVar_mid (P := Tryd.prog) _ h 0 76 _ _ HRE.out Tryd.underlying76 rfl (by rw [show ((bytesOf x).map B8).length = 8 by simp [bytesOf]]; kernel_rfl))) rfl ⟨rfl, HB3.out⟩
end Kk
end Go.Proofs.YtaniijpppmipbaaDoor
