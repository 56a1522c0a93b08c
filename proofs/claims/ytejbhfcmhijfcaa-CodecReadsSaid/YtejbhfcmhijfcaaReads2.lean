/-
  The law's 'reads', kind by kind: a hash; a number within bounds.
  Conditions: two readers side by side; a thing's 38 cells.
-/
import Derived.Test.YtejbhfcmhijfcaaReads1
import Derived.Stop.BytesEq
namespace Go.Proofs.Ytejbhfcmhijfcaa
open Go.RowKit Go.Shelf
set_option linter.unusedVariables false
namespace Cd

theorem cells_of (hs : List Int) (hz : ∀ z ∈ hs, 0 ≤ z ∧ z ≤ 255) : hs.map (Value.int .u8) = (hs.map (fun z => UInt8.ofNat z.toNat)).map Extern.Stop.cell := by
  rw [List.map_map]
  refine List.map_congr_left fun z h => ?_
  obtain ⟨h0, h1⟩ := hz z h
  have h2 : z.toNat < 256 := by omega
  simp [Extern.Stop.cell, Nat.mod_eq_of_lt h2, Int.toNat_of_nonneg h0]
theorem eql_hash (hs : List Int) (hl : hs.length = 32) (hz : ∀ z ∈ hs, 0 ≤ z ∧ z ≤ 255) (w : World) : (binOp .eql 44 (hash hs) (hash hs)).run Try.prog w = .ok (.bool true) w := by
  have h := run_equalIn_bytes (P := Try.prog) w 9998 44 5 32 Try.underlying44 Try.underlying5 (fun w => Try.sizeOf5 w) (hs.map (fun z => UInt8.ofNat z.toNat)) (hs.map (fun z => UInt8.ofNat z.toNat)) (by simpa using hl) (by simpa using hl)
  rw [← cells_of hs hz] at h
  simp only [binOp]
  simp [Op.equal, Op.maxDepth, h]
theorem rh_bytes {zs : List Int} (hb : Bytes zs) {k : Nat} {f : Option (Int × Int)} {hs : List Int} {k' : Nat} {f' : Option (Int × Int)} (h : RH zs k f hs k' f') : ∀ z ∈ hs, 0 ≤ z ∧ z ≤ 255 := by
  have h0 : ∀ z ∈ List.replicate 32 (0 : Int), 0 ≤ z ∧ z ≤ 255 := fun z hz => by
    rw [(List.mem_replicate.1 hz).2]
    exact ⟨by decide, by decide⟩
  rcases h with ⟨_, _, rfl, _⟩ | ⟨_, ⟨_, rfl, _⟩ | ⟨_, rfl, _⟩⟩
  · exact h0
  · exact fun z hz => hb.mem z (List.mem_of_mem_drop (List.mem_of_mem_take hz))
  · exact h0

set_option maxRecDepth 100000 in
set_option maxHeartbeats 1000000 in
theorem reads_2 (b d : Nat) (A A2 : Option Addr) (n c c2 : Nat) (zs : List Int) (k : Nat) (f : Option (Int × Int)) (cs : Array Value) (x er : Int) (w : World) (h : Both w b d A A2 n c c2 zs k f) (ha : Apart b d A A2 n) (hb : Bytes zs) (c0 : cs[0]? = some (.int .i64 2)) (c1 : cs[1]? = some (.int .i64 x)) (c37 : cs[37]? = some (.int .i64 er)) (x1 : x ≤ 9223372036854775807) (hA2 : 0 < n → ∀ x : Addr, A2 = some x → x.block < w.heap.size) :
    Calls Try.prog 21 #[.pointer (some ⟨b, 0, none⟩), .pointer (some ⟨d, 0, none⟩), .agg cs] w fun e w' => e = .returned (.bool true) ∧ (∃ k' f', Both w' b d A A2 n c c2 zs k' f') ∧ Kep (Two b d) w w' := by
  have hk : k ≤ zs.length := h.1.rs.le.1
  have hzl : zs.length ≤ 1000000 := h.1.rs.le.2
  have hA := (Bel.refl w).alloc (.cells cs 46)
  have hG := Blk.new w cs 46
  have hbl : b < w.heap.size := h.1.rs.lt
  have hdl : d < w.heap.size := h.2.lt
  obtain ⟨W, hW⟩ : ∃ W, w.alloc (.cells cs 46) = W := ⟨_, rfl⟩
  rw [hW] at hA hG
  have hdW : d < W.heap.size := Nat.lt_of_lt_of_le hdl (Below.size hA)
  have HA := Lib.hid (Kep.of_bel (S := Two b d) hA)
  have H := Lib.hid (h.bel hA)
  have j0 : W.cell? ⟨w.heap.size, 0, none⟩ = some (.int .i64 2) := hG.cell 0 c0
  have j1 : W.cell? ⟨w.heap.size, 1, none⟩ = some (.int .i64 x) := hG.cell 1 c1
  have j37 : W.cell? ⟨w.heap.size, 37, none⟩ = some (.int .i64 er) := hG.cell 37 c37
  have HC := Lib.hid (fun w' (hk : Kep (Two b d) W w') => (⟨(kep_cell hk hG (by omega) (by omega)).cell 1 c1, (kep_cell hk hG (by omega) (by omega)).cell 37 c37⟩ : w'.cell? ⟨w.heap.size, 1, none⟩ = some (.int .i64 x) ∧ w'.cell? ⟨w.heap.size, 37, none⟩ = some (.int .i64 er)))
  obtain ⟨hs, k', f', hru, hk', hl⟩ := rh_any zs k f hk
  have q44 := eql_hash hs hl (rh_bytes hb hru)
  obtain ⟨Y, hY⟩ : ∃ Y, hs.map (Value.int .u8) = Y := ⟨_, rfl⟩
  have hV : hash hs = .agg Y.toArray := by rw [← hY]
  rw [hV] at q44
  have RY := Lib.hid (show ∀ w', RD d w' b A n c zs k f → d < w'.heap.size → Calls Try.prog 36 #[.pointer (some ⟨b, 0, none⟩)] w' fun e w1 => e = .returned (.agg Y.toArray) ∧ RD d w1 b A n c zs k' f' ∧ Kep (fun i => i = b) w' w1 from fun w' h1 h2 => by rw [← hV]; exact yH d b A n c zs k f hs k' f' w' h1 hru h2)
  have RT := Lib.hid (show ∀ w', QT w' d A2 n c2 zs k f → w.heap.size ≤ w'.heap.size → Calls Try.prog 51 #[.pointer (some ⟨d, 0, none⟩)] w' fun e w1 => e = .returned (.agg Y.toArray) ∧ QT w1 d A2 n c2 zs k' f' ∧ Kep (fun i => i = d) w' w1 from fun w' h1 h2 => by rw [← hV]; exact tHash d A2 n c2 zs k f hs k' f' w' h1 hru (fun hn x hx => by have := hA2 hn x hx; omega))
  have hsz : w.heap.size ≤ W.heap.size := Below.size hA
  clear hV hY
  clear hA hG h c0 c1 c37
  go_enter Try.func21, Try.ntmps21
  go_wp2_with fail
  refine (RY.out W H.out.1 hdW).mono ?_
  rintro e w1 ⟨rfl, h1, hk1⟩
  have HR := Lib.hid h1
  have HQ := Lib.hid (H.out.2.aside ha hk1)
  have HK := Lib.hid hk1
  have hs1 : w.heap.size ≤ w1.heap.size := Nat.le_trans hsz hk1.size
  clear h1 hk1
  go_wp2_with fail
  refine (RT.out w1 HQ.out hs1).mono ?_
  rintro e w2 ⟨rfl, h2, hk2⟩
  have HB : Hid (Both w2 b d A A2 n c c2 zs k' f') := ⟨HR.out.aside ha hk2, h2⟩
  have HK2 := Lib.hid ((HA.out.trans (kep_one HK.out)).trans (kep_two hk2))
  clear h2 hk2
  go_wp2
  go_ret
  exact ⟨rfl, ⟨k', f', HB.out⟩, HK2.out⟩
end Cd
end Go.Proofs.Ytejbhfcmhijfcaa
