/-
  What Hash of a writer and of a reader answer in this program.
  Conditions: objects that were made; a hash of 32 bytes.
-/
import Derived.Test.YtejbhfcmhijfcaaWriter2
import Derived.Test.YtejbhfcmhijfcaaReader6
import Derived.Deep.MidRow
namespace Go.Proofs.Ytejbhfcmhijfcaa
open Go.RowKit Go.Shelf
set_option linter.unusedVariables false
namespace Cd

/-- A hash, as the program keeps it: 32 bytes. -/
abbrev hash (hs : List Int) : Value := .agg (hs.map (Value.int .u8)).toArray

theorem sl_box (w : World) (hs : List Int) (t : TypeId) (h : hs.length = 32) : Sl (w.alloc (.cells (hs.map (Value.int .u8)).toArray t)) (some ⟨w.heap.size, 0, none⟩) 32 32 hs := by
  refine ⟨⟨h, fun hn => ⟨w.heap.size, 0, rfl, by simp, fun i hi => ?_⟩⟩, Nat.le_refl _, fun h => by cases h⟩
  rw [Nat.zero_add, World.cell?_alloc_new, List.getElem?_toArray, List.getElem?_map, List.getElem?_eq_getElem (by omega), getD_eq _ _ (by omega)]
  rfl

set_option maxRecDepth 100000 in
set_option maxHeartbeats 1000000 in
theorem wHash (b : Nat) (L : Int) (v : Value) (out : List Int) (base : Nat) (hs : List Int) (w : World) (h : WS w b L v 0 out base) (hl : hs.length = 32) :
    Calls Try.prog 31 #[.pointer (some ⟨b, 0, none⟩), hash hs] w fun e w' => ∃ r, e = .returned (.int .i64 r) ∧ After w' b L r out hs base ∧ Kep (Own2 b v) w w' := by
  have H := Lib.hid h
  have hbl := h.blk.lt
  have hrl := h.row_lt
  have bb : Bel w ((w.alloc (.cells (hs.map (Value.int .u8)).toArray 44)).alloc (.cells #[.slice (some ⟨w.heap.size, 0, none⟩) 32 32] 23)) := ((Bel.refl w).alloc _).alloc _
  have hblk : Blk ((w.alloc (.cells (hs.map (Value.int .u8)).toArray 44)).alloc (.cells #[.slice (some ⟨w.heap.size, 0, none⟩) 32 32] 23)) (w.heap.size + 1) #[.slice (some ⟨w.heap.size, 0, none⟩) 32 32] 23 := by
    have := Blk.new (w.alloc (.cells (hs.map (Value.int .u8)).toArray 44)) #[.slice (some ⟨w.heap.size, 0, none⟩) 32 32] 23
    rwa [World.size_alloc] at this
  have WR := Lib.hid (write b L v out base (w.heap.size + 1) [(some ⟨w.heap.size, 0, none⟩, 32, 32, hs)] _ (h.bel bb) (parts_one hblk ((sl_box w hs 44 hl).bel ((Bel.refl _).alloc _))) (by omega) (fun e => by have := hrl _ e; omega)
    (by
      intro i A' n' c' zs' hi y hy
      match i, hi with
      | 0, hi =>
        simp at hi
        obtain ⟨rfl, rfl, rfl, rfl⟩ := hi
        injection hy with hy
        subst hy
        exact ⟨Nat.ne_of_gt hbl, fun e => Nat.lt_irrefl _ (hrl _ e)⟩)
    (by
      intro i A' n' c' zs' hi
      match i, hi with
      | 0, hi => simp at hi; omega) (by simp))
  have HBB := Lib.hid bb
  clear h hl bb hblk hrl
  go_enter Try.func31, Try.ntmps31
  go_wp2_with fail
  refine (WR.out).mono ?_
  rintro e w2 ⟨r, rfl, ha, hk⟩
  have HA := Lib.hid ha
  have HK := Lib.hid ((Kep.of_bel HBB.out).trans hk)
  clear ha hk
  go_wp2
  go_ret
  have h1 := HA.out
  rw [show flat [(some (⟨w.heap.size, 0, none⟩ : Addr), 32, 32, hs)] [(some (⟨w.heap.size, 0, none⟩ : Addr), 32, 32, hs)].length = hs by simp [flat]] at h1
  exact ⟨r, rfl, h1, HK.out⟩

theorem info_hash : (Try.prog.info? 44).map (·.size) = some 32 := by kernel_rfl
theorem zero_hash : (List.replicate 32 (0 : Int)).map (Value.int .u8) = List.replicate 32 (Value.int .u8 0) := by simp

set_option maxRecDepth 100000 in
set_option maxHeartbeats 1000000 in
theorem itemH_fault (b : Nat) (A : Option Addr) (n c : Nat) (zs : List Int) (k : Nat) (x : Addr) (fn : Value) (w : World) (h : RSt w b A n c zs k (some x)) :
    Calls Try.prog 61 #[.pointer (some ⟨b, 0, none⟩), fn] w fun e w' => e = .returned (hash (List.replicate 32 0)) ∧ Bel w w' := by
  have T := Lib.hid (fun w' (hw : Bel w w') => trouble b A n c zs k _ w' (h.bel hw))
  clear h
  go_enter Try.func61, Try.ntmps61
  go_wp2_with (go_at_call 54; refine (T.out _ ((Bel.refl _).alloc _)).mono ?_; rintro e w' ⟨rfl, rfl⟩)
  refine bodyPost_ret (results_cell_row Try.results61 _ _ w.heap.size 44 ((List.replicate 32 (0 : Int)).map (Value.int .u8)).toArray (0, 0) _ rfl (World.alloc_heap_new w _) Try.underlying44 rfl info_hash) rfl ⟨rfl, (Bel.refl _).alloc _⟩

theorem range_new {w : World} {C : Array Value} {t : TypeId} : (w.alloc (.cells C t)).rangeAt w.heap.size 0 C.toList := fun j v hv => by
  rw [Nat.zero_add]
  exact (Blk.new w C t).cell j (by simpa using hv)
theorem there_new {w : World} {C : Array Value} {t : TypeId} {n : Nat} (h : n ≤ C.size) : (w.alloc (.cells C t)).there w.heap.size 0 n := fun j hj => by
  rw [Nat.zero_add]
  refine ⟨?_, (Blk.new w C t).frozen j⟩
  rw [(Blk.new w C t).cell j (Array.getElem?_eq_getElem (by omega))]
  rfl
theorem cell_far {w : World} {b : Nat} {vs : List Value} {c o : Nat} {v : Value} (h : w.cell? ⟨c, o, none⟩ = some v) (hne : c ≠ b) : (w.setCells b 0 vs).cell? ⟨c, o, none⟩ = some v := by
  have h1 : w.rangeAt c o [v] := fun j u hu => by
    match j, hu with
    | 0, hu => simp at hu; subst hu; exact h
  have := World.rangeAt_setCells_apart h1 b 0 vs (.inl hne) 0 v rfl
  simpa using this
theorem frozen_far {w : World} {b : Nat} {vs : List Value} {c o : Nat} {v : Value} (h : w.cell? ⟨c, o, none⟩ = some v) (hf : w.frozen? ⟨c, o, none⟩ = false) : (w.setCells b 0 vs).frozen? ⟨c, o, none⟩ = false := by
  have h1 : w.there c o 1 := fun j hj => by
    obtain rfl : j = 0 := by omega
    exact ⟨by rw [Nat.add_zero, h]; rfl, hf⟩
  have := (World.there_setCells h1 b 0 vs 0 (by omega)).2
  simpa using this
theorem kep_setCells (b : Nat) : ∀ (vs : List Value) (o : Nat) (w : World), Kep (fun i => i = b) w (w.setCells b o vs) := by
  intro vs
  induction vs with
  | nil => intro o w; exact Kep.refl _ _
  | cons v vs ih => intro o w; exact (Kep.set_self (Kep.refl _ w) o v).trans (ih (o + 1) _)

theorem range_kep {S : Nat → Prop} {w w' : World} {b o : Nat} {cs : List Value} (h : w.rangeAt b o cs) (hk : Kep S w w') (hs : ¬ S b) : w'.rangeAt b o cs := fun j v hv => hk.cell hs (h j v hv)
theorem range_set {w : World} {b o : Nat} {cs : List Value} (h : w.rangeAt b o cs) {c : Nat} (hne : b ≠ c) (i : Nat) (u : Value) : (w.setCell ⟨c, i, none⟩ u).rangeAt b o cs := range_kep h (Kep.set_self (Kep.refl _ w) i u) hne
abbrev Z32 : Array Value := #[.int .u8 0, .int .u8 0, .int .u8 0, .int .u8 0, .int .u8 0, .int .u8 0, .int .u8 0, .int .u8 0, .int .u8 0, .int .u8 0, .int .u8 0, .int .u8 0, .int .u8 0, .int .u8 0, .int .u8 0, .int .u8 0, .int .u8 0, .int .u8 0, .int .u8 0, .int .u8 0, .int .u8 0, .int .u8 0, .int .u8 0, .int .u8 0, .int .u8 0, .int .u8 0, .int .u8 0, .int .u8 0, .int .u8 0, .int .u8 0, .int .u8 0, .int .u8 0]
theorem z32 : Z32 = ((List.replicate 32 (0 : Int)).map (Value.int .u8)).toArray := by rfl

theorem results_cic {fn : Func} {p q s : Tmp} {tp ts : TypeId} (h : fn.results = #[.cell p tp, .tmp q, .cell s ts]) (tmps : Array Value) (w : World) (a c : Addr) (X Y U : Value)
    (hp : tmps.getD p undef = .pointer (some a)) (hs : tmps.getD s undef = .pointer (some c)) (hq : tmps.getD q undef = U) (hX : (loadVar tp a).run Try.prog w = .ok X w) (hY : (loadVar ts c).run Try.prog w = .ok Y w) :
    (results fn tmps).run Try.prog w = .ok (.tuple #[X, U, Y]) w := by
  have hp' : tmps[p]?.getD undef = .pointer (some a) := by simpa using hp
  have hs' : tmps[s]?.getD undef = .pointer (some c) := by simpa using hs
  have hq' : tmps[q]?.getD undef = U := by simpa using hq
  simp [results, h, hp', hs', hq', asAddr, hX, hY]
theorem load_fault {w : World} {b : Nat} {e p : Int} (h0 : w.cell? ⟨b, 0, none⟩ = some (.int .i64 e)) (h1 : w.cell? ⟨b, 1, none⟩ = some (.int .i64 p)) : (loadVar 29 ⟨b, 0, none⟩).run Try.prog w = .ok (.agg #[.int .i64 e, .int .i64 p]) w :=
  run_loadVar_mid (P := Try.prog) w b 0 29 [.int .i64 e, .int .i64 p] _ (fun j v hv => by
    match j, hv with
    | 0, hv => simp at hv; subst hv; exact h0
    | 1, hv => simp at hv; subst hv; exact h1) Try.underlying29 rfl (by kernel_rfl)

set_option maxRecDepth 100000 in
set_option maxHeartbeats 1000000 in
theorem hash1_short (A : Option Addr) (n c : Nat) (k : Nat) (w : World) (hn : n ≤ 1000000) (hk : k ≤ n) (hs : n < k + 32) :
    Calls Try.prog 62 #[.slice A n c, .int .i64 (k : Int)] w fun r w' => r = .returned (.tuple #[hash (List.replicate 32 0), .int .i64 0, .agg #[.int .i64 6, .int .i64 (k : Int)]]) ∧ Bel w w' := by
  have h1 : (n : Int) - (k : Int) < 32 := by omega
  have h2 : (0 : Int) ≤ (n : Int) - (k : Int) := by omega
  obtain ⟨V, hV⟩ : ∃ V, hash (List.replicate 32 0) = V := ⟨_, rfl⟩
  have HV := Lib.hid hV
  rw [hV]
  clear hV
  go_enter Try.func62, Try.ntmps62
  go_upto_region 2 with fail
  obtain ⟨W, hW⟩ : ∃ W, (w.alloc (.cells Z32 44)).alloc (.cells #[.int .i64 0, .int .i64 0] 29) = W := ⟨_, rfl⟩
  have R := Lib.hid (show W.rangeAt w.heap.size 0 Z32.toList by rw [← hW]; exact World.rangeAt_alloc range_new _)
  have TH := Lib.hid (show W.there w.heap.size 0 32 by rw [← hW]; exact World.there_alloc (there_new (by decide)) _)
  have B2 := Lib.hid (show Blk W (w.heap.size + 1) #[.int .i64 0, .int .i64 0] 29 by
    rw [← hW]
    have := Blk.new (w.alloc (.cells Z32 44)) #[.int .i64 0, .int .i64 0] 29
    rwa [World.size_alloc] at this)
  have HB := Lib.hid (show Bel w W by rw [← hW]; exact ((Bel.refl w).alloc _).alloc _)
  rw [hW]
  clear hW
  have k0 : (W.setCells w.heap.size 0 Z32.toList).cell? ⟨w.heap.size + 1, 0, none⟩ = some (.int .i64 0) := cell_far (B2.out.cell 0 rfl) (by omega)
  have k1 : (W.setCells w.heap.size 0 Z32.toList).cell? ⟨w.heap.size + 1, 1, none⟩ = some (.int .i64 0) := cell_far (B2.out.cell 1 rfl) (by omega)
  have k2 : (W.setCells w.heap.size 0 Z32.toList).frozen? ⟨w.heap.size + 1, 0, none⟩ = false := frozen_far (B2.out.cell 0 rfl) (B2.out.frozen 0)
  have k3 : (W.setCells w.heap.size 0 Z32.toList).frozen? ⟨w.heap.size + 1, 1, none⟩ = false := frozen_far (B2.out.cell 1 rfl) (B2.out.frozen 1)
  obtain ⟨Z, hZ⟩ : ∃ Z, Z32.toList = Z := ⟨_, rfl⟩
  have HL := Lib.hid (show Z.length = 32 by rw [← hZ]; rfl)
  have HZ := Lib.hid (show Z = (List.replicate 32 (0 : Int)).map (Value.int .u8) by rw [← hZ, z32])
  rw [hZ] at R k0 k1 k2 k3
  clear hZ
  have HI := Lib.hid (show (Try.prog.info? 44).map (·.size) = some Z.length by rw [HL.out]; exact info_hash)
  have HO := Lib.hid (all_oneCell_toArray (cs := Z) (by rw [HZ.out]; exact ints_ok _))
  have hz : Z.toArray.size = 32 := by simp [HL.out]
  have TH2 := Lib.hid (show W.there w.heap.size 0 Z.toArray.size by rw [hz]; exact TH.out)
  have HI2 := Lib.hid (show (Try.prog.info? 44).map (·.size) = some Z.toArray.size by rw [hz]; exact info_hash)
  have R3 := Lib.hid (show (W.setCells w.heap.size 0 Z).rangeAt w.heap.size 0 Z from World.rangeAt_setCells_same W w.heap.size 0 Z (by rw [HL.out]; exact TH.out))
  have HK := Lib.hid (show Bel w (W.setCells w.heap.size 0 Z) from Kep.bel HB.out (kep_setCells w.heap.size Z 0 W) (fun i hi => by rw [hi]; exact Nat.le_refl _))
  clear hz
  go_wp2_with (first | (refine wpList_load_mid rfl 44 (.tmp 4) rfl w.heap.size 0 rfl Z _ R.out Try.underlying44 rfl HI.out ?_) | (refine wpList_store_mid rfl 44 (.tmp 4) (.tmp 12) rfl w.heap.size 0 Z.toArray rfl rfl TH2.out HI2.out HO.out ?_))
  have R4 := range_set (range_set R3.out (c := w.heap.size + 1) (by omega) 0 (.int .i64 6)) (c := w.heap.size + 1) (by omega) 1 (.int .i64 (k : Int))
  have BK := ((B2.out.kep (kep_setCells w.heap.size Z 0 W) (by omega)).set 0 (.int .i64 6)).set 1 (.int .i64 (k : Int))
  refine bodyPost_ret (results_cic Try.results62 _ _ ⟨w.heap.size, 0, none⟩ ⟨w.heap.size + 1, 0, none⟩ (.agg Z.toArray) (.agg #[.int .i64 6, .int .i64 (k : Int)]) (.int .i64 0) rfl rfl rfl (run_loadVar_mid (P := Try.prog) _ _ _ 44 Z _ R4 Try.underlying44 rfl HI.out) (load_fault (BK.cell 0 rfl) (BK.cell 1 rfl))) rfl ⟨?_, ?_⟩
  · rw [← HV.out, HZ.out]
  · exact (HK.out.set (by simp) _).set (by simp) _
end Cd
end Go.Proofs.Ytejbhfcmhijfcaa
