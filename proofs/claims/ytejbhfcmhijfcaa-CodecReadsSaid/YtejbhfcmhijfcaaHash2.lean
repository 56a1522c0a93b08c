/-
  What the inner function of a reader's Hash answers in this program: the hash that stands at a place.
  Conditions: at most 10^6 bytes; 32 of them stand at the place.
-/
import Derived.Test.YtejbhfcmhijfcaaHash
import Derived.Laws.CopyOwn
namespace Go.Proofs.Ytejbhfcmhijfcaa
open Go.RowKit Go.Shelf
set_option linter.unusedVariables false
namespace Cd

theorem slice_l (A : Option Addr) (n c : Nat) (l : Int) (w : World) (h0 : 0 ≤ l) (h1 : l ≤ n) :
    (Instr.slice 23 (.slice A n c) (some (.int .i64 l)) none none).run Try.prog w = .ok (.slice (if c = l.toNat then A else A.map (·.add (l.toNat * 1))) (n - l.toNat) (c - l.toNat)) w := by
  rw [run_slice_l (P := Try.prog) (w := w) (t := 23) (a := A) (len := n) (cap := c) (by rw [elem_u8]; exact Try.underlying23) .i64 l h0 h1]
  rw [elem_u8]
  simp [Try.sizeOf5, Result.andThen, sliced]

/-- A copy that fills an array. -/
theorem step_copy_all {ops : Array Oper} {o : Oper} {a : Act} {w : World} {K : Act → World → Prop} {Q : Exit → Act → World → Prop} {E : Prop} (hgd : o.guard = none) (d s : Operand)
    (ho : o.op = .call { callee := .builtin .copy, args := #[d, s], argTypes := #[23, 23] }) (g : Nat) (ad : Addr) (dCap sLen sCap : Nat)
    (hd : a.eval d = .slice (some ⟨g, 0, none⟩) 32 dCap) (hs : a.eval s = .slice (some ad) sLen sCap) (cur : Array Value) (t : TypeId) (hg : w.heap[g]? = some (.cells cur t (0, 0))) (hcur : cur.size = 32)
    (cs : List Value) (hn : cs.length = 32) (hsl : 32 ≤ sLen) (hsrc : ∀ j v, cs[j]? = some v → w.cell? (ad.add j) = some v) (h1 : ∀ v ∈ cs, v.oneCell' = true)
    (h : ∀ w', Hid (Blk w' g cs.toArray t) → Hid (Kep (fun i => i = g) w w') → K (a.put o.dst (.int .i64 32)) w') :
    if Region.wanted o (yielded ops a.tmps) = true then Oper.wp Try.prog o a w K Q else E := by
  have hw : Region.wanted o (yielded ops a.tmps) = true := by simp [Region.wanted, hgd]
  rw [if_pos hw]
  have hrun := run_copy_row (P := Try.prog) w 23 23 o.type 5 g 0 32 dCap ad sLen sCap cur t cs Try.underlying23 (by kernel_rfl) hg (by rw [hn]; exact (Nat.min_eq_right hsl).symm) hsrc (by omega) h1
  have e : (cur.toList.take 0 ++ cs ++ cur.toList.drop (0 + cs.length)).toArray = cs.toArray := by
    rw [List.take_zero, List.nil_append, List.drop_of_length_le (by rw [hn]; simp; omega), List.append_nil]
  rw [e, hn] at hrun
  unfold Oper.wp
  simp [execOp, ho, resolve, invoke, builtin, hd, hs, hrun, Result.andThen]
  refine h _ (setRow_heap w g cur _ t _ hg) ⟨rfl, rfl, rfl, by simp, fun k _ hk => setRow_other w g k _ hk⟩

set_option maxRecDepth 100000 in
set_option maxHeartbeats 2000000 in
theorem hash1_ok (A : Option Addr) (n c : Nat) (zs : List Int) (k : Nat) (w : World) (hsl : Sl w A n c zs) (hn : n ≤ 1000000) (hs : k + 32 ≤ n) :
    Calls Try.prog 62 #[.slice A n c, .int .i64 (k : Int)] w fun r w' => r = .returned (.tuple #[hash ((zs.drop k).take 32), .int .i64 ((k : Int) + 32), .agg #[.int .i64 0, .int .i64 0]]) ∧ Bel w w' := by
  have h1 : (32 : Int) ≤ (n : Int) - (k : Int) := by omega
  have hlen := hsl.len
  have hp := hsl.ints.part (k := k) (m := 32) hs hsl.cap
  obtain ⟨b, o, hA, hbl, hcl⟩ := hp.2 (by omega)
  have hsr := fun w' => slice_l A n c k w' (by omega) (by omega)
  simp only [Int.toNat_natCast] at hsr
  rw [hA] at hsr
  have hpl : ((zs.drop k).take 32).length = 32 := hp.1
  obtain ⟨ys, hys⟩ : ∃ ys, (zs.drop k).take 32 = ys := ⟨_, rfl⟩
  rw [hys] at hpl hcl ⊢
  rw [hA, hys] at hp
  have HP := Lib.hid hp
  obtain ⟨V, hV⟩ : ∃ V, hash ys = V := ⟨_, rfl⟩
  have HV := Lib.hid hV
  rw [hV]
  obtain ⟨Y, hY⟩ : ∃ Y, ys.map (Value.int .u8) = Y := ⟨_, rfl⟩
  have HY := Lib.hid hY
  have HYL := Lib.hid (show Y.length = 32 by rw [← hY]; simpa using hpl)
  have HYO := Lib.hid (show ∀ v ∈ Y, v.oneCell' = true by rw [← hY]; exact ints_ok _)
  have hcap := hsl.cap
  clear hV hA hp hys hlen hsl hcl hY
  go_enter Try.func62, Try.ntmps62
  go_upto_region 3 with fail
  obtain ⟨W, hW⟩ : ∃ W, (w.alloc (.cells Z32 44)).alloc (.cells #[.int .i64 0, .int .i64 0] 29) = W := ⟨_, rfl⟩
  have B1 := Lib.hid (show Blk W w.heap.size Z32 44 by rw [← hW]; exact (Blk.new w _ _).alloc _)
  have B2 := Lib.hid (show Blk W (w.heap.size + 1) #[.int .i64 0, .int .i64 0] 29 by
    rw [← hW]
    have := Blk.new (w.alloc (.cells Z32 44)) #[.int .i64 0, .int .i64 0] 29
    rwa [World.size_alloc] at this)
  have HB := Lib.hid (show Bel w W by rw [← hW]; exact ((Bel.refl w).alloc _).alloc _)
  rw [hW]
  clear hW
  have SRC := Lib.hid (show ∀ j v, Y[j]? = some v → W.drew.cell? ((⟨b, o, none⟩ : Addr).add j) = some v by
    rw [← HY.out]; exact Ints.news (HP.out.bel (HB.out.drew)))
  have e32 : IntKind.i64.wrap ((k : Int) + 32) = (k : Int) + 32 := IntWalk.i64_in _ (by omega)
  go_region_law (refine step_copy_all rfl (.tmp 16) (.tmp 19) rfl w.heap.size ⟨b, o, none⟩ 32 (n - k) (c - k) rfl rfl Z32 44 B1.out rfl Y HYL.out (by omega) SRC.out HYO.out ?_; intro w4 hb4 hk4)
  have F2 := Lib.hid (B2.out.kep (Kep.trans (Kep.of_bel ((Bel.refl W).drew)) hk4.out) (by omega))
  have R4 := Lib.hid (show w4.rangeAt w.heap.size 0 Y from fun j v hv => by rw [Nat.zero_add]; exact hb4.out.cell j (by simpa using hv))
  have HI := Lib.hid (show (Try.prog.info? 44).map (·.size) = some Y.length by rw [HYL.out]; exact info_hash)
  have HW4 := Lib.hid (show Bel w w4 from Kep.bel (HB.out.drew) hk4.out (fun i hi => by rw [hi]; exact Nat.le_refl _))
  have hk6 : (k : Int) ≤ 1000000 := by omega
  go_wp2
  refine bodyPost_ret (results_cic Try.results62 _ _ ⟨w.heap.size, 0, none⟩ ⟨w.heap.size + 1, 0, none⟩ (.agg Y.toArray) (.agg #[.int .i64 0, .int .i64 0]) (.int .i64 ((k : Int) + 32)) (by simp [Act.put]) (by simp [Act.put]) (by simp [Act.put]) (run_loadVar_mid (P := Try.prog) _ _ _ 44 Y _ R4.out Try.underlying44 rfl HI.out) (load_fault (F2.out.cell 0 rfl) (F2.out.cell 1 rfl))) rfl ⟨?_, HW4.out⟩
  rw [← HV.out, ← HY.out]
end Cd
end Go.Proofs.Ytejbhfcmhijfcaa
