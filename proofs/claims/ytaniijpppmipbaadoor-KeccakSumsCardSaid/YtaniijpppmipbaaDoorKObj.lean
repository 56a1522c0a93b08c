/-
  What the methods of a Hash answer in this program: of none, and of one that New or Copy made.
-/
import Derived.Test.YtaniijpppmipbaaDoorKAwake2
namespace Go.Proofs.YtaniijpppmipbaaDoor
open Go.RowKit Go.Shelf
set_option linter.unusedVariables false
namespace Kk

theorem eqIn_nil {w : World} (d : Nat) (t e : TypeId) (a : Addr) (ht : Tryd.prog.underlying t = some (.pointer e)) : (Op.equalIn (d + 1) t (.pointer none) (.pointer (some a))).run Tryd.prog w = .ok false w := by
  simp [Op.equalIn, run_underlying ht]
theorem eql_nil {w : World} (t e : TypeId) (a : Addr) (ht : Tryd.prog.underlying t = some (.pointer e)) : (binOp .eql t (.pointer none) (.pointer (some a))).run Tryd.prog w = .ok (.bool false) w := by
  simp only [binOp]
  simp [Op.equal, Op.maxDepth, eqIn_nil 9999 t e a ht]
theorem eqIn_self {w : World} (d : Nat) (t e : TypeId) (a : Addr) (n : Nat) (ht : Tryd.prog.underlying t = some (.pointer e)) (he : ∀ w, (sizeOf e).run Tryd.prog w = .ok n w) (hn : n ≠ 0) : (Op.equalIn (d + 1) t (.pointer (some a)) (.pointer (some a))).run Tryd.prog w = .ok true w := by
  simp [Op.equalIn, run_underlying ht, he, run_sameAddr_same]
theorem eql_self {w : World} (t e : TypeId) (a : Addr) (n : Nat) (ht : Tryd.prog.underlying t = some (.pointer e)) (he : ∀ w, (sizeOf e).run Tryd.prog w = .ok n w) (hn : n ≠ 0) : (binOp .eql t (.pointer (some a)) (.pointer (some a))).run Tryd.prog w = .ok (.bool true) w := by
  simp only [binOp]
  simp [Op.equal, Op.maxDepth, eqIn_self 9999 t e a n ht he hn]
/-- Nil, or made by nobody. -/
def Null (w : World) (v : Value) : Prop := v = .pointer none ∨ ∃ b, v = .pointer (some ⟨b, 0, none⟩) ∧ w.cell? ⟨b, 0, none⟩ = some (.pointer none)
theorem Null.bel {w w' : World} {v : Value} (h : Null w v) (hb : Bel w w') : Null w' v := by
  rcases h with rfl | ⟨b, rfl, hc⟩
  · exact .inl rfl
  · exact .inr ⟨b, rfl, (Below.cell (p := ⟨b, 0, none⟩) hb (World.block_lt_of_cell? w _ hc)).trans hc⟩

set_option maxRecDepth 100000 in
theorem valid0 (v : Value) (w : World) (h : Null w v) : Calls Tryd.prog 49 #[v] w fun e w' => e = .returned (.bool false) ∧ w = w' := by
  have hq := fun (b : Nat) (w : World) => eql_nil (w := w) 43 61 ⟨b, 0, none⟩ Tryd.underlying43
  rcases h with rfl | ⟨b, rfl, c0⟩
  all_goals
    go_enter Tryd.func49, Tryd.ntmps49
    go_wp2
    go_ret
    exact ⟨rfl, rfl⟩
set_option maxRecDepth 100000 in
theorem hWrite0 (v s : Value) (w : World) (h : Null w v) : Calls Tryd.prog 29 #[v, s] w fun e w' => e = .returned (.int .i64 1) ∧ w = w' := by
  have ST := Lib.hid (valid0 v w h)
  clear h
  go_enter Tryd.func29, Tryd.ntmps29
  go_wp2_with (go_at_call 49; refine (ST.out).mono ?_; rintro e w' ⟨rfl, rfl⟩)
  go_ret
  exact ⟨rfl, rfl⟩
set_option maxRecDepth 100000 in
theorem hLen0 (v : Value) (w : World) (h : Null w v) : Calls Tryd.prog 32 #[v] w fun e w' => e = .returned (.int .i64 0) ∧ w = w' := by
  have ST := Lib.hid (valid0 v w h)
  clear h
  go_enter Tryd.func32, Tryd.ntmps32
  go_wp2_with (go_at_call 49; refine (ST.out).mono ?_; rintro e w' ⟨rfl, rfl⟩)
  go_ret
  exact ⟨rfl, rfl⟩
set_option maxRecDepth 100000 in
theorem hCopy0 (v : Value) (w : World) (h : Null w v) : Calls Tryd.prog 28 #[v] w fun e w' => e = .returned (.pointer none) ∧ w = w' := by
  have ST := Lib.hid (valid0 v w h)
  clear h
  go_enter Tryd.func28, Tryd.ntmps28
  go_wp2_with (go_at_call 49; refine (ST.out).mono ?_; rintro e w' ⟨rfl, rfl⟩)
  go_ret
  exact ⟨rfl, rfl⟩
theorem results_ct {fn : Func} {p q : Tmp} {tp : TypeId} (h : fn.results = #[.cell p tp, .tmp q]) (tmps : Array Value) (w : World) (a : Addr) (X U : Value)
    (hp : tmps.getD p undef = .pointer (some a)) (hq : tmps.getD q undef = U) (hX : (loadVar tp a).run Tryd.prog w = .ok X w) :
    (results fn tmps).run Tryd.prog w = .ok (.tuple #[X, U]) w := by
  have hp' : tmps[p]?.getD undef = .pointer (some a) := by simpa using hp
  have hq' : tmps[q]?.getD undef = U := by simpa using hq
  simp [results, h, hp', hq', asAddr, hX]
abbrev Z32l : List Value := [.int .u8 0, .int .u8 0, .int .u8 0, .int .u8 0, .int .u8 0, .int .u8 0, .int .u8 0, .int .u8 0, .int .u8 0, .int .u8 0, .int .u8 0, .int .u8 0, .int .u8 0, .int .u8 0, .int .u8 0, .int .u8 0, .int .u8 0, .int .u8 0, .int .u8 0, .int .u8 0, .int .u8 0, .int .u8 0, .int .u8 0, .int .u8 0, .int .u8 0, .int .u8 0, .int .u8 0, .int .u8 0, .int .u8 0, .int .u8 0, .int .u8 0, .int .u8 0]
theorem z32_hs : Value.agg Z32l.toArray = hsV (List.replicate 32 0) := rfl

set_option maxRecDepth 100000 in
set_option maxHeartbeats 1000000 in
theorem hSum0 (v : Value) (w : World) (h : Null w v) : Calls Tryd.prog 31 #[v] w fun e w' => e = .returned (.tuple #[.agg Z32l.toArray, .int .i64 1]) ∧ Bel w w' := by
  have B1 := (Bel.refl w).alloc (.cells Z32l.toArray 31)
  have ST := Lib.hid (valid0 v _ (h.bel B1))
  have TH := Lib.hid (show (w.alloc (.cells Z32l.toArray 31)).there w.heap.size 0 32 from there_newK (by decide))
  have HB := Lib.hid B1
  clear h B1
  obtain ⟨Y, hY⟩ : ∃ Y, Y = Z32l := ⟨_, rfl⟩
  have HYl := Lib.hid (show Y.length = 32 by rw [hY]; rfl)
  have HYs := Lib.hid (show Y.toArray.size = 32 by rw [hY]; rfl)
  have HYo := Lib.hid (all_oneCell_toArray (cs := Y) (by rw [hY]; exact ints_b8 (List.replicate 32 0)))
  have HYi := Lib.hid (show (Tryd.prog.info? 31).map (·.size) = some Y.toArray.size by rw [HYs.out]; exact info_hash)
  have TH2 := Lib.hid (show (w.alloc (.cells Z32l.toArray 31)).there w.heap.size 0 Y.toArray.size by rw [HYs.out]; exact TH.out)
  have HY := Lib.hid hY
  clear hY
  go_enter Tryd.func31, Tryd.ntmps31
  go_wp2_with (first | (go_at_call 49; refine (ST.out).mono ?_; rintro e w' ⟨rfl, rfl⟩) | (refine wpList_store_mid rfl 31 (.tmp 2) (.tmp 7) rfl w.heap.size 0 Y.toArray rfl (by rw [HY.out]; rfl) TH2.out HYi.out HYo.out ?_))
  have RE : ((w.alloc (.cells Z32l.toArray 31)).setCells w.heap.size 0 Y).rangeAt w.heap.size 0 Y := World.rangeAt_setCells_same _ _ _ _ (by rw [HYl.out]; exact TH.out)
  refine bodyPost_ret (results_ct Tryd.results31 _ _ ⟨w.heap.size, 0, none⟩ (.agg Y.toArray) (.int .i64 1) rfl rfl (run_loadVar_mid (P := Tryd.prog) _ w.heap.size 0 31 Y _ RE Tryd.underlying31 rfl (by rw [HYl.out]; exact info_hash))) rfl ⟨by rw [HY.out], ?_⟩
  exact Kep.bel HB.out (kep_setCellsK w.heap.size Y 0 _) (fun i hi => by rw [hi]; exact Nat.le_refl _)
end Kk
end Go.Proofs.YtaniijpppmipbaaDoor
