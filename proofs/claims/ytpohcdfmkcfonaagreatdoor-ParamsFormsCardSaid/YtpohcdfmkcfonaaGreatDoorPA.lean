/-
  Texts of this claim, put together: PFld, PFds, PChk, PCk, PFind, PGet, PSet. What each one says, and under which conditions, stands ahead of it.
-/
import Derived.Lib.SlicesS
import Derived.Test.YtpohcdfmkcfonaaGreatDoorGPMem

section
/-
  What the fields of a record of params are in this program: what number makes, and what the two closures answer.
  Conditions: the record lies in memory; a number that is set is below 2^64.
-/
namespace Go.Proofs.YtpohcdfmkcfonaaGreatDoor
open Go.RowKit Go.Shelf
set_option linter.unusedVariables false
namespace Pm
open Kk

/-- A field as a value: its name, its bounds, and two closures over the box c. -/
def fldC (s : ByteArray) (a b : Int) (g t c : Nat) : List Value := [.string s, .int .u64 a, .int .u64 b, .func (.func g) #[] #[.pointer (some ⟨c, 0, none⟩)], .func (.func t) #[] #[.pointer (some ⟨c, 0, none⟩)]]
theorem fldC_cells (s : ByteArray) (a b : Int) (g t c : Nat) : ∀ u ∈ fldC s a b g t c, u.oneCell' = true := by
  intro u hu
  simp [fldC] at hu
  rcases hu with rfl | rfl | rfl | rfl | rfl <;> rfl
theorem info_fld : (Tryz.prog.info? 55).map (·.size) = some 5 := by kernel_rfl
/-- A field was made, for the place x. -/
def Fmade (s : ByteArray) (a b : Int) (g t : Nat) (x : Addr) (w : World) (e : Ending) (w' : World) : Prop :=
  ∃ c, e = .returned (.agg #[.string s, .int .u64 a, .int .u64 b, .func (.func g) #[] #[.pointer (some ⟨c, 0, none⟩)], .func (.func t) #[] #[.pointer (some ⟨c, 0, none⟩)]]) ∧ w'.cell? ⟨c, 0, none⟩ = some (.pointer (some x)) ∧ w.heap.size ≤ c ∧ c < w'.heap.size ∧ Bel w w'

set_option maxRecDepth 100000 in
set_option maxHeartbeats 1000000 in
theorem numI (s : ByteArray) (a b : Int) (x : Addr) (w : World) : Calls Tryz.prog 49 #[.string s, .int .u64 a, .int .u64 b, .pointer (some x)] w (Fmade s a b 66 67 x w) := by
  have w2 := Blk.new (w.alloc (.cells #[.pointer (some x)] 93)) #[.string ⟨#[]⟩, .int .u64 0, .int .u64 0, .nilFunc, .nilFunc] 55
  rw [World.size_alloc] at w2
  have W2 := Lib.hid w2
  clear w2
  have W1 := Lib.hid ((Blk.new w #[.pointer (some x)] 93).alloc (.cells #[.string ⟨#[]⟩, .int .u64 0, .int .u64 0, .nilFunc, .nilFunc] 55))
  go_enter Tryz.func49, Tryz.ntmps49
  go_wp2_with (refine wpList_store_mid rfl 55 (.tmp 8) (.tmp 14) rfl (w.heap.size + 1) 0 (fldC s a b 66 67 w.heap.size).toArray rfl rfl (bthere W2.out 0 5 (Nat.le_refl _)) info_fld (all_oneCell_toArray (fldC_cells _ _ _ _ _ _)) ?_)
  have h3 := bwhole (vs := fldC s a b 66 67 w.heap.size) W2.out rfl
  have h4 := kep_setCells (w.heap.size + 1) (fldC s a b 66 67 w.heap.size) 0 ((w.alloc (.cells #[.pointer (some x)] 93)).alloc (.cells #[.string ⟨#[]⟩, .int .u64 0, .int .u64 0, .nilFunc, .nilFunc] 55))
  refine bodyPost_ret (res_c Tryz.results49 _ _ ⟨w.heap.size + 1, 0, none⟩ (.agg (fldC s a b 66 67 w.heap.size).toArray) rfl (load_b h3 Tryz.underlying55 rfl info_fld)) rfl ⟨w.heap.size, rfl, ?_, Nat.le_refl _, ?_, ?_⟩
  · exact (W1.out.kep h4 (by omega)).cell 0 rfl
  · exact Nat.lt_of_lt_of_le (by simp; omega) h4.size
  · exact bel_setCells (((Bel.refl w).alloc _).alloc _) (Nat.le_succ _) 0 _

set_option maxRecDepth 100000 in
set_option maxHeartbeats 1000000 in
/-- What the first closure answers: the number that lies there, as a word. -/
theorem getI (c b o : Nat) (v : Int) (w : World) (hc : w.cell? ⟨c, 0, none⟩ = some (.pointer (some ⟨b, o, none⟩))) (hv : w.cell? ⟨b, o, none⟩ = some (.int .i64 v)) :
    Calls Tryz.prog 66 #[.pointer (some ⟨c, 0, none⟩)] w fun e w' => e = .returned (.int .u64 (IntKind.u64.wrap v)) ∧ w = w' := by
  go_enter Tryz.func66, Tryz.ntmps66
  go_wp2
  go_ret
  exact ⟨rfl, rfl⟩

set_option maxRecDepth 100000 in
set_option maxHeartbeats 1000000 in
/-- What the second closure does: the number is laid there. -/
theorem setI (c b o : Nat) (v n : Int) (w : World) (hc : w.cell? ⟨c, 0, none⟩ = some (.pointer (some ⟨b, o, none⟩))) (hv : w.cell? ⟨b, o, none⟩ = some (.int .i64 v)) (hf : w.frozen? ⟨b, o, none⟩ = false) :
    Calls Tryz.prog 67 #[.int .u64 n, .pointer (some ⟨c, 0, none⟩)] w fun e w' => e = .returned (.tuple #[]) ∧ w' = w.setCell ⟨b, o, none⟩ (.int .i64 (wrap64 n)) := by
  go_enter Tryz.func67, Tryz.ntmps67
  go_wp2
  go_end0
  exact ⟨rfl, rfl⟩

set_option maxRecDepth 100000 in
set_option maxHeartbeats 1000000 in
theorem numU (s : ByteArray) (a b : Int) (x : Addr) (w : World) : Calls Tryz.prog 50 #[.string s, .int .u64 a, .int .u64 b, .pointer (some x)] w (Fmade s a b 68 69 x w) := by
  have w2 := Blk.new (w.alloc (.cells #[.pointer (some x)] 95)) #[.string ⟨#[]⟩, .int .u64 0, .int .u64 0, .nilFunc, .nilFunc] 55
  rw [World.size_alloc] at w2
  have W2 := Lib.hid w2
  clear w2
  have W1 := Lib.hid ((Blk.new w #[.pointer (some x)] 95).alloc (.cells #[.string ⟨#[]⟩, .int .u64 0, .int .u64 0, .nilFunc, .nilFunc] 55))
  go_enter Tryz.func50, Tryz.ntmps50
  go_wp2_with (refine wpList_store_mid rfl 55 (.tmp 8) (.tmp 14) rfl (w.heap.size + 1) 0 (fldC s a b 68 69 w.heap.size).toArray rfl rfl (bthere W2.out 0 5 (Nat.le_refl _)) info_fld (all_oneCell_toArray (fldC_cells _ _ _ _ _ _)) ?_)
  have h3 := bwhole (vs := fldC s a b 68 69 w.heap.size) W2.out rfl
  have h4 := kep_setCells (w.heap.size + 1) (fldC s a b 68 69 w.heap.size) 0 ((w.alloc (.cells #[.pointer (some x)] 95)).alloc (.cells #[.string ⟨#[]⟩, .int .u64 0, .int .u64 0, .nilFunc, .nilFunc] 55))
  refine bodyPost_ret (res_c Tryz.results50 _ _ ⟨w.heap.size + 1, 0, none⟩ (.agg (fldC s a b 68 69 w.heap.size).toArray) rfl (load_b h3 Tryz.underlying55 rfl info_fld)) rfl ⟨w.heap.size, rfl, ?_, Nat.le_refl _, ?_, ?_⟩
  · exact (W1.out.kep h4 (by omega)).cell 0 rfl
  · exact Nat.lt_of_lt_of_le (by simp; omega) h4.size
  · exact bel_setCells (((Bel.refl w).alloc _).alloc _) (Nat.le_succ _) 0 _

set_option maxRecDepth 100000 in
set_option maxHeartbeats 1000000 in
/-- What the first closure answers: the number that lies there, as a word. -/
theorem getU (c b o : Nat) (v : Int) (w : World) (hc : w.cell? ⟨c, 0, none⟩ = some (.pointer (some ⟨b, o, none⟩))) (hv : w.cell? ⟨b, o, none⟩ = some (.int .u64 v)) :
    Calls Tryz.prog 68 #[.pointer (some ⟨c, 0, none⟩)] w fun e w' => e = .returned (.int .u64 v) ∧ w = w' := by
  go_enter Tryz.func68, Tryz.ntmps68
  go_wp2
  go_ret
  exact ⟨rfl, rfl⟩

set_option maxRecDepth 100000 in
set_option maxHeartbeats 1000000 in
/-- What the second closure does: the number is laid there. -/
theorem setU (c b o : Nat) (v n : Int) (w : World) (hc : w.cell? ⟨c, 0, none⟩ = some (.pointer (some ⟨b, o, none⟩))) (hv : w.cell? ⟨b, o, none⟩ = some (.int .u64 v)) (hf : w.frozen? ⟨b, o, none⟩ = false) :
    Calls Tryz.prog 69 #[.int .u64 n, .pointer (some ⟨c, 0, none⟩)] w fun e w' => e = .returned (.tuple #[]) ∧ w' = w.setCell ⟨b, o, none⟩ (.int .u64 n) := by
  go_enter Tryz.func69, Tryz.ntmps69
  go_wp2
  go_end0
  exact ⟨rfl, rfl⟩

end Pm
end Go.Proofs.YtpohcdfmkcfonaaGreatDoor
end

section
/-
  What params.fields answers in this program: the list of all eleven fields of a record that lies in memory. No condition.
-/
namespace Go.Proofs.YtpohcdfmkcfonaaGreatDoor
open Go.RowKit Go.Shelf
set_option linter.unusedVariables false
namespace Pm
open Kk

def nms : List ByteArray := [⟨#[117, 110, 98, 111, 110, 100, 105, 110, 103]⟩, ⟨#[109, 97, 120, 97, 103, 101]⟩, ⟨#[101, 112, 111, 99, 104, 108, 101, 110]⟩, ⟨#[119, 105, 110, 100, 111, 119]⟩, ⟨#[101, 110, 116, 114, 105, 101, 115]⟩, ⟨#[109, 97, 120, 97, 99, 116, 105, 118, 101]⟩, ⟨#[106, 97, 105, 108, 116, 105, 109, 101]⟩, ⟨#[98, 97, 115, 101]⟩, ⟨#[109, 117, 108, 116]⟩, ⟨#[99, 111, 114, 114, 119, 105, 110, 100, 111, 119]⟩, ⟨#[114, 101, 119, 97, 114, 100]⟩]
def los : List Int := [1, 0, 1, 1, 1, 1, 1, 0, 0, 1, 0]
def his : List Int := [1048576, 1048576, 1000, 256, 16, 32, 1048576, 1000000000, 1000, 1048576, 1000000000]
def gfs : List Nat := [66, 66, 66, 66, 66, 66, 66, 68, 68, 66, 68]
def sfs : List Nat := [67, 67, 67, 67, 67, 67, 67, 69, 69, 67, 69]
def nm (i : Nat) : ByteArray := nms.getD i ⟨#[]⟩
def lo (i : Nat) : Int := los.getD i 0
def hi (i : Nat) : Int := his.getD i 0
def gf (i : Nat) : Nat := gfs.getD i 0
def sf (i : Nat) : Nat := sfs.getD i 0
theorem rng5 {w : World} {b : Nat} {C : Array Value} {t : TypeId} (h : Blk w b C t) (o : Nat) (v0 v1 v2 v3 v4 : Value) (h0 : C[o]? = some v0) (h1 : C[o + 1]? = some v1) (h2 : C[o + 2]? = some v2) (h3 : C[o + 3]? = some v3) (h4 : C[o + 4]? = some v4) : w.rangeAt b o [v0, v1, v2, v3, v4] := fun j u hu => by
  match j, hu with
  | 0, hu => obtain rfl : v0 = u := by simpa using hu
             exact h.cell _ h0
  | 1, hu => obtain rfl : v1 = u := by simpa using hu
             exact h.cell _ h1
  | 2, hu => obtain rfl : v2 = u := by simpa using hu
             exact h.cell _ h2
  | 3, hu => obtain rfl : v3 = u := by simpa using hu
             exact h.cell _ h3
  | 4, hu => obtain rfl : v4 = u := by simpa using hu
             exact h.cell _ h4
  | n + 5, hu => simp at hu
/-- The list of the fields of the record that lies in the block p: in the block b, and nothing of it below n. -/
structure Fds (n : Nat) (w : World) (b p : Nat) : Prop where
  lt : b < w.heap.size
  new : n ≤ b
  all : ∀ i, i < 11 → ∃ c, w.rangeAt b (i * 5) (fldC (nm i) (lo i) (hi i) (gf i) (sf i) c) ∧ w.cell? ⟨c, 0, none⟩ = some (.pointer (some ⟨p, i, none⟩)) ∧ n ≤ c
theorem Fds.bel {n : Nat} {w w' : World} {b p : Nat} (h : Fds n w b p) (hb : Bel w w') : Fds n w' b p :=
  ⟨Nat.lt_of_lt_of_le h.lt (Below.size hb), h.new, fun i hi => by
    obtain ⟨c, h1, h2, h3⟩ := h.all i hi
    exact ⟨c, rng_bel h1 hb, cell_bel h2 hb, h3⟩⟩
theorem Fds.kep {S : Nat → Prop} {n : Nat} {w w' : World} {b p : Nat} (h : Fds n w b p) (hb : Kep S w w') (hs : ∀ k, S k → k < n) : Fds n w' b p :=
  ⟨Nat.lt_of_lt_of_le h.lt hb.size, h.new, fun i hi => by
    obtain ⟨c, h1, h2, h3⟩ := h.all i hi
    exact ⟨c, rng_kep h1 hb (fun k => by have := hs _ k; have := h.new; omega), cell_kep h2 hb (fun k => by have := hs _ k; omega), h3⟩⟩
def FdsE (p : Nat) (w : World) (e : Ending) (w' : World) : Prop := ∃ b, e = .returned (.slice (some ⟨b, 0, none⟩) 11 11) ∧ Fds w.heap.size w' b p ∧ Bel w w'
set_option maxRecDepth 100000 in
set_option maxHeartbeats 4000000 in
theorem fieldsR (p : Nat) (w : World) : Calls Tryz.prog 19 #[.pointer (some ⟨p, 0, none⟩)] w (FdsE p w) := by
  go_enter Tryz.func19, Tryz.ntmps19
  go_upto_region 1 with fail
  refine wp_region_held_drew (S := fun W => Bel w W) (by kernel_rfl) ((Bel.refl w).drew) (fun hS0 => ?_)
  refine wpAnyH_take (i := 0) (oi := { dst := some 3, op := .move (.tmp 0), type := 51, pos := "fields.go:18", after := #[], guard := none }) (v := .pointer (some ⟨p, 0, none⟩)) rfl (by kernel_rfl) (by kernel_rfl) (by kernel_rfl) (fun _ _ _ h => h) (Or.inl ⟨by rfl, by intro w hSw; clear hSw; go_simp⟩) hS0 ?_
  try simp only [Act.put, List.setIfInBounds_toArray, List.set_cons_zero, List.set_cons_succ]
  refine wpAnyH_take (i := 1) (oi := { dst := some 4, op := Op.nilCheck (.tmp 3), type := 0, pos := "fields.go:18", after := #[{ on := 0, ground := .data }], guard := none }) (v := .pointer (some ⟨p, 0, none⟩)) rfl (by kernel_rfl) (by kernel_rfl) (by kernel_rfl) (fun _ _ _ h => h) (Or.inl ⟨by rfl, by intro w hSw; clear hSw; go_simp⟩) hS0 ?_
  try simp only [Act.put, List.setIfInBounds_toArray, List.set_cons_zero, List.set_cons_succ]
  refine wpAnyH_take (i := 2) (oi := { dst := some 5, op := .fieldAddr 24 (.tmp 4) 0, type := 0, pos := "fields.go:18", after := #[{ on := 1, ground := .data }], guard := none }) (v := .pointer (some ⟨p, 0, none⟩)) rfl (by kernel_rfl) (by kernel_rfl) (by kernel_rfl) (fun _ _ _ h => h) (Or.inl ⟨by rfl, by intro w hSw; clear hSw; go_simp⟩) hS0 ?_
  try simp only [Act.put, List.setIfInBounds_toArray, List.set_cons_zero, List.set_cons_succ]
  refine wpAnyH_take (i := 4) (oi := { dst := some 7, op := .move (.tmp 0), type := 51, pos := "fields.go:18", after := #[], guard := none }) (v := .pointer (some ⟨p, 0, none⟩)) rfl (by kernel_rfl) (by kernel_rfl) (by kernel_rfl) (fun _ _ _ h => h) (Or.inl ⟨by rfl, by intro w hSw; clear hSw; go_simp⟩) hS0 ?_
  try simp only [Act.put, List.setIfInBounds_toArray, List.set_cons_zero, List.set_cons_succ]
  refine wpAnyH_take (i := 5) (oi := { dst := some 8, op := Op.nilCheck (.tmp 7), type := 0, pos := "fields.go:18", after := #[{ on := 4, ground := .data }], guard := none }) (v := .pointer (some ⟨p, 0, none⟩)) rfl (by kernel_rfl) (by kernel_rfl) (by kernel_rfl) (fun _ _ _ h => h) (Or.inl ⟨by rfl, by intro w hSw; clear hSw; go_simp⟩) hS0 ?_
  try simp only [Act.put, List.setIfInBounds_toArray, List.set_cons_zero, List.set_cons_succ]
  refine wpAnyH_take (i := 6) (oi := { dst := some 9, op := .fieldAddr 24 (.tmp 8) 1, type := 0, pos := "fields.go:18", after := #[{ on := 5, ground := .data }], guard := none }) (v := .pointer (some ⟨p, 1, none⟩)) rfl (by kernel_rfl) (by kernel_rfl) (by kernel_rfl) (fun _ _ _ h => h) (Or.inl ⟨by rfl, by intro w hSw; clear hSw; go_simp⟩) hS0 ?_
  try simp only [Act.put, List.setIfInBounds_toArray, List.set_cons_zero, List.set_cons_succ]
  refine wpAnyH_take (i := 8) (oi := { dst := some 11, op := .move (.tmp 0), type := 51, pos := "fields.go:18", after := #[], guard := none }) (v := .pointer (some ⟨p, 0, none⟩)) rfl (by kernel_rfl) (by kernel_rfl) (by kernel_rfl) (fun _ _ _ h => h) (Or.inl ⟨by rfl, by intro w hSw; clear hSw; go_simp⟩) hS0 ?_
  try simp only [Act.put, List.setIfInBounds_toArray, List.set_cons_zero, List.set_cons_succ]
  refine wpAnyH_take (i := 9) (oi := { dst := some 12, op := Op.nilCheck (.tmp 11), type := 0, pos := "fields.go:18", after := #[{ on := 8, ground := .data }], guard := none }) (v := .pointer (some ⟨p, 0, none⟩)) rfl (by kernel_rfl) (by kernel_rfl) (by kernel_rfl) (fun _ _ _ h => h) (Or.inl ⟨by rfl, by intro w hSw; clear hSw; go_simp⟩) hS0 ?_
  try simp only [Act.put, List.setIfInBounds_toArray, List.set_cons_zero, List.set_cons_succ]
  refine wpAnyH_take (i := 10) (oi := { dst := some 13, op := .fieldAddr 24 (.tmp 12) 2, type := 0, pos := "fields.go:18", after := #[{ on := 9, ground := .data }], guard := none }) (v := .pointer (some ⟨p, 2, none⟩)) rfl (by kernel_rfl) (by kernel_rfl) (by kernel_rfl) (fun _ _ _ h => h) (Or.inl ⟨by rfl, by intro w hSw; clear hSw; go_simp⟩) hS0 ?_
  try simp only [Act.put, List.setIfInBounds_toArray, List.set_cons_zero, List.set_cons_succ]
  refine wpAnyH_take (i := 12) (oi := { dst := some 15, op := .move (.tmp 0), type := 51, pos := "fields.go:18", after := #[], guard := none }) (v := .pointer (some ⟨p, 0, none⟩)) rfl (by kernel_rfl) (by kernel_rfl) (by kernel_rfl) (fun _ _ _ h => h) (Or.inl ⟨by rfl, by intro w hSw; clear hSw; go_simp⟩) hS0 ?_
  try simp only [Act.put, List.setIfInBounds_toArray, List.set_cons_zero, List.set_cons_succ]
  refine wpAnyH_take (i := 13) (oi := { dst := some 16, op := Op.nilCheck (.tmp 15), type := 0, pos := "fields.go:18", after := #[{ on := 12, ground := .data }], guard := none }) (v := .pointer (some ⟨p, 0, none⟩)) rfl (by kernel_rfl) (by kernel_rfl) (by kernel_rfl) (fun _ _ _ h => h) (Or.inl ⟨by rfl, by intro w hSw; clear hSw; go_simp⟩) hS0 ?_
  try simp only [Act.put, List.setIfInBounds_toArray, List.set_cons_zero, List.set_cons_succ]
  refine wpAnyH_take (i := 14) (oi := { dst := some 17, op := .fieldAddr 24 (.tmp 16) 3, type := 0, pos := "fields.go:18", after := #[{ on := 13, ground := .data }], guard := none }) (v := .pointer (some ⟨p, 3, none⟩)) rfl (by kernel_rfl) (by kernel_rfl) (by kernel_rfl) (fun _ _ _ h => h) (Or.inl ⟨by rfl, by intro w hSw; clear hSw; go_simp⟩) hS0 ?_
  try simp only [Act.put, List.setIfInBounds_toArray, List.set_cons_zero, List.set_cons_succ]
  refine wpAnyH_take (i := 16) (oi := { dst := some 19, op := .move (.tmp 0), type := 51, pos := "fields.go:18", after := #[], guard := none }) (v := .pointer (some ⟨p, 0, none⟩)) rfl (by kernel_rfl) (by kernel_rfl) (by kernel_rfl) (fun _ _ _ h => h) (Or.inl ⟨by rfl, by intro w hSw; clear hSw; go_simp⟩) hS0 ?_
  try simp only [Act.put, List.setIfInBounds_toArray, List.set_cons_zero, List.set_cons_succ]
  refine wpAnyH_take (i := 17) (oi := { dst := some 20, op := Op.nilCheck (.tmp 19), type := 0, pos := "fields.go:18", after := #[{ on := 16, ground := .data }], guard := none }) (v := .pointer (some ⟨p, 0, none⟩)) rfl (by kernel_rfl) (by kernel_rfl) (by kernel_rfl) (fun _ _ _ h => h) (Or.inl ⟨by rfl, by intro w hSw; clear hSw; go_simp⟩) hS0 ?_
  try simp only [Act.put, List.setIfInBounds_toArray, List.set_cons_zero, List.set_cons_succ]
  refine wpAnyH_take (i := 18) (oi := { dst := some 21, op := .fieldAddr 24 (.tmp 20) 4, type := 0, pos := "fields.go:18", after := #[{ on := 17, ground := .data }], guard := none }) (v := .pointer (some ⟨p, 4, none⟩)) rfl (by kernel_rfl) (by kernel_rfl) (by kernel_rfl) (fun _ _ _ h => h) (Or.inl ⟨by rfl, by intro w hSw; clear hSw; go_simp⟩) hS0 ?_
  try simp only [Act.put, List.setIfInBounds_toArray, List.set_cons_zero, List.set_cons_succ]
  refine wpAnyH_take (i := 20) (oi := { dst := some 23, op := .move (.tmp 0), type := 51, pos := "fields.go:18", after := #[], guard := none }) (v := .pointer (some ⟨p, 0, none⟩)) rfl (by kernel_rfl) (by kernel_rfl) (by kernel_rfl) (fun _ _ _ h => h) (Or.inl ⟨by rfl, by intro w hSw; clear hSw; go_simp⟩) hS0 ?_
  try simp only [Act.put, List.setIfInBounds_toArray, List.set_cons_zero, List.set_cons_succ]
  refine wpAnyH_take (i := 21) (oi := { dst := some 24, op := Op.nilCheck (.tmp 23), type := 0, pos := "fields.go:18", after := #[{ on := 20, ground := .data }], guard := none }) (v := .pointer (some ⟨p, 0, none⟩)) rfl (by kernel_rfl) (by kernel_rfl) (by kernel_rfl) (fun _ _ _ h => h) (Or.inl ⟨by rfl, by intro w hSw; clear hSw; go_simp⟩) hS0 ?_
  try simp only [Act.put, List.setIfInBounds_toArray, List.set_cons_zero, List.set_cons_succ]
  refine wpAnyH_take (i := 22) (oi := { dst := some 25, op := .fieldAddr 24 (.tmp 24) 5, type := 0, pos := "fields.go:18", after := #[{ on := 21, ground := .data }], guard := none }) (v := .pointer (some ⟨p, 5, none⟩)) rfl (by kernel_rfl) (by kernel_rfl) (by kernel_rfl) (fun _ _ _ h => h) (Or.inl ⟨by rfl, by intro w hSw; clear hSw; go_simp⟩) hS0 ?_
  try simp only [Act.put, List.setIfInBounds_toArray, List.set_cons_zero, List.set_cons_succ]
  refine wpAnyH_take (i := 24) (oi := { dst := some 27, op := .move (.tmp 0), type := 51, pos := "fields.go:18", after := #[], guard := none }) (v := .pointer (some ⟨p, 0, none⟩)) rfl (by kernel_rfl) (by kernel_rfl) (by kernel_rfl) (fun _ _ _ h => h) (Or.inl ⟨by rfl, by intro w hSw; clear hSw; go_simp⟩) hS0 ?_
  try simp only [Act.put, List.setIfInBounds_toArray, List.set_cons_zero, List.set_cons_succ]
  refine wpAnyH_take (i := 25) (oi := { dst := some 28, op := Op.nilCheck (.tmp 27), type := 0, pos := "fields.go:18", after := #[{ on := 24, ground := .data }], guard := none }) (v := .pointer (some ⟨p, 0, none⟩)) rfl (by kernel_rfl) (by kernel_rfl) (by kernel_rfl) (fun _ _ _ h => h) (Or.inl ⟨by rfl, by intro w hSw; clear hSw; go_simp⟩) hS0 ?_
  try simp only [Act.put, List.setIfInBounds_toArray, List.set_cons_zero, List.set_cons_succ]
  refine wpAnyH_take (i := 26) (oi := { dst := some 29, op := .fieldAddr 24 (.tmp 28) 6, type := 0, pos := "fields.go:18", after := #[{ on := 25, ground := .data }], guard := none }) (v := .pointer (some ⟨p, 6, none⟩)) rfl (by kernel_rfl) (by kernel_rfl) (by kernel_rfl) (fun _ _ _ h => h) (Or.inl ⟨by rfl, by intro w hSw; clear hSw; go_simp⟩) hS0 ?_
  try simp only [Act.put, List.setIfInBounds_toArray, List.set_cons_zero, List.set_cons_succ]
  refine wpAnyH_take (i := 28) (oi := { dst := some 31, op := .move (.tmp 0), type := 51, pos := "fields.go:18", after := #[], guard := none }) (v := .pointer (some ⟨p, 0, none⟩)) rfl (by kernel_rfl) (by kernel_rfl) (by kernel_rfl) (fun _ _ _ h => h) (Or.inl ⟨by rfl, by intro w hSw; clear hSw; go_simp⟩) hS0 ?_
  try simp only [Act.put, List.setIfInBounds_toArray, List.set_cons_zero, List.set_cons_succ]
  refine wpAnyH_take (i := 29) (oi := { dst := some 32, op := Op.nilCheck (.tmp 31), type := 0, pos := "fields.go:18", after := #[{ on := 28, ground := .data }], guard := none }) (v := .pointer (some ⟨p, 0, none⟩)) rfl (by kernel_rfl) (by kernel_rfl) (by kernel_rfl) (fun _ _ _ h => h) (Or.inl ⟨by rfl, by intro w hSw; clear hSw; go_simp⟩) hS0 ?_
  try simp only [Act.put, List.setIfInBounds_toArray, List.set_cons_zero, List.set_cons_succ]
  refine wpAnyH_take (i := 30) (oi := { dst := some 33, op := .fieldAddr 24 (.tmp 32) 7, type := 0, pos := "fields.go:18", after := #[{ on := 29, ground := .data }], guard := none }) (v := .pointer (some ⟨p, 7, none⟩)) rfl (by kernel_rfl) (by kernel_rfl) (by kernel_rfl) (fun _ _ _ h => h) (Or.inl ⟨by rfl, by intro w hSw; clear hSw; go_simp⟩) hS0 ?_
  try simp only [Act.put, List.setIfInBounds_toArray, List.set_cons_zero, List.set_cons_succ]
  refine wpAnyH_take (i := 32) (oi := { dst := some 35, op := .move (.tmp 0), type := 51, pos := "fields.go:18", after := #[], guard := none }) (v := .pointer (some ⟨p, 0, none⟩)) rfl (by kernel_rfl) (by kernel_rfl) (by kernel_rfl) (fun _ _ _ h => h) (Or.inl ⟨by rfl, by intro w hSw; clear hSw; go_simp⟩) hS0 ?_
  try simp only [Act.put, List.setIfInBounds_toArray, List.set_cons_zero, List.set_cons_succ]
  refine wpAnyH_take (i := 33) (oi := { dst := some 36, op := Op.nilCheck (.tmp 35), type := 0, pos := "fields.go:18", after := #[{ on := 32, ground := .data }], guard := none }) (v := .pointer (some ⟨p, 0, none⟩)) rfl (by kernel_rfl) (by kernel_rfl) (by kernel_rfl) (fun _ _ _ h => h) (Or.inl ⟨by rfl, by intro w hSw; clear hSw; go_simp⟩) hS0 ?_
  try simp only [Act.put, List.setIfInBounds_toArray, List.set_cons_zero, List.set_cons_succ]
  refine wpAnyH_take (i := 34) (oi := { dst := some 37, op := .fieldAddr 24 (.tmp 36) 8, type := 0, pos := "fields.go:18", after := #[{ on := 33, ground := .data }], guard := none }) (v := .pointer (some ⟨p, 8, none⟩)) rfl (by kernel_rfl) (by kernel_rfl) (by kernel_rfl) (fun _ _ _ h => h) (Or.inl ⟨by rfl, by intro w hSw; clear hSw; go_simp⟩) hS0 ?_
  try simp only [Act.put, List.setIfInBounds_toArray, List.set_cons_zero, List.set_cons_succ]
  refine wpAnyH_take (i := 36) (oi := { dst := some 39, op := .move (.tmp 0), type := 51, pos := "fields.go:18", after := #[], guard := none }) (v := .pointer (some ⟨p, 0, none⟩)) rfl (by kernel_rfl) (by kernel_rfl) (by kernel_rfl) (fun _ _ _ h => h) (Or.inl ⟨by rfl, by intro w hSw; clear hSw; go_simp⟩) hS0 ?_
  try simp only [Act.put, List.setIfInBounds_toArray, List.set_cons_zero, List.set_cons_succ]
  refine wpAnyH_take (i := 37) (oi := { dst := some 40, op := Op.nilCheck (.tmp 39), type := 0, pos := "fields.go:18", after := #[{ on := 36, ground := .data }], guard := none }) (v := .pointer (some ⟨p, 0, none⟩)) rfl (by kernel_rfl) (by kernel_rfl) (by kernel_rfl) (fun _ _ _ h => h) (Or.inl ⟨by rfl, by intro w hSw; clear hSw; go_simp⟩) hS0 ?_
  try simp only [Act.put, List.setIfInBounds_toArray, List.set_cons_zero, List.set_cons_succ]
  refine wpAnyH_take (i := 38) (oi := { dst := some 41, op := .fieldAddr 24 (.tmp 40) 9, type := 0, pos := "fields.go:18", after := #[{ on := 37, ground := .data }], guard := none }) (v := .pointer (some ⟨p, 9, none⟩)) rfl (by kernel_rfl) (by kernel_rfl) (by kernel_rfl) (fun _ _ _ h => h) (Or.inl ⟨by rfl, by intro w hSw; clear hSw; go_simp⟩) hS0 ?_
  try simp only [Act.put, List.setIfInBounds_toArray, List.set_cons_zero, List.set_cons_succ]
  refine wpAnyH_take (i := 40) (oi := { dst := some 43, op := .move (.tmp 0), type := 51, pos := "fields.go:18", after := #[], guard := none }) (v := .pointer (some ⟨p, 0, none⟩)) rfl (by kernel_rfl) (by kernel_rfl) (by kernel_rfl) (fun _ _ _ h => h) (Or.inl ⟨by rfl, by intro w hSw; clear hSw; go_simp⟩) hS0 ?_
  try simp only [Act.put, List.setIfInBounds_toArray, List.set_cons_zero, List.set_cons_succ]
  refine wpAnyH_take (i := 41) (oi := { dst := some 44, op := Op.nilCheck (.tmp 43), type := 0, pos := "fields.go:18", after := #[{ on := 40, ground := .data }], guard := none }) (v := .pointer (some ⟨p, 0, none⟩)) rfl (by kernel_rfl) (by kernel_rfl) (by kernel_rfl) (fun _ _ _ h => h) (Or.inl ⟨by rfl, by intro w hSw; clear hSw; go_simp⟩) hS0 ?_
  try simp only [Act.put, List.setIfInBounds_toArray, List.set_cons_zero, List.set_cons_succ]
  refine wpAnyH_take (i := 42) (oi := { dst := some 45, op := .fieldAddr 24 (.tmp 44) 10, type := 0, pos := "fields.go:18", after := #[{ on := 41, ground := .data }], guard := none }) (v := .pointer (some ⟨p, 10, none⟩)) rfl (by kernel_rfl) (by kernel_rfl) (by kernel_rfl) (fun _ _ _ h => h) (Or.inl ⟨by rfl, by intro w hSw; clear hSw; go_simp⟩) hS0 ?_
  try simp only [Act.put, List.setIfInBounds_toArray, List.set_cons_zero, List.set_cons_succ]
  refine wpAnyH_ready (rs := [3]) (by kernel_rfl) (by simp) ?_
  refine AllReadyH.cons (o := { dst := some 6, op := .call { callee := .value (.func 49), args := #[.const (Value.string { data := #[117, 110, 98, 111, 110, 100, 105, 110, 103] }), .const (Value.int IntKind.u64 1), .const (Value.int IntKind.u64 1048576), .tmp 5], argTypes := #[9, 22, 22, 93] }, type := 55, pos := "fields.go:19", after := #[{ on := 2, ground := .data }], guard := none }) rfl (fun K hK => ?_) AllReadyH.nil
  go_simp
  refine (numI _ _ _ _ _).mono ?_
  rintro e v1 ⟨c0, rfl, hc0, hm0, hl0, hb0⟩
  go_wp2_with fail
  refine hK.out _ _ (hS0.trans hb0) (fun hS1 => ?_)
  clear hK K
  try simp only [Act.put, List.setIfInBounds_toArray, List.set_cons_zero, List.set_cons_succ]
  refine wpAnyH_ready (rs := [7]) (by kernel_rfl) (by simp) ?_
  refine AllReadyH.cons (o := { dst := some 10, op := .call { callee := .value (.func 49), args := #[.const (Value.string { data := #[109, 97, 120, 97, 103, 101] }), .const (Value.int IntKind.u64 0), .const (Value.int IntKind.u64 1048576), .tmp 9], argTypes := #[9, 22, 22, 93] }, type := 55, pos := "fields.go:20", after := #[{ on := 6, ground := .data }, { on := 3, ground := .chain }], guard := none }) rfl (fun K hK => ?_) AllReadyH.nil
  go_simp
  refine (numI _ _ _ _ _).mono ?_
  rintro e v2 ⟨c1, rfl, hc1, hm1, hl1, hb1⟩
  go_wp2_with fail
  refine hK.out _ _ (hS1.trans hb1) (fun hS2 => ?_)
  clear hK K
  try simp only [Act.put, List.setIfInBounds_toArray, List.set_cons_zero, List.set_cons_succ]
  refine wpAnyH_ready (rs := [11]) (by kernel_rfl) (by simp) ?_
  refine AllReadyH.cons (o := { dst := some 14, op := .call { callee := .value (.func 49), args := #[.const (Value.string { data := #[101, 112, 111, 99, 104, 108, 101, 110] }), .const (Value.int IntKind.u64 1), .const (Value.int IntKind.u64 1000), .tmp 13], argTypes := #[9, 22, 22, 93] }, type := 55, pos := "fields.go:21", after := #[{ on := 10, ground := .data }, { on := 7, ground := .chain }], guard := none }) rfl (fun K hK => ?_) AllReadyH.nil
  go_simp
  refine (numI _ _ _ _ _).mono ?_
  rintro e v3 ⟨c2, rfl, hc2, hm2, hl2, hb2⟩
  go_wp2_with fail
  refine hK.out _ _ (hS2.trans hb2) (fun hS3 => ?_)
  clear hK K
  try simp only [Act.put, List.setIfInBounds_toArray, List.set_cons_zero, List.set_cons_succ]
  refine wpAnyH_ready (rs := [15]) (by kernel_rfl) (by simp) ?_
  refine AllReadyH.cons (o := { dst := some 18, op := .call { callee := .value (.func 49), args := #[.const (Value.string { data := #[119, 105, 110, 100, 111, 119] }), .const (Value.int IntKind.u64 1), .const (Value.int IntKind.u64 256), .tmp 17], argTypes := #[9, 22, 22, 93] }, type := 55, pos := "fields.go:22", after := #[{ on := 14, ground := .data }, { on := 11, ground := .chain }], guard := none }) rfl (fun K hK => ?_) AllReadyH.nil
  go_simp
  refine (numI _ _ _ _ _).mono ?_
  rintro e v4 ⟨c3, rfl, hc3, hm3, hl3, hb3⟩
  go_wp2_with fail
  refine hK.out _ _ (hS3.trans hb3) (fun hS4 => ?_)
  clear hK K
  try simp only [Act.put, List.setIfInBounds_toArray, List.set_cons_zero, List.set_cons_succ]
  refine wpAnyH_ready (rs := [19]) (by kernel_rfl) (by simp) ?_
  refine AllReadyH.cons (o := { dst := some 22, op := .call { callee := .value (.func 49), args := #[.const (Value.string { data := #[101, 110, 116, 114, 105, 101, 115] }), .const (Value.int IntKind.u64 1), .const (Value.int IntKind.u64 16), .tmp 21], argTypes := #[9, 22, 22, 93] }, type := 55, pos := "fields.go:23", after := #[{ on := 18, ground := .data }, { on := 15, ground := .chain }], guard := none }) rfl (fun K hK => ?_) AllReadyH.nil
  go_simp
  refine (numI _ _ _ _ _).mono ?_
  rintro e v5 ⟨c4, rfl, hc4, hm4, hl4, hb4⟩
  go_wp2_with fail
  refine hK.out _ _ (hS4.trans hb4) (fun hS5 => ?_)
  clear hK K
  try simp only [Act.put, List.setIfInBounds_toArray, List.set_cons_zero, List.set_cons_succ]
  refine wpAnyH_ready (rs := [23]) (by kernel_rfl) (by simp) ?_
  refine AllReadyH.cons (o := { dst := some 26, op := .call { callee := .value (.func 49), args := #[.const (Value.string { data := #[109, 97, 120, 97, 99, 116, 105, 118, 101] }), .const (Value.int IntKind.u64 1), .const (Value.int IntKind.u64 32), .tmp 25], argTypes := #[9, 22, 22, 93] }, type := 55, pos := "fields.go:24", after := #[{ on := 22, ground := .data }, { on := 19, ground := .chain }], guard := none }) rfl (fun K hK => ?_) AllReadyH.nil
  go_simp
  refine (numI _ _ _ _ _).mono ?_
  rintro e v6 ⟨c5, rfl, hc5, hm5, hl5, hb5⟩
  go_wp2_with fail
  refine hK.out _ _ (hS5.trans hb5) (fun hS6 => ?_)
  clear hK K
  try simp only [Act.put, List.setIfInBounds_toArray, List.set_cons_zero, List.set_cons_succ]
  refine wpAnyH_ready (rs := [27]) (by kernel_rfl) (by simp) ?_
  refine AllReadyH.cons (o := { dst := some 30, op := .call { callee := .value (.func 49), args := #[.const (Value.string { data := #[106, 97, 105, 108, 116, 105, 109, 101] }), .const (Value.int IntKind.u64 1), .const (Value.int IntKind.u64 1048576), .tmp 29], argTypes := #[9, 22, 22, 93] }, type := 55, pos := "fields.go:25", after := #[{ on := 26, ground := .data }, { on := 23, ground := .chain }], guard := none }) rfl (fun K hK => ?_) AllReadyH.nil
  go_simp
  refine (numI _ _ _ _ _).mono ?_
  rintro e v7 ⟨c6, rfl, hc6, hm6, hl6, hb6⟩
  go_wp2_with fail
  refine hK.out _ _ (hS6.trans hb6) (fun hS7 => ?_)
  clear hK K
  try simp only [Act.put, List.setIfInBounds_toArray, List.set_cons_zero, List.set_cons_succ]
  refine wpAnyH_ready (rs := [31]) (by kernel_rfl) (by simp) ?_
  refine AllReadyH.cons (o := { dst := some 34, op := .call { callee := .value (.func 50), args := #[.const (Value.string { data := #[98, 97, 115, 101] }), .const (Value.int IntKind.u64 0), .const (Value.int IntKind.u64 1000000000), .tmp 33], argTypes := #[9, 22, 22, 95] }, type := 55, pos := "fields.go:26", after := #[{ on := 30, ground := .data }, { on := 27, ground := .chain }], guard := none }) rfl (fun K hK => ?_) AllReadyH.nil
  go_simp
  refine (numU _ _ _ _ _).mono ?_
  rintro e v8 ⟨c7, rfl, hc7, hm7, hl7, hb7⟩
  go_wp2_with fail
  refine hK.out _ _ (hS7.trans hb7) (fun hS8 => ?_)
  clear hK K
  try simp only [Act.put, List.setIfInBounds_toArray, List.set_cons_zero, List.set_cons_succ]
  refine wpAnyH_ready (rs := [35]) (by kernel_rfl) (by simp) ?_
  refine AllReadyH.cons (o := { dst := some 38, op := .call { callee := .value (.func 50), args := #[.const (Value.string { data := #[109, 117, 108, 116] }), .const (Value.int IntKind.u64 0), .const (Value.int IntKind.u64 1000), .tmp 37], argTypes := #[9, 22, 22, 95] }, type := 55, pos := "fields.go:27", after := #[{ on := 34, ground := .data }, { on := 31, ground := .chain }], guard := none }) rfl (fun K hK => ?_) AllReadyH.nil
  go_simp
  refine (numU _ _ _ _ _).mono ?_
  rintro e v9 ⟨c8, rfl, hc8, hm8, hl8, hb8⟩
  go_wp2_with fail
  refine hK.out _ _ (hS8.trans hb8) (fun hS9 => ?_)
  clear hK K
  try simp only [Act.put, List.setIfInBounds_toArray, List.set_cons_zero, List.set_cons_succ]
  refine wpAnyH_ready (rs := [39]) (by kernel_rfl) (by simp) ?_
  refine AllReadyH.cons (o := { dst := some 42, op := .call { callee := .value (.func 49), args := #[.const (Value.string { data := #[99, 111, 114, 114, 119, 105, 110, 100, 111, 119] }), .const (Value.int IntKind.u64 1), .const (Value.int IntKind.u64 1048576), .tmp 41], argTypes := #[9, 22, 22, 93] }, type := 55, pos := "fields.go:28", after := #[{ on := 38, ground := .data }, { on := 35, ground := .chain }], guard := none }) rfl (fun K hK => ?_) AllReadyH.nil
  go_simp
  refine (numI _ _ _ _ _).mono ?_
  rintro e v10 ⟨c9, rfl, hc9, hm9, hl9, hb9⟩
  go_wp2_with fail
  refine hK.out _ _ (hS9.trans hb9) (fun hS10 => ?_)
  clear hK K
  try simp only [Act.put, List.setIfInBounds_toArray, List.set_cons_zero, List.set_cons_succ]
  refine wpAnyH_ready (rs := [43]) (by kernel_rfl) (by simp) ?_
  refine AllReadyH.cons (o := { dst := some 46, op := .call { callee := .value (.func 50), args := #[.const (Value.string { data := #[114, 101, 119, 97, 114, 100] }), .const (Value.int IntKind.u64 0), .const (Value.int IntKind.u64 1000000000), .tmp 45], argTypes := #[9, 22, 22, 95] }, type := 55, pos := "fields.go:29", after := #[{ on := 42, ground := .data }, { on := 39, ground := .chain }], guard := none }) rfl (fun K hK => ?_) AllReadyH.nil
  go_simp
  refine (numU _ _ _ _ _).mono ?_
  rintro e v11 ⟨c10, rfl, hc10, hm10, hl10, hb10⟩
  go_wp2_with fail
  refine hK.out _ _ (hS10.trans hb10) (fun hS11 => ?_)
  clear hK K
  try simp only [Act.put, List.setIfInBounds_toArray, List.set_cons_zero, List.set_cons_succ]
  refine wpAnyH_ready (rs := [44]) (by kernel_rfl) (by simp) ?_
  refine AllReadyH.cons (o := { dst := some 47, op := .buildSlice 49 11 #[(0, .tmp 6), (1, .tmp 10), (2, .tmp 14), (3, .tmp 18), (4, .tmp 22), (5, .tmp 26), (6, .tmp 30), (7, .tmp 34), (8, .tmp 38), (9, .tmp 42), (10, .tmp 46)], type := 49, pos := "fields.go:18", after := #[{ on := 3, ground := .data }, { on := 7, ground := .data }, { on := 11, ground := .data }, { on := 15, ground := .data }, { on := 19, ground := .data }, { on := 23, ground := .data }, { on := 27, ground := .data }, { on := 31, ground := .data }, { on := 35, ground := .data }, { on := 39, ground := .data }, { on := 43, ground := .data }], guard := none }) rfl (fun K hK => ?_) AllReadyH.nil
  go_simp
  refine hK.out _ _ (hS11.alloc _) (fun hS12 => ?_)
  clear hK K
  refine wpAnyH_take (i := 45) (oi := { dst := some 2, op := .assign (.tmp 47), type := 49, pos := "fields.go:18", after := #[{ on := 44, ground := .data }, { on := 43, ground := .chain }, { on := 0, ground := .phase }, { on := 1, ground := .phase }, { on := 2, ground := .phase }, { on := 3, ground := .phase }, { on := 4, ground := .phase }, { on := 5, ground := .phase }, { on := 6, ground := .phase }, { on := 7, ground := .phase }, { on := 8, ground := .phase }, { on := 9, ground := .phase }, { on := 10, ground := .phase }, { on := 11, ground := .phase }, { on := 12, ground := .phase }, { on := 13, ground := .phase }, { on := 14, ground := .phase }, { on := 15, ground := .phase }, { on := 16, ground := .phase }, { on := 17, ground := .phase }, { on := 18, ground := .phase }, { on := 19, ground := .phase }, { on := 20, ground := .phase }, { on := 21, ground := .phase }, { on := 22, ground := .phase }, { on := 23, ground := .phase }, { on := 24, ground := .phase }, { on := 25, ground := .phase }, { on := 26, ground := .phase }, { on := 27, ground := .phase }, { on := 28, ground := .phase }, { on := 29, ground := .phase }, { on := 30, ground := .phase }, { on := 31, ground := .phase }, { on := 32, ground := .phase }, { on := 33, ground := .phase }, { on := 34, ground := .phase }, { on := 35, ground := .phase }, { on := 36, ground := .phase }, { on := 37, ground := .phase }, { on := 38, ground := .phase }, { on := 39, ground := .phase }, { on := 40, ground := .phase }, { on := 41, ground := .phase }, { on := 42, ground := .phase }, { on := 43, ground := .phase }, { on := 44, ground := .phase }], guard := none }) (v := .slice (some ⟨v11.heap.size, 0, none⟩) 11 11) rfl (by kernel_rfl) (by kernel_rfl) (by kernel_rfl) (fun _ _ _ h => h) (Or.inl ⟨by rfl, by intro w hSw; clear hSw; go_simp⟩) hS12 ?_
  try simp only [Act.put, List.setIfInBounds_toArray, List.set_cons_zero, List.set_cons_succ]
  refine wpAnyH_done (by kernel_rfl) ?_ _
  obtain ⟨W, hW⟩ : ∃ W, v11.alloc (.cells #[.string ⟨#[117, 110, 98, 111, 110, 100, 105, 110, 103]⟩, .int .u64 1, .int .u64 1048576, .func (.func 66) #[] #[.pointer (some ⟨c0, 0, none⟩)], .func (.func 67) #[] #[.pointer (some ⟨c0, 0, none⟩)], .string ⟨#[109, 97, 120, 97, 103, 101]⟩, .int .u64 0, .int .u64 1048576, .func (.func 66) #[] #[.pointer (some ⟨c1, 0, none⟩)], .func (.func 67) #[] #[.pointer (some ⟨c1, 0, none⟩)], .string ⟨#[101, 112, 111, 99, 104, 108, 101, 110]⟩, .int .u64 1, .int .u64 1000, .func (.func 66) #[] #[.pointer (some ⟨c2, 0, none⟩)], .func (.func 67) #[] #[.pointer (some ⟨c2, 0, none⟩)], .string ⟨#[119, 105, 110, 100, 111, 119]⟩, .int .u64 1, .int .u64 256, .func (.func 66) #[] #[.pointer (some ⟨c3, 0, none⟩)], .func (.func 67) #[] #[.pointer (some ⟨c3, 0, none⟩)], .string ⟨#[101, 110, 116, 114, 105, 101, 115]⟩, .int .u64 1, .int .u64 16, .func (.func 66) #[] #[.pointer (some ⟨c4, 0, none⟩)], .func (.func 67) #[] #[.pointer (some ⟨c4, 0, none⟩)], .string ⟨#[109, 97, 120, 97, 99, 116, 105, 118, 101]⟩, .int .u64 1, .int .u64 32, .func (.func 66) #[] #[.pointer (some ⟨c5, 0, none⟩)], .func (.func 67) #[] #[.pointer (some ⟨c5, 0, none⟩)], .string ⟨#[106, 97, 105, 108, 116, 105, 109, 101]⟩, .int .u64 1, .int .u64 1048576, .func (.func 66) #[] #[.pointer (some ⟨c6, 0, none⟩)], .func (.func 67) #[] #[.pointer (some ⟨c6, 0, none⟩)], .string ⟨#[98, 97, 115, 101]⟩, .int .u64 0, .int .u64 1000000000, .func (.func 68) #[] #[.pointer (some ⟨c7, 0, none⟩)], .func (.func 69) #[] #[.pointer (some ⟨c7, 0, none⟩)], .string ⟨#[109, 117, 108, 116]⟩, .int .u64 0, .int .u64 1000, .func (.func 68) #[] #[.pointer (some ⟨c8, 0, none⟩)], .func (.func 69) #[] #[.pointer (some ⟨c8, 0, none⟩)], .string ⟨#[99, 111, 114, 114, 119, 105, 110, 100, 111, 119]⟩, .int .u64 1, .int .u64 1048576, .func (.func 66) #[] #[.pointer (some ⟨c9, 0, none⟩)], .func (.func 67) #[] #[.pointer (some ⟨c9, 0, none⟩)], .string ⟨#[114, 101, 119, 97, 114, 100]⟩, .int .u64 0, .int .u64 1000000000, .func (.func 68) #[] #[.pointer (some ⟨c10, 0, none⟩)], .func (.func 69) #[] #[.pointer (some ⟨c10, 0, none⟩)]] 55) = W := ⟨_, rfl⟩
  have hB : Blk W v11.heap.size #[.string ⟨#[117, 110, 98, 111, 110, 100, 105, 110, 103]⟩, .int .u64 1, .int .u64 1048576, .func (.func 66) #[] #[.pointer (some ⟨c0, 0, none⟩)], .func (.func 67) #[] #[.pointer (some ⟨c0, 0, none⟩)], .string ⟨#[109, 97, 120, 97, 103, 101]⟩, .int .u64 0, .int .u64 1048576, .func (.func 66) #[] #[.pointer (some ⟨c1, 0, none⟩)], .func (.func 67) #[] #[.pointer (some ⟨c1, 0, none⟩)], .string ⟨#[101, 112, 111, 99, 104, 108, 101, 110]⟩, .int .u64 1, .int .u64 1000, .func (.func 66) #[] #[.pointer (some ⟨c2, 0, none⟩)], .func (.func 67) #[] #[.pointer (some ⟨c2, 0, none⟩)], .string ⟨#[119, 105, 110, 100, 111, 119]⟩, .int .u64 1, .int .u64 256, .func (.func 66) #[] #[.pointer (some ⟨c3, 0, none⟩)], .func (.func 67) #[] #[.pointer (some ⟨c3, 0, none⟩)], .string ⟨#[101, 110, 116, 114, 105, 101, 115]⟩, .int .u64 1, .int .u64 16, .func (.func 66) #[] #[.pointer (some ⟨c4, 0, none⟩)], .func (.func 67) #[] #[.pointer (some ⟨c4, 0, none⟩)], .string ⟨#[109, 97, 120, 97, 99, 116, 105, 118, 101]⟩, .int .u64 1, .int .u64 32, .func (.func 66) #[] #[.pointer (some ⟨c5, 0, none⟩)], .func (.func 67) #[] #[.pointer (some ⟨c5, 0, none⟩)], .string ⟨#[106, 97, 105, 108, 116, 105, 109, 101]⟩, .int .u64 1, .int .u64 1048576, .func (.func 66) #[] #[.pointer (some ⟨c6, 0, none⟩)], .func (.func 67) #[] #[.pointer (some ⟨c6, 0, none⟩)], .string ⟨#[98, 97, 115, 101]⟩, .int .u64 0, .int .u64 1000000000, .func (.func 68) #[] #[.pointer (some ⟨c7, 0, none⟩)], .func (.func 69) #[] #[.pointer (some ⟨c7, 0, none⟩)], .string ⟨#[109, 117, 108, 116]⟩, .int .u64 0, .int .u64 1000, .func (.func 68) #[] #[.pointer (some ⟨c8, 0, none⟩)], .func (.func 69) #[] #[.pointer (some ⟨c8, 0, none⟩)], .string ⟨#[99, 111, 114, 114, 119, 105, 110, 100, 111, 119]⟩, .int .u64 1, .int .u64 1048576, .func (.func 66) #[] #[.pointer (some ⟨c9, 0, none⟩)], .func (.func 67) #[] #[.pointer (some ⟨c9, 0, none⟩)], .string ⟨#[114, 101, 119, 97, 114, 100]⟩, .int .u64 0, .int .u64 1000000000, .func (.func 68) #[] #[.pointer (some ⟨c10, 0, none⟩)], .func (.func 69) #[] #[.pointer (some ⟨c10, 0, none⟩)]] 55 := by rw [← hW]; exact Blk.new _ _ _
  have b11 : Bel v11 W := by rw [← hW]; exact (Bel.refl _).alloc _
  rw [hW]
  rw [hW] at hS12
  go_wp2
  go_ret
  refine ⟨v11.heap.size, rfl, ⟨hB.lt, Below.size hS11, fun i hi => ?_⟩, hS12⟩
  match i, hi with
  | 0, _ => exact ⟨c0, rng5 hB 0 _ _ _ _ _ rfl rfl rfl rfl rfl, cell_bel (cell_bel (cell_bel (cell_bel (cell_bel (cell_bel (cell_bel (cell_bel (cell_bel (cell_bel (cell_bel (hc0) hb1) hb2) hb3) hb4) hb5) hb6) hb7) hb8) hb9) hb10) b11, by have := Below.size hS0; omega⟩
  | 1, _ => exact ⟨c1, rng5 hB 5 _ _ _ _ _ rfl rfl rfl rfl rfl, cell_bel (cell_bel (cell_bel (cell_bel (cell_bel (cell_bel (cell_bel (cell_bel (cell_bel (cell_bel (hc1) hb2) hb3) hb4) hb5) hb6) hb7) hb8) hb9) hb10) b11, by have := Below.size hS1; omega⟩
  | 2, _ => exact ⟨c2, rng5 hB 10 _ _ _ _ _ rfl rfl rfl rfl rfl, cell_bel (cell_bel (cell_bel (cell_bel (cell_bel (cell_bel (cell_bel (cell_bel (cell_bel (hc2) hb3) hb4) hb5) hb6) hb7) hb8) hb9) hb10) b11, by have := Below.size hS2; omega⟩
  | 3, _ => exact ⟨c3, rng5 hB 15 _ _ _ _ _ rfl rfl rfl rfl rfl, cell_bel (cell_bel (cell_bel (cell_bel (cell_bel (cell_bel (cell_bel (cell_bel (hc3) hb4) hb5) hb6) hb7) hb8) hb9) hb10) b11, by have := Below.size hS3; omega⟩
  | 4, _ => exact ⟨c4, rng5 hB 20 _ _ _ _ _ rfl rfl rfl rfl rfl, cell_bel (cell_bel (cell_bel (cell_bel (cell_bel (cell_bel (cell_bel (hc4) hb5) hb6) hb7) hb8) hb9) hb10) b11, by have := Below.size hS4; omega⟩
  | 5, _ => exact ⟨c5, rng5 hB 25 _ _ _ _ _ rfl rfl rfl rfl rfl, cell_bel (cell_bel (cell_bel (cell_bel (cell_bel (cell_bel (hc5) hb6) hb7) hb8) hb9) hb10) b11, by have := Below.size hS5; omega⟩
  | 6, _ => exact ⟨c6, rng5 hB 30 _ _ _ _ _ rfl rfl rfl rfl rfl, cell_bel (cell_bel (cell_bel (cell_bel (cell_bel (hc6) hb7) hb8) hb9) hb10) b11, by have := Below.size hS6; omega⟩
  | 7, _ => exact ⟨c7, rng5 hB 35 _ _ _ _ _ rfl rfl rfl rfl rfl, cell_bel (cell_bel (cell_bel (cell_bel (hc7) hb8) hb9) hb10) b11, by have := Below.size hS7; omega⟩
  | 8, _ => exact ⟨c8, rng5 hB 40 _ _ _ _ _ rfl rfl rfl rfl rfl, cell_bel (cell_bel (cell_bel (hc8) hb9) hb10) b11, by have := Below.size hS8; omega⟩
  | 9, _ => exact ⟨c9, rng5 hB 45 _ _ _ _ _ rfl rfl rfl rfl rfl, cell_bel (cell_bel (hc9) hb10) b11, by have := Below.size hS9; omega⟩
  | 10, _ => exact ⟨c10, rng5 hB 50 _ _ _ _ _ rfl rfl rfl rfl rfl, cell_bel (hc10) b11, by have := Below.size hS10; omega⟩
  | n + 11, h => omega
end Pm
end Go.Proofs.YtpohcdfmkcfonaaGreatDoor
end

section
/-
  What params.Check answers in this program: the first field that is out of bounds, or that MaxAge is greater than Unbonding.
  Conditions: the eleven numbers are of their kinds.
-/
namespace Go.Proofs.YtpohcdfmkcfonaaGreatDoor
open Go.RowKit Go.Shelf
set_option linter.unusedVariables false
namespace Pm
open Kk

/-- The eleven cells of a record. -/
def recC (x : Nat → Int) : List Value := [.int .i64 (x 0), .int .i64 (x 1), .int .i64 (x 2), .int .i64 (x 3), .int .i64 (x 4), .int .i64 (x 5), .int .i64 (x 6), .int .u64 (x 7), .int .u64 (x 8), .int .i64 (x 9), .int .u64 (x 10)]
theorem recC_cells (x : Nat → Int) : ∀ u ∈ recC x, u.oneCell' = true := by
  intro u hu
  simp [recC] at hu
  rcases hu with rfl | rfl | rfl | rfl | rfl | rfl | rfl | rfl | rfl | rfl | rfl <;> rfl
theorem info_rec : (Tryz.prog.info? 24).map (·.size) = some 11 := by kernel_rfl
/-- Is the field i a word (not an int)? -/
def isU (i : Nat) : Bool := i == 7 || i == 8 || i == 10
def kd (i : Nat) : IntKind := if isU i then .u64 else .i64
/-- The numbers are of their kinds. -/
def Kinds (x : Nat → Int) : Prop := ∀ i, i < 11 → (isU i = true → 0 ≤ x i ∧ x i ≤ 18446744073709551615) ∧ (isU i = false → -9223372036854775808 ≤ x i ∧ x i ≤ 9223372036854775807)
/-- What the first closure of the field i answers. -/
def wv (x : Nat → Int) (i : Nat) : Int := if isU i then x i else IntKind.u64.wrap (x i)
theorem wv_b {x : Nat → Int} (h : Kinds x) (i : Nat) (hi : i < 11) : 0 ≤ wv x i ∧ wv x i ≤ 18446744073709551615 := by
  unfold wv
  cases hu : isU i with
  | true => simpa using (h i hi).1 hu
  | false => simp [IntKind.wrap, IntKind.bits, IntKind.signed]; omega
theorem rec_cell {w : World} {p : Nat} {x : Nat → Int} (h : w.rangeAt p 0 (recC x)) (i : Nat) (hi : i < 11) : w.cell? ⟨p, i, none⟩ = some (.int (kd i) (x i)) := by
  have := h i (.int (kd i) (x i)) (by
    match i, hi with
    | 0, _ => rfl
    | 1, _ => rfl
    | 2, _ => rfl
    | 3, _ => rfl
    | 4, _ => rfl
    | 5, _ => rfl
    | 6, _ => rfl
    | 7, _ => rfl
    | 8, _ => rfl
    | 9, _ => rfl
    | 10, _ => rfl
    | n + 11, h => omega)
  rwa [Nat.zero_add] at this
/-- The first closure of the field i. -/
theorem getAt (c p i : Nat) (x : Nat → Int) (w : World) (hi : i < 11) (hc : w.cell? ⟨c, 0, none⟩ = some (.pointer (some ⟨p, i, none⟩))) (hr : w.rangeAt p 0 (recC x)) :
    Calls Tryz.prog (gf i) #[.pointer (some ⟨c, 0, none⟩)] w fun e w' => e = .returned (.int .u64 (wv x i)) ∧ w = w' := by
  have hv := rec_cell hr i hi
  match i, hi with
  | 0, _ => exact getI c p _ _ w hc hv
  | 1, _ => exact getI c p _ _ w hc hv
  | 2, _ => exact getI c p _ _ w hc hv
  | 3, _ => exact getI c p _ _ w hc hv
  | 4, _ => exact getI c p _ _ w hc hv
  | 5, _ => exact getI c p _ _ w hc hv
  | 6, _ => exact getI c p _ _ w hc hv
  | 7, _ => exact getU c p _ _ w hc hv
  | 8, _ => exact getU c p _ _ w hc hv
  | 9, _ => exact getI c p _ _ w hc hv
  | 10, _ => exact getU c p _ _ w hc hv
  | n + 11, h => omega

def okB (a b n : Int) : Bool := decide (a ≤ n ∧ n ≤ b)
set_option maxRecDepth 100000 in
set_option maxHeartbeats 1000000 in
theorem admits (s : ByteArray) (a b : Int) (g t c : Nat) (n : Int) (w : World) :
    Calls Tryz.prog 48 #[.agg (fldC s a b g t c).toArray, .int .u64 n] w fun e w' => e = .returned (.bool (okB a b n)) ∧ Bel w w' := by
  rw [show (fldC s a b g t c).toArray = #[.string s, .int .u64 a, .int .u64 b, .func (.func g) #[] #[.pointer (some ⟨c, 0, none⟩)], .func (.func t) #[] #[.pointer (some ⟨c, 0, none⟩)]] from rfl]
  by_cases h1 : a ≤ n
  · by_cases h2 : n ≤ b
    · have HB := Lib.hid (show okB a b n = true by simp [okB, h1, h2])
      go_enter Tryz.func48, Tryz.ntmps48
      go_wp2
      go_ret
      exact ⟨by rw [HB.out]; rfl, (Bel.refl w).alloc _⟩
    · have HB := Lib.hid (show okB a b n = false by simp [okB, h2])
      go_enter Tryz.func48, Tryz.ntmps48
      go_wp2
      go_ret
      exact ⟨by rw [HB.out]; rfl, (Bel.refl w).alloc _⟩
  · have HB := Lib.hid (show okB a b n = false by simp [okB, h1])
    go_enter Tryz.func48, Tryz.ntmps48
    go_wp2
    go_ret
    exact ⟨by rw [HB.out]; rfl, (Bel.refl w).alloc _⟩

set_option maxRecDepth 100000 in
set_option maxHeartbeats 1000000 in
theorem ordered (x : Nat → Int) (w : World) :
    Calls Tryz.prog 31 #[.agg (recC x).toArray] w fun e w' => e = .returned (.bool (decide (x 1 ≤ x 0))) ∧ Bel w w' := by
  rw [show (recC x).toArray = #[.int .i64 (x 0), .int .i64 (x 1), .int .i64 (x 2), .int .i64 (x 3), .int .i64 (x 4), .int .i64 (x 5), .int .i64 (x 6), .int .u64 (x 7), .int .u64 (x 8), .int .i64 (x 9), .int .u64 (x 10)] from rfl]
  go_enter Tryz.func31, Tryz.ntmps31
  go_wp2
  go_ret
  exact ⟨rfl, (Bel.refl w).alloc _⟩
end Pm
end Go.Proofs.YtpohcdfmkcfonaaGreatDoor
end

section
/-
  What params.Check answers in this program: the first field that is out of bounds, or that MaxAge is greater than Unbonding.
  Conditions: the eleven numbers are of their kinds.
-/
namespace Go.Proofs.YtpohcdfmkcfonaaGreatDoor
open Go.RowKit Go.Shelf
set_option linter.unusedVariables false
namespace Pm
open Kk

def okF (x : Nat → Int) (i : Nat) : Bool := okB (lo i) (hi i) (wv x i)
/-- What Check answers of the numbers x. -/
def Chk (x : Nat → Int) (a b : Int) : Prop :=
  (∃ i, i < 11 ∧ (∀ j, j < i → okF x j = true) ∧ okF x i = false ∧ a = 3 ∧ b = (i : Int)) ∨ ((∀ j, j < 11 → okF x j = true) ∧ x 0 < x 1 ∧ a = 9 ∧ b = 1) ∨ ((∀ j, j < 11 → okF x j = true) ∧ x 1 ≤ x 0 ∧ a = 0 ∧ b = 0)
def ChkE (x : Nat → Int) (w : World) (e : Ending) (w' : World) : Prop := ∃ a b, e = .returned (.tuple #[.int .i64 a, .int .i64 b]) ∧ Chk x a b ∧ Bel w w'

/-- A new field's cell, with a field laid into it. -/
abbrev ZF : Obj := .cells #[.string ⟨#[]⟩, .int .u64 0, .int .u64 0, .nilFunc, .nilFunc] 55
theorem put5 (w : World) (Y : List Value) (hl : Y.length = 5) : (w.alloc ZF).there w.heap.size 0 Y.toArray.size ∧ Bel w ((w.alloc ZF).setCells w.heap.size 0 Y) ∧ Blk ((w.alloc ZF).setCells w.heap.size 0 Y) w.heap.size Y.toArray 55 :=
  ⟨bthere (Blk.new w _ _) 0 _ (by simp [hl]), bel_setCells ((Bel.refl w).alloc _) (Nat.le_refl _) 0 Y, bwhole (Blk.new w _ _) (by simp [hl])⟩

theorem upto_succ {f : Nat → Bool} {k : Nat} (h : ∀ j, j < k → f j = true) (hk : f k = true) : ∀ j, j < k + 1 → f j = true := fun j hj => by
  by_cases e : j = k
  · rw [e]; exact hk
  · exact h j (by omega)
theorem gf_or (i : Nat) (hi : i < 11) : gf i = 66 ∨ gf i = 68 := by
  match i, hi with
  | 0, _ => exact .inl rfl
  | 1, _ => exact .inl rfl
  | 2, _ => exact .inl rfl
  | 3, _ => exact .inl rfl
  | 4, _ => exact .inl rfl
  | 5, _ => exact .inl rfl
  | 6, _ => exact .inl rfl
  | 7, _ => exact .inr rfl
  | 8, _ => exact .inr rfl
  | 9, _ => exact .inl rfl
  | 10, _ => exact .inr rfl
  | n + 11, h => omega
/-- A call of the first closure of a field enters it. -/
theorem enter_gf (i : Nat) (hi : i < 11) (args : Array Value) (w : World) : (callFunc (gf i) args).run Tryz.prog w = .ok (.enter (gf i) args) w := by
  rcases gf_or i hi with h | h
  · rw [h]
    go_simp
  · rw [h]
    go_simp

set_option maxRecDepth 100000 in
set_option maxHeartbeats 4000000 in
theorem check (x : Nat → Int) (hx : Kinds x) (w : World) : Calls Tryz.prog 18 #[.agg (recC x).toArray] w (ChkE x w) := by
  obtain ⟨D, hD⟩ : ∃ D, D = recC x := ⟨_, rfl⟩
  obtain ⟨W, hW⟩ : ∃ W, w.alloc (.cells D.toArray 24) = W := ⟨_, rfl⟩
  have B0 := Lib.hid (show Bel w W by rw [← hW]; exact (Bel.refl w).alloc _)
  have R0 := Lib.hid (show W.rangeAt w.heap.size 0 (recC x) by rw [← hW, hD]; exact rngB (Blk.new w (recC x).toArray 24))
  obtain ⟨p, hp⟩ : ∃ p, w.heap.size = p := ⟨_, rfl⟩
  rw [hp] at R0
  have HDl := Lib.hid (show D.length = 11 by rw [hD]; rfl)
  have HD := Lib.hid hD
  rw [← hD]
  have HX := Lib.hid hx
  have HP := Lib.hid hp
  have HW := Lib.hid hW
  clear hx hp hD hW
  go_enter Tryz.func18, Tryz.ntmps18
  go_upto_region 1 with fail
  rw [HW.out, HP.out]
  go_wp2_with fail
  refine (fieldsR p W).mono ?_
  rintro e w1 ⟨b, rfl, hF, k1⟩
  have B1 : Hid (Bel W w1) := Lib.hid k1
  have F1 := Lib.hid hF
  clear k1 hF
  go_wp2_with fail
  go_loopw [8] (fun u8 wr => ∃ k : Nat, u8 = .int .i64 k ∧ k ≤ 11 ∧ (∀ j, j < k → okF x j = true) ∧ Bel w1 wr) (fun u8 _ => 11 - (intOf u8).toNat)
  case atStart => exact ⟨0, rfl, by omega, fun j hj => by omega, Bel.refl _⟩
  case round =>
    obtain ⟨k, rfl, hk, hall, hb⟩ := hrel
    have HA := Lib.hid hall
    clear hall
    have KB := Lib.hid hb
    clear hb
    by_cases hlt : k < 11
    · obtain ⟨c, h1, h2, h3⟩ := (F1.out.bel KB.out).all k hlt
      have hY0 : ∃ Y, Y = fldC (nm k) (lo k) (hi k) (gf k) (sf k) c := ⟨_, rfl⟩
      obtain ⟨Y, hY⟩ := hY0
      rw [← hY] at h1
      have HYl := Lib.hid (show Y.length = 5 by rw [hY]; rfl)
      have YI := Lib.hid (show (Tryz.prog.info? 55).map (·.size) = some Y.length by rw [HYl.out]; exact info_fld)
      have YI2 := Lib.hid (show (Tryz.prog.info? 55).map (·.size) = some Y.toArray.size by rw [List.size_toArray]; exact YI.out)
      have YO := Lib.hid (all_oneCell_toArray (cs := Y) (by rw [hY]; exact fldC_cells _ _ _ _ _ _))
      have HY := Lib.hid hY
      have R1 := Lib.hid h1
      obtain ⟨p1, p2, p3⟩ := put5 wr Y HYl.out
      have P1 := Lib.hid p1
      have P2 := Lib.hid p2
      have P3 := Lib.hid p3
      have C1 := Lib.hid h2
      clear h1 h2 h3 p1 p2 p3 hY
      go_upto_region 4 with (first | (refine wpList_load_mid rfl 55 (.tmp 11) rfl b (k * 5) rfl Y _ R1.out Tryz.underlying55 rfl YI.out ?_) | (refine wpList_store_mid rfl 55 (.tmp 5) (.tmp 12) rfl wr.heap.size 0 Y.toArray rfl rfl P1.out YI2.out YO.out ?_))
      obtain ⟨f, hf⟩ : ∃ f, wr.heap.size = f := ⟨_, rfl⟩
      obtain ⟨V, hV⟩ : ∃ V, (wr.alloc ZF).setCells wr.heap.size 0 Y = V := ⟨_, rfl⟩
      have hV' := hV
      rw [hf] at hV' ⊢
      rw [hV] at P2 P3
      rw [hf] at P3
      rw [hV']
      clear hV hV' hf
      have S0 : V.rangeAt f 0 Y ∧ V.rangeAt p 0 (recC x) ∧ V.cell? ⟨c, 0, none⟩ = some (.pointer (some ⟨p, k, none⟩)) ∧ Bel w1 V := ⟨rngB P3.out, rng_bel (rng_bel (rng_bel R0.out B1.out) KB.out) P2.out, cell_bel C1.out P2.out, KB.out.trans P2.out⟩
      have S0d : V.drew.rangeAt f 0 Y ∧ V.drew.rangeAt p 0 (recC x) ∧ V.drew.cell? ⟨c, 0, none⟩ = some (.pointer (some ⟨p, k, none⟩)) ∧ Bel w1 V.drew := ⟨rng_bel S0.1 (Bel.refl V).drew, rng_bel S0.2.1 (Bel.refl V).drew, cell_bel S0.2.2.1 (Bel.refl V).drew, S0.2.2.2.drew⟩
      have KEEP := Lib.hid (show ∀ V V' : World, (V.rangeAt f 0 Y ∧ V.rangeAt p 0 (recC x) ∧ V.cell? ⟨c, 0, none⟩ = some (.pointer (some ⟨p, k, none⟩)) ∧ Bel w1 V) → Bel V V' → (V'.rangeAt f 0 Y ∧ V'.rangeAt p 0 (recC x) ∧ V'.cell? ⟨c, 0, none⟩ = some (.pointer (some ⟨p, k, none⟩)) ∧ Bel w1 V') from
        fun V V' h hb => ⟨rng_bel h.1 hb, rng_bel h.2.1 hb, cell_bel h.2.2.1 hb, h.2.2.2.trans hb⟩)
      have C3 := Lib.hid (show ∀ V : World, V.rangeAt f 0 Y → V.cell? ⟨f, 3, none⟩ = some (.func (.func (gf k)) #[] #[.pointer (some ⟨c, 0, none⟩)]) from fun V h => by have := h 3 (.func (.func (gf k)) #[] #[.pointer (some ⟨c, 0, none⟩)]) (by rw [HY.out]; rfl); rwa [Nat.zero_add] at this)
      have GA := Lib.hid (show ∀ V : World, (V.rangeAt f 0 Y ∧ V.rangeAt p 0 (recC x) ∧ V.cell? ⟨c, 0, none⟩ = some (.pointer (some ⟨p, k, none⟩)) ∧ Bel w1 V) → Calls Tryz.prog (gf k) #[.pointer (some ⟨c, 0, none⟩)] V fun e w' => e = .returned (.int .u64 (wv x k)) ∧ V = w' from fun V h => getAt c p k x V hlt h.2.2.1 h.2.1)
      obtain ⟨q, hq⟩ : ∃ q, okF x k = q := ⟨_, rfl⟩
      have CF := enter_gf k hlt
      obtain ⟨g, hg⟩ : ∃ g, gf k = g := ⟨_, rfl⟩
      obtain ⟨v, hv⟩ : ∃ v, wv x k = v := ⟨_, rfl⟩
      have AD := Lib.hid (show ∀ V : World, Calls Tryz.prog 48 #[.agg Y.toArray, .int .u64 v] V fun e w' => e = .returned (.bool q) ∧ Bel V w' from fun V => by rw [HY.out, ← hq, ← hv]; exact admits _ _ _ _ _ _ _ V)
      rw [hg] at C3 GA CF
      rw [hv] at GA
      have HQ := Lib.hid hq
      have uF := Tryz.underlying55
      have iY := YI.out
      clear hq hg hv S0
      refine wp_region_held_drew (S := fun V => V.rangeAt f 0 Y ∧ V.rangeAt p 0 (recC x) ∧ V.cell? ⟨c, 0, none⟩ = some (.pointer (some ⟨p, k, none⟩)) ∧ Bel w1 V) (by kernel_rfl) S0d (fun hS0 => ?_)
      obtain ⟨w6, hw6⟩ : ∃ w6, V.drew = w6 := ⟨_, rfl⟩
      rw [hw6] at hS0 ⊢
      clear hw6 S0d
      refine wpAnyH_take (i := 0) (oi := { dst := some 13, op := .load 55 (.tmp 5), type := 55, pos := "params.go:35", after := #[], guard := none }) (v := .agg Y.toArray) rfl (by kernel_rfl) (by kernel_rfl) (by kernel_rfl) (fun _ _ _ h => h) (yieldsIf_load_mid (by rfl) _ _ rfl _ _ rfl _ _ (fun w h => h.1) uF rfl iY) hS0 ?_
      try simp only [Act.put, List.setIfInBounds_toArray, List.set_cons_zero, List.set_cons_succ]
      refine wpAnyH_take (i := 1) (oi := { dst := some 14, op := .fieldAddr 55 (.tmp 5) 3, type := 0, pos := "params.go:35", after := #[], guard := none }) (v := .pointer (some ⟨f, 3, none⟩)) rfl (by kernel_rfl) (by kernel_rfl) (by kernel_rfl) (fun _ _ _ h => h) (Or.inl ⟨by rfl, by intro w hSw; clear hSw; go_simp⟩) hS0 ?_
      try simp only [Act.put, List.setIfInBounds_toArray, List.set_cons_zero, List.set_cons_succ]
      refine wpAnyH_take (i := 2) (oi := { dst := some 15, op := .load 52 (.tmp 14), type := 52, pos := "params.go:35", after := #[{ on := 1, ground := .data }], guard := none }) (v := .func (.func g) #[] #[.pointer (some ⟨c, 0, none⟩)]) rfl (by kernel_rfl) (by kernel_rfl) (by kernel_rfl) (fun _ _ _ h => h) (Or.inl ⟨by rfl, by intro w h; have hcell := (C3.out _ h.1); clear h; go_simp⟩) hS0 ?_
      try simp only [Act.put, List.setIfInBounds_toArray, List.set_cons_zero, List.set_cons_succ]
      refine wpAnyH_ready (rs := [3]) (by kernel_rfl) (by simp) ?_
      refine AllReadyH.cons (o := { dst := some 16, op := .call { callee := .value (.tmp 15), args := #[], argTypes := #[] }, type := 22, pos := "params.go:35", after := #[{ on := 2, ground := .data }], guard := none }) rfl (fun K hK => ?_) AllReadyH.nil
      go_simp
      refine (GA.out _ hS0).mono ?_
      rintro e v1 ⟨rfl, rfl⟩
      go_wp2_with fail
      refine hK.out _ _ (hS0) (fun hS1 => ?_)
      clear hK K
      try simp only [Act.put, List.setIfInBounds_toArray, List.set_cons_zero, List.set_cons_succ]
      refine wpAnyH_ready (rs := [4]) (by kernel_rfl) (by simp) ?_
      refine AllReadyH.cons (o := { dst := some 17, op := .call { callee := .value (.func 48), args := #[.tmp 13, .tmp 16], argTypes := #[55, 22] }, type := 4, pos := "params.go:35", after := #[{ on := 0, ground := .data }, { on := 3, ground := .data }, { on := 3, ground := .chain }], guard := none }) rfl (fun K hK => ?_) AllReadyH.nil
      go_simp
      refine (AD.out _).mono ?_
      rintro e v2 ⟨rfl, k2⟩
      go_wp2_with fail
      refine hK.out _ _ (KEEP.out _ _ hS1 k2) (fun hS2 => ?_)
      clear hK K
      try simp only [Act.put, List.setIfInBounds_toArray, List.set_cons_zero, List.set_cons_succ]
      refine wpAnyH_take (i := 5) (oi := { dst := some 18, op := .unOp .not 4 (.tmp 17), type := 4, pos := "params.go:35", after := #[{ on := 4, ground := .data }], guard := none }) (v := .bool (!q)) rfl (by kernel_rfl) (by kernel_rfl) (by kernel_rfl) (fun _ _ _ h => h) (Or.inl ⟨by rfl, by intro w hSw; clear hSw; go_simp⟩) hS2 ?_
      try simp only [Act.put, List.setIfInBounds_toArray, List.set_cons_zero, List.set_cons_succ]
      refine wpAnyH_done (by kernel_rfl) ?_ _
      have B4 := Lib.hid hS2.2.2.2
      clear CF C3 GA AD KEEP uF iY hS0 hS1 hS2 k2
      cases q with
      | false =>
        go_wp2_with fail
        go_ret2
        exact ⟨3, (k : Int), rfl, .inl ⟨k, hlt, HA.out, HQ.out, rfl, rfl⟩, (B0.out.trans B1.out).trans B4.out⟩
      | true =>
        go_wp2_with fail
        go_roundw
        case rel => exact ⟨k + 1, by go_num, by omega, upto_succ HA.out HQ.out, B4.out⟩
        case measure => simp [intOf]; omega
    · obtain rfl : k = 11 := by omega
      have R2 := Lib.hid (rng_bel (rng_bel R0.out B1.out) KB.out)
      rw [← HD.out] at R2
      have ORD := Lib.hid (ordered x)
      rw [← HD.out] at ORD
      by_cases ho : x 1 ≤ x 0
      · have hd : decide (x 1 ≤ x 0) = true := by simpa using ho
        go_wp2_with (first | (refine wpList_load_mid rfl 24 (.tmp 1) rfl p 0 rfl D _ R2.out Tryz.underlying24 rfl (by rw [HDl.out]; exact info_rec) ?_) | (go_at_call 31; refine (ORD.out wr).mono ?_; rintro e w2 ⟨rfl, k2⟩; have B2 : Hid (Bel wr w2) := Lib.hid k2; clear k2))
        go_ret2
        exact ⟨0, 0, rfl, .inr (.inr ⟨HA.out, ho, rfl, rfl⟩), ((B0.out.trans B1.out).trans KB.out).trans B2.out⟩
      · have hd : decide (x 1 ≤ x 0) = false := by simpa using ho
        go_wp2_with (first | (refine wpList_load_mid rfl 24 (.tmp 1) rfl p 0 rfl D _ R2.out Tryz.underlying24 rfl (by rw [HDl.out]; exact info_rec) ?_) | (go_at_call 31; refine (ORD.out wr).mono ?_; rintro e w2 ⟨rfl, k2⟩; have B2 : Hid (Bel wr w2) := Lib.hid k2; clear k2))
        go_ret2
        exact ⟨9, 1, rfl, .inr (.inl ⟨HA.out, by omega, rfl, rfl⟩), ((B0.out.trans B1.out).trans KB.out).trans B2.out⟩
end Pm
end Go.Proofs.YtpohcdfmkcfonaaGreatDoor
end

section
/-
  What params.find answers in this program: the field of that name, if the record is valid.
  Conditions: the eleven numbers lie in memory, and are of their kinds.
-/
namespace Go.Proofs.YtpohcdfmkcfonaaGreatDoor
open Go.RowKit Go.Shelf
set_option linter.unusedVariables false
namespace Pm
open Kk

abbrev Z5 : List Value := [.string ⟨#[]⟩, .int .u64 0, .int .u64 0, .nilFunc, .nilFunc]
/-- Why find answers no field: Check's error, or that the name is no field's. -/
def FErr (x : Nat → Int) (s : ByteArray) (e : Int) : Prop := (∃ b, Chk x e b) ∨ (Chk x 0 0 ∧ (∀ j, j < 11 → nm j ≠ s) ∧ e = 10)
def FOk (x : Nat → Int) (s : ByteArray) (p n : Nat) (F : List Value) (w' : World) : Prop :=
  Chk x 0 0 ∧ ∃ i c, i < 11 ∧ nm i = s ∧ (∀ j, j < i → nm j ≠ s) ∧ F = fldC (nm i) (lo i) (hi i) (gf i) (sf i) c ∧ w'.cell? ⟨c, 0, none⟩ = some (.pointer (some ⟨p, i, none⟩)) ∧ n ≤ c
def FindE (x : Nat → Int) (s : ByteArray) (p : Nat) (w : World) (e : Ending) (w' : World) : Prop :=
  ∃ a F, e = .returned (.tuple #[.agg (List.toArray F), .int .i64 a]) ∧ F.length = 5 ∧ (∀ u ∈ F, Value.oneCell' u = true) ∧ Bel w w' ∧ ((a = 0 ∧ FOk x s p w.heap.size F w') ∨ (a ≠ 0 ∧ F = Z5 ∧ FErr x s a))
theorem Chk.zero {x : Nat → Int} {b : Int} (h : Chk x 0 b) : b = 0 := by
  rcases h with ⟨_, _, _, _, h, _⟩ | ⟨_, _, h, _⟩ | ⟨_, _, _, h⟩
  · omega
  · omega
  · exact h
theorem Z5_cells : ∀ u ∈ Z5, Value.oneCell' u = true := by
  intro u hu
  simp at hu
  rcases hu with rfl | rfl | rfl <;> rfl

set_option maxRecDepth 100000 in
set_option maxHeartbeats 4000000 in
theorem find (x : Nat → Int) (hx : Kinds x) (s : ByteArray) (p : Nat) (w : World) (hr : w.rangeAt p 0 (recC x)) : Calls Tryz.prog 47 #[.pointer (some ⟨p, 0, none⟩), .string s] w (FindE x s p w) := by
  obtain ⟨D, hD⟩ : ∃ D, D = recC x := ⟨_, rfl⟩
  have HDl := Lib.hid (show D.length = 11 by rw [hD]; rfl)
  obtain ⟨W, hW⟩ : ∃ W, w.alloc ZF = W := ⟨_, rfl⟩
  have B0 := Lib.hid (show Bel w W by rw [← hW]; exact (Bel.refl w).alloc _)
  have K0 := Lib.hid (show Blk W w.heap.size Z5.toArray 55 by rw [← hW]; exact Blk.new w _ _)
  have R0 := Lib.hid (show W.rangeAt p 0 D by rw [hD]; exact rng_bel hr B0.out)
  obtain ⟨q, hq⟩ : ∃ q, w.heap.size = q := ⟨_, rfl⟩
  rw [hq] at K0
  have HX := Lib.hid (check x hx)
  rw [← hD] at HX
  have HR := Lib.hid hr
  have HQ := Lib.hid hq
  have HW := Lib.hid hW
  clear hx hr hq hW hD
  go_enter Tryz.func47, Tryz.ntmps47
  go_upto_region 1 with fail
  rw [HW.out, HQ.out]
  go_wp2_with (refine wpList_load_mid rfl 24 (.tmp 12) rfl p 0 rfl D _ R0.out Tryz.underlying24 rfl (by rw [HDl.out]; exact info_rec) ?_)
  refine (HX.out W).mono ?_
  rintro e w1 ⟨a, b, rfl, hC, k1⟩
  have B1 : Hid (Bel W w1) := Lib.hid k1
  have C1 := Lib.hid hC
  have K1 := Lib.hid (K0.out.bel k1)
  clear k1 hC
  by_cases ha : a = 0
  · subst ha
    obtain rfl := C1.out.zero
    go_wp2_with fail
    refine (fieldsR p w1).mono ?_
    rintro e w2 ⟨b, rfl, hF, k2⟩
    have B2 : Hid (Bel w1 w2) := Lib.hid k2
    have F2 := Lib.hid hF
    have K2 := Lib.hid (K1.out.bel k2)
    clear k2 hF
    go_wp2_with fail
    go_loopw [24] (fun u24 wr => ∃ k : Nat, u24 = .int .i64 k ∧ k ≤ 11 ∧ (∀ j, j < k → nm j ≠ s) ∧ Bel w2 wr) (fun u24 _ => 11 - (intOf u24).toNat)
    case atStart => exact ⟨0, rfl, by omega, fun j hj => by omega, Bel.refl _⟩
    case round =>
      obtain ⟨k, rfl, hk, hall, hb⟩ := hrel
      have HA := Lib.hid hall
      clear hall
      have KB := Lib.hid hb
      clear hb
      by_cases hlt : k < 11
      · obtain ⟨c, h1, h2, h3⟩ := (F2.out.bel KB.out).all k hlt
        have hY0 : ∃ Y, Y = fldC (nm k) (lo k) (hi k) (gf k) (sf k) c := ⟨_, rfl⟩
        obtain ⟨Y, hY⟩ := hY0
        rw [← hY] at h1
        have HYl := Lib.hid (show Y.length = 5 by rw [hY]; rfl)
        have YI := Lib.hid (show (Tryz.prog.info? 55).map (·.size) = some Y.length by rw [HYl.out]; exact info_fld)
        have YI2 := Lib.hid (show (Tryz.prog.info? 55).map (·.size) = some Y.toArray.size by rw [List.size_toArray]; exact YI.out)
        have YC := Lib.hid (show ∀ u ∈ Y, u.oneCell' = true by rw [hY]; exact fldC_cells _ _ _ _ _ _)
        have YO := Lib.hid (all_oneCell_toArray YC.out)
        have HY := Lib.hid hY
        have R1 := Lib.hid h1
        obtain ⟨p1, p2, p3⟩ := put5 wr Y HYl.out
        have P1 := Lib.hid p1
        have P2 := Lib.hid p2
        have P3 := Lib.hid p3
        have C2 := Lib.hid h2
        have H3 := Lib.hid h3
        clear h1 h2 h3 p1 p2 p3 hY
        go_upto_region 7 with (first | (refine wpList_load_mid rfl 55 (.tmp 26) rfl b (k * 5) rfl Y _ R1.out Tryz.underlying55 rfl YI.out ?_) | (refine wpList_store_mid rfl 55 (.tmp 9) (.tmp 27) rfl wr.heap.size 0 Y.toArray rfl rfl P1.out YI2.out YO.out ?_))
        obtain ⟨f, hf⟩ : ∃ f, wr.heap.size = f := ⟨_, rfl⟩
        obtain ⟨V, hV⟩ : ∃ V, (wr.alloc ZF).setCells wr.heap.size 0 Y = V := ⟨_, rfl⟩
        have hV' := hV
        rw [hf] at hV' ⊢
        rw [hV] at P2 P3
        rw [hf] at P3
        rw [hV']
        clear hV hV' hf
        have hcell := P3.out.cell 0 (v := .string (nm k)) (by rw [HY.out]; rfl)
        go_upto_if 31 with fail
        by_cases he : nm k = s
        · have hb : ((nm k).toList == s.toList) = true := (Lib.bytes_beq_iff _ _).2 he
          rw [hb]
          clear hb
          have HE := Lib.hid he
          have K4 := Lib.hid (show Blk V q Z5.toArray 55 from (K2.out.bel KB.out).bel P2.out)
          have TH := Lib.hid (show V.there q 0 Y.toArray.size from bthere K4.out 0 _ (by rw [List.size_toArray, HYl.out]; exact Nat.le_refl _))
          have K5 := Lib.hid (show Blk (V.setCells q 0 Y) q Y.toArray 55 from bwhole K4.out (by rw [HYl.out]; rfl))
          have RF := Lib.hid (rngB P3.out)
          have BV := Lib.hid (show Bel w V from (((B0.out.trans B1.out).trans B2.out).trans KB.out).trans P2.out)
          clear he hcell
          go_wp2_with (first | (refine wpList_load_mid rfl 55 (.tmp 9) rfl f 0 rfl Y _ RF.out Tryz.underlying55 rfl YI.out ?_) | (refine wpList_store_mid rfl 55 (.tmp 4) (.tmp 32) rfl q 0 Y.toArray rfl rfl TH.out YI2.out YO.out ?_))
          have hcq : c ≠ q := by
            have h3 := H3.out
            have h4 := Below.size B0.out
            have h5 := Below.size B1.out
            have h6 := (K0.out).lt
            have h7 := HQ.out
            omega
          refine bodyPost_ret (res_ci Tryz.results47 _ _ ⟨q, 0, none⟩ (.agg Y.toArray) (.int .i64 0) rfl rfl (load_b K5.out Tryz.underlying55 rfl YI.out)) rfl ⟨0, Y, rfl, HYl.out, YC.out, bel_setCells BV.out (by rw [HQ.out]; exact Nat.le_refl _) 0 Y, .inl ⟨rfl, C1.out, k, c, hlt, HE.out, HA.out, HY.out, ?_, ?_⟩⟩
          · exact cell_kep (cell_bel C2.out P2.out) (kep_setCells q Y 0 V) hcq
          · have h3 := H3.out
            have h4 := Below.size B0.out
            have h5 := Below.size B1.out
            omega
        · have hb : ((nm k).toList == s.toList) = false := (Lib.bytes_beq_false_iff _ _).2 he
          rw [hb]
          clear hb
          have HE := Lib.hid he
          clear he hcell
          go_wp2_with fail
          refine ⟨⟨k + 1, by go_num, by omega, fun j hj => ?_, KB.out.trans P2.out⟩, ?_⟩
          · by_cases e : j = k
            · rw [e]; exact HE.out
            · exact HA.out j (by omega)
          · simp [intOf]; omega
      · obtain rfl : k = 11 := by omega
        have K6 := Lib.hid (K2.out.bel KB.out)
        obtain ⟨Z, hZ⟩ : ∃ Z, Z = Z5 := ⟨_, rfl⟩
        have ZL := Lib.hid (show Z.toArray.size = 5 by rw [hZ]; rfl)
        have ZC := Lib.hid (show ∀ u ∈ Z, u.oneCell' = true by rw [hZ]; exact Z5_cells)
        have TH := Lib.hid (show wr.there q 0 Z.toArray.size from bthere K6.out 0 _ (by rw [ZL.out]; exact Nat.le_refl _))
        have K3 := Lib.hid (show Blk (wr.setCells q 0 Z) q Z.toArray 55 from bwhole K6.out (by rw [hZ]; rfl))
        have ZI := Lib.hid (show (Tryz.prog.info? 55).map (·.size) = some Z.length by rw [hZ]; exact info_fld)
        have ZI2 := Lib.hid (show (Tryz.prog.info? 55).map (·.size) = some Z.toArray.size by rw [ZL.out]; exact info_fld)
        have HZ := Lib.hid hZ
        have hza : Z.toArray = #[.string ⟨#[]⟩, .int .u64 0, .int .u64 0, .nilFunc, .nilFunc] := by rw [hZ]
        have HZA := Lib.hid hza
        clear hZ hza
        go_wp2_with (refine wpList_store_mid rfl 55 (.tmp 4) (.tmp 34) rfl q 0 Z.toArray rfl (by rw [HZA.out]; rfl) TH.out ZI2.out (all_oneCell_toArray ZC.out) ?_)
        refine bodyPost_ret (res_ci Tryz.results47 _ _ ⟨q, 0, none⟩ (.agg Z.toArray) (.int .i64 10) rfl rfl (load_b K3.out Tryz.underlying55 rfl ZI.out)) rfl ⟨10, Z, rfl, by simpa using ZL.out, ZC.out, bel_setCells (((B0.out.trans B1.out).trans B2.out).trans KB.out) (by rw [HQ.out]; exact Nat.le_refl _) 0 Z, .inr ⟨by omega, HZ.out, .inr ⟨C1.out, HA.out, rfl⟩⟩⟩
  · obtain ⟨Z, hZ⟩ : ∃ Z, Z = Z5 := ⟨_, rfl⟩
    have ZL := Lib.hid (show Z.toArray.size = 5 by rw [hZ]; rfl)
    have ZC := Lib.hid (show ∀ u ∈ Z, u.oneCell' = true by rw [hZ]; exact Z5_cells)
    have TH := Lib.hid (show w1.there q 0 Z.toArray.size from bthere K1.out 0 _ (by rw [ZL.out]; exact Nat.le_refl _))
    have K3 := Lib.hid (show Blk (w1.setCells q 0 Z) q Z.toArray 55 from bwhole K1.out (by rw [hZ]; rfl))
    have ZI := Lib.hid (show (Tryz.prog.info? 55).map (·.size) = some Z.length by rw [hZ]; exact info_fld)
    have ZI2 := Lib.hid (show (Tryz.prog.info? 55).map (·.size) = some Z.toArray.size by rw [ZL.out]; exact info_fld)
    have HZ := Lib.hid hZ
    have hza : Z.toArray = #[.string ⟨#[]⟩, .int .u64 0, .int .u64 0, .nilFunc, .nilFunc] := by rw [hZ]
    have HZA := Lib.hid hza
    clear hZ hza
    go_wp2_with (refine wpList_store_mid rfl 55 (.tmp 4) (.tmp 19) rfl q 0 Z.toArray rfl (by rw [HZA.out]; rfl) TH.out ZI2.out (all_oneCell_toArray ZC.out) ?_)
    refine bodyPost_ret (res_ci Tryz.results47 _ _ ⟨q, 0, none⟩ (.agg Z.toArray) (.int .i64 a) rfl rfl (load_b K3.out Tryz.underlying55 rfl ZI.out)) rfl ⟨a, Z, rfl, by simpa using ZL.out, ZC.out, bel_setCells (B0.out.trans B1.out) (by rw [HQ.out]; exact Nat.le_refl _) 0 Z, .inr ⟨ha, HZ.out, .inl ⟨b, C1.out⟩⟩⟩
end Pm
end Go.Proofs.YtpohcdfmkcfonaaGreatDoor
end

section
/-
  What params.Get answers in this program. Conditions: the eleven numbers are of their kinds.
-/
namespace Go.Proofs.YtpohcdfmkcfonaaGreatDoor
open Go.RowKit Go.Shelf
set_option linter.unusedVariables false
namespace Pm
open Kk

/-- The number of the field of that name, the first one. -/
def At (s : ByteArray) (i : Nat) : Prop := i < 11 ∧ nm i = s ∧ ∀ j, j < i → nm j ≠ s
/-- What Get answers. -/
def Gt (x : Nat → Int) (s : ByteArray) (n a : Int) : Prop := (a = 0 ∧ Chk x 0 0 ∧ ∃ i, At s i ∧ n = wv x i) ∨ (a ≠ 0 ∧ n = 0 ∧ FErr x s a)
def GetE (x : Nat → Int) (s : ByteArray) (w : World) (e : Ending) (w' : World) : Prop := ∃ n a, e = .returned (.tuple #[.int .u64 n, .int .i64 a]) ∧ Gt x s n a ∧ Bel w w'

set_option maxRecDepth 100000 in
set_option maxHeartbeats 4000000 in
theorem get (x : Nat → Int) (hx : Kinds x) (s : ByteArray) (w : World) : Calls Tryz.prog 16 #[.agg (recC x).toArray, .string s] w (GetE x s w) := by
  obtain ⟨D, hD⟩ : ∃ D, D = recC x := ⟨_, rfl⟩
  obtain ⟨W, hW⟩ : ∃ W, w.alloc (.cells D.toArray 24) = W := ⟨_, rfl⟩
  have B0 := Lib.hid (show Bel w W by rw [← hW]; exact (Bel.refl w).alloc _)
  have R0 := Lib.hid (show W.rangeAt w.heap.size 0 (recC x) by rw [← hW, hD]; exact rngB (Blk.new w (recC x).toArray 24))
  obtain ⟨p, hp⟩ : ∃ p, w.heap.size = p := ⟨_, rfl⟩
  rw [hp] at R0
  rw [← hD]
  have HX := Lib.hid hx
  have HP := Lib.hid hp
  have HW := Lib.hid hW
  clear hx hp hD hW
  go_enter Tryz.func16, Tryz.ntmps16
  go_upto_region 1 with fail
  rw [HW.out, HP.out]
  go_wp2_with fail
  refine (find x HX.out s p W R0.out).mono ?_
  rintro e w1 ⟨a, F, rfl, hl, hc, k1, hF⟩
  have B1 : Hid (Bel W w1) := Lib.hid k1
  have FI := Lib.hid (show (Tryz.prog.info? 55).map (·.size) = some F.length by rw [hl]; exact info_fld)
  have FI2 := Lib.hid (show (Tryz.prog.info? 55).map (·.size) = some F.toArray.size by rw [List.size_toArray, hl]; exact info_fld)
  have FO := Lib.hid (all_oneCell_toArray hc)
  obtain ⟨p1, p2, p3⟩ := put5 w1 F hl
  have P1 := Lib.hid p1
  have P2 := Lib.hid p2
  have P3 := Lib.hid p3
  have HF := Lib.hid hF
  clear hl hc k1 hF p1 p2 p3
  go_upto_region 2 with (refine wpList_store_mid rfl 55 (.tmp 6) (.tmp 11) rfl w1.heap.size 0 F.toArray rfl rfl P1.out FI2.out FO.out ?_)
  obtain ⟨f, hf⟩ : ∃ f, w1.heap.size = f := ⟨_, rfl⟩
  obtain ⟨V, hV⟩ : ∃ V, (w1.alloc ZF).setCells w1.heap.size 0 F = V := ⟨_, rfl⟩
  have hV' := hV
  rw [hf] at hV' ⊢
  rw [hV] at P2 P3
  rw [hf] at P3
  rw [hV']
  clear hV hV' hf
  rcases HF.out with ⟨rfl, hC, i, c, hi, hn, hfst, hFe, hcc, hge⟩ | ⟨ha, hFe, herr⟩
  · have hcell := P3.out.cell 3 (v := .func (.func (gf i)) #[] #[.pointer (some ⟨c, 0, none⟩)]) (by rw [hFe]; rfl)
    have CF := enter_gf i hi
    have GA := Lib.hid (getAt c p i x V hi (cell_bel hcc P2.out) (rng_bel (rng_bel R0.out B1.out) P2.out))
    have HN := Lib.hid (show At s i from ⟨hi, hn, hfst⟩)
    have HC := Lib.hid hC
    obtain ⟨v, hv⟩ : ∃ v, wv x i = v := ⟨_, rfl⟩
    obtain ⟨g, hg⟩ : ∃ g, gf i = g := ⟨_, rfl⟩
    rw [hg] at hcell CF GA
    rw [hv] at GA
    have HV := Lib.hid hv
    clear hi hn hfst hFe hcc hge hC hv hg
    go_wp2_with fail
    refine GA.out.mono ?_
    rintro e w2 ⟨rfl, rfl⟩
    go_wp2_with fail
    go_ret2
    exact ⟨v, 0, rfl, .inl ⟨rfl, HC.out, i, HN.out, HV.out.symm⟩, (B0.out.trans B1.out).trans P2.out⟩
  · have HE := Lib.hid herr
    clear hFe herr
    go_wp2_with fail
    go_ret2
    exact ⟨0, a, rfl, .inr ⟨ha, rfl, HE.out⟩, (B0.out.trans B1.out).trans P2.out⟩
end Pm
end Go.Proofs.YtpohcdfmkcfonaaGreatDoor
end

section
/-
  What params.Set answers in this program. Conditions: the eleven numbers are of their kinds; the number that is set is below 2^64.
-/
namespace Go.Proofs.YtpohcdfmkcfonaaGreatDoor
open Go.RowKit Go.Shelf
set_option linter.unusedVariables false
namespace Pm
open Kk

def upd (x : Nat → Int) (i : Nat) (v : Int) : Nat → Int := fun j => if j = i then v else x j
/-- What the second closure of the field i lays there. -/
def sv (i : Nat) (n : Int) : Int := if isU i then n else wrap64 n
theorem kinds_upd {x : Nat → Int} (h : Kinds x) (i : Nat) (n : Int) (h0 : 0 ≤ n) (h1 : n ≤ 18446744073709551615) : Kinds (upd x i (sv i n)) := by
  intro j hj
  unfold upd
  by_cases e : j = i
  · rw [if_pos e]
    subst e
    unfold sv
    cases hu : isU j with
    | true =>
      refine ⟨fun _ => ?_, fun hh => Bool.noConfusion hh⟩
      rw [if_pos rfl]
      exact ⟨h0, h1⟩
    | false =>
      refine ⟨fun hh => Bool.noConfusion hh, fun _ => ?_⟩
      rw [if_neg Bool.false_ne_true]
      unfold wrap64
      omega
  · rw [if_neg e]
    exact h j hj
theorem rec_upd (x : Nat → Int) (i : Nat) (hi : i < 11) (v : Int) : (recC x).toArray.setIfInBounds i (.int (kd i) v) = (recC (upd x i v)).toArray := by
  match i, hi with
  | 0, _ => rfl
  | 1, _ => rfl
  | 2, _ => rfl
  | 3, _ => rfl
  | 4, _ => rfl
  | 5, _ => rfl
  | 6, _ => rfl
  | 7, _ => rfl
  | 8, _ => rfl
  | 9, _ => rfl
  | 10, _ => rfl
  | n + 11, h => omega
theorem sf_or (i : Nat) (hi : i < 11) : sf i = 67 ∨ sf i = 69 := by
  match i, hi with
  | 0, _ => exact .inl rfl
  | 1, _ => exact .inl rfl
  | 2, _ => exact .inl rfl
  | 3, _ => exact .inl rfl
  | 4, _ => exact .inl rfl
  | 5, _ => exact .inl rfl
  | 6, _ => exact .inl rfl
  | 7, _ => exact .inr rfl
  | 8, _ => exact .inr rfl
  | 9, _ => exact .inl rfl
  | 10, _ => exact .inr rfl
  | n + 11, h => omega
theorem enter_sf (i : Nat) (hi : i < 11) (args : Array Value) (w : World) : (callFunc (sf i) args).run Tryz.prog w = .ok (.enter (sf i) args) w := by
  rcases sf_or i hi with h | h
  · rw [h]
    go_simp
  · rw [h]
    go_simp
/-- The second closure of the field i. -/
theorem setAt (c p i : Nat) (x : Nat → Int) (n : Int) (w : World) (hi : i < 11) (hc : w.cell? ⟨c, 0, none⟩ = some (.pointer (some ⟨p, i, none⟩))) (hr : Blk w p (recC x).toArray 24) :
    Calls Tryz.prog (sf i) #[.int .u64 n, .pointer (some ⟨c, 0, none⟩)] w fun e w' => e = .returned (.tuple #[]) ∧ Blk w' p (recC (upd x i (sv i n))).toArray 24 ∧ Kep (fun k => k = p) w w' := by
  have hv := rec_cell (rngB hr) i hi
  have hf := hr.frozen i
  have hK := Kep.set_self (Kep.refl (fun k => k = p) w) i (.int (kd i) (sv i n))
  have hB := hr.set i (.int (kd i) (sv i n))
  rw [rec_upd x i hi] at hB
  match i, hi with
  | 0, _ => exact (setI c p _ _ n w hc hv hf).mono fun e w' h => ⟨h.1, by rw [h.2]; exact hB, by rw [h.2]; exact hK⟩
  | 1, _ => exact (setI c p _ _ n w hc hv hf).mono fun e w' h => ⟨h.1, by rw [h.2]; exact hB, by rw [h.2]; exact hK⟩
  | 2, _ => exact (setI c p _ _ n w hc hv hf).mono fun e w' h => ⟨h.1, by rw [h.2]; exact hB, by rw [h.2]; exact hK⟩
  | 3, _ => exact (setI c p _ _ n w hc hv hf).mono fun e w' h => ⟨h.1, by rw [h.2]; exact hB, by rw [h.2]; exact hK⟩
  | 4, _ => exact (setI c p _ _ n w hc hv hf).mono fun e w' h => ⟨h.1, by rw [h.2]; exact hB, by rw [h.2]; exact hK⟩
  | 5, _ => exact (setI c p _ _ n w hc hv hf).mono fun e w' h => ⟨h.1, by rw [h.2]; exact hB, by rw [h.2]; exact hK⟩
  | 6, _ => exact (setI c p _ _ n w hc hv hf).mono fun e w' h => ⟨h.1, by rw [h.2]; exact hB, by rw [h.2]; exact hK⟩
  | 7, _ => exact (setU c p _ _ n w hc hv hf).mono fun e w' h => ⟨h.1, by rw [h.2]; exact hB, by rw [h.2]; exact hK⟩
  | 8, _ => exact (setU c p _ _ n w hc hv hf).mono fun e w' h => ⟨h.1, by rw [h.2]; exact hB, by rw [h.2]; exact hK⟩
  | 9, _ => exact (setI c p _ _ n w hc hv hf).mono fun e w' h => ⟨h.1, by rw [h.2]; exact hB, by rw [h.2]; exact hK⟩
  | 10, _ => exact (setU c p _ _ n w hc hv hf).mono fun e w' h => ⟨h.1, by rw [h.2]; exact hB, by rw [h.2]; exact hK⟩
  | n + 11, h => omega

def zr : Nat → Int := fun _ => 0
/-- What Set answers: the record y, or why none. -/
def St (x : Nat → Int) (s : ByteArray) (n : Int) (y : Nat → Int) (a : Int) : Prop :=
  (a = 0 ∧ Chk x 0 0 ∧ ∃ i, At s i ∧ y = upd x i (sv i n) ∧ Chk y 0 0) ∨ (a ≠ 0 ∧ y = zr ∧ (FErr x s a ∨ (Chk x 0 0 ∧ ∃ i b, At s i ∧ Chk (upd x i (sv i n)) a b)))
def SetE (x : Nat → Int) (s : ByteArray) (n : Int) (w : World) (e : Ending) (w' : World) : Prop := ∃ y a, e = .returned (.tuple #[.agg (List.toArray (recC y)), .int .i64 a]) ∧ St x s n y a ∧ Bel w w'

/-- A record stored into the result's cell. -/
theorem store_rec {w : World} {r : Nat} {y z : Nat → Int} (h : Blk w r (recC y).toArray 24) : w.there r 0 (recC z).toArray.size ∧ Blk (w.setCells r 0 (recC z)) r (recC z).toArray 24 :=
  ⟨bthere h 0 _ (Nat.le_refl 11), bwhole h rfl⟩

end Pm
end Go.Proofs.YtpohcdfmkcfonaaGreatDoor
end
