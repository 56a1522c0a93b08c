/-
  Texts of this claim, put together: KPerm, KPut, KPermute, KSp, KWord, KAbsorb, KFill, KNew, KTake, KSum, KSum2. What each one says, and under which conditions, stands ahead of it.
-/
import Derived.Laws.CopyOwn
import Derived.Lib.SliceRun
import Derived.Test.YtgalhpejihmhkaaDoorGA

section
/-
  What newState, permuted and Permute answer in this program: the rounds of the words. Condition: the table of turns lies in its variable.
-/
namespace Go.Proofs.YtgalhpejihmhkaaDoor
open Go.RowKit Go.Shelf
set_option linter.unusedVariables false
namespace Kk

abbrev Z50 : Obj := .cells #[.int .u64 0, .int .u64 0, .int .u64 0, .int .u64 0, .int .u64 0, .int .u64 0, .int .u64 0, .int .u64 0, .int .u64 0, .int .u64 0, .int .u64 0, .int .u64 0, .int .u64 0, .int .u64 0, .int .u64 0, .int .u64 0, .int .u64 0, .int .u64 0, .int .u64 0, .int .u64 0, .int .u64 0, .int .u64 0, .int .u64 0, .int .u64 0, .int .u64 0, .int .u64 0, .int .u64 0, .int .u64 0, .int .u64 0, .int .u64 0, .int .u64 0, .int .u64 0, .int .u64 0, .int .u64 0, .int .u64 0, .int .u64 0, .int .u64 0, .int .u64 0, .int .u64 0, .int .u64 0, .int .u64 0, .int .u64 0, .int .u64 0, .int .u64 0, .int .u64 0, .int .u64 0, .int .u64 0, .int .u64 0, .int .u64 0, .int .i64 0] 73
/-- A state as a value. -/
abbrev stV (A : List Wd) (r : Int) : Value := .agg (stCells A r).toArray
theorem all_st (A : List Wd) (r : Int) : ∀ v ∈ stCells A r, v.oneCell' = true := by
  intro v hv
  rcases List.mem_append.1 hv with h | h
  · exact ints1 A v h
  · rcases List.mem_append.1 h with h | h
    · exact ints1 K v h
    · simp at h; subst h; rfl
theorem info_st : (Tryd.prog.info? 73).map (·.size) = some 50 := by kernel_rfl
theorem st_new {w : World} {A : List Wd} {r : Int} (h : A.length = 25) : St (w.alloc (.cells (stCells A r).toArray 73)) w.heap.size A r := ⟨h, Blk.new _ _ _⟩
theorem St.range {w : World} {b : Nat} {A : List Wd} {r : Int} (h : St w b A r) : w.rangeAt b 0 (stCells A r) := fun j v hv => by
  rw [Nat.zero_add]
  exact h.2.cell j (by rw [List.getElem?_toArray]; exact hv)

theorem there_bel {w w' : World} {g n : Nat} (h : w.there g 0 n) (hb : Bel w w') : w'.there g 0 n := fun j hj => by
  obtain ⟨h1, h2⟩ := h j hj
  obtain ⟨v, hv⟩ := Option.isSome_iff_exists.1 h1
  have hl : g < w.heap.size := World.block_lt_of_cell? w _ hv
  refine ⟨?_, ?_⟩
  · rw [Below.cell (p := ⟨g, 0 + j, none⟩) hb hl]; exact h1
  · rw [Below.frozen (p := ⟨g, 0 + j, none⟩) hb hl]; exact h2
theorem build_st : ∃ v, Value.agg (K.map V).toArray = v ∧ ∀ w, (Instr.build 73 #[(1, v)]).run Tryd.prog w = .ok (stV zero 0) w := ⟨_, rfl, fun w => by kernel_rfl⟩
theorem size_setCells (g : Nat) : ∀ (vs : List Value) (o : Nat) (w : World), (w.setCells g o vs).heap.size = w.heap.size
  | [], _, _ => rfl
  | v :: r, o, w => by
    rw [World.setCells, size_setCells g r (o + 1)]
    simp
theorem wpList_build {ops : Array Oper} {rest : List Oper} {op : Oper} {a : Act} {w : World} {Q : Exit → Act → World → Prop} (hgd : op.guard = none) (t : TypeId) (i : Nat) (x : Operand) (ho : op.op = .build t #[(i, x)])
    (u v : Value) (hx : a.eval x = u) (hb : ∀ w, (Instr.build t #[(i, u)]).run Tryd.prog w = .ok v w)
    (h : wpList Tryd.prog ops Q rest (a.put op.dst v) w) : wpList Tryd.prog ops Q (op :: rest) a w :=
  wpList_plain hgd fun _ hK => by
    unfold Oper.wp execOp
    simp [ho, hx, hb, Oper.upon]
    exact hK _ _ h
theorem there_new {w : World} {C : Array Value} {t : TypeId} {n : Nat} (h : n ≤ C.size) : (w.alloc (.cells C t)).there w.heap.size 0 n := there_newK h

set_option maxRecDepth 100000 in
set_option maxHeartbeats 1000000 in
theorem newState (w : World) : Calls Tryd.prog 65 #[] w fun e w' => e = .returned (stV zero 0) ∧ Bel w w' := by
  obtain ⟨v, hv, hB⟩ := build_st
  have HV := Lib.hid hv
  obtain ⟨C, hC⟩ : ∃ C, C = stCells zero 0 := ⟨_, rfl⟩
  have HC := Lib.hid hC
  have HCl := Lib.hid (show C.length = 50 by rw [hC]; exact len_st (by rfl) _)
  have HCo := Lib.hid (all_oneCell_toArray (cs := C) (by rw [hC]; exact all_st _ _))
  have HCs := Lib.hid (show C.toArray.size = 50 by rw [List.size_toArray]; exact HCl.out)
  have HI := Lib.hid (show (Tryd.prog.info? 73).map (·.size) = some C.toArray.size by rw [HCs.out]; exact info_st)
  have HI2 := Lib.hid (show (Tryd.prog.info? 73).map (·.size) = some C.length by rw [HCl.out]; exact info_st)
  rw [show stV zero 0 = .agg C.toArray by rw [hC]] at hB ⊢
  have HBB := Lib.hid hB
  clear hv hC hB
  go_enter Tryd.func65, Tryd.ntmps65
  go_wp2_with fail
  refine (keys _).mono ?_
  rintro e w1 ⟨rfl, h1⟩
  have TH0 : (w.alloc Z50).there w.heap.size 0 C.toArray.size := by rw [HCs.out]; exact there_new (by decide)
  have TH := Lib.hid (there_bel TH0 h1)
  have HB := Lib.hid (((Bel.refl w).alloc Z50).trans h1)
  clear h1 TH0
  rw [HV.out]
  go_wp2_with (first | (refine wpList_build rfl 73 1 (.tmp 1) rfl v _ rfl HBB.out ?_) | refine wpList_store_mid rfl 73 (.tmp 0) (.tmp 2) rfl w.heap.size 0 C.toArray rfl rfl TH.out HI.out HCo.out ?_)
  have RG : (w1.setCells w.heap.size 0 C.toArray.toList).rangeAt w.heap.size 0 C := World.rangeAt_setCells_same _ _ _ _ (by have := TH.out; rw [HCs.out] at this; rw [HCl.out]; exact this)
  refine bodyPost_ret (results_c1 Tryd.results65 _ _ ⟨w.heap.size, 0, none⟩ _ rfl (run_loadVar_mid (P := Tryd.prog) _ w.heap.size 0 73 C _ RG Tryd.underlying73 rfl HI2.out)) rfl ⟨rfl, ?_⟩
  exact Kep.bel HB.out (kep_setCellsK w.heap.size C 0 w1) (fun i hi => by rw [hi]; exact Nat.le_refl _)


abbrev FO : Obj := .cells #[Value.nilFunc, Value.nilFunc, Value.nilFunc, Value.nilFunc] 134
/-- The words behind j steps of a round with key k. -/
def stepJ (A : List Wd) (k : Wd) : Nat → List Wd
  | 0 => A
  | 1 => theta A
  | 2 => rhoPi (theta A)
  | 3 => chi (rhoPi (theta A))
  | _ => round A k
abbrev stepF (h f : Nat) : Value := .func (.func f) #[.pointer (some ⟨h, 0, none⟩)] #[]
abbrev stepsL (h : Nat) : List Value := [stepF h 86, stepF h 87, stepF h 88, stepF h 89]

/-- The world in which the rounds begin. -/
structure Begun (w : World) (h : Nat) (A : List Wd) (r : Int) (w1 : World) : Prop where
  hh : h = w.heap.size
  st : St w1 h A r
  tn : Tn w1
  there : w1.there (h + 1) 0 50
  fs : w1.rangeAt (h + 1 + 1) 0 (stepsL h)
  bel : Bel w w1
  size : w1.heap.size = h + 3
theorem begun (A : List Wd) (r : Int) (w : World) (C : Array Value) (hC : C = (stCells A r).toArray) (hA : A.length = 25) (hT : Tn w) (h : Nat) (hh : h = w.heap.size) :
    Begun w h A r ((((w.alloc (.cells C 73)).alloc Z50).alloc FO).setCells (h + 1 + 1) 0 (stepsL h)) := by
  obtain ⟨W3, hW3⟩ : ∃ W3, W3 = ((w.alloc (.cells C 73)).alloc Z50).alloc FO := ⟨_, rfl⟩
  have B3 : Bel w W3 := by rw [hW3]; exact (((Bel.refl w).alloc _).alloc _).alloc _
  have B1 : Bel (w.alloc (.cells C 73)) W3 := by rw [hW3]; exact ((Bel.refl _).alloc _).alloc _
  have N3 : W3.there (h + 1) 0 50 := by
    rw [hW3]
    have := there_newK (w := w.alloc (.cells C 73)) (C := #[.int .u64 0, .int .u64 0, .int .u64 0, .int .u64 0, .int .u64 0, .int .u64 0, .int .u64 0, .int .u64 0, .int .u64 0, .int .u64 0, .int .u64 0, .int .u64 0, .int .u64 0, .int .u64 0, .int .u64 0, .int .u64 0, .int .u64 0, .int .u64 0, .int .u64 0, .int .u64 0, .int .u64 0, .int .u64 0, .int .u64 0, .int .u64 0, .int .u64 0, .int .u64 0, .int .u64 0, .int .u64 0, .int .u64 0, .int .u64 0, .int .u64 0, .int .u64 0, .int .u64 0, .int .u64 0, .int .u64 0, .int .u64 0, .int .u64 0, .int .u64 0, .int .u64 0, .int .u64 0, .int .u64 0, .int .u64 0, .int .u64 0, .int .u64 0, .int .u64 0, .int .u64 0, .int .u64 0, .int .u64 0, .int .u64 0, .int .i64 0]) (t := 73) (n := 50) (by decide)
    rw [World.size_alloc, ← hh] at this
    exact there_bel this ((Bel.refl _).alloc _)
  have S3 : St W3 h A r := by
    have : St (w.alloc (.cells C 73)) w.heap.size A r := by rw [hC]; exact st_new hA
    rw [hh]
    exact this.bel B1
  have TF2 : W3.there (h + 1 + 1) 0 (stepsL h).length := by
    rw [hW3, hh]
    have := there_newK (w := (w.alloc (.cells C 73)).alloc Z50) (C := #[Value.nilFunc, Value.nilFunc, Value.nilFunc, Value.nilFunc]) (t := 134) (n := 4) (by decide)
    rwa [World.size_alloc, World.size_alloc] at this
  have HS3 : W3.heap.size = h + 3 := by rw [hW3, hh]; simp
  have h0 := hT.1
  rw [← hW3]
  have K1 : Kep (fun i => i = h + 1 + 1) W3 (W3.setCells (h + 1 + 1) 0 (stepsL h)) := kep_setCellsK _ _ _ _
  exact ⟨hh, S3.kep K1 (by omega), (hT.bel B3).kep K1 (by omega), World.there_setCells N3 _ _ _, World.rangeAt_setCells_same _ _ _ _ TF2, Kep.bel B3 K1 (fun i hi => by rw [hi, hh]; omega), by rw [size_setCells, HS3]⟩

/-- A state behind k rounds: its number is that of the last one. -/
def RSt (w : World) (b : Nat) (A : List Wd) (k : Nat) : Prop := ∃ r : Int, (1 ≤ k → r = (k : Int) - 1) ∧ St w b A r
theorem range_kep {S : Nat → Prop} {w w' : World} {b o : Nat} {cs : List Value} (h : w.rangeAt b o cs) (hk : Kep S w w') (hs : ¬ S b) : w'.rangeAt b o cs := fun j v hv => hk.cell hs (h j v hv)

theorem idx_func (cs : Array Value) (i : Nat) (v : Value) (hi : i < 4) (hv : cs[i]? = some v) (w : World) :
    (Instr.index 134 (.agg cs) (.int .i64 (i : Int))).run Tryd.prog w = .ok v w := by
  have hn : 0 ≤ (i : Int) ∧ (i : Int) < ((4 : Nat) : Int) := by omega
  have ha : ∀ w, (isAgg 1).run Tryd.prog w = .ok false w := Tryd.isAgg1
  have hs : ∀ w, (sizeOf 1).run Tryd.prog w = .ok 1 w := Tryd.sizeOf1
  simp [Instr.index, run_underlying Tryd.underlying134, asIntOf, hn, part, ha, hs, hv]
  intro h; omega
theorem there_kep {S : Nat → Prop} {w w' : World} {g n : Nat} (h : w.there g 0 n) (hk : Kep S w w') (hs : ¬ S g) : w'.there g 0 n := fun j hj => by
  obtain ⟨h1, h2⟩ := h j hj
  obtain ⟨v, hv⟩ := Option.isSome_iff_exists.1 h1
  have hl : g < w.heap.size := World.block_lt_of_cell? w _ hv
  have hb := hk.block g hl hs
  exact ⟨by rw [World.cell?_of_block (w := w) (a := ⟨g, 0 + j, none⟩) hb]; exact h1, by rw [World.frozen?_of_block (w := w) (a := ⟨g, 0 + j, none⟩) hb]; exact h2⟩

set_option maxRecDepth 100000 in
set_option maxHeartbeats 2000000 in
theorem permuted (A : List Wd) (r : Int) (w : World) (hA : A.length = 25) (hT : Tn w) :
    Calls Tryd.prog 84 #[stV A r] w fun e w' => e = .returned (stV (perm A) 23) ∧ Bel w w' := by
  have h0 := hT.1
  obtain ⟨C, hC⟩ : ∃ C, C = (stCells A r).toArray := ⟨_, rfl⟩
  have HBG := Lib.hid (begun A r w C hC hA hT w.heap.size rfl)
  rw [show stV A r = .agg C by rw [hC]]
  have TF0 : (((w.alloc (.cells C 73)).alloc Z50).alloc FO).there (w.heap.size + 1 + 1) 0 (stepsL w.heap.size).toArray.size := by
    have := there_newK (w := (w.alloc (.cells C 73)).alloc Z50) (C := #[Value.nilFunc, Value.nilFunc, Value.nilFunc, Value.nilFunc]) (t := 134) (n := 4) (by decide)
    rwa [World.size_alloc, World.size_alloc] at this
  have TF := Lib.hid TF0
  have HF := Lib.hid (show (Tryd.prog.info? 134).map (·.size) = some (stepsL w.heap.size).toArray.size by kernel_rfl)
  have HO := Lib.hid (show (stepsL w.heap.size).toArray.all (·.oneCell') = true by simp [Value.oneCell'])
  clear TF0 hT hC
  go_enter Tryd.func84, Tryd.ntmps84
  go_wp2_with (refine wpList_store_mid rfl 134 (.tmp 3) (.tmp 11) rfl (w.heap.size + 1 + 1) 0 (stepsL w.heap.size).toArray rfl rfl TF.out HF.out HO.out ?_)
  obtain ⟨w1, hw1⟩ : ∃ w1, (((w.alloc (.cells C 73)).alloc Z50).alloc FO).setCells (w.heap.size + 1 + 1) 0 (stepsL w.heap.size) = w1 := ⟨_, rfl⟩
  rw [hw1] at HBG ⊢
  obtain ⟨h, hh⟩ : ∃ h, h = w.heap.size := ⟨_, rfl⟩
  rw [← hh] at HBG h0 ⊢
  clear hw1 hh TF HF HO
  have hh0 : h ≠ 0 := by omega
  go_loopw [12] (fun i wr => ∃ k : Nat, i = .int .i64 k ∧ k ≤ 24 ∧ RSt wr h (permN k A) k ∧ Kep (fun i => i = h) w1 wr) (fun i _ => 24 - (intOf i).toNat)
  case atStart => exact ⟨0, rfl, by omega, ⟨r, by omega, HBG.out.st⟩, Kep.refl _ _⟩
  case round =>
    obtain ⟨k, rfl, hk, ⟨r', hr', hs⟩, hkep⟩ := hrel
    have HS := Lib.hid hs
    have HR := Lib.hid hr'
    have HK := Lib.hid hkep
    by_cases hlt : k < 24
    · have c49 := hs.rnd
      have f49 := hs.frozen 49
      have RF := range_kep HBG.out.fs hkep (by omega)
      have d0 : wr.cell? ⟨h + 1 + 1, 0, none⟩ = some (stepF h 86) := RF 0 _ rfl
      have d1 : wr.cell? ⟨h + 1 + 1, 1, none⟩ = some (stepF h 87) := RF 1 _ rfl
      have d2 : wr.cell? ⟨h + 1 + 1, 2, none⟩ = some (stepF h 88) := RF 2 _ rfl
      have d3 : wr.cell? ⟨h + 1 + 1, 3, none⟩ = some (stepF h 89) := RF 3 _ rfl
      have S2 := Lib.hid (hs.setRound (k : Int))
      have K2 := Lib.hid (hkep.set_self 49 (.int .i64 (k : Int)))
      have PS := Lib.hid (permN_succ hlt A)
      clear hs hkep hr' RF
      go_wp2
      obtain ⟨w2, hw2⟩ : ∃ w2, wr.setCell ⟨h, 49, none⟩ (.int .i64 (k : Int)) = w2 := ⟨_, rfl⟩
      rw [hw2] at S2 K2 ⊢
      rw [show decide ((k : Int) < 24) = true from decide_eq_true (by omega)]
      clear hw2 c49 f49 d0 d1 d2 d3 HS HR HK
      go_loopw [18] (fun i wr => ∃ j : Nat, i = .int .i64 j ∧ j ≤ 4 ∧ St wr h (stepJ (permN k A) (g K k) j) k ∧ Kep (fun i => i = h) w1 wr) (fun i _ => 4 - (intOf i).toNat)
      case atStart => exact ⟨0, rfl, by omega, S2.out, K2.out⟩
      case round =>
        obtain ⟨j, rfl, hj, hs, hkep⟩ := hrel
        have HS := Lib.hid hs
        have HK := Lib.hid hkep
        have HT := Lib.hid (HBG.out.tn.kep hkep (fun e => hh0 e.symm))
        clear hs hkep S2 K2
        obtain rfl | rfl | rfl | rfl | rfl : j = 0 ∨ j = 1 ∨ j = 2 ∨ j = 3 ∨ j = 4 := by omega
        · have ix := fun w => idx_func #[stepF h 86, stepF h 87, stepF h 88, stepF h 89] 0 (stepF h 86) (by omega) rfl w
          rw [show ((0 : Nat) : Int) = 0 from rfl] at ix
          go_wp2_with fail
          refine (mixColumns h _ (k : Int) _ HS.out).mono ?_
          rintro e w4 ⟨rfl, h4, k4⟩
          have H4 := Lib.hid h4
          have K4 := Lib.hid (HK.out.trans k4)
          clear h4 k4
          go_wp2
          go_roundw
          case rel => exact ⟨1, rfl, by omega, H4.out, K4.out⟩
          case measure => simp [intOf] <;> omega
        · have ix := fun w => idx_func #[stepF h 86, stepF h 87, stepF h 88, stepF h 89] 1 (stepF h 87) (by omega) rfl w
          rw [show ((1 : Nat) : Int) = 1 from rfl] at ix
          go_wp2_with fail
          refine (moveWords h _ (k : Int) _ HS.out HT.out hh0).mono ?_
          rintro e w4 ⟨rfl, h4, k4⟩
          have H4 := Lib.hid h4
          have K4 := Lib.hid (HK.out.trans k4)
          clear h4 k4
          go_wp2
          go_roundw
          case rel => exact ⟨2, rfl, by omega, H4.out, K4.out⟩
          case measure => simp [intOf] <;> omega
        · have ix := fun w => idx_func #[stepF h 86, stepF h 87, stepF h 88, stepF h 89] 2 (stepF h 88) (by omega) rfl w
          rw [show ((2 : Nat) : Int) = 2 from rfl] at ix
          go_wp2_with fail
          refine (bendRows h _ (k : Int) _ HS.out).mono ?_
          rintro e w4 ⟨rfl, h4, k4⟩
          have H4 := Lib.hid h4
          have K4 := Lib.hid (HK.out.trans k4)
          clear h4 k4
          go_wp2
          go_roundw
          case rel => exact ⟨3, rfl, by omega, H4.out, K4.out⟩
          case measure => simp [intOf] <;> omega
        · have ix := fun w => idx_func #[stepF h 86, stepF h 87, stepF h 88, stepF h 89] 3 (stepF h 89) (by omega) rfl w
          rw [show ((3 : Nat) : Int) = 3 from rfl] at ix
          go_wp2_with fail
          refine (addKey h _ k _ HS.out hlt).mono ?_
          rintro e w4 ⟨rfl, h4, k4⟩
          have H4 := Lib.hid h4
          have K4 := Lib.hid (HK.out.trans k4)
          clear h4 k4
          go_wp2
          go_roundw
          case rel => exact ⟨4, rfl, by omega, H4.out, K4.out⟩
          case measure => simp [intOf] <;> omega
        · go_wp2
          go_roundw
          case rel => exact ⟨k + 1, by go_num, by omega, ⟨k, by omega, by rw [PS.out]; exact HS.out⟩, HK.out⟩
          case measure => simp [intOf] <;> omega
    · obtain rfl : k = 24 := by omega
      have er : r' = 23 := by have := HR.out (by omega); omega
      subst er
      have hA24 : (permN 24 A).length = 25 := hs.len
      obtain ⟨D, hD⟩ : ∃ D, D = stCells (permN 24 A) 23 := ⟨_, rfl⟩
      have HDl := Lib.hid (show D.length = 50 by rw [hD]; exact len_st hs.len _)
      have HDo := Lib.hid (all_oneCell_toArray (cs := D) (by rw [hD]; exact all_st _ _))
      have HDs := Lib.hid (show D.toArray.size = 50 by rw [List.size_toArray]; exact HDl.out)
      have HI := Lib.hid (show (Tryd.prog.info? 73).map (·.size) = some D.toArray.size by rw [HDs.out]; exact info_st)
      have HI2 := Lib.hid (show (Tryd.prog.info? 73).map (·.size) = some D.length by rw [HDl.out]; exact info_st)
      have RG := Lib.hid (show wr.rangeAt h 0 D by rw [hD]; exact hs.range)
      have TH := Lib.hid (show wr.there (h + 1) 0 D.toArray.size by rw [HDs.out]; exact there_kep HBG.out.there hkep (by omega))
      have HDD := Lib.hid hD
      clear hs hkep HS HR hr' hD
      go_wp2_with (first | (refine wpList_load_mid rfl 73 (.tmp 1) rfl h 0 rfl D _ RG.out Tryd.underlying73 rfl HI2.out ?_) | (refine wpList_store_mid rfl 73 (.tmp 2) (.tmp 25) rfl (h + 1) 0 D.toArray rfl rfl TH.out HI.out HDo.out ?_))
      have RE : (wr.setCells (h + 1) 0 D).rangeAt (h + 1) 0 D := World.rangeAt_setCells_same _ _ _ _ (by have := TH.out; rw [HDs.out] at this; rw [HDl.out]; exact this)
      refine bodyPost_ret (results_c1 Tryd.results84 _ _ ⟨h + 1, 0, none⟩ _ rfl (run_loadVar_mid (P := Tryd.prog) _ (h + 1) 0 73 D _ RE Tryd.underlying73 rfl HI2.out)) rfl ⟨by rw [HDD.out]; rfl, ?_⟩
      refine Kep.bel HBG.out.bel ((HK.out.mono (T := fun i => i = h ∨ i = h + 1) (fun _ _ e => .inl e)).trans ((kep_setCellsK (h + 1) D 0 wr).mono (fun _ _ e => .inr e))) (fun i hi => ?_)
      have := HBG.out.hh
      rcases hi with hi | hi <;> omega
end Kk
end Go.Proofs.YtgalhpejihmhkaaDoor
end

section
/-
  A row of cells that is stored into the middle of a block that is known whole. No condition.
-/
namespace Go.Proofs.YtgalhpejihmhkaaDoor
open Go.RowKit Go.Shelf
set_option linter.unusedVariables false
namespace Kk

def putA (C : Array Value) (o : Nat) : List Value → Array Value
  | [] => C
  | v :: r => putA (C.setIfInBounds o v) (o + 1) r
theorem blk_setCells {b : Nat} {t : TypeId} : ∀ (vs : List Value) (o : Nat) (w : World) (C : Array Value), Blk w b C t → Blk (w.setCells b o vs) b (putA C o vs) t
  | [], _, _, _, h => h
  | v :: r, o, w, C, h => blk_setCells r (o + 1) (w.setCell ⟨b, o, none⟩ v) (C.setIfInBounds o v) (h.set o v)
theorem putA_mid : ∀ (vs mid pre post : List Value), mid.length = vs.length → putA (pre ++ (mid ++ post)).toArray pre.length vs = (pre ++ (vs ++ post)).toArray
  | [], mid, pre, post, h => by
    have : mid = [] := List.length_eq_zero_iff.1 h
    subst this
    rfl
  | v :: r, [], pre, post, h => by cases h
  | v :: r, m :: mid, pre, post, h => by
    have e : (pre ++ (m :: mid ++ post)).toArray.setIfInBounds pre.length v = ((pre ++ [v]) ++ (mid ++ post)).toArray := by
      rw [List.setIfInBounds_toArray, List.set_append_right _ _ (Nat.le_refl _), Nat.sub_self]
      simp
    show putA ((pre ++ (m :: mid ++ post)).toArray.setIfInBounds pre.length v) (pre.length + 1) r = _
    rw [e, show pre.length + 1 = (pre ++ [v]).length by simp, putA_mid r mid (pre ++ [v]) post (by simpa using h)]
    simp
/-- A row stored into the middle. -/
theorem Blk.mid {w : World} {b : Nat} {t : TypeId} {pre mid post vs : List Value} (h : Blk w b (pre ++ (mid ++ post)).toArray t) (hl : mid.length = vs.length) : Blk (w.setCells b pre.length vs) b (pre ++ (vs ++ post)).toArray t := by
  have := blk_setCells vs pre.length w _ h
  rwa [putA_mid vs mid pre post hl] at this
theorem Blk.whole {w : World} {b : Nat} {t : TypeId} {C : Array Value} {vs : List Value} (h : Blk w b C t) (hl : C.size = vs.length) : Blk (w.setCells b 0 vs) b vs.toArray t := by
  have h2 : Blk w b ([] ++ (C.toList ++ [])).toArray t := by simpa using h
  have := Blk.mid (vs := vs) h2 (by simpa using hl)
  simpa using this
theorem Blk.range {w : World} {b : Nat} {t : TypeId} {pre mid post : List Value} (h : Blk w b (pre ++ (mid ++ post)).toArray t) : w.rangeAt b pre.length mid := fun j v hv => by
  have hj : j < mid.length := (List.getElem?_eq_some_iff.1 hv).1
  refine h.cell _ ?_
  rw [List.getElem?_toArray, List.getElem?_append_right (by omega), Nat.add_sub_cancel_left, List.getElem?_append_left hj]
  exact hv
theorem Blk.there {w : World} {b : Nat} {t : TypeId} {C : Array Value} (h : Blk w b C t) (o n : Nat) (hn : o + n ≤ C.size) : w.there b o n := fun j hj =>
  ⟨by rw [h.cell (o + j) (Array.getElem?_eq_getElem (by omega))]; rfl, h.frozen _⟩
theorem st_stored {w : World} {b : Nat} {Z : List Value} {A : List Wd} {r : Int} (hZ : Z = stCells A r) (hA : A.length = 25) {C : Array Value} (hb : Blk w b C 73) (hC : C.size = 50) : St (w.setCells b 0 Z) b A r := by
  subst hZ
  exact ⟨hA, hb.whole (by rw [hC, len_st hA])⟩
end Kk
end Go.Proofs.YtgalhpejihmhkaaDoor
end

section
/-
  What Permute answers in this program: the permuted words. Condition: the table of turns lies in its variable; 25 words.
-/
namespace Go.Proofs.YtgalhpejihmhkaaDoor
open Go.RowKit Go.Shelf
set_option linter.unusedVariables false
namespace Kk

/-- The words behind n places that were taken over. -/
def taken (A B : List Wd) (n : Nat) : List Wd := (List.range 25).map fun i => if i < n then g B i else g A i
theorem taken0 {A B : List Wd} (h : A.length = 25) : taken A B 0 = A := by
  unfold taken
  simp only [Nat.not_lt_zero, if_false]
  exact map_g h
theorem taken25 {A B : List Wd} (h : B.length = 25) : taken A B 25 = B := by
  rw [← map_g h]
  unfold taken
  apply List.map_congr_left
  intro i hi
  rw [if_pos (by simpa using hi), map_g h]
theorem taken_len (A B : List Wd) (n : Nat) : (taken A B n).length = 25 := by simp [taken]
theorem taken_succ (A B : List Wd) (n : Nat) : (taken A B n).set n (g B n) = taken A B (n + 1) := by
  unfold taken
  rw [set_map]
  apply List.map_congr_left
  intro i _
  by_cases h : i = n
  · subst h; simp
  · rw [if_neg h]
    by_cases h2 : i < n
    · rw [if_pos h2, if_pos (by omega)]
    · rw [if_neg h2, if_neg (by omega)]
theorem word_at {A : List Wd} (h : A.length = 25) {i : Nat} (hi : i < 25) : (A.map V).toArray[i]? = some (.int .u64 (U (g A i))) := by
  unfold g
  rw [List.getElem?_toArray, List.getElem?_map, List.getD_eq_getElem?_getD, List.getElem?_eq_getElem (by omega)]
  rfl
theorem len_zero : zero.length = 25 := by rfl
theorem blk_range {w : World} {b : Nat} {D : List Value} {t : TypeId} (h : Blk w b D.toArray t) : w.rangeAt b 0 D := fun j v hv => by
  rw [Nat.zero_add]
  exact h.cell j (by rw [List.getElem?_toArray]; exact hv)

end Kk
end Go.Proofs.YtgalhpejihmhkaaDoor
end

section
/-
  The cells of a sponge in a block, behind others: how they are read and turned. No condition.
-/
namespace Go.Proofs.YtgalhpejihmhkaaDoor
open Go.RowKit Go.Shelf
set_option linter.unusedVariables false
namespace Kk

abbrev B8 (z : Int) : Value := .int .u8 z
/-- The cells of a sponge: its state, its waiting bytes, their count, how many bytes came in. -/
def spCells (A : List Wd) (r : Int) (bs : List Int) (c n : Int) : List Value := stCells A r ++ (bs.map B8 ++ [.int .i64 c, .int .i64 n])
theorem len_sp {A : List Wd} {bs : List Int} (hA : A.length = 25) (hb : bs.length = 136) (r c n : Int) : (spCells A r bs c n).length = 188 := by
  simp [spCells, len_st hA, hb]
theorem all_sp (A : List Wd) (r : Int) (bs : List Int) (c n : Int) : ∀ v ∈ spCells A r bs c n, v.oneCell' = true := by
  intro v hv
  rcases List.mem_append.1 hv with h | h
  · exact all_st A r v h
  · rcases List.mem_append.1 h with h | h
    · obtain ⟨z, _, rfl⟩ := List.mem_map.1 h; rfl
    · simp at h; rcases h with rfl | rfl <;> rfl
/-- A sponge in a block, behind the cells pre. -/
structure Sp (w : World) (b : Nat) (t : TypeId) (pre : List Value) (A : List Wd) (r : Int) (bs : List Int) (c n : Int) : Prop where
  blk : Blk w b (pre ++ spCells A r bs c n).toArray t
  la : A.length = 25
  lb : bs.length = 136
theorem get_append {α : Type} {pre l : List α} {i : Nat} {v : α} (h : l[i]? = some v) : (pre ++ l)[pre.length + i]? = some v := by
  rw [List.getElem?_append_right (by omega), Nat.add_sub_cancel_left]; exact h
theorem get_head {α : Type} {l m : List α} {i : Nat} {v : α} (h : l[i]? = some v) : (l ++ m)[i]? = some v := by
  rw [List.getElem?_append_left (List.getElem?_eq_some_iff.1 h).1]; exact h
theorem set_append {α : Type} (pre l : List α) (i : Nat) (v : α) : (pre ++ l).set (pre.length + i) v = pre ++ l.set i v := by
  rw [List.set_append_right _ _ (by omega), Nat.add_sub_cancel_left]
theorem set_head {α : Type} (l m : List α) {i : Nat} (h : i < l.length) (v : α) : (l ++ m).set i v = l.set i v ++ m := List.set_append_left _ _ h
section
variable {w : World} {b : Nat} {t : TypeId} {pre : List Value} {A : List Wd} {r : Int} {bs : List Int} {c n : Int}
theorem Sp.cell (h : Sp w b t pre A r bs c n) {i : Nat} {v : Value} (hv : (spCells A r bs c n)[i]? = some v) : w.cell? ⟨b, pre.length + i, none⟩ = some v :=
  h.blk.cell _ (by rw [List.getElem?_toArray]; exact get_append hv)
theorem Sp.frozen (h : Sp w b t pre A r bs c n) (i : Nat) : w.frozen? ⟨b, i, none⟩ = false := h.blk.frozen i
theorem Sp.word (h : Sp w b t pre A r bs c n) {i : Nat} (hi : i < 25) : w.cell? ⟨b, pre.length + i, none⟩ = some (.int .u64 (U (g A i))) := h.cell (get_head (st_word h.la r hi))
theorem sp_byte (hA : A.length = 25) (hb : bs.length = 136) {i : Nat} (hi : i < 136) : (spCells A r bs c n)[50 + i]? = some (.int .u8 (bs.getD i 0)) := by
  have := get_append (pre := stCells A r) (get_head (m := [.int .i64 c, .int .i64 n]) (show (bs.map B8)[i]? = some (.int .u8 (bs.getD i 0)) by
    rw [List.getElem?_map, List.getD_eq_getElem?_getD, List.getElem?_eq_getElem (by omega)]; rfl))
  rwa [len_st hA] at this
theorem Sp.byte (h : Sp w b t pre A r bs c n) {i : Nat} (hi : i < 136) : w.cell? ⟨b, pre.length + 50 + i, none⟩ = some (.int .u8 (bs.getD i 0)) := by
  rw [Nat.add_assoc]; exact h.cell (sp_byte h.la h.lb hi)
theorem sp_count (hA : A.length = 25) (hb : bs.length = 136) : (spCells A r bs c n)[186]? = some (.int .i64 c) := by
  have := get_append (pre := stCells A r) (get_append (pre := bs.map B8) (show ([.int .i64 c, .int .i64 n] : List Value)[0]? = some (.int .i64 c) from rfl))
  rwa [len_st hA, List.length_map, hb] at this
theorem sp_size (hA : A.length = 25) (hb : bs.length = 136) : (spCells A r bs c n)[187]? = some (.int .i64 n) := by
  have := get_append (pre := stCells A r) (get_append (pre := bs.map B8) (show ([.int .i64 c, .int .i64 n] : List Value)[1]? = some (.int .i64 n) from rfl))
  rwa [len_st hA, List.length_map, hb] at this
theorem Sp.count (h : Sp w b t pre A r bs c n) : w.cell? ⟨b, pre.length + 50 + 136, none⟩ = some (.int .i64 c) := by
  rw [show pre.length + 50 + 136 = pre.length + 186 by omega]; exact h.cell (sp_count h.la h.lb)
theorem Sp.size (h : Sp w b t pre A r bs c n) : w.cell? ⟨b, pre.length + 187, none⟩ = some (.int .i64 n) := h.cell (sp_size h.la h.lb)
theorem Sp.set (h : Sp w b t pre A r bs c n) {i : Nat} {v : Value} {A' : List Wd} {r' : Int} {bs' : List Int} {c' n' : Int} (e : (spCells A r bs c n).set i v = spCells A' r' bs' c' n') (hA : A'.length = 25) (hb : bs'.length = 136) : Sp (w.setCell ⟨b, pre.length + i, none⟩ v) b t pre A' r' bs' c' n' := by
  refine ⟨?_, hA, hb⟩
  have := h.blk.set (pre.length + i) v
  rwa [List.setIfInBounds_toArray, set_append, e] at this
theorem Sp.setWord (h : Sp w b t pre A r bs c n) {i : Nat} (hi : i < 25) (x : Wd) : Sp (w.setCell ⟨b, pre.length + i, none⟩ (.int .u64 (U x))) b t pre (A.set i x) r bs c n :=
  h.set (by unfold spCells; rw [set_head _ _ (by rw [len_st h.la]; omega), st_set h.la r hi]) (by rw [List.length_set]; exact h.la) h.lb
theorem Sp.setByte (h : Sp w b t pre A r bs c n) {i : Nat} (hi : i < 136) (z : Int) : Sp (w.setCell ⟨b, pre.length + 50 + i, none⟩ (.int .u8 z)) b t pre A r (bs.set i z) c n := by
  rw [Nat.add_assoc]
  refine h.set ?_ h.la (by rw [List.length_set]; exact h.lb)
  unfold spCells
  have e := set_append (stCells A r) (bs.map B8 ++ [.int .i64 c, .int .i64 n]) i (.int .u8 z)
  rw [len_st h.la] at e
  rw [e, set_head _ _ (by rw [List.length_map, h.lb]; exact hi), ← List.map_set]
theorem Sp.setCount (h : Sp w b t pre A r bs c n) (c' : Int) : Sp (w.setCell ⟨b, pre.length + 50 + 136, none⟩ (.int .i64 c')) b t pre A r bs c' n := by
  rw [show pre.length + 50 + 136 = pre.length + 186 by omega]
  refine h.set ?_ h.la h.lb
  unfold spCells
  have e := set_append (stCells A r) (bs.map B8 ++ [.int .i64 c, .int .i64 n]) 136 (.int .i64 c')
  have e2 := set_append (bs.map B8) ([.int .i64 c, .int .i64 n]) 0 (.int .i64 c')
  rw [len_st h.la] at e
  rw [List.length_map, h.lb] at e2
  rw [e, e2]
  rfl
theorem Sp.setSize (h : Sp w b t pre A r bs c n) (n' : Int) : Sp (w.setCell ⟨b, pre.length + 187, none⟩ (.int .i64 n')) b t pre A r bs c n' := by
  refine h.set ?_ h.la h.lb
  unfold spCells
  have e := set_append (stCells A r) (bs.map B8 ++ [.int .i64 c, .int .i64 n]) 137 (.int .i64 n')
  have e2 := set_append (bs.map B8) ([.int .i64 c, .int .i64 n]) 1 (.int .i64 n')
  rw [len_st h.la] at e
  rw [List.length_map, h.lb] at e2
  rw [e, e2]
  rfl
theorem Sp.kep {S : Nat → Prop} {w' : World} (h : Sp w b t pre A r bs c n) (hk : Kep S w w') (hs : ¬ S b) : Sp w' b t pre A r bs c n := ⟨h.blk.kep hk hs, h.la, h.lb⟩
theorem Sp.bel {w' : World} (h : Sp w b t pre A r bs c n) (hb : Bel w w') : Sp w' b t pre A r bs c n := ⟨h.blk.bel hb, h.la, h.lb⟩
theorem Sp.drew (h : Sp w b t pre A r bs c n) : Sp w.drew b t pre A r bs c n := h.bel (Bel.refl w).drew
/-- The whole sponge. -/
theorem Sp.range (h : Sp w b t pre A r bs c n) : w.rangeAt b pre.length (spCells A r bs c n) := Blk.range (post := []) (by rw [List.append_nil]; exact h.blk)
/-- Its state. -/
theorem Sp.stRange (h : Sp w b t pre A r bs c n) : w.rangeAt b pre.length (stCells A r) := Blk.range h.blk
theorem Sp.stThere (h : Sp w b t pre A r bs c n) : w.there b pre.length 50 := h.blk.there _ _ (by rw [List.size_toArray, List.length_append, len_sp h.la h.lb]; omega)
theorem Sp.there (h : Sp w b t pre A r bs c n) {o m : Nat} (hm : o + m ≤ pre.length + 188) : w.there b o m := h.blk.there _ _ (by rw [List.size_toArray, List.length_append, len_sp h.la h.lb]; omega)
theorem Sp.stSet (h : Sp w b t pre A r bs c n) {A' : List Wd} (hA : A'.length = 25) (r' : Int) : Sp (w.setCells b pre.length (stCells A' r')) b t pre A' r' bs c n :=
  ⟨Blk.mid h.blk (by rw [len_st h.la, len_st hA]), hA, h.lb⟩
/-- Bytes stored into those that wait. -/
theorem Sp.bytesSet (h : Sp w b t pre A r bs c n) {k : Nat} {ys : List Int} (hk : k + ys.length ≤ 136) : Sp (w.setCells b (pre.length + 50 + k) (ys.map B8)) b t pre A r (bs.take k ++ (ys ++ bs.drop (k + ys.length))) c n := by
  have hb := h.lb
  refine ⟨?_, h.la, by simp; omega⟩
  have e : pre ++ spCells A r bs c n = (pre ++ (stCells A r ++ (bs.take k).map B8)) ++ (((bs.drop k).take ys.length).map B8 ++ ((bs.drop (k + ys.length)).map B8 ++ [.int .i64 c, .int .i64 n])) := by
    unfold spCells
    have : bs.map B8 = (bs.take k).map B8 ++ (((bs.drop k).take ys.length).map B8 ++ (bs.drop (k + ys.length)).map B8) := by
      rw [← List.map_append, ← List.map_append]
      congr 1
      rw [← List.drop_drop, List.take_append_drop, List.take_append_drop]
    rw [this]
    simp only [List.append_assoc]
  have h1 := h.blk
  rw [e] at h1
  have h2 := Blk.mid (vs := ys.map B8) h1 (by simp; omega)
  rw [show (pre ++ (stCells A r ++ (bs.take k).map B8)).length = pre.length + 50 + k by simp [len_st h.la]; omega] at h2
  have e2 : (pre ++ (stCells A r ++ (bs.take k).map B8)) ++ (ys.map B8 ++ ((bs.drop (k + ys.length)).map B8 ++ [.int .i64 c, .int .i64 n])) = pre ++ spCells A r (bs.take k ++ (ys ++ bs.drop (k + ys.length))) c n := by
    unfold spCells
    simp [List.append_assoc]
  rwa [e2] at h2
end
end Kk
end Go.Proofs.YtgalhpejihmhkaaDoor
end

section
/-
  What word and split answer in this program: a word of eight bytes, and the eight bytes of a word. Conditions: at least eight bytes, or a word.
-/
namespace Go.Proofs.YtgalhpejihmhkaaDoor
open Go.RowKit Go.Shelf
set_option linter.unusedVariables false
namespace Kk

/-- The word of the first n bytes. -/
def wN (bs : List Int) : Nat → Wd
  | 0 => 0
  | n + 1 => wN bs n ||| BitVec.ofInt 64 (bs.getD n 0) <<< (n * 8)
def wordOf (bs : List Int) : Wd := wN bs 8
theorem wN_succ (bs : List Int) (n : Nat) : wN bs (n + 1) = wN bs n ||| BitVec.ofInt 64 (bs.getD n 0) <<< (n * 8) := rfl
theorem U_zero : U 0 = 0 := rfl
theorem slice_l (A : Option Addr) (n c : Nat) (l : Int) (w : World) (h0 : 0 ≤ l) (h1 : l ≤ n) :
    (Instr.slice 29 (.slice A n c) (some (.int .i64 l)) none none).run Tryd.prog w = .ok (.slice (if c = l.toNat then A else A.map (·.add (l.toNat * 1))) (n - l.toNat) (c - l.toNat)) w := by
  rw [run_slice_l (P := Tryd.prog) (w := w) (t := 29) (a := A) (len := n) (cap := c) (by rw [elem_u8]; exact Tryd.underlying29) .i64 l h0 h1]
  rw [elem_u8]
  simp [Tryd.sizeOf5, Result.andThen, sliced]

set_option maxRecDepth 100000 in
set_option maxHeartbeats 1000000 in
theorem word (b o n c : Nat) (bs : List Int) (w : World) (hn : 8 ≤ n) (hc : n ≤ c) (hz : ∀ i, i < 8 → w.cell? ⟨b, o + i, none⟩ = some (.int .u8 (bs.getD i 0))) (hb : ∀ i, i < 8 → 0 ≤ bs.getD i 0 ∧ bs.getD i 0 ≤ 255) :
    Calls Tryd.prog 83 #[.slice (some ⟨b, o, none⟩) n c] w fun e w' => e = .returned (.int .u64 (U (wordOf bs))) ∧ w = w' := by
  have hs := fun w => slice_h (some ⟨b, o, none⟩) n c 8 w (by omega) (by omega)
  rw [if_neg (by omega), show (some (⟨b, o, none⟩ : Addr)).map (·.add (0 * 1)) = some ⟨b, o, none⟩ by simp [Addr.add], show (8 : Int).toNat - 0 = 8 from rfl] at hs
  have HZ := Lib.hid hz
  have HB := Lib.hid hb
  have uz := U_zero
  clear hz hb
  go_enter Tryd.func83, Tryd.ntmps83
  go_wp2
  go_loop [2, 8] (fun r i => ∃ k : Nat, r = .int .u64 (U (wN bs k)) ∧ i = .int .i64 k ∧ k ≤ 8) (fun _ i => 8 - (intOf i).toNat)
  case atStart => exact ⟨0, rfl, rfl, by omega⟩
  case round =>
    obtain ⟨k, rfl, rfl, hk⟩ := hrel
    by_cases hlt : k < 8
    · have hlt' : (k : Int) < 8 := by omega
      have c0 := HZ.out k hlt
      obtain ⟨b0, b1⟩ := HB.out k hlt
      have WS := Lib.hid (wN_succ bs k)
      generalize bs.getD k 0 = z at *
      have ho := or_shl (wN bs k) z (k * 8)
      go_wp2
      go_round
      case rel => exact ⟨k + 1, by rw [WS.out], by go_num, by omega⟩
      case measure => simp [intOf] <;> omega
    · obtain rfl : k = 8 := by omega
      go_wp2
      go_ret
      exact ⟨rfl, rfl⟩

/-- The bytes of a word. -/
def splitB (x : Wd) (i : Nat) : Int := U x / 2 ^ (i * 8) % 256
def bytesOf (x : Wd) : List Int := (List.range 8).map (splitB x)
theorem splitB_bd (x : Wd) (i : Nat) : 0 ≤ splitB x i ∧ splitB x i ≤ 255 := by unfold splitB; omega
def splitN (x : Wd) (n : Nat) : List Value := (List.range 8).map fun i => if i < n then B8 (splitB x i) else B8 0
theorem splitN_set (x : Wd) {n : Nat} (h : n < 8) : (splitN x n).toArray.setIfInBounds n (.int .u8 (splitB x n)) = (splitN x (n + 1)).toArray := by
  rw [List.setIfInBounds_toArray]
  congr 1
  unfold splitN
  apply List.ext_getElem (by simp)
  intro i h1 h2
  simp only [List.getElem_set, List.getElem_map, List.getElem_range]
  by_cases h : n = i
  · subst h; simp
  · rw [if_neg h]
    by_cases h3 : i < n
    · rw [if_pos h3, if_pos (by omega)]
    · rw [if_neg h3, if_neg (by omega)]
theorem splitN8 (x : Wd) : splitN x 8 = (bytesOf x).map B8 := by
  unfold splitN bytesOf
  rw [List.map_map]
  apply List.map_congr_left
  intro i hi
  rw [if_pos (by simpa using hi)]
  rfl
theorem splitN_cell (x : Wd) (n : Nat) {i : Nat} (h : i < 8) : ∃ z, (splitN x n).toArray[i]? = some (.int .u8 z) := by
  unfold splitN
  rw [List.getElem?_toArray, List.getElem?_map, List.getElem?_range h]
  by_cases h2 : i < n
  · exact ⟨splitB x i, by simp [h2]⟩
  · exact ⟨0, by simp [h2]⟩

set_option maxRecDepth 100000 in
set_option maxHeartbeats 1000000 in
theorem split (x : Wd) (w : World) :
    Calls Tryd.prog 68 #[.int .u64 (U x)] w fun e w' => e = .returned (.agg ((bytesOf x).map B8).toArray) ∧ Bel w w' := by
  have h0 := U0 x
  have h1 := U1 x
  obtain ⟨h, hh⟩ : ∃ h, h = w.heap.size := ⟨_, rfl⟩
  have BK := Lib.hid (show Blk (w.alloc (.cells (splitN x 0).toArray 115)) h (splitN x 0).toArray 115 by rw [hh]; exact Blk.new _ _ _)
  have HB := Lib.hid ((Bel.refl w).alloc (.cells (splitN x 0).toArray 115))
  have EW := Lib.hid (show w.alloc (.cells #[.int .u8 0, .int .u8 0, .int .u8 0, .int .u8 0, .int .u8 0, .int .u8 0, .int .u8 0, .int .u8 0] 115) = w.alloc (.cells (splitN x 0).toArray 115) from rfl)
  have HH := Lib.hid hh
  go_enter Tryd.func68, Tryd.ntmps68
  go_wp2_with fail
  rw [EW.out]
  rw [← hh]
  clear hh
  generalize w.alloc (.cells (splitN x 0).toArray 115) = w1 at *
  go_loopw [4] (fun i wr => ∃ k : Nat, i = .int .i64 k ∧ k ≤ 8 ∧ Blk wr h (splitN x k).toArray 115 ∧ Kep (fun i => i = h) w1 wr) (fun i _ => 8 - (intOf i).toNat)
  case atStart => exact ⟨0, rfl, by omega, BK.out, Kep.refl _ _⟩
  case round =>
    obtain ⟨k, rfl, hk, hs, hkep⟩ := hrel
    have HS := Lib.hid hs
    have HK := Lib.hid hkep
    by_cases hlt : k < 8
    · have hlt' : (k : Int) < 8 := by omega
      obtain ⟨z, hz⟩ := splitN_cell x k hlt
      have c0 := hs.cell k hz
      have f0 := hs.frozen k
      have ES := Lib.hid (show U x / 2 ^ (k * 8) % 256 = splitB x k from rfl)
      clear hs hkep hz
      go_wp2
      go_roundw
      case rel =>
        refine ⟨k + 1, by go_num, by omega, ?_, HK.out.set_self _ _⟩
        have h2 := HS.out.set k (.int .u8 (splitB x k))
        rw [splitN_set x hlt] at h2
        exact h2
      case measure => simp [intOf] <;> omega
    · obtain rfl : k = 8 := by omega
      rw [splitN8] at hs
      have RE := blk_range hs
      have HB2 := Kep.bel HB.out HK.out (fun i hi => by rw [hi, HH.out]; exact Nat.le_refl _)
      clear hs hkep
      have HRE := Lib.hid RE
      have HB3 := Lib.hid HB2
      clear RE HB2 HS HK
      go_wp2
      refine bodyPost_ret (results_c1 Tryd.results68 _ _ ⟨h, 0, none⟩ _ rfl (run_loadVar_mid (P := Tryd.prog) _ h 0 115 _ _ HRE.out Tryd.underlying115 rfl (by rw [show ((bytesOf x).map B8).length = 8 by simp [bytesOf]]; kernel_rfl))) rfl ⟨rfl, HB3.out⟩
end Kk
end Go.Proofs.YtgalhpejihmhkaaDoor
end

section
/-
  What absorb of a sponge answers in this program: a full block is taken in. Conditions: a sponge in a block that is not the first one; bytes; the table of turns lies in its variable.
-/
namespace Go.Proofs.YtgalhpejihmhkaaDoor
open Go.RowKit Go.Shelf
set_option linter.unusedVariables false
namespace Kk

/-- Bytes. -/
def By (bs : List Int) : Prop := ∀ z ∈ bs, 0 ≤ z ∧ z ≤ 255
theorem By.at {bs : List Int} (h : By bs) (i : Nat) : 0 ≤ bs.getD i 0 ∧ bs.getD i 0 ≤ 255 := by
  rcases Nat.lt_or_ge i bs.length with hi | hi
  · rw [getD_eq _ _ hi]; exact h _ (List.getElem_mem hi)
  · rw [List.getD_eq_getElem?_getD, List.getElem?_eq_none hi]; exact ⟨Int.le_refl _, by decide⟩
theorem By.drop {bs : List Int} (h : By bs) (k : Nat) : By (bs.drop k) := fun z hz => h z (List.mem_of_mem_drop hz)
theorem By.take {bs : List Int} (h : By bs) (k : Nat) : By (bs.take k) := fun z hz => h z (List.mem_of_mem_take hz)
theorem By.append {xs ys : List Int} (h : By xs) (k : By ys) : By (xs ++ ys) := fun z hz => (List.mem_append.1 hz).elim (h z) (k z)

def wd (bs : List Int) (i : Nat) : Wd := wordOf (bs.drop (i * 8))
def xored (A : List Wd) (bs : List Int) (n : Nat) : List Wd := (List.range 25).map fun i => if i < n then g A i ^^^ wd bs i else g A i
theorem xored0 {A : List Wd} (h : A.length = 25) (bs : List Int) : xored A bs 0 = A := by
  unfold xored
  simp only [Nat.not_lt_zero, if_false]
  exact map_g h
theorem len_xored (A : List Wd) (bs : List Int) (n : Nat) : (xored A bs n).length = 25 := by simp [xored]
theorem xored_succ (A : List Wd) (bs : List Int) (n : Nat) : (xored A bs n).set n (g A n ^^^ wd bs n) = xored A bs (n + 1) := by
  unfold xored
  rw [set_map]
  apply List.map_congr_left
  intro i _
  by_cases h : i = n
  · subst h; simp
  · rw [if_neg h]
    by_cases h2 : i < n
    · rw [if_pos h2, if_pos (by omega)]
    · rw [if_neg h2, if_neg (by omega)]
theorem xored_at (A : List Wd) (bs : List Int) {n : Nat} (h : n < 25) : g (xored A bs n) n = g A n := by
  unfold xored
  rw [g_map _ h, if_neg (by omega)]
/-- What becomes of a state by a block. -/
def absorbed (A : List Wd) (bs : List Int) : List Wd := perm (xored A bs 17)
theorem len_absorbed (A : List Wd) (bs : List Int) : (absorbed A bs).length = 25 := len_perm (len_xored _ _ _)

theorem al136 : Tryd.prog.arrayLen 74 = 136 := by kernel_rfl
theorem el136 : Tryd.prog.elem 74 = 5 := by kernel_rfl
theorem sliceArr (b p l : Nat) (hl : l < 136) (w : World) :
    (Instr.sliceAt 74 (.pointer (some ⟨b, p, none⟩)) (some (.int .i64 (l : Int))) none none).run Tryd.prog w = .ok (.slice (some ⟨b, p + l, none⟩) (136 - l) (136 - l)) w := by
  rw [run_sliceAt_array_l (P := Tryd.prog) w 74 ⟨b, p, none⟩ (by rw [al136, el136]; exact Tryd.underlying74) .i64 (l : Int) (by omega) (by rw [al136]; omega), al136, el136]
  have hs : ∀ w, (sizeOf 5).run Tryd.prog w = .ok 1 w := Tryd.sizeOf5
  rw [hs w]
  simp only [Result.andThen, slicedAt, Int.toNat_natCast]
  rw [if_neg (by omega), Addr.add_mid, Nat.mul_one]

set_option maxRecDepth 100000 in
set_option maxHeartbeats 2000000 in
theorem absorb (b : Nat) (t : TypeId) (pre : List Value) (A : List Wd) (r : Int) (bs : List Int) (c n : Int) (w : World) (h : Sp w b t pre A r bs c n) (hB : By bs) (hT : Tn w) (hb0 : b ≠ 0) :
    Calls Tryd.prog 67 #[.pointer (some ⟨b, pre.length, none⟩)] w fun e w' => e = .returned (.tuple #[]) ∧ Sp w' b t pre (absorbed A bs) 23 bs 0 n ∧ Kep (fun i => i = b) w w' := by
  obtain ⟨o, ho⟩ : ∃ o, o = pre.length := ⟨_, rfl⟩
  rw [← ho]
  have HO := Lib.hid ho
  have H := Lib.hid h
  have HT := Lib.hid hT
  have HB := Lib.hid hB
  clear h hT ho
  go_enter Tryd.func67, Tryd.ntmps67
  go_wp2
  go_loopw [3] (fun i wr => ∃ k : Nat, i = .int .i64 k ∧ k ≤ 17 ∧ Sp wr b t pre (xored A bs k) r bs c n ∧ Kep (fun i => i = b) w wr) (fun i _ => 17 - (intOf i).toNat)
  case atStart => exact ⟨0, rfl, by omega, by rw [xored0 H.out.la]; exact H.out, Kep.refl _ _⟩
  case round =>
    obtain ⟨k, rfl, hk, hs, hkep⟩ := hrel
    have HS := Lib.hid hs
    have HK := Lib.hid hkep
    by_cases hlt : k < 17
    · have k0 := hs.word (i := k) (by omega)
      rw [xored_at A bs (by omega)] at k0
      obtain ⟨q, hq⟩ : ∃ q, k / 5 = q := ⟨_, rfl⟩
      obtain ⟨m, hm⟩ : ∃ m, k % 5 = m := ⟨_, rfl⟩
      have e5 : pre.length + k = o + q * 5 + m := by rw [← HO.out]; omega
      rw [e5] at k0
      have f0 := hs.frozen (o + q * 5 + m)
      have E5 := Lib.hid e5
      have sl := fun w => sliceArr b (o + 50) (k * 8) (by omega) w
      rw [show ((k * 8 : Nat) : Int) = (k : Int) * 8 by omega] at sl
      have HZ := Lib.hid (show ∀ j, j < 8 → wr.drew.cell? ⟨b, o + 50 + k * 8 + j, none⟩ = some (.int .u8 ((bs.drop (k * 8)).getD j 0)) from fun j hj => by
        have := (hs.drew).byte (i := k * 8 + j) (by omega)
        rw [← HO.out] at this
        rw [List.getD_eq_getElem?_getD, List.getElem?_drop, ← List.getD_eq_getElem?_getD, Nat.add_assoc]
        exact this)
      have HBd := Lib.hid (fun j (_ : j < 8) => (HB.out.drop (k * 8)).at j)
      have qx := xor_u (g A k) (wordOf (bs.drop (k * 8)))
      have d5 : ((k : Int)).tdiv 5 = (q : Int) := by
        rw [Int.tdiv_eq_ediv_of_nonneg (by omega)]; omega
      have m5 : ((k : Int)).tmod 5 = (m : Int) := by
        rw [Int.tmod_eq_emod_of_nonneg (by omega)]; omega
      have d5' : ((k : Int)) / 5 = (q : Int) := by omega
      have m5' : ((k : Int)) % 5 = (m : Int) := by omega
      have q5 : (q : Int) < 5 := by omega
      have n5 : (m : Int) < 5 := by omega
      have wq : IntKind.i64.wrap (q : Int) = q := IntWalk.i64_in _ (by omega)
      have wm : IntKind.i64.wrap (m : Int) = m := IntWalk.i64_in _ (by omega)
      have w8 : IntKind.i64.wrap ((k : Int) * 8) = (k : Int) * 8 := IntWalk.i64_in _ (by omega)
      clear hq hm
      clear hs hkep e5
      go_wp2
      go_region_with ((go_at_call 83; (with_reducible refine (word b (o + 50 + k * 8) (136 - k * 8) (136 - k * 8) (bs.drop (k * 8)) _ (by omega) (Nat.le_refl _) HZ.out HBd.out).mono ?_); rintro e w' ⟨rfl, rfl⟩))
      all_goals
        try (exfalso; omega)
      all_goals
        go_wp2
        go_roundw
        case rel =>
          refine ⟨k + 1, by go_num, by omega, ?_, (HK.out.set_self _ _).drew⟩
          have h2 := (HS.out.setWord (i := k) (by omega) (g A k ^^^ wd bs k)).drew
          rw [xored_succ, E5.out] at h2
          exact h2
        case measure => simp [intOf] <;> omega
    · obtain rfl : k = 17 := by omega
      obtain ⟨X, hX⟩ : ∃ X, X = xored A bs 17 := ⟨_, rfl⟩
      rw [← hX] at hs
      have lX : X.length = 25 := hs.la
      obtain ⟨Y, hY⟩ : ∃ Y, Y = stCells X r := ⟨_, rfl⟩
      have HY := Lib.hid hY
      have HX := Lib.hid hX
      have RY := Lib.hid (show wr.rangeAt b o Y by rw [hY, HO.out]; exact hs.stRange)
      have YI := Lib.hid (show (Tryd.prog.info? 73).map (·.size) = some Y.length by rw [hY, len_st lX]; exact info_st)
      have T4 := Lib.hid (HT.out.kep hkep (by omega))
      have HSX := Lib.hid hs
      clear hs hkep HS hY hX
      go_wp2_with (refine wpList_load_mid rfl 73 (.tmp 35) rfl b o rfl Y _ RY.out Tryd.underlying73 rfl YI.out ?_)
      refine ((by rw [HY.out]; exact permuted X r wr lX T4.out) : Calls Tryd.prog 84 #[.agg Y.toArray] wr fun e w' => e = .returned (stV (perm X) 23) ∧ Bel wr w').mono ?_
      rintro e w5 ⟨rfl, h5⟩
      have H5 : Bel wr w5 := h5
      have S5 := HSX.out.bel H5
      have lp := len_perm lX
      obtain ⟨Z, hZ⟩ : ∃ Z, Z = stCells (perm X) 23 := ⟨_, rfl⟩
      have HZ := Lib.hid hZ
      rw [show stV (perm X) 23 = .agg Z.toArray by rw [hZ]]
      have TX := Lib.hid (show w5.there b o Z.toArray.size by
        rw [List.size_toArray, hZ, len_st lp, HO.out]
        exact S5.stThere)
      have XI := Lib.hid (show (Tryd.prog.info? 73).map (·.size) = some Z.toArray.size by rw [List.size_toArray, hZ, len_st lp]; exact info_st)
      have XO := Lib.hid (all_oneCell_toArray (cs := Z) (by rw [hZ]; exact all_st _ _))
      have S6 := (show Sp (w5.setCells b o Z) b t pre (perm X) 23 bs c n by rw [hZ, HO.out]; exact S5.stSet lp 23)
      have K6 := Lib.hid (show Kep (fun i => i = b) wr (w5.setCells b o Z) from (Kep.of_bel H5).trans (kep_setCellsK b Z o w5))
      have c6 := S6.count
      have f6 := S6.frozen (pre.length + 50 + 136)
      rw [← HO.out] at c6 f6
      have S7 := S6.setCount 0
      rw [← HO.out] at S7
      have HS7 := Lib.hid S7
      clear h5 hZ S5 S6 S7 lp RY YI T4 HSX H5
      go_wp2_with (refine wpList_store_mid rfl 73 (.tmp 39) (.tmp 37) rfl b o Z.toArray rfl rfl TX.out XI.out XO.out ?_)
      go_end0
      refine ⟨rfl, ?_, (HK.out.trans K6.out).set_self _ _⟩
      have := HS7.out
      rw [HX.out] at this
      exact this
end Kk
end Go.Proofs.YtgalhpejihmhkaaDoor
end

section
/-
  What fill of a block answers in this program: as many bytes as there is room for are taken in. Conditions: a block that is not full; a slice of bytes that is not empty.
-/
namespace Go.Proofs.YtgalhpejihmhkaaDoor
open Go.RowKit Go.Shelf
set_option linter.unusedVariables false
namespace Kk

theorem step_copy_cells {ops : Array Oper} {o : Oper} {a : Act} {w : World} {K : Act → World → Prop} {Q : Exit → Act → World → Prop} {E : Prop} (hgd : o.guard = none) (d s : Operand)
    (ho : o.op = .call { callee := .builtin .copy, args := #[d, s], argTypes := #[29, 29] }) (g off dLen dCap : Nat) (ad : Addr) (sLen sCap : Nat)
    (hd : a.eval d = .slice (some ⟨g, off, none⟩) dLen dCap) (hs : a.eval s = .slice (some ad) sLen sCap)
    (cs : List Value) (m : Nat) (hm : cs.length = m) (hn : m = Nat.min sLen dLen) (hsrc : ∀ j v, cs[j]? = some v → w.cell? (ad.add j) = some v) (ht : w.there g off m) (h1 : ∀ v ∈ cs, v.oneCell' = true)
    (h : K (a.put o.dst (.int .i64 (m : Int))) (w.setCells g off cs)) :
    if Region.wanted o (yielded ops a.tmps) = true then Oper.wp Tryd.prog o a w K Q else E := by
  have hw : Region.wanted o (yielded ops a.tmps) = true := by simp [Region.wanted, hgd]
  rw [if_pos hw]
  subst hm
  have hrun := run_copy_cells (P := Tryd.prog) w 29 29 o.type 5 g off dLen dCap ad sLen sCap cs Tryd.underlying29 (by kernel_rfl) hn hsrc (fun j hj => (ht j hj).1) (fun j hj => (ht j hj).2) h1
  unfold Oper.wp
  simp [execOp, ho, resolve, invoke, builtin, hd, hs, hrun, Result.andThen]
  exact h
theorem src_cells {w : World} {b o n : Nat} {zs : List Int} (hi : Ints .u8 w (some ⟨b, o, none⟩) n zs) (m : Nat) : ∀ j v, ((zs.take m).map B8)[j]? = some v → w.cell? ((⟨b, o, none⟩ : Addr).add j) = some v := by
  intro j v hj
  have hlt : j < ((zs.take m).map B8).length := (List.getElem?_eq_some_iff.1 hj).1
  have hl : j < n := by have := hi.1; simp at hlt; omega
  refine Ints.news hi j v ?_
  rw [← hj, List.getElem?_map, List.getElem?_map, List.getElem?_take_of_lt (by simp at hlt; omega)]
theorem ints_b8 (zs : List Int) : ∀ v ∈ zs.map B8, v.oneCell' = true := ints_ok zs

set_option maxRecDepth 100000 in
set_option maxHeartbeats 1000000 in
theorem fill (b : Nat) (t : TypeId) (pre : List Value) (A : List Wd) (r : Int) (bs : List Int) (c : Nat) (n : Int) (sb so sn sc : Nat) (zs : List Int) (m : Nat) (w : World) (h : Sp w b t pre A r bs c n) (hc : c < 136)
    (hz : Ints .u8 w (some ⟨sb, so, none⟩) sn zs) (hn : 0 < sn) (hcap : sn ≤ sc) (hsc : sc ≤ maxLen) (hm : m = Nat.min sn (136 - c)) :
    Calls Tryd.prog 66 #[.pointer (some ⟨b, pre.length + 50, none⟩), .slice (some ⟨sb, so, none⟩) sn sc] w fun e w' => e = .returned (.slice (if sc = m then some ⟨sb, so, none⟩ else some ⟨sb, so + m, none⟩) (sn - m) (sc - m)) ∧ Sp w' b t pre A r (bs.take c ++ (zs.take m ++ bs.drop (c + m))) ((c : Int) + m) n ∧ Kep (fun i => i = b) w w' := by
  unfold maxLen at hsc
  obtain ⟨o, ho⟩ : ∃ o, o = pre.length := ⟨_, rfl⟩
  have hm1 : m ≤ sn := by rw [hm]; exact Nat.min_le_left _ _
  have hm2 : m ≤ 136 - c := by rw [hm]; exact Nat.min_le_right _ _
  have hzl := hz.1
  have c0 := h.count
  rw [← ho] at c0
  have f0 := h.frozen (o + 50 + 136)
  have sl := fun w => sliceArr b (o + 50) c hc w
  have SR := Lib.hid (show ∀ j v, ((zs.take m).map B8)[j]? = some v → w.drew.cell? ((⟨sb, so, none⟩ : Addr).add j) = some v from src_cells (hz.bel (Bel.refl w).drew) m)
  have YL := Lib.hid (show ((zs.take m).map B8).length = m by simp; omega)
  have YO := Lib.hid (ints_b8 (zs.take m))
  have TH := Lib.hid (show w.drew.there b (o + 50 + c) m from (h.drew).there (by omega))
  have sr := fun w => slice_l (some ⟨sb, so, none⟩) sn sc (m : Int) w (by omega) (by omega)
  simp only [Int.toNat_natCast] at sr
  rw [show (some (⟨sb, so, none⟩ : Addr)).map (·.add (m * 1)) = some ⟨sb, so + m, none⟩ by simp [Addr.add_mid]] at sr
  obtain ⟨RS, hRS⟩ : ∃ v, Value.slice (if sc = m then some ⟨sb, so, none⟩ else some ⟨sb, so + m, none⟩) (sn - m) (sc - m) = v := ⟨_, rfl⟩
  rw [hRS] at sr ⊢
  have BS := Lib.hid (show Sp (w.drew.setCells b (o + 50 + c) ((zs.take m).map B8)) b t pre A r (bs.take c ++ (zs.take m ++ bs.drop (c + m))) c n by
    have := (h.drew).bytesSet (k := c) (ys := zs.take m) (by simp; omega)
    rwa [show (zs.take m).length = m by simp; omega, ← ho] at this)
  obtain ⟨Y, hY⟩ : ∃ Y, (zs.take m).map B8 = Y := ⟨_, rfl⟩
  rw [hY] at SR YL YO BS
  have hcm : (c : Int) + m ≤ 136 := by omega
  have HM := Lib.hid hm
  have HO := Lib.hid ho
  clear hm hY hRS h hz hzl
  rw [← ho]
  clear ho
  go_enter Tryd.func66, Tryd.ntmps66
  go_wp2
  go_region_law (refine step_copy_cells rfl (.tmp 13) (.tmp 14) rfl b (o + 50 + c) (136 - c) (136 - c) ⟨sb, so, none⟩ sn sc rfl rfl Y m YL.out HM.out SR.out TH.out YO.out ?_)
  have K1 := Lib.hid (show Kep (fun i => i = b) w (w.drew.setCells b (o + 50 + c) Y) from (Kep.of_bel (Bel.refl w).drew).trans (kep_setCellsK b Y _ _))
  have c1 := BS.out.count
  rw [← HO.out] at c1
  have f1 := BS.out.frozen (o + 50 + 136)
  have S2 := BS.out.setCount ((c : Int) + m)
  rw [← HO.out] at S2
  have HS2 := Lib.hid S2
  clear S2 BS c0 f0
  go_wp2
  go_ret
  exact ⟨rfl, HS2.out, K1.out.set_self _ _⟩
end Kk
end Go.Proofs.YtgalhpejihmhkaaDoor
end

section
/-
  What newSponge answers in this program: a sponge of no bytes. No condition.
-/
namespace Go.Proofs.YtgalhpejihmhkaaDoor
open Go.RowKit Go.Shelf
set_option linter.unusedVariables false
namespace Kk

abbrev zero136 : List Int := List.replicate 136 0
/-- A sponge as a value. -/
abbrev spV (A : List Wd) (r : Int) (bs : List Int) (c n : Int) : Value := .agg (spCells A r bs c n).toArray
theorem info_sp : (Tryd.prog.info? 78).map (·.size) = some 188 := by kernel_rfl
abbrev Z188 : Obj := .cells #[.int .u64 0, .int .u64 0, .int .u64 0, .int .u64 0, .int .u64 0, .int .u64 0, .int .u64 0, .int .u64 0, .int .u64 0, .int .u64 0, .int .u64 0, .int .u64 0, .int .u64 0, .int .u64 0, .int .u64 0, .int .u64 0, .int .u64 0, .int .u64 0, .int .u64 0, .int .u64 0, .int .u64 0, .int .u64 0, .int .u64 0, .int .u64 0, .int .u64 0, .int .u64 0, .int .u64 0, .int .u64 0, .int .u64 0, .int .u64 0, .int .u64 0, .int .u64 0, .int .u64 0, .int .u64 0, .int .u64 0, .int .u64 0, .int .u64 0, .int .u64 0, .int .u64 0, .int .u64 0, .int .u64 0, .int .u64 0, .int .u64 0, .int .u64 0, .int .u64 0, .int .u64 0, .int .u64 0, .int .u64 0, .int .u64 0, .int .i64 0, .int .u8 0, .int .u8 0, .int .u8 0, .int .u8 0, .int .u8 0, .int .u8 0, .int .u8 0, .int .u8 0, .int .u8 0, .int .u8 0, .int .u8 0, .int .u8 0, .int .u8 0, .int .u8 0, .int .u8 0, .int .u8 0, .int .u8 0, .int .u8 0, .int .u8 0, .int .u8 0, .int .u8 0, .int .u8 0, .int .u8 0, .int .u8 0, .int .u8 0, .int .u8 0, .int .u8 0, .int .u8 0, .int .u8 0, .int .u8 0, .int .u8 0, .int .u8 0, .int .u8 0, .int .u8 0, .int .u8 0, .int .u8 0, .int .u8 0, .int .u8 0, .int .u8 0, .int .u8 0, .int .u8 0, .int .u8 0, .int .u8 0, .int .u8 0, .int .u8 0, .int .u8 0, .int .u8 0, .int .u8 0, .int .u8 0, .int .u8 0, .int .u8 0, .int .u8 0, .int .u8 0, .int .u8 0, .int .u8 0, .int .u8 0, .int .u8 0, .int .u8 0, .int .u8 0, .int .u8 0, .int .u8 0, .int .u8 0, .int .u8 0, .int .u8 0, .int .u8 0, .int .u8 0, .int .u8 0, .int .u8 0, .int .u8 0, .int .u8 0, .int .u8 0, .int .u8 0, .int .u8 0, .int .u8 0, .int .u8 0, .int .u8 0, .int .u8 0, .int .u8 0, .int .u8 0, .int .u8 0, .int .u8 0, .int .u8 0, .int .u8 0, .int .u8 0, .int .u8 0, .int .u8 0, .int .u8 0, .int .u8 0, .int .u8 0, .int .u8 0, .int .u8 0, .int .u8 0, .int .u8 0, .int .u8 0, .int .u8 0, .int .u8 0, .int .u8 0, .int .u8 0, .int .u8 0, .int .u8 0, .int .u8 0, .int .u8 0, .int .u8 0, .int .u8 0, .int .u8 0, .int .u8 0, .int .u8 0, .int .u8 0, .int .u8 0, .int .u8 0, .int .u8 0, .int .u8 0, .int .u8 0, .int .u8 0, .int .u8 0, .int .u8 0, .int .u8 0, .int .u8 0, .int .u8 0, .int .u8 0, .int .u8 0, .int .u8 0, .int .u8 0, .int .u8 0, .int .u8 0, .int .u8 0, .int .u8 0, .int .u8 0, .int .u8 0, .int .u8 0, .int .u8 0, .int .u8 0, .int .u8 0, .int .u8 0, .int .u8 0, .int .u8 0, .int .i64 0, .int .i64 0] 78
theorem build_sp : ∃ v, stV zero 0 = v ∧ ∀ w, (Instr.build 78 #[(0, v)]).run Tryd.prog w = .ok (spV zero 0 zero136 0 0) w := ⟨_, rfl, fun w => by kernel_rfl⟩

set_option maxRecDepth 100000 in
set_option maxHeartbeats 1000000 in
theorem newSponge (w : World) : Calls Tryd.prog 34 #[] w fun e w' => e = .returned (spV zero 0 zero136 0 0) ∧ Bel w w' := by
  obtain ⟨v, hv, hB⟩ := build_sp
  have HV := Lib.hid hv
  obtain ⟨C, hC⟩ : ∃ C, C = spCells zero 0 zero136 0 0 := ⟨_, rfl⟩
  have HCl := Lib.hid (show C.length = 188 by rw [hC]; exact len_sp len_zero (by rfl) _ _ _)
  have HCo := Lib.hid (all_oneCell_toArray (cs := C) (by rw [hC]; exact all_sp _ _ _ _ _))
  have HCs := Lib.hid (show C.toArray.size = 188 by rw [List.size_toArray]; exact HCl.out)
  have HI := Lib.hid (show (Tryd.prog.info? 78).map (·.size) = some C.toArray.size by rw [HCs.out]; exact info_sp)
  have HI2 := Lib.hid (show (Tryd.prog.info? 78).map (·.size) = some C.length by rw [HCl.out]; exact info_sp)
  rw [show spV zero 0 zero136 0 0 = .agg C.toArray by rw [hC]] at hB ⊢
  have HBB := Lib.hid hB
  clear hv hC hB
  go_enter Tryd.func34, Tryd.ntmps34
  go_wp2_with fail
  refine (newState _).mono ?_
  rintro e w1 ⟨rfl, h1⟩
  have TH0 : (w.alloc Z188).there w.heap.size 0 C.toArray.size := by rw [HCs.out]; exact there_new (by decide)
  have TH := Lib.hid (there_bel TH0 h1)
  have HB := Lib.hid (((Bel.refl w).alloc Z188).trans h1)
  clear h1 TH0
  rw [HV.out]
  go_wp2_with (first | (refine wpList_build rfl 78 0 (.tmp 1) rfl v _ rfl HBB.out ?_) | refine wpList_store_mid rfl 78 (.tmp 0) (.tmp 2) rfl w.heap.size 0 C.toArray rfl rfl TH.out HI.out HCo.out ?_)
  have RG : (w1.setCells w.heap.size 0 C).rangeAt w.heap.size 0 C := World.rangeAt_setCells_same _ _ _ _ (by have := TH.out; rw [HCs.out] at this; rw [HCl.out]; exact this)
  refine bodyPost_ret (results_c1 Tryd.results34 _ _ ⟨w.heap.size, 0, none⟩ _ rfl (run_loadVar_mid (P := Tryd.prog) _ w.heap.size 0 78 C _ RG Tryd.underlying78 rfl HI2.out)) rfl ⟨rfl, ?_⟩
  exact Kep.bel HB.out (kep_setCellsK w.heap.size C 0 w1) (fun i hi => by rw [hi]; exact Nat.le_refl _)
end Kk
end Go.Proofs.YtgalhpejihmhkaaDoor
end

section
/-
  What take of a sponge answers in this program: bytes come in. Conditions: a sponge that holds bytes; a slice of at most 10^9 bytes that lies elsewhere.
-/
namespace Go.Proofs.YtgalhpejihmhkaaDoor
open Go.RowKit Go.Shelf
set_option linter.unusedVariables false
namespace Kk

/-- The state behind the first n blocks. -/
def stN (data : List Int) : Nat → List Wd
  | 0 => zero
  | n + 1 => absorbed (stN data n) ((data.drop (136 * n)).take 136)
theorem len_stN (data : List Int) (n : Nat) : (stN data n).length = 25 := by
  cases n with
  | zero => rfl
  | succ n => exact len_absorbed _ _
theorem stN_append (data ys : List Int) : ∀ n, 136 * n ≤ data.length → stN (data ++ ys) n = stN data n
  | 0, _ => rfl
  | n + 1, h => by
    show absorbed (stN (data ++ ys) n) _ = absorbed (stN data n) _
    rw [stN_append data ys n (by omega), List.drop_append_of_le_length (by omega), List.take_append_of_le_length (by simp; omega)]
/-- A sponge that holds data. -/
structure Hd (data : List Int) (A : List Wd) (bs : List Int) (c : Nat) : Prop where
  st : A = stN data (data.length / 136)
  count : c = data.length % 136
  rest : bs.take c = data.drop (136 * (data.length / 136))
  len : bs.length = 136
  by_ : By bs
theorem Hd.lt {data : List Int} {A : List Wd} {bs : List Int} {c : Nat} (h : Hd data A bs c) : c < 136 := by rw [h.count]; omega
theorem Hd.nil {bs : List Int} (h1 : bs.length = 136) (h2 : By bs) : Hd [] zero bs 0 := ⟨rfl, rfl, by simp, h1, h2⟩
theorem Hd.more {data : List Int} {A : List Wd} {bs : List Int} {c : Nat} (h : Hd data A bs c) (ys : List Int) (hy : By ys) (hc : c + ys.length < 136) : Hd (data ++ ys) A (bs.take c ++ (ys ++ bs.drop (c + ys.length))) (c + ys.length) := by
  have hl := h.len
  have hcc := h.count
  have hdl : (data ++ ys).length = data.length + ys.length := List.length_append
  have hq : (data ++ ys).length / 136 = data.length / 136 := by rw [hdl]; omega
  refine ⟨?_, by rw [hdl]; omega, ?_, by simp; omega, (h.by_.take c).append (hy.append (h.by_.drop _))⟩
  · rw [hq, stN_append _ _ _ (by omega)]; exact h.st
  · rw [hq, List.drop_append_of_le_length (by omega), ← h.rest, ← List.append_assoc, List.take_append_of_le_length (by simp; omega), List.take_of_length_le (by simp; omega)]
theorem Hd.full {data : List Int} {A : List Wd} {bs : List Int} {c : Nat} (h : Hd data A bs c) (ys : List Int) (hy : By ys) (hc : c + ys.length = 136) : Hd (data ++ ys) (absorbed A (bs.take c ++ (ys ++ bs.drop (c + ys.length)))) (bs.take c ++ (ys ++ bs.drop (c + ys.length))) 0 := by
  have hl := h.len
  have hcc := h.count
  have hdl : (data ++ ys).length = data.length + ys.length := List.length_append
  have hq : (data ++ ys).length / 136 = data.length / 136 + 1 := by rw [hdl]; omega
  have hbs : bs.take c ++ (ys ++ bs.drop (c + ys.length)) = bs.take c ++ ys := by rw [hc, List.drop_of_length_le (by omega), List.append_nil]
  have ht : (bs.take c ++ ys).take 136 = bs.take c ++ ys := List.take_of_length_le (by simp; omega)
  rw [hbs]
  refine ⟨?_, by rw [hdl]; omega, ?_, by simp; omega, (h.by_.take c).append hy⟩
  · rw [hq]
    show _ = absorbed (stN (data ++ ys) (data.length / 136)) (((data ++ ys).drop (136 * (data.length / 136))).take 136)
    rw [stN_append _ _ _ (by omega), ← h.st, List.drop_append_of_le_length (by omega), ← h.rest, ht]
  · rw [hq, List.take_zero, List.drop_of_length_le (by rw [hdl]; omega)]

/-- How many elements a slice has. -/
def sizeOfV : Value → Nat
  | .slice _ n _ => n
  | _ => 0
/-- What is left of the bytes that come in. -/
def Left (v : Value) (sb so n k : Nat) : Prop := ∃ (P : Option Addr) (sc : Nat), v = .slice P (n - k) sc ∧ (k < n → P = some ⟨sb, so + k, none⟩ ∧ n - k ≤ sc ∧ sc ≤ maxLen)

set_option maxRecDepth 100000 in
set_option maxHeartbeats 2000000 in
theorem take (b : Nat) (t : TypeId) (pre : List Value) (A : List Wd) (r : Int) (bs : List Int) (c : Nat) (data : List Int) (P : Option Addr) (sn sc : Nat) (zs : List Int) (w : World) (h : Sp w b t pre A r bs c data.length) (hd : Hd data A bs c)
    (hz : Ints .u8 w P sn zs) (hcap : sn ≤ sc) (hsc : sc ≤ maxLen) (hzb : By zs) (hne : 0 < sn → ∀ x, P = some x → x.block ≠ b) (hT : Tn w) (hb0 : b ≠ 0) (hl : data.length + sn ≤ 1000000000000) :
    Calls Tryd.prog 35 #[.pointer (some ⟨b, pre.length, none⟩), .slice P sn sc] w fun e w' => e = .returned (.tuple #[]) ∧ (∃ A' r' bs' c', Sp w' b t pre A' r' bs' (c' : Nat) ((data ++ zs).length : Nat) ∧ Hd (data ++ zs) A' bs' c') ∧ Kep (fun i => i = b) w w' := by
  have hzl := hz.1
  obtain ⟨sb, so, hP, hsb⟩ : ∃ sb so, (0 < sn → P = some ⟨sb, so, none⟩) ∧ (0 < sn → sb ≠ b ∧ ∀ i, i < sn → w.cell? ⟨sb, so + i, none⟩ = some (.int .u8 (zs.getD i 0))) := by
    rcases Nat.eq_zero_or_pos sn with h0 | h0
    · exact ⟨0, 0, fun h => by omega, fun h => by omega⟩
    · obtain ⟨x, y, e, _, hc⟩ := hz.2 h0
      exact ⟨x, y, fun _ => e, fun _ => ⟨hne h0 _ e, hc⟩⟩
  have HZ := Lib.hid hz
  have HSB := Lib.hid hsb
  have HL := Lib.hid (show Left (.slice P sn sc) sb so sn 0 from ⟨P, sc, rfl, fun h0 => ⟨hP h0, by omega, hsc⟩⟩)
  have c0 := h.size
  have f0 := h.frozen (pre.length + 187)
  have HS0 := Lib.hid (h.setSize ((data.length : Int) + sn))
  have HK0 := Lib.hid ((Kep.refl (fun i => i = b) w).set_self (pre.length + 187) (.int .i64 ((data.length : Int) + sn)))
  have HD := Lib.hid hd
  have HT := Lib.hid hT
  have HZB := Lib.hid hzb
  have HZL := Lib.hid hzl
  have hl' : (data.length : Int) + sn ≤ 1000000000000 := by omega
  have HMAX := Lib.hid (show maxLen = 9223372036854775807 from rfl)
  have hcap' : (sn : Int) ≤ 9223372036854775807 := by unfold maxLen at hsc; omega
  clear h hz hP hsb hd hT hne hzl hsc
  go_enter Tryd.func35, Tryd.ntmps35
  go_wp2
  obtain ⟨w1, hw1⟩ : ∃ w1, w.setCell ⟨b, pre.length + 187, none⟩ (.int .i64 ((data.length : Int) + sn)) = w1 := ⟨_, rfl⟩
  rw [hw1] at HS0 HK0 ⊢
  clear hw1 c0 f0
  go_loopw [1] (fun v wr => ∃ k : Nat, k ≤ sn ∧ Left v sb so sn k ∧ (∃ A' r' bs' c', Sp wr b t pre A' r' bs' (c' : Nat) ((data.length : Int) + sn) ∧ Hd (data ++ zs.take k) A' bs' c') ∧ Kep (fun i => i = b) w wr) (fun v _ => sizeOfV v)
  case atStart => exact ⟨0, Nat.zero_le _, HL.out, ⟨A, r, bs, c, HS0.out, by rw [List.take_zero, List.append_nil]; exact HD.out⟩, HK0.out⟩
  case round =>
    obtain ⟨k, hk, ⟨Q, qc, rfl, hQ⟩, ⟨A', r', bs', c', hs, hh⟩, hkep⟩ := hrel
    by_cases hlt : k < sn
    · obtain ⟨rfl, hq1, hq2⟩ := hQ hlt
      have hc136 := hh.lt
      obtain ⟨sbne, hcell⟩ := HSB.out (by omega)
      have hsrc : Ints .u8 wr (some ⟨sb, so + k, none⟩) (sn - k) (zs.drop k) := by
        refine ⟨by rw [List.length_drop, HZL.out], fun _ => ⟨sb, so + k, rfl, ?_, fun i hi => ?_⟩⟩
        · exact World.block_lt_of_cell? wr _ (hkep.cell sbne (hcell k hlt))
        · have := hkep.cell sbne (hcell (k + i) (by omega))
          rw [Nat.add_assoc, List.getD_eq_getElem?_getD, List.getElem?_drop, ← List.getD_eq_getElem?_getD]
          exact this
      obtain ⟨m, hm⟩ : ∃ m, m = Nat.min (sn - k) (136 - c') := ⟨_, rfl⟩
      have hm1 : m ≤ sn - k := by rw [hm]; exact Nat.min_le_left _ _
      have hm2 : m ≤ 136 - c' := by rw [hm]; exact Nat.min_le_right _ _
      have hm0 : 0 < m := by rw [hm]; exact Nat.lt_min.2 ⟨by omega, by omega⟩
      have FL := Lib.hid (fill b t pre A' r' bs' c' _ sb (so + k) (sn - k) qc (zs.drop k) m wr hs hc136 hsrc (by omega) hq1 hq2 hm)
      have HH := Lib.hid hh
      have HK := Lib.hid hkep
      have HM := Lib.hid hm
      have hkn : (0 : Int) < ((sn - k : Nat) : Int) := by omega
      have hq3 : qc ≤ 9223372036854775807 := by rw [HMAX.out] at hq2; exact hq2
      clear hs hh hkep hsrc hm hcell hQ hq2
      go_wp2_with fail
      refine (FL.out).mono ?_
      rintro e w2 ⟨rfl, hs2, hk2⟩
      obtain ⟨PQ, hPQ⟩ : ∃ PQ, (if qc = m then some (⟨sb, so + k, none⟩ : Addr) else some ⟨sb, so + k + m, none⟩) = PQ := ⟨_, rfl⟩
      rw [hPQ]
      have c2 := hs2.count
      have HS2 := Lib.hid hs2
      have HK2 := Lib.hid (HK.out.trans hk2)
      have hyl : ((zs.drop k).take m).length = m := by simp; have := HZL.out; omega
      have HYL := Lib.hid hyl
      have LF := Lib.hid (show Left (.slice PQ (sn - k - m) (qc - m)) sb so sn (k + m) from ⟨_, qc - m, by rw [Nat.sub_sub], fun h => ⟨by rw [← hPQ, if_neg (by omega), Nat.add_assoc], by omega, by rw [HMAX.out]; omega⟩⟩)
      have DT := Lib.hid (show data ++ zs.take (k + m) = (data ++ zs.take k) ++ (zs.drop k).take m by rw [List.append_assoc, ← List.take_add])
      have YB := Lib.hid (show By ((zs.drop k).take m) from (HZB.out.drop k).take m)
      clear hs2 hk2 hyl hPQ
      by_cases hfull : c' + m = 136
      · have hf1 : (c' : Int) + m = 136 := by omega
        rw [hf1] at c2 HS2
        have HS3 := Lib.hid (show Sp w2 b t pre A' r' (bs'.take c' ++ ((zs.drop k).take m ++ bs'.drop (c' + m))) 136 ((data.length : Int) + sn) from HS2.out)
        have FB := Lib.hid (show Hd (data ++ zs.take (k + m)) (absorbed A' (bs'.take c' ++ ((zs.drop k).take m ++ bs'.drop (c' + m)))) (bs'.take c' ++ ((zs.drop k).take m ++ bs'.drop (c' + m))) 0 by
          rw [DT.out]
          have h := HH.out.full ((zs.drop k).take m) YB.out (by rw [HYL.out]; exact hfull)
          rw [HYL.out] at h
          exact h)
        have AB := Lib.hid (absorb b t pre A' r' _ 136 _ w2 HS3.out FB.out.by_ (HT.out.kep HK2.out (fun e => hb0 e.symm)) hb0)
        clear HS2
        go_wp2_with fail
        refine (AB.out).mono ?_
        rintro e w3 ⟨rfl, hs3, hk3⟩
        have HS4 := Lib.hid hs3
        have HK3 := Lib.hid (HK2.out.trans hk3)
        clear hs3 hk3
        go_wp2
        go_roundw
        case rel => exact ⟨k + m, by omega, LF.out, ⟨_, _, _, 0, HS4.out, FB.out⟩, HK3.out⟩
        case measure => simp [sizeOfV] <;> omega
      · have hf1 : ((c' : Int) + m == 136) = false := by
          rw [beq_eq_false_iff_ne]; omega
        have FB := Lib.hid (show Hd (data ++ zs.take (k + m)) A' (bs'.take c' ++ ((zs.drop k).take m ++ bs'.drop (c' + m))) (c' + m) by
          rw [DT.out]
          have h := HH.out.more ((zs.drop k).take m) YB.out (by rw [HYL.out]; omega)
          rw [HYL.out] at h
          exact h)
        go_wp2
        go_roundw
        case rel => exact ⟨k + m, by omega, LF.out, ⟨_, _, _, c' + m, HS2.out, FB.out⟩, HK2.out⟩
        case measure => simp [sizeOfV] <;> omega
    · obtain rfl : k = sn := by omega
      rw [Nat.sub_self]
      have HF := Lib.hid (show ∃ A' r' bs' c', Sp wr b t pre A' r' bs' (c' : Nat) ((data ++ zs).length : Nat) ∧ Hd (data ++ zs) A' bs' c' from ⟨A', r', bs', c', by
        rw [List.length_append, HZL.out]
        push_cast
        exact hs, by
        rw [List.take_of_length_le (by rw [HZL.out]; exact Nat.le_refl _)] at hh
        exact hh⟩)
      have HK := Lib.hid hkep
      clear hs hh hkep
      go_wp2
      go_end0
      exact ⟨rfl, HF.out, HK.out⟩
end Kk
end Go.Proofs.YtgalhpejihmhkaaDoor
end

section
/-
  What sum of a sponge answers in this program: the hash of the bytes that it holds. Condition: a sponge that holds bytes, as a value.
-/
namespace Go.Proofs.YtgalhpejihmhkaaDoor
open Go.RowKit Go.Shelf
set_option linter.unusedVariables false
namespace Kk

/-- What ends the bytes is added. -/
def ended (rest : List Int) : List Int := rest ++ (6 :: List.replicate (135 - rest.length) 0)
def pad (rest : List Int) : List Int := (ended rest).set 135 (bits .xor .u8 ((ended rest).getD 135 0) 128)
theorem len_ended {rest : List Int} (h : rest.length < 136) : (ended rest).length = 136 := by simp [ended]; omega
theorem by_ended {rest : List Int} (h : By rest) : By (ended rest) := h.append (fun z hz => by
  rcases List.mem_cons.1 hz with rfl | hz
  · exact ⟨by decide, by decide⟩
  · rw [List.eq_of_mem_replicate hz]; exact ⟨by decide, by decide⟩)
theorem bits_u8 (op : BinOp) (x y : Int) : 0 ≤ bits op .u8 x y ∧ bits op .u8 x y ≤ 255 := by
  unfold bits
  rw [IntKind.wrap_u8]
  omega
theorem by_set {l : List Int} (h : By l) (i : Nat) {z : Int} (hz : 0 ≤ z ∧ z ≤ 255) : By (l.set i z) := fun x hx => by
  rcases List.mem_or_eq_of_mem_set hx with h1 | rfl
  · exact h x h1
  · exact hz
theorem by_pad {rest : List Int} (h : By rest) : By (pad rest) := by_set (by_ended h) _ (bits_u8 _ _ _)
/-- The hash of a state. -/
def hashOf (A : List Wd) : List Int := bytesOf (g A 0) ++ (bytesOf (g A 1) ++ (bytesOf (g A 2) ++ bytesOf (g A 3)))
/-- The hash of bytes. -/
def lastSt (data : List Int) : List Wd := absorbed (stN data (data.length / 136)) (pad (data.drop (136 * (data.length / 136))))
def sumOf (data : List Int) : List Int := hashOf (lastSt data)
theorem len_bytesOf (x : Wd) : (bytesOf x).length = 8 := by simp [bytesOf]
theorem len_hashOf (A : List Wd) : (hashOf A).length = 32 := by simp [hashOf, len_bytesOf]
theorem by_bytesOf (x : Wd) : By (bytesOf x) := fun z hz => by
  obtain ⟨i, _, rfl⟩ := List.mem_map.1 hz
  exact splitB_bd x i
theorem by_hashOf (A : List Wd) : By (hashOf A) := (by_bytesOf _).append ((by_bytesOf _).append ((by_bytesOf _).append (by_bytesOf _)))
/-- The cells of a hash behind k words. -/
def hN (A : List Wd) : Nat → List Value
  | 0 => List.replicate 32 (.int .u8 0)
  | 1 => (bytesOf (g A 0)).map B8 ++ List.replicate 24 (.int .u8 0)
  | 2 => (bytesOf (g A 0)).map B8 ++ ((bytesOf (g A 1)).map B8 ++ List.replicate 16 (.int .u8 0))
  | 3 => (bytesOf (g A 0)).map B8 ++ ((bytesOf (g A 1)).map B8 ++ ((bytesOf (g A 2)).map B8 ++ List.replicate 8 (.int .u8 0)))
  | _ => (hashOf A).map B8
theorem len_b8 (x : Wd) : ((bytesOf x).map B8).length = 8 := by simp [len_bytesOf]
theorem len_hN (A : List Wd) (k : Nat) : (hN A k).length = 32 := by
  match k with
  | 0 => rfl
  | 1 => simp [hN, len_bytesOf]
  | 2 => simp [hN, len_bytesOf]
  | 3 => simp [hN, len_bytesOf]
  | _ + 4 => simp [hN, len_hashOf]
theorem hN_step {w : World} {b : Nat} {t : TypeId} (A : List Wd) {k : Nat} (hk : k < 4) (h : Blk w b (hN A k).toArray t) : Blk (w.setCells b (k * 8) ((bytesOf (g A k)).map B8)) b (hN A (k + 1)).toArray t := by
  match k, hk with
  | 0, _ =>
    have := Blk.mid (pre := []) (mid := List.replicate 8 (.int .u8 0)) (post := List.replicate 24 (.int .u8 0)) (vs := (bytesOf (g A 0)).map B8) h (by simp [len_bytesOf])
    exact this
  | 1, _ =>
    have := Blk.mid (pre := (bytesOf (g A 0)).map B8) (mid := List.replicate 8 (.int .u8 0)) (post := List.replicate 16 (.int .u8 0)) (vs := (bytesOf (g A 1)).map B8) h (by simp [len_bytesOf])
    rw [len_b8] at this
    exact this
  | 2, _ =>
    have := Blk.mid (pre := (bytesOf (g A 0)).map B8 ++ (bytesOf (g A 1)).map B8) (mid := List.replicate 8 (.int .u8 0)) (post := List.replicate 8 (.int .u8 0)) (vs := (bytesOf (g A 2)).map B8) (by rw [List.append_assoc]; exact h) (by simp [len_bytesOf])
    rw [List.length_append, len_b8, len_b8, List.append_assoc] at this
    exact this
  | 3, _ =>
    have := Blk.mid (pre := (bytesOf (g A 0)).map B8 ++ ((bytesOf (g A 1)).map B8 ++ (bytesOf (g A 2)).map B8)) (mid := List.replicate 8 (.int .u8 0)) (post := []) (vs := (bytesOf (g A 3)).map B8) (by rw [List.append_assoc, List.append_assoc, List.append_nil]; exact h) (by simp [len_bytesOf])
    rw [List.length_append, List.length_append, len_b8, len_b8, len_b8, List.append_assoc, List.append_assoc, List.append_nil] at this
    have e : (bytesOf (g A 0)).map B8 ++ ((bytesOf (g A 1)).map B8 ++ ((bytesOf (g A 2)).map B8 ++ (bytesOf (g A 3)).map B8)) = (hashOf A).map B8 := by simp [hashOf]
    rw [e] at this
    exact this

theorem sliceArrEnd (b p : Nat) (w : World) :
    (Instr.sliceAt 74 (.pointer (some ⟨b, p, none⟩)) (some (.int .i64 136)) none none).run Tryd.prog w = .ok (.slice (some ⟨b, p, none⟩) 0 0) w := by
  rw [run_sliceAt_array_l (P := Tryd.prog) w 74 ⟨b, p, none⟩ (by rw [al136, el136]; exact Tryd.underlying74) .i64 136 (by omega) (by rw [al136]; omega), al136, el136]
  have hs : ∀ w, (sizeOf 5).run Tryd.prog w = .ok 1 w := Tryd.sizeOf5
  rw [hs w]
  simp [Result.andThen, slicedAt]
theorem zero_u8 (w : World) : (zeroValue 5).run Tryd.prog w = .ok (.int .u8 0) w := Tryd.zeroValue5 w
theorem wpList_clear {ops : Array Oper} {rest : List Oper} {o : Oper} {a : Act} {w : World} {Q : Exit → Act → World → Prop} (hgd : o.guard = none) (s : Operand)
    (ho : o.op = .call { callee := .builtin .clear, args := #[s], argTypes := #[29] }) (b off n c : Nat) (hs : a.eval s = .slice (some ⟨b, off, none⟩) n c) (ht : w.there b off n)
    (h : wpList Tryd.prog ops Q rest (a.put o.dst (.tuple #[])) (w.setCells b off (List.replicate n (.int .u8 0)))) : wpList Tryd.prog ops Q (o :: rest) a w := by
  refine wpList_plain hgd fun K hK => ?_
  have hrun : (Builtin.clear_ #[29] o.type #[.slice (some ⟨b, off, none⟩) n c]).run Tryd.prog w = .ok (.tuple #[]) (w.setCells b off (List.replicate n (.int .u8 0))) := by
    rcases Nat.eq_zero_or_pos n with rfl | hn
    · simp [Builtin.clear_, run_underlying Tryd.underlying29, World.setCells]
    · exact Lib.run_clear_slice w 29 5 o.type (.int .u8 0) Tryd.underlying29 zero_u8 rfl rfl b off n c hn (fun j hj => (ht j hj).1) (fun j hj => (ht j hj).2)
  unfold Oper.wp
  simp [execOp, ho, resolve, invoke, builtin, hs, hrun, Result.andThen]
  exact hK _ _ h
end Kk
end Go.Proofs.YtgalhpejihmhkaaDoor
end

section
/-
  The walk of sum of a sponge: the hash of the bytes that it holds. Condition: a sponge that holds bytes, as a value.
-/
namespace Go.Proofs.YtgalhpejihmhkaaDoor
open Go.RowKit Go.Shelf
set_option linter.unusedVariables false
namespace Kk

abbrev Z32h : Obj := .cells #[.int .u8 0, .int .u8 0, .int .u8 0, .int .u8 0, .int .u8 0, .int .u8 0, .int .u8 0, .int .u8 0, .int .u8 0, .int .u8 0, .int .u8 0, .int .u8 0, .int .u8 0, .int .u8 0, .int .u8 0, .int .u8 0, .int .u8 0, .int .u8 0, .int .u8 0, .int .u8 0, .int .u8 0, .int .u8 0, .int .u8 0, .int .u8 0, .int .u8 0, .int .u8 0, .int .u8 0, .int .u8 0, .int .u8 0, .int .u8 0, .int .u8 0, .int .u8 0] 23
theorem z32h : (#[.int .u8 0, .int .u8 0, .int .u8 0, .int .u8 0, .int .u8 0, .int .u8 0, .int .u8 0, .int .u8 0, .int .u8 0, .int .u8 0, .int .u8 0, .int .u8 0, .int .u8 0, .int .u8 0, .int .u8 0, .int .u8 0, .int .u8 0, .int .u8 0, .int .u8 0, .int .u8 0, .int .u8 0, .int .u8 0, .int .u8 0, .int .u8 0, .int .u8 0, .int .u8 0, .int .u8 0, .int .u8 0, .int .u8 0, .int .u8 0, .int .u8 0, .int .u8 0] : Array Value) = (hN zero 0).toArray := rfl
/-- A hash as a value. -/
abbrev hsV (hs : List Int) : Value := .agg (hs.map B8).toArray
theorem sliceHash (b l : Nat) (hl : l < 32) (w : World) :
    (Instr.sliceAt 23 (.pointer (some ⟨b, 0, none⟩)) (some (.int .i64 (l : Int))) none none).run Tryd.prog w = .ok (.slice (some ⟨b, l, none⟩) (32 - l) (32 - l)) w := by
  have al : Tryd.prog.arrayLen 23 = 32 := by kernel_rfl
  have el : Tryd.prog.elem 23 = 5 := by kernel_rfl
  rw [run_sliceAt_array_l (P := Tryd.prog) w 23 ⟨b, 0, none⟩ (by rw [al, el]; exact Tryd.underlying23) .i64 (l : Int) (by omega) (by rw [al]; omega), al, el]
  have hs : ∀ w, (sizeOf 5).run Tryd.prog w = .ok 1 w := Tryd.sizeOf5
  rw [hs w]
  simp only [Result.andThen, slicedAt, Int.toNat_natCast]
  rw [if_neg (by omega), Addr.add_mid, Nat.mul_one, Nat.zero_add]
theorem info_hash : (Tryd.prog.info? 23).map (·.size) = some 32 := by kernel_rfl
theorem info_8 : (Tryd.prog.info? 115).map (·.size) = some 8 := by kernel_rfl

/-- The end of sum: the words of the state go into the hash. -/
structure Ends (W : World) (h : Nat) (A : List Wd) (bs : List Int) (n : Int) (base : World) : Prop where
  sp : Sp W h 78 [] A 23 bs 0 n
  row : Blk W (h + 1) (hN A 0).toArray 23
  bel : Bel base W
  low : base.heap.size ≤ h

/-- The bytes that end: one after the other. -/
theorem sp_end {w : World} {h : Nat} {A : List Wd} {r : Int} {bs : List Int} {c : Nat} {n : Int} (hs : Sp w h 78 [] A r bs c n) (hc : c < 136) :
    Sp ((w.setCell ⟨h, 50 + c, none⟩ (.int .u8 6)).setCells h (50 + (c + 1)) (List.replicate (135 - c) (.int .u8 0))) h 78 [] A r (ended (bs.take c)) c n := by
  have hl := hs.lb
  have h1 := hs.setByte hc 6
  rw [show ([] : List Value).length + 50 + c = 50 + c by simp] at h1
  have h2 := h1.bytesSet (k := c + 1) (ys := List.replicate (135 - c) 0) (by simp; omega)
  rw [show ([] : List Value).length + 50 + (c + 1) = 50 + (c + 1) by simp, List.map_replicate] at h2
  have e : (bs.set c 6).take (c + 1) ++ (List.replicate (135 - c) 0 ++ (bs.set c 6).drop (c + 1 + (List.replicate (135 - c) (0 : Int)).length)) = ended (bs.take c) := by
    rw [List.drop_of_length_le (by simp; omega), List.append_nil]
    unfold ended
    rw [show (bs.take c).length = c by simp; omega, List.take_succ_eq_append_getElem (by simp; omega), List.getElem_set_self, List.take_set_of_le (Nat.le_refl _), List.append_assoc]
    rfl
  rw [e] at h2
  exact h2

set_option maxRecDepth 100000 in
set_option maxHeartbeats 2000000 in
theorem sum (A : List Wd) (r : Int) (bs : List Int) (c : Nat) (data : List Int) (n : Int) (w : World) (hA : A.length = 25) (hd : Hd data A bs c) (hT : Tn w) :
    Calls Tryd.prog 36 #[spV A r bs c n] w fun e w' => e = .returned (hsV (sumOf data)) ∧ Bel w w' := by
  have h0 := hT.1
  have hc := hd.lt
  obtain ⟨C, hC⟩ : ∃ C, C = (spCells A r bs c n).toArray := ⟨_, rfl⟩
  rw [show spV A r bs c n = .agg C by rw [hC]]
  obtain ⟨h, hh⟩ : ∃ h, h = w.heap.size := ⟨_, rfl⟩
  have S0 := Lib.hid (show Sp ((w.alloc (.cells C 78)).alloc Z32h) h 78 [] A r bs c n from ⟨by rw [hh, hC]; exact (Blk.new w _ _).alloc _, hA, hd.len⟩)
  have R0 := Lib.hid (show Blk ((w.alloc (.cells C 78)).alloc Z32h) (h + 1) (hN A 0).toArray 23 by
    have := Blk.new (w.alloc (.cells C 78)) #[.int .u8 0, .int .u8 0, .int .u8 0, .int .u8 0, .int .u8 0, .int .u8 0, .int .u8 0, .int .u8 0, .int .u8 0, .int .u8 0, .int .u8 0, .int .u8 0, .int .u8 0, .int .u8 0, .int .u8 0, .int .u8 0, .int .u8 0, .int .u8 0, .int .u8 0, .int .u8 0, .int .u8 0, .int .u8 0, .int .u8 0, .int .u8 0, .int .u8 0, .int .u8 0, .int .u8 0, .int .u8 0, .int .u8 0, .int .u8 0, .int .u8 0, .int .u8 0] 23
    rw [World.size_alloc, ← hh] at this
    exact this)
  have HB := Lib.hid (show Bel w ((w.alloc (.cells C 78)).alloc Z32h) from ((Bel.refl w).alloc _).alloc _)
  have HH := Lib.hid hh
  have HT := Lib.hid hT
  have HD := Lib.hid hd
  clear hC hT hd
  go_enter Tryd.func36, Tryd.ntmps36
  go_upto_region 1 with fail
  obtain ⟨W, hW⟩ : ∃ W, (w.alloc (.cells C 78)).alloc Z32h = W := ⟨_, rfl⟩
  rw [hW] at S0 R0 HB ⊢
  rw [← hh] at h0 ⊢
  clear hW hh
  have c0 : W.cell? ⟨h, 186, none⟩ = some (.int .i64 (c : Int)) := S0.out.count
  have f0 : W.frozen? ⟨h, 50 + c, none⟩ = false := S0.out.frozen _
  have k0 : W.cell? ⟨h, 50 + c, none⟩ = some (.int .u8 (bs.getD c 0)) := by
    have := S0.out.byte (i := c) hc
    rwa [show ([] : List Value).length + 50 + c = 50 + c by simp] at this
  obtain ⟨q, sl, sp2, th2⟩ : ∃ q, (∀ w, (Instr.sliceAt 74 (.pointer (some ⟨h, 50, none⟩)) (some (.int .i64 ((c : Int) + 1))) none none).run Tryd.prog w = .ok (.slice (some ⟨h, q, none⟩) (135 - c) (135 - c)) w) ∧
      Sp ((W.setCell ⟨h, 50 + c, none⟩ (.int .u8 6)).setCells h q (List.replicate (135 - c) (.int .u8 0))) h 78 [] A r (ended (bs.take c)) c n ∧ (W.setCell ⟨h, 50 + c, none⟩ (.int .u8 6)).there h q (135 - c) := by
    have he := sp_end S0.out hc
    by_cases h135 : c = 135
    · subst h135
      exact ⟨50, fun w => sliceArrEnd h 50 w, he, fun j hj => by omega⟩
    · refine ⟨50 + (c + 1), fun w => ?_, he, ?_⟩
      · have := sliceArr h 50 (c + 1) (by omega) w
        rw [show ((c + 1 : Nat) : Int) = (c : Int) + 1 by omega, show 136 - (c + 1) = 135 - c by omega] at this
        exact this
      · have h1 := S0.out.setByte hc 6
        rw [show ([] : List Value).length + 50 + c = 50 + c by simp] at h1
        exact h1.there (by simp; omega)
  have SP2 := Lib.hid sp2
  have TH2 := Lib.hid th2
  obtain ⟨x, hx⟩ : ∃ x, x = (ended (bs.take c)).getD 135 0 := ⟨_, rfl⟩
  have c185 : ((W.setCell ⟨h, 50 + c, none⟩ (.int .u8 6)).setCells h q (List.replicate (135 - c) (.int .u8 0))).cell? ⟨h, 185, none⟩ = some (.int .u8 x) := by
    rw [hx]; exact sp2.byte (i := 135) (by omega)
  have f185 : ((W.setCell ⟨h, 50 + c, none⟩ (.int .u8 6)).setCells h q (List.replicate (135 - c) (.int .u8 0))).frozen? ⟨h, 185, none⟩ = false := sp2.frozen _
  have rst := HD.out.rest
  have sp3 : Sp (((W.setCell ⟨h, 50 + c, none⟩ (.int .u8 6)).setCells h q (List.replicate (135 - c) (.int .u8 0))).setCell ⟨h, 185, none⟩ (.int .u8 (bits .xor .u8 x 128))) h 78 [] A r (pad (bs.take c)) c n := by
    have := sp2.setByte (i := 135) (by omega) (bits .xor .u8 x 128)
    rw [hx] at this ⊢
    exact this
  have k3 : Kep (fun i => i = h) W (((W.setCell ⟨h, 50 + c, none⟩ (.int .u8 6)).setCells h q (List.replicate (135 - c) (.int .u8 0))).setCell ⟨h, 185, none⟩ (.int .u8 (bits .xor .u8 x 128))) := (((Kep.refl _ W).set_self _ _).trans (kep_setCellsK h _ q _)).set_self _ _
  have AB := Lib.hid (absorb h 78 [] A r (pad (bs.take c)) c n _ sp3 (by_pad (HD.out.by_.take c)) ((HT.out.bel HB.out).kep k3 (by omega)) (by omega))
  have EA := Lib.hid (show absorbed A (pad (bs.take c)) = lastSt data by
    unfold lastSt
    rw [← HD.out.st, ← rst])
  have K3 := Lib.hid k3
  clear sp2 th2 hx rst sp3 k3
  go_wp2_with (refine wpList_clear rfl (.tmp 17) rfl h q (135 - c) (135 - c) rfl TH2.out ?_)
  refine (AB.out).mono ?_
  rintro e w4 ⟨rfl, hs4, hk4⟩
  rw [EA.out] at hs4
  obtain ⟨X, hX⟩ : ∃ X, X = lastSt data := ⟨_, rfl⟩
  rw [← hX] at hs4
  have HX := Lib.hid hX
  have S4 := Lib.hid hs4
  have K4 := Lib.hid (K3.out.trans hk4)
  have R4 := Lib.hid ((R0.out.kep K4.out (by omega)))
  have B4 := Lib.hid (Kep.bel HB.out K4.out (fun i hi => by rw [hi, HH.out]; exact Nat.le_refl _))
  have L4 := R4.out.lt
  clear hs4 hk4 hX AB EA K3 S0 R0 SP2 TH2 c0 f0 k0 c185 f185 sl
  go_wp2
  go_loopw [27] (fun i wr => ∃ k : Nat, i = .int .i64 k ∧ k ≤ 4 ∧ Blk wr (h + 1) (hN X k).toArray 23 ∧ Kep (fun i => i = h + 1) w4 wr) (fun i _ => 4 - (intOf i).toNat)
  case atStart => exact ⟨0, rfl, by omega, R4.out, Kep.refl _ _⟩
  case round =>
    obtain ⟨k, rfl, hk, hs, hkep⟩ := hrel
    have HS := Lib.hid hs
    have HK := Lib.hid hkep
    by_cases hlt : k < 4
    · have k0 : wr.cell? ⟨h, 0 + k, none⟩ = some (.int .u64 (U (g X k))) := (S4.out.kep hkep (by omega)).word (by omega)
      rw [show 0 + k = k / 5 * 5 + k % 5 by omega] at k0
      clear hs hkep
      go_wp2_with fail
      refine (split _ _).mono ?_
      rintro e w5 ⟨rfl, h5⟩
      have H5 : Bel wr w5 := h5
      clear h5 k0
      obtain ⟨Y, hY⟩ : ∃ Y, Y = (bytesOf (g X k)).map B8 := ⟨_, rfl⟩
      rw [← hY]
      have HYl := Lib.hid (show Y.length = 8 by rw [hY]; exact len_b8 _)
      have HYs := Lib.hid (show Y.toArray.size = 8 by rw [List.size_toArray]; exact HYl.out)
      have HYo := Lib.hid (show ∀ v ∈ Y, v.oneCell' = true by rw [hY]; exact ints_b8 _)
      have HYo2 := Lib.hid (all_oneCell_toArray (cs := Y) HYo.out)
      have HY := Lib.hid hY
      have TY := Lib.hid (show (w5.alloc (.cells #[.int .u8 0, .int .u8 0, .int .u8 0, .int .u8 0, .int .u8 0, .int .u8 0, .int .u8 0, .int .u8 0] 115)).there w5.heap.size 0 Y.toArray.size by
        rw [HYs.out]; exact there_newK (by decide))
      have IY := Lib.hid (show (Tryd.prog.info? 115).map (·.size) = some Y.toArray.size by rw [HYs.out]; exact info_8)
      clear hY
      go_wp2_with (refine wpList_store_mid rfl 115 (.tmp 4) (.tmp 39) rfl w5.heap.size 0 Y.toArray rfl rfl TY.out IY.out HYo2.out ?_)
      obtain ⟨w6, hw6⟩ : ∃ w6, (w5.alloc (.cells #[.int .u8 0, .int .u8 0, .int .u8 0, .int .u8 0, .int .u8 0, .int .u8 0, .int .u8 0, .int .u8 0] 115)).setCells w5.heap.size 0 Y = w6 := ⟨_, rfl⟩
      have K6 : Kep (fun _ => False) w5 w6 := by
        rw [← hw6]
        exact Kep.of_bel (Kep.bel ((Bel.refl w5).alloc _) (kep_setCellsK w5.heap.size Y 0 _) (fun i hi => by rw [hi]; exact Nat.le_refl _))
      have Q6 := Lib.hid (show w6.rangeAt w5.heap.size 0 Y by
        rw [← hw6]
        exact World.rangeAt_setCells_same _ _ _ _ (by have := TY.out; rw [HYs.out] at this; rw [HYl.out]; exact this))
      rw [hw6]
      have KK6 : Kep (fun i => i = h + 1) w4 w6 := (HK.out.trans (Kep.of_bel H5)).trans (K6.mono (fun _ _ e => e.elim))
      have HS6 := Lib.hid ((HS.out.bel H5).kep K6 (fun e => e))
      have HK6 := Lib.hid KK6
      obtain ⟨yb, hyb⟩ : ∃ yb, yb = w5.heap.size := ⟨_, rfl⟩
      rw [← hyb] at Q6 ⊢
      clear hw6 K6 KK6 TY IY H5 hyb HS HK
      have sh := fun w => sliceHash (h + 1) (k * 8) (by omega) w
      rw [show ((k * 8 : Nat) : Int) = (k : Int) * 8 by omega] at sh
      have w8 : IntKind.i64.wrap ((k : Int) * 8) = (k : Int) * 8 := IntWalk.i64_in _ (by omega)
      have SR := Lib.hid (show ∀ j v, Y[j]? = some v → w6.drew.cell? ((⟨yb, 0, none⟩ : Addr).add j) = some v from fun j v hv => by
        rw [Addr.add_mid]
        exact Q6.out j v hv)
      have TH := Lib.hid (show w6.drew.there (h + 1) (k * 8) 8 from (HS6.out.bel (Bel.refl w6).drew).there _ _ (by rw [List.size_toArray, len_hN]; omega))
      have MN := Lib.hid (show 8 = Nat.min 8 (32 - k * 8) from (Nat.min_eq_left (by omega)).symm)
      go_wp2
      go_region_law (refine step_copy_cells rfl (.tmp 42) (.tmp 43) rfl (h + 1) (k * 8) (32 - k * 8) (32 - k * 8) ⟨yb, 0, none⟩ 8 8 rfl rfl Y 8 HYl.out MN.out SR.out TH.out HYo.out ?_)
      have HS7 := Lib.hid (show Blk (w6.drew.setCells (h + 1) (k * 8) Y) (h + 1) (hN X (k + 1)).toArray 23 by
        rw [HY.out]
        exact hN_step X hlt (HS6.out.bel (Bel.refl w6).drew))
      have HK7 := Lib.hid ((HK6.out.drew).trans (kep_setCellsK (h + 1) Y (k * 8) w6.drew))
      clear HS6 HK6 SR TH Q6 MN
      go_wp2
      go_roundw
      case rel => exact ⟨k + 1, by go_num, by omega, HS7.out, HK7.out⟩
      case measure => simp [intOf] <;> omega
    · obtain rfl : k = 4 := by omega
      have RE := blk_range (show Blk wr (h + 1) ((hashOf X).map B8).toArray 23 from hs)
      have HRE := Lib.hid RE
      have HBE := Lib.hid (Kep.bel B4.out hkep (fun i hi => by rw [hi, HH.out]; omega))
      clear hs hkep HS HK RE
      go_wp2
      refine bodyPost_ret (results_c1 Tryd.results36 _ _ ⟨h + 1, 0, none⟩ _ rfl (run_loadVar_mid (P := Tryd.prog) _ (h + 1) 0 23 _ _ HRE.out Tryd.underlying23 rfl (by rw [List.length_map, len_hashOf]; exact info_hash))) rfl ⟨by rw [HX.out]; rfl, HBE.out⟩
end Kk
end Go.Proofs.YtgalhpejihmhkaaDoor
end
