/-
  What newState, permuted and Permute answer in this program: the rounds of the words. Condition: the table of turns lies in its variable.
-/
import Derived.Test.YtaniijpppmipbaaDoorKKeys
namespace Go.Proofs.YtaniijpppmipbaaDoor
open Go.RowKit Go.Shelf
set_option linter.unusedVariables false
namespace Kk

abbrev Z50 : Obj := .cells #[.int .u64 0, .int .u64 0, .int .u64 0, .int .u64 0, .int .u64 0, .int .u64 0, .int .u64 0, .int .u64 0, .int .u64 0, .int .u64 0, .int .u64 0, .int .u64 0, .int .u64 0, .int .u64 0, .int .u64 0, .int .u64 0, .int .u64 0, .int .u64 0, .int .u64 0, .int .u64 0, .int .u64 0, .int .u64 0, .int .u64 0, .int .u64 0, .int .u64 0, .int .u64 0, .int .u64 0, .int .u64 0, .int .u64 0, .int .u64 0, .int .u64 0, .int .u64 0, .int .u64 0, .int .u64 0, .int .u64 0, .int .u64 0, .int .u64 0, .int .u64 0, .int .u64 0, .int .u64 0, .int .u64 0, .int .u64 0, .int .u64 0, .int .u64 0, .int .u64 0, .int .u64 0, .int .u64 0, .int .u64 0, .int .u64 0, .int .i64 0] 54
/-- A state as a value. -/
abbrev stV (A : List Wd) (r : Int) : Value := .agg (stCells A r).toArray
theorem all_st (A : List Wd) (r : Int) : ∀ v ∈ stCells A r, v.oneCell' = true := by
  intro v hv
  rcases List.mem_append.1 hv with h | h
  · exact ints1 A v h
  · rcases List.mem_append.1 h with h | h
    · exact ints1 K v h
    · simp at h; subst h; rfl
theorem info_st : (Tryd.prog.info? 54).map (·.size) = some 50 := by kernel_rfl
theorem st_new {w : World} {A : List Wd} {r : Int} (h : A.length = 25) : St (w.alloc (.cells (stCells A r).toArray 54)) w.heap.size A r := ⟨h, Blk.new _ _ _⟩
theorem St.range {w : World} {b : Nat} {A : List Wd} {r : Int} (h : St w b A r) : w.rangeAt b 0 (stCells A r) := fun j v hv => by
  rw [Nat.zero_add]
  exact h.2.cell j (by rw [List.getElem?_toArray]; exact hv)

theorem there_bel {w w' : World} {g n : Nat} (h : w.there g 0 n) (hb : Bel w w') : w'.there g 0 n := fun j hj => by
  obtain ⟨h1, h2⟩ := h j hj
  obtain ⟨v, hv⟩ := Option.isSome_iff_exists.1 h1
  have hl : g < w.heap.size := World.block_lt_of_cell? w _ hv
  refine ⟨?_, ?_⟩
  · rw [Below.cell (p := ⟨g, 0 + j, none⟩) hb hl]; exact h1
  · rw [Below.frozen (p := ⟨g, 0 + j, none⟩) hb hl]; exact h2
theorem build_st : ∃ v, Value.agg (K.map V).toArray = v ∧ ∀ w, (Instr.build 54 #[(1, v)]).run Tryd.prog w = .ok (stV zero 0) w := ⟨_, rfl, fun w => by kernel_rfl⟩
theorem size_setCells (g : Nat) : ∀ (vs : List Value) (o : Nat) (w : World), (w.setCells g o vs).heap.size = w.heap.size
  | [], _, _ => rfl
  | v :: r, o, w => by
    rw [World.setCells, size_setCells g r (o + 1)]
    simp
theorem wpList_build {ops : Array Oper} {rest : List Oper} {op : Oper} {a : Act} {w : World} {Q : Exit → Act → World → Prop} (hgd : op.guard = none) (t : TypeId) (i : Nat) (x : Operand) (ho : op.op = .build t #[(i, x)])
    (u v : Value) (hx : a.eval x = u) (hb : ∀ w, (Instr.build t #[(i, u)]).run Tryd.prog w = .ok v w)
    (h : wpList Tryd.prog ops Q rest (a.put op.dst v) w) : wpList Tryd.prog ops Q (op :: rest) a w :=
  wpList_plain hgd fun _ hK => by
    unfold Oper.wp execOp
    simp [ho, hx, hb, Oper.upon]
    exact hK _ _ h
theorem there_new {w : World} {C : Array Value} {t : TypeId} {n : Nat} (h : n ≤ C.size) : (w.alloc (.cells C t)).there w.heap.size 0 n := there_newK h

set_option maxRecDepth 100000 in
set_option maxHeartbeats 1000000 in
theorem newState (w : World) : Calls Tryd.prog 44 #[] w fun e w' => e = .returned (stV zero 0) ∧ Bel w w' := by
  obtain ⟨v, hv, hB⟩ := build_st
  have HV := Lib.hid hv
  obtain ⟨C, hC⟩ : ∃ C, C = stCells zero 0 := ⟨_, rfl⟩
  have HC := Lib.hid hC
  have HCl := Lib.hid (show C.length = 50 by rw [hC]; exact len_st (by rfl) _)
  have HCo := Lib.hid (all_oneCell_toArray (cs := C) (by rw [hC]; exact all_st _ _))
  have HCs := Lib.hid (show C.toArray.size = 50 by rw [List.size_toArray]; exact HCl.out)
  have HI := Lib.hid (show (Tryd.prog.info? 54).map (·.size) = some C.toArray.size by rw [HCs.out]; exact info_st)
  have HI2 := Lib.hid (show (Tryd.prog.info? 54).map (·.size) = some C.length by rw [HCl.out]; exact info_st)
  rw [show stV zero 0 = .agg C.toArray by rw [hC]] at hB ⊢
  have HBB := Lib.hid hB
  clear hv hC hB
  go_enter Tryd.func44, Tryd.ntmps44
  go_wp2_with fail
  refine (keys _).mono ?_
  rintro e w1 ⟨rfl, h1⟩
  have TH0 : (w.alloc Z50).there w.heap.size 0 C.toArray.size := by rw [HCs.out]; exact there_new (by decide)
  have TH := Lib.hid (there_bel TH0 h1)
  have HB := Lib.hid (((Bel.refl w).alloc Z50).trans h1)
  clear h1 TH0
  rw [HV.out]
  go_wp2_with (first | (refine wpList_build rfl 54 1 (.tmp 1) rfl v _ rfl HBB.out ?_) | refine wpList_store_mid rfl 54 (.tmp 0) (.tmp 2) rfl w.heap.size 0 C.toArray rfl rfl TH.out HI.out HCo.out ?_)
  have RG : (w1.setCells w.heap.size 0 C.toArray.toList).rangeAt w.heap.size 0 C := World.rangeAt_setCells_same _ _ _ _ (by have := TH.out; rw [HCs.out] at this; rw [HCl.out]; exact this)
  refine bodyPost_ret (results_c1 Tryd.results44 _ _ ⟨w.heap.size, 0, none⟩ _ rfl (run_loadVar_mid (P := Tryd.prog) _ w.heap.size 0 54 C _ RG Tryd.underlying54 rfl HI2.out)) rfl ⟨rfl, ?_⟩
  exact Kep.bel HB.out (kep_setCellsK w.heap.size C 0 w1) (fun i hi => by rw [hi]; exact Nat.le_refl _)


abbrev FO : Obj := .cells #[Value.nilFunc, Value.nilFunc, Value.nilFunc, Value.nilFunc] 91
/-- The words behind j steps of a round with key k. -/
def stepJ (A : List Wd) (k : Wd) : Nat → List Wd
  | 0 => A
  | 1 => theta A
  | 2 => rhoPi (theta A)
  | 3 => chi (rhoPi (theta A))
  | _ => round A k
abbrev stepF (h f : Nat) : Value := .func (.func f) #[.pointer (some ⟨h, 0, none⟩)] #[]
abbrev stepsL (h : Nat) : List Value := [stepF h 55, stepF h 56, stepF h 57, stepF h 58]

/-- The world in which the rounds begin. -/
structure Begun (w : World) (h : Nat) (A : List Wd) (r : Int) (w1 : World) : Prop where
  hh : h = w.heap.size
  st : St w1 h A r
  tn : Tn w1
  there : w1.there (h + 1) 0 50
  fs : w1.rangeAt (h + 1 + 1) 0 (stepsL h)
  bel : Bel w w1
  size : w1.heap.size = h + 3
theorem begun (A : List Wd) (r : Int) (w : World) (C : Array Value) (hC : C = (stCells A r).toArray) (hA : A.length = 25) (hT : Tn w) (h : Nat) (hh : h = w.heap.size) :
    Begun w h A r ((((w.alloc (.cells C 54)).alloc Z50).alloc FO).setCells (h + 1 + 1) 0 (stepsL h)) := by
  obtain ⟨W3, hW3⟩ : ∃ W3, W3 = ((w.alloc (.cells C 54)).alloc Z50).alloc FO := ⟨_, rfl⟩
  have B3 : Bel w W3 := by rw [hW3]; exact (((Bel.refl w).alloc _).alloc _).alloc _
  have B1 : Bel (w.alloc (.cells C 54)) W3 := by rw [hW3]; exact ((Bel.refl _).alloc _).alloc _
  have N3 : W3.there (h + 1) 0 50 := by
    rw [hW3]
    have := there_newK (w := w.alloc (.cells C 54)) (C := #[.int .u64 0, .int .u64 0, .int .u64 0, .int .u64 0, .int .u64 0, .int .u64 0, .int .u64 0, .int .u64 0, .int .u64 0, .int .u64 0, .int .u64 0, .int .u64 0, .int .u64 0, .int .u64 0, .int .u64 0, .int .u64 0, .int .u64 0, .int .u64 0, .int .u64 0, .int .u64 0, .int .u64 0, .int .u64 0, .int .u64 0, .int .u64 0, .int .u64 0, .int .u64 0, .int .u64 0, .int .u64 0, .int .u64 0, .int .u64 0, .int .u64 0, .int .u64 0, .int .u64 0, .int .u64 0, .int .u64 0, .int .u64 0, .int .u64 0, .int .u64 0, .int .u64 0, .int .u64 0, .int .u64 0, .int .u64 0, .int .u64 0, .int .u64 0, .int .u64 0, .int .u64 0, .int .u64 0, .int .u64 0, .int .u64 0, .int .i64 0]) (t := 54) (n := 50) (by decide)
    rw [World.size_alloc, ← hh] at this
    exact there_bel this ((Bel.refl _).alloc _)
  have S3 : St W3 h A r := by
    have : St (w.alloc (.cells C 54)) w.heap.size A r := by rw [hC]; exact st_new hA
    rw [hh]
    exact this.bel B1
  have TF2 : W3.there (h + 1 + 1) 0 (stepsL h).length := by
    rw [hW3, hh]
    have := there_newK (w := (w.alloc (.cells C 54)).alloc Z50) (C := #[Value.nilFunc, Value.nilFunc, Value.nilFunc, Value.nilFunc]) (t := 91) (n := 4) (by decide)
    rwa [World.size_alloc, World.size_alloc] at this
  have HS3 : W3.heap.size = h + 3 := by rw [hW3, hh]; simp
  have h0 := hT.1
  rw [← hW3]
  have K1 : Kep (fun i => i = h + 1 + 1) W3 (W3.setCells (h + 1 + 1) 0 (stepsL h)) := kep_setCellsK _ _ _ _
  exact ⟨hh, S3.kep K1 (by omega), (hT.bel B3).kep K1 (by omega), World.there_setCells N3 _ _ _, World.rangeAt_setCells_same _ _ _ _ TF2, Kep.bel B3 K1 (fun i hi => by rw [hi, hh]; omega), by rw [size_setCells, HS3]⟩

/-- A state behind k rounds: its number is that of the last one. -/
def RSt (w : World) (b : Nat) (A : List Wd) (k : Nat) : Prop := ∃ r : Int, (1 ≤ k → r = (k : Int) - 1) ∧ St w b A r
theorem range_kep {S : Nat → Prop} {w w' : World} {b o : Nat} {cs : List Value} (h : w.rangeAt b o cs) (hk : Kep S w w') (hs : ¬ S b) : w'.rangeAt b o cs := fun j v hv => hk.cell hs (h j v hv)

theorem idx_func (cs : Array Value) (i : Nat) (v : Value) (hi : i < 4) (hv : cs[i]? = some v) (w : World) :
    (Instr.index 91 (.agg cs) (.int .i64 (i : Int))).run Tryd.prog w = .ok v w := by
  have hn : 0 ≤ (i : Int) ∧ (i : Int) < ((4 : Nat) : Int) := by omega
  have ha : ∀ w, (isAgg 1).run Tryd.prog w = .ok false w := Tryd.isAgg1
  have hs : ∀ w, (sizeOf 1).run Tryd.prog w = .ok 1 w := Tryd.sizeOf1
  simp [Instr.index, run_underlying Tryd.underlying91, asIntOf, hn, part, ha, hs, hv]
  intro h; omega
theorem there_kep {S : Nat → Prop} {w w' : World} {g n : Nat} (h : w.there g 0 n) (hk : Kep S w w') (hs : ¬ S g) : w'.there g 0 n := fun j hj => by
  obtain ⟨h1, h2⟩ := h j hj
  obtain ⟨v, hv⟩ := Option.isSome_iff_exists.1 h1
  have hl : g < w.heap.size := World.block_lt_of_cell? w _ hv
  have hb := hk.block g hl hs
  exact ⟨by rw [World.cell?_of_block (w := w) (a := ⟨g, 0 + j, none⟩) hb]; exact h1, by rw [World.frozen?_of_block (w := w) (a := ⟨g, 0 + j, none⟩) hb]; exact h2⟩

set_option maxRecDepth 100000 in
set_option maxHeartbeats 2000000 in
theorem permuted (A : List Wd) (r : Int) (w : World) (hA : A.length = 25) (hT : Tn w) :
    Calls Tryd.prog 45 #[stV A r] w fun e w' => e = .returned (stV (perm A) 23) ∧ Bel w w' := by
  have h0 := hT.1
  obtain ⟨C, hC⟩ : ∃ C, C = (stCells A r).toArray := ⟨_, rfl⟩
  have HBG := Lib.hid (begun A r w C hC hA hT w.heap.size rfl)
  rw [show stV A r = .agg C by rw [hC]]
  have TF0 : (((w.alloc (.cells C 54)).alloc Z50).alloc FO).there (w.heap.size + 1 + 1) 0 (stepsL w.heap.size).toArray.size := by
    have := there_newK (w := (w.alloc (.cells C 54)).alloc Z50) (C := #[Value.nilFunc, Value.nilFunc, Value.nilFunc, Value.nilFunc]) (t := 91) (n := 4) (by decide)
    rwa [World.size_alloc, World.size_alloc] at this
  have TF := Lib.hid TF0
  have HF := Lib.hid (show (Tryd.prog.info? 91).map (·.size) = some (stepsL w.heap.size).toArray.size by kernel_rfl)
  have HO := Lib.hid (show (stepsL w.heap.size).toArray.all (·.oneCell') = true by simp [Value.oneCell'])
  clear TF0 hT hC
  go_enter Tryd.func45, Tryd.ntmps45
  go_wp2_with (refine wpList_store_mid rfl 91 (.tmp 3) (.tmp 11) rfl (w.heap.size + 1 + 1) 0 (stepsL w.heap.size).toArray rfl rfl TF.out HF.out HO.out ?_)
  obtain ⟨w1, hw1⟩ : ∃ w1, (((w.alloc (.cells C 54)).alloc Z50).alloc FO).setCells (w.heap.size + 1 + 1) 0 (stepsL w.heap.size) = w1 := ⟨_, rfl⟩
  rw [hw1] at HBG ⊢
  obtain ⟨h, hh⟩ : ∃ h, h = w.heap.size := ⟨_, rfl⟩
  rw [← hh] at HBG h0 ⊢
  clear hw1 hh TF HF HO
  have hh0 : h ≠ 0 := by omega
  go_loopw [12] (fun i wr => ∃ k : Nat, i = .int .i64 k ∧ k ≤ 24 ∧ RSt wr h (permN k A) k ∧ Kep (fun i => i = h) w1 wr) (fun i _ => 24 - (intOf i).toNat)
  case atStart => exact ⟨0, rfl, by omega, ⟨r, by omega, HBG.out.st⟩, Kep.refl _ _⟩
  case round =>
    obtain ⟨k, rfl, hk, ⟨r', hr', hs⟩, hkep⟩ := hrel
    have HS := Lib.hid hs
    have HR := Lib.hid hr'
    have HK := Lib.hid hkep
    by_cases hlt : k < 24
    · have c49 := hs.rnd
      have f49 := hs.frozen 49
      have RF := range_kep HBG.out.fs hkep (by omega)
      have d0 : wr.cell? ⟨h + 1 + 1, 0, none⟩ = some (stepF h 55) := RF 0 _ rfl
      have d1 : wr.cell? ⟨h + 1 + 1, 1, none⟩ = some (stepF h 56) := RF 1 _ rfl
      have d2 : wr.cell? ⟨h + 1 + 1, 2, none⟩ = some (stepF h 57) := RF 2 _ rfl
      have d3 : wr.cell? ⟨h + 1 + 1, 3, none⟩ = some (stepF h 58) := RF 3 _ rfl
      have S2 := Lib.hid (hs.setRound (k : Int))
      have K2 := Lib.hid (hkep.set_self 49 (.int .i64 (k : Int)))
      have PS := Lib.hid (permN_succ hlt A)
      clear hs hkep hr' RF
      go_wp2
      obtain ⟨w2, hw2⟩ : ∃ w2, wr.setCell ⟨h, 49, none⟩ (.int .i64 (k : Int)) = w2 := ⟨_, rfl⟩
      rw [hw2] at S2 K2 ⊢
      rw [show decide ((k : Int) < 24) = true from decide_eq_true (by omega)]
      clear hw2 c49 f49 d0 d1 d2 d3 HS HR HK
      go_loopw [18] (fun i wr => ∃ j : Nat, i = .int .i64 j ∧ j ≤ 4 ∧ St wr h (stepJ (permN k A) (g K k) j) k ∧ Kep (fun i => i = h) w1 wr) (fun i _ => 4 - (intOf i).toNat)
      case atStart => exact ⟨0, rfl, by omega, S2.out, K2.out⟩
      case round =>
        obtain ⟨j, rfl, hj, hs, hkep⟩ := hrel
        have HS := Lib.hid hs
        have HK := Lib.hid hkep
        have HT := Lib.hid (HBG.out.tn.kep hkep (fun e => hh0 e.symm))
        clear hs hkep S2 K2
        obtain rfl | rfl | rfl | rfl | rfl : j = 0 ∨ j = 1 ∨ j = 2 ∨ j = 3 ∨ j = 4 := by omega
        · have ix := fun w => idx_func #[stepF h 55, stepF h 56, stepF h 57, stepF h 58] 0 (stepF h 55) (by omega) rfl w
          rw [show ((0 : Nat) : Int) = 0 from rfl] at ix
          go_wp2_with fail
          refine (mixColumns h _ (k : Int) _ HS.out).mono ?_
          rintro e w4 ⟨rfl, h4, k4⟩
          have H4 := Lib.hid h4
          have K4 := Lib.hid (HK.out.trans k4)
          clear h4 k4
          go_wp2
          go_roundw
          case rel => exact ⟨1, rfl, by omega, H4.out, K4.out⟩
          case measure => simp [intOf] <;> omega
        · have ix := fun w => idx_func #[stepF h 55, stepF h 56, stepF h 57, stepF h 58] 1 (stepF h 56) (by omega) rfl w
          rw [show ((1 : Nat) : Int) = 1 from rfl] at ix
          go_wp2_with fail
          refine (moveWords h _ (k : Int) _ HS.out HT.out hh0).mono ?_
          rintro e w4 ⟨rfl, h4, k4⟩
          have H4 := Lib.hid h4
          have K4 := Lib.hid (HK.out.trans k4)
          clear h4 k4
          go_wp2
          go_roundw
          case rel => exact ⟨2, rfl, by omega, H4.out, K4.out⟩
          case measure => simp [intOf] <;> omega
        · have ix := fun w => idx_func #[stepF h 55, stepF h 56, stepF h 57, stepF h 58] 2 (stepF h 57) (by omega) rfl w
          rw [show ((2 : Nat) : Int) = 2 from rfl] at ix
          go_wp2_with fail
          refine (bendRows h _ (k : Int) _ HS.out).mono ?_
          rintro e w4 ⟨rfl, h4, k4⟩
          have H4 := Lib.hid h4
          have K4 := Lib.hid (HK.out.trans k4)
          clear h4 k4
          go_wp2
          go_roundw
          case rel => exact ⟨3, rfl, by omega, H4.out, K4.out⟩
          case measure => simp [intOf] <;> omega
        · have ix := fun w => idx_func #[stepF h 55, stepF h 56, stepF h 57, stepF h 58] 3 (stepF h 58) (by omega) rfl w
          rw [show ((3 : Nat) : Int) = 3 from rfl] at ix
          go_wp2_with fail
          refine (addKey h _ k _ HS.out hlt).mono ?_
          rintro e w4 ⟨rfl, h4, k4⟩
          have H4 := Lib.hid h4
          have K4 := Lib.hid (HK.out.trans k4)
          clear h4 k4
          go_wp2
          go_roundw
          case rel => exact ⟨4, rfl, by omega, H4.out, K4.out⟩
          case measure => simp [intOf] <;> omega
        · go_wp2
          go_roundw
          case rel => exact ⟨k + 1, by go_num, by omega, ⟨k, by omega, by rw [PS.out]; exact HS.out⟩, HK.out⟩
          case measure => simp [intOf] <;> omega
    · obtain rfl : k = 24 := by omega
      have er : r' = 23 := by have := HR.out (by omega); omega
      subst er
      have hA24 : (permN 24 A).length = 25 := hs.len
      obtain ⟨D, hD⟩ : ∃ D, D = stCells (permN 24 A) 23 := ⟨_, rfl⟩
      have HDl := Lib.hid (show D.length = 50 by rw [hD]; exact len_st hs.len _)
      have HDo := Lib.hid (all_oneCell_toArray (cs := D) (by rw [hD]; exact all_st _ _))
      have HDs := Lib.hid (show D.toArray.size = 50 by rw [List.size_toArray]; exact HDl.out)
      have HI := Lib.hid (show (Tryd.prog.info? 54).map (·.size) = some D.toArray.size by rw [HDs.out]; exact info_st)
      have HI2 := Lib.hid (show (Tryd.prog.info? 54).map (·.size) = some D.length by rw [HDl.out]; exact info_st)
      have RG := Lib.hid (show wr.rangeAt h 0 D by rw [hD]; exact hs.range)
      have TH := Lib.hid (show wr.there (h + 1) 0 D.toArray.size by rw [HDs.out]; exact there_kep HBG.out.there hkep (by omega))
      have HDD := Lib.hid hD
      clear hs hkep HS HR hr' hD
      go_wp2_with (first | (refine wpList_load_mid rfl 54 (.tmp 1) rfl h 0 rfl D _ RG.out Tryd.underlying54 rfl HI2.out ?_) | (refine wpList_store_mid rfl 54 (.tmp 2) (.tmp 25) rfl (h + 1) 0 D.toArray rfl rfl TH.out HI.out HDo.out ?_))
      have RE : (wr.setCells (h + 1) 0 D).rangeAt (h + 1) 0 D := World.rangeAt_setCells_same _ _ _ _ (by have := TH.out; rw [HDs.out] at this; rw [HDl.out]; exact this)
      refine bodyPost_ret (results_c1 Tryd.results45 _ _ ⟨h + 1, 0, none⟩ _ rfl (run_loadVar_mid (P := Tryd.prog) _ (h + 1) 0 54 D _ RE Tryd.underlying54 rfl HI2.out)) rfl ⟨by rw [HDD.out]; rfl, ?_⟩
      refine Kep.bel HBG.out.bel ((HK.out.mono (T := fun i => i = h ∨ i = h + 1) (fun _ _ e => .inl e)).trans ((kep_setCellsK (h + 1) D 0 wr).mono (fun _ _ e => .inr e))) (fun i hi => ?_)
      have := HBG.out.hh
      rcases hi with hi | hi <;> omega
end Kk
end Go.Proofs.YtaniijpppmipbaaDoor
