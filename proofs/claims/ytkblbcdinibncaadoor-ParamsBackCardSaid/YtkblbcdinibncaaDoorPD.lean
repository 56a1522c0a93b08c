/-
  Texts of this claim, put together: PByt, PAw0, PEq, PAwk, PTell. What each one says, and under which conditions, stands ahead of it.
-/
import Derived.Laws.StructEq
import Derived.Test.YtkblbcdinibncaaDoorPB
import Derived.Test.YtkblbcdinibncaaDoorPE
import Derived.Test.YtkblbcdinibncaaDoorPC
import Derived.Test.YtkblbcdinibncaaDoorPA

section
/-
  What params.Bytes answers in this program: the eleven numbers' bytes, of a record that is valid.
  Conditions: the eleven numbers are of their kinds.
-/
namespace Go.Proofs.YtkblbcdinibncaaDoor
open Go.RowKit Go.Shelf
set_option linter.unusedVariables false
namespace Pm
open Kk

/-- The bytes of the first k numbers. -/
def encs (x : Nat → Int) : Nat → List Int
  | 0 => []
  | k + 1 => encs x k ++ Cd.enc (x k)
theorem encs_len (x : Nat → Int) : ∀ k, (encs x k).length ≤ 10 * k
  | 0 => Nat.le_refl 0
  | k + 1 => by
    have h1 := encs_len x k
    have h2 := (Cd.enc_len (x k)).2
    show (encs x k ++ Cd.enc (x k)).length ≤ _
    rw [List.length_append]
    omega
/-- What Bytes answers: new bytes, or Check's error. -/
def Byt (x : Nat → Int) (zs : List Int) (a : Int) : Prop := (a = 0 ∧ Chk x 0 0 ∧ zs = encs x 11) ∨ (a ≠ 0 ∧ zs = [] ∧ ∃ b, Chk x a b)
def BytE (x : Nat → Int) (w : World) (e : Ending) (w' : World) : Prop := ∃ v zs a, e = .returned (.tuple #[v, .int .i64 a]) ∧ Byt x zs a ∧ Fresh w w' v zs

set_option maxRecDepth 100000 in
set_option maxHeartbeats 4000000 in
theorem bytes (x : Nat → Int) (hx : Kinds x) (w : World) : Calls Tryd.prog 15 #[.agg (recC x).toArray] w (BytE x w) := by
  obtain ⟨D, hD⟩ : ∃ D, D = recC x := ⟨_, rfl⟩
  obtain ⟨W, hW⟩ : ∃ W, w.alloc (.cells D.toArray 26) = W := ⟨_, rfl⟩
  have B0 := Lib.hid (show Bel w W by rw [← hW]; exact (Bel.refl w).alloc _)
  have R0 := Lib.hid (show W.rangeAt w.heap.size 0 (recC x) by rw [← hW, hD]; exact rngB (Blk.new w (recC x).toArray 26))
  obtain ⟨p, hp⟩ : ∃ p, w.heap.size = p := ⟨_, rfl⟩
  rw [hp] at R0
  have HDl := Lib.hid (show D.length = 11 by rw [hD]; rfl)
  have R1 := Lib.hid (show W.rangeAt p 0 D by rw [hD]; exact R0.out)
  have CK := Lib.hid (check x hx)
  rw [← hD] at CK
  rw [← hD]
  have HX := Lib.hid hx
  have HP := Lib.hid hp
  have HW := Lib.hid hW
  clear hx hp hD hW
  go_enter Tryd.func15, Tryd.ntmps15
  go_upto_region 1 with fail
  rw [HW.out, HP.out]
  go_wp2_with (refine wpList_load_mid rfl 26 (.tmp 1) rfl p 0 rfl D _ R1.out Tryd.underlying26 rfl (by rw [HDl.out]; exact info_rec) ?_)
  refine (CK.out W).mono ?_
  rintro e w1 ⟨a, b, rfl, hC, k1⟩
  have B1 : Hid (Bel W w1) := Lib.hid k1
  have C1 := Lib.hid hC
  clear k1 hC
  by_cases ha : a = 0
  · subst ha
    obtain rfl := C1.out.zero
    go_wp2_with fail
    refine (fieldsR p w1).mono ?_
    rintro e w2 ⟨b, rfl, hF, k2⟩
    have B2 : Hid (Bel w1 w2) := Lib.hid k2
    have F2 := Lib.hid hF
    have R2 := Lib.hid (rng_bel (rng_bel R0.out B1.out) k2)
    clear k2 hF
    go_wp2_with fail
    go_loopw [6, 19] (fun u6 u19 wr => ∃ k : Nat, u19 = .int .i64 k ∧ k ≤ 11 ∧ wr.ownsRow w2.heap.size 5 1 u6 (encs x k).length ((encs x k).map (Value.int .u8)) ∧ Bel w2 wr) (fun _ u19 _ => 11 - (intOf u19).toNat)
    case atStart => exact ⟨0, rfl, by omega, ⟨rfl, .inl ⟨rfl, rfl⟩⟩, Bel.refl _⟩
    case round =>
      obtain ⟨k, rfl, hk, hown, hb⟩ := hrel
      have HO := Lib.hid hown
      have KB := Lib.hid hb
      clear hown hb
      by_cases hlt : k < 11
      · obtain ⟨c, h1, h2, h3⟩ := (F2.out.bel KB.out).all k hlt
        have hY0 : ∃ Y, Y = fldC (nm k) (lo k) (hi k) (gf k) (sf k) c := ⟨_, rfl⟩
        obtain ⟨Y, hY⟩ := hY0
        rw [← hY] at h1
        have HYl := Lib.hid (show Y.length = 5 by rw [hY]; rfl)
        have YI := Lib.hid (show (Tryd.prog.info? 62).map (·.size) = some Y.length by rw [HYl.out]; exact info_fld)
        have YI2 := Lib.hid (show (Tryd.prog.info? 62).map (·.size) = some Y.toArray.size by rw [List.size_toArray]; exact YI.out)
        have YO := Lib.hid (all_oneCell_toArray (cs := Y) (by rw [hY]; exact fldC_cells _ _ _ _ _ _))
        have HY := Lib.hid hY
        have R3 := Lib.hid h1
        obtain ⟨p1, p2, p3⟩ := put5 wr Y HYl.out
        have P1 := Lib.hid p1
        have P2 := Lib.hid p2
        have P3 := Lib.hid p3
        have C2 := Lib.hid h2
        clear h1 h2 h3 p1 p2 p3 hY
        go_upto_region 8 with (first | (refine wpList_load_mid rfl 62 (.tmp 21) rfl b (k * 5) rfl Y _ R3.out Tryd.underlying62 rfl YI.out ?_) | (refine wpList_store_mid rfl 62 (.tmp 8) (.tmp 22) rfl wr.heap.size 0 Y.toArray rfl rfl P1.out YI2.out YO.out ?_))
        obtain ⟨f, hf⟩ : ∃ f, wr.heap.size = f := ⟨_, rfl⟩
        obtain ⟨V, hV⟩ : ∃ V, (wr.alloc ZF).setCells wr.heap.size 0 Y = V := ⟨_, rfl⟩
        have hV' := hV
        rw [hf] at hV' ⊢
        rw [hV] at P2 P3
        rw [hf] at P3
        rw [hV']
        clear hV hV' hf
        have hcell := P3.out.cell 3 (v := .func (.func (gf k)) #[] #[.pointer (some ⟨c, 0, none⟩)]) (by rw [HY.out]; rfl)
        have okx := C1.out.ok.1 k hlt
        have xb := okF_b HX.out k hlt okx
        have lh := lohi k hlt
        have GA := Lib.hid (getAt c p k x V hlt (cell_bel C2.out P2.out) (rng_bel (rng_bel R2.out KB.out) P2.out))
        rw [wv_ok HX.out k hlt okx] at GA
        have PT := Lib.hid (Cd.put (x k) V (by omega) (by omega))
        have EL := Lib.hid (encs_len x k)
        have EL2 := Lib.hid (Cd.enc_len (x k)).2
        have HO2 := Lib.hid (owns_bel HO.out P2.out)
        have CF := enter_gf k hlt
        obtain ⟨zs, hzs⟩ : ∃ zs, Cd.enc (x k) = zs := ⟨_, rfl⟩
        rw [hzs] at PT EL2
        have HZS := Lib.hid hzs
        obtain ⟨v, hv⟩ : ∃ v, x k = v := ⟨_, rfl⟩
        rw [hv] at GA PT
        obtain ⟨g, hg⟩ : ∃ g, gf k = g := ⟨_, rfl⟩
        rw [hg] at hcell CF GA
        clear hv hg okx xb lh hzs
        go_wp2_with fail
        refine GA.out.mono ?_
        rintro e w4 ⟨rfl, rfl⟩
        go_wp2_with fail
        refine PT.out.mono ?_
        rintro e w4 ⟨v4, rfl, ho4, k4⟩
        have B4 : Hid (Bel V w4) := Lib.hid k4
        obtain ⟨A, cc, rfl, hsl⟩ := sl_of_own ho4
        have SL := Lib.hid hsl
        have HO3 := Lib.hid (owns_bel HO2.out k4)
        have BS := Lib.hid (show w2.heap.size ≤ w4.heap.size from Nat.le_trans (Below.size KB.out) (Nat.le_trans (Below.size P2.out) (Below.size k4)))
        have hbnd : (encs x k).length + zs.length ≤ 1000000000000 := by have := EL.out; have := EL2.out; omega
        clear ho4 k4 hsl hcell CF
        go_wp2_with (at_builtin; refine wpList_append_sl rfl _ _ rfl w2.heap.size u6 _ _ rfl HO3.out A zs.length cc zs rfl SL.out hbnd BS.out ?_; intro v' w5 hown' hgrow)
        refine ⟨⟨k + 1, by go_num, by omega, ?_, ?_⟩, ?_⟩
        · have e : encs x (k + 1) = encs x k ++ zs := by rw [← HZS.out]; rfl
          rw [e, List.map_append, List.length_append]
          exact hown'
        · exact ((KB.out.trans P2.out).trans B4.out).grown hgrow (fun j hj => (HO3.out.lt j hj).1)
        · simp [intOf]; omega
      · obtain rfl : k = 11 := by omega
        go_wp2_with fail
        go_ret2
        exact ⟨_, _, 0, rfl, .inl ⟨rfl, C1.out, rfl⟩, owns_mono HO.out (Below.size ((B0.out.trans B1.out).trans B2.out)), ((B0.out.trans B1.out).trans B2.out).trans KB.out⟩
  · go_wp2_with fail
    go_ret2
    exact ⟨.slice none 0 0, [], a, rfl, .inr ⟨ha, rfl, b, C1.out⟩, ⟨rfl, .inl ⟨rfl, rfl⟩⟩, B0.out.trans B1.out⟩
end Pm
end Go.Proofs.YtkblbcdinibncaaDoor
end

section
/-
  What Check, Text and Bytes make of the default record, and Check of the zero record: no walk. No condition.
-/
namespace Go.Proofs.YtkblbcdinibncaaDoor
open Go.RowKit Go.Shelf Go.Sort
set_option linter.unusedVariables false
namespace Pm
open Kk

theorem okF_dv : ∀ j, j < 11 → okF dv j = true := fun j hj => by
  rw [okF_fv kinds_dv j hj]
  match j, hj with
  | 0, _ => decide
  | 1, _ => decide
  | 2, _ => decide
  | 3, _ => decide
  | 4, _ => decide
  | 5, _ => decide
  | 6, _ => decide
  | 7, _ => decide
  | 8, _ => decide
  | 9, _ => decide
  | 10, _ => decide
  | n + 11, h => omega
theorem chk_dv : Chk dv 0 0 := .inr (.inr ⟨okF_dv, by decide, rfl, rfl⟩)
theorem kinds_zr : Kinds zr := by
  intro i hi
  unfold zr
  exact ⟨fun _ => by omega, fun _ => by omega⟩
theorem chk_zr : Chk zr 3 0 := .inl ⟨0, by omega, fun j hj => by omega, by rw [okF_fv kinds_zr 0 (by omega)]; decide, rfl, rfl⟩
theorem encs_dv : (encs dv 11).length = 17 := by decide
def nd (n : Nat) : Nat := (Lib.decDigits n).length
theorem nd_lt {n : Nat} (h : n < 10) : nd n = 1 := by unfold nd; rw [Lib.decDigits_one h]; rfl
theorem nd_ge {n : Nat} (h : ¬ n < 10) : nd n = nd (n / 10) + 1 := by
  unfold nd
  rw [Lib.decDigits, dif_neg h]
  simp
theorem text_dv : (textB dv 11).size = 132 := by
  have e0 : ∀ (i : Nat) (v : Int), (lineB i v).size = (nm i).size + 1 + nd v.toNat + 1 := fun i v => by
    unfold lineB nd
    simp only [ByteArray.size_append]
    rfl
  simp only [textB, ByteArray.size_append, e0]
  rw [show (dv 0).toNat = 100 from rfl, show (dv 1).toNat = 100 from rfl, show (dv 2).toNat = 10 from rfl, show (dv 3).toNat = 8 from rfl, show (dv 4).toNat = 7 from rfl, show (dv 5).toNat = 8 from rfl, show (dv 6).toNat = 20 from rfl, show (dv 7).toNat = 50000000 from rfl, show (dv 8).toNat = 3 from rfl, show (dv 9).toNat = 50 from rfl, show (dv 10).toNat = 100000000 from rfl]
  have h10 : nd 10 = 2 := by rw [nd_ge (by decide), nd_lt (by decide)]
  have h20 : nd 20 = 2 := by rw [nd_ge (by decide), nd_lt (by decide)]
  have h50 : nd 50 = 2 := by rw [nd_ge (by decide), nd_lt (by decide)]
  have h100 : nd 100 = 3 := by rw [nd_ge (by decide), nd_ge (by decide), nd_lt (by decide)]
  have h5 : nd 50000000 = 8 := by rw [nd_ge (by decide), nd_ge (by decide), nd_ge (by decide), nd_ge (by decide), nd_ge (by decide), nd_ge (by decide), nd_ge (by decide), nd_lt (by decide)]
  have h1 : nd 100000000 = 9 := by rw [nd_ge (by decide), nd_ge (by decide), nd_ge (by decide), nd_ge (by decide), nd_ge (by decide), nd_ge (by decide), nd_ge (by decide), nd_ge (by decide), nd_lt (by decide)]
  rw [h10, h20, h50, h100, h5, h1, nd_lt (n := 8) (by decide), nd_lt (n := 7) (by decide), nd_lt (n := 3) (by decide)]
  rfl
/-- Names are unlike. -/
theorem nm_inj : ∀ i j, i < 11 → j < 11 → nm i = nm j → i = j := by
  intro i j hi hj h
  have h2 : (nm i).data = (nm j).data := by rw [h]
  have key : ∀ a : Fin 11, ∀ b : Fin 11, (nm a).data = (nm b).data → a = b := by decide
  exact congrArg Fin.val (key ⟨i, hi⟩ ⟨j, hj⟩ h2)
theorem At.uniq {s : ByteArray} {i j : Nat} (h : At s i) (k : At s j) : i = j := nm_inj i j h.1 k.1 (by rw [h.2.1, k.2.1])
theorem at_base : At ⟨#[98, 97, 115, 101]⟩ 7 := ⟨by omega, rfl, fun j hj h => by
  have := nm_inj j 7 (by omega) (by omega) h
  omega⟩
theorem gt_base {n a : Int} (h : Gt dv ⟨#[98, 97, 115, 101]⟩ n a) : n = 50000000 ∧ a = 0 := by
  rcases h with ⟨rfl, _, i, hi, rfl⟩ | ⟨ha, _, hf⟩
  · obtain rfl := hi.uniq at_base
    exact ⟨rfl, rfl⟩
  · rcases hf with ⟨b, hb⟩ | ⟨_, hno, _⟩
    · exact absurd (hb.uniq chk_dv).1 ha
    · exact absurd rfl (hno 7 (by omega))
theorem txt_dv {s : ByteArray} {a : Int} (h : Txt dv s a) : s.size = 132 ∧ a = 0 := by
  rcases h with ⟨rfl, _, rfl⟩ | ⟨ha, _, b, hb⟩
  · exact ⟨text_dv, rfl⟩
  · exact absurd (hb.uniq chk_dv).1 ha
theorem byt_dv {zs : List Int} {a : Int} (h : Byt dv zs a) : zs.length = 17 ∧ a = 0 := by
  rcases h with ⟨rfl, _, rfl⟩ | ⟨ha, _, b, hb⟩
  · exact ⟨encs_dv, rfl⟩
  · exact absurd (hb.uniq chk_dv).1 ha
end Pm
end Go.Proofs.YtkblbcdinibncaaDoor
end

section
/-
  A record is equal to itself; what == of two structs answers, as an arm of a walk. No condition.
-/
namespace Go.Proofs.YtkblbcdinibncaaDoor
open Go.RowKit Go.Shelf
set_option linter.unusedVariables false
namespace Pm
open Kk

theorem part0 {P : Program} {t : TypeId} {q : IntKind} (hu : P.underlying t = some (.int q)) {xs : Array Value} {i : Nat} {v : Value} (hx : xs[i]? = some v) (w : World) : (part t xs i).run P w = .ok v w := by
  simp [part, isAgg, run_underlying hu, hx]
theorem eqIn_rec (x : Nat → Int) (W : World) : (Op.equalIn 10000 26 (.agg (recC x).toArray) (.agg (recC x).toArray)).run Tryd.prog W = .ok true W := by
  have hS : Tryd.prog.underlying 26 = some (.struct (Tryd.prog.fieldsOf 26)) := by kernel_rfl
  rw [show (10000 : Nat) = 9999 + 1 from rfl, run_equalIn_struct W 9999 _ _ _ hS (by kernel_rfl)]
  simp only [Program.fieldsOf, Tryd.underlying26]
  have p0 : ∀ w, (part 3 (recC x).toArray 0).run Tryd.prog w = .ok (.int .i64 (x 0)) w := fun w => part0 Tryd.underlying3 rfl w
  have p1 : ∀ w, (part 3 (recC x).toArray 1).run Tryd.prog w = .ok (.int .i64 (x 1)) w := fun w => part0 Tryd.underlying3 rfl w
  have p2 : ∀ w, (part 3 (recC x).toArray 2).run Tryd.prog w = .ok (.int .i64 (x 2)) w := fun w => part0 Tryd.underlying3 rfl w
  have p3 : ∀ w, (part 3 (recC x).toArray 3).run Tryd.prog w = .ok (.int .i64 (x 3)) w := fun w => part0 Tryd.underlying3 rfl w
  have p4 : ∀ w, (part 3 (recC x).toArray 4).run Tryd.prog w = .ok (.int .i64 (x 4)) w := fun w => part0 Tryd.underlying3 rfl w
  have p5 : ∀ w, (part 3 (recC x).toArray 5).run Tryd.prog w = .ok (.int .i64 (x 5)) w := fun w => part0 Tryd.underlying3 rfl w
  have p6 : ∀ w, (part 3 (recC x).toArray 6).run Tryd.prog w = .ok (.int .i64 (x 6)) w := fun w => part0 Tryd.underlying3 rfl w
  have p7 : ∀ w, (part 23 (recC x).toArray 7).run Tryd.prog w = .ok (.int .u64 (x 7)) w := fun w => part0 Tryd.underlying23 rfl w
  have p8 : ∀ w, (part 23 (recC x).toArray 8).run Tryd.prog w = .ok (.int .u64 (x 8)) w := fun w => part0 Tryd.underlying23 rfl w
  have p9 : ∀ w, (part 3 (recC x).toArray 9).run Tryd.prog w = .ok (.int .i64 (x 9)) w := fun w => part0 Tryd.underlying3 rfl w
  have p10 : ∀ w, (part 23 (recC x).toArray 10).run Tryd.prog w = .ok (.int .u64 (x 10)) w := fun w => part0 Tryd.underlying23 rfl w
  have q0 : ∀ x : Int, (Op.equalIn 9999 3 (.int .i64 x) (.int .i64 x)).run Tryd.prog W = .ok (x == x) W := fun x => run_equalIn_int W 9998 _ _ _ _ _ Tryd.underlying3
  have q4 : ∀ x : Int, (Op.equalIn 9999 23 (.int .u64 x) (.int .u64 x)).run Tryd.prog W = .ok (x == x) W := fun x => run_equalIn_int W 9998 _ _ _ _ _ Tryd.underlying23
  simp only [Op.eqFields]
  simp [Sem.run_ite, p0, p1, p2, p3, p4, p5, p6, p7, p8, p9, p10, q0, q4]
theorem eql_rec (x : Nat → Int) (W : World) : (binOp .eql 26 (.agg (recC x).toArray) (.agg (recC x).toArray)).run Tryd.prog W = .ok (.bool true) W := by
  rw [run_eql_struct, eqIn_rec x]
  rfl
/-- What == of two structs answers, as an operation of a region. -/
theorem exec_eql {a : Act} {o : Oper} {t t2 : TypeId} {x y : Operand} (ho : o.op = .binOp .eql t x y t2) (xs ys : Array Value) (hx : a.eval x = .agg xs) (hy : a.eval y = .agg ys) (hm : Tryd.prog.eqGuardType Tryd.prog.depth t = false)
    {b : Bool} (hb : ∀ w, (binOp .eql t (.agg xs) (.agg ys)).run Tryd.prog w = .ok (.bool b) w) (w : World) : (execOp a.eval o).run Tryd.prog w = .ok (.value (.bool b)) w := by
  unfold execOp
  simp only [ho, hx, hy, Sem.run_bind, run_eqGuard_agg (hm := hm), Result.andThen_ok, hb, Sem.run_pure]
/-- An operation that yields a value, whether it is guarded or not, as an arm of a walk. -/
theorem wpList_val {ops : Array Oper} {rest : List Oper} {o : Oper} {a : Act} {w : World} {Q : Exit → Act → World → Prop} (hw : Region.wanted o (yielded ops a.tmps) = true) (V : Value) (hr : ∀ w, (execOp a.eval o).run Tryd.prog w = .ok (.value V) w)
    (h : wpList Tryd.prog ops Q rest (a.put o.dst V) w) : wpList Tryd.prog ops Q (o :: rest) a w :=
  wpList_step fun K hK => by
    rw [if_pos hw]
    unfold Oper.wp
    rw [hr]
    exact hK _ _ h
/-- A load of a row, whether it is guarded or not. -/
theorem wpList_load_g {ops : Array Oper} {rest : List Oper} {o : Oper} {a : Act} {w : World} {Q : Exit → Act → World → Prop} (hw : Region.wanted o (yielded ops a.tmps) = true) (ty : TypeId) (x : Operand) (ho : o.op = .load ty x)
    (b q : Nat) (hx : a.eval x = .pointer (some ⟨b, q, none⟩)) (cs : List Value) (d : TypeDesc) (hc : w.rangeAt b q cs)
    (hu : Tryd.prog.underlying ty = some d) (hd : d.isRow = true) (hi : (Tryd.prog.info? ty).map (·.size) = some cs.length)
    (h : wpList Tryd.prog ops Q rest (a.put o.dst (.agg cs.toArray)) w) : wpList Tryd.prog ops Q (o :: rest) a w :=
  wpList_step fun K hK => by
    rw [if_pos hw]
    exact wp_load_mid ty x ho b q hx cs d hc hu hd hi (hK _ _ h)
end Pm
end Go.Proofs.YtkblbcdinibncaaDoor
end

section
/-
  What the statements' checks and awake answer. Condition: the library's table of powers of ten is as the program's text lays it.
-/
namespace Go.Proofs.YtkblbcdinibncaaDoor
open Go.RowKit Go.Shelf Go.Sort
set_option linter.unusedVariables false
namespace Pm
open Kk

set_option maxRecDepth 100000 in
set_option maxHeartbeats 1000000 in
theorem checksT (x : Nat → Int) (hx : Kinds x) (a b : Int) (hc : Chk x a b) (w : World) : Calls Tryd.prog 13 #[.agg (recC x).toArray, .int .i64 a, .int .i64 b] w fun e w' => e = .returned (.bool true) ∧ Bel w w' := by
  obtain ⟨D, hD⟩ : ∃ D, D = recC x := ⟨_, rfl⟩
  obtain ⟨W, hW⟩ : ∃ W, w.alloc (.cells D.toArray 26) = W := ⟨_, rfl⟩
  have B0 := Lib.hid (show Bel w W by rw [← hW]; exact (Bel.refl w).alloc _)
  have R1 := Lib.hid (show W.rangeAt w.heap.size 0 D by rw [← hW]; exact rngB (Blk.new w D.toArray 26))
  have HDl := Lib.hid (show D.length = 11 by rw [hD]; rfl)
  have CK := Lib.hid (check x hx)
  rw [← hD] at CK
  rw [← hD]
  have HC := Lib.hid hc
  have HW := Lib.hid hW
  clear hx hD hW hc
  go_enter Tryd.func13, Tryd.ntmps13
  go_upto_region 1 with fail
  rw [HW.out]
  go_wp2_with (refine wpList_load_mid rfl 26 (.tmp 3) rfl w.heap.size 0 rfl D _ R1.out Tryd.underlying26 rfl (by rw [HDl.out]; exact info_rec) ?_)
  refine (CK.out W).mono ?_
  rintro e w1 ⟨c, d, rfl, hC, k1⟩
  have B1 : Hid (Bel W w1) := Lib.hid k1
  obtain ⟨rfl, rfl⟩ := hC.uniq HC.out
  clear k1 hC
  go_wp2
  go_ret
  exact ⟨by simp, B0.out.trans B1.out⟩

set_option maxRecDepth 100000 in
set_option maxHeartbeats 4000000 in
theorem awake (w : World) (htab : Tab w) : Calls Tryd.prog 22 #[] w fun e w' => e = .returned (.bool true) ∧ Bel w w' := by
  obtain ⟨E, hE⟩ : ∃ E, E = recC dv := ⟨_, rfl⟩
  have EI := Lib.hid (show (Tryd.prog.info? 26).map (·.size) = some E.length by rw [hE]; exact info_rec)
  have EI2 := Lib.hid (show (Tryd.prog.info? 26).map (·.size) = some E.toArray.size by rw [hE]; exact info_rec)
  have EO := Lib.hid (all_oneCell_toArray (cs := E) (by rw [hE]; exact recC_cells _))
  have HE := Lib.hid hE
  obtain ⟨Z, hZ⟩ : ∃ Z, Z = recC zr := ⟨_, rfl⟩
  have HZA := Lib.hid (show Z.toArray = #[.int .i64 0, .int .i64 0, .int .i64 0, .int .i64 0, .int .i64 0, .int .i64 0, .int .i64 0, .int .u64 0, .int .u64 0, .int .i64 0, .int .u64 0] by rw [hZ]; rfl)
  have DF := Lib.hid (default_ w)
  have GT := Lib.hid (get dv kinds_dv ⟨#[98, 97, 115, 101]⟩)
  have TX := Lib.hid (text dv kinds_dv)
  have BY := Lib.hid (bytes dv kinds_dv)
  have CD := Lib.hid (checksT dv kinds_dv 0 0 chk_dv)
  have CZ := Lib.hid (checksT zr kinds_zr 3 0 chk_zr)
  unfold RecE at DF
  rw [← hE] at DF GT TX BY CD
  rw [← hZ] at CZ
  rw [HZA.out] at CZ
  have HT := Lib.hid htab
  clear hE hZ htab
  go_enter Tryd.func22, Tryd.ntmps22
  go_wp2_with fail
  refine DF.out.mono ?_
  rintro e w1 ⟨rfl, k1⟩
  have B1 : Hid (Bel w w1) := Lib.hid k1
  clear k1
  obtain ⟨t1, t2⟩ := store_rec (z := dv) (y := fun _ => 0) (Blk.new w1 _ _)
  rw [← HE.out] at t1 t2
  have T1 := Lib.hid t1
  obtain ⟨d, hd⟩ : ∃ d, w1.heap.size = d := ⟨_, rfl⟩
  obtain ⟨V, hV⟩ : ∃ V, (w1.alloc (.cells #[.int .i64 0, .int .i64 0, .int .i64 0, .int .i64 0, .int .i64 0, .int .i64 0, .int .i64 0, .int .u64 0, .int .u64 0, .int .i64 0, .int .u64 0] 26)).setCells d 0 E = V := ⟨_, rfl⟩
  have t2' : Blk ((w1.alloc (.cells #[.int .i64 0, .int .i64 0, .int .i64 0, .int .i64 0, .int .i64 0, .int .i64 0, .int .i64 0, .int .u64 0, .int .u64 0, .int .i64 0, .int .u64 0] 26)).setCells w1.heap.size 0 E) w1.heap.size E.toArray 26 := t2
  rw [hd, hV] at t2'
  have BV := Lib.hid (show Bel w1 V by rw [← hV]; exact bel_setCells ((Bel.refl w1).alloc _) (by rw [hd]; exact Nat.le_refl _) 0 E)
  have KV := Lib.hid t2'
  have HV := Lib.hid hV
  have HD := Lib.hid hd
  clear t1 t2 t2' hV hd
  go_upto_region 2 with (refine wpList_store_mid rfl 26 (.tmp 1) (.tmp 8) rfl w1.heap.size 0 E.toArray rfl rfl T1.out EI2.out EO.out ?_)
  rw [HD.out, HV.out]
  have R2 := Lib.hid (rngB KV.out)
  go_wp2_with (refine wpList_load_mid rfl 26 (.tmp 1) rfl d 0 rfl E _ R2.out Tryd.underlying26 rfl EI.out ?_)
  refine (GT.out V).mono ?_
  rintro e w2 ⟨n, a, rfl, hg, k2⟩
  have B2 : Hid (Bel V w2) := Lib.hid k2
  have R3 := Lib.hid (rng_bel R2.out k2)
  obtain ⟨rfl, rfl⟩ := gt_base hg
  clear k2 hg
  go_wp2_with (refine wpList_load_mid rfl 26 (.tmp 1) rfl d 0 rfl E _ R3.out Tryd.underlying26 rfl EI.out ?_)
  refine (TX.out w2 (((HT.out.bel B1.out).bel BV.out).bel B2.out)).mono ?_
  rintro e w3 ⟨s, a, rfl, hs, k3⟩
  have B3 : Hid (Bel w2 w3) := Lib.hid k3
  have R4 := Lib.hid (rng_bel R3.out k3)
  obtain ⟨hs1, rfl⟩ := txt_dv hs
  have HS := Lib.hid hs1
  clear k3 hs hs1
  go_wp2_with (refine wpList_load_mid rfl 26 (.tmp 1) rfl d 0 rfl E _ R4.out Tryd.underlying26 rfl EI.out ?_)
  refine (BY.out w3).mono ?_
  rintro e w4 ⟨v, zs, a, rfl, hb, hf⟩
  have B4 : Hid (Bel w3 w4) := Lib.hid hf.2
  have R5 := Lib.hid (rng_bel R4.out hf.2)
  obtain ⟨hb1, rfl⟩ := byt_dv hb
  obtain ⟨A, c, rfl, hsl⟩ := hf.sl
  rw [hb1]
  clear hb hf hb1 hsl
  go_wp2_with (refine wpList_load_mid rfl 26 (.tmp 1) rfl d 0 rfl E _ R5.out Tryd.underlying26 rfl EI.out ?_)
  refine (CD.out w4).mono ?_
  rintro e w5 ⟨rfl, k5⟩
  have B5 : Hid (Bel w4 w5) := Lib.hid k5
  have hcell := (rng_bel R5.out k5) 0 (.int .i64 100) (by rw [HE.out]; rfl)
  rw [Nat.zero_add] at hcell
  have hsz : (s.size : Int) = 132 := by have := HS.out; omega
  clear k5
  go_wp2_with fail
  refine (CZ.out w5).mono ?_
  rintro e w6 ⟨rfl, k6⟩
  have B6 : Hid (Bel w5 w6) := Lib.hid k6
  clear k6
  go_wp2_with fail
  go_ret
  exact ⟨rfl, (((((B1.out.trans BV.out).trans B2.out).trans B3.out).trans B4.out).trans B5.out).trans B6.out⟩
end Pm
end Go.Proofs.YtkblbcdinibncaaDoor
end

section
/-
  The law ParamsTell: what the program tells of any record, name and number is what the reference tells.
  Conditions: the eleven numbers are of their kinds; the number is below 2^64; the library's table of powers of ten is as the program's text lays it.
-/
namespace Go.Proofs.YtkblbcdinibncaaDoor
open Go.RowKit Go.Shelf Go.Sort
set_option linter.unusedVariables false
namespace Pm
open Kk

theorem FErr.uniq {x : Nat → Int} {s : ByteArray} {a b : Int} (h : FErr x s a) (k : FErr x s b) (ha : a ≠ 0) (hb : b ≠ 0) : a = b := by
  rcases h with ⟨c, hc⟩ | ⟨h1, _, h3⟩
  · rcases k with ⟨d, hd⟩ | ⟨k1, _, _⟩
    · exact (hc.uniq hd).1
    · exact absurd (hc.uniq k1).1 ha
  · rcases k with ⟨d, hd⟩ | ⟨_, _, k3⟩
    · exact absurd (hd.uniq h1).1 hb
    · rw [h3, k3]
theorem FErr.not {x : Nat → Int} {s : ByteArray} {a : Int} (h : FErr x s a) (ha : a ≠ 0) (hc : Chk x 0 0) {i : Nat} (hi : At s i) : False := by
  rcases h with ⟨c, hd⟩ | ⟨_, hno, _⟩
  · exact ha (hd.uniq hc).1
  · exact hno i hi.1 hi.2.1
theorem Gt.uniq {x : Nat → Int} {s : ByteArray} {n a m b : Int} (h : Gt x s n a) (k : Gt x s m b) : n = m ∧ a = b := by
  rcases h with ⟨rfl, h1, i, hi, rfl⟩ | ⟨ha, rfl, hf⟩
  · rcases k with ⟨rfl, _, j, hj, rfl⟩ | ⟨hb, _, hg⟩
    · rw [hi.uniq hj]
      exact ⟨rfl, rfl⟩
    · exact (hg.not hb h1 hi).elim
  · rcases k with ⟨rfl, k1, j, hj, rfl⟩ | ⟨hb, rfl, hg⟩
    · exact (hf.not ha k1 hj).elim
    · exact ⟨rfl, hf.uniq hg ha hb⟩
theorem St.uniq {x : Nat → Int} {s : ByteArray} {n : Int} {y z : Nat → Int} {a b : Int} (h : St x s n y a) (k : St x s n z b) : y = z ∧ a = b := by
  rcases h with ⟨rfl, h1, i, hi, rfl, hy⟩ | ⟨ha, rfl, hf⟩
  · rcases k with ⟨rfl, _, j, hj, rfl, _⟩ | ⟨hb, _, hg | ⟨_, j, d, hj, hd⟩⟩
    · rw [hi.uniq hj]
      exact ⟨rfl, rfl⟩
    · exact (hg.not hb h1 hi).elim
    · obtain rfl := hi.uniq hj
      exact absurd (hd.uniq hy).1 hb
  · rcases k with ⟨rfl, k1, j, hj, rfl, hz⟩ | ⟨hb, rfl, hg⟩
    · rcases hf with hf | ⟨_, i, d, hi, hd⟩
      · exact (hf.not ha k1 hj).elim
      · obtain rfl := hi.uniq hj
        exact absurd (hd.uniq hz).1 ha
    · refine ⟨rfl, ?_⟩
      rcases hf with hf | ⟨h1, i, d, hi, hd⟩
      · rcases hg with hg | ⟨k1, j, e, hj, he⟩
        · exact hf.uniq hg ha hb
        · exact (hf.not ha k1 hj).elim
      · rcases hg with hg | ⟨k1, j, e, hj, he⟩
        · exact (hg.not hb h1 hi).elim
        · obtain rfl := hi.uniq hj
          exact (hd.uniq he).1

end Pm
end Go.Proofs.YtkblbcdinibncaaDoor
end
