/-
  Texts of this claim, put together: PKn0, PKn1, PKn2, PKn. What each one says, and under which conditions, stands ahead of it.
-/
import Derived.Test.YtpohcdfmkcfonaaGreatDoorGPRd
import Derived.Test.YtpohcdfmkcfonaaGreatDoorGPPrs
import Derived.Test.YtpohcdfmkcfonaaGreatDoorGPAw0
import Derived.Test.YtpohcdfmkcfonaaGreatDoorGPAwk

section
/-
  What the statements' parses and reads answer: the fault. Conditions: a text of at most 10^9 bytes; at most 10^6 bytes.
-/
namespace Go.Proofs.YtpohcdfmkcfonaaGreatDoor
open Go.RowKit Go.Shelf
set_option linter.unusedVariables false
namespace Pm
open Kk

abbrev ZP : Obj := .cells #[.int .i64 0, .int .i64 0, .int .i64 0, .int .i64 0, .int .i64 0, .int .i64 0, .int .i64 0, .int .u64 0, .int .u64 0, .int .i64 0, .int .u64 0] 24
abbrev ZT : Obj := .cells #[.int .i64 0, .int .i64 0] 34
end Pm
end Go.Proofs.YtpohcdfmkcfonaaGreatDoor
end

section
/-
  What the known bytes and the known texts are read as, and the default record's text: no walk. No condition.
-/
namespace Go.Proofs.YtpohcdfmkcfonaaGreatDoor
open Go.RowKit Go.Shelf
set_option linter.unusedVariables false
namespace Pm
open Kk

theorem val_one (zs : List Int) (k : Nat) {z : Int} (hz : zs.getD k 0 = z) (h0 : 0 ≤ z) (h1 : z < 128) : Cd.val zs k (0 + 1) = z := by
  have h : Cd.val zs k (0 + 1) = zs.getD k 0 % 128 + 128 * Cd.val zs (k + 1) 0 := Cd.val_front zs k 0
  have h2 : Cd.val zs (k + 1) 0 = 0 := rfl
  rw [h, h2, hz]
  omega
theorem way_one {zs : List Int} {k : Nat} {z : Int} (hz : zs.getD k 0 = z) (hk : k < zs.length) (h0 : 0 ≤ z) (h1 : z < 128) : Cd.Way zs k z ((k + 1 : Nat) : Int) 0 0 := by
  refine .inr (.inr ⟨k, 0, rfl, by decide, hk, fun i hi => absurd hi (by omega), by rw [Nat.add_zero, hz]; exact h1, fun h => absurd h (by omega), fun h => absurd h (by omega), (val_one zs k hz h0 h1).symm, by push_cast; omega, rfl, rfl⟩)
theorem rn_ok {zs : List Int} {k : Nat} {z least most : Int} (hz : zs.getD k 0 = z) (hk : k < zs.length) (h0 : 0 ≤ z) (h1 : z < 128) (hl : least ≤ z) (hm : z ≤ most) : Cd.RN zs k none least most z (k + 1) none :=
  .inr ⟨rfl, ((k + 1 : Nat) : Int), 0, 0, ⟨z, _, 0, 0, way_one hz hk h0 h1, h0, by omega, .inr (.inr ⟨rfl, hl, hm, rfl, rfl, rfl, rfl⟩)⟩, .inl ⟨rfl, rfl, rfl⟩, by omega, fun h => absurd rfl h⟩
theorem rn_no {zs : List Int} {k : Nat} {z least most : Int} (hz : zs.getD k 0 = z) (hk : k < zs.length) (h0 : 0 ≤ z) (h1 : z < 128) (hb : z < least ∨ most < z) : Cd.RN zs k none least most 0 k (some (3, (k : Int))) :=
  .inr ⟨rfl, 0, 3, (k : Int), ⟨z, _, 0, 0, way_one hz hk h0 h1, h0, by omega, .inr (.inl ⟨rfl, hb, rfl, rfl, rfl, rfl⟩)⟩, .inr ⟨by decide, rfl, rfl⟩, by omega, fun _ => rfl⟩
/-- Nothing is left to read. -/
theorem rn_short (zs : List Int) (least most : Int) : Cd.RN zs zs.length none least most 0 zs.length (some (6, (zs.length : Int))) :=
  .inr ⟨rfl, 0, 6, (zs.length : Int), ⟨0, 0, 6, (zs.length : Int), .inr (.inl ⟨zs.length, rfl, Nat.le_refl _, rfl, rfl, rfl, .inl ⟨rfl, by omega, fun i hi => absurd hi (by omega)⟩⟩), by decide, by decide, .inl ⟨by decide, rfl, rfl, rfl, rfl⟩⟩, .inr ⟨by decide, rfl, rfl⟩, Nat.le_refl _, fun _ => rfl⟩

theorem to_none : To [] (zer zr 11) 0 (some (6, 0)) 11 zr 0 none := by
  refine ⟨0, 0, some (6, 0), rn_short [] _ _, .inl rfl, ?_⟩
  exact to_fault [] (6, 0) 10 (upd zr 0 0) 0
theorem to_zero : To [0] (zer zr 11) 0 (some (3, 0)) 11 zr 0 none := by
  refine ⟨0, 0, some (3, 0), rn_no (z := 0) rfl (by decide) (by decide) (by decide) (.inl (by decide)), .inl rfl, ?_⟩
  exact to_fault [0] (3, 0) 10 (upd zr 0 0) 0
theorem to_56 : To [5, 6] (zer (upd (upd zr 0 5) 1 6) 9) 2 (some (9, 1)) 11 zr 0 none := by
  refine ⟨5, 1, none, rn_ok (z := 5) rfl (by decide) (by decide) (by decide) (by decide) (by decide), .inr (by decide), ?_⟩
  refine ⟨6, 2, none, rn_ok (z := 6) rfl (by decide) (by decide) (by decide) (by decide) (by decide), .inr (by decide), ?_⟩
  exact to_fault [5, 6] (9, 1) 9 (upd (upd zr 0 5) 1 6) 2

/-- The default record's text. -/
def TD : List UInt8 := [117, 110, 98, 111, 110, 100, 105, 110, 103, 32, 49, 48, 48, 10, 109, 97, 120, 97, 103, 101, 32, 49, 48, 48, 10, 101, 112, 111, 99, 104, 108, 101, 110, 32, 49, 48, 10, 119, 105, 110, 100, 111, 119, 32, 56, 10, 101, 110, 116, 114, 105, 101, 115, 32, 55, 10, 109, 97, 120, 97, 99, 116, 105, 118, 101, 32, 56, 10, 106, 97, 105, 108, 116, 105, 109, 101, 32, 50, 48, 10, 98, 97, 115, 101, 32, 53, 48, 48, 48, 48, 48, 48, 48, 10, 109, 117, 108, 116, 32, 51, 10, 99, 111, 114, 114, 119, 105, 110, 100, 111, 119, 32, 53, 48, 10, 114, 101, 119, 97, 114, 100, 32, 49, 48, 48, 48, 48, 48, 48, 48, 48, 10]
theorem textB_dv : textB dv 11 = ⟨TD.toArray⟩ := by
  have s1 : ∀ n, n < 10 → Lib.decDigits n = [UInt8.ofNat (48 + n)] := fun n h => Lib.decDigits_one h
  have s2 : ∀ n, ¬ n < 10 → Lib.decDigits n = Lib.decDigits (n / 10) ++ [UInt8.ofNat (48 + n % 10)] := fun n h => by rw [Lib.decDigits, dif_neg h]
  have d100 : Lib.decDigits 100 = [49, 48, 48] := by rw [s2 _ (by decide), s2 _ (by decide), s1 _ (by decide)]; rfl
  have d10 : Lib.decDigits 10 = [49, 48] := by rw [s2 _ (by decide), s1 _ (by decide)]; rfl
  have d8 : Lib.decDigits 8 = [56] := by rw [s1 _ (by decide)]; rfl
  have d7 : Lib.decDigits 7 = [55] := by rw [s1 _ (by decide)]; rfl
  have d3 : Lib.decDigits 3 = [51] := by rw [s1 _ (by decide)]; rfl
  have d20 : Lib.decDigits 20 = [50, 48] := by rw [s2 _ (by decide), s1 _ (by decide)]; rfl
  have d50 : Lib.decDigits 50 = [53, 48] := by rw [s2 _ (by decide), s1 _ (by decide)]; rfl
  have d5 : Lib.decDigits 50000000 = [53, 48, 48, 48, 48, 48, 48, 48] := by rw [s2 _ (by decide), s2 _ (by decide), s2 _ (by decide), s2 _ (by decide), s2 _ (by decide), s2 _ (by decide), s2 _ (by decide), s1 _ (by decide)]; rfl
  have d1 : Lib.decDigits 100000000 = [49, 48, 48, 48, 48, 48, 48, 48, 48] := by rw [s2 _ (by decide), s2 _ (by decide), s2 _ (by decide), s2 _ (by decide), s2 _ (by decide), s2 _ (by decide), s2 _ (by decide), s2 _ (by decide), s1 _ (by decide)]; rfl
  simp only [textB, lineB]
  rw [show (dv 0).toNat = 100 from rfl, show (dv 1).toNat = 100 from rfl, show (dv 2).toNat = 10 from rfl, show (dv 3).toNat = 8 from rfl, show (dv 4).toNat = 7 from rfl, show (dv 5).toNat = 8 from rfl, show (dv 6).toNat = 20 from rfl, show (dv 7).toNat = 50000000 from rfl, show (dv 8).toNat = 3 from rfl, show (dv 9).toNat = 50 from rfl, show (dv 10).toNat = 100000000 from rfl]
  rw [d100, d10, d8, d7, d3, d20, d50, d5, d1]
  rfl
theorem prs_of {p : (Nat → Int) × Int × Int} {a b : Int} (h : p.2 = (a, b)) : p = (p.1, a, b) := by rw [← h]
theorem prs_short : (prs 0 zr (pcs 131 (TD.take 131))).2 = (6, 10) := by decide +kernel
theorem prs_long : (prs 0 zr (pcs 133 (TD ++ [120]))).2 = (4, 11) := by decide +kernel
theorem prs_form : (prs 0 zr (pcs 15 [117, 110, 98, 111, 110, 100, 105, 110, 103, 32, 48, 49, 48, 48, 10])).2 = (5, 0) := by decide +kernel
theorem prs_range : (prs 0 zr (pcs 12 [117, 110, 98, 111, 110, 100, 105, 110, 103, 32, 48, 10])).2 = (3, 0) := by decide +kernel
theorem td_cut : (TD.take 25).drop 14 = [109, 97, 120, 97, 103, 101, 32, 49, 48, 48, 10] := by decide
end Pm
end Go.Proofs.YtpohcdfmkcfonaaGreatDoor
end

section
/-
  What Get and Set make of the default record in the chapter's examples: no walk. No condition.
-/
namespace Go.Proofs.YtpohcdfmkcfonaaGreatDoor
open Go.RowKit Go.Shelf
set_option linter.unusedVariables false
namespace Pm
open Kk

theorem kinds_fin {x : Nat → Int} (h : ∀ i : Fin 11, (isU i = true → 0 ≤ x i ∧ x i ≤ 18446744073709551615) ∧ (isU i = false → -9223372036854775808 ≤ x i ∧ x i ≤ 9223372036854775807)) : Kinds x := fun i hi => h ⟨i, hi⟩
theorem all_fin {x : Nat → Int} (h : ∀ i : Fin 11, okF x i = true) : ∀ j, j < 11 → okF x j = true := fun j hj => h ⟨j, hj⟩
theorem at_fin {s : ByteArray} {i : Nat} (hi : i < 11) (h : nm i = s) : At s i := ⟨hi, h, fun j hj e => by
  have := nm_inj j i (by omega) hi (e.trans h.symm)
  omega⟩
/-- The default with a MaxAge of 101; with an Unbonding of 0 and a MaxAge of -1. -/
def old_ : Nat → Int := upd dv 1 101
def low_ : Nat → Int := upd (upd dv 0 0) 1 (-1)
theorem kinds_old : Kinds old_ := kinds_fin (by decide)
theorem kinds_low : Kinds low_ := kinds_fin (by decide)
theorem chk_old : Chk old_ 9 1 := .inr (.inl ⟨all_fin (by decide), by decide, rfl, rfl⟩)
theorem chk_low : Chk low_ 3 0 := .inl ⟨0, by omega, fun j hj => by omega, by decide, rfl, rfl⟩
theorem st_bad {s : ByteArray} {n : Int} {y : Nat → Int} {a : Int} {i : Nat} {c d : Int} (hat : At s i) (hc : Chk (upd dv i (sv i n)) c d) (hc0 : c ≠ 0) (h : St dv s n y a) : a = c ∧ y = zr := by
  rcases h with ⟨rfl, _, j, hj, rfl, hk⟩ | ⟨ha, rfl, (⟨b, hb⟩ | ⟨_, hno, _⟩) | ⟨_, j, b, hj, hk⟩⟩
  · obtain rfl := hj.uniq hat
    exact absurd (hk.uniq hc).1.symm hc0
  · exact absurd (hb.uniq chk_dv).1 ha
  · exact absurd hat.2.1 (hno i hat.1)
  · obtain rfl := hj.uniq hat
    exact ⟨(hk.uniq hc).1, rfl⟩
theorem st_ok {s : ByteArray} {n : Int} {y : Nat → Int} {a : Int} {i : Nat} (hat : At s i) (hc : Chk (upd dv i (sv i n)) 0 0) (h : St dv s n y a) : a = 0 ∧ y = upd dv i (sv i n) := by
  rcases h with ⟨rfl, _, j, hj, rfl, hk⟩ | ⟨ha, rfl, (⟨b, hb⟩ | ⟨_, hno, _⟩) | ⟨_, j, b, hj, hk⟩⟩
  · obtain rfl := hj.uniq hat
    exact ⟨rfl, rfl⟩
  · exact absurd (hb.uniq chk_dv).1 ha
  · exact absurd hat.2.1 (hno i hat.1)
  · obtain rfl := hj.uniq hat
    exact absurd (hk.uniq hc).1 ha
theorem st_1 {y : Nat → Int} {a : Int} (h : St dv ⟨#[117, 110, 98, 111, 110, 100, 105, 110, 103]⟩ 99 y a) : a = 9 ∧ y = zr :=
  st_bad (i := 0) (d := 1) (at_fin (by omega) rfl) (by rw [sv_num 0 99 (by decide) (by decide)]; exact .inr (.inl ⟨all_fin (by decide), by decide, rfl, rfl⟩)) (by decide) h
theorem st_2 {y : Nat → Int} {a : Int} (h : St dv ⟨#[109, 117, 108, 116]⟩ 1001 y a) : a = 3 ∧ y = zr :=
  st_bad (i := 8) (d := 8) (at_fin (by omega) rfl) (.inl ⟨8, by omega, fun j hj => by
    have h8 : ∀ i : Fin 8, okF (upd dv 8 (sv 8 1001)) i = true := by decide
    exact h8 ⟨j, hj⟩, by decide, rfl, rfl⟩) (by decide) h
theorem st_3 {y : Nat → Int} {a : Int} (h : St dv ⟨#[114, 101, 119, 97, 114, 100]⟩ 0 y a) : a = 0 ∧ y = upd dv 10 0 :=
  st_ok (i := 10) (at_fin (by omega) rfl) (.inr (.inr ⟨all_fin (by decide), by decide, rfl, rfl⟩)) h
theorem gt_Base {n a : Int} (h : Gt dv ⟨#[66, 97, 115, 101]⟩ n a) : a = 10 ∧ n = 0 := by
  rcases h with ⟨rfl, _, i, hi, rfl⟩ | ⟨ha, hn, hf⟩
  · exfalso
    have key : ∀ a : Fin 11, (nm a).data ≠ #[66, 97, 115, 101] := by decide
    exact key ⟨i, hi.1⟩ (congrArg ByteArray.data hi.2.1)
  · rcases hf with ⟨b, hb⟩ | ⟨_, hno, h10⟩
    · exact absurd (hb.uniq chk_dv).1 ha
    · exact ⟨h10, hn⟩
theorem txt_dv2 {s : ByteArray} {a : Int} (h : Txt dv s a) : s = ⟨TD.toArray⟩ ∧ a = 0 := by
  rcases h with ⟨rfl, _, rfl⟩ | ⟨ha, _, b, hb⟩
  · exact ⟨textB_dv, rfl⟩
  · exact absurd (hb.uniq chk_dv).1 ha
end Pm
end Go.Proofs.YtpohcdfmkcfonaaGreatDoor
end

section
/-
  What ParamsKnown answers: true. Condition: the library's table of powers of ten is as the program's text lays it.
-/
namespace Go.Proofs.YtpohcdfmkcfonaaGreatDoor
open Go.RowKit Go.Shelf
set_option linter.unusedVariables false
namespace Pm
open Kk

theorem wpl_guarded {ops : Array Oper} {rest : List Oper} {op : Oper} {a : Act} {w : World} {Q : Exit → Act → World → Prop} (hw : Region.wanted op (yielded ops a.tmps) = true) (ty : TypeId) (x : Operand) (ho : op.op = .load ty x)
    (b o : Nat) (hx : a.eval x = .pointer (some ⟨b, o, none⟩)) (cs : List Value) (d : TypeDesc) (hc : w.rangeAt b o cs)
    (hu : Tryz.prog.underlying ty = some d) (hd : d.isRow = true) (hi : (Tryz.prog.info? ty).map (·.size) = some cs.length)
    (h : wpList Tryz.prog ops Q rest (a.put op.dst (.agg cs.toArray)) w) : wpList Tryz.prog ops Q (op :: rest) a w :=
  wpList_step fun K hK => by
    rw [if_pos hw]
    exact wp_load_mid ty x ho b o hx cs d hc hu hd hi (hK _ _ h)
theorem sl_mk (w : World) (zs : List Int) (fr : Nat × Nat) : Cd.Sl (w.alloc (.cells (zs.map (Value.int .u8)).toArray 5 fr)) (some ⟨w.heap.size, 0, none⟩) zs.length zs.length zs := by
  refine ⟨⟨rfl, fun hn => ⟨w.heap.size, 0, rfl, by simp, fun i hi => ?_⟩⟩, Nat.le_refl _, fun h => by cases h⟩
  rw [Nat.zero_add, World.cell?_alloc_mark, List.getElem?_toArray, List.getElem?_map, List.getElem?_eq_getElem hi, getD_eq _ _ hi]
  rfl
theorem two_blk (w : World) : Blk ((w.alloc ZP).alloc ZP) w.heap.size ZR 24 ∧ Blk ((w.alloc ZP).alloc ZP) (w.heap.size + 1) ZR 24 := by
  refine ⟨(Blk.new w _ _).alloc _, ?_⟩
  have h := Blk.new (w.alloc ZP) ZR 24
  rw [World.size_alloc] at h
  exact h
structure Kw (w0 : World) (d p q : Nat) (W : World) : Prop where
  rd : W.rangeAt d 0 (recC dv)
  ro : W.rangeAt p 0 (recC old_)
  rl : W.rangeAt q 0 (recC low_)
  tab : Tab W
  bel : Bel w0 W
theorem Kw.up {w0 : World} {d p q : Nat} {W W' : World} (h : Kw w0 d p q W) (hb : Bel W W') : Kw w0 d p q W' :=
  ⟨rng_bel h.rd hb, rng_bel h.ro hb, rng_bel h.rl hb, h.tab.bel hb, h.bel.trans hb⟩

end Pm
end Go.Proofs.YtpohcdfmkcfonaaGreatDoor
end
