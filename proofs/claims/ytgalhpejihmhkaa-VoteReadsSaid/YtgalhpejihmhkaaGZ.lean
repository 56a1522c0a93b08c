/-
  Texts of this claim, put together: VRd, VRdK, VFail, VSame, VGen, VQRd, VRdM, VUn. What each one says, and under which conditions, stands ahead of it.
-/
import Derived.Defers
import Derived.Laws.StructEq
import Derived.Test.YtgalhpejihmhkaaGH
import Derived.Test.YtgalhpejihmhkaaGV
import Derived.Test.YtgalhpejihmhkaaGA
import Derived.Test.YtgalhpejihmhkaaGQ

section
/-
  What vote.Read and ReadBlock answer. Condition: at most 10^6 bytes.
-/
namespace Go.Proofs.Ytgalhpejihmhkaa
open Go.RowKit Go.Shelf
set_option linter.unusedVariables false
namespace Vt
open Cd

abbrev Zr36 : Obj := .cells #[.int .i64 0, .int .i64 0, .int .i64 0, .int .u8 0, .int .u8 0, .int .u8 0, .int .u8 0, .int .u8 0, .int .u8 0, .int .u8 0, .int .u8 0, .int .u8 0, .int .u8 0, .int .u8 0, .int .u8 0, .int .u8 0, .int .u8 0, .int .u8 0, .int .u8 0, .int .u8 0, .int .u8 0, .int .u8 0, .int .u8 0, .int .u8 0, .int .u8 0, .int .u8 0, .int .u8 0, .int .u8 0, .int .u8 0, .int .u8 0, .int .u8 0, .int .u8 0, .int .u8 0, .int .u8 0, .int .u8 0, .int .u64 0] 29
abbrev Zr35 : Obj := .cells #[.int .i64 0, .int .i64 0, .int .u8 0, .int .u8 0, .int .u8 0, .int .u8 0, .int .u8 0, .int .u8 0, .int .u8 0, .int .u8 0, .int .u8 0, .int .u8 0, .int .u8 0, .int .u8 0, .int .u8 0, .int .u8 0, .int .u8 0, .int .u8 0, .int .u8 0, .int .u8 0, .int .u8 0, .int .u8 0, .int .u8 0, .int .u8 0, .int .u8 0, .int .u8 0, .int .u8 0, .int .u8 0, .int .u8 0, .int .u8 0, .int .u8 0, .int .u8 0, .int .u8 0, .int .u8 0, .int .u64 0] 36
abbrev Y0 : List Int := List.replicate 32 0
theorem rh_len {zs : List Int} {k : Nat} {f : Option (Int × Int)} {hs : List Int} {k' : Nat} {f' : Option (Int × Int)} (h : RH zs k f hs k' f') : hs.length = 32 := by
  rcases h with ⟨_, _, rfl, _⟩ | ⟨_, ⟨h1, rfl, _⟩ | ⟨_, rfl, _⟩⟩
  · rfl
  · simp; omega
  · rfl
theorem results_cc {fn : Func} {p q : Tmp} {tp tq : TypeId} (h : fn.results = #[.cell p tp, .cell q tq]) (tmps : Array Value) (w : World) (a c : Addr) (X Y : Value)
    (hp : tmps.getD p undef = .pointer (some a)) (hq : tmps.getD q undef = .pointer (some c)) (hX : (loadVar tp a).run Try.prog w = .ok X w) (hY : (loadVar tq c).run Try.prog w = .ok Y w) :
    (results fn tmps).run Try.prog w = .ok (.tuple #[X, Y]) w := by
  have hp' : tmps[p]?.getD undef = .pointer (some a) := by simpa using hp
  have hq' : tmps[q]?.getD undef = .pointer (some c) := by simpa using hq
  simp [results, h, hp', hq', asAddr, hX, hY]
theorem rngB {w : World} {b : Nat} {C : List Value} {t : TypeId} (h : Blk w b C.toArray t) : w.rangeAt b 0 C := fun j u hu => by
  rw [Nat.zero_add]
  exact h.cell j (by rw [List.getElem?_toArray]; exact hu)
theorem noPanic_mk {Q : Exit → Act → World → Prop} {a : Act} {w : World} (h : Q .normal a w) : NoPanic Q .normal a w := h
/-- The two results' blocks: what is read, and the fault. -/
structure Bx (t : TypeId) (w0 W : World) (a : Nat) (D : List Value) (p q : Int) : Prop where
  blk : Blk W a D.toArray t
  flt : Blk W (a + 1) #[.int .i64 p, .int .i64 q] 32
  bel : Bel w0 W
  at_ : w0.heap.size = a
theorem Bx.kep {t : TypeId} {w0 W W' : World} {a : Nat} {D : List Value} {p q : Int} (h : Bx t w0 W a D p q) {b : Nat} (hb : a + 1 < b) (hk : Kep (fun i => i = b) W W') : Bx t w0 W' a D p q :=
  ⟨h.blk.kep hk (by omega), h.flt.kep hk (by omega), Kep.bel h.bel hk (fun i hi => by have := h.at_; omega), h.at_⟩
theorem Bx.up {t : TypeId} {w0 W W' : World} {a : Nat} {D : List Value} {p q : Int} (h : Bx t w0 W a D p q) (hk : Bel W W') : Bx t w0 W' a D p q :=
  ⟨h.blk.bel hk, h.flt.bel hk, h.bel.trans hk, h.at_⟩
theorem Bx.set {t : TypeId} {w0 W : World} {a : Nat} {D D' : List Value} {p q : Int} (h : Bx t w0 W a D p q) (i : Nat) (v : Value) (hD : D.toArray.setIfInBounds i v = D'.toArray) : Bx t w0 (W.setCell ⟨a, i, none⟩ v) a D' p q :=
  ⟨by rw [← hD]; exact h.blk.set i v, h.flt.other (by omega) i v, h.bel.set (by show w0.heap.size ≤ a; rw [h.at_]; exact Nat.le_refl _) v, h.at_⟩
theorem Bx.row {t : TypeId} {w0 W : World} {a : Nat} {pre mid post vs : List Value} {p q : Int} (h : Bx t w0 W a (pre ++ (mid ++ post)) p q) (hl : mid.length = vs.length) : Bx t w0 (W.setCells a pre.length vs) a (pre ++ (vs ++ post)) p q :=
  ⟨h.blk.mid hl, h.flt.kep (kep_setCells a vs pre.length W) (by show ¬ a + 1 = a; omega), Kep.bel h.bel (kep_setCells a vs pre.length W) (fun i hi => by have := h.at_; omega), h.at_⟩
theorem Bx.whole {t : TypeId} {w0 W : World} {a : Nat} {D vs : List Value} {p q : Int} (h : Bx t w0 W a D p q) (hl : D.length = vs.length) : Bx t w0 (W.setCells a 0 vs) a vs p q := by
  have h2 : Bx t w0 W a ([] ++ (D ++ [])) p q := by simpa using h
  have := h2.row (vs := vs) hl
  simpa using this
theorem Bx.fault {t : TypeId} {w0 W : World} {a : Nat} {D : List Value} {p q : Int} (h : Bx t w0 W a D p q) (p' q' : Int) : Bx t w0 ((W.setCell ⟨a + 1, 0, none⟩ (.int .i64 p')).setCell ⟨a + 1, 1, none⟩ (.int .i64 q')) a D p' q' :=
  ⟨(h.blk.other (by omega) 0 _).other (by omega) 1 _, (h.flt.set 0 (.int .i64 p')).set 1 (.int .i64 q'), (h.bel.set (by show w0.heap.size ≤ a + 1; have := h.at_; omega) _).set (by show w0.heap.size ≤ a + 1; have := h.at_; omega) _, h.at_⟩
theorem rd_set {d : Nat} {w : World} {b : Nat} {A : Option Addr} {n c : Nat} {zs : List Int} {k : Nat} {f : Option (Int × Int)} (h : RD d w b A n c zs k f) (i : Nat) (v : Value) (hbd : b ≠ d) (hA : ∀ x : Addr, A = some x → x.block ≠ d) : RD d (w.setCell ⟨d, i, none⟩ v) b A n c zs k f :=
  h.kep (Kep.set_self (Kep.refl _ w) i v) hbd (fun _ => hA)
theorem rd_row {d : Nat} {w : World} {b : Nat} {A : Option Addr} {n c : Nat} {zs : List Int} {k : Nat} {f : Option (Int × Int)} (h : RD d w b A n c zs k f) (o : Nat) (vs : List Value) (hbd : b ≠ d) (hA : ∀ x : Addr, A = some x → x.block ≠ d) : RD d (w.setCells d o vs) b A n c zs k f :=
  h.kep (kep_setCells d vs o w) hbd (fun _ => hA)
theorem hs_cells (hs : List Int) : ∀ u ∈ hs.map (Value.int .u8), u.oneCell' = true := by
  intro u hu
  obtain ⟨z, _, rfl⟩ := List.mem_map.1 hu
  rfl

/-- What is read of bytes, and the fault, or none; what is told then. -/
def attRd (zs : List Int) (v s t tag : Int) (hs : List Int) (fe : Int × Int) : Prop :=
  ∃ x1 k1 f1 k2 f2 k3 f3 k4 f4 k5 f5 k6 f6, RN zs 0 none 1 1 x1 k1 f1 ∧ RN zs k1 f1 0 31 v k2 f2 ∧ RN zs k2 f2 0 4294967296 s k3 f3 ∧ RN zs k3 f3 0 4294967296 t k4 f4 ∧ RH zs k4 f4 hs k5 f5 ∧ RU zs k5 f5 tag k6 f6 ∧ fe = endOf zs.length k6 f6
def attTl (v s t tag : Int) (hs : List Int) (fe : Int × Int) : List Value := if fe.1 = 0 then attC v s t hs tag else attC 0 0 0 Y0 0
theorem att_cells' (v s t tag : Int) (hs : List Int) : ∀ u ∈ attC v s t hs tag, u.oneCell' = true := by
  intro u hu
  simp only [attC, List.mem_append, List.mem_cons, List.mem_map, List.not_mem_nil, or_false] at hu
  rcases hu with (rfl | rfl | rfl) | ⟨z, _, rfl⟩ | rfl <;> rfl
theorem att_tag (v s t tag tag' : Int) (hs : List Int) (h : hs.length = 32) : (attC v s t hs tag).toArray.setIfInBounds 35 (.int .u64 tag') = (attC v s t hs tag').toArray := by
  simp [attC, h]
set_option maxRecDepth 100000 in
set_option maxHeartbeats 1000000 in
theorem clearA (a : Nat) (D : List Value) (e p : Int) (w0 w : World) (hD : D.length = 36) (h : Bx 29 w0 w a D e p) :
    CallsD Try.prog 18 #[.pointer (some ⟨a + 1, 0, none⟩), .pointer (some ⟨a, 0, none⟩)] .returning w fun r u' w' => u' = .returning ∧ r = .returned (.tuple #[]) ∧ Bx 29 w0 w' a (if e = 0 then D else attC 0 0 0 Y0 0) e p := by
  have k0 : w.cell? ⟨a + 1, 0, none⟩ = some (.int .i64 e) := h.flt.cell 0 rfl
  have H := Lib.hid h
  have HD := Lib.hid hD
  obtain ⟨Y, hY⟩ : ∃ Y, Y = attC 0 0 0 Y0 0 := ⟨_, rfl⟩
  have HYl := Lib.hid (show Y.length = 36 by rw [hY]; rfl)
  have HYs := Lib.hid (show Y.toArray.size = 36 by rw [List.size_toArray]; exact HYl.out)
  have HYo := Lib.hid (all_oneCell_toArray (cs := Y) (by rw [hY]; exact att_cells' _ _ _ _ _))
  have HYi := Lib.hid (show (Try.prog.info? 29).map (·.size) = some Y.toArray.size by rw [HYs.out]; exact info_att)
  have TH := Lib.hid (show w.there a 0 Y.toArray.size by rw [HYs.out]; exact h.blk.there 0 36 (by rw [List.size_toArray, hD]; exact Nat.le_refl _))
  have HY := Lib.hid hY
  rw [← hY]
  clear h hD hY
  by_cases he : e = 0
  · subst he
    go_enter_d Try.func18, Try.ntmps18
    go_wp2
    go_end0
    refine ⟨rfl, ?_⟩
    exact H.out
  · have f : (e != 0) = true := by rw [bne_iff_ne]; exact he
    have HE := Lib.hid he
    clear he
    go_enter_d Try.func18, Try.ntmps18
    go_wp2_with (refine wpList_store_mid rfl 29 (.tmp 1) (.tmp 5) rfl a 0 Y.toArray rfl (by rw [HY.out]; rfl) TH.out HYi.out HYo.out ?_)
    go_end0
    refine ⟨rfl, ?_⟩
    exact H.out.whole (by rw [HD.out, HYl.out])

set_option maxRecDepth 100000 in
set_option maxHeartbeats 8000000 in
theorem readA (A : Option Addr) (n c : Nat) (zs : List Int) (v s t tag : Int) (hs : List Int) (fe : Int × Int) (w : World) (hz : Sl w A n c zs) (hn : n ≤ 1000000) (hb : Bytes zs) (hr : attRd zs v s t tag hs fe) :
    Calls Try.prog 6 #[.slice A n c] w fun e w' => e = .returned (.tuple #[.agg (attTl v s t tag hs fe).toArray, fault fe]) ∧ Bel w w' := by
  obtain ⟨x1, k1, f1, k2, f2, k3, f3, k4, f4, k5, f5, k6, f6, r1, r2, r3, r4, r5, r6, hfe⟩ := hr
  have HL := Lib.hid (rh_len r5)
  have HFE := Lib.hid hfe
  clear hfe
  obtain ⟨a, ha⟩ : ∃ a, a = w.heap.size := ⟨_, rfl⟩
  obtain ⟨W1, hW1⟩ : ∃ W, w.alloc Zr36 = W := ⟨_, rfl⟩
  obtain ⟨W, hW⟩ : ∃ W, W1.alloc (.cells #[.int .i64 0, .int .i64 0] 32) = W := ⟨_, rfl⟩
  have z1 : W1.heap.size = w.heap.size + 1 := by rw [← hW1]; simp
  have b1 : Bel w W1 := by rw [← hW1]; exact (Bel.refl w).alloc _
  have b2 : Bel W1 W := by rw [← hW]; exact (Bel.refl W1).alloc _
  have X0 := Lib.hid (show Bx 29 w W a (attC 0 0 0 Y0 0) 0 0 from
    ⟨(show Blk W1 a (attC 0 0 0 Y0 0).toArray 29 by rw [← hW1, ha]; exact Blk.new w _ _).bel b2, by rw [← hW, ha, ← z1]; exact Blk.new W1 _ _, b1.trans b2, ha.symm⟩)
  have Z0' := Lib.hid (show W.heap.size = a + 2 by rw [← hW]; simp; omega)
  have HA := Lib.hid ha
  have HW1 := Lib.hid hW1
  have HW := Lib.hid hW
  have NR := Lib.hid (newReader A n c zs W (hz.bel (b1.trans b2)) hn hb)
  clear ha hW1 hW z1 b1 b2 hz hn hb
  go_enter_defers Try.func6, Try.ntmps6
  go_upto_region 2 with fail
  rw [← HA.out, HW1.out, HW.out]
  go_wp2_with fail
  refine NR.out.mono ?_
  rintro e w1 ⟨b, A', c', rfl, hb, hst, hA', k1⟩
  have HAB := Lib.hid (show a + 1 < b by have := Z0'.out; omega)
  have HNB := Lib.hid (show b ≠ a by have := Z0'.out; omega)
  have HNA := Lib.hid (show ∀ x : Addr, A' = some x → x.block ≠ a from fun x hx => by have := hA' x hx; have := Z0'.out; omega)
  have X := Lib.hid (X0.out.up k1)
  have R := Lib.hid (show RD a w1 b A' n c' zs 0 none from ⟨none, hst, .inl ⟨rfl, rfl⟩, fun x hx => by cases hx⟩)
  clear hb hst hA' k1 NR
  go_wp2_with fail
  refine (yN a b A' n c' zs 0 none 1 1 x1 k1 f1 w1 R.out r1 (by omega) X.out.blk.lt).mono ?_
  rintro e w2 ⟨rfl, h2, k2'⟩
  have X := Lib.hid (X.out.kep HAB.out k2')
  have R := Lib.hid h2
  clear h2 k2'
  go_wp2_with fail
  refine (yN a b A' n c' zs k1 f1 0 31 v k2 f2 w2 R.out r2 (by omega) X.out.blk.lt).mono ?_
  rintro e v3 ⟨rfl, h2, k2'⟩
  have X := Lib.hid (X.out.kep HAB.out k2')
  have R := Lib.hid h2
  clear h2 k2'
  have c0 : v3.cell? ⟨a, 0, none⟩ = some (.int .i64 0) := X.out.blk.cell 0 rfl
  have f0 : v3.frozen? ⟨a, 0, none⟩ = false := X.out.blk.frozen 0
  go_upto_region 5 with fail
  obtain ⟨w3, hw⟩ : ∃ x, v3.setCell ⟨a, 0, none⟩ (.int .i64 v) = x := ⟨_, rfl⟩
  have X := Lib.hid (show Bx 29 w w3 a (attC v 0 0 Y0 0) 0 0 by rw [← hw]; exact X.out.set 0 _ rfl)
  have R := Lib.hid (show RD a w3 b A' n c' zs k2 f2 by rw [← hw]; exact rd_set R.out 0 _ HNB.out HNA.out)
  rw [hw]
  clear c0 f0 hw
  go_wp2_with fail
  refine (yN a b A' n c' zs k2 f2 0 4294967296 s k3 f3 w3 R.out r3 (by omega) X.out.blk.lt).mono ?_
  rintro e v4 ⟨rfl, h2, k2'⟩
  have X := Lib.hid (X.out.kep HAB.out k2')
  have R := Lib.hid h2
  clear h2 k2'
  have c0 : v4.cell? ⟨a, 1, none⟩ = some (.int .i64 0) := X.out.blk.cell 1 rfl
  have f0 : v4.frozen? ⟨a, 1, none⟩ = false := X.out.blk.frozen 1
  go_upto_region 6 with fail
  obtain ⟨w4, hw⟩ : ∃ x, v4.setCell ⟨a, 1, none⟩ (.int .i64 s) = x := ⟨_, rfl⟩
  have X := Lib.hid (show Bx 29 w w4 a (attC v s 0 Y0 0) 0 0 by rw [← hw]; exact X.out.set 1 _ rfl)
  have R := Lib.hid (show RD a w4 b A' n c' zs k3 f3 by rw [← hw]; exact rd_set R.out 1 _ HNB.out HNA.out)
  rw [hw]
  clear c0 f0 hw
  go_wp2_with fail
  refine (yN a b A' n c' zs k3 f3 0 4294967296 t k4 f4 w4 R.out r4 (by omega) X.out.blk.lt).mono ?_
  rintro e v5 ⟨rfl, h2, k2'⟩
  have X := Lib.hid (X.out.kep HAB.out k2')
  have R := Lib.hid h2
  clear h2 k2'
  have c0 : v5.cell? ⟨a, 2, none⟩ = some (.int .i64 0) := X.out.blk.cell 2 rfl
  have f0 : v5.frozen? ⟨a, 2, none⟩ = false := X.out.blk.frozen 2
  go_upto_region 7 with fail
  obtain ⟨w5, hw⟩ : ∃ x, v5.setCell ⟨a, 2, none⟩ (.int .i64 t) = x := ⟨_, rfl⟩
  have X := Lib.hid (show Bx 29 w w5 a (attC v s t Y0 0) 0 0 by rw [← hw]; exact X.out.set 2 _ rfl)
  have R := Lib.hid (show RD a w5 b A' n c' zs k4 f4 by rw [← hw]; exact rd_set R.out 2 _ HNB.out HNA.out)
  rw [hw]
  clear c0 f0 hw
  go_wp2_with fail
  refine (yH a b A' n c' zs k4 f4 hs k5 f5 w5 R.out r5 X.out.blk.lt).mono ?_
  rintro e v6 ⟨rfl, h2, k2'⟩
  have X := Lib.hid (X.out.kep HAB.out k2')
  have R := Lib.hid h2
  clear h2 k2'
  obtain ⟨Y, hY⟩ : ∃ Y, Y = hs.map (Value.int .u8) := ⟨_, rfl⟩
  have HYl := Lib.hid (show Y.length = 32 by rw [hY, List.length_map]; exact HL.out)
  have HYs := Lib.hid (show Y.toArray.size = 32 by rw [List.size_toArray]; exact HYl.out)
  have HYo := Lib.hid (all_oneCell_toArray (cs := Y) (by rw [hY]; exact hs_cells hs))
  have HYi := Lib.hid (show (Try.prog.info? 26).map (·.size) = some Y.toArray.size by rw [HYs.out]; exact Cd.info_hash)
  have TH := Lib.hid (show v6.there a 3 Y.toArray.size by rw [HYs.out]; exact X.out.blk.there 3 32 (by rw [List.size_toArray]; simp [attC]))
  have HY := Lib.hid hY
  rw [show Cd.hash hs = .agg Y.toArray by rw [hY]]
  clear hY
  go_upto_region 8 with (refine wpList_store_mid rfl 26 (.tmp 21) (.tmp 20) rfl a 3 Y.toArray rfl rfl TH.out HYi.out HYo.out ?_)
  obtain ⟨w6, hw⟩ : ∃ x, v6.setCells a 3 Y = x := ⟨_, rfl⟩
  have X := Lib.hid (show Bx 29 w w6 a (attC v s t hs 0) 0 0 by
    rw [← hw, HY.out]
    exact X.out.row (pre := [.int .i64 v, .int .i64 s, .int .i64 t]) (mid := Y0.map (Value.int .u8)) (post := [.int .u64 0]) (vs := hs.map (Value.int .u8)) (by rw [List.length_map, List.length_map, HL.out]; rfl))
  have R := Lib.hid (show RD a w6 b A' n c' zs k5 f5 by rw [← hw]; exact rd_row R.out 3 _ HNB.out HNA.out)
  rw [hw]
  clear hw TH HYi HYo HYs HYl HY
  go_wp2_with fail
  refine (yU a b A' n c' zs k5 f5 tag k6 f6 w6 R.out r6 X.out.blk.lt).mono ?_
  rintro e v7 ⟨rfl, h2, k2'⟩
  have X := Lib.hid (X.out.kep HAB.out k2')
  have R := Lib.hid h2
  clear h2 k2'
  have c0 : v7.cell? ⟨a, 35, none⟩ = some (.int .u64 0) := X.out.blk.cell 35 (by simp [attC, HL.out])
  have f0 : v7.frozen? ⟨a, 35, none⟩ = false := X.out.blk.frozen 35
  go_upto_region 9 with fail
  obtain ⟨w7, hw⟩ : ∃ x, v7.setCell ⟨a, 35, none⟩ (.int .u64 tag) = x := ⟨_, rfl⟩
  have X := Lib.hid (show Bx 29 w w7 a (attC v s t hs tag) 0 0 by rw [← hw]; exact X.out.set 35 _ (att_tag v s t 0 tag hs HL.out))
  have R := Lib.hid (show RD a w7 b A' n c' zs k6 f6 by rw [← hw]; exact rd_set R.out 35 _ HNB.out HNA.out)
  rw [hw]
  clear c0 f0 hw
  obtain ⟨D, hD⟩ : ∃ D, D = attC v s t hs tag := ⟨_, rfl⟩
  have HD := Lib.hid hD
  rw [← hD] at X
  have HDl := Lib.hid (show D.length = 36 by rw [hD]; simp [attC, HL.out])
  have HDs := Lib.hid (show D.toArray.size = 36 by rw [List.size_toArray]; exact HDl.out)
  have HDo := Lib.hid (all_oneCell_toArray (cs := D) (by rw [hD]; exact att_cells' v s t tag hs))
  have HDi := Lib.hid (show (Try.prog.info? 29).map (·.size) = some D.toArray.size by rw [HDs.out]; exact info_att)
  have uA := Try.underlying29
  have iA : (Try.prog.info? 29).map (·.size) = some D.length := by rw [HDl.out]; exact info_att
  clear hD
  obtain ⟨w9, hw9⟩ : ∃ x, w7.drew = x := ⟨_, rfl⟩
  have X := Lib.hid (show Bx 29 w w9 a D 0 0 by rw [← hw9]; exact X.out.up (Bel.refl _).drew)
  have R := Lib.hid (show RS w9 b zs k6 f6 by rw [← hw9]; exact (R.out.bel (Bel.refl _).drew).rs)
  have EN := Lib.hid (show Calls Try.prog 23 #[.pointer (some ⟨b, 0, none⟩)] w9 fun e w' => e = .returned (fault fe) ∧ Bel w9 w' by rw [HFE.out]; exact rEnd b zs k6 f6 w9 R.out)
  have S0d : ∃ p q, Bx 29 w w7.drew a D p q := ⟨0, 0, by rw [hw9]; exact X.out⟩
  refine wp_region_noPanic ?_
  refine wp_region_held_drew (S := fun w' => ∃ p q, Bx 29 w w' a D p q) (by kernel_rfl) S0d (fun hS0 => ?_)
  rw [hw9] at hS0 ⊢
  clear hw9 S0d
  refine wpAnyH_take (i := 0) (oi := { dst := some 25, op := .load 29 (.tmp 2), type := 29, pos := "vote.go:35", after := #[], guard := none }) (v := .agg D.toArray) rfl (by kernel_rfl) (by kernel_rfl) (by kernel_rfl) (fun _ _ _ h => h) (yieldsIf_load_mid (by rfl) _ _ rfl _ _ rfl _ _ (fun w h => rngB (h.elim fun _ h => h.elim fun _ h => h.blk)) uA rfl iA) hS0 ?_
  try simp only [Act.put, List.setIfInBounds_toArray, List.set_cons_zero, List.set_cons_succ]
  refine wpAnyH_take (i := 1) (oi := { dst := some 26, op := .move (.tmp 4), type := 48, pos := "vote.go:35", after := #[], guard := none }) (v := .pointer (some ⟨b, 0, none⟩)) rfl (by kernel_rfl) (by kernel_rfl) (by kernel_rfl) (fun _ _ _ h => h) (Or.inl ⟨by rfl, by intro w hSw; clear hSw; go_simp⟩) hS0 ?_
  try simp only [Act.put, List.setIfInBounds_toArray, List.set_cons_zero, List.set_cons_succ]
  refine wpAnyH_ready (rs := [2]) (by kernel_rfl) (by simp) ?_
  refine AllReadyH.cons (o := { dst := some 27, op := .call { callee := .value (.func 23), args := #[.tmp 26], argTypes := #[48] }, type := 32, pos := "vote.go:35", after := #[{ on := 1, ground := .data }], guard := none }) rfl (fun K hK => ?_) AllReadyH.nil
  go_simp
  refine (EN.out).mono ?_
  rintro e v1 ⟨rfl, kE⟩
  go_wp2_with fail
  refine hK.out _ _ (⟨0, 0, X.out.up kE⟩) (fun hS1 => ?_)
  clear hK K
  try simp only [Act.put, List.setIfInBounds_toArray, List.set_cons_zero, List.set_cons_succ]
  have X := Lib.hid (X.out.up kE)
  clear kE
  have TH := Lib.hid (show v1.there a 0 D.toArray.size by rw [HDs.out]; exact X.out.blk.there 0 36 (by rw [HDs.out]; exact Nat.le_refl _))
  refine wpAnyH_ready (rs := [3]) (by kernel_rfl) (by simp) ?_
  refine AllReadyH.cons (o := { dst := none, op := .store 29 (.tmp 2) (.tmp 25), type := 0, pos := "vote.go:35", after := #[{ on := 0, ground := .data }, { on := 2, ground := .chain }, { on := 0, ground := .phase }, { on := 1, ground := .textOnly .lateStoresUnsure }, { on := 2, ground := .textOnly .lateStoresUnsure }], guard := none }) rfl (fun K hK => ?_) AllReadyH.nil
  rw [if_pos (by rfl)]
  refine wp_store_mid 29 (.tmp 2) (.tmp 25) rfl a 0 D.toArray rfl rfl TH.out HDi.out HDo.out ?_
  obtain ⟨v2, hv2⟩ : ∃ x, v1.setCells a 0 D.toArray.toList = x := ⟨_, rfl⟩
  have X := Lib.hid (show Bx 29 w v2 a D 0 0 by rw [← hv2]; exact X.out.whole rfl)
  rw [hv2]
  refine hK.out _ _ ⟨0, 0, X.out⟩ (fun hS2 => ?_)
  clear hK K hv2 TH
  have c0 : v2.cell? ⟨a + 1, 0, none⟩ = some (.int .i64 0) := X.out.flt.cell 0 rfl
  have c1 : v2.cell? ⟨a + 1, 1, none⟩ = some (.int .i64 0) := X.out.flt.cell 1 rfl
  have g0 : v2.frozen? ⟨a + 1, 0, none⟩ = false := X.out.flt.frozen 0
  have g1 : v2.frozen? ⟨a + 1, 1, none⟩ = false := X.out.flt.frozen 1
  refine wpAnyH_ready (rs := [4]) (by kernel_rfl) (by simp) ?_
  refine AllReadyH.cons (o := { dst := none, op := .store 32 (.tmp 3) (.tmp 27), type := 0, pos := "vote.go:35", after := #[{ on := 2, ground := .data }, { on := 3, ground := .chain }, { on := 0, ground := .phase }, { on := 1, ground := .phase }, { on := 2, ground := .phase }, { on := 3, ground := .phase }], guard := none }) rfl (fun K hK => ?_) AllReadyH.nil
  go_simp
  refine hK.out _ _ (⟨fe.1, fe.2, X.out.fault fe.1 fe.2⟩) (fun hS3 => ?_)
  clear hK K
  try simp only [Act.put, List.setIfInBounds_toArray, List.set_cons_zero, List.set_cons_succ]
  have X := Lib.hid (X.out.fault fe.1 fe.2)
  clear c0 c1 g0 g1
  refine wpAnyH_done (by kernel_rfl) ?_ _
  refine noPanic_mk ?_
  go_wp2
  refine leaves_cons (f := 18) (args := #[.pointer (some ⟨a + 1, 0, none⟩), .pointer (some ⟨a, 0, none⟩)]) (by simp) (by simp [go_sem]) ?_
  refine (clearA a D fe.1 fe.2 w _ HDl.out X.out).mono ?_
  rintro e u' w11 ⟨rfl, rfl, hx⟩
  have HX := Lib.hid hx
  have RR : w11.rangeAt a 0 (if fe.1 = 0 then D else attC 0 0 0 Y0 0) := rngB hx.blk
  refine ⟨_, results_cc Try.results6 _ _ ⟨a, 0, none⟩ ⟨a + 1, 0, none⟩ (.agg (if fe.1 = 0 then D else attC 0 0 0 Y0 0).toArray) (fault fe) rfl rfl (run_loadVar_mid (P := Try.prog) _ a 0 29 _ _ RR Try.underlying29 rfl (by split; exact iA; exact info_att)) (load_fault (hx.flt.cell 0 rfl) (hx.flt.cell 1 rfl)), ?_, hx.bel⟩
  rw [HD.out]
  rfl

/-- What is read of bytes, and the fault, or none; what is told then. -/
def propRd (zs : List Int) (v s tag : Int) (hs : List Int) (fe : Int × Int) : Prop :=
  ∃ x1 k1 f1 k2 f2 k3 f3 k4 f4 k5 f5, RN zs 0 none 2 2 x1 k1 f1 ∧ RN zs k1 f1 0 31 v k2 f2 ∧ RN zs k2 f2 1 4294967296 s k3 f3 ∧ RH zs k3 f3 hs k4 f4 ∧ RU zs k4 f4 tag k5 f5 ∧ fe = endOf zs.length k5 f5
def propTl (v s tag : Int) (hs : List Int) (fe : Int × Int) : List Value := if fe.1 = 0 then propC v s hs tag else propC 0 0 Y0 0
theorem prop_cells' (v s tag : Int) (hs : List Int) : ∀ u ∈ propC v s hs tag, u.oneCell' = true := by
  intro u hu
  simp only [propC, List.mem_append, List.mem_cons, List.mem_map, List.not_mem_nil, or_false] at hu
  rcases hu with (rfl | rfl) | ⟨z, _, rfl⟩ | rfl <;> rfl
theorem prop_tag (v s tag tag' : Int) (hs : List Int) (h : hs.length = 32) : (propC v s hs tag).toArray.setIfInBounds 34 (.int .u64 tag') = (propC v s hs tag').toArray := by
  simp [propC, h]
set_option maxRecDepth 100000 in
set_option maxHeartbeats 1000000 in
theorem clearB (a : Nat) (D : List Value) (e p : Int) (w0 w : World) (hD : D.length = 35) (h : Bx 36 w0 w a D e p) :
    CallsD Try.prog 29 #[.pointer (some ⟨a + 1, 0, none⟩), .pointer (some ⟨a, 0, none⟩)] .returning w fun r u' w' => u' = .returning ∧ r = .returned (.tuple #[]) ∧ Bx 36 w0 w' a (if e = 0 then D else propC 0 0 Y0 0) e p := by
  have k0 : w.cell? ⟨a + 1, 0, none⟩ = some (.int .i64 e) := h.flt.cell 0 rfl
  have H := Lib.hid h
  have HD := Lib.hid hD
  obtain ⟨Y, hY⟩ : ∃ Y, Y = propC 0 0 Y0 0 := ⟨_, rfl⟩
  have HYl := Lib.hid (show Y.length = 35 by rw [hY]; rfl)
  have HYs := Lib.hid (show Y.toArray.size = 35 by rw [List.size_toArray]; exact HYl.out)
  have HYo := Lib.hid (all_oneCell_toArray (cs := Y) (by rw [hY]; exact prop_cells' _ _ _ _))
  have HYi := Lib.hid (show (Try.prog.info? 36).map (·.size) = some Y.toArray.size by rw [HYs.out]; exact info_prop)
  have TH := Lib.hid (show w.there a 0 Y.toArray.size by rw [HYs.out]; exact h.blk.there 0 35 (by rw [List.size_toArray, hD]; exact Nat.le_refl _))
  have HY := Lib.hid hY
  rw [← hY]
  clear h hD hY
  by_cases he : e = 0
  · subst he
    go_enter_d Try.func29, Try.ntmps29
    go_wp2
    go_end0
    refine ⟨rfl, ?_⟩
    exact H.out
  · have f : (e != 0) = true := by rw [bne_iff_ne]; exact he
    have HE := Lib.hid he
    clear he
    go_enter_d Try.func29, Try.ntmps29
    go_wp2_with (refine wpList_store_mid rfl 36 (.tmp 1) (.tmp 5) rfl a 0 Y.toArray rfl (by rw [HY.out]; rfl) TH.out HYi.out HYo.out ?_)
    go_end0
    refine ⟨rfl, ?_⟩
    exact H.out.whole (by rw [HD.out, HYl.out])

set_option maxRecDepth 100000 in
set_option maxHeartbeats 8000000 in
theorem readB (A : Option Addr) (n c : Nat) (zs : List Int) (v s tag : Int) (hs : List Int) (fe : Int × Int) (w : World) (hz : Sl w A n c zs) (hn : n ≤ 1000000) (hb : Bytes zs) (hr : propRd zs v s tag hs fe) :
    Calls Try.prog 8 #[.slice A n c] w fun e w' => e = .returned (.tuple #[.agg (propTl v s tag hs fe).toArray, fault fe]) ∧ Bel w w' := by
  obtain ⟨x1, k1, f1, k2, f2, k3, f3, k4, f4, k5, f5, r1, r2, r3, r4, r5, hfe⟩ := hr
  have HL := Lib.hid (rh_len r4)
  have HFE := Lib.hid hfe
  clear hfe
  obtain ⟨a, ha⟩ : ∃ a, a = w.heap.size := ⟨_, rfl⟩
  obtain ⟨W1, hW1⟩ : ∃ W, w.alloc Zr35 = W := ⟨_, rfl⟩
  obtain ⟨W, hW⟩ : ∃ W, W1.alloc (.cells #[.int .i64 0, .int .i64 0] 32) = W := ⟨_, rfl⟩
  have z1 : W1.heap.size = w.heap.size + 1 := by rw [← hW1]; simp
  have b1 : Bel w W1 := by rw [← hW1]; exact (Bel.refl w).alloc _
  have b2 : Bel W1 W := by rw [← hW]; exact (Bel.refl W1).alloc _
  have X0 := Lib.hid (show Bx 36 w W a (propC 0 0 Y0 0) 0 0 from
    ⟨(show Blk W1 a (propC 0 0 Y0 0).toArray 36 by rw [← hW1, ha]; exact Blk.new w _ _).bel b2, by rw [← hW, ha, ← z1]; exact Blk.new W1 _ _, b1.trans b2, ha.symm⟩)
  have Z0' := Lib.hid (show W.heap.size = a + 2 by rw [← hW]; simp; omega)
  have HA := Lib.hid ha
  have HW1 := Lib.hid hW1
  have HW := Lib.hid hW
  have NR := Lib.hid (newReader A n c zs W (hz.bel (b1.trans b2)) hn hb)
  clear ha hW1 hW z1 b1 b2 hz hn hb
  go_enter_defers Try.func8, Try.ntmps8
  go_upto_region 2 with fail
  rw [← HA.out, HW1.out, HW.out]
  go_wp2_with fail
  refine NR.out.mono ?_
  rintro e w1 ⟨b, A', c', rfl, hb, hst, hA', k1⟩
  have HAB := Lib.hid (show a + 1 < b by have := Z0'.out; omega)
  have HNB := Lib.hid (show b ≠ a by have := Z0'.out; omega)
  have HNA := Lib.hid (show ∀ x : Addr, A' = some x → x.block ≠ a from fun x hx => by have := hA' x hx; have := Z0'.out; omega)
  have X := Lib.hid (X0.out.up k1)
  have R := Lib.hid (show RD a w1 b A' n c' zs 0 none from ⟨none, hst, .inl ⟨rfl, rfl⟩, fun x hx => by cases hx⟩)
  clear hb hst hA' k1 NR
  go_wp2_with fail
  refine (yN a b A' n c' zs 0 none 2 2 x1 k1 f1 w1 R.out r1 (by omega) X.out.blk.lt).mono ?_
  rintro e w2 ⟨rfl, h2, k2'⟩
  have X := Lib.hid (X.out.kep HAB.out k2')
  have R := Lib.hid h2
  clear h2 k2'
  go_wp2_with fail
  refine (yN a b A' n c' zs k1 f1 0 31 v k2 f2 w2 R.out r2 (by omega) X.out.blk.lt).mono ?_
  rintro e v3 ⟨rfl, h2, k2'⟩
  have X := Lib.hid (X.out.kep HAB.out k2')
  have R := Lib.hid h2
  clear h2 k2'
  have c0 : v3.cell? ⟨a, 0, none⟩ = some (.int .i64 0) := X.out.blk.cell 0 rfl
  have f0 : v3.frozen? ⟨a, 0, none⟩ = false := X.out.blk.frozen 0
  go_upto_region 5 with fail
  obtain ⟨w3, hw⟩ : ∃ x, v3.setCell ⟨a, 0, none⟩ (.int .i64 v) = x := ⟨_, rfl⟩
  have X := Lib.hid (show Bx 36 w w3 a (propC v 0 Y0 0) 0 0 by rw [← hw]; exact X.out.set 0 _ rfl)
  have R := Lib.hid (show RD a w3 b A' n c' zs k2 f2 by rw [← hw]; exact rd_set R.out 0 _ HNB.out HNA.out)
  rw [hw]
  clear c0 f0 hw
  go_wp2_with fail
  refine (yN a b A' n c' zs k2 f2 1 4294967296 s k3 f3 w3 R.out r3 (by omega) X.out.blk.lt).mono ?_
  rintro e v4 ⟨rfl, h2, k2'⟩
  have X := Lib.hid (X.out.kep HAB.out k2')
  have R := Lib.hid h2
  clear h2 k2'
  have c0 : v4.cell? ⟨a, 1, none⟩ = some (.int .i64 0) := X.out.blk.cell 1 rfl
  have f0 : v4.frozen? ⟨a, 1, none⟩ = false := X.out.blk.frozen 1
  go_upto_region 6 with fail
  obtain ⟨w4, hw⟩ : ∃ x, v4.setCell ⟨a, 1, none⟩ (.int .i64 s) = x := ⟨_, rfl⟩
  have X := Lib.hid (show Bx 36 w w4 a (propC v s Y0 0) 0 0 by rw [← hw]; exact X.out.set 1 _ rfl)
  have R := Lib.hid (show RD a w4 b A' n c' zs k3 f3 by rw [← hw]; exact rd_set R.out 1 _ HNB.out HNA.out)
  rw [hw]
  clear c0 f0 hw
  go_wp2_with fail
  refine (yH a b A' n c' zs k3 f3 hs k4 f4 w4 R.out r4 X.out.blk.lt).mono ?_
  rintro e v5 ⟨rfl, h2, k2'⟩
  have X := Lib.hid (X.out.kep HAB.out k2')
  have R := Lib.hid h2
  clear h2 k2'
  obtain ⟨Y, hY⟩ : ∃ Y, Y = hs.map (Value.int .u8) := ⟨_, rfl⟩
  have HYl := Lib.hid (show Y.length = 32 by rw [hY, List.length_map]; exact HL.out)
  have HYs := Lib.hid (show Y.toArray.size = 32 by rw [List.size_toArray]; exact HYl.out)
  have HYo := Lib.hid (all_oneCell_toArray (cs := Y) (by rw [hY]; exact hs_cells hs))
  have HYi := Lib.hid (show (Try.prog.info? 26).map (·.size) = some Y.toArray.size by rw [HYs.out]; exact Cd.info_hash)
  have TH := Lib.hid (show v5.there a 2 Y.toArray.size by rw [HYs.out]; exact X.out.blk.there 2 32 (by rw [List.size_toArray]; simp [propC]))
  have HY := Lib.hid hY
  rw [show Cd.hash hs = .agg Y.toArray by rw [hY]]
  clear hY
  go_upto_region 7 with (refine wpList_store_mid rfl 26 (.tmp 18) (.tmp 17) rfl a 2 Y.toArray rfl rfl TH.out HYi.out HYo.out ?_)
  obtain ⟨w5, hw⟩ : ∃ x, v5.setCells a 2 Y = x := ⟨_, rfl⟩
  have X := Lib.hid (show Bx 36 w w5 a (propC v s hs 0) 0 0 by
    rw [← hw, HY.out]
    exact X.out.row (pre := [.int .i64 v, .int .i64 s]) (mid := Y0.map (Value.int .u8)) (post := [.int .u64 0]) (vs := hs.map (Value.int .u8)) (by rw [List.length_map, List.length_map, HL.out]; rfl))
  have R := Lib.hid (show RD a w5 b A' n c' zs k4 f4 by rw [← hw]; exact rd_row R.out 2 _ HNB.out HNA.out)
  rw [hw]
  clear hw TH HYi HYo HYs HYl HY
  go_wp2_with fail
  refine (yU a b A' n c' zs k4 f4 tag k5 f5 w5 R.out r5 X.out.blk.lt).mono ?_
  rintro e v6 ⟨rfl, h2, k2'⟩
  have X := Lib.hid (X.out.kep HAB.out k2')
  have R := Lib.hid h2
  clear h2 k2'
  have c0 : v6.cell? ⟨a, 34, none⟩ = some (.int .u64 0) := X.out.blk.cell 34 (by simp [propC, HL.out])
  have f0 : v6.frozen? ⟨a, 34, none⟩ = false := X.out.blk.frozen 34
  go_upto_region 8 with fail
  obtain ⟨w6, hw⟩ : ∃ x, v6.setCell ⟨a, 34, none⟩ (.int .u64 tag) = x := ⟨_, rfl⟩
  have X := Lib.hid (show Bx 36 w w6 a (propC v s hs tag) 0 0 by rw [← hw]; exact X.out.set 34 _ (prop_tag v s 0 tag hs HL.out))
  have R := Lib.hid (show RD a w6 b A' n c' zs k5 f5 by rw [← hw]; exact rd_set R.out 34 _ HNB.out HNA.out)
  rw [hw]
  clear c0 f0 hw
  obtain ⟨D, hD⟩ : ∃ D, D = propC v s hs tag := ⟨_, rfl⟩
  have HD := Lib.hid hD
  rw [← hD] at X
  have HDl := Lib.hid (show D.length = 35 by rw [hD]; simp [propC, HL.out])
  have HDs := Lib.hid (show D.toArray.size = 35 by rw [List.size_toArray]; exact HDl.out)
  have HDo := Lib.hid (all_oneCell_toArray (cs := D) (by rw [hD]; exact prop_cells' v s tag hs))
  have HDi := Lib.hid (show (Try.prog.info? 36).map (·.size) = some D.toArray.size by rw [HDs.out]; exact info_prop)
  have uA := Try.underlying36
  have iA : (Try.prog.info? 36).map (·.size) = some D.length := by rw [HDl.out]; exact info_prop
  clear hD
  obtain ⟨w9, hw9⟩ : ∃ x, w6.drew = x := ⟨_, rfl⟩
  have X := Lib.hid (show Bx 36 w w9 a D 0 0 by rw [← hw9]; exact X.out.up (Bel.refl _).drew)
  have R := Lib.hid (show RS w9 b zs k5 f5 by rw [← hw9]; exact (R.out.bel (Bel.refl _).drew).rs)
  have EN := Lib.hid (show Calls Try.prog 23 #[.pointer (some ⟨b, 0, none⟩)] w9 fun e w' => e = .returned (fault fe) ∧ Bel w9 w' by rw [HFE.out]; exact rEnd b zs k5 f5 w9 R.out)
  have S0d : ∃ p q, Bx 36 w w6.drew a D p q := ⟨0, 0, by rw [hw9]; exact X.out⟩
  refine wp_region_noPanic ?_
  refine wp_region_held_drew (S := fun w' => ∃ p q, Bx 36 w w' a D p q) (by kernel_rfl) S0d (fun hS0 => ?_)
  rw [hw9] at hS0 ⊢
  clear hw9 S0d
  refine wpAnyH_take (i := 0) (oi := { dst := some 22, op := .load 36 (.tmp 2), type := 36, pos := "block.go:32", after := #[], guard := none }) (v := .agg D.toArray) rfl (by kernel_rfl) (by kernel_rfl) (by kernel_rfl) (fun _ _ _ h => h) (yieldsIf_load_mid (by rfl) _ _ rfl _ _ rfl _ _ (fun w h => rngB (h.elim fun _ h => h.elim fun _ h => h.blk)) uA rfl iA) hS0 ?_
  try simp only [Act.put, List.setIfInBounds_toArray, List.set_cons_zero, List.set_cons_succ]
  refine wpAnyH_take (i := 1) (oi := { dst := some 23, op := .move (.tmp 4), type := 48, pos := "block.go:32", after := #[], guard := none }) (v := .pointer (some ⟨b, 0, none⟩)) rfl (by kernel_rfl) (by kernel_rfl) (by kernel_rfl) (fun _ _ _ h => h) (Or.inl ⟨by rfl, by intro w hSw; clear hSw; go_simp⟩) hS0 ?_
  try simp only [Act.put, List.setIfInBounds_toArray, List.set_cons_zero, List.set_cons_succ]
  refine wpAnyH_ready (rs := [2]) (by kernel_rfl) (by simp) ?_
  refine AllReadyH.cons (o := { dst := some 24, op := .call { callee := .value (.func 23), args := #[.tmp 23], argTypes := #[48] }, type := 32, pos := "block.go:32", after := #[{ on := 1, ground := .data }], guard := none }) rfl (fun K hK => ?_) AllReadyH.nil
  go_simp
  refine (EN.out).mono ?_
  rintro e v1 ⟨rfl, kE⟩
  go_wp2_with fail
  refine hK.out _ _ (⟨0, 0, X.out.up kE⟩) (fun hS1 => ?_)
  clear hK K
  try simp only [Act.put, List.setIfInBounds_toArray, List.set_cons_zero, List.set_cons_succ]
  have X := Lib.hid (X.out.up kE)
  clear kE
  have TH := Lib.hid (show v1.there a 0 D.toArray.size by rw [HDs.out]; exact X.out.blk.there 0 35 (by rw [HDs.out]; exact Nat.le_refl _))
  refine wpAnyH_ready (rs := [3]) (by kernel_rfl) (by simp) ?_
  refine AllReadyH.cons (o := { dst := none, op := .store 36 (.tmp 2) (.tmp 22), type := 0, pos := "block.go:32", after := #[{ on := 0, ground := .data }, { on := 2, ground := .chain }, { on := 0, ground := .phase }, { on := 1, ground := .textOnly .lateStoresUnsure }, { on := 2, ground := .textOnly .lateStoresUnsure }], guard := none }) rfl (fun K hK => ?_) AllReadyH.nil
  rw [if_pos (by rfl)]
  refine wp_store_mid 36 (.tmp 2) (.tmp 22) rfl a 0 D.toArray rfl rfl TH.out HDi.out HDo.out ?_
  obtain ⟨v2, hv2⟩ : ∃ x, v1.setCells a 0 D.toArray.toList = x := ⟨_, rfl⟩
  have X := Lib.hid (show Bx 36 w v2 a D 0 0 by rw [← hv2]; exact X.out.whole rfl)
  rw [hv2]
  refine hK.out _ _ ⟨0, 0, X.out⟩ (fun hS2 => ?_)
  clear hK K hv2 TH
  have c0 : v2.cell? ⟨a + 1, 0, none⟩ = some (.int .i64 0) := X.out.flt.cell 0 rfl
  have c1 : v2.cell? ⟨a + 1, 1, none⟩ = some (.int .i64 0) := X.out.flt.cell 1 rfl
  have g0 : v2.frozen? ⟨a + 1, 0, none⟩ = false := X.out.flt.frozen 0
  have g1 : v2.frozen? ⟨a + 1, 1, none⟩ = false := X.out.flt.frozen 1
  refine wpAnyH_ready (rs := [4]) (by kernel_rfl) (by simp) ?_
  refine AllReadyH.cons (o := { dst := none, op := .store 32 (.tmp 3) (.tmp 24), type := 0, pos := "block.go:32", after := #[{ on := 2, ground := .data }, { on := 3, ground := .chain }, { on := 0, ground := .phase }, { on := 1, ground := .phase }, { on := 2, ground := .phase }, { on := 3, ground := .phase }], guard := none }) rfl (fun K hK => ?_) AllReadyH.nil
  go_simp
  refine hK.out _ _ (⟨fe.1, fe.2, X.out.fault fe.1 fe.2⟩) (fun hS3 => ?_)
  clear hK K
  try simp only [Act.put, List.setIfInBounds_toArray, List.set_cons_zero, List.set_cons_succ]
  have X := Lib.hid (X.out.fault fe.1 fe.2)
  clear c0 c1 g0 g1
  refine wpAnyH_done (by kernel_rfl) ?_ _
  refine noPanic_mk ?_
  go_wp2
  refine leaves_cons (f := 29) (args := #[.pointer (some ⟨a + 1, 0, none⟩), .pointer (some ⟨a, 0, none⟩)]) (by simp) (by simp [go_sem]) ?_
  refine (clearB a D fe.1 fe.2 w _ HDl.out X.out).mono ?_
  rintro e u' w11 ⟨rfl, rfl, hx⟩
  have HX := Lib.hid hx
  have RR : w11.rangeAt a 0 (if fe.1 = 0 then D else propC 0 0 Y0 0) := rngB hx.blk
  refine ⟨_, results_cc Try.results8 _ _ ⟨a, 0, none⟩ ⟨a + 1, 0, none⟩ (.agg (if fe.1 = 0 then D else propC 0 0 Y0 0).toArray) (fault fe) rfl rfl (run_loadVar_mid (P := Try.prog) _ a 0 36 _ _ RR Try.underlying36 rfl (by split; exact iA; exact info_prop)) (load_fault (hx.flt.cell 0 rfl) (hx.flt.cell 1 rfl)), ?_, hx.bel⟩
  rw [HD.out]
  rfl
end Vt
end Go.Proofs.Ytgalhpejihmhkaa
end

section
/-
  What is read of some known bytes as a vote. No program, no condition.
-/
namespace Go.Proofs.Ytgalhpejihmhkaa
open Go.RowKit Go.Shelf
set_option linter.unusedVariables false
namespace Vt
open Cd

theorem val_one (zs : List Int) (k : Nat) {z : Int} (hz : zs.getD k 0 = z) (h0 : 0 ≤ z) (h1 : z < 128) : val zs k (0 + 1) = z := by
  have h : val zs k (0 + 1) = zs.getD k 0 % 128 + 128 * val zs (k + 1) 0 := val_front zs k 0
  have h2 : val zs (k + 1) 0 = 0 := rfl
  rw [h, h2, hz]
  omega
theorem way_one {zs : List Int} {k : Nat} {z : Int} (hz : zs.getD k 0 = z) (hk : k < zs.length) (h0 : 0 ≤ z) (h1 : z < 128) : Cd.Way zs k z ((k + 1 : Nat) : Int) 0 0 := by
  refine .inr (.inr ⟨k, 0, rfl, by decide, hk, fun i hi => absurd hi (by omega), by rw [Nat.add_zero, hz]; exact h1, fun h => absurd h (by omega), fun h => absurd h (by omega), (val_one zs k hz h0 h1).symm, by push_cast; omega, rfl, rfl⟩)
theorem rn_ok {zs : List Int} {k : Nat} {z least most : Int} (hz : zs.getD k 0 = z) (hk : k < zs.length) (h0 : 0 ≤ z) (h1 : z < 128) (hl : least ≤ z) (hm : z ≤ most) : RN zs k none least most z (k + 1) none :=
  .inr ⟨rfl, ((k + 1 : Nat) : Int), 0, 0, ⟨z, _, 0, 0, way_one hz hk h0 h1, h0, by omega, .inr (.inr ⟨rfl, hl, hm, rfl, rfl, rfl, rfl⟩)⟩, .inl ⟨rfl, rfl, rfl⟩, by omega, fun h => absurd rfl h⟩
theorem rn_no {zs : List Int} {k : Nat} {z least most : Int} (hz : zs.getD k 0 = z) (hk : k < zs.length) (h0 : 0 ≤ z) (h1 : z < 128) (hb : z < least ∨ most < z) : RN zs k none least most 0 k (some (3, (k : Int))) :=
  .inr ⟨rfl, 0, 3, (k : Int), ⟨z, _, 0, 0, way_one hz hk h0 h1, h0, by omega, .inr (.inl ⟨rfl, hb, rfl, rfl, rfl, rfl⟩)⟩, .inr ⟨by decide, rfl, rfl⟩, by omega, fun _ => rfl⟩
theorem ru_ok {zs : List Int} {k : Nat} {z : Int} (hz : zs.getD k 0 = z) (hk : k < zs.length) (h0 : 0 ≤ z) (h1 : z < 128) : RU zs k none z (k + 1) none :=
  .inr ⟨rfl, ((k + 1 : Nat) : Int), 0, 0, way_one hz hk h0 h1, .inl ⟨rfl, rfl, rfl⟩, by omega, fun h => absurd rfl h⟩
theorem rn_f {zs : List Int} {k : Nat} {p : Int × Int} {least most : Int} : RN zs k (some p) least most 0 k (some p) := .inl ⟨p, rfl, rfl, rfl, rfl⟩
theorem ru_f {zs : List Int} {k : Nat} {p : Int × Int} : RU zs k (some p) 0 k (some p) := .inl ⟨p, rfl, rfl, rfl, rfl⟩
theorem rh_f {zs : List Int} {k : Nat} {p : Int × Int} : RH zs k (some p) Y0 k (some p) := .inl ⟨p, rfl, rfl, rfl, rfl⟩

abbrev known (zs : List Int) (fe : Int × Int) : Prop := ∃ v s t tag hs, attRd zs v s t tag hs fe
theorem known1 : known [2] (3, 0) := ⟨0, 0, 0, 0, Y0, 0, 0, _, 0, _, 0, _, 0, _, 0, _, 0, _, rn_no (k := 0) (z := 2) rfl (by decide) (by decide) (by decide) (.inr (by decide)), rn_f, rn_f, rn_f, rh_f, ru_f, rfl⟩
theorem known2 : known [1, 32] (3, 1) := ⟨0, 0, 0, 0, Y0, 1, 1, _, 1, _, 1, _, 1, _, 1, _, 1, _, rn_ok (k := 0) (z := 1) rfl (by decide) (by decide) (by decide) (by decide) (by decide), rn_no (k := 1) (z := 32) rfl (by decide) (by decide) (by decide) (.inr (by decide)), rn_f, rn_f, rh_f, ru_f, rfl⟩
theorem known3 : known [1, 1, 2, 3] (6, 4) := ⟨1, 2, 3, 0, Y0, 1, 1, _, 2, _, 3, _, 4, _, 4, _, 4, _, rn_ok (k := 0) (z := 1) rfl (by decide) (by decide) (by decide) (by decide) (by decide), rn_ok (k := 1) (z := 1) rfl (by decide) (by decide) (by decide) (by decide) (by decide), rn_ok (k := 2) (z := 2) rfl (by decide) (by decide) (by decide) (by decide) (by decide), rn_ok (k := 3) (z := 3) rfl (by decide) (by decide) (by decide) (by decide) (by decide), .inr ⟨rfl, .inr ⟨by decide, rfl, rfl, rfl⟩⟩, ru_f, rfl⟩
theorem known4 : known ([1, 1, 2, 3] ++ Y0 ++ [5] ++ [0]) (4, 37) := ⟨1, 2, 3, 5, Y0, 1, 1, _, 2, _, 3, _, 4, _, 36, _, 37, _, rn_ok (k := 0) (z := 1) rfl (by decide) (by decide) (by decide) (by decide) (by decide), rn_ok (k := 1) (z := 1) rfl (by decide) (by decide) (by decide) (by decide) (by decide), rn_ok (k := 2) (z := 2) rfl (by decide) (by decide) (by decide) (by decide) (by decide), rn_ok (k := 3) (z := 3) rfl (by decide) (by decide) (by decide) (by decide) (by decide), .inr ⟨rfl, .inl ⟨by decide, by decide, rfl, rfl⟩⟩, ru_ok (k := 36) (z := 5) rfl (by decide) (by decide) (by decide), rfl⟩
theorem known5 : ∃ v s tag hs, propRd [2, 1, 0] v s tag hs (3, 2) := ⟨1, 0, 0, Y0, 2, 1, _, 2, _, 2, _, 2, _, 2, _, rn_ok (k := 0) (z := 2) rfl (by decide) (by decide) (by decide) (by decide) (by decide), rn_ok (k := 1) (z := 1) rfl (by decide) (by decide) (by decide) (by decide) (by decide), rn_no (k := 2) (z := 0) rfl (by decide) (by decide) (by decide) (.inl (by decide)), rh_f, ru_f, rfl⟩
end Vt
end Go.Proofs.Ytgalhpejihmhkaa
end

section
/-
  What the law's helper fails answers of bytes that have a fault. Condition: at most 10^6 bytes.
-/
namespace Go.Proofs.Ytgalhpejihmhkaa
open Go.RowKit Go.Shelf
set_option linter.unusedVariables false
namespace Vt
open Cd

abbrev zA : List Value := attC 0 0 0 Y0 0
theorem eq_zero (W : World) : (binOp .eql 29 (.agg zA.toArray) (.agg zA.toArray)).run Try.prog W = .ok (.bool true) W := by kernel_rfl
theorem part0 {P : Program} {t : TypeId} {q : IntKind} (hu : P.underlying t = some (.int q)) {xs : Array Value} {i : Nat} {v : Value} (hx : xs[i]? = some v) (w : World) : (part t xs i).run P w = .ok v w := by
  simp [part, isAgg, run_underlying hu, hx]
theorem eqIn_fault (e p e' p' : Int) (W : World) : (Op.equalIn 10000 32 (.agg #[.int .i64 e, .int .i64 p]) (.agg #[.int .i64 e', .int .i64 p'])).run Try.prog W = .ok (e == e' && p == p') W := by
  have hS : Try.prog.underlying 32 = some (.struct (Try.prog.fieldsOf 32)) := by kernel_rfl
  rw [show (10000 : Nat) = 9999 + 1 from rfl, run_equalIn_struct W 9999 _ _ _ hS (by kernel_rfl)]
  simp only [Program.fieldsOf, Try.underlying32]
  have p1 : ∀ w, (part 30 #[Value.int .i64 e, .int .i64 p] 0).run Try.prog w = .ok (.int .i64 e) w := fun w => part0 Try.underlying30 rfl w
  have p2 : ∀ w, (part 30 #[Value.int .i64 e', .int .i64 p'] 0).run Try.prog w = .ok (.int .i64 e') w := fun w => part0 Try.underlying30 rfl w
  have p3 : ∀ w, (part 3 #[Value.int .i64 e, .int .i64 p] 1).run Try.prog w = .ok (.int .i64 p) w := fun w => part0 Try.underlying3 rfl w
  have p4 : ∀ w, (part 3 #[Value.int .i64 e', .int .i64 p'] 1).run Try.prog w = .ok (.int .i64 p') w := fun w => part0 Try.underlying3 rfl w
  have q1 : (Op.equalIn 9999 30 (.int .i64 e) (.int .i64 e')).run Try.prog W = .ok (e == e') W := run_equalIn_int W 9998 _ _ _ _ _ Try.underlying30
  have q2 : (Op.equalIn 9999 3 (.int .i64 p) (.int .i64 p')).run Try.prog W = .ok (p == p') W := run_equalIn_int W 9998 _ _ _ _ _ Try.underlying3
  simp only [Op.eqFields]
  cases hq : (e == e') <;> simp [Sem.run_ite, p1, p2, p3, p4, q1, q2, hq]
  by_cases h2 : p = p' <;> simp [h2]
theorem eql_fault (e p e' p' : Int) (W : World) : (binOp .eql 32 (.agg #[.int .i64 e, .int .i64 p]) (.agg #[.int .i64 e', .int .i64 p'])).run Try.prog W = .ok (.bool (e == e' && p == p')) W := by
  rw [run_eql_struct, eqIn_fault]
  rfl
theorem neq_fault (e p e' p' : Int) (W : World) : (binOp .neq 32 (.agg #[.int .i64 e, .int .i64 p]) (.agg #[.int .i64 e', .int .i64 p'])).run Try.prog W = .ok (.bool (!(e == e' && p == p'))) W := by
  rw [run_neq_struct, eqIn_fault]
  rfl
theorem wpList_bin {ops : Array Oper} {rest : List Oper} {op : Oper} {a : Act} {w : World} {Q : Exit → Act → World → Prop} (hgd : op.guard = none) (b : BinOp) (t t2 : TypeId) (x y : Operand) (ho : op.op = .binOp b t x y t2)
    (X Y V : Value) (hx : a.eval x = X) (hy : a.eval y = Y) (hr : ∀ w, ((do eqGuard b t x y X Y; binOp b t X Y) : Sem Value).run Try.prog w = .ok V w)
    (h : wpList Try.prog ops Q rest (a.put op.dst V) w) : wpList Try.prog ops Q (op :: rest) a w :=
  wpList_plain hgd fun _ hK => by
    unfold Oper.wp execOp
    simp only [ho]
    rw [hx, hy]
    have := hr w
    simp only [Sem.run_bind] at this
    simp only [Sem.run_bind, Oper.upon]
    generalize Sem.run Try.prog (eqGuard b t x y X Y) w = r at *
    cases r with
    | halt e w1 => simp [Result.andThen] at this
    | ok u w1 =>
      simp only [Result.andThen_ok] at this ⊢
      rw [this]
      exact hK _ _ h
theorem wpList_build_all {ops : Array Oper} {rest : List Oper} {op : Oper} {a : Act} {w : World} {Q : Exit → Act → World → Prop} (hgd : op.guard = none) (t : TypeId) (fs : List (Nat × Operand)) (ho : op.op = .build t fs.toArray)
    (us : List (Nat × Value)) (v : Value) (hx : (fs.map fun (i, x) => (i, a.eval x)) = us) (hb : ∀ w, (Instr.build t us.toArray).run Try.prog w = .ok v w)
    (h : wpList Try.prog ops Q rest (a.put op.dst v) w) : wpList Try.prog ops Q (op :: rest) a w :=
  wpList_plain hgd fun _ hK => by
    unfold Oper.wp execOp
    simp only [ho, List.map_toArray]
    rw [hx]
    simp [hb, Oper.upon]
    exact hK _ _ h
theorem eq_zero2 (W : World) : ((do eqGuard .eql 29 (.tmp 14) (.tmp 15) (.agg zA.toArray) (.agg zA.toArray); binOp .eql 29 (.agg zA.toArray) (.agg zA.toArray)) : Sem Value).run Try.prog W = .ok (.bool true) W := by kernel_rfl
theorem tl_bad (v s t tag : Int) (hs : List Int) (fe : Int × Int) (h : fe.1 ≠ 0) : attTl v s t tag hs fe = zA := by unfold attTl; rw [if_neg h]
theorem info_fault : (Try.prog.info? 32).map (·.size) = some 2 := by kernel_rfl

end Vt
end Go.Proofs.Ytgalhpejihmhkaa
end

section
/-
  A vote is equal to itself, whatever it holds.
-/
namespace Go.Proofs.Ytgalhpejihmhkaa
open Go.RowKit Go.Shelf
set_option linter.unusedVariables false
namespace Vt
open Cd

theorem eqIn_hash (hs : List Int) (h : hs.length = 32) (W : World) : (Op.equalIn 9999 26 (.agg (hs.map Kk.B8).toArray) (.agg (hs.map Kk.B8).toArray)).run Try.prog W = .ok true W := by
  obtain ⟨i, hi⟩ := info_of_underlying Try.underlying5
  have := Kk.eqIn_ints 9997 Try.underlying26 Try.underlying5 hi (by kernel_rfl) hs hs h h W
  rw [show (hs == hs) = true from beq_self_eq_true hs] at this
  exact this
theorem part_hash (i : Nat) (pre post hs : List Int) (xs : Array Value) (h : hs.length = 32) (hx : xs.extract i (i + 32) = (hs.map Kk.B8).toArray) (w : World) : (part 26 xs i).run Try.prog w = .ok (.agg (hs.map Kk.B8).toArray) w := by
  simp [part, isAgg, run_underlying Try.underlying26]
  exact hx
theorem eqIn_att (v s t tag : Int) (hs : List Int) (h : hs.length = 32) (W : World) : (Op.equalIn 10000 29 (.agg (attC v s t hs tag).toArray) (.agg (attC v s t hs tag).toArray)).run Try.prog W = .ok true W := by
  have hS : Try.prog.underlying 29 = some (.struct (Try.prog.fieldsOf 29)) := by kernel_rfl
  rw [show (10000 : Nat) = 9999 + 1 from rfl, run_equalIn_struct W 9999 _ _ _ hS (by kernel_rfl)]
  simp only [Program.fieldsOf, Try.underlying29]
  have p0 : ∀ w, (part 3 (attC v s t hs tag).toArray 0).run Try.prog w = .ok (.int .i64 v) w := fun w => part0 Try.underlying3 rfl w
  have p1 : ∀ w, (part 3 (attC v s t hs tag).toArray 1).run Try.prog w = .ok (.int .i64 s) w := fun w => part0 Try.underlying3 rfl w
  have p2 : ∀ w, (part 3 (attC v s t hs tag).toArray 2).run Try.prog w = .ok (.int .i64 t) w := fun w => part0 Try.underlying3 rfl w
  have p3 : ∀ w, (part 26 (attC v s t hs tag).toArray 3).run Try.prog w = .ok (.agg (hs.map Kk.B8).toArray) w := fun w => part_hash 3 [] [] hs _ h (by simp [attC, h]) w
  have p4 : ∀ w, (part 27 (attC v s t hs tag).toArray 35).run Try.prog w = .ok (.int .u64 tag) w := fun w => part0 Try.underlying27 (by simp [attC, h]) w
  have q0 : ∀ x : Int, (Op.equalIn 9999 3 (.int .i64 x) (.int .i64 x)).run Try.prog W = .ok (x == x) W := fun x => run_equalIn_int W 9998 _ _ _ _ _ Try.underlying3
  have q4 : (Op.equalIn 9999 27 (.int .u64 tag) (.int .u64 tag)).run Try.prog W = .ok (tag == tag) W := run_equalIn_int W 9998 _ _ _ _ _ Try.underlying27
  have q3 := eqIn_hash hs h W
  simp only [Op.eqFields]
  simp [Sem.run_ite, p0, p1, p2, p3, p4, q0, q3, q4]
theorem neq_att (v s t tag : Int) (hs : List Int) (h : hs.length = 32) (W : World) : (binOp .neq 29 (.agg (attC v s t hs tag).toArray) (.agg (attC v s t hs tag).toArray)).run Try.prog W = .ok (.bool false) W := by
  rw [run_neq_struct, eqIn_att v s t tag hs h]
  rfl
theorem eqIn_prop (v s tag : Int) (hs : List Int) (h : hs.length = 32) (W : World) : (Op.equalIn 10000 36 (.agg (propC v s hs tag).toArray) (.agg (propC v s hs tag).toArray)).run Try.prog W = .ok true W := by
  have hS : Try.prog.underlying 36 = some (.struct (Try.prog.fieldsOf 36)) := by kernel_rfl
  rw [show (10000 : Nat) = 9999 + 1 from rfl, run_equalIn_struct W 9999 _ _ _ hS (by kernel_rfl)]
  simp only [Program.fieldsOf, Try.underlying36]
  have p0 : ∀ w, (part 3 (propC v s hs tag).toArray 0).run Try.prog w = .ok (.int .i64 v) w := fun w => part0 Try.underlying3 rfl w
  have p1 : ∀ w, (part 3 (propC v s hs tag).toArray 1).run Try.prog w = .ok (.int .i64 s) w := fun w => part0 Try.underlying3 rfl w
  have p3 : ∀ w, (part 26 (propC v s hs tag).toArray 2).run Try.prog w = .ok (.agg (hs.map Kk.B8).toArray) w := fun w => part_hash 2 [] [] hs _ h (by simp [propC, h]) w
  have p4 : ∀ w, (part 27 (propC v s hs tag).toArray 34).run Try.prog w = .ok (.int .u64 tag) w := fun w => part0 Try.underlying27 (by simp [propC, h]) w
  have q0 : ∀ x : Int, (Op.equalIn 9999 3 (.int .i64 x) (.int .i64 x)).run Try.prog W = .ok (x == x) W := fun x => run_equalIn_int W 9998 _ _ _ _ _ Try.underlying3
  have q4 : (Op.equalIn 9999 27 (.int .u64 tag) (.int .u64 tag)).run Try.prog W = .ok (tag == tag) W := run_equalIn_int W 9998 _ _ _ _ _ Try.underlying27
  have q3 := eqIn_hash hs h W
  simp only [Op.eqFields]
  simp [Sem.run_ite, p0, p1, p3, p4, q0, q3, q4]
theorem neq_prop (v s tag : Int) (hs : List Int) (h : hs.length = 32) (W : World) : (binOp .neq 36 (.agg (propC v s hs tag).toArray) (.agg (propC v s hs tag).toArray)).run Try.prog W = .ok (.bool false) W := by
  rw [run_neq_struct, eqIn_prop v s tag hs h]
  rfl
end Vt
end Go.Proofs.Ytgalhpejihmhkaa
end

section
/-
  Small facts on votes' cells, on a row of the call's own, and on == and != of two structs as an operation of a region. No condition.
-/
namespace Go.Proofs.Ytgalhpejihmhkaa
open Go.RowKit Go.Shelf
set_option linter.unusedVariables false
namespace Vt
open Cd

theorem own_at {W : World} {b L : Nat} {u : Value} {xs : List Int} (h : W.ownsRow b 5 1 u L (xs.map (Value.int .u8))) (h0 : 0 < L) : ∃ g c, u = .slice (some ⟨g, 0, none⟩) L c ∧ L ≤ c ∧ c ≤ maxLen := by
  obtain ⟨A, c, rfl, h3, h4, h5⟩ := ints_of_own h
  obtain ⟨_, ⟨h6, _⟩ | ⟨g, cap, cur, h6, _⟩⟩ := id h
  · injection h6 with _ h6 _
    omega
  · injection h6 with h6 _ h7
    subst h6
    exact ⟨g, c, rfl, h4, h5⟩
theorem sl_own {W : World} {b g L c : Nat} {xs : List Int} (h : W.ownsRow b 5 1 (.slice (some ⟨g, 0, none⟩) L c) L (xs.map (Value.int .u8))) : Cd.Sl W (some ⟨g, 0, none⟩) L c xs := by
  obtain ⟨A, c', e, hi, hc, _⟩ := ints_of_own h
  injection e with e1 _ e3
  subst e1
  subst e3
  exact ⟨hi, hc, fun h => by cases h⟩
theorem len_attTl {v s t tag : Int} {hs : List Int} {fe : Int × Int} (h : fe.1 = 0 → hs.length = 32) : (attTl v s t tag hs fe).length = 36 := by
  unfold attTl
  by_cases h0 : fe.1 = 0
  · rw [if_pos h0]
    exact len_attC (h h0) v s t tag
  · rw [if_neg h0]
    rfl
theorem len_propTl {v s tag : Int} {hs : List Int} {fe : Int × Int} (h : fe.1 = 0 → hs.length = 32) : (propTl v s tag hs fe).length = 35 := by
  unfold propTl
  by_cases h0 : fe.1 = 0
  · rw [if_pos h0]
    exact len_propC (h h0) v s tag
  · rw [if_neg h0]
    rfl
theorem attTl_cells (v s t tag : Int) (hs : List Int) (fe : Int × Int) : ∀ u ∈ attTl v s t tag hs fe, u.oneCell' = true := by
  unfold attTl
  split
  · exact att_cells _ _ _ _ _
  · exact att_cells _ _ _ _ _
theorem propTl_cells (v s tag : Int) (hs : List Int) (fe : Int × Int) : ∀ u ∈ propTl v s tag hs fe, u.oneCell' = true := by
  unfold propTl
  split
  · exact prop_cells _ _ _ _
  · exact prop_cells _ _ _ _
theorem eql_attTl (v s t tag : Int) (hs : List Int) (fe : Int × Int) (h : fe.1 = 0 → hs.length = 32) (W : World) : (binOp .eql 29 (.agg (attTl v s t tag hs fe).toArray) (.agg (attTl v s t tag hs fe).toArray)).run Try.prog W = .ok (.bool true) W := by
  unfold attTl
  split
  · rename_i h0
    rw [run_eql_struct, eqIn_att v s t tag hs (h h0)]
    rfl
  · rw [run_eql_struct, eqIn_att 0 0 0 0 Y0 rfl]
    rfl
theorem eql_propTl (v s tag : Int) (hs : List Int) (fe : Int × Int) (h : fe.1 = 0 → hs.length = 32) (W : World) : (binOp .eql 36 (.agg (propTl v s tag hs fe).toArray) (.agg (propTl v s tag hs fe).toArray)).run Try.prog W = .ok (.bool true) W := by
  unfold propTl
  split
  · rename_i h0
    rw [run_eql_struct, eqIn_prop v s tag hs (h h0)]
    rfl
  · rw [run_eql_struct, eqIn_prop 0 0 0 Y0 rfl]
    rfl
/-- What != of two structs answers, as an operation of a region. -/
theorem exec_neq {a : Act} {o : Oper} {t t2 : TypeId} {x y : Operand} (ho : o.op = .binOp .neq t x y t2) (xs ys : Array Value) (hx : a.eval x = .agg xs) (hy : a.eval y = .agg ys) (hm : Try.prog.eqGuardType Try.prog.depth t = false)
    {b : Bool} (hb : ∀ w, (binOp .neq t (.agg xs) (.agg ys)).run Try.prog w = .ok (.bool b) w) (w : World) : (execOp a.eval o).run Try.prog w = .ok (.value (.bool b)) w := by
  unfold execOp
  simp only [ho, hx, hy, Sem.run_bind, run_eqGuard_agg (hm := hm), Result.andThen_ok, hb, Sem.run_pure]
/-- What == of two structs answers, as an operation of a region. -/
theorem exec_eql {a : Act} {o : Oper} {t t2 : TypeId} {x y : Operand} (ho : o.op = .binOp .eql t x y t2) (xs ys : Array Value) (hx : a.eval x = .agg xs) (hy : a.eval y = .agg ys) (hm : Try.prog.eqGuardType Try.prog.depth t = false)
    {b : Bool} (hb : ∀ w, (binOp .eql t (.agg xs) (.agg ys)).run Try.prog w = .ok (.bool b) w) (w : World) : (execOp a.eval o).run Try.prog w = .ok (.value (.bool b)) w := by
  unfold execOp
  simp only [ho, hx, hy, Sem.run_bind, run_eqGuard_agg (hm := hm), Result.andThen_ok, hb, Sem.run_pure]
/-- An operation that yields a value, whether it is guarded or not, as an arm of a walk. -/
theorem wpList_val {ops : Array Oper} {rest : List Oper} {o : Oper} {a : Act} {w : World} {Q : Exit → Act → World → Prop} (hw : Region.wanted o (yielded ops a.tmps) = true) (V : Value) (hr : ∀ w, (execOp a.eval o).run Try.prog w = .ok (.value V) w)
    (h : wpList Try.prog ops Q rest (a.put o.dst V) w) : wpList Try.prog ops Q (o :: rest) a w :=
  wpList_step fun K hK => by
    rw [if_pos hw]
    unfold Oper.wp
    rw [hr]
    exact hK _ _ h
end Vt
end Go.Proofs.Ytgalhpejihmhkaa
end

section
/-
  What the reference's Read and ReadBlock of votes answer. Conditions: at most 10^6 bytes, each from 0 to 255; a fault, or none at all.
-/
namespace Go.Proofs.Ytgalhpejihmhkaa
open Go.RowKit Go.Shelf
set_option linter.unusedVariables false
namespace Vt
open Cd

theorem qt_set {d : Nat} {w : World} {b : Nat} {A : Option Addr} {n c : Nat} {zs : List Int} {k : Nat} {f : Option (Int × Int)} (h : QT w b A n c zs k f) (i : Nat) (v : Value) (hbd : b ≠ d) (hA : 0 < n → ∀ x : Addr, A = some x → x.block ≠ d) : QT (w.setCell ⟨d, i, none⟩ v) b A n c zs k f :=
  h.kep (S := fun i => i = d) (Kep.set_self (Kep.refl _ w) i v) hbd hA
theorem qt_row {d : Nat} {w : World} {b : Nat} {A : Option Addr} {n c : Nat} {zs : List Int} {k : Nat} {f : Option (Int × Int)} (h : QT w b A n c zs k f) (o : Nat) (vs : List Value) (hbd : b ≠ d) (hA : 0 < n → ∀ x : Addr, A = some x → x.block ≠ d) : QT (w.setCells d o vs) b A n c zs k f :=
  h.kep (S := fun i => i = d) (kep_setCells d vs o w) hbd hA
theorem qt_lt {w : World} {b : Nat} {A : Option Addr} {n c : Nat} {zs : List Int} {k : Nat} {f : Option (Int × Int)} (h : QT w b A n c zs k f) : b < w.heap.size := by
  obtain ⟨_, h1, _⟩ := h
  exact h1.blk.lt

set_option maxRecDepth 100000 in
set_option maxHeartbeats 8000000 in
theorem qreadA (A : Option Addr) (n c : Nat) (zs : List Int) (v s t tag : Int) (hs : List Int) (fe : Int × Int) (w : World) (hz : Sl w A n c zs) (hn : n ≤ 1000000) (hb : Bytes zs) (hr : attRd zs v s t tag hs fe) (hfe0 : fe.1 ≠ 0 ∨ fe = (0, 0)) :
    Calls Try.prog 7 #[.slice A n c] w fun e w' => e = .returned (.tuple #[.agg (attTl v s t tag hs fe).toArray, fault fe]) ∧ Bel w w' := by
  obtain ⟨x1, k1, f1, k2, f2, k3, f3, k4, f4, k5, f5, k6, f6, r1, r2, r3, r4, r5, r6, hfe⟩ := hr
  have HL := Lib.hid (rh_len r5)
  have HFE := Lib.hid hfe
  have HF0 := Lib.hid hfe0
  clear hfe hfe0
  obtain ⟨a, ha⟩ : ∃ a, a = w.heap.size := ⟨_, rfl⟩
  obtain ⟨W1, hW1⟩ : ∃ W, w.alloc Zr36 = W := ⟨_, rfl⟩
  obtain ⟨W, hW⟩ : ∃ W, W1.alloc (.cells #[.int .i64 0, .int .i64 0] 32) = W := ⟨_, rfl⟩
  have z1 : W1.heap.size = w.heap.size + 1 := by rw [← hW1]; simp
  have b1 : Bel w W1 := by rw [← hW1]; exact (Bel.refl w).alloc _
  have b2 : Bel W1 W := by rw [← hW]; exact (Bel.refl W1).alloc _
  have X0 := Lib.hid (show Bx 29 w W a (attC 0 0 0 Y0 0) 0 0 from
    ⟨(show Blk W1 a (attC 0 0 0 Y0 0).toArray 29 by rw [← hW1, ha]; exact Blk.new w _ _).bel b2, by rw [← hW, ha, ← z1]; exact Blk.new W1 _ _, b1.trans b2, ha.symm⟩)
  have Z0' := Lib.hid (show W.heap.size = a + 2 by rw [← hW]; simp; omega)
  have HA := Lib.hid ha
  have HW1 := Lib.hid hW1
  have HW := Lib.hid hW
  have NR := Lib.hid (qNew A n c zs W (hz.bel (b1.trans b2)) hn hb)
  clear ha hW1 hW z1 b1 b2 hz hn hb
  go_enter Try.func7, Try.ntmps7
  go_upto_region 1 with fail
  rw [← HA.out, HW1.out, HW.out]
  go_wp2_with fail
  refine NR.out.mono ?_
  rintro e w1 ⟨b, A', c', rfl, hb, hst, hA', k1'⟩
  have HAB := Lib.hid (show a + 1 < b by have := Z0'.out; omega)
  have HA' := Lib.hid (show 0 < n → ∀ x : Addr, A' = some x → x.block < b from fun h x hx => (hA' h x hx).2)
  have X := Lib.hid (X0.out.up k1')
  have R := Lib.hid (show QT w1 b A' n c' zs 0 none from ⟨0, hst, fun _ => rfl⟩)
  have HBL := Lib.hid hst.blk.lt
  clear hb hst hA' k1' NR
  go_wp2_with fail
  refine (tN b A' n c' zs 0 none 1 1 x1 k1 f1 w1 R.out r1 (by omega) (by omega)).mono ?_
  rintro e w2 ⟨rfl, h2, kk⟩
  have X := Lib.hid (X.out.kep HAB.out kk)
  have HBL := Lib.hid (show b < w2.heap.size from Nat.lt_of_lt_of_le HBL.out kk.size)
  have R := Lib.hid h2
  clear h2 kk
  obtain ⟨g, hg⟩ : ∃ g, g = w2.heap.size := ⟨_, rfl⟩
  obtain ⟨v2, hv2⟩ : ∃ x, w2.alloc Zr36 = x := ⟨_, rfl⟩
  have HGB := Lib.hid (show b < g by have := HBL.out; omega)
  have HNB := Lib.hid (show b ≠ g by have := HBL.out; omega)
  have HNA := Lib.hid (show 0 < n → ∀ x : Addr, A' = some x → x.block ≠ g from fun h x hx => by have := HA'.out h x hx; have := HGB.out; omega)
  have V := Lib.hid (show Blk v2 g (attC 0 0 0 Y0 0).toArray 29 by rw [← hv2, hg]; exact Blk.new w2 _ _)
  have X := Lib.hid (show Bx 29 w v2 a (attC 0 0 0 Y0 0) 0 0 by rw [← hv2]; exact X.out.up ((Bel.refl _).alloc _))
  have R := Lib.hid (show QT v2 b A' n c' zs k1 f1 by rw [← hv2]; exact R.out.bel ((Bel.refl _).alloc _))
  have HG := Lib.hid hg
  have HV := Lib.hid hv2
  clear hg hv2
  go_upto_region 4 with fail
  rw [← HG.out, HV.out]
  clear HV HG
  go_wp2_with fail
  refine (tN b A' n c' zs k1 f1 0 31 v k2 f2 v2 R.out r2 (by omega) (by omega)).mono ?_
  rintro e u0 ⟨rfl, h2, kk⟩
  have X := Lib.hid (X.out.kep HAB.out kk)
  have V := Lib.hid (V.out.kep kk (fun h => HNB.out h.symm))
  have R := Lib.hid h2
  clear h2 kk
  have c0 : u0.cell? ⟨g, 0, none⟩ = some (.int .i64 0) := V.out.cell 0 rfl
  have f0 : u0.frozen? ⟨g, 0, none⟩ = false := V.out.frozen 0
  go_upto_region 5 with fail
  obtain ⟨y0, hw⟩ : ∃ x, u0.setCell ⟨g, 0, none⟩ (.int .i64 v) = x := ⟨_, rfl⟩
  have V := Lib.hid (show Blk y0 g (attC v 0 0 Y0 0).toArray 29 by rw [← hw]; exact V.out.set 0 _)
  have X := Lib.hid (show Bx 29 w y0 a (attC 0 0 0 Y0 0) 0 0 by rw [← hw]; exact X.out.kep (Nat.lt_trans HAB.out HGB.out) (Kep.set_self (Kep.refl _ _) 0 _))
  have R := Lib.hid (show QT y0 b A' n c' zs k2 f2 by rw [← hw]; exact qt_set R.out 0 _ HNB.out HNA.out)
  rw [hw]
  clear c0 f0 hw
  go_wp2_with fail
  refine (tN b A' n c' zs k2 f2 0 4294967296 s k3 f3 y0 R.out r3 (by omega) (by omega)).mono ?_
  rintro e u1 ⟨rfl, h2, kk⟩
  have X := Lib.hid (X.out.kep HAB.out kk)
  have V := Lib.hid (V.out.kep kk (fun h => HNB.out h.symm))
  have R := Lib.hid h2
  clear h2 kk
  have c0 : u1.cell? ⟨g, 1, none⟩ = some (.int .i64 0) := V.out.cell 1 rfl
  have f0 : u1.frozen? ⟨g, 1, none⟩ = false := V.out.frozen 1
  go_upto_region 6 with fail
  obtain ⟨y1, hw⟩ : ∃ x, u1.setCell ⟨g, 1, none⟩ (.int .i64 s) = x := ⟨_, rfl⟩
  have V := Lib.hid (show Blk y1 g (attC v s 0 Y0 0).toArray 29 by rw [← hw]; exact V.out.set 1 _)
  have X := Lib.hid (show Bx 29 w y1 a (attC 0 0 0 Y0 0) 0 0 by rw [← hw]; exact X.out.kep (Nat.lt_trans HAB.out HGB.out) (Kep.set_self (Kep.refl _ _) 1 _))
  have R := Lib.hid (show QT y1 b A' n c' zs k3 f3 by rw [← hw]; exact qt_set R.out 1 _ HNB.out HNA.out)
  rw [hw]
  clear c0 f0 hw
  go_wp2_with fail
  refine (tN b A' n c' zs k3 f3 0 4294967296 t k4 f4 y1 R.out r4 (by omega) (by omega)).mono ?_
  rintro e u2 ⟨rfl, h2, kk⟩
  have X := Lib.hid (X.out.kep HAB.out kk)
  have V := Lib.hid (V.out.kep kk (fun h => HNB.out h.symm))
  have R := Lib.hid h2
  clear h2 kk
  have c0 : u2.cell? ⟨g, 2, none⟩ = some (.int .i64 0) := V.out.cell 2 rfl
  have f0 : u2.frozen? ⟨g, 2, none⟩ = false := V.out.frozen 2
  go_upto_region 7 with fail
  obtain ⟨y2, hw⟩ : ∃ x, u2.setCell ⟨g, 2, none⟩ (.int .i64 t) = x := ⟨_, rfl⟩
  have V := Lib.hid (show Blk y2 g (attC v s t Y0 0).toArray 29 by rw [← hw]; exact V.out.set 2 _)
  have X := Lib.hid (show Bx 29 w y2 a (attC 0 0 0 Y0 0) 0 0 by rw [← hw]; exact X.out.kep (Nat.lt_trans HAB.out HGB.out) (Kep.set_self (Kep.refl _ _) 2 _))
  have R := Lib.hid (show QT y2 b A' n c' zs k4 f4 by rw [← hw]; exact qt_set R.out 2 _ HNB.out HNA.out)
  rw [hw]
  clear c0 f0 hw
  have HBL := Lib.hid (qt_lt R.out)
  go_wp2_with fail
  refine (tHash b A' n c' zs k4 f4 hs k5 f5 y2 R.out r5 (fun h x hx => Nat.lt_trans (HA'.out h x hx) HBL.out)).mono ?_
  rintro e u9 ⟨rfl, h2, kk⟩
  have X := Lib.hid (X.out.kep HAB.out kk)
  have V := Lib.hid (V.out.kep kk (fun h => HNB.out h.symm))
  have R := Lib.hid h2
  clear h2 kk
  obtain ⟨Y, hY⟩ : ∃ Y, Y = hs.map (Value.int .u8) := ⟨_, rfl⟩
  have HYl := Lib.hid (show Y.length = 32 by rw [hY, List.length_map]; exact HL.out)
  have HYs := Lib.hid (show Y.toArray.size = 32 by rw [List.size_toArray]; exact HYl.out)
  have HYo := Lib.hid (all_oneCell_toArray (cs := Y) (by rw [hY]; exact hs_cells hs))
  have HYi := Lib.hid (show (Try.prog.info? 26).map (·.size) = some Y.toArray.size by rw [HYs.out]; exact Cd.info_hash)
  have TH := Lib.hid (show u9.there g 3 Y.toArray.size by rw [HYs.out]; exact V.out.there 3 32 (by rw [List.size_toArray]; simp [attC]))
  have HY := Lib.hid hY
  rw [show Cd.hash hs = .agg Y.toArray by rw [hY]]
  clear hY
  go_upto_region 8 with (refine wpList_store_mid rfl 26 (.tmp 22) (.tmp 21) rfl g 3 Y.toArray rfl rfl TH.out HYi.out HYo.out ?_)
  obtain ⟨y9, hw⟩ : ∃ x, u9.setCells g 3 Y = x := ⟨_, rfl⟩
  have V := Lib.hid (show Blk y9 g (attC v s t hs 0).toArray 29 by
    rw [← hw, HY.out]
    exact Blk.mid (pre := [.int .i64 v, .int .i64 s, .int .i64 t]) (mid := Y0.map (Value.int .u8)) (post := [.int .u64 0]) (vs := hs.map (Value.int .u8)) V.out (by rw [List.length_map, List.length_map, HL.out]; rfl))
  have X := Lib.hid (show Bx 29 w y9 a (attC 0 0 0 Y0 0) 0 0 by rw [← hw]; exact X.out.kep (Nat.lt_trans HAB.out HGB.out) (kep_setCells g Y 3 u9))
  have R := Lib.hid (show QT y9 b A' n c' zs k5 f5 by rw [← hw]; exact qt_row R.out 3 _ HNB.out HNA.out)
  rw [hw]
  clear hw TH HYi HYo HYs HYl HY HBL
  go_wp2_with fail
  refine (tU b A' n c' zs k5 f5 tag k6 f6 y9 R.out r6).mono ?_
  rintro e u10 ⟨rfl, h2, kk⟩
  have X := Lib.hid (X.out.kep HAB.out kk)
  have V := Lib.hid (V.out.kep kk (fun h => HNB.out h.symm))
  have R := Lib.hid h2
  clear h2 kk
  have c0 : u10.cell? ⟨g, 35, none⟩ = some (.int .u64 0) := V.out.cell 35 (by simp [attC, HL.out])
  have f0 : u10.frozen? ⟨g, 35, none⟩ = false := V.out.frozen 35
  go_upto_region 9 with fail
  obtain ⟨y10, hw⟩ : ∃ x, u10.setCell ⟨g, 35, none⟩ (.int .u64 tag) = x := ⟨_, rfl⟩
  have V := Lib.hid (show Blk y10 g (attC v s t hs tag).toArray 29 by rw [← hw, ← att_tag v s t 0 tag hs HL.out]; exact V.out.set 35 _)
  have X := Lib.hid (show Bx 29 w y10 a (attC 0 0 0 Y0 0) 0 0 by rw [← hw]; exact X.out.kep (Nat.lt_trans HAB.out HGB.out) (Kep.set_self (Kep.refl _ _) 35 _))
  have R := Lib.hid (show QT y10 b A' n c' zs k6 f6 by rw [← hw]; exact qt_set R.out 35 _ HNB.out HNA.out)
  rw [hw]
  clear c0 f0 hw
  obtain ⟨D, hD⟩ : ∃ D, D = attC v s t hs tag := ⟨_, rfl⟩
  rw [← hD] at V
  have HD := Lib.hid (show attTl v s t tag hs fe = if fe.1 = 0 then D else attC 0 0 0 Y0 0 by rw [hD]; rfl)
  have HDl := Lib.hid (show D.length = 36 by rw [hD]; simp [attC, HL.out])
  have HDs := Lib.hid (show D.toArray.size = 36 by rw [List.size_toArray]; exact HDl.out)
  have HDo := Lib.hid (all_oneCell_toArray (cs := D) (by rw [hD]; exact att_cells' v s t tag hs))
  have HDi := Lib.hid (show (Try.prog.info? 29).map (·.size) = some D.toArray.size by rw [HDs.out]; exact info_att)
  have DI := Lib.hid (show (Try.prog.info? 29).map (·.size) = some D.length by rw [HDl.out]; exact info_att)
  clear hD
  have EN := Lib.hid (show Calls Try.prog 28 #[.pointer (some ⟨b, 0, none⟩)] y10 fun e w' => e = .returned (fault fe) ∧ Bel y10 w' by rw [HFE.out]; exact tEnd b A' n c' zs k6 f6 y10 R.out)
  obtain ⟨e1, p1⟩ := fe
  have EN := Lib.hid (show Calls Try.prog 28 #[.pointer (some ⟨b, 0, none⟩)] y10 fun e w' => e = .returned (.agg #[.int .i64 e1, .int .i64 p1]) ∧ Bel y10 w' from EN.out)
  go_wp2_with fail
  refine EN.out.mono ?_
  rintro e y11 ⟨rfl, kk⟩
  have X := Lib.hid (X.out.up kk)
  have V := Lib.hid (V.out.bel kk)
  clear kk EN
  obtain ⟨q, hq⟩ : ∃ q, q = (e1 == 0 && p1 == 0) := ⟨_, rfl⟩
  have EFL := Lib.hid (show ∀ W, (binOp .neq 32 (.agg #[.int .i64 e1, .int .i64 p1]) (.agg #[.int .i64 0, .int .i64 0])).run Try.prog W = .ok (.bool (!q)) W from fun W => by rw [hq]; exact neq_fault e1 p1 0 0 W)
  have HQ := Lib.hid (show (q = false ∧ e1 ≠ 0) ∨ (q = true ∧ e1 = 0 ∧ p1 = 0) by
    rcases HF0.out with h | h
    · exact .inl ⟨by rw [hq]; simp; exact fun h2 => absurd h2 h, h⟩
    · injection h with h1 h2
      exact .inr ⟨by rw [hq, h1, h2]; rfl, h1, h2⟩)
  clear hq
  obtain ⟨gf, hgf⟩ : ∃ g, g = y11.heap.size := ⟨_, rfl⟩
  obtain ⟨y12, hy12⟩ : ∃ x, y11.alloc (.cells #[.int .i64 0, .int .i64 0] 32) = x := ⟨_, rfl⟩
  have G := Lib.hid (show Blk y12 gf #[.int .i64 0, .int .i64 0] 32 by rw [← hy12, hgf]; exact Blk.new y11 _ _)
  have c0 : y12.cell? ⟨gf, 0, none⟩ = some (.int .i64 0) := G.out.cell 0 rfl
  have c1 : y12.cell? ⟨gf, 1, none⟩ = some (.int .i64 0) := G.out.cell 1 rfl
  have g0 : y12.frozen? ⟨gf, 0, none⟩ = false := G.out.frozen 0
  have g1 : y12.frozen? ⟨gf, 1, none⟩ = false := G.out.frozen 1
  have HX2 := Lib.hid (X.out.up (show Bel y11 y12 by rw [← hy12]; exact (Bel.refl _).alloc _))
  have HV2 := Lib.hid (V.out.bel (show Bel y11 y12 by rw [← hy12]; exact (Bel.refl _).alloc _))
  have HGG := Lib.hid (show g < gf by have := V.out.lt; omega)
  have HY1 := Lib.hid hy12
  have HGF := Lib.hid hgf
  clear hgf hy12 X V
  go_upto_region 10 with (rw [HY1.out, ← HGF.out])
  obtain ⟨y13, hw⟩ : ∃ x, (y12.setCell ⟨gf, 0, none⟩ (.int .i64 e1)).setCell ⟨gf, 1, none⟩ (.int .i64 p1) = x := ⟨_, rfl⟩
  have G := Lib.hid (show Blk y13 gf #[.int .i64 e1, .int .i64 p1] 32 by rw [← hw]; exact (G.out.set 0 _).set 1 _)
  have kk : Kep (fun i => i = gf) y12 y13 := by rw [← hw]; exact Kep.set_self (Kep.set_self (Kep.refl _ _) 0 _) 1 _
  have X := Lib.hid (HX2.out.kep (Nat.lt_trans (Nat.lt_trans HAB.out HGB.out) HGG.out) kk)
  have V := Lib.hid (HV2.out.kep kk (by have := HGG.out; omega))
  rw [hw]
  clear hw kk HX2 HV2 HY1 HGF c0 c1 g0 g1
  have c0 : y13.cell? ⟨gf, 0, none⟩ = some (.int .i64 e1) := G.out.cell 0 rfl
  have c1 : y13.cell? ⟨gf, 1, none⟩ = some (.int .i64 p1) := G.out.cell 1 rfl
  have ef := EFL.out
  rcases HQ.out with ⟨rfl, h1⟩ | ⟨rfl, h1, h2⟩
  · obtain ⟨Z, hZ⟩ : ∃ Z, Z = attC 0 0 0 Y0 0 := ⟨_, rfl⟩
    have HD2 := Lib.hid (show attTl v s t tag hs (e1, p1) = Z by rw [HD.out, if_neg h1, hZ])
    have HZ := Lib.hid hZ.symm
    have BZ := Lib.hid (show ∀ W, (Instr.build 29 #[]).run Try.prog W = .ok (.agg Z.toArray) W by rw [hZ]; intro W; kernel_rfl)
    have HZl := Lib.hid (show Z.length = 36 by rw [hZ]; rfl)
    have HZs := Lib.hid (show Z.toArray.size = 36 by rw [List.size_toArray]; exact HZl.out)
    have HZo := Lib.hid (all_oneCell_toArray (cs := Z) (by rw [hZ]; exact att_cells' _ _ _ _ _))
    have HZi := Lib.hid (show (Try.prog.info? 29).map (·.size) = some Z.toArray.size by rw [HZs.out]; exact info_att)
    have ZI := Lib.hid (show (Try.prog.info? 29).map (·.size) = some Z.length by rw [HZl.out]; exact info_att)
    rw [← hZ] at X
    clear hZ h1 HF0
    go_upto_region 11 with fail
    clear c0 c1 ef EFL
    obtain ⟨y14, hy14⟩ : ∃ x, y13.drew = x := ⟨_, rfl⟩
    have X := Lib.hid (show Bx 29 w y14 a Z 0 0 by rw [← hy14]; exact X.out.up (Bel.refl _).drew)
    have G := Lib.hid (show Blk y14 gf #[.int .i64 e1, .int .i64 p1] 32 by rw [← hy14]; exact G.out.bel (Bel.refl _).drew)
    have S0d : Blk y13.drew gf #[.int .i64 e1, .int .i64 p1] 32 := by rw [hy14]; exact G.out
    have uF := Try.underlying32
    have iF := info_fault
    refine wp_region_held_drew (S := fun W => Blk W gf #[.int .i64 e1, .int .i64 p1] 32) (by kernel_rfl) S0d (fun hS0 => ?_)
    rw [hy14] at hS0 ⊢
    clear hy14 S0d
    refine wpAnyH_take (i := 0) (oi := { dst := some 31, op := .build 29 #[], type := 29, pos := "ref.go:87", after := #[], guard := none }) (v := .agg Z.toArray) rfl (by kernel_rfl) (by kernel_rfl) (by kernel_rfl) (fun _ _ _ h => h) (Or.inl ⟨by rfl, by intro w h; clear h; go_simp; exact HZ.out⟩) hS0 ?_
    try simp only [Act.put, List.setIfInBounds_toArray, List.set_cons_zero, List.set_cons_succ]
    refine wpAnyH_take (i := 1) (oi := { dst := some 32, op := .load 32 (.tmp 6), type := 32, pos := "ref.go:87", after := #[{ on := 2, ground := .gcOnly .lateStores }], guard := none }) (v := .agg #[.int .i64 e1, .int .i64 p1]) rfl (by kernel_rfl) (by kernel_rfl) (by kernel_rfl) (fun _ _ _ h => h) (yieldsIf_load_mid (by rfl) _ _ rfl _ _ rfl _ _ (fun w h => rngB h) uF rfl iF) hS0 ?_
    try simp only [Act.put, List.setIfInBounds_toArray, List.set_cons_zero, List.set_cons_succ]
    have TH := Lib.hid (show y14.there a 0 Z.toArray.size by rw [HZs.out]; exact X.out.blk.there 0 36 (by rw [HZs.out]; exact Nat.le_refl _))
    refine wpAnyH_ready (rs := [2]) (by kernel_rfl) (by simp) ?_
    refine AllReadyH.cons (o := { dst := none, op := .store 29 (.tmp 2) (.tmp 31), type := 0, pos := "ref.go:87", after := #[{ on := 0, ground := .data }, { on := 0, ground := .phase }, { on := 1, ground := .textOnly .lateStores }], guard := none }) rfl (fun K hK => ?_) AllReadyH.nil
    rw [if_pos (by rfl)]
    refine wp_store_mid 29 (.tmp 2) (.tmp 31) rfl a 0 Z.toArray rfl rfl TH.out HZi.out HZo.out ?_
    obtain ⟨y15, hv2⟩ : ∃ x, y14.setCells a 0 Z.toArray.toList = x := ⟨_, rfl⟩
    have X := Lib.hid (show Bx 29 w y15 a Z 0 0 by rw [← hv2]; exact X.out.whole rfl)
    have G := Lib.hid (show Blk y15 gf #[.int .i64 e1, .int .i64 p1] 32 by rw [← hv2]; exact G.out.kep (kep_setCells a _ 0 y14) (by have := HAB.out; have := HGB.out; have := HGG.out; omega))
    rw [hv2]
    refine hK.out _ _ G.out (fun hS1 => ?_)
    clear hK K hv2 TH
    try simp only [Act.put]
    have c0 : y15.cell? ⟨a + 1, 0, none⟩ = some (.int .i64 0) := X.out.flt.cell 0 rfl
    have c1 : y15.cell? ⟨a + 1, 1, none⟩ = some (.int .i64 0) := X.out.flt.cell 1 rfl
    have g0 : y15.frozen? ⟨a + 1, 0, none⟩ = false := X.out.flt.frozen 0
    have g1 : y15.frozen? ⟨a + 1, 1, none⟩ = false := X.out.flt.frozen 1
    refine wpAnyH_ready (rs := [3]) (by kernel_rfl) (by simp) ?_
    refine AllReadyH.cons (o := { dst := none, op := .store 32 (.tmp 3) (.tmp 32), type := 0, pos := "ref.go:87", after := #[{ on := 1, ground := .data }, { on := 2, ground := .chain }, { on := 0, ground := .phase }, { on := 1, ground := .phase }, { on := 2, ground := .phase }], guard := none }) rfl (fun K hK => ?_) AllReadyH.nil
    go_simp
    refine hK.out _ _ (G.out.kep (S := fun i => i = a + 1) (Kep.set_self (Kep.set_self (Kep.refl _ _) 0 _) 1 _) (by have := HAB.out; have := HGB.out; have := HGG.out; omega)) (fun hS2 => ?_)
    clear hK K
    try simp only [Act.put, List.setIfInBounds_toArray, List.set_cons_zero, List.set_cons_succ]
    have X := Lib.hid (X.out.fault e1 p1)
    clear c0 c1 g0 g1
    refine wpAnyH_done (by kernel_rfl) ?_ _
    go_wp2
    have RR : ((y15.setCell ⟨a + 1, 0, none⟩ (.int .i64 e1)).setCell ⟨a + 1, 1, none⟩ (.int .i64 p1)).rangeAt a 0 Z := rngB X.out.blk
    have iZ := ZI.out
    refine bodyPost_ret (results_cc Try.results7 _ _ ⟨a, 0, none⟩ ⟨a + 1, 0, none⟩ (.agg Z.toArray) (fault (e1, p1)) rfl rfl (run_loadVar_mid (P := Try.prog) _ a 0 29 _ _ RR Try.underlying29 rfl iZ) (load_fault (X.out.flt.cell 0 rfl) (X.out.flt.cell 1 rfl))) rfl ⟨by rw [HD2.out], X.out.bel⟩
  · subst h1 h2
    have HD2 := Lib.hid (show attTl v s t tag hs (0, 0) = D by rw [HD.out]; exact if_pos rfl)
    have RV := Lib.hid (rngB V.out)
    have TH := Lib.hid (show y13.there a 0 D.toArray.size by rw [HDs.out]; exact X.out.blk.there 0 36 (by rw [List.size_toArray]; exact Nat.le_refl _))
    have X2 := Lib.hid (show Bx 29 w (y13.setCells a 0 D) a D 0 0 from X.out.whole (vs := D) (by rw [HDl.out]; rfl))
    have d0 : (y13.setCells a 0 D).cell? ⟨a + 1, 0, none⟩ = some (.int .i64 0) := X2.out.flt.cell 0 rfl
    have d1 : (y13.setCells a 0 D).cell? ⟨a + 1, 1, none⟩ = some (.int .i64 0) := X2.out.flt.cell 1 rfl
    have g0 : (y13.setCells a 0 D).frozen? ⟨a + 1, 0, none⟩ = false := X2.out.flt.frozen 0
    have g1 : (y13.setCells a 0 D).frozen? ⟨a + 1, 1, none⟩ = false := X2.out.flt.frozen 1
    clear HF0 X
    go_wp2_with (first
      | (refine wpList_load_mid rfl 29 (.tmp 5) rfl g 0 rfl D _ RV.out Try.underlying29 rfl DI.out ?_)
      | (refine wpList_store_mid rfl 29 (.tmp 2) (.tmp 33) rfl a 0 D.toArray rfl rfl TH.out HDi.out HDo.out ?_))
    have X := Lib.hid (X2.out.fault 0 0)
    have RR : (((y13.setCells a 0 D).setCell ⟨a + 1, 0, none⟩ (.int .i64 0)).setCell ⟨a + 1, 1, none⟩ (.int .i64 0)).rangeAt a 0 D := rngB X.out.blk
    have iD := DI.out
    refine bodyPost_ret (results_cc Try.results7 _ _ ⟨a, 0, none⟩ ⟨a + 1, 0, none⟩ (.agg D.toArray) (fault (0, 0)) rfl rfl (run_loadVar_mid (P := Try.prog) _ a 0 29 _ _ RR Try.underlying29 rfl iD) (load_fault (X.out.flt.cell 0 rfl) (X.out.flt.cell 1 rfl))) rfl ⟨by rw [HD2.out], X.out.bel⟩

set_option maxRecDepth 100000 in
set_option maxHeartbeats 8000000 in
theorem qreadP (A : Option Addr) (n c : Nat) (zs : List Int) (v s tag : Int) (hs : List Int) (fe : Int × Int) (w : World) (hz : Sl w A n c zs) (hn : n ≤ 1000000) (hb : Bytes zs) (hr : propRd zs v s tag hs fe) (hfe0 : fe.1 ≠ 0 ∨ fe = (0, 0)) :
    Calls Try.prog 9 #[.slice A n c] w fun e w' => e = .returned (.tuple #[.agg (propTl v s tag hs fe).toArray, fault fe]) ∧ Bel w w' := by
  obtain ⟨x1, k1, f1, k2, f2, k3, f3, k4, f4, k5, f5, r1, r2, r3, r4, r5, hfe⟩ := hr
  have HL := Lib.hid (rh_len r4)
  have HFE := Lib.hid hfe
  have HF0 := Lib.hid hfe0
  clear hfe hfe0
  obtain ⟨a, ha⟩ : ∃ a, a = w.heap.size := ⟨_, rfl⟩
  obtain ⟨W1, hW1⟩ : ∃ W, w.alloc Zr35 = W := ⟨_, rfl⟩
  obtain ⟨W, hW⟩ : ∃ W, W1.alloc (.cells #[.int .i64 0, .int .i64 0] 32) = W := ⟨_, rfl⟩
  have z1 : W1.heap.size = w.heap.size + 1 := by rw [← hW1]; simp
  have b1 : Bel w W1 := by rw [← hW1]; exact (Bel.refl w).alloc _
  have b2 : Bel W1 W := by rw [← hW]; exact (Bel.refl W1).alloc _
  have X0 := Lib.hid (show Bx 36 w W a (propC 0 0 Y0 0) 0 0 from
    ⟨(show Blk W1 a (propC 0 0 Y0 0).toArray 36 by rw [← hW1, ha]; exact Blk.new w _ _).bel b2, by rw [← hW, ha, ← z1]; exact Blk.new W1 _ _, b1.trans b2, ha.symm⟩)
  have Z0' := Lib.hid (show W.heap.size = a + 2 by rw [← hW]; simp; omega)
  have HA := Lib.hid ha
  have HW1 := Lib.hid hW1
  have HW := Lib.hid hW
  have NR := Lib.hid (qNew A n c zs W (hz.bel (b1.trans b2)) hn hb)
  clear ha hW1 hW z1 b1 b2 hz hn hb
  go_enter Try.func9, Try.ntmps9
  go_upto_region 1 with fail
  rw [← HA.out, HW1.out, HW.out]
  go_wp2_with fail
  refine NR.out.mono ?_
  rintro e w1 ⟨b, A', c', rfl, hb, hst, hA', k1'⟩
  have HAB := Lib.hid (show a + 1 < b by have := Z0'.out; omega)
  have HA' := Lib.hid (show 0 < n → ∀ x : Addr, A' = some x → x.block < b from fun h x hx => (hA' h x hx).2)
  have X := Lib.hid (X0.out.up k1')
  have R := Lib.hid (show QT w1 b A' n c' zs 0 none from ⟨0, hst, fun _ => rfl⟩)
  have HBL := Lib.hid hst.blk.lt
  clear hb hst hA' k1' NR
  go_wp2_with fail
  refine (tN b A' n c' zs 0 none 2 2 x1 k1 f1 w1 R.out r1 (by omega) (by omega)).mono ?_
  rintro e w2 ⟨rfl, h2, kk⟩
  have X := Lib.hid (X.out.kep HAB.out kk)
  have HBL := Lib.hid (show b < w2.heap.size from Nat.lt_of_lt_of_le HBL.out kk.size)
  have R := Lib.hid h2
  clear h2 kk
  obtain ⟨g, hg⟩ : ∃ g, g = w2.heap.size := ⟨_, rfl⟩
  obtain ⟨v2, hv2⟩ : ∃ x, w2.alloc Zr35 = x := ⟨_, rfl⟩
  have HGB := Lib.hid (show b < g by have := HBL.out; omega)
  have HNB := Lib.hid (show b ≠ g by have := HBL.out; omega)
  have HNA := Lib.hid (show 0 < n → ∀ x : Addr, A' = some x → x.block ≠ g from fun h x hx => by have := HA'.out h x hx; have := HGB.out; omega)
  have V := Lib.hid (show Blk v2 g (propC 0 0 Y0 0).toArray 36 by rw [← hv2, hg]; exact Blk.new w2 _ _)
  have X := Lib.hid (show Bx 36 w v2 a (propC 0 0 Y0 0) 0 0 by rw [← hv2]; exact X.out.up ((Bel.refl _).alloc _))
  have R := Lib.hid (show QT v2 b A' n c' zs k1 f1 by rw [← hv2]; exact R.out.bel ((Bel.refl _).alloc _))
  have HG := Lib.hid hg
  have HV := Lib.hid hv2
  clear hg hv2
  go_upto_region 4 with fail
  rw [← HG.out, HV.out]
  clear HV HG
  go_wp2_with fail
  refine (tN b A' n c' zs k1 f1 0 31 v k2 f2 v2 R.out r2 (by omega) (by omega)).mono ?_
  rintro e u0 ⟨rfl, h2, kk⟩
  have X := Lib.hid (X.out.kep HAB.out kk)
  have V := Lib.hid (V.out.kep kk (fun h => HNB.out h.symm))
  have R := Lib.hid h2
  clear h2 kk
  have c0 : u0.cell? ⟨g, 0, none⟩ = some (.int .i64 0) := V.out.cell 0 rfl
  have f0 : u0.frozen? ⟨g, 0, none⟩ = false := V.out.frozen 0
  go_upto_region 5 with fail
  obtain ⟨y0, hw⟩ : ∃ x, u0.setCell ⟨g, 0, none⟩ (.int .i64 v) = x := ⟨_, rfl⟩
  have V := Lib.hid (show Blk y0 g (propC v 0 Y0 0).toArray 36 by rw [← hw]; exact V.out.set 0 _)
  have X := Lib.hid (show Bx 36 w y0 a (propC 0 0 Y0 0) 0 0 by rw [← hw]; exact X.out.kep (Nat.lt_trans HAB.out HGB.out) (Kep.set_self (Kep.refl _ _) 0 _))
  have R := Lib.hid (show QT y0 b A' n c' zs k2 f2 by rw [← hw]; exact qt_set R.out 0 _ HNB.out HNA.out)
  rw [hw]
  clear c0 f0 hw
  go_wp2_with fail
  refine (tN b A' n c' zs k2 f2 1 4294967296 s k3 f3 y0 R.out r3 (by omega) (by omega)).mono ?_
  rintro e u1 ⟨rfl, h2, kk⟩
  have X := Lib.hid (X.out.kep HAB.out kk)
  have V := Lib.hid (V.out.kep kk (fun h => HNB.out h.symm))
  have R := Lib.hid h2
  clear h2 kk
  have c0 : u1.cell? ⟨g, 1, none⟩ = some (.int .i64 0) := V.out.cell 1 rfl
  have f0 : u1.frozen? ⟨g, 1, none⟩ = false := V.out.frozen 1
  go_upto_region 6 with fail
  obtain ⟨y1, hw⟩ : ∃ x, u1.setCell ⟨g, 1, none⟩ (.int .i64 s) = x := ⟨_, rfl⟩
  have V := Lib.hid (show Blk y1 g (propC v s Y0 0).toArray 36 by rw [← hw]; exact V.out.set 1 _)
  have X := Lib.hid (show Bx 36 w y1 a (propC 0 0 Y0 0) 0 0 by rw [← hw]; exact X.out.kep (Nat.lt_trans HAB.out HGB.out) (Kep.set_self (Kep.refl _ _) 1 _))
  have R := Lib.hid (show QT y1 b A' n c' zs k3 f3 by rw [← hw]; exact qt_set R.out 1 _ HNB.out HNA.out)
  rw [hw]
  clear c0 f0 hw
  have HBL := Lib.hid (qt_lt R.out)
  go_wp2_with fail
  refine (tHash b A' n c' zs k3 f3 hs k4 f4 y1 R.out r4 (fun h x hx => Nat.lt_trans (HA'.out h x hx) HBL.out)).mono ?_
  rintro e u9 ⟨rfl, h2, kk⟩
  have X := Lib.hid (X.out.kep HAB.out kk)
  have V := Lib.hid (V.out.kep kk (fun h => HNB.out h.symm))
  have R := Lib.hid h2
  clear h2 kk
  obtain ⟨Y, hY⟩ : ∃ Y, Y = hs.map (Value.int .u8) := ⟨_, rfl⟩
  have HYl := Lib.hid (show Y.length = 32 by rw [hY, List.length_map]; exact HL.out)
  have HYs := Lib.hid (show Y.toArray.size = 32 by rw [List.size_toArray]; exact HYl.out)
  have HYo := Lib.hid (all_oneCell_toArray (cs := Y) (by rw [hY]; exact hs_cells hs))
  have HYi := Lib.hid (show (Try.prog.info? 26).map (·.size) = some Y.toArray.size by rw [HYs.out]; exact Cd.info_hash)
  have TH := Lib.hid (show u9.there g 2 Y.toArray.size by rw [HYs.out]; exact V.out.there 2 32 (by rw [List.size_toArray]; simp [propC]))
  have HY := Lib.hid hY
  rw [show Cd.hash hs = .agg Y.toArray by rw [hY]]
  clear hY
  go_upto_region 7 with (refine wpList_store_mid rfl 26 (.tmp 19) (.tmp 18) rfl g 2 Y.toArray rfl rfl TH.out HYi.out HYo.out ?_)
  obtain ⟨y9, hw⟩ : ∃ x, u9.setCells g 2 Y = x := ⟨_, rfl⟩
  have V := Lib.hid (show Blk y9 g (propC v s hs 0).toArray 36 by
    rw [← hw, HY.out]
    exact Blk.mid (pre := [.int .i64 v, .int .i64 s]) (mid := Y0.map (Value.int .u8)) (post := [.int .u64 0]) (vs := hs.map (Value.int .u8)) V.out (by rw [List.length_map, List.length_map, HL.out]; rfl))
  have X := Lib.hid (show Bx 36 w y9 a (propC 0 0 Y0 0) 0 0 by rw [← hw]; exact X.out.kep (Nat.lt_trans HAB.out HGB.out) (kep_setCells g Y 2 u9))
  have R := Lib.hid (show QT y9 b A' n c' zs k4 f4 by rw [← hw]; exact qt_row R.out 2 _ HNB.out HNA.out)
  rw [hw]
  clear hw TH HYi HYo HYs HYl HY HBL
  go_wp2_with fail
  refine (tU b A' n c' zs k4 f4 tag k5 f5 y9 R.out r5).mono ?_
  rintro e u10 ⟨rfl, h2, kk⟩
  have X := Lib.hid (X.out.kep HAB.out kk)
  have V := Lib.hid (V.out.kep kk (fun h => HNB.out h.symm))
  have R := Lib.hid h2
  clear h2 kk
  have c0 : u10.cell? ⟨g, 34, none⟩ = some (.int .u64 0) := V.out.cell 34 (by simp [propC, HL.out])
  have f0 : u10.frozen? ⟨g, 34, none⟩ = false := V.out.frozen 34
  go_upto_region 8 with fail
  obtain ⟨y10, hw⟩ : ∃ x, u10.setCell ⟨g, 34, none⟩ (.int .u64 tag) = x := ⟨_, rfl⟩
  have V := Lib.hid (show Blk y10 g (propC v s hs tag).toArray 36 by rw [← hw, ← prop_tag v s 0 tag hs HL.out]; exact V.out.set 34 _)
  have X := Lib.hid (show Bx 36 w y10 a (propC 0 0 Y0 0) 0 0 by rw [← hw]; exact X.out.kep (Nat.lt_trans HAB.out HGB.out) (Kep.set_self (Kep.refl _ _) 34 _))
  have R := Lib.hid (show QT y10 b A' n c' zs k5 f5 by rw [← hw]; exact qt_set R.out 34 _ HNB.out HNA.out)
  rw [hw]
  clear c0 f0 hw
  obtain ⟨D, hD⟩ : ∃ D, D = propC v s hs tag := ⟨_, rfl⟩
  rw [← hD] at V
  have HD := Lib.hid (show propTl v s tag hs fe = if fe.1 = 0 then D else propC 0 0 Y0 0 by rw [hD]; rfl)
  have HDl := Lib.hid (show D.length = 35 by rw [hD]; simp [propC, HL.out])
  have HDs := Lib.hid (show D.toArray.size = 35 by rw [List.size_toArray]; exact HDl.out)
  have HDo := Lib.hid (all_oneCell_toArray (cs := D) (by rw [hD]; exact prop_cells' v s tag hs))
  have HDi := Lib.hid (show (Try.prog.info? 36).map (·.size) = some D.toArray.size by rw [HDs.out]; exact info_prop)
  have DI := Lib.hid (show (Try.prog.info? 36).map (·.size) = some D.length by rw [HDl.out]; exact info_prop)
  clear hD
  have EN := Lib.hid (show Calls Try.prog 28 #[.pointer (some ⟨b, 0, none⟩)] y10 fun e w' => e = .returned (fault fe) ∧ Bel y10 w' by rw [HFE.out]; exact tEnd b A' n c' zs k5 f5 y10 R.out)
  obtain ⟨e1, p1⟩ := fe
  have EN := Lib.hid (show Calls Try.prog 28 #[.pointer (some ⟨b, 0, none⟩)] y10 fun e w' => e = .returned (.agg #[.int .i64 e1, .int .i64 p1]) ∧ Bel y10 w' from EN.out)
  go_wp2_with fail
  refine EN.out.mono ?_
  rintro e y11 ⟨rfl, kk⟩
  have X := Lib.hid (X.out.up kk)
  have V := Lib.hid (V.out.bel kk)
  clear kk EN
  obtain ⟨q, hq⟩ : ∃ q, q = (e1 == 0 && p1 == 0) := ⟨_, rfl⟩
  have EFL := Lib.hid (show ∀ W, (binOp .neq 32 (.agg #[.int .i64 e1, .int .i64 p1]) (.agg #[.int .i64 0, .int .i64 0])).run Try.prog W = .ok (.bool (!q)) W from fun W => by rw [hq]; exact neq_fault e1 p1 0 0 W)
  have HQ := Lib.hid (show (q = false ∧ e1 ≠ 0) ∨ (q = true ∧ e1 = 0 ∧ p1 = 0) by
    rcases HF0.out with h | h
    · exact .inl ⟨by rw [hq]; simp; exact fun h2 => absurd h2 h, h⟩
    · injection h with h1 h2
      exact .inr ⟨by rw [hq, h1, h2]; rfl, h1, h2⟩)
  clear hq
  obtain ⟨gf, hgf⟩ : ∃ g, g = y11.heap.size := ⟨_, rfl⟩
  obtain ⟨y12, hy12⟩ : ∃ x, y11.alloc (.cells #[.int .i64 0, .int .i64 0] 32) = x := ⟨_, rfl⟩
  have G := Lib.hid (show Blk y12 gf #[.int .i64 0, .int .i64 0] 32 by rw [← hy12, hgf]; exact Blk.new y11 _ _)
  have c0 : y12.cell? ⟨gf, 0, none⟩ = some (.int .i64 0) := G.out.cell 0 rfl
  have c1 : y12.cell? ⟨gf, 1, none⟩ = some (.int .i64 0) := G.out.cell 1 rfl
  have g0 : y12.frozen? ⟨gf, 0, none⟩ = false := G.out.frozen 0
  have g1 : y12.frozen? ⟨gf, 1, none⟩ = false := G.out.frozen 1
  have HX2 := Lib.hid (X.out.up (show Bel y11 y12 by rw [← hy12]; exact (Bel.refl _).alloc _))
  have HV2 := Lib.hid (V.out.bel (show Bel y11 y12 by rw [← hy12]; exact (Bel.refl _).alloc _))
  have HGG := Lib.hid (show g < gf by have := V.out.lt; omega)
  have HY1 := Lib.hid hy12
  have HGF := Lib.hid hgf
  clear hgf hy12 X V
  go_upto_region 9 with (rw [HY1.out, ← HGF.out])
  obtain ⟨y13, hw⟩ : ∃ x, (y12.setCell ⟨gf, 0, none⟩ (.int .i64 e1)).setCell ⟨gf, 1, none⟩ (.int .i64 p1) = x := ⟨_, rfl⟩
  have G := Lib.hid (show Blk y13 gf #[.int .i64 e1, .int .i64 p1] 32 by rw [← hw]; exact (G.out.set 0 _).set 1 _)
  have kk : Kep (fun i => i = gf) y12 y13 := by rw [← hw]; exact Kep.set_self (Kep.set_self (Kep.refl _ _) 0 _) 1 _
  have X := Lib.hid (HX2.out.kep (Nat.lt_trans (Nat.lt_trans HAB.out HGB.out) HGG.out) kk)
  have V := Lib.hid (HV2.out.kep kk (by have := HGG.out; omega))
  rw [hw]
  clear hw kk HX2 HV2 HY1 HGF c0 c1 g0 g1
  have c0 : y13.cell? ⟨gf, 0, none⟩ = some (.int .i64 e1) := G.out.cell 0 rfl
  have c1 : y13.cell? ⟨gf, 1, none⟩ = some (.int .i64 p1) := G.out.cell 1 rfl
  have ef := EFL.out
  rcases HQ.out with ⟨rfl, h1⟩ | ⟨rfl, h1, h2⟩
  · obtain ⟨Z, hZ⟩ : ∃ Z, Z = propC 0 0 Y0 0 := ⟨_, rfl⟩
    have HD2 := Lib.hid (show propTl v s tag hs (e1, p1) = Z by rw [HD.out, if_neg h1, hZ])
    have HZ := Lib.hid hZ.symm
    have BZ := Lib.hid (show ∀ W, (Instr.build 36 #[]).run Try.prog W = .ok (.agg Z.toArray) W by rw [hZ]; intro W; kernel_rfl)
    have HZl := Lib.hid (show Z.length = 35 by rw [hZ]; rfl)
    have HZs := Lib.hid (show Z.toArray.size = 35 by rw [List.size_toArray]; exact HZl.out)
    have HZo := Lib.hid (all_oneCell_toArray (cs := Z) (by rw [hZ]; exact prop_cells' _ _ _ _))
    have HZi := Lib.hid (show (Try.prog.info? 36).map (·.size) = some Z.toArray.size by rw [HZs.out]; exact info_prop)
    have ZI := Lib.hid (show (Try.prog.info? 36).map (·.size) = some Z.length by rw [HZl.out]; exact info_prop)
    rw [← hZ] at X
    clear hZ h1 HF0
    go_upto_region 10 with fail
    clear c0 c1 ef EFL
    obtain ⟨y14, hy14⟩ : ∃ x, y13.drew = x := ⟨_, rfl⟩
    have X := Lib.hid (show Bx 36 w y14 a Z 0 0 by rw [← hy14]; exact X.out.up (Bel.refl _).drew)
    have G := Lib.hid (show Blk y14 gf #[.int .i64 e1, .int .i64 p1] 32 by rw [← hy14]; exact G.out.bel (Bel.refl _).drew)
    have S0d : Blk y13.drew gf #[.int .i64 e1, .int .i64 p1] 32 := by rw [hy14]; exact G.out
    have uF := Try.underlying32
    have iF := info_fault
    refine wp_region_held_drew (S := fun W => Blk W gf #[.int .i64 e1, .int .i64 p1] 32) (by kernel_rfl) S0d (fun hS0 => ?_)
    rw [hy14] at hS0 ⊢
    clear hy14 S0d
    refine wpAnyH_take (i := 0) (oi := { dst := some 28, op := .build 36 #[], type := 36, pos := "ref.go:101", after := #[], guard := none }) (v := .agg Z.toArray) rfl (by kernel_rfl) (by kernel_rfl) (by kernel_rfl) (fun _ _ _ h => h) (Or.inl ⟨by rfl, by intro w h; clear h; go_simp; exact HZ.out⟩) hS0 ?_
    try simp only [Act.put, List.setIfInBounds_toArray, List.set_cons_zero, List.set_cons_succ]
    refine wpAnyH_take (i := 1) (oi := { dst := some 29, op := .load 32 (.tmp 6), type := 32, pos := "ref.go:101", after := #[{ on := 2, ground := .gcOnly .lateStores }], guard := none }) (v := .agg #[.int .i64 e1, .int .i64 p1]) rfl (by kernel_rfl) (by kernel_rfl) (by kernel_rfl) (fun _ _ _ h => h) (yieldsIf_load_mid (by rfl) _ _ rfl _ _ rfl _ _ (fun w h => rngB h) uF rfl iF) hS0 ?_
    try simp only [Act.put, List.setIfInBounds_toArray, List.set_cons_zero, List.set_cons_succ]
    have TH := Lib.hid (show y14.there a 0 Z.toArray.size by rw [HZs.out]; exact X.out.blk.there 0 35 (by rw [HZs.out]; exact Nat.le_refl _))
    refine wpAnyH_ready (rs := [2]) (by kernel_rfl) (by simp) ?_
    refine AllReadyH.cons (o := { dst := none, op := .store 36 (.tmp 2) (.tmp 28), type := 0, pos := "ref.go:101", after := #[{ on := 0, ground := .data }, { on := 0, ground := .phase }, { on := 1, ground := .textOnly .lateStores }], guard := none }) rfl (fun K hK => ?_) AllReadyH.nil
    rw [if_pos (by rfl)]
    refine wp_store_mid 36 (.tmp 2) (.tmp 28) rfl a 0 Z.toArray rfl rfl TH.out HZi.out HZo.out ?_
    obtain ⟨y15, hv2⟩ : ∃ x, y14.setCells a 0 Z.toArray.toList = x := ⟨_, rfl⟩
    have X := Lib.hid (show Bx 36 w y15 a Z 0 0 by rw [← hv2]; exact X.out.whole rfl)
    have G := Lib.hid (show Blk y15 gf #[.int .i64 e1, .int .i64 p1] 32 by rw [← hv2]; exact G.out.kep (kep_setCells a _ 0 y14) (by have := HAB.out; have := HGB.out; have := HGG.out; omega))
    rw [hv2]
    refine hK.out _ _ G.out (fun hS1 => ?_)
    clear hK K hv2 TH
    try simp only [Act.put]
    have c0 : y15.cell? ⟨a + 1, 0, none⟩ = some (.int .i64 0) := X.out.flt.cell 0 rfl
    have c1 : y15.cell? ⟨a + 1, 1, none⟩ = some (.int .i64 0) := X.out.flt.cell 1 rfl
    have g0 : y15.frozen? ⟨a + 1, 0, none⟩ = false := X.out.flt.frozen 0
    have g1 : y15.frozen? ⟨a + 1, 1, none⟩ = false := X.out.flt.frozen 1
    refine wpAnyH_ready (rs := [3]) (by kernel_rfl) (by simp) ?_
    refine AllReadyH.cons (o := { dst := none, op := .store 32 (.tmp 3) (.tmp 29), type := 0, pos := "ref.go:101", after := #[{ on := 1, ground := .data }, { on := 2, ground := .chain }, { on := 0, ground := .phase }, { on := 1, ground := .phase }, { on := 2, ground := .phase }], guard := none }) rfl (fun K hK => ?_) AllReadyH.nil
    go_simp
    refine hK.out _ _ (G.out.kep (S := fun i => i = a + 1) (Kep.set_self (Kep.set_self (Kep.refl _ _) 0 _) 1 _) (by have := HAB.out; have := HGB.out; have := HGG.out; omega)) (fun hS2 => ?_)
    clear hK K
    try simp only [Act.put, List.setIfInBounds_toArray, List.set_cons_zero, List.set_cons_succ]
    have X := Lib.hid (X.out.fault e1 p1)
    clear c0 c1 g0 g1
    refine wpAnyH_done (by kernel_rfl) ?_ _
    go_wp2
    have RR : ((y15.setCell ⟨a + 1, 0, none⟩ (.int .i64 e1)).setCell ⟨a + 1, 1, none⟩ (.int .i64 p1)).rangeAt a 0 Z := rngB X.out.blk
    have iZ := ZI.out
    refine bodyPost_ret (results_cc Try.results9 _ _ ⟨a, 0, none⟩ ⟨a + 1, 0, none⟩ (.agg Z.toArray) (fault (e1, p1)) rfl rfl (run_loadVar_mid (P := Try.prog) _ a 0 36 _ _ RR Try.underlying36 rfl iZ) (load_fault (X.out.flt.cell 0 rfl) (X.out.flt.cell 1 rfl))) rfl ⟨by rw [HD2.out], X.out.bel⟩
  · subst h1 h2
    have HD2 := Lib.hid (show propTl v s tag hs (0, 0) = D by rw [HD.out]; exact if_pos rfl)
    have RV := Lib.hid (rngB V.out)
    have TH := Lib.hid (show y13.there a 0 D.toArray.size by rw [HDs.out]; exact X.out.blk.there 0 35 (by rw [List.size_toArray]; exact Nat.le_refl _))
    have X2 := Lib.hid (show Bx 36 w (y13.setCells a 0 D) a D 0 0 from X.out.whole (vs := D) (by rw [HDl.out]; rfl))
    have d0 : (y13.setCells a 0 D).cell? ⟨a + 1, 0, none⟩ = some (.int .i64 0) := X2.out.flt.cell 0 rfl
    have d1 : (y13.setCells a 0 D).cell? ⟨a + 1, 1, none⟩ = some (.int .i64 0) := X2.out.flt.cell 1 rfl
    have g0 : (y13.setCells a 0 D).frozen? ⟨a + 1, 0, none⟩ = false := X2.out.flt.frozen 0
    have g1 : (y13.setCells a 0 D).frozen? ⟨a + 1, 1, none⟩ = false := X2.out.flt.frozen 1
    clear HF0 X
    go_wp2_with (first
      | (refine wpList_load_mid rfl 36 (.tmp 5) rfl g 0 rfl D _ RV.out Try.underlying36 rfl DI.out ?_)
      | (refine wpList_store_mid rfl 36 (.tmp 2) (.tmp 30) rfl a 0 D.toArray rfl rfl TH.out HDi.out HDo.out ?_))
    have X := Lib.hid (X2.out.fault 0 0)
    have RR : (((y13.setCells a 0 D).setCell ⟨a + 1, 0, none⟩ (.int .i64 0)).setCell ⟨a + 1, 1, none⟩ (.int .i64 0)).rangeAt a 0 D := rngB X.out.blk
    have iD := DI.out
    refine bodyPost_ret (results_cc Try.results9 _ _ ⟨a, 0, none⟩ ⟨a + 1, 0, none⟩ (.agg D.toArray) (fault (0, 0)) rfl rfl (run_loadVar_mid (P := Try.prog) _ a 0 36 _ _ RR Try.underlying36 rfl iD) (load_fault (X.out.flt.cell 0 rfl) (X.out.flt.cell 1 rfl))) rfl ⟨by rw [HD2.out], X.out.bel⟩
end Vt
end Go.Proofs.Ytgalhpejihmhkaa
end

section
/-
  What is read as a vote of any bytes: what they say, or a fault; and that what is read of a vote's own bytes is the vote. No program, no condition.
-/
namespace Go.Proofs.Ytgalhpejihmhkaa
open Go.RowKit Go.Shelf
set_option linter.unusedVariables false
namespace Vt
open Cd

/-- N reads some number of any bytes. -/
theorem rn_of (zs : List Int) (hb : Bytes zs) (k : Nat) (hk : k ≤ zs.length) (least most : Int) : ∃ x k' f', RN zs k none least most x k' f' ∧ k' ≤ zs.length ∧ ((f' = none ∧ least ≤ x ∧ x ≤ most ∧ zs.take k ++ enc x = zs.take k') ∨ (∃ e, e ≠ 0 ∧ f' = some (e, (k : Int)) ∧ k' = k ∧ x = 0)) := by
  obtain ⟨x, k', f', hr, h0, h1, ho⟩ := ru_of zs hb k hk
  rcases hr with ⟨p, h, _⟩ | ⟨_, tl, e, bad, hw, hm, hle, hx⟩
  · cases h
  rcases hm with ⟨rfl, hk', rfl⟩ | ⟨he, rfl, rfl⟩
  · rcases ho with ⟨_, h2, h3⟩ | ⟨_, _, h2, _⟩
    · by_cases hb1 : least ≤ x ∧ x ≤ most
      · exact ⟨x, k', none, .inr ⟨rfl, tl, 0, 0, ⟨x, tl, 0, bad, hw, h0, h1, .inr (.inr ⟨rfl, hb1.1, hb1.2, rfl, rfl, rfl, rfl⟩)⟩, .inl ⟨rfl, hk', rfl⟩, hle, fun h => absurd rfl h⟩, hle, .inl ⟨rfl, hb1.1, hb1.2, h3⟩⟩
      · refine ⟨0, k, some (3, (k : Int)), .inr ⟨rfl, 0, 3, (k : Int), ⟨x, tl, 0, bad, hw, h0, h1, .inr (.inl ⟨rfl, by omega, rfl, rfl, rfl, rfl⟩)⟩, .inr ⟨by decide, rfl, rfl⟩, hk, fun _ => rfl⟩, hk, .inr ⟨3, by decide, rfl, rfl, rfl⟩⟩
    · cases h2
  · have hx0 : x = 0 := hx he
    subst hx0
    rcases ho with ⟨h2, _⟩ | ⟨e', he', h2, _⟩
    · cases h2
    · injection h2 with h2
      injection h2 with h2 h3
      subst h2
      subst h3
      exact ⟨0, k', some (e, (k' : Int)), .inr ⟨rfl, 0, e, (k' : Int), ⟨0, tl, e, (k' : Int), hw, by decide, by decide, .inl ⟨he, rfl, rfl, rfl, rfl⟩⟩, .inr ⟨he, rfl, rfl⟩, hk, fun _ => rfl⟩, hk, .inr ⟨e, he, rfl, rfl, rfl⟩⟩
theorem n_fault {zs : List Int} {k : Nat} {p : Int × Int} : ∀ least most : Int, RN zs k (some p) least most 0 k (some p) := fun _ _ => rn_f
/-- What any bytes are read as: a fault, or a vote whose bytes they are. -/
theorem att_ex (zs : List Int) (hb : Bytes zs) : ∃ v s t tag hs fe, attRd zs v s t tag hs fe ∧ (fe.1 ≠ 0 ∨ (fe = (0, 0) ∧ (0 ≤ v ∧ v ≤ 31) ∧ (0 ≤ s ∧ s ≤ 4294967296) ∧ (0 ≤ t ∧ t ≤ 4294967296) ∧ (0 ≤ tag ∧ tag ≤ 18446744073709551615) ∧ hs.length = 32 ∧ zs = enc 1 ++ enc v ++ enc s ++ enc t ++ hs ++ enc tag)) := by
  obtain ⟨x1, k1, f1, r1, l1, ⟨rfl, a1, a2, e1⟩ | ⟨e, he, rfl, rfl, rfl⟩⟩ := rn_of zs hb 0 (Nat.zero_le _) 1 1
  case inr => exact ⟨0, 0, 0, 0, Y0, (e, 0), ⟨0, 0, _, 0, _, 0, _, 0, _, 0, _, 0, _, r1, rn_f, rn_f, rn_f, rh_f, ru_f, rfl⟩, .inl he⟩
  obtain ⟨v, k2, f2, r2, l2, ⟨rfl, b1, b2, e2⟩ | ⟨e, he, rfl, rfl, rfl⟩⟩ := rn_of zs hb k1 l1 0 31
  case inr => exact ⟨0, 0, 0, 0, Y0, (e, (k2 : Int)), ⟨x1, k2, _, k2, _, k2, _, k2, _, k2, _, k2, _, r1, r2, rn_f, rn_f, rh_f, ru_f, rfl⟩, .inl he⟩
  obtain ⟨s, k3, f3, r3, l3, ⟨rfl, c1, c2, e3⟩ | ⟨e, he, rfl, rfl, rfl⟩⟩ := rn_of zs hb k2 l2 0 4294967296
  case inr => exact ⟨v, 0, 0, 0, Y0, (e, (k3 : Int)), ⟨x1, k1, _, k3, _, k3, _, k3, _, k3, _, k3, _, r1, r2, r3, rn_f, rh_f, ru_f, rfl⟩, .inl he⟩
  obtain ⟨t, k4, f4, r4, l4, ⟨rfl, d1, d2, e4⟩ | ⟨e, he, rfl, rfl, rfl⟩⟩ := rn_of zs hb k3 l3 0 4294967296
  case inr => exact ⟨v, s, 0, 0, Y0, (e, (k4 : Int)), ⟨x1, k1, _, k2, _, k4, _, k4, _, k4, _, k4, _, r1, r2, r3, r4, rh_f, ru_f, rfl⟩, .inl he⟩
  obtain ⟨hs, k5, f5, r5, g1, ⟨rfl, l5, e5⟩ | ⟨e, he, rfl, rfl⟩⟩ := rh_of zs k4 l4
  case inr => exact ⟨v, s, t, 0, hs, (e, (k5 : Int)), ⟨x1, k1, _, k2, _, k3, _, k5, _, k5, _, k5, _, r1, r2, r3, r4, r5, ru_f, rfl⟩, .inl he⟩
  obtain ⟨tag, k6, f6, r6, h0, h1, ⟨rfl, l6, e6⟩ | ⟨e, he, rfl, rfl⟩⟩ := ru_of zs hb k5 l5
  case inr => exact ⟨v, s, t, tag, hs, (e, (k6 : Int)), ⟨x1, k1, _, k2, _, k3, _, k4, _, k6, _, k6, _, r1, r2, r3, r4, r5, r6, rfl⟩, .inl he⟩
  refine ⟨v, s, t, tag, hs, _, ⟨x1, k1, _, k2, _, k3, _, k4, _, k5, _, k6, _, r1, r2, r3, r4, r5, r6, rfl⟩, ?_⟩
  unfold endOf
  by_cases hk : k6 < zs.length
  · exact .inl (by simp [hk])
  · refine .inr ⟨by simp [hk], ⟨b1, b2⟩, ⟨c1, c2⟩, ⟨d1, d2⟩, ⟨h0, h1⟩, g1, ?_⟩
    obtain rfl : x1 = 1 := by omega
    have e7 : zs.take k6 = zs := List.take_of_length_le (by omega)
    rw [← e7, ← e6, ← e5, ← e4, ← e3, ← e2, ← e1]
    simp
/-- How a number's bytes look, wherever they stand. -/
theorem encN_shape (f : Nat) : ∀ n, 0 ≤ n → n < top f → ∃ j, j ≤ f ∧ (encN f n).length = j + 1 ∧ (∀ i, i < j → 128 ≤ (encN f n).getD i 0) ∧ (encN f n).getD j 0 < 128 ∧ (0 < j → 0 < (encN f n).getD j 0) ∧ (j = f → (encN f n).getD j 0 < 2 ∨ f = 0) ∧ (f = 0 → (encN f n).getD j 0 < 2) ∧
    ∀ (zs : List Int) (k : Nat), (∀ i, i ≤ j → zs.getD (k + i) 0 = (encN f n).getD i 0) → val zs k (j + 1) = n := by
  induction f with
  | zero =>
    intro n h0 h1
    have ht : top 0 = 2 := rfl
    refine ⟨0, Nat.le_refl _, rfl, fun i hi => absurd hi (by omega), ?_, fun h => absurd h (by omega), fun _ => .inr rfl, fun _ => ?_, fun zs k h => ?_⟩
    · show n < 128; omega
    · show n < 2; omega
    · exact val_one zs k (h 0 (Nat.le_refl _)) h0 (by omega)
  | succ f ih =>
    intro n h0 h1
    have ht : top (f + 1) = 128 * top f := rfl
    rcases Int.lt_or_le n 128 with h | h
    · rw [encN_small _ h]
      refine ⟨0, Nat.zero_le _, rfl, fun i hi => absurd hi (by omega), h, fun h => absurd h (by omega), fun h => absurd h (by omega), fun h => absurd h (by omega), fun zs k hz => ?_⟩
      exact val_one zs k (hz 0 (Nat.le_refl _)) h0 h
    · rw [encN_great _ h]
      obtain ⟨j, h2, h3, h4, h5, h6, h7, h8, h9⟩ := ih (n / 128) (by omega) (by omega)
      have hd : ∀ i, ((n % 128 + 128) :: encN f (n / 128)).getD (i + 1) 0 = (encN f (n / 128)).getD i 0 := fun i => by simp
      refine ⟨j + 1, by omega, by rw [List.length_cons, h3], fun i hi => ?_, by rw [hd]; exact h5, fun _ => ?_, fun hj => .inl ?_, fun h => absurd h (by omega), fun zs k hz => ?_⟩
      · match i, hi with
        | 0, _ => show (128 : Int) ≤ n % 128 + 128; omega
        | i + 1, hi => rw [hd]; exact h4 i (by omega)
      · rw [hd]
        rcases Nat.eq_zero_or_pos j with rfl | hp
        · have hl : encN f (n / 128) = [n / 128] := by
            rcases Int.lt_or_le (n / 128) 128 with h' | h'
            · exact encN_small _ h'
            · exfalso
              cases f with
              | zero => have : top 0 = 2 := rfl; omega
              | succ f =>
                rw [encN_great _ h', List.length_cons] at h3
                have := (encN_len f (n / 128 / 128)).1
                omega
          rw [hl]
          show 0 < n / 128
          omega
        · exact h6 hp
      · rw [hd]
        rcases h7 (by omega) with h | h
        · exact h
        · exact h8 h
      · have hz0 : zs.getD k 0 = n % 128 + 128 := hz 0 (Nat.zero_le _)
        rw [val_front, hz0, h9 zs (k + 1) (fun i hi => by
          have := hz (i + 1) (by omega)
          rw [hd] at this
          rw [← this, Nat.add_assoc, Nat.add_comm 1 i])]
        show (n % 128 + 128) % 128 + 128 * (n / 128) = n
        omega
/-- A number's bytes are read as it. -/
theorem way_enc (pre post : List Int) (x : Int) (h0 : 0 ≤ x) (h1 : x ≤ 18446744073709551615) : Cd.Way (pre ++ enc x ++ post) pre.length x ((pre.length + (enc x).length : Nat) : Int) 0 0 := by
  obtain ⟨j, a1, a2, a3, a4, a5, a6, a7, a8⟩ := encN_shape 9 x h0 (by rw [top9]; omega)
  have hg : ∀ i, i ≤ j → (pre ++ enc x ++ post).getD (pre.length + i) 0 = (encN 9 x).getD i 0 := fun i hi => by
    have hl : i < (enc x).length := by show i < (encN 9 x).length; omega
    rw [List.getD_eq_getElem?_getD, List.getD_eq_getElem?_getD, List.append_assoc, List.getElem?_append_right (by omega), Nat.add_sub_cancel_left, List.getElem?_append_left hl]
    rfl
  have hlen : (enc x).length = j + 1 := a2
  refine .inr (.inr ⟨pre.length, j, rfl, by omega, by simp; omega, fun i hi => by rw [hg i (by omega)]; exact a3 i hi, by rw [hg j (Nat.le_refl _)]; exact a4, fun h => by rw [hg j (Nat.le_refl _)]; exact a5 h, fun h => ?_, (a8 _ _ hg).symm, by rw [hlen]; push_cast; omega, rfl, rfl⟩)
  rw [hg j (Nat.le_refl _)]
  have := a5 (by omega)
  rcases a6 (by omega) with h | h
  · omega
  · omega
theorem rn_enc (pre post : List Int) (x least most : Int) (h0 : 0 ≤ x) (h1 : x ≤ 18446744073709551615) (hl : least ≤ x) (hm : x ≤ most) : RN (pre ++ enc x ++ post) pre.length none least most x (pre.length + (enc x).length) none :=
  .inr ⟨rfl, _, 0, 0, ⟨x, _, 0, 0, way_enc pre post x h0 h1, h0, h1, .inr (.inr ⟨rfl, hl, hm, rfl, rfl, rfl, rfl⟩)⟩, .inl ⟨rfl, rfl, rfl⟩, by simp, fun h => absurd rfl h⟩
theorem rn_enc_no (pre post : List Int) (x least most : Int) (h0 : 0 ≤ x) (h1 : x ≤ 18446744073709551615) (hb : x < least ∨ most < x) : RN (pre ++ enc x ++ post) pre.length none least most 0 pre.length (some (3, (pre.length : Int))) :=
  .inr ⟨rfl, 0, 3, _, ⟨x, _, 0, 0, way_enc pre post x h0 h1, h0, h1, .inr (.inl ⟨rfl, hb, rfl, rfl, rfl, rfl⟩)⟩, .inr ⟨by decide, rfl, rfl⟩, by simp, fun _ => rfl⟩
theorem ru_enc (pre post : List Int) (x : Int) (h0 : 0 ≤ x) (h1 : x ≤ 18446744073709551615) : RU (pre ++ enc x ++ post) pre.length none x (pre.length + (enc x).length) none :=
  .inr ⟨rfl, _, 0, 0, way_enc pre post x h0 h1, .inl ⟨rfl, rfl, rfl⟩, by simp, fun h => absurd rfl h⟩
theorem rh_mid (pre post hs : List Int) (h : hs.length = 32) : RH (pre ++ hs ++ post) pre.length none hs (pre.length + 32) none :=
  .inr ⟨rfl, .inl ⟨by simp; omega, by rw [List.append_assoc, List.drop_left, List.take_append_of_le_length (by omega), List.take_of_length_le (by omega)], rfl, rfl⟩⟩
/-- A vote's own bytes are read as the vote. -/
theorem att_own (v s t tag : Int) (hs : List Int) (b1 : 0 ≤ v ∧ v ≤ 31) (b2 : 0 ≤ s ∧ s ≤ 4294967296) (b3 : 0 ≤ t ∧ t ≤ 4294967296) (bt : 0 ≤ tag ∧ tag ≤ 18446744073709551615) (h32 : hs.length = 32) : attRd (enc 1 ++ enc v ++ enc s ++ enc t ++ hs ++ enc tag) v s t tag hs (0, 0) := by
  have r1 := rn_enc [] (enc v ++ enc s ++ enc t ++ hs ++ enc tag) 1 1 1 (by decide) (by decide) (by decide) (by decide)
  have r2 := rn_enc (enc 1) (enc s ++ enc t ++ hs ++ enc tag) v 0 31 b1.1 (by omega) b1.1 b1.2
  have r3 := rn_enc (enc 1 ++ enc v) (enc t ++ hs ++ enc tag) s 0 4294967296 b2.1 (by omega) b2.1 b2.2
  have r4 := rn_enc (enc 1 ++ enc v ++ enc s) (hs ++ enc tag) t 0 4294967296 b3.1 (by omega) b3.1 b3.2
  have r5 := rh_mid (enc 1 ++ enc v ++ enc s ++ enc t) (enc tag) hs h32
  have r6 := ru_enc (enc 1 ++ enc v ++ enc s ++ enc t ++ hs) [] tag bt.1 bt.2
  refine ⟨1, (enc 1).length, none, (enc 1 ++ enc v).length, none, (enc 1 ++ enc v ++ enc s).length, none, (enc 1 ++ enc v ++ enc s ++ enc t).length, none, (enc 1 ++ enc v ++ enc s ++ enc t ++ hs).length, none, (enc 1 ++ enc v ++ enc s ++ enc t ++ hs ++ enc tag).length, none, ?_, ?_, ?_, ?_, ?_, ?_, ?_⟩
  · simpa only [List.nil_append, List.length_nil, Nat.zero_add, List.append_assoc, List.length_append, Nat.add_assoc, h32] using r1
  · simpa only [List.append_assoc, List.length_append, Nat.add_assoc, h32] using r2
  · simpa only [List.append_assoc, List.length_append, Nat.add_assoc, h32] using r3
  · simpa only [List.append_assoc, List.length_append, Nat.add_assoc, h32] using r4
  · simpa only [List.append_assoc, List.length_append, Nat.add_assoc, h32] using r5
  · simpa only [List.append_nil, List.append_assoc, List.length_append, Nat.add_assoc, h32] using r6
  · unfold endOf
    simp [h32]
theorem prop_ex (zs : List Int) (hb : Bytes zs) : ∃ v s tag hs fe, propRd zs v s tag hs fe ∧ (fe.1 ≠ 0 ∨ (fe = (0, 0) ∧ (0 ≤ v ∧ v ≤ 31) ∧ (1 ≤ s ∧ s ≤ 4294967296) ∧ (0 ≤ tag ∧ tag ≤ 18446744073709551615) ∧ hs.length = 32 ∧ zs = enc 2 ++ enc v ++ enc s ++ hs ++ enc tag)) := by
  obtain ⟨x1, k1, f1, r1, l1, ⟨rfl, a1, a2, e1⟩ | ⟨e, he, rfl, rfl, rfl⟩⟩ := rn_of zs hb 0 (Nat.zero_le _) 2 2
  case inr => exact ⟨0, 0, 0, Y0, (e, 0), ⟨0, 0, _, 0, _, 0, _, 0, _, 0, _, r1, rn_f, rn_f, rh_f, ru_f, rfl⟩, .inl he⟩
  obtain ⟨v, k2, f2, r2, l2, ⟨rfl, b1, b2, e2⟩ | ⟨e, he, rfl, rfl, rfl⟩⟩ := rn_of zs hb k1 l1 0 31
  case inr => exact ⟨0, 0, 0, Y0, (e, (k2 : Int)), ⟨x1, k2, _, k2, _, k2, _, k2, _, k2, _, r1, r2, rn_f, rh_f, ru_f, rfl⟩, .inl he⟩
  obtain ⟨s, k3, f3, r3, l3, ⟨rfl, c1, c2, e3⟩ | ⟨e, he, rfl, rfl, rfl⟩⟩ := rn_of zs hb k2 l2 1 4294967296
  case inr => exact ⟨v, 0, 0, Y0, (e, (k3 : Int)), ⟨x1, k1, _, k3, _, k3, _, k3, _, k3, _, r1, r2, r3, rh_f, ru_f, rfl⟩, .inl he⟩
  obtain ⟨hs, k5, f5, r5, g1, ⟨rfl, l5, e5⟩ | ⟨e, he, rfl, rfl⟩⟩ := rh_of zs k3 l3
  case inr => exact ⟨v, s, 0, hs, (e, (k5 : Int)), ⟨x1, k1, _, k2, _, k5, _, k5, _, k5, _, r1, r2, r3, r5, ru_f, rfl⟩, .inl he⟩
  obtain ⟨tag, k6, f6, r6, h0, h1, ⟨rfl, l6, e6⟩ | ⟨e, he, rfl, rfl⟩⟩ := ru_of zs hb k5 l5
  case inr => exact ⟨v, s, tag, hs, (e, (k6 : Int)), ⟨x1, k1, _, k2, _, k3, _, k6, _, k6, _, r1, r2, r3, r5, r6, rfl⟩, .inl he⟩
  refine ⟨v, s, tag, hs, _, ⟨x1, k1, _, k2, _, k3, _, k5, _, k6, _, r1, r2, r3, r5, r6, rfl⟩, ?_⟩
  unfold endOf
  by_cases hk : k6 < zs.length
  · exact .inl (by simp [hk])
  · refine .inr ⟨by simp [hk], ⟨b1, b2⟩, ⟨c1, c2⟩, ⟨h0, h1⟩, g1, ?_⟩
    obtain rfl : x1 = 2 := by omega
    have e7 : zs.take k6 = zs := List.take_of_length_le (by omega)
    rw [← e7, ← e6, ← e5, ← e3, ← e2, ← e1]
    simp
/-- A block vote's own bytes are read as it. -/
theorem prop_own (v s tag : Int) (hs : List Int) (b1 : 0 ≤ v ∧ v ≤ 31) (b2 : 1 ≤ s ∧ s ≤ 4294967296) (bt : 0 ≤ tag ∧ tag ≤ 18446744073709551615) (h32 : hs.length = 32) : propRd (enc 2 ++ enc v ++ enc s ++ hs ++ enc tag) v s tag hs (0, 0) := by
  have r1 := rn_enc [] (enc v ++ enc s ++ hs ++ enc tag) 2 2 2 (by decide) (by decide) (by decide) (by decide)
  have r2 := rn_enc (enc 2) (enc s ++ hs ++ enc tag) v 0 31 b1.1 (by omega) b1.1 b1.2
  have r3 := rn_enc (enc 2 ++ enc v) (hs ++ enc tag) s 1 4294967296 (by omega) (by omega) b2.1 b2.2
  have r5 := rh_mid (enc 2 ++ enc v ++ enc s) (enc tag) hs h32
  have r6 := ru_enc (enc 2 ++ enc v ++ enc s ++ hs) [] tag bt.1 bt.2
  refine ⟨2, (enc 2).length, none, (enc 2 ++ enc v).length, none, (enc 2 ++ enc v ++ enc s).length, none, (enc 2 ++ enc v ++ enc s ++ hs).length, none, (enc 2 ++ enc v ++ enc s ++ hs ++ enc tag).length, none, ?_, ?_, ?_, ?_, ?_, ?_⟩
  · simpa only [List.nil_append, List.length_nil, Nat.zero_add, List.append_assoc, List.length_append, Nat.add_assoc, h32] using r1
  · simpa only [List.append_assoc, List.length_append, Nat.add_assoc, h32] using r2
  · simpa only [List.append_assoc, List.length_append, Nat.add_assoc, h32] using r3
  · simpa only [List.append_assoc, List.length_append, Nat.add_assoc, h32] using r5
  · simpa only [List.append_nil, List.append_assoc, List.length_append, Nat.add_assoc, h32] using r6
  · unfold endOf
    simp [h32]
/-- Bytes of one kind are no bytes of the other. -/
theorem prop_other (post : List Int) : propRd (enc 1 ++ post) 0 0 0 Y0 (3, 0) :=
  ⟨0, 0, some (3, 0), 0, some (3, 0), 0, some (3, 0), 0, some (3, 0), 0, some (3, 0), rn_enc_no [] post 1 2 2 (by decide) (by decide) (.inl (by decide)), rn_f, rn_f, rh_f, ru_f, rfl⟩
theorem att_other (post : List Int) : attRd (enc 2 ++ post) 0 0 0 0 Y0 (3, 0) :=
  ⟨0, 0, some (3, 0), 0, some (3, 0), 0, some (3, 0), 0, some (3, 0), 0, some (3, 0), 0, some (3, 0), rn_enc_no [] post 2 1 1 (by decide) (by decide) (.inr (by decide)), rn_f, rn_f, rn_f, rh_f, ru_f, rfl⟩
end Vt
end Go.Proofs.Ytgalhpejihmhkaa
end

section
/-
  Two known votes have unlike hashes. No program, no condition.
-/
namespace Go.Proofs.Ytgalhpejihmhkaa
set_option linter.unusedVariables false
namespace Kk

theorem pu0 : round [0x3020101#64, 0x0#64, 0x0#64, 0x0#64, 0x600000000#64, 0x0#64, 0x0#64, 0x0#64, 0x0#64, 0x0#64, 0x0#64, 0x0#64, 0x0#64, 0x0#64, 0x0#64, 0x0#64, 0x8000000000000000#64, 0x0#64, 0x0#64, 0x0#64, 0x0#64, 0x0#64, 0x0#64, 0x0#64, 0x0#64] 0x1#64 = [0x40603020101#64, 0x2190100000000030#64, 0x58100808000#64, 0x180000603020100#64, 0x2010118100808030#64, 0xc000003000000008#64, 0x4020504020200060#64, 0x1000003000000008#64, 0x8020300000000060#64, 0x1000604020200000#64, 0x1800000006040202#64, 0x604020220#64, 0x1818000000040000#64, 0x602020002#64, 0x18000000040020#64, 0x3030201c18040400#64, 0x1000004060#64, 0xc04040400#64, 0x3030201010004000#64, 0xc000060#64, 0x2201010000000003#64, 0x20006000c00#64, 0x20101000c080007#64, 0x2000020000000c00#64, 0xa080404#64] := by decide +kernel
theorem pu1 : round [0x40603020101#64, 0x2190100000000030#64, 0x58100808000#64, 0x180000603020100#64, 0x2010118100808030#64, 0xc000003000000008#64, 0x4020504020200060#64, 0x1000003000000008#64, 0x8020300000000060#64, 0x1000604020200000#64, 0x1800000006040202#64, 0x604020220#64, 0x1818000000040000#64, 0x602020002#64, 0x18000000040020#64, 0x3030201c18040400#64, 0x1000004060#64, 0xc04040400#64, 0x3030201010004000#64, 0xc000060#64, 0x2201010000000003#64, 0x20006000c00#64, 0x20101000c080007#64, 0x2000020000000c00#64, 0xa080404#64] 0x8082#64 = [0xf568737f21d829d7#64, 0xf1bf79cbab0945fb#64, 0x24b7aa9642273045#64, 0x84824b11fcc95f39#64, 0x968600c307dcc3fe#64, 0xcf6a31f576f81ee7#64, 0xa0e8e2c477b95e23#64, 0x5b578f45a76588af#64, 0xfd83cbd053b085e3#64, 0x4812aeeec0841b9a#64, 0xada05eb9da661ec7#64, 0x2449d1a60cb63755#64, 0x732a2c99abc8576c#64, 0xdc5a34271c63094d#64, 0xd1ac0aa061ce64b7#64, 0x296c7e3a591f9866#64, 0x1d8d87d01ec575d6#64, 0xc8f351c453318bf8#64, 0x3b2924096840a306#64, 0xe1cb882419c59410#64, 0xd0a4b1fda0249724#64, 0x1bed14ef9f202826#64, 0xa025b9c2fd682e1f#64, 0xd898a93b718a73d1#64, 0x7b5dbd4237ce6499#64] := by decide +kernel
theorem pu2 : round [0xf568737f21d829d7#64, 0xf1bf79cbab0945fb#64, 0x24b7aa9642273045#64, 0x84824b11fcc95f39#64, 0x968600c307dcc3fe#64, 0xcf6a31f576f81ee7#64, 0xa0e8e2c477b95e23#64, 0x5b578f45a76588af#64, 0xfd83cbd053b085e3#64, 0x4812aeeec0841b9a#64, 0xada05eb9da661ec7#64, 0x2449d1a60cb63755#64, 0x732a2c99abc8576c#64, 0xdc5a34271c63094d#64, 0xd1ac0aa061ce64b7#64, 0x296c7e3a591f9866#64, 0x1d8d87d01ec575d6#64, 0xc8f351c453318bf8#64, 0x3b2924096840a306#64, 0xe1cb882419c59410#64, 0xd0a4b1fda0249724#64, 0x1bed14ef9f202826#64, 0xa025b9c2fd682e1f#64, 0xd898a93b718a73d1#64, 0x7b5dbd4237ce6499#64] 0x800000000000808a#64 = [0x573bddbc0a8626a5#64, 0xac96716985701426#64, 0x5188043d0495453c#64, 0xd47375ae3a4d8a3b#64, 0xa01b9d3abf94e058#64, 0x5241c9cc5c5cb9b4#64, 0x54c3eed091f1692#64, 0xf49a23f3a4cdc922#64, 0x78f63ffb924fa5e3#64, 0x46f9c05ebc24697f#64, 0xaf4ad05b0fa5cc5c#64, 0xfb4d56e00567dcbb#64, 0x713330133326b269#64, 0x5706c85bf67f5a7b#64, 0x1ceb235c26089f7f#64, 0xdb2f9eea946144ff#64, 0x4ec785638b932201#64, 0x6b017ea73694ea89#64, 0x7d58fbd7e67177a#64, 0x587d97ae31050a1#64, 0x56834e8b199353fe#64, 0x93b1e11493e09c4f#64, 0x84855cad488c4f13#64, 0x886acc962ea8ea4c#64, 0x7fa0370c0fae4547#64] := by decide +kernel
theorem pu3 : round [0x573bddbc0a8626a5#64, 0xac96716985701426#64, 0x5188043d0495453c#64, 0xd47375ae3a4d8a3b#64, 0xa01b9d3abf94e058#64, 0x5241c9cc5c5cb9b4#64, 0x54c3eed091f1692#64, 0xf49a23f3a4cdc922#64, 0x78f63ffb924fa5e3#64, 0x46f9c05ebc24697f#64, 0xaf4ad05b0fa5cc5c#64, 0xfb4d56e00567dcbb#64, 0x713330133326b269#64, 0x5706c85bf67f5a7b#64, 0x1ceb235c26089f7f#64, 0xdb2f9eea946144ff#64, 0x4ec785638b932201#64, 0x6b017ea73694ea89#64, 0x7d58fbd7e67177a#64, 0x587d97ae31050a1#64, 0x56834e8b199353fe#64, 0x93b1e11493e09c4f#64, 0x84855cad488c4f13#64, 0x886acc962ea8ea4c#64, 0x7fa0370c0fae4547#64] 0x8000000080008000#64 = [0x48dfa7713b1c3010#64, 0xeeb0645985150077#64, 0xe7171ab5de6a45f1#64, 0x96b0b4651d63e123#64, 0x1af6a099552914c#64, 0x4546307b9e709607#64, 0xf4e39a868a775f60#64, 0x9174c5aba22a7c4c#64, 0x2a22a2c2193860ba#64, 0x86c23cfa99950e1f#64, 0xdb801c1cd47122fb#64, 0x4097eaca1cee1260#64, 0x33992a0795d6fc3a#64, 0xeb30de55ac30667f#64, 0x93bceb0c638135b8#64, 0x54e1f322a8fc7f00#64, 0xfa9ce1dd9b9b3a1b#64, 0x70a496b40ebc769c#64, 0xc0bf38476d793fcc#64, 0xf6b59a458e53c22d#64, 0x8dca06db8523a955#64, 0x9aa1839d58fe9223#64, 0xdcdfc25587e7cf40#64, 0xe30f809087c946ef#64, 0x3dbffac22e57adef#64] := by decide +kernel
theorem pu4 : round [0x48dfa7713b1c3010#64, 0xeeb0645985150077#64, 0xe7171ab5de6a45f1#64, 0x96b0b4651d63e123#64, 0x1af6a099552914c#64, 0x4546307b9e709607#64, 0xf4e39a868a775f60#64, 0x9174c5aba22a7c4c#64, 0x2a22a2c2193860ba#64, 0x86c23cfa99950e1f#64, 0xdb801c1cd47122fb#64, 0x4097eaca1cee1260#64, 0x33992a0795d6fc3a#64, 0xeb30de55ac30667f#64, 0x93bceb0c638135b8#64, 0x54e1f322a8fc7f00#64, 0xfa9ce1dd9b9b3a1b#64, 0x70a496b40ebc769c#64, 0xc0bf38476d793fcc#64, 0xf6b59a458e53c22d#64, 0x8dca06db8523a955#64, 0x9aa1839d58fe9223#64, 0xdcdfc25587e7cf40#64, 0xe30f809087c946ef#64, 0x3dbffac22e57adef#64] 0x808b#64 = [0xe2d78ba0500df928#64, 0xd786e2bc326b8052#64, 0x552bee4820e4c2d6#64, 0xcbe2e499689bfb21#64, 0x40ce154f0fe695a2#64, 0x437bf32e39094ad6#64, 0x6214ac237216cbd3#64, 0xc89247597464843#64, 0x3c3015a71f9008de#64, 0xb1c4460818d1a3f9#64, 0x75a2a28c12c95978#64, 0xa947e368dda8b044#64, 0xa484f1aa7c7a088a#64, 0xe217ae712ceadaee#64, 0x5677e3fb56a8bd8c#64, 0x2362957d35f6f4f#64, 0xe1932fff3fc5b83#64, 0xfcff460c52b0baf2#64, 0x9015e9b5152a9f33#64, 0xebbcab93bdd99130#64, 0x2b73a68aa2cd64c9#64, 0xc9de625df577384b#64, 0x6f0597fee32b7bfd#64, 0xdfd16edd31c0e4c4#64, 0x4a4ef25f53aa78b7#64] := by decide +kernel
theorem pu5 : round [0xe2d78ba0500df928#64, 0xd786e2bc326b8052#64, 0x552bee4820e4c2d6#64, 0xcbe2e499689bfb21#64, 0x40ce154f0fe695a2#64, 0x437bf32e39094ad6#64, 0x6214ac237216cbd3#64, 0xc89247597464843#64, 0x3c3015a71f9008de#64, 0xb1c4460818d1a3f9#64, 0x75a2a28c12c95978#64, 0xa947e368dda8b044#64, 0xa484f1aa7c7a088a#64, 0xe217ae712ceadaee#64, 0x5677e3fb56a8bd8c#64, 0x2362957d35f6f4f#64, 0xe1932fff3fc5b83#64, 0xfcff460c52b0baf2#64, 0x9015e9b5152a9f33#64, 0xebbcab93bdd99130#64, 0x2b73a68aa2cd64c9#64, 0xc9de625df577384b#64, 0x6f0597fee32b7bfd#64, 0xdfd16edd31c0e4c4#64, 0x4a4ef25f53aa78b7#64] 0x80000001#64 = [0x535dd22bc4782b63#64, 0xdccb340d72c91ade#64, 0xd1fbd65807e588ed#64, 0x342a065b5136fb9b#64, 0xc8f3aa0398977a3a#64, 0xf4908f655682554d#64, 0xde87531213dc1513#64, 0x284710bcdc4071dd#64, 0xf344615c7c7f54a4#64, 0x8905ab4e91ad68f5#64, 0xe6e86751a56747c0#64, 0xe7d253f8c39d36da#64, 0x3e16069a2f098109#64, 0x1700bd56c6457ca#64, 0xd556f6dcd8924f7e#64, 0x632ae42aed435b12#64, 0x58382af3d9e468b#64, 0xa5bdf48fdf598026#64, 0x86891bd4659b49e3#64, 0x703d1b8349085f2b#64, 0xc69eacbdb12b0fdd#64, 0xa747f19299a80d47#64, 0x2e9731fb76c05435#64, 0x567629b1e9371ad4#64, 0x9592dc222e2d7dad#64] := by decide +kernel
theorem pu6 : round [0x535dd22bc4782b63#64, 0xdccb340d72c91ade#64, 0xd1fbd65807e588ed#64, 0x342a065b5136fb9b#64, 0xc8f3aa0398977a3a#64, 0xf4908f655682554d#64, 0xde87531213dc1513#64, 0x284710bcdc4071dd#64, 0xf344615c7c7f54a4#64, 0x8905ab4e91ad68f5#64, 0xe6e86751a56747c0#64, 0xe7d253f8c39d36da#64, 0x3e16069a2f098109#64, 0x1700bd56c6457ca#64, 0xd556f6dcd8924f7e#64, 0x632ae42aed435b12#64, 0x58382af3d9e468b#64, 0xa5bdf48fdf598026#64, 0x86891bd4659b49e3#64, 0x703d1b8349085f2b#64, 0xc69eacbdb12b0fdd#64, 0xa747f19299a80d47#64, 0x2e9731fb76c05435#64, 0x567629b1e9371ad4#64, 0x9592dc222e2d7dad#64] 0x8000000080008081#64 = [0xa9c6fd2beac820f2#64, 0x70ce6e3262bcee4e#64, 0xad23fbb4f4eb6d85#64, 0x73ec962d0865a38d#64, 0x5be14f01833b5e90#64, 0xc617d8159919c43b#64, 0xaf9b5639c0579e1#64, 0x8a1ef6c1749f6825#64, 0x86fcd967fc63d92#64, 0x4009dd09db2b866d#64, 0xab48d2846a4831a#64, 0x35faa2001d7502b2#64, 0x7cfc9d23090f98cd#64, 0xfcb0b45261a0b1ec#64, 0xf9ae293a6c21c414#64, 0x2c96e055d4b530ec#64, 0x542cddf2e0034f8c#64, 0x1c4d5844844fa621#64, 0xa31a2163529c6717#64, 0x43d0f4ccf8db165a#64, 0xa249d9be2696be8c#64, 0x712eed3a3bb7680f#64, 0x76c77f854aee1da3#64, 0xe103ec3b64b15789#64, 0x3b7c003939f8e0c8#64] := by decide +kernel
theorem pu7 : round [0xa9c6fd2beac820f2#64, 0x70ce6e3262bcee4e#64, 0xad23fbb4f4eb6d85#64, 0x73ec962d0865a38d#64, 0x5be14f01833b5e90#64, 0xc617d8159919c43b#64, 0xaf9b5639c0579e1#64, 0x8a1ef6c1749f6825#64, 0x86fcd967fc63d92#64, 0x4009dd09db2b866d#64, 0xab48d2846a4831a#64, 0x35faa2001d7502b2#64, 0x7cfc9d23090f98cd#64, 0xfcb0b45261a0b1ec#64, 0xf9ae293a6c21c414#64, 0x2c96e055d4b530ec#64, 0x542cddf2e0034f8c#64, 0x1c4d5844844fa621#64, 0xa31a2163529c6717#64, 0x43d0f4ccf8db165a#64, 0xa249d9be2696be8c#64, 0x712eed3a3bb7680f#64, 0x76c77f854aee1da3#64, 0xe103ec3b64b15789#64, 0x3b7c003939f8e0c8#64] 0x8000000000008009#64 = [0x6696251c572fed3d#64, 0x5a83602dc5cb3d6e#64, 0x98a4456f768ec9c1#64, 0x9ddec7285ffd514#64, 0xd9142dffcba08a02#64, 0x705921734f7f7961#64, 0xd54b6b8482313079#64, 0xec810aa1d82120ca#64, 0x356c1ab035421cdf#64, 0x56edd4eb66595630#64, 0xe74711c695bcd367#64, 0xab1b8ed33ef3185b#64, 0x8592b7076ed5fb9c#64, 0x6d34a654484a5052#64, 0x151603d5ed6ebcec#64, 0x493e8c829ac6c280#64, 0xeda805e917104e09#64, 0xccd34d967c527e77#64, 0x6257be254536ce39#64, 0x1765af8c27f942a4#64, 0x36e3ad6dba7d870#64, 0x697d28f0c3005c65#64, 0x11040655f1920968#64, 0xbe1d6695e65988d2#64, 0x240c0f85c91f350c#64] := by decide +kernel
theorem pu8 : round [0x6696251c572fed3d#64, 0x5a83602dc5cb3d6e#64, 0x98a4456f768ec9c1#64, 0x9ddec7285ffd514#64, 0xd9142dffcba08a02#64, 0x705921734f7f7961#64, 0xd54b6b8482313079#64, 0xec810aa1d82120ca#64, 0x356c1ab035421cdf#64, 0x56edd4eb66595630#64, 0xe74711c695bcd367#64, 0xab1b8ed33ef3185b#64, 0x8592b7076ed5fb9c#64, 0x6d34a654484a5052#64, 0x151603d5ed6ebcec#64, 0x493e8c829ac6c280#64, 0xeda805e917104e09#64, 0xccd34d967c527e77#64, 0x6257be254536ce39#64, 0x1765af8c27f942a4#64, 0x36e3ad6dba7d870#64, 0x697d28f0c3005c65#64, 0x11040655f1920968#64, 0xbe1d6695e65988d2#64, 0x240c0f85c91f350c#64] 0x8a#64 = [0xef0de783f375f623#64, 0x9fa227658964790c#64, 0x4a06cbd70c01132f#64, 0x18c3a0c008872775#64, 0xb07402835cf87ec8#64, 0xdd4aebaf15cf0c2e#64, 0xba704c271d5ac12c#64, 0xf22168424a890480#64, 0x331209f63a0800b7#64, 0x9773b3df75679704#64, 0x6ba74f8f4865e76b#64, 0xc76cf27193640379#64, 0x5eb68a246a3d1b51#64, 0x2b7111ed5b461586#64, 0x476c1fa3871dab00#64, 0x1861fff31b035731#64, 0xc1161770dce38d4e#64, 0x8c2da9e4261c0162#64, 0x7ad4b52a52d16db5#64, 0x144771688ad7a109#64, 0x2a877ba1bb4d9c15#64, 0xd4b66b0e5e9b17e3#64, 0xd66c94d1a4842435#64, 0xbfb245163058edc#64, 0xfcb3b46857752bd0#64] := by decide +kernel
theorem pu9 : round [0xef0de783f375f623#64, 0x9fa227658964790c#64, 0x4a06cbd70c01132f#64, 0x18c3a0c008872775#64, 0xb07402835cf87ec8#64, 0xdd4aebaf15cf0c2e#64, 0xba704c271d5ac12c#64, 0xf22168424a890480#64, 0x331209f63a0800b7#64, 0x9773b3df75679704#64, 0x6ba74f8f4865e76b#64, 0xc76cf27193640379#64, 0x5eb68a246a3d1b51#64, 0x2b7111ed5b461586#64, 0x476c1fa3871dab00#64, 0x1861fff31b035731#64, 0xc1161770dce38d4e#64, 0x8c2da9e4261c0162#64, 0x7ad4b52a52d16db5#64, 0x144771688ad7a109#64, 0x2a877ba1bb4d9c15#64, 0xd4b66b0e5e9b17e3#64, 0xd66c94d1a4842435#64, 0xbfb245163058edc#64, 0xfcb3b46857752bd0#64] 0x88#64 = [0xa92b66b71bd17757#64, 0xde43df276c3751ff#64, 0x204f7a55e0e55a79#64, 0x432615df8cfbce5d#64, 0x50ca1c9ab5b2d6ec#64, 0x8422cbae7b5ab693#64, 0x58d38db8bde31e54#64, 0x106b73500809c08a#64, 0x8509c3d2767153cd#64, 0x219c804b12b2bdf3#64, 0x3c09d73bbe53cc3f#64, 0x49a6b95804f14bab#64, 0x42655781f2c2fa1#64, 0xd5dfb9d44986689b#64, 0xeb6108601f853317#64, 0x288c321f08a6b667#64, 0x4d3cf5abffe2e0b6#64, 0x7870336394108276#64, 0x8fbca99ac1f2d816#64, 0x9c9658c79d2b61a7#64, 0x56a19fe6bf02e481#64, 0x54dff468c6983c58#64, 0x1a951f0461eb1ea#64, 0x883812db08b90ae4#64, 0x900c77d9717b5997#64] := by decide +kernel
theorem pu10 : round [0xa92b66b71bd17757#64, 0xde43df276c3751ff#64, 0x204f7a55e0e55a79#64, 0x432615df8cfbce5d#64, 0x50ca1c9ab5b2d6ec#64, 0x8422cbae7b5ab693#64, 0x58d38db8bde31e54#64, 0x106b73500809c08a#64, 0x8509c3d2767153cd#64, 0x219c804b12b2bdf3#64, 0x3c09d73bbe53cc3f#64, 0x49a6b95804f14bab#64, 0x42655781f2c2fa1#64, 0xd5dfb9d44986689b#64, 0xeb6108601f853317#64, 0x288c321f08a6b667#64, 0x4d3cf5abffe2e0b6#64, 0x7870336394108276#64, 0x8fbca99ac1f2d816#64, 0x9c9658c79d2b61a7#64, 0x56a19fe6bf02e481#64, 0x54dff468c6983c58#64, 0x1a951f0461eb1ea#64, 0x883812db08b90ae4#64, 0x900c77d9717b5997#64] 0x80008009#64 = [0x5b2dac01473b26b4#64, 0x24c54ac787767e70#64, 0x2ff1abf0f0b2703f#64, 0x1549bbd3529747ae#64, 0xe7fda4b530554fc8#64, 0xf82dbca7b2fa2106#64, 0xf05993c6293baa1f#64, 0xb1cdc4a191c08a8e#64, 0x564fafb2cbd79aa0#64, 0xd9a0a208cadd7ee7#64, 0x1db32e18d4c61cbc#64, 0xa5ec3025a285a5ad#64, 0x898bc0dc086b2d69#64, 0xad93cb759cd46436#64, 0x414cdca4f780579c#64, 0x24a162e97cf3814d#64, 0x7b24f50b78db018d#64, 0xb78d4483216436bc#64, 0x982b84409ee66117#64, 0x8eead59e98c9dce#64, 0x7399e448f80d9608#64, 0xb9f8c0e221ff5a8a#64, 0x9c451388267d2f3d#64, 0xee4382677ab37310#64, 0x973793a9095b3e4#64] := by decide +kernel
theorem pu11 : round [0x5b2dac01473b26b4#64, 0x24c54ac787767e70#64, 0x2ff1abf0f0b2703f#64, 0x1549bbd3529747ae#64, 0xe7fda4b530554fc8#64, 0xf82dbca7b2fa2106#64, 0xf05993c6293baa1f#64, 0xb1cdc4a191c08a8e#64, 0x564fafb2cbd79aa0#64, 0xd9a0a208cadd7ee7#64, 0x1db32e18d4c61cbc#64, 0xa5ec3025a285a5ad#64, 0x898bc0dc086b2d69#64, 0xad93cb759cd46436#64, 0x414cdca4f780579c#64, 0x24a162e97cf3814d#64, 0x7b24f50b78db018d#64, 0xb78d4483216436bc#64, 0x982b84409ee66117#64, 0x8eead59e98c9dce#64, 0x7399e448f80d9608#64, 0xb9f8c0e221ff5a8a#64, 0x9c451388267d2f3d#64, 0xee4382677ab37310#64, 0x973793a9095b3e4#64] 0x8000000a#64 = [0x42f883ad38a09b5c#64, 0x37ef6693d7255c00#64, 0x52821e76e563a4d2#64, 0x4b309c7d76b028c#64, 0x450beabbc51e54ae#64, 0x1e7b908c5542ecaa#64, 0xe04c1ee6d37a24a4#64, 0xa2f48d6418784720#64, 0x6e278d421ec3a5ae#64, 0x43c641c4d6bb4a70#64, 0x63776b9fed1dbd41#64, 0xe6aa93c0eedb8b0d#64, 0x44956666ba98616e#64, 0x254655ea6e3a3241#64, 0xca281f522e89a93d#64, 0xec172dc2e535f8ed#64, 0xc723c1ce1e82be5b#64, 0xbcfff0fe429d1d2#64, 0x91c4c804a50332ac#64, 0x680fe46a0f7c953e#64, 0x7359bb568aaf472d#64, 0xc1c3305f48a6f9a2#64, 0x5bf01b80532ffca6#64, 0x3c712e68700a5167#64, 0x26b023e4001f910e#64] := by decide +kernel
theorem pu12 : round [0x42f883ad38a09b5c#64, 0x37ef6693d7255c00#64, 0x52821e76e563a4d2#64, 0x4b309c7d76b028c#64, 0x450beabbc51e54ae#64, 0x1e7b908c5542ecaa#64, 0xe04c1ee6d37a24a4#64, 0xa2f48d6418784720#64, 0x6e278d421ec3a5ae#64, 0x43c641c4d6bb4a70#64, 0x63776b9fed1dbd41#64, 0xe6aa93c0eedb8b0d#64, 0x44956666ba98616e#64, 0x254655ea6e3a3241#64, 0xca281f522e89a93d#64, 0xec172dc2e535f8ed#64, 0xc723c1ce1e82be5b#64, 0xbcfff0fe429d1d2#64, 0x91c4c804a50332ac#64, 0x680fe46a0f7c953e#64, 0x7359bb568aaf472d#64, 0xc1c3305f48a6f9a2#64, 0x5bf01b80532ffca6#64, 0x3c712e68700a5167#64, 0x26b023e4001f910e#64] 0x8000808b#64 = [0x9673916ee32ec2ac#64, 0xc6c42a96a15fad56#64, 0x59cbf5bd33826770#64, 0xda76677b0cc23580#64, 0xf2ac83832f43dcb8#64, 0xf2ef5da42ecc8f63#64, 0x29213ae5627e4f43#64, 0x12f92b9d70ce2534#64, 0x92baa5cc1f8ac95e#64, 0xfc1a4ff5006514bc#64, 0x36db56f9b69eb84e#64, 0x64f56d935bc6a8dd#64, 0x4d0443f04df85f42#64, 0x10076cbaaf0dfdc3#64, 0xb2d70786383b7b57#64, 0x6a7278478fb24011#64, 0xa045f5c23f542621#64, 0x893076824702aeb7#64, 0x694bcd84e793472#64, 0xac5d1c40e5e926f9#64, 0xe471c2952f073d35#64, 0xe2c227bedd413daa#64, 0xed5a7f3c9c590e43#64, 0x3e2f34971ac86238#64, 0xb381d321cbe30c90#64] := by decide +kernel
theorem pu13 : round [0x9673916ee32ec2ac#64, 0xc6c42a96a15fad56#64, 0x59cbf5bd33826770#64, 0xda76677b0cc23580#64, 0xf2ac83832f43dcb8#64, 0xf2ef5da42ecc8f63#64, 0x29213ae5627e4f43#64, 0x12f92b9d70ce2534#64, 0x92baa5cc1f8ac95e#64, 0xfc1a4ff5006514bc#64, 0x36db56f9b69eb84e#64, 0x64f56d935bc6a8dd#64, 0x4d0443f04df85f42#64, 0x10076cbaaf0dfdc3#64, 0xb2d70786383b7b57#64, 0x6a7278478fb24011#64, 0xa045f5c23f542621#64, 0x893076824702aeb7#64, 0x694bcd84e793472#64, 0xac5d1c40e5e926f9#64, 0xe471c2952f073d35#64, 0xe2c227bedd413daa#64, 0xed5a7f3c9c590e43#64, 0x3e2f34971ac86238#64, 0xb381d321cbe30c90#64] 0x800000000000008b#64 = [0x32e492e533dfb78b#64, 0xa9582609a18da166#64, 0x58257a239d0447ad#64, 0xb05cfdf153f89745#64, 0x64280439d2831af8#64, 0x4ab82122ae991e3b#64, 0xcfe1e53126918e42#64, 0xb649ca03732c298d#64, 0x789c1f3746aac86a#64, 0x59c06381a6ea3e35#64, 0xb073df95aadafd8e#64, 0xe2d8602cf3361252#64, 0xac9194a498695169#64, 0x3d7b81bf2ef04955#64, 0x2773aff24f0751ce#64, 0x138594d6617cb600#64, 0xe9b20fec0f5160dd#64, 0x1484b50e927e793c#64, 0xca4dd25808efe723#64, 0x9f614081dd3d4833#64, 0xd62b2408318624b7#64, 0x6c3a961c801bf927#64, 0xc61603bf22a8209a#64, 0x96f45914c267d886#64, 0xc02c741ef5073aaf#64] := by decide +kernel
theorem pu14 : round [0x32e492e533dfb78b#64, 0xa9582609a18da166#64, 0x58257a239d0447ad#64, 0xb05cfdf153f89745#64, 0x64280439d2831af8#64, 0x4ab82122ae991e3b#64, 0xcfe1e53126918e42#64, 0xb649ca03732c298d#64, 0x789c1f3746aac86a#64, 0x59c06381a6ea3e35#64, 0xb073df95aadafd8e#64, 0xe2d8602cf3361252#64, 0xac9194a498695169#64, 0x3d7b81bf2ef04955#64, 0x2773aff24f0751ce#64, 0x138594d6617cb600#64, 0xe9b20fec0f5160dd#64, 0x1484b50e927e793c#64, 0xca4dd25808efe723#64, 0x9f614081dd3d4833#64, 0xd62b2408318624b7#64, 0x6c3a961c801bf927#64, 0xc61603bf22a8209a#64, 0x96f45914c267d886#64, 0xc02c741ef5073aaf#64] 0x8000000000008089#64 = [0x91c28a29dc6a6987#64, 0x889c462be5d74d38#64, 0xac323753ca71d002#64, 0xc5d13500e1850f3#64, 0xc15db6ba060d984a#64, 0x7a0e5beb1ac8e92a#64, 0x2688d84c2b0ed8b3#64, 0xa134b1687b6f1a1b#64, 0xe4715a54d6691da1#64, 0x327edd36a2758ee4#64, 0x898219d9fc30425#64, 0x494803b854972390#64, 0xd5dfce4c284f7346#64, 0x681d0172cde5ea6c#64, 0xd513524fa8f6eb26#64, 0xad4901d49e955ab2#64, 0x9545ca40ccc92364#64, 0x4a6e1e7770444b3f#64, 0x8fa2c4646396a1bc#64, 0x47093c32ca68d9f5#64, 0xa2b864eb8820090f#64, 0x5e30a11b5653dad1#64, 0x747a308e103b277c#64, 0x51934aa9023bb12b#64, 0x589030fdfd1c8b15#64] := by decide +kernel
theorem pu15 : round [0x91c28a29dc6a6987#64, 0x889c462be5d74d38#64, 0xac323753ca71d002#64, 0xc5d13500e1850f3#64, 0xc15db6ba060d984a#64, 0x7a0e5beb1ac8e92a#64, 0x2688d84c2b0ed8b3#64, 0xa134b1687b6f1a1b#64, 0xe4715a54d6691da1#64, 0x327edd36a2758ee4#64, 0x898219d9fc30425#64, 0x494803b854972390#64, 0xd5dfce4c284f7346#64, 0x681d0172cde5ea6c#64, 0xd513524fa8f6eb26#64, 0xad4901d49e955ab2#64, 0x9545ca40ccc92364#64, 0x4a6e1e7770444b3f#64, 0x8fa2c4646396a1bc#64, 0x47093c32ca68d9f5#64, 0xa2b864eb8820090f#64, 0x5e30a11b5653dad1#64, 0x747a308e103b277c#64, 0x51934aa9023bb12b#64, 0x589030fdfd1c8b15#64] 0x8000000000008003#64 = [0x70bc502963943fb7#64, 0x661bd9fb3a0118d0#64, 0xa3bdd62d9d194641#64, 0x1e45fba98c0b4fb8#64, 0xfd6225f13cb6f7be#64, 0x230f7d37f51c8174#64, 0x141c8c5b202d5d73#64, 0x5f1585ada199a05b#64, 0x6bc9221f32cb8f24#64, 0x85acb279d70d2f3#64, 0xdbc264efb14d647a#64, 0x4562a7844a0e8a0c#64, 0x79a8fc0b45d40c11#64, 0x42907d05e8d057a1#64, 0xf78e4bc8a6ed948e#64, 0xdb2eea080202f3d7#64, 0x2b2d59b03bc9b2f0#64, 0x186b17a2737671b9#64, 0x3aea2c79f5d1ffe7#64, 0xe7451da782c4ec1a#64, 0xe47932844e6be1f#64, 0x3a3cfabb228cf803#64, 0xc353922ba4170415#64, 0x8dd51fb927268143#64, 0xcc8781988e62de35#64] := by decide +kernel
theorem pu16 : round [0x70bc502963943fb7#64, 0x661bd9fb3a0118d0#64, 0xa3bdd62d9d194641#64, 0x1e45fba98c0b4fb8#64, 0xfd6225f13cb6f7be#64, 0x230f7d37f51c8174#64, 0x141c8c5b202d5d73#64, 0x5f1585ada199a05b#64, 0x6bc9221f32cb8f24#64, 0x85acb279d70d2f3#64, 0xdbc264efb14d647a#64, 0x4562a7844a0e8a0c#64, 0x79a8fc0b45d40c11#64, 0x42907d05e8d057a1#64, 0xf78e4bc8a6ed948e#64, 0xdb2eea080202f3d7#64, 0x2b2d59b03bc9b2f0#64, 0x186b17a2737671b9#64, 0x3aea2c79f5d1ffe7#64, 0xe7451da782c4ec1a#64, 0xe47932844e6be1f#64, 0x3a3cfabb228cf803#64, 0xc353922ba4170415#64, 0x8dd51fb927268143#64, 0xcc8781988e62de35#64] 0x8000000000008002#64 = [0x15a3fbfe6ac03ec8#64, 0x7a7cc2576d883692#64, 0xfa0192edd84f208a#64, 0x870916aa8b82c50c#64, 0x77867630825bfcb1#64, 0xb3c01dfc7155135a#64, 0xde65bc09ff03a413#64, 0xee53f835186c037a#64, 0xe00bb908a68490e0#64, 0x1081bdbd7415cece#64, 0x8ce61ed9be17619f#64, 0x1df69b380c5eec8b#64, 0xabb7fd8f21980e6a#64, 0x584b7e8a62b9214e#64, 0x6047f7b09d45236c#64, 0x29ddd05f3ebb0489#64, 0xd1d09a266a5d75aa#64, 0x238d45ddf89cce81#64, 0x3765896f15ca99ac#64, 0xf8a10747b89a681f#64, 0xa16bd83bb776487b#64, 0x2de789a40fe5918d#64, 0x49ab8266d5c78c31#64, 0xd4853c6486eb3e#64, 0x61c27d387798f273#64] := by decide +kernel
theorem pu17 : round [0x15a3fbfe6ac03ec8#64, 0x7a7cc2576d883692#64, 0xfa0192edd84f208a#64, 0x870916aa8b82c50c#64, 0x77867630825bfcb1#64, 0xb3c01dfc7155135a#64, 0xde65bc09ff03a413#64, 0xee53f835186c037a#64, 0xe00bb908a68490e0#64, 0x1081bdbd7415cece#64, 0x8ce61ed9be17619f#64, 0x1df69b380c5eec8b#64, 0xabb7fd8f21980e6a#64, 0x584b7e8a62b9214e#64, 0x6047f7b09d45236c#64, 0x29ddd05f3ebb0489#64, 0xd1d09a266a5d75aa#64, 0x238d45ddf89cce81#64, 0x3765896f15ca99ac#64, 0xf8a10747b89a681f#64, 0xa16bd83bb776487b#64, 0x2de789a40fe5918d#64, 0x49ab8266d5c78c31#64, 0xd4853c6486eb3e#64, 0x61c27d387798f273#64] 0x8000000000000080#64 = [0x987172f5c91a887d#64, 0xe7b99d7d04e5e4aa#64, 0xcccc7fbd85c8ee6d#64, 0xa0e2373c0f2b5ca2#64, 0x97c5c9757bab7f57#64, 0xf0d393def0c2f8b8#64, 0xfc136840955cbc2#64, 0x4935ea55642f75d1#64, 0x6527190dade8575a#64, 0x88b07dce8a7c820f#64, 0xa6d3b273b60d4071#64, 0xa69e4ba979e90d5e#64, 0x70c00b03f739e04#64, 0x1f2b62bed76ad0a4#64, 0xd6ef9f17d49ade6b#64, 0xa8208fdef1184a50#64, 0x38bc42f2cd0d5cf0#64, 0xe4213ab71548c051#64, 0xe719890c7eb193#64, 0xfbb3117951c350b0#64, 0xef98273b9bd5edb8#64, 0xd9e1cf5a22031bf4#64, 0x941a72940d6dcef9#64, 0xb9f74ccd88e7a9f9#64, 0x814fa30ac9a92ed8#64] := by decide +kernel
theorem pu18 : round [0x987172f5c91a887d#64, 0xe7b99d7d04e5e4aa#64, 0xcccc7fbd85c8ee6d#64, 0xa0e2373c0f2b5ca2#64, 0x97c5c9757bab7f57#64, 0xf0d393def0c2f8b8#64, 0xfc136840955cbc2#64, 0x4935ea55642f75d1#64, 0x6527190dade8575a#64, 0x88b07dce8a7c820f#64, 0xa6d3b273b60d4071#64, 0xa69e4ba979e90d5e#64, 0x70c00b03f739e04#64, 0x1f2b62bed76ad0a4#64, 0xd6ef9f17d49ade6b#64, 0xa8208fdef1184a50#64, 0x38bc42f2cd0d5cf0#64, 0xe4213ab71548c051#64, 0xe719890c7eb193#64, 0xfbb3117951c350b0#64, 0xef98273b9bd5edb8#64, 0xd9e1cf5a22031bf4#64, 0x941a72940d6dcef9#64, 0xb9f74ccd88e7a9f9#64, 0x814fa30ac9a92ed8#64] 0x800a#64 = [0x7f2131994a118769#64, 0x34bff639537ce29e#64, 0x39a27ff06ab39a72#64, 0x8db7107144909f9d#64, 0x13e47a8a25b91c58#64, 0xcb29cef9576e2fbd#64, 0x9e4b3fc2f85e895d#64, 0x521587eb82aedb6a#64, 0xfb85e0dd11330ca5#64, 0xcb49b499c68ae5f4#64, 0xb789982ed82c9bbf#64, 0x5685cfaf86cc8d4b#64, 0xf4d72ad32f165138#64, 0xdd747164d39bfe05#64, 0xdc7047f0ec592e61#64, 0x220c5090c53dc116#64, 0xa6f2ca58ddba5f17#64, 0x642a4cc646009723#64, 0x126c362bd78e8715#64, 0xca9f5cc301340619#64, 0x6823a874be0fd348#64, 0x5cda9ef3c40babf3#64, 0x19ddd212495cd9f5#64, 0xa9a1cbcf78261bd#64, 0xc00e2a4a69666295#64] := by decide +kernel
theorem pu19 : round [0x7f2131994a118769#64, 0x34bff639537ce29e#64, 0x39a27ff06ab39a72#64, 0x8db7107144909f9d#64, 0x13e47a8a25b91c58#64, 0xcb29cef9576e2fbd#64, 0x9e4b3fc2f85e895d#64, 0x521587eb82aedb6a#64, 0xfb85e0dd11330ca5#64, 0xcb49b499c68ae5f4#64, 0xb789982ed82c9bbf#64, 0x5685cfaf86cc8d4b#64, 0xf4d72ad32f165138#64, 0xdd747164d39bfe05#64, 0xdc7047f0ec592e61#64, 0x220c5090c53dc116#64, 0xa6f2ca58ddba5f17#64, 0x642a4cc646009723#64, 0x126c362bd78e8715#64, 0xca9f5cc301340619#64, 0x6823a874be0fd348#64, 0x5cda9ef3c40babf3#64, 0x19ddd212495cd9f5#64, 0xa9a1cbcf78261bd#64, 0xc00e2a4a69666295#64] 0x800000008000000a#64 = [0xff7cc78e8de7926a#64, 0x8d00503c378c1929#64, 0x6123f44f7bb6aa91#64, 0x8c35761ea9388c90#64, 0xef903cc498dab531#64, 0x36a57a6aaa7bdb1e#64, 0x197027ca8017a408#64, 0xecba0f56bb5460a5#64, 0x285aa57ac8abfe47#64, 0x460c3f4a06a97bd6#64, 0x60f4f254bb26880e#64, 0xe9206aada6be8924#64, 0xd0a97da8f346fc92#64, 0x42b5e88b2aedb262#64, 0x4082ce8f1754a837#64, 0x16da0e0d399e465c#64, 0xaec88f57dc494654#64, 0xde9472043887eb38#64, 0x2249751a403a49ad#64, 0x41f514eef090a4d8#64, 0x415794ba40c112cc#64, 0x488ed5a8aa9f8a1e#64, 0x56b1aefc45e92931#64, 0x60a9842de0b52ad5#64, 0x69ea2482a11a54bd#64] := by decide +kernel
theorem pu20 : round [0xff7cc78e8de7926a#64, 0x8d00503c378c1929#64, 0x6123f44f7bb6aa91#64, 0x8c35761ea9388c90#64, 0xef903cc498dab531#64, 0x36a57a6aaa7bdb1e#64, 0x197027ca8017a408#64, 0xecba0f56bb5460a5#64, 0x285aa57ac8abfe47#64, 0x460c3f4a06a97bd6#64, 0x60f4f254bb26880e#64, 0xe9206aada6be8924#64, 0xd0a97da8f346fc92#64, 0x42b5e88b2aedb262#64, 0x4082ce8f1754a837#64, 0x16da0e0d399e465c#64, 0xaec88f57dc494654#64, 0xde9472043887eb38#64, 0x2249751a403a49ad#64, 0x41f514eef090a4d8#64, 0x415794ba40c112cc#64, 0x488ed5a8aa9f8a1e#64, 0x56b1aefc45e92931#64, 0x60a9842de0b52ad5#64, 0x69ea2482a11a54bd#64] 0x8000000080008081#64 = [0xa4195ab4bb574d9#64, 0x7c8e11bfac67fe66#64, 0xf21a3016677cae1e#64, 0xb95760d185aa1bba#64, 0x249f201c136947a2#64, 0xc36697d50eb43d68#64, 0xf8c2557f2079f3f6#64, 0x2e6e43184140537c#64, 0x621caf081cd859a7#64, 0x882a27b70efef0c9#64, 0xb29ccb4793f0c9a9#64, 0x7a2351c273335c47#64, 0x23a3befa1db95f73#64, 0xaf741882a64cc208#64, 0xde1e4ead939dcdad#64, 0xb5e321da6ee118e4#64, 0x831bd74c98a084f2#64, 0xa91bd85f2edf66f6#64, 0x5cc8c482ead65cfb#64, 0x532f6d20af1fa0e8#64, 0x5a90181aba2da559#64, 0xc9ff4e41f633cd57#64, 0xe70207b8fdd0a6bb#64, 0xa4c0e4c35eb8550c#64, 0xf13d76f70fadc2ae#64] := by decide +kernel
theorem pu21 : round [0xa4195ab4bb574d9#64, 0x7c8e11bfac67fe66#64, 0xf21a3016677cae1e#64, 0xb95760d185aa1bba#64, 0x249f201c136947a2#64, 0xc36697d50eb43d68#64, 0xf8c2557f2079f3f6#64, 0x2e6e43184140537c#64, 0x621caf081cd859a7#64, 0x882a27b70efef0c9#64, 0xb29ccb4793f0c9a9#64, 0x7a2351c273335c47#64, 0x23a3befa1db95f73#64, 0xaf741882a64cc208#64, 0xde1e4ead939dcdad#64, 0xb5e321da6ee118e4#64, 0x831bd74c98a084f2#64, 0xa91bd85f2edf66f6#64, 0x5cc8c482ead65cfb#64, 0x532f6d20af1fa0e8#64, 0x5a90181aba2da559#64, 0xc9ff4e41f633cd57#64, 0xe70207b8fdd0a6bb#64, 0xa4c0e4c35eb8550c#64, 0xf13d76f70fadc2ae#64] 0x8000000000008080#64 = [0x1efdb675095dcfc#64, 0x44e76178a813953f#64, 0xaaa2245a36e655f5#64, 0x4583fac5f6b98616#64, 0xd807c0b9e40bd627#64, 0x4b010482ab3bbb56#64, 0x33d1dfc1265299d2#64, 0xd9d40c7cfeaebae0#64, 0x2dbcce87d0f44127#64, 0x9d84d5f04b59b520#64, 0x5392afc0d6b58feb#64, 0x2bd0c8b183d67240#64, 0x24277aa4abde1d57#64, 0x9ddec860ff5e43f2#64, 0xeb5a9f9735b1bcf9#64, 0x6cf63fa81e19e7b2#64, 0x3623d4b7b8ad517a#64, 0xde905a932ade2e35#64, 0x7970d5483aa00b4e#64, 0x42b53c04d26f5206#64, 0x553916bab830cbe0#64, 0x7d59500c5e069945#64, 0xeb11ea59d804f3a6#64, 0x4f70969bb2c60084#64, 0xd2ae2a78d0acc129#64] := by decide +kernel
theorem pu22 : round [0x1efdb675095dcfc#64, 0x44e76178a813953f#64, 0xaaa2245a36e655f5#64, 0x4583fac5f6b98616#64, 0xd807c0b9e40bd627#64, 0x4b010482ab3bbb56#64, 0x33d1dfc1265299d2#64, 0xd9d40c7cfeaebae0#64, 0x2dbcce87d0f44127#64, 0x9d84d5f04b59b520#64, 0x5392afc0d6b58feb#64, 0x2bd0c8b183d67240#64, 0x24277aa4abde1d57#64, 0x9ddec860ff5e43f2#64, 0xeb5a9f9735b1bcf9#64, 0x6cf63fa81e19e7b2#64, 0x3623d4b7b8ad517a#64, 0xde905a932ade2e35#64, 0x7970d5483aa00b4e#64, 0x42b53c04d26f5206#64, 0x553916bab830cbe0#64, 0x7d59500c5e069945#64, 0xeb11ea59d804f3a6#64, 0x4f70969bb2c60084#64, 0xd2ae2a78d0acc129#64] 0x80000001#64 = [0x5d9c22215d557a08#64, 0x377d781426385e#64, 0x4ce635cbd7bebf1a#64, 0xd8b77797a9e0ada0#64, 0xc9dbb8a311a394fc#64, 0x9475632292a962de#64, 0x6ef18ed908f3f23d#64, 0x156e34add57d39b6#64, 0xf94b69606ca72238#64, 0xede94878326afb45#64, 0xdbf75d3e02731b39#64, 0x42e15179a214b192#64, 0x5772e4c98305042f#64, 0x7031ba8d7c7725d4#64, 0x9dffdbe67451934b#64, 0x344c8a0012d40568#64, 0xb4888b31affff43a#64, 0x1d4458e0e7a60fab#64, 0xe3e9eb04839e232e#64, 0xb57105783b301aa0#64, 0x5e7be176f50d7fdd#64, 0x2b197040d53c267b#64, 0x30fedb352af905eb#64, 0x8f1cc6ba1bc0aead#64, 0xc12f2223de808bf0#64] := by decide +kernel
theorem pu23 : round [0x5d9c22215d557a08#64, 0x377d781426385e#64, 0x4ce635cbd7bebf1a#64, 0xd8b77797a9e0ada0#64, 0xc9dbb8a311a394fc#64, 0x9475632292a962de#64, 0x6ef18ed908f3f23d#64, 0x156e34add57d39b6#64, 0xf94b69606ca72238#64, 0xede94878326afb45#64, 0xdbf75d3e02731b39#64, 0x42e15179a214b192#64, 0x5772e4c98305042f#64, 0x7031ba8d7c7725d4#64, 0x9dffdbe67451934b#64, 0x344c8a0012d40568#64, 0xb4888b31affff43a#64, 0x1d4458e0e7a60fab#64, 0xe3e9eb04839e232e#64, 0xb57105783b301aa0#64, 0x5e7be176f50d7fdd#64, 0x2b197040d53c267b#64, 0x30fedb352af905eb#64, 0x8f1cc6ba1bc0aead#64, 0xc12f2223de808bf0#64] 0x8000000080008008#64 = [0xe17395e4cb59c4c5#64, 0x49cb770f935e5a69#64, 0x9e180ce52fd7c22f#64, 0x1056ffea75537538#64, 0x59d06ad117a4e821#64, 0x519fbb661c3753#64, 0xa13cbb86c7e2c832#64, 0x2464327b537513bb#64, 0x538c5c844418c311#64, 0x4d8352221466f458#64, 0x299dd1674b86a88c#64, 0x211da116bab8b647#64, 0x14a4686da1a0af89#64, 0x1f52ab40b84bfa7c#64, 0x7b4d1e91a40a9422#64, 0xa88912083f65b67e#64, 0x5616bd82f037a#64, 0x1bc5245ce54384d#64, 0x960b0b844c66c43#64, 0x2b73bb6bcdbb48fd#64, 0x21cb57da94045e4d#64, 0xed74d19ecf821769#64, 0xcd2330e8d3db4a8c#64, 0xd37f073f62726e10#64, 0x88e3affcf2c71bac#64] := by decide +kernel
theorem pu : perm [0x3020101#64, 0x0#64, 0x0#64, 0x0#64, 0x600000000#64, 0x0#64, 0x0#64, 0x0#64, 0x0#64, 0x0#64, 0x0#64, 0x0#64, 0x0#64, 0x0#64, 0x0#64, 0x0#64, 0x8000000000000000#64, 0x0#64, 0x0#64, 0x0#64, 0x0#64, 0x0#64, 0x0#64, 0x0#64, 0x0#64] = [0xe17395e4cb59c4c5#64, 0x49cb770f935e5a69#64, 0x9e180ce52fd7c22f#64, 0x1056ffea75537538#64, 0x59d06ad117a4e821#64, 0x519fbb661c3753#64, 0xa13cbb86c7e2c832#64, 0x2464327b537513bb#64, 0x538c5c844418c311#64, 0x4d8352221466f458#64, 0x299dd1674b86a88c#64, 0x211da116bab8b647#64, 0x14a4686da1a0af89#64, 0x1f52ab40b84bfa7c#64, 0x7b4d1e91a40a9422#64, 0xa88912083f65b67e#64, 0x5616bd82f037a#64, 0x1bc5245ce54384d#64, 0x960b0b844c66c43#64, 0x2b73bb6bcdbb48fd#64, 0x21cb57da94045e4d#64, 0xed74d19ecf821769#64, 0xcd2330e8d3db4a8c#64, 0xd37f073f62726e10#64, 0x88e3affcf2c71bac#64] := by
  unfold perm permN
  rw [takeK]
  refine foldStep pu0 ?_
  refine foldStep pu1 ?_
  refine foldStep pu2 ?_
  refine foldStep pu3 ?_
  refine foldStep pu4 ?_
  refine foldStep pu5 ?_
  refine foldStep pu6 ?_
  refine foldStep pu7 ?_
  refine foldStep pu8 ?_
  refine foldStep pu9 ?_
  refine foldStep pu10 ?_
  refine foldStep pu11 ?_
  refine foldStep pu12 ?_
  refine foldStep pu13 ?_
  refine foldStep pu14 ?_
  refine foldStep pu15 ?_
  refine foldStep pu16 ?_
  refine foldStep pu17 ?_
  refine foldStep pu18 ?_
  refine foldStep pu19 ?_
  refine foldStep pu20 ?_
  refine foldStep pu21 ?_
  refine foldStep pu22 ?_
  refine foldStep pu23 ?_
  exact List.foldl_nil
theorem puS : lastSt ([1, 1, 2, 3] ++ List.replicate 32 (0 : Int)) = [0xe17395e4cb59c4c5#64, 0x49cb770f935e5a69#64, 0x9e180ce52fd7c22f#64, 0x1056ffea75537538#64, 0x59d06ad117a4e821#64, 0x519fbb661c3753#64, 0xa13cbb86c7e2c832#64, 0x2464327b537513bb#64, 0x538c5c844418c311#64, 0x4d8352221466f458#64, 0x299dd1674b86a88c#64, 0x211da116bab8b647#64, 0x14a4686da1a0af89#64, 0x1f52ab40b84bfa7c#64, 0x7b4d1e91a40a9422#64, 0xa88912083f65b67e#64, 0x5616bd82f037a#64, 0x1bc5245ce54384d#64, 0x960b0b844c66c43#64, 0x2b73bb6bcdbb48fd#64, 0x21cb57da94045e4d#64, 0xed74d19ecf821769#64, 0xcd2330e8d3db4a8c#64, 0xd37f073f62726e10#64, 0x88e3affcf2c71bac#64] := by
  show absorbed zero (pad ([1, 1, 2, 3] ++ List.replicate 32 (0 : Int))) = _
  rw [absorbed, show xored zero (pad ([1, 1, 2, 3] ++ List.replicate 32 (0 : Int))) 17 = [0x3020101#64, 0x0#64, 0x0#64, 0x0#64, 0x600000000#64, 0x0#64, 0x0#64, 0x0#64, 0x0#64, 0x0#64, 0x0#64, 0x0#64, 0x0#64, 0x0#64, 0x0#64, 0x0#64, 0x8000000000000000#64, 0x0#64, 0x0#64, 0x0#64, 0x0#64, 0x0#64, 0x0#64, 0x0#64, 0x0#64] by decide +kernel]
  exact pu
theorem puH : sumOf ([1, 1, 2, 3] ++ List.replicate 32 (0 : Int)) = [197, 196, 89, 203, 228, 149, 115, 225, 105, 90, 94, 147, 15, 119, 203, 73, 47, 194, 215, 47, 229, 12, 24, 158, 56, 117, 83, 117, 234, 255, 86, 16] := by
  rw [sumOf, puS]
  decide +kernel
theorem pv0 : round [0x3010101#64, 0x0#64, 0x0#64, 0x0#64, 0x600000000#64, 0x0#64, 0x0#64, 0x0#64, 0x0#64, 0x0#64, 0x0#64, 0x0#64, 0x0#64, 0x0#64, 0x0#64, 0x0#64, 0x8000000000000000#64, 0x0#64, 0x0#64, 0x0#64, 0x0#64, 0x0#64, 0x0#64, 0x0#64, 0x0#64] 0x1#64 = [0x40603010101#64, 0x1190100000000030#64, 0x58080808000#64, 0x180000603010100#64, 0x1010118080808030#64, 0xc000001000000008#64, 0x2020502020200060#64, 0x1000003000000008#64, 0xe020300000000060#64, 0x1000602020200000#64, 0x1800000006020202#64, 0x602020220#64, 0x1818000000040000#64, 0x604000002#64, 0x18000000040020#64, 0x3030101c14040400#64, 0x1000004060#64, 0xc08040400#64, 0x3030101010004000#64, 0xc000060#64, 0x2101010000000003#64, 0x20006000c00#64, 0x10101000c040007#64, 0x2000020000000c00#64, 0xa040404#64] := by decide +kernel
theorem pv1 : round [0x40603010101#64, 0x1190100000000030#64, 0x58080808000#64, 0x180000603010100#64, 0x1010118080808030#64, 0xc000001000000008#64, 0x2020502020200060#64, 0x1000003000000008#64, 0xe020300000000060#64, 0x1000602020200000#64, 0x1800000006020202#64, 0x602020220#64, 0x1818000000040000#64, 0x604000002#64, 0x18000000040020#64, 0x3030101c14040400#64, 0x1000004060#64, 0xc08040400#64, 0x3030101010004000#64, 0xc000060#64, 0x2101010000000003#64, 0x20006000c00#64, 0x10101000c040007#64, 0x2000020000000c00#64, 0xa040404#64] 0x8082#64 = [0x6568718eadd51986#64, 0x39ee7f1ba80234ac#64, 0x24a6a91601286891#64, 0x9cd3c8b1b0c7263f#64, 0x29601f2c1ddfa7e#64, 0xe5aae4dd30885eee#64, 0x82e903f417bb1e26#64, 0xc9578ee5c7704a29#64, 0x6d62937c53846764#64, 0x583332c2c7f3bb9a#64, 0xc6bc1aff721e1ec2#64, 0xa4018da28d743750#64, 0xf6a83099aa0e1b4b#64, 0xf60c045f1f43052b#64, 0xf3323a90e97c2897#64, 0x259c2e3a1baf92ec#64, 0xed4d84d87ec57dce#64, 0xe851dc8da5b5dfec#64, 0x38977086a7cf904#64, 0x2d688825d9c98882#64, 0xf0a529f5a3a8152d#64, 0x3ec94edfe2f4323#64, 0xa9a5f8f9bd340e10#64, 0xd098a887334bb0d1#64, 0x6f5cedc6247cee99#64] := by decide +kernel
theorem pv2 : round [0x6568718eadd51986#64, 0x39ee7f1ba80234ac#64, 0x24a6a91601286891#64, 0x9cd3c8b1b0c7263f#64, 0x29601f2c1ddfa7e#64, 0xe5aae4dd30885eee#64, 0x82e903f417bb1e26#64, 0xc9578ee5c7704a29#64, 0x6d62937c53846764#64, 0x583332c2c7f3bb9a#64, 0xc6bc1aff721e1ec2#64, 0xa4018da28d743750#64, 0xf6a83099aa0e1b4b#64, 0xf60c045f1f43052b#64, 0xf3323a90e97c2897#64, 0x259c2e3a1baf92ec#64, 0xed4d84d87ec57dce#64, 0xe851dc8da5b5dfec#64, 0x38977086a7cf904#64, 0x2d688825d9c98882#64, 0xf0a529f5a3a8152d#64, 0x3ec94edfe2f4323#64, 0xa9a5f8f9bd340e10#64, 0xd098a887334bb0d1#64, 0x6f5cedc6247cee99#64] 0x800000000000808a#64 = [0xd59c5a0c6b789009#64, 0x83037ace078bb6d4#64, 0x7459be22b224f19e#64, 0xb287f8adb355dcd3#64, 0xdf466bb393784d4b#64, 0xcc1ccf2610239c16#64, 0xadee9dd2a6cae10b#64, 0x628da07d6515b8e6#64, 0xce63f5621c40f837#64, 0xbfab63e7e62787c5#64, 0xbb6336e80d713f29#64, 0x2b5ba39fdb54a564#64, 0x9a9bb5e2ea75ceff#64, 0x69f8dc5a7a69e44f#64, 0x5d079d02b2a76162#64, 0x5fdd9a184f05bc81#64, 0xec7174aed76ceea3#64, 0x7097a5cf70c69408#64, 0xdee526e6134df4de#64, 0x2f5d17c58f025032#64, 0x7f1aa015f68c750a#64, 0xd1c340e613015ec2#64, 0xf30cda018ac500f1#64, 0x45a5c64e9d4950f9#64, 0x17a5ae6103103f98#64] := by decide +kernel
theorem pv3 : round [0xd59c5a0c6b789009#64, 0x83037ace078bb6d4#64, 0x7459be22b224f19e#64, 0xb287f8adb355dcd3#64, 0xdf466bb393784d4b#64, 0xcc1ccf2610239c16#64, 0xadee9dd2a6cae10b#64, 0x628da07d6515b8e6#64, 0xce63f5621c40f837#64, 0xbfab63e7e62787c5#64, 0xbb6336e80d713f29#64, 0x2b5ba39fdb54a564#64, 0x9a9bb5e2ea75ceff#64, 0x69f8dc5a7a69e44f#64, 0x5d079d02b2a76162#64, 0x5fdd9a184f05bc81#64, 0xec7174aed76ceea3#64, 0x7097a5cf70c69408#64, 0xdee526e6134df4de#64, 0x2f5d17c58f025032#64, 0x7f1aa015f68c750a#64, 0xd1c340e613015ec2#64, 0xf30cda018ac500f1#64, 0x45a5c64e9d4950f9#64, 0x17a5ae6103103f98#64] 0x8000000080008000#64 = [0xa8afd398d95240fa#64, 0x77d4b90afa4ecede#64, 0xeb3965f3373a1a5f#64, 0xeeae7dcdf1fb7226#64, 0x7860d1cdc916c968#64, 0xcdb1a81a8b2fd34b#64, 0x104223976b835be6#64, 0x2b6dcd69c312d7f8#64, 0x82542a5f838694d9#64, 0x4ab418977049b9c2#64, 0x2f0dd32895dcc588#64, 0xcc6cb21b624d0c55#64, 0x2f97f6efb8f838a3#64, 0x4009f6cf31cd108f#64, 0x35a3264bb1e02050#64, 0x82f83ec5872e0981#64, 0xf228fe4d9a610c36#64, 0x5a0a9f2135ecc711#64, 0x5b0516832dc7aa15#64, 0x7a459541c98dfff9#64, 0x582169676fe28e9d#64, 0xd1676da87c0643f1#64, 0x4c794bc3c95fd036#64, 0x7bface5128a7ee62#64, 0x93fd47a158b66b2d#64] := by decide +kernel
theorem pv4 : round [0xa8afd398d95240fa#64, 0x77d4b90afa4ecede#64, 0xeb3965f3373a1a5f#64, 0xeeae7dcdf1fb7226#64, 0x7860d1cdc916c968#64, 0xcdb1a81a8b2fd34b#64, 0x104223976b835be6#64, 0x2b6dcd69c312d7f8#64, 0x82542a5f838694d9#64, 0x4ab418977049b9c2#64, 0x2f0dd32895dcc588#64, 0xcc6cb21b624d0c55#64, 0x2f97f6efb8f838a3#64, 0x4009f6cf31cd108f#64, 0x35a3264bb1e02050#64, 0x82f83ec5872e0981#64, 0xf228fe4d9a610c36#64, 0x5a0a9f2135ecc711#64, 0x5b0516832dc7aa15#64, 0x7a459541c98dfff9#64, 0x582169676fe28e9d#64, 0xd1676da87c0643f1#64, 0x4c794bc3c95fd036#64, 0x7bface5128a7ee62#64, 0x93fd47a158b66b2d#64] 0x808b#64 = [0x371ba06e2a7d380f#64, 0x9e4d873e9490663a#64, 0xf45a3dfe87649b84#64, 0xb9f5dd382c6ee57c#64, 0xb0efd73fca5a6ddb#64, 0x92615154a8b10dcd#64, 0x92a4962adae66af8#64, 0x9ddcc0beb49f43dc#64, 0xe70b83b066055a30#64, 0x3b1c045dda655e42#64, 0x2fbaacba4909bf79#64, 0x7833d516d13ee67e#64, 0x76246ed3fbd8440f#64, 0xfcae5e89e6ae943f#64, 0x594237a30b8ade12#64, 0x9fa8be7dbe8f069e#64, 0x74c5a54303c41393#64, 0x931709d9945d63b#64, 0x692e7c1538dee761#64, 0x1c1cd53d24fbfdc5#64, 0x7aed0963a38fa23e#64, 0x5992cd9f352b7255#64, 0xf4aa04085b40f050#64, 0xde04f5b999a5c45a#64, 0xca202a30dab10e0f#64] := by decide +kernel
theorem pv5 : round [0x371ba06e2a7d380f#64, 0x9e4d873e9490663a#64, 0xf45a3dfe87649b84#64, 0xb9f5dd382c6ee57c#64, 0xb0efd73fca5a6ddb#64, 0x92615154a8b10dcd#64, 0x92a4962adae66af8#64, 0x9ddcc0beb49f43dc#64, 0xe70b83b066055a30#64, 0x3b1c045dda655e42#64, 0x2fbaacba4909bf79#64, 0x7833d516d13ee67e#64, 0x76246ed3fbd8440f#64, 0xfcae5e89e6ae943f#64, 0x594237a30b8ade12#64, 0x9fa8be7dbe8f069e#64, 0x74c5a54303c41393#64, 0x931709d9945d63b#64, 0x692e7c1538dee761#64, 0x1c1cd53d24fbfdc5#64, 0x7aed0963a38fa23e#64, 0x5992cd9f352b7255#64, 0xf4aa04085b40f050#64, 0xde04f5b999a5c45a#64, 0xca202a30dab10e0f#64] 0x80000001#64 = [0x9c7bea35d84d0af3#64, 0x6209a351325bc033#64, 0x525f360ba286ba48#64, 0x115ac0d2b3b1711f#64, 0x3ea81f2175bec110#64, 0x3ffb3473792dc8fa#64, 0x84cfacb0a3fd16dc#64, 0x91a7324e70ccfb32#64, 0xa73f1bea503638a1#64, 0xd0fed6711ff17b72#64, 0x6f37677cae396ab4#64, 0xe89ecf015cb6ad79#64, 0x2c0ebc5f22291f35#64, 0x2ebeae84cbb9f3c6#64, 0xac40dc7fbb2930e6#64, 0x6c957181ab54b553#64, 0x18d2037b79be71#64, 0x17f7326edae0330d#64, 0xfccec5072f6c3d39#64, 0x6435212772797f42#64, 0x398982de854bd10a#64, 0x671e5439f39beeee#64, 0x5ec6966e1bb1391a#64, 0x5e5456d87c9b5810#64, 0x8f95b016cc1c8e3b#64] := by decide +kernel
theorem pv6 : round [0x9c7bea35d84d0af3#64, 0x6209a351325bc033#64, 0x525f360ba286ba48#64, 0x115ac0d2b3b1711f#64, 0x3ea81f2175bec110#64, 0x3ffb3473792dc8fa#64, 0x84cfacb0a3fd16dc#64, 0x91a7324e70ccfb32#64, 0xa73f1bea503638a1#64, 0xd0fed6711ff17b72#64, 0x6f37677cae396ab4#64, 0xe89ecf015cb6ad79#64, 0x2c0ebc5f22291f35#64, 0x2ebeae84cbb9f3c6#64, 0xac40dc7fbb2930e6#64, 0x6c957181ab54b553#64, 0x18d2037b79be71#64, 0x17f7326edae0330d#64, 0xfccec5072f6c3d39#64, 0x6435212772797f42#64, 0x398982de854bd10a#64, 0x671e5439f39beeee#64, 0x5ec6966e1bb1391a#64, 0x5e5456d87c9b5810#64, 0x8f95b016cc1c8e3b#64] 0x8000000080008081#64 = [0x6725831facbaa71f#64, 0xd7009f1fefaf3e15#64, 0xd4d305cab99adda2#64, 0x6368099adfc32a86#64, 0xa0a7e956b36cf9a1#64, 0xe5a1498bce1d2d0f#64, 0x1786e3567ea5db99#64, 0xa1c817ba17c22a4c#64, 0x3ecc86a63e4f4f42#64, 0x206141de459a8706#64, 0x2c18a800a25741d9#64, 0x3cbc90fb9f52746b#64, 0x49c91a1009322977#64, 0x625bae4b3d5b9aac#64, 0x3f779203fa9dac2c#64, 0x6036d4165199db0e#64, 0xcca66554cf40d89c#64, 0x4d778a7c7fa41a18#64, 0x1c7d347cd27f5511#64, 0x2f23ff02f091ab6a#64, 0xe5729a55cdb9a1f8#64, 0xc0290aaaf27f95d3#64, 0xbe77bed26bd14321#64, 0x74315e2a3ae9978f#64, 0xcce5d920e0a02aeb#64] := by decide +kernel
theorem pv7 : round [0x6725831facbaa71f#64, 0xd7009f1fefaf3e15#64, 0xd4d305cab99adda2#64, 0x6368099adfc32a86#64, 0xa0a7e956b36cf9a1#64, 0xe5a1498bce1d2d0f#64, 0x1786e3567ea5db99#64, 0xa1c817ba17c22a4c#64, 0x3ecc86a63e4f4f42#64, 0x206141de459a8706#64, 0x2c18a800a25741d9#64, 0x3cbc90fb9f52746b#64, 0x49c91a1009322977#64, 0x625bae4b3d5b9aac#64, 0x3f779203fa9dac2c#64, 0x6036d4165199db0e#64, 0xcca66554cf40d89c#64, 0x4d778a7c7fa41a18#64, 0x1c7d347cd27f5511#64, 0x2f23ff02f091ab6a#64, 0xe5729a55cdb9a1f8#64, 0xc0290aaaf27f95d3#64, 0xbe77bed26bd14321#64, 0x74315e2a3ae9978f#64, 0xcce5d920e0a02aeb#64] 0x8000000000008009#64 = [0x421819ae8637ffdf#64, 0xa6545831afe4cc64#64, 0x3e9159e0d928618f#64, 0x741b3aa0568a6462#64, 0x96adb94134187339#64, 0xed6790b1675018d0#64, 0x51c4c9bc88e08484#64, 0x980501ee46115c1c#64, 0xad9e4f9b67429ef5#64, 0xac2c92770ea49aa9#64, 0xefd4d4cf9a898d96#64, 0x8640a11a48376217#64, 0xae7fb1f63e23cec7#64, 0xe6848d77f1f4e26b#64, 0x192f5a12fef2393#64, 0xcae6e7a3392d63de#64, 0x4256565835332fb#64, 0x3314cbcdd7391487#64, 0x8f4d720097aa2c1a#64, 0x3b0b1d1f34615a97#64, 0x2619062f1a9fdab1#64, 0x7b26d1e1d8c6fa73#64, 0x7fec861e9800e69a#64, 0x3ae2ab8a4d031e5e#64, 0x887187c3a7008eb3#64] := by decide +kernel
theorem pv8 : round [0x421819ae8637ffdf#64, 0xa6545831afe4cc64#64, 0x3e9159e0d928618f#64, 0x741b3aa0568a6462#64, 0x96adb94134187339#64, 0xed6790b1675018d0#64, 0x51c4c9bc88e08484#64, 0x980501ee46115c1c#64, 0xad9e4f9b67429ef5#64, 0xac2c92770ea49aa9#64, 0xefd4d4cf9a898d96#64, 0x8640a11a48376217#64, 0xae7fb1f63e23cec7#64, 0xe6848d77f1f4e26b#64, 0x192f5a12fef2393#64, 0xcae6e7a3392d63de#64, 0x4256565835332fb#64, 0x3314cbcdd7391487#64, 0x8f4d720097aa2c1a#64, 0x3b0b1d1f34615a97#64, 0x2619062f1a9fdab1#64, 0x7b26d1e1d8c6fa73#64, 0x7fec861e9800e69a#64, 0x3ae2ab8a4d031e5e#64, 0x887187c3a7008eb3#64] 0x8a#64 = [0x8d561d67e9682cbc#64, 0x215eb75b53d340cd#64, 0x5bef0fe683d3cfe9#64, 0x97dea9224a9b5089#64, 0x97a74153126ac654#64, 0x8b085084c23db922#64, 0x9cb968892fcaa23c#64, 0x5058cd238ea2b069#64, 0x7f33718c9221e1a8#64, 0xbc1e60310ef3c8ae#64, 0x10493bda4ff83142#64, 0xeaf19c51e3e98408#64, 0xb72cf1bedb448657#64, 0x80069ea1b8bf2e9#64, 0xcbbb5381a1a00bfd#64, 0xb1f1e0d356655501#64, 0x80d508ddcb9ddd8d#64, 0x951247b590e68eaa#64, 0x22b8ef2a91c4874d#64, 0x5a622383be37cceb#64, 0x4944e7d7be3d58a2#64, 0xfddca32782c312fd#64, 0xb9d3f268e8f64f93#64, 0xa5712ea8d55e8c0c#64, 0xcdec9f8972b22e0c#64] := by decide +kernel
theorem pv9 : round [0x8d561d67e9682cbc#64, 0x215eb75b53d340cd#64, 0x5bef0fe683d3cfe9#64, 0x97dea9224a9b5089#64, 0x97a74153126ac654#64, 0x8b085084c23db922#64, 0x9cb968892fcaa23c#64, 0x5058cd238ea2b069#64, 0x7f33718c9221e1a8#64, 0xbc1e60310ef3c8ae#64, 0x10493bda4ff83142#64, 0xeaf19c51e3e98408#64, 0xb72cf1bedb448657#64, 0x80069ea1b8bf2e9#64, 0xcbbb5381a1a00bfd#64, 0xb1f1e0d356655501#64, 0x80d508ddcb9ddd8d#64, 0x951247b590e68eaa#64, 0x22b8ef2a91c4874d#64, 0x5a622383be37cceb#64, 0x4944e7d7be3d58a2#64, 0xfddca32782c312fd#64, 0xb9d3f268e8f64f93#64, 0xa5712ea8d55e8c0c#64, 0xcdec9f8972b22e0c#64] 0x88#64 = [0xeb301ec2b09d8c6#64, 0x5da0742ee166309d#64, 0xe5f24aab5ed65094#64, 0x277b934f3ceabf72#64, 0x5245df3e4d589a52#64, 0xf76c5e7aeec5d325#64, 0x68edcae56b91e58b#64, 0x94c1382718ec6100#64, 0x20e989d0361db260#64, 0x3319e768721ea2b#64, 0xe29f1c5d0e95b29f#64, 0x1e125f5a7b225ad#64, 0xd9a92f580eefa4fa#64, 0x1a332a24714e8de0#64, 0xe655aaf36163a7ff#64, 0x66615624412c3e8d#64, 0xc9e0fd0889bcf9c1#64, 0x9b5a96fdddf2aaca#64, 0xf301e04f5a7e8426#64, 0xab5abb3f5608c31b#64, 0x1fe6c40c170afdc8#64, 0x4ac31a317c72bf8b#64, 0x3624dde1a5e2b677#64, 0x2903e7a413f54795#64, 0x8f2f456c21962b7f#64] := by decide +kernel
theorem pv10 : round [0xeb301ec2b09d8c6#64, 0x5da0742ee166309d#64, 0xe5f24aab5ed65094#64, 0x277b934f3ceabf72#64, 0x5245df3e4d589a52#64, 0xf76c5e7aeec5d325#64, 0x68edcae56b91e58b#64, 0x94c1382718ec6100#64, 0x20e989d0361db260#64, 0x3319e768721ea2b#64, 0xe29f1c5d0e95b29f#64, 0x1e125f5a7b225ad#64, 0xd9a92f580eefa4fa#64, 0x1a332a24714e8de0#64, 0xe655aaf36163a7ff#64, 0x66615624412c3e8d#64, 0xc9e0fd0889bcf9c1#64, 0x9b5a96fdddf2aaca#64, 0xf301e04f5a7e8426#64, 0xab5abb3f5608c31b#64, 0x1fe6c40c170afdc8#64, 0x4ac31a317c72bf8b#64, 0x3624dde1a5e2b677#64, 0x2903e7a413f54795#64, 0x8f2f456c21962b7f#64] 0x80008009#64 = [0xf6ddeb0ac61c9e4e#64, 0xf29b707a6579695d#64, 0x5080cf1ba0eedfd0#64, 0xa85b52670692813c#64, 0xfc7eca4286724270#64, 0x3bf5759448747ec5#64, 0xae18aed931887bd9#64, 0x577ba4331b3794b0#64, 0x5809900be06d248c#64, 0x25d533a952a1b1d0#64, 0x10ae166cd7061000#64, 0x604082100d05c2a#64, 0xfa7144d7d771783e#64, 0x3e7db8c6c47418ad#64, 0xa5ad4a67bff7c21b#64, 0xc02aa84603938a7e#64, 0x756132c276272990#64, 0xba64563d29b2e193#64, 0x8a0990afcf5d1385#64, 0xb64a5dda0df20931#64, 0x73c6f223208e4a2d#64, 0x1350cbde27bf6c6b#64, 0x56aae6783c976a34#64, 0x4e955f356ff38670#64, 0x873299d2464af852#64] := by decide +kernel
theorem pv11 : round [0xf6ddeb0ac61c9e4e#64, 0xf29b707a6579695d#64, 0x5080cf1ba0eedfd0#64, 0xa85b52670692813c#64, 0xfc7eca4286724270#64, 0x3bf5759448747ec5#64, 0xae18aed931887bd9#64, 0x577ba4331b3794b0#64, 0x5809900be06d248c#64, 0x25d533a952a1b1d0#64, 0x10ae166cd7061000#64, 0x604082100d05c2a#64, 0xfa7144d7d771783e#64, 0x3e7db8c6c47418ad#64, 0xa5ad4a67bff7c21b#64, 0xc02aa84603938a7e#64, 0x756132c276272990#64, 0xba64563d29b2e193#64, 0x8a0990afcf5d1385#64, 0xb64a5dda0df20931#64, 0x73c6f223208e4a2d#64, 0x1350cbde27bf6c6b#64, 0x56aae6783c976a34#64, 0x4e955f356ff38670#64, 0x873299d2464af852#64] 0x8000000a#64 = [0xd2df03226dfa0c06#64, 0x1051f0fedb39b86#64, 0x3154de9f244bc6f5#64, 0xc3323eb5d8307e14#64, 0x2353302f7c4337d7#64, 0x5763db07357e32ac#64, 0xf364473f902f375a#64, 0x2709c6e7434eb387#64, 0xbd174cb74bf60fc0#64, 0x7ff70586f2d8f04#64, 0x3db0bb72906a526f#64, 0xaebc373e8133ed3f#64, 0xabd9a9c389569d83#64, 0x38dcd64ab94229cc#64, 0xe8646d86506c9243#64, 0x6190885f4150c7fb#64, 0x39ca9f70e3fe9a16#64, 0xaf932329e220070e#64, 0x4fe194709d8bc99a#64, 0x21ef2e0f397257bb#64, 0x465043b089467135#64, 0x8251c0b04cecac9e#64, 0x9e0121af6ff13de1#64, 0xfaa87be17102bc00#64, 0xde6500b6eff4b98f#64] := by decide +kernel
theorem pv12 : round [0xd2df03226dfa0c06#64, 0x1051f0fedb39b86#64, 0x3154de9f244bc6f5#64, 0xc3323eb5d8307e14#64, 0x2353302f7c4337d7#64, 0x5763db07357e32ac#64, 0xf364473f902f375a#64, 0x2709c6e7434eb387#64, 0xbd174cb74bf60fc0#64, 0x7ff70586f2d8f04#64, 0x3db0bb72906a526f#64, 0xaebc373e8133ed3f#64, 0xabd9a9c389569d83#64, 0x38dcd64ab94229cc#64, 0xe8646d86506c9243#64, 0x6190885f4150c7fb#64, 0x39ca9f70e3fe9a16#64, 0xaf932329e220070e#64, 0x4fe194709d8bc99a#64, 0x21ef2e0f397257bb#64, 0x465043b089467135#64, 0x8251c0b04cecac9e#64, 0x9e0121af6ff13de1#64, 0xfaa87be17102bc00#64, 0xde6500b6eff4b98f#64] 0x8000808b#64 = [0xa61849e17f64847c#64, 0x16864748591fd93d#64, 0x898a275ff877f224#64, 0x128a81e60e948c00#64, 0x6014c0a089d559b#64, 0x99eff27036394831#64, 0xd31a9fd10308b966#64, 0x80b62d2f00ab42d7#64, 0x748f15c14aa64c00#64, 0xd5d4fddb1f0e7777#64, 0x9ea33da511dcfe7#64, 0xc9cc42bdb02dd861#64, 0xcc61dae454b45cd7#64, 0xce7da7e49e4b2fec#64, 0x4782aac44778de70#64, 0x323b8d73077ff1d1#64, 0xf809833a2f6bce6a#64, 0x63f7d1177245ac80#64, 0xe3e7dbf387f207ca#64, 0x1e103a46e5b985c7#64, 0x4c58b77a9cc13be7#64, 0x5ef1d2d414c5be8e#64, 0xca05c3d026b9dfcb#64, 0x95c797082f6d26e1#64, 0x15e3794e2d47cea8#64] := by decide +kernel
theorem pv13 : round [0xa61849e17f64847c#64, 0x16864748591fd93d#64, 0x898a275ff877f224#64, 0x128a81e60e948c00#64, 0x6014c0a089d559b#64, 0x99eff27036394831#64, 0xd31a9fd10308b966#64, 0x80b62d2f00ab42d7#64, 0x748f15c14aa64c00#64, 0xd5d4fddb1f0e7777#64, 0x9ea33da511dcfe7#64, 0xc9cc42bdb02dd861#64, 0xcc61dae454b45cd7#64, 0xce7da7e49e4b2fec#64, 0x4782aac44778de70#64, 0x323b8d73077ff1d1#64, 0xf809833a2f6bce6a#64, 0x63f7d1177245ac80#64, 0xe3e7dbf387f207ca#64, 0x1e103a46e5b985c7#64, 0x4c58b77a9cc13be7#64, 0x5ef1d2d414c5be8e#64, 0xca05c3d026b9dfcb#64, 0x95c797082f6d26e1#64, 0x15e3794e2d47cea8#64] 0x800000000000008b#64 = [0xe4e1b4b9013012bb#64, 0xe7c38d0f9a97470d#64, 0xe0d820d2cbfb25c7#64, 0x5728e9d6a85e2037#64, 0x8be96159e5693dc#64, 0xf4fbf549d5109778#64, 0xe166ac76ae3915af#64, 0x407d505b114b5d0e#64, 0x23450c2592b9259f#64, 0x5987bedf6ad53155#64, 0x1f672be896aa48f5#64, 0xe86374d1e45e9f5#64, 0x5a67edda9d1d370e#64, 0xb9259b9aa3c87c1a#64, 0x434a9bf15ea3bbb5#64, 0x9e6d3049ea5922de#64, 0x925067f125e3ed14#64, 0xbc5163eae8bbcd63#64, 0x607eb30c7ee89ade#64, 0x29d4e75171450fd6#64, 0x5624c73d701319dc#64, 0xc23d8c42d8c44ebe#64, 0x98147809390bd9a#64, 0xc70b3bc9ff877eb4#64, 0x3f50a0c71c892331#64] := by decide +kernel
theorem pv14 : round [0xe4e1b4b9013012bb#64, 0xe7c38d0f9a97470d#64, 0xe0d820d2cbfb25c7#64, 0x5728e9d6a85e2037#64, 0x8be96159e5693dc#64, 0xf4fbf549d5109778#64, 0xe166ac76ae3915af#64, 0x407d505b114b5d0e#64, 0x23450c2592b9259f#64, 0x5987bedf6ad53155#64, 0x1f672be896aa48f5#64, 0xe86374d1e45e9f5#64, 0x5a67edda9d1d370e#64, 0xb9259b9aa3c87c1a#64, 0x434a9bf15ea3bbb5#64, 0x9e6d3049ea5922de#64, 0x925067f125e3ed14#64, 0xbc5163eae8bbcd63#64, 0x607eb30c7ee89ade#64, 0x29d4e75171450fd6#64, 0x5624c73d701319dc#64, 0xc23d8c42d8c44ebe#64, 0x98147809390bd9a#64, 0xc70b3bc9ff877eb4#64, 0x3f50a0c71c892331#64] 0x8000000000008089#64 = [0x50abbf2bea8cbd13#64, 0x3487dbce3c3250d3#64, 0x928617b083c80d53#64, 0x2d5aa4d0a380d066#64, 0x1278edd60092b6a4#64, 0x11f1055801ad791b#64, 0x8e2ea86c0f464d37#64, 0x487d20d4387065ff#64, 0xedab9c682019b884#64, 0xdababaefe0d937fe#64, 0x9d85c86252d7bf8f#64, 0x121a21b5019fd6bb#64, 0xd2756d55567e39a5#64, 0xddaba0fa847e714d#64, 0x206c4081f6ff894b#64, 0x89cf5794be70397#64, 0xf6d3b4955b0ea69b#64, 0x5b603efeadce3456#64, 0x38a68eeb33341ae3#64, 0xeac0f6efab547502#64, 0xab7e4e52c70681e1#64, 0xc1ba202a23c4e6bc#64, 0x95d503726f2bcaa1#64, 0xc947be5605735724#64, 0x6c311d5dc4b369c2#64] := by decide +kernel
theorem pv15 : round [0x50abbf2bea8cbd13#64, 0x3487dbce3c3250d3#64, 0x928617b083c80d53#64, 0x2d5aa4d0a380d066#64, 0x1278edd60092b6a4#64, 0x11f1055801ad791b#64, 0x8e2ea86c0f464d37#64, 0x487d20d4387065ff#64, 0xedab9c682019b884#64, 0xdababaefe0d937fe#64, 0x9d85c86252d7bf8f#64, 0x121a21b5019fd6bb#64, 0xd2756d55567e39a5#64, 0xddaba0fa847e714d#64, 0x206c4081f6ff894b#64, 0x89cf5794be70397#64, 0xf6d3b4955b0ea69b#64, 0x5b603efeadce3456#64, 0x38a68eeb33341ae3#64, 0xeac0f6efab547502#64, 0xab7e4e52c70681e1#64, 0xc1ba202a23c4e6bc#64, 0x95d503726f2bcaa1#64, 0xc947be5605735724#64, 0x6c311d5dc4b369c2#64] 0x8000000000008003#64 = [0x11018e51828c2688#64, 0x6ebe25c74ac68243#64, 0xb970456ae7c20044#64, 0x285d9e0393e8e441#64, 0x274796496bf05ffc#64, 0xf6d41de75b4c8be1#64, 0x8649955b070e85a9#64, 0x7910dbc176bcb45e#64, 0x4592a5d0356e049d#64, 0x1a64b28c8cc95929#64, 0x8d0bac768d4ba7c3#64, 0xb461e0949c011503#64, 0x5a937fe4278b3c7e#64, 0x35577f47b128d57#64, 0xcc04e8da4f17fa50#64, 0xeed0ac824c45593b#64, 0x5b97b1e0838a404c#64, 0x6c9c548b49c2af94#64, 0x56dc6adf8bfa8ecc#64, 0x79d4d015fe6af6d5#64, 0x250e8021bcab4afe#64, 0x2a7b99a349fe8c16#64, 0xb9d3f190546c05d6#64, 0xda090ea265a20e73#64, 0x83b58e29620586c1#64] := by decide +kernel
theorem pv16 : round [0x11018e51828c2688#64, 0x6ebe25c74ac68243#64, 0xb970456ae7c20044#64, 0x285d9e0393e8e441#64, 0x274796496bf05ffc#64, 0xf6d41de75b4c8be1#64, 0x8649955b070e85a9#64, 0x7910dbc176bcb45e#64, 0x4592a5d0356e049d#64, 0x1a64b28c8cc95929#64, 0x8d0bac768d4ba7c3#64, 0xb461e0949c011503#64, 0x5a937fe4278b3c7e#64, 0x35577f47b128d57#64, 0xcc04e8da4f17fa50#64, 0xeed0ac824c45593b#64, 0x5b97b1e0838a404c#64, 0x6c9c548b49c2af94#64, 0x56dc6adf8bfa8ecc#64, 0x79d4d015fe6af6d5#64, 0x250e8021bcab4afe#64, 0x2a7b99a349fe8c16#64, 0xb9d3f190546c05d6#64, 0xda090ea265a20e73#64, 0x83b58e29620586c1#64] 0x8000000000008002#64 = [0xe0f6e8fc2ba657fd#64, 0xdda0abc711e83a7d#64, 0xd9c1279bfcf2da83#64, 0x193becf2b8b5eaa0#64, 0x3d250543c60380fe#64, 0x31c30ff04492dee5#64, 0xc33ef459e86aecb2#64, 0x6dcc651c7384b1a6#64, 0x36ace86df75381eb#64, 0x4a1a8b25cd20203b#64, 0x61cc6c7770bb76cb#64, 0x2fb2c703ee2517f4#64, 0xcd71e32c26b0080d#64, 0xba53889f7c2312d9#64, 0x96627dc56a21d3d7#64, 0xc003ec91b53846ce#64, 0x9d79a32a62e0b5b1#64, 0x246c59b7e920ba29#64, 0xbe3e9ef359bf467e#64, 0x70eb3904f2e1cb14#64, 0x943597716279a1a7#64, 0x3acf51aa2177171b#64, 0x89edd360dd023da#64, 0x7af08b3fc7d4efbd#64, 0x188649246db51ecc#64] := by decide +kernel
theorem pv17 : round [0xe0f6e8fc2ba657fd#64, 0xdda0abc711e83a7d#64, 0xd9c1279bfcf2da83#64, 0x193becf2b8b5eaa0#64, 0x3d250543c60380fe#64, 0x31c30ff04492dee5#64, 0xc33ef459e86aecb2#64, 0x6dcc651c7384b1a6#64, 0x36ace86df75381eb#64, 0x4a1a8b25cd20203b#64, 0x61cc6c7770bb76cb#64, 0x2fb2c703ee2517f4#64, 0xcd71e32c26b0080d#64, 0xba53889f7c2312d9#64, 0x96627dc56a21d3d7#64, 0xc003ec91b53846ce#64, 0x9d79a32a62e0b5b1#64, 0x246c59b7e920ba29#64, 0xbe3e9ef359bf467e#64, 0x70eb3904f2e1cb14#64, 0x943597716279a1a7#64, 0x3acf51aa2177171b#64, 0x89edd360dd023da#64, 0x7af08b3fc7d4efbd#64, 0x188649246db51ecc#64] 0x8000000000000080#64 = [0xaab2a8445c8436d6#64, 0x819fe8ded6e3519d#64, 0xaa7b27ae2c35414e#64, 0x9b5d2f9a261f2c27#64, 0x5c7e94eb7f9369ac#64, 0xf2922b8fc1eddded#64, 0x7cf9312852e92ef7#64, 0x2ac1def3342ba103#64, 0xbb077f1de694e6e8#64, 0x2aef20b650479c0f#64, 0x1f673508334f6e2#64, 0x4a8fa89bea5ca5fe#64, 0x64bb717a2febb952#64, 0x5a87ddce55ad1ec8#64, 0x5329d5303970c1d3#64, 0x4265893cd6a7e2ed#64, 0x2a4331cdf8718ce1#64, 0xf6d33e7b1999a689#64, 0x84d97320798488d4#64, 0xdb376f681a264b48#64, 0x3252c785a7675d4c#64, 0x46fea7ad245724df#64, 0xc9a8d892bb833732#64, 0x374e5cca3fd257e6#64, 0x94db8df5cf53c84e#64] := by decide +kernel
theorem pv18 : round [0xaab2a8445c8436d6#64, 0x819fe8ded6e3519d#64, 0xaa7b27ae2c35414e#64, 0x9b5d2f9a261f2c27#64, 0x5c7e94eb7f9369ac#64, 0xf2922b8fc1eddded#64, 0x7cf9312852e92ef7#64, 0x2ac1def3342ba103#64, 0xbb077f1de694e6e8#64, 0x2aef20b650479c0f#64, 0x1f673508334f6e2#64, 0x4a8fa89bea5ca5fe#64, 0x64bb717a2febb952#64, 0x5a87ddce55ad1ec8#64, 0x5329d5303970c1d3#64, 0x4265893cd6a7e2ed#64, 0x2a4331cdf8718ce1#64, 0xf6d33e7b1999a689#64, 0x84d97320798488d4#64, 0xdb376f681a264b48#64, 0x3252c785a7675d4c#64, 0x46fea7ad245724df#64, 0xc9a8d892bb833732#64, 0x374e5cca3fd257e6#64, 0x94db8df5cf53c84e#64] 0x800a#64 = [0x386f74eee925646e#64, 0xb0dd0e3ac429116a#64, 0x4aec19a9f6fb034f#64, 0x23e63c2c09844522#64, 0x1554bad625ead29e#64, 0x5b0d0db6f94cc46b#64, 0xf2b7c2eff6e957ef#64, 0xe85cdc88358d0e76#64, 0x74ba060e2246d387#64, 0xd41def121141687a#64, 0x3f95d7f225484c39#64, 0xfc2f224e43f57498#64, 0xc387c33910119bd7#64, 0xaab499956d44c801#64, 0xe9b22950370e8a3e#64, 0x61bac32b563ea340#64, 0x69d8f8e667d226cf#64, 0xcb0c8b897e52bf26#64, 0xf9ec686eb367f89#64, 0xa278a1f545eddaf7#64, 0x756ba01dce2ccaf9#64, 0x707afe1238f26841#64, 0xdf490b245051ba82#64, 0xb5213c0d3fa0aea3#64, 0x67bf5a4b91067bbb#64] := by decide +kernel
theorem pv19 : round [0x386f74eee925646e#64, 0xb0dd0e3ac429116a#64, 0x4aec19a9f6fb034f#64, 0x23e63c2c09844522#64, 0x1554bad625ead29e#64, 0x5b0d0db6f94cc46b#64, 0xf2b7c2eff6e957ef#64, 0xe85cdc88358d0e76#64, 0x74ba060e2246d387#64, 0xd41def121141687a#64, 0x3f95d7f225484c39#64, 0xfc2f224e43f57498#64, 0xc387c33910119bd7#64, 0xaab499956d44c801#64, 0xe9b22950370e8a3e#64, 0x61bac32b563ea340#64, 0x69d8f8e667d226cf#64, 0xcb0c8b897e52bf26#64, 0xf9ec686eb367f89#64, 0xa278a1f545eddaf7#64, 0x756ba01dce2ccaf9#64, 0x707afe1238f26841#64, 0xdf490b245051ba82#64, 0xb5213c0d3fa0aea3#64, 0x67bf5a4b91067bbb#64] 0x800000008000000a#64 = [0x1a1c214ad6897c15#64, 0xff5afdaec9358839#64, 0xdc2415276c294d1#64, 0x545b38fbfdd4127f#64, 0x435052597fef6e29#64, 0xefa7df4568cfdf48#64, 0xc1f64a2cc9e23273#64, 0x45740231792dbd64#64, 0x519c0c3377806649#64, 0xae980a0ccc6c9b13#64, 0x8e21c5eb27a764f4#64, 0x45632782fc0f7f25#64, 0x77f97fd2cd2a7220#64, 0x427b7814bcda53e1#64, 0x9ee53726417b4463#64, 0xe6ccae0f608729e#64, 0x6acfd78cdfe57427#64, 0xb79ae4d4be762d67#64, 0xf3ab7a337c46d3e2#64, 0xe4982fbbe489dd3f#64, 0x146b55f7ff76f87e#64, 0xf17d7a47f430cab1#64, 0xf6e7450e7877aabe#64, 0xa59ee3ecd0396f8a#64, 0xaae07395bc2b2ac2#64] := by decide +kernel
theorem pv20 : round [0x1a1c214ad6897c15#64, 0xff5afdaec9358839#64, 0xdc2415276c294d1#64, 0x545b38fbfdd4127f#64, 0x435052597fef6e29#64, 0xefa7df4568cfdf48#64, 0xc1f64a2cc9e23273#64, 0x45740231792dbd64#64, 0x519c0c3377806649#64, 0xae980a0ccc6c9b13#64, 0x8e21c5eb27a764f4#64, 0x45632782fc0f7f25#64, 0x77f97fd2cd2a7220#64, 0x427b7814bcda53e1#64, 0x9ee53726417b4463#64, 0xe6ccae0f608729e#64, 0x6acfd78cdfe57427#64, 0xb79ae4d4be762d67#64, 0xf3ab7a337c46d3e2#64, 0xe4982fbbe489dd3f#64, 0x146b55f7ff76f87e#64, 0xf17d7a47f430cab1#64, 0xf6e7450e7877aabe#64, 0xa59ee3ecd0396f8a#64, 0xaae07395bc2b2ac2#64] 0x8000000080008081#64 = [0x463671a440c92db3#64, 0x507aa790adde930f#64, 0xa26d7c8dbd61e97a#64, 0x7846aed08cdee732#64, 0xb39445b927fbce19#64, 0x2aaa4537a9141120#64, 0xe8decdf43e6c26d#64, 0x9af549110d7cb91a#64, 0xe8749ac14d3928ee#64, 0x62b4005051b0fe4e#64, 0xcc1cc717aa477cd6#64, 0xa487743cf4ac68d1#64, 0xdd9df485eaae6207#64, 0xabb35c59c69c4af6#64, 0x7656d4b9741fa731#64, 0xc8211f7c62ad9575#64, 0xd9fec3b9305950ee#64, 0xe8c79d846a2b9266#64, 0x598c2f2c30ff2c3b#64, 0x8e77e6993c8021bc#64, 0xebab10a3af4f3771#64, 0x272f92ba7593ec9b#64, 0x7832a72e1b4d497c#64, 0x902fb7c1860757f0#64, 0xb61713d1e408358b#64] := by decide +kernel
theorem pv21 : round [0x463671a440c92db3#64, 0x507aa790adde930f#64, 0xa26d7c8dbd61e97a#64, 0x7846aed08cdee732#64, 0xb39445b927fbce19#64, 0x2aaa4537a9141120#64, 0xe8decdf43e6c26d#64, 0x9af549110d7cb91a#64, 0xe8749ac14d3928ee#64, 0x62b4005051b0fe4e#64, 0xcc1cc717aa477cd6#64, 0xa487743cf4ac68d1#64, 0xdd9df485eaae6207#64, 0xabb35c59c69c4af6#64, 0x7656d4b9741fa731#64, 0xc8211f7c62ad9575#64, 0xd9fec3b9305950ee#64, 0xe8c79d846a2b9266#64, 0x598c2f2c30ff2c3b#64, 0x8e77e6993c8021bc#64, 0xebab10a3af4f3771#64, 0x272f92ba7593ec9b#64, 0x7832a72e1b4d497c#64, 0x902fb7c1860757f0#64, 0xb61713d1e408358b#64] 0x8000000000008080#64 = [0xf0b2d8d5a529f3fa#64, 0x5a28a4765a5c21a3#64, 0xbaf011ed4885e63f#64, 0x45d7db7858a2ef65#64, 0x9fdf47cc9ac5809#64, 0x736b13dcf20f299f#64, 0x8827cc2ccac97511#64, 0xe153be7e75d5a254#64, 0x4c2b96aefa09b4e1#64, 0xb71e0922a422c60f#64, 0x43a33818f89bdf69#64, 0xc43f801deb6b47fe#64, 0x17b0c5605d60ff5b#64, 0x10eedad1f211de7a#64, 0x253fae3effd1f768#64, 0x7cf04f87ea3d396c#64, 0xdf5a34d3cfffd8fc#64, 0x977c5431ff69c099#64, 0xd95ba71aed149454#64, 0xadd263dc46daaf28#64, 0xf62c556cb0487153#64, 0x906084686ae8a2e2#64, 0x91ce8fc320ee256c#64, 0x589b485deb030c53#64, 0x3743e60eb0a2fa21#64] := by decide +kernel
theorem pv22 : round [0xf0b2d8d5a529f3fa#64, 0x5a28a4765a5c21a3#64, 0xbaf011ed4885e63f#64, 0x45d7db7858a2ef65#64, 0x9fdf47cc9ac5809#64, 0x736b13dcf20f299f#64, 0x8827cc2ccac97511#64, 0xe153be7e75d5a254#64, 0x4c2b96aefa09b4e1#64, 0xb71e0922a422c60f#64, 0x43a33818f89bdf69#64, 0xc43f801deb6b47fe#64, 0x17b0c5605d60ff5b#64, 0x10eedad1f211de7a#64, 0x253fae3effd1f768#64, 0x7cf04f87ea3d396c#64, 0xdf5a34d3cfffd8fc#64, 0x977c5431ff69c099#64, 0xd95ba71aed149454#64, 0xadd263dc46daaf28#64, 0xf62c556cb0487153#64, 0x906084686ae8a2e2#64, 0x91ce8fc320ee256c#64, 0x589b485deb030c53#64, 0x3743e60eb0a2fa21#64] 0x80000001#64 = [0x46ceed1e2fdcbc48#64, 0x9aca897a2cef5807#64, 0x8d6351b9676563f6#64, 0x2f72612e6b623d3f#64, 0xab7ec307df4eceb1#64, 0x5477d69fe2aed934#64, 0x97991f2ed8fe8b2#64, 0x1df6fe79037b2b07#64, 0x65d91817f77118ab#64, 0x962c0597f36a8ef3#64, 0xb900e6fc3f422b8#64, 0x7b85a88a9cb42b42#64, 0xe91e57f4faf0a9d9#64, 0x4eca30f2669c1581#64, 0xbcd8267666490896#64, 0xba70eff84fb06f3#64, 0xa9ac33a44a272af2#64, 0x683fb097065d9c6d#64, 0x7d82c8c5c93f7f3d#64, 0xec18d0543b98b32a#64, 0xb6afdd745ecda887#64, 0xf4850cce6797e00f#64, 0x58285bd4d12a84a9#64, 0x112cdfbf1c953c65#64, 0x7f143ec6a03b1925#64] := by decide +kernel
theorem pv23 : round [0x46ceed1e2fdcbc48#64, 0x9aca897a2cef5807#64, 0x8d6351b9676563f6#64, 0x2f72612e6b623d3f#64, 0xab7ec307df4eceb1#64, 0x5477d69fe2aed934#64, 0x97991f2ed8fe8b2#64, 0x1df6fe79037b2b07#64, 0x65d91817f77118ab#64, 0x962c0597f36a8ef3#64, 0xb900e6fc3f422b8#64, 0x7b85a88a9cb42b42#64, 0xe91e57f4faf0a9d9#64, 0x4eca30f2669c1581#64, 0xbcd8267666490896#64, 0xba70eff84fb06f3#64, 0xa9ac33a44a272af2#64, 0x683fb097065d9c6d#64, 0x7d82c8c5c93f7f3d#64, 0xec18d0543b98b32a#64, 0xb6afdd745ecda887#64, 0xf4850cce6797e00f#64, 0x58285bd4d12a84a9#64, 0x112cdfbf1c953c65#64, 0x7f143ec6a03b1925#64] 0x8000000080008008#64 = [0x8ea5b1b264f21888#64, 0xc42980e601d79af8#64, 0xf0f944fb792fa300#64, 0xff3493487c7a8a58#64, 0xea270bdbef4755c6#64, 0x891ec40b463e3759#64, 0x78c45362c59f8a0d#64, 0xb8ccda76d61315f0#64, 0x8e1113d2be7bc13c#64, 0x51543fdb7621ce67#64, 0xdbaeb3f274d814ff#64, 0x59b112671d74275e#64, 0xfa18a15197608c6d#64, 0xdce42e7d8acb8248#64, 0x3310b326a000195b#64, 0xabe85338fc5f1a89#64, 0x3ac70fb3cdd665f0#64, 0x4f912facfcc4b832#64, 0x81ced71d59f784d4#64, 0x2f7c30522156f034#64, 0xbc28c1a8f802f179#64, 0x808c862bd0aa0b99#64, 0x2a75c5eaa194ee4#64, 0x4a84f20e6e3ca36b#64, 0x4ef7151784dfe31d#64] := by decide +kernel
theorem pv : perm [0x3010101#64, 0x0#64, 0x0#64, 0x0#64, 0x600000000#64, 0x0#64, 0x0#64, 0x0#64, 0x0#64, 0x0#64, 0x0#64, 0x0#64, 0x0#64, 0x0#64, 0x0#64, 0x0#64, 0x8000000000000000#64, 0x0#64, 0x0#64, 0x0#64, 0x0#64, 0x0#64, 0x0#64, 0x0#64, 0x0#64] = [0x8ea5b1b264f21888#64, 0xc42980e601d79af8#64, 0xf0f944fb792fa300#64, 0xff3493487c7a8a58#64, 0xea270bdbef4755c6#64, 0x891ec40b463e3759#64, 0x78c45362c59f8a0d#64, 0xb8ccda76d61315f0#64, 0x8e1113d2be7bc13c#64, 0x51543fdb7621ce67#64, 0xdbaeb3f274d814ff#64, 0x59b112671d74275e#64, 0xfa18a15197608c6d#64, 0xdce42e7d8acb8248#64, 0x3310b326a000195b#64, 0xabe85338fc5f1a89#64, 0x3ac70fb3cdd665f0#64, 0x4f912facfcc4b832#64, 0x81ced71d59f784d4#64, 0x2f7c30522156f034#64, 0xbc28c1a8f802f179#64, 0x808c862bd0aa0b99#64, 0x2a75c5eaa194ee4#64, 0x4a84f20e6e3ca36b#64, 0x4ef7151784dfe31d#64] := by
  unfold perm permN
  rw [takeK]
  refine foldStep pv0 ?_
  refine foldStep pv1 ?_
  refine foldStep pv2 ?_
  refine foldStep pv3 ?_
  refine foldStep pv4 ?_
  refine foldStep pv5 ?_
  refine foldStep pv6 ?_
  refine foldStep pv7 ?_
  refine foldStep pv8 ?_
  refine foldStep pv9 ?_
  refine foldStep pv10 ?_
  refine foldStep pv11 ?_
  refine foldStep pv12 ?_
  refine foldStep pv13 ?_
  refine foldStep pv14 ?_
  refine foldStep pv15 ?_
  refine foldStep pv16 ?_
  refine foldStep pv17 ?_
  refine foldStep pv18 ?_
  refine foldStep pv19 ?_
  refine foldStep pv20 ?_
  refine foldStep pv21 ?_
  refine foldStep pv22 ?_
  refine foldStep pv23 ?_
  exact List.foldl_nil
theorem pvS : lastSt ([1, 1, 1, 3] ++ List.replicate 32 (0 : Int)) = [0x8ea5b1b264f21888#64, 0xc42980e601d79af8#64, 0xf0f944fb792fa300#64, 0xff3493487c7a8a58#64, 0xea270bdbef4755c6#64, 0x891ec40b463e3759#64, 0x78c45362c59f8a0d#64, 0xb8ccda76d61315f0#64, 0x8e1113d2be7bc13c#64, 0x51543fdb7621ce67#64, 0xdbaeb3f274d814ff#64, 0x59b112671d74275e#64, 0xfa18a15197608c6d#64, 0xdce42e7d8acb8248#64, 0x3310b326a000195b#64, 0xabe85338fc5f1a89#64, 0x3ac70fb3cdd665f0#64, 0x4f912facfcc4b832#64, 0x81ced71d59f784d4#64, 0x2f7c30522156f034#64, 0xbc28c1a8f802f179#64, 0x808c862bd0aa0b99#64, 0x2a75c5eaa194ee4#64, 0x4a84f20e6e3ca36b#64, 0x4ef7151784dfe31d#64] := by
  show absorbed zero (pad ([1, 1, 1, 3] ++ List.replicate 32 (0 : Int))) = _
  rw [absorbed, show xored zero (pad ([1, 1, 1, 3] ++ List.replicate 32 (0 : Int))) 17 = [0x3010101#64, 0x0#64, 0x0#64, 0x0#64, 0x600000000#64, 0x0#64, 0x0#64, 0x0#64, 0x0#64, 0x0#64, 0x0#64, 0x0#64, 0x0#64, 0x0#64, 0x0#64, 0x0#64, 0x8000000000000000#64, 0x0#64, 0x0#64, 0x0#64, 0x0#64, 0x0#64, 0x0#64, 0x0#64, 0x0#64] by decide +kernel]
  exact pv
theorem pvH : sumOf ([1, 1, 1, 3] ++ List.replicate 32 (0 : Int)) = [136, 24, 242, 100, 178, 177, 165, 142, 248, 154, 215, 1, 230, 128, 41, 196, 0, 163, 47, 121, 251, 68, 249, 240, 88, 138, 122, 124, 72, 147, 52, 255] := by
  rw [sumOf, pvS]
  decide +kernel
theorem unlike : (sumOf ([1, 1, 2, 3] ++ List.replicate 32 (0 : Int)) == sumOf ([1, 1, 1, 3] ++ List.replicate 32 (0 : Int))) = false := by rw [puH, pvH]; decide
end Kk
end Go.Proofs.Ytgalhpejihmhkaa
end
