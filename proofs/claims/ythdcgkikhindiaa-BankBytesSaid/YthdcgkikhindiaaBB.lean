/-
  Texts of this claim, put together: Obj, Writer, Writer2, Reader, Reader2, Reader3, Reader4, Reader5, Reader6. What each one says, and under which conditions, stands ahead of it.
-/
import Derived.LaidEql
import Derived.Deep.RegionWith
import Derived.Deep.RegionHeld3
import Derived.Deep.DeepCutAuto
import Derived.Test.YthdcgkikhindiaaBA

section
/-
  Objects behind pointers: a block of cells, how it is read and turned. No condition.
-/
namespace Go.Proofs.Ythdcgkikhindiaa
open Go.RowKit Go.Shelf
set_option linter.unusedVariables false
namespace Cd

/-- A block of cells. -/
def Blk (w : World) (b : Nat) (cs : Array Value) (t : TypeId) : Prop := w.heap[b]? = some (.cells cs t (0, 0))
theorem Blk.lt {w : World} {b : Nat} {cs : Array Value} {t : TypeId} (h : Blk w b cs t) : b < w.heap.size := (Array.getElem?_eq_some_iff.1 h).1
theorem Blk.cell {w : World} {b : Nat} {cs : Array Value} {t : TypeId} (h : Blk w b cs t) (i : Nat) {v : Value} (hv : cs[i]? = some v) : w.cell? ⟨b, i, none⟩ = some v := by
  rw [cell_of_row w b i cs t (0, 0) h, hv]
theorem Blk.frozen {w : World} {b : Nat} {cs : Array Value} {t : TypeId} (h : Blk w b cs t) (i : Nat) : w.frozen? ⟨b, i, none⟩ = false := frozen_of_row w b i cs t h
theorem Blk.new (w : World) (cs : Array Value) (t : TypeId) : Blk (w.alloc (.cells cs t)) w.heap.size cs t := World.alloc_heap_new w _
theorem Blk.set {w : World} {b : Nat} {cs : Array Value} {t : TypeId} (h : Blk w b cs t) (i : Nat) (v : Value) : Blk (w.setCell ⟨b, i, none⟩ v) b (cs.setIfInBounds i v) t := heap_setCell_same w b i cs t v h
theorem Blk.other {w : World} {b : Nat} {cs : Array Value} {t : TypeId} (h : Blk w b cs t) {b' : Nat} (hne : b ≠ b') (i : Nat) (v : Value) : Blk (w.setCell ⟨b', i, none⟩ v) b cs t := (heap_setCell_other w ⟨b', i, none⟩ b v hne).trans h
theorem Blk.kep {S : Nat → Prop} {w w' : World} {b : Nat} {cs : Array Value} {t : TypeId} (h : Blk w b cs t) (hk : Kep S w w') (hs : ¬ S b) : Blk w' b cs t := (hk.block b h.lt hs).trans h
theorem Blk.bel {w w' : World} {b : Nat} {cs : Array Value} {t : TypeId} (h : Blk w b cs t) (hk : Bel w w') : Blk w' b cs t := (Below.block hk b h.lt).trans h
theorem Blk.alloc {w : World} {b : Nat} {cs : Array Value} {t : TypeId} (h : Blk w b cs t) (o : Obj) : Blk (w.alloc o) b cs t := h.bel ((Bel.refl w).alloc o)
/-- A row of bytes is no block of another type. -/
theorem Blk.not_row {w : World} {b : Nat} {cs : Array Value} {t e : TypeId} (h : Blk w b cs t) (hte : t ≠ e) {base size k : Nat} {v : Value} {xs : List Value} (hr : w.ownsRow base e size v k xs) : v.ownBlock ≠ some b := by
  rcases hr.2 with ⟨rfl, _⟩ | ⟨g, cap, cur, rfl, _, hgb, _⟩
  · simp [Value.ownBlock]
  · intro e'
    obtain rfl : g = b := by simpa [Value.ownBlock] using e'
    have := (show w.heap[g]? = _ from h).symm.trans hgb
    simp at this
    exact hte this.2
theorem owns_set {w : World} {base : Nat} {e : TypeId} {size : Nat} {v : Value} {n : Nat} {xs : List Value} (ho : w.ownsRow base e size v n xs) {b : Nat} (hne : v.ownBlock ≠ some b) (i : Nat) (u : Value) : (w.setCell ⟨b, i, none⟩ u).ownsRow base e size v n xs := by
  exact Kep.owns (S := fun k => k = b) (Kep.set (S := fun k => k = b) (Kep.refl _ w) (b := b) (o := i) rfl u) (fun k hk e => hne (by rw [hk, e])) ho

theorem eqIn_self {w : World} (d : Nat) (t e : TypeId) (a : Addr) (n : Nat) (ht : Try.prog.underlying t = some (.pointer e)) (he : ∀ w, (sizeOf e).run Try.prog w = .ok n w) (hn : n ≠ 0) : (Op.equalIn (d + 1) t (.pointer (some a)) (.pointer (some a))).run Try.prog w = .ok true w := by
  simp [Op.equalIn, run_underlying ht, he, run_sameAddr_same]
theorem neq_self {w : World} (t e : TypeId) (a : Addr) (n : Nat) (ht : Try.prog.underlying t = some (.pointer e)) (he : ∀ w, (sizeOf e).run Try.prog w = .ok n w) (hn : n ≠ 0) : (binOp .neq t (.pointer (some a)) (.pointer (some a))).run Try.prog w = .ok (.bool false) w := by
  simp only [binOp]
  simp [Op.equal, Op.maxDepth, eqIn_self 9999 t e a n ht he hn]

theorem Kep.set_self {b : Nat} {a w : World} (h : Kep (fun i => i = b) a w) (o : Nat) (u : Value) : Kep (fun i => i = b) a (w.setCell ⟨b, o, none⟩ u) := Kep.set (S := fun i => i = b) h (b := b) (o := o) rfl u

/-! ### Writers -/
/-- A writer: where it lies, its limit, its row, its error. -/
structure WS (w : World) (b : Nat) (L : Int) (v : Value) (err : Int) (out : List Int) (base : Nat) : Prop where
  blk : Blk w b #[.pointer (some ⟨b, 0, none⟩), .int .i64 L, v, .int .i64 err] 101
  row : w.ownsRow base 5 1 v out.length (out.map (Value.int .u8))
  low : 0 ≤ L
  high : L ≤ 1048576
  fits : (out.length : Int) ≤ L
  base : base ≤ w.heap.size
theorem WS.kep {S : Nat → Prop} {w w' : World} {b : Nat} {L : Int} {v : Value} {err : Int} {out : List Int} {base : Nat} (h : WS w b L v err out base) (hk : Kep S w w') (h1 : ¬ S b) (h2 : ∀ k, v.ownBlock = some k → ¬ S k) : WS w' b L v err out base :=
  ⟨h.blk.kep hk h1, hk.owns h2 h.row, h.low, h.high, h.fits, Nat.le_trans h.base hk.size⟩
theorem WS.bel {w w' : World} {b : Nat} {L : Int} {v : Value} {err : Int} {out : List Int} {base : Nat} (h : WS w b L v err out base) (hk : Bel w w') : WS w' b L v err out base :=
  h.kep (S := fun _ => False) (Kep.of_bel hk) id (fun _ _ => id)

theorem newWriter_no (L : Int) (w : World) (h : L < 0 ∨ 1048576 < L) :
    Calls Try.prog 57 #[.int .i64 L] w fun e w' => e = .returned (.tuple #[.pointer none, .int .i64 3]) ∧ w = w' := by
  by_cases h0 : L < 0
  · go_enter Try.func57, Try.ntmps57
    go_wp2
    go_ret2
    exact ⟨rfl, rfl⟩
  · have h1 : 1048576 < L := by omega
    clear h
    go_enter Try.func57, Try.ntmps57
    go_wp2
    go_ret2
    exact ⟨rfl, rfl⟩
theorem newWriter (L : Int) (w : World) (h0 : 0 ≤ L) (h1 : L ≤ 1048576) :
    Calls Try.prog 57 #[.int .i64 L] w fun e w' => e = .returned (.tuple #[.pointer (some ⟨w.heap.size, 0, none⟩), .int .i64 0]) ∧ WS w' w.heap.size L (.slice none 0 0) 0 [] w.heap.size ∧ Bel w w' := by
  go_enter Try.func57, Try.ntmps57
  go_wp2
  go_ret2
  refine ⟨rfl, ⟨?_, World.ownsRow_nil _ _ _ _, h0, h1, h0, by simp⟩, (Bel.refl _).alloc _⟩
  exact Blk.new _ _ _

theorem wneq (a : Addr) (w : World) : (binOp .neq 79 (.pointer (some a)) (.pointer (some a))).run Try.prog w = .ok (.bool false) w :=
  neq_self _ 101 a 4 Try.underlying79 (fun w => Try.sizeOf101 w) (by decide)

set_option maxRecDepth 100000 in
theorem wstate (b : Nat) (L : Int) (v : Value) (err : Int) (out : List Int) (base : Nat) (w : World) (h : WS w b L v err out base) :
    Calls Try.prog 80 #[.pointer (some ⟨b, 0, none⟩)] w fun e w' => e = .returned (.int .i64 err) ∧ w = w' := by
  have c0 : w.cell? ⟨b, 0, none⟩ = some (.pointer (some ⟨b, 0, none⟩)) := h.blk.cell 0 rfl
  have c3 : w.cell? ⟨b, 3, none⟩ = some (.int .i64 err) := h.blk.cell 3 rfl
  have hq := wneq ⟨b, 0, none⟩
  clear h
  go_enter Try.func80, Try.ntmps80
  go_wp2
  go_ret
  exact ⟨rfl, rfl⟩

set_option maxRecDepth 100000 in
theorem wfail (b : Nat) (L : Int) (v : Value) (out : List Int) (base : Nat) (r : Int) (w : World) (h : WS w b L v 0 out base) :
    Calls Try.prog 81 #[.pointer (some ⟨b, 0, none⟩), .int .i64 r] w fun e w' => e = .returned (.int .i64 r) ∧ WS w' b L (.slice none 0 0) r [] base ∧ Kep (fun k => k = b) w w' := by
  have c3 : w.cell? ⟨b, 3, none⟩ = some (.int .i64 0) := h.blk.cell 3 rfl
  have c2 : w.cell? ⟨b, 2, none⟩ = some v := h.blk.cell 2 rfl
  have f2 := h.blk.frozen 2
  have f3 := h.blk.frozen 3
  have H := Lib.hid h
  clear h
  go_enter Try.func81, Try.ntmps81
  go_wp2
  go_ret
  have B := (H.out.blk.set 3 (.int .i64 r)).set 2 (.slice none 0 0)
  exact ⟨rfl, ⟨B, World.ownsRow_nil _ _ _ _, H.out.low, H.out.high, H.out.low, Nat.le_trans H.out.base (Kep.set (Kep.set (S := fun k => k = b) (Kep.refl _ w) (b := b) (o := 3) rfl _) (b := b) (o := 2) rfl _).size⟩, Kep.set (Kep.set (S := fun k => k = b) (Kep.refl _ w) (b := b) (o := 3) rfl _) (b := b) (o := 2) rfl _⟩

theorem wdone_err (b : Nat) (L : Int) (v : Value) (r : Int) (out : List Int) (base : Nat) (w : World) (h : WS w b L v r out base) (hr : r ≠ 0) :
    Calls Try.prog 60 #[.pointer (some ⟨b, 0, none⟩)] w fun e w' => e = .returned (.tuple #[.slice none 0 0, .int .i64 r]) ∧ w = w' := by
  have ST := Lib.hid (wstate b L v r out base w h)
  have f : (r != 0) = true := by rw [bne_iff_ne]; exact hr
  clear h hr
  go_enter Try.func60, Try.ntmps60
  go_wp2_with fail
  refine (ST.out).mono ?_
  rintro e w1 ⟨rfl, rfl⟩
  go_wp2
  go_ret2
  exact ⟨rfl, rfl⟩
theorem wdone (b : Nat) (L : Int) (v : Value) (out : List Int) (base : Nat) (w : World) (h : WS w b L v 0 out base) :
    Calls Try.prog 60 #[.pointer (some ⟨b, 0, none⟩)] w fun e w' => ∃ u, e = .returned (.tuple #[u, .int .i64 0]) ∧ Fresh w w' u out := by
  obtain ⟨A, c, rfl, hs⟩ := sl_of_own h.row
  have ST := Lib.hid (wstate b L _ 0 out base w h)
  have hn : out.length ≤ 1000000000 := by have := h.fits; have := h.high; omega
  have CL := Lib.hid (clone A out.length c out w hs hn)
  have c2 : w.cell? ⟨b, 2, none⟩ = some (.slice A out.length c) := h.blk.cell 2 rfl
  clear h hs
  go_enter Try.func60, Try.ntmps60
  go_wp2_with fail
  refine (ST.out).mono ?_
  rintro e w1 ⟨rfl, rfl⟩
  go_wp2_with fail
  refine (CL.out).mono ?_
  rintro e w1 ⟨u, rfl, hu⟩
  have HU := Lib.hid hu
  clear hu
  go_wp2
  go_ret2
  exact ⟨u, rfl, HU.out⟩
end Cd
end Go.Proofs.Ythdcgkikhindiaa
end

section
/-
  What the methods of a writer answer in this program: what is written, or why not; nothing else is turned but the writer and its row.
  Conditions: the writer is one that NewWriter made; slices that read as bytes and share no memory with it.
-/
namespace Go.Proofs.Ythdcgkikhindiaa
open Go.RowKit Go.Shelf
set_option linter.unusedVariables false
namespace Cd

theorem wpList_append_at {w : World} {ops : Array Oper} {rest : List Oper} {o : Oper} {a : Act} {Q : Exit → Act → World → Prop} (hgd : o.guard = none) (s x : Operand)
    (ho : o.op = .call { callee := .builtin .append, args := #[s, x], argTypes := #[43, 43] })
    (base : Nat) (v : Value) (k : Nat) (xs : List Value) (hs : a.eval s = v) (hown : w.ownsRow base 5 1 v k xs) (A : Option Addr) (m c : Nat) (zs : List Int) (hx : a.eval x = .slice A m c) (hi : Sl w A m c zs)
    (hm : k + m ≤ 1000000000000) (hb : base ≤ w.heap.size)
    (h : ∀ v' w', w'.ownsRow base 5 1 v' (k + m) (xs ++ zs.map (Value.int .u8)) → w.grownBy w' v.ownBlock → (v'.ownBlock = v.ownBlock ∨ v'.ownBlock = some w.heap.size) → wpList Try.prog ops Q rest (a.put o.dst v') w') : wpList Try.prog ops Q (o :: rest) a w := by
  obtain ⟨i0, h1, hz0, hz1, hz2⟩ := info_parts Try.info_u8
  cases A with
  | none =>
    obtain rfl : c = 0 := hi.nil rfl
    obtain rfl : m = 0 := by have := hi.cap; omega
    have hz : zs = [] := List.length_eq_zero_iff.1 hi.ints.1
    subst hz
    refine wpList_append_own_none hgd s x 43 ho base 5 i0 1 Try.underlying43 h1 v k xs hs hown hx ?_
    exact h v w (by simpa using hown) ⟨rfl, rfl, rfl, Nat.le_refl _, fun _ _ _ => rfl⟩ (.inl rfl)
  | some ad =>
    refine wpList_append_own_at w hgd s x 43 ho base 5 i0 (.int .u8 0) 1 1 Try.underlying43 h1 hz0 hz1 hz2 rfl (by decide) v k xs hs hown ad m c (zs.map (Value.int .u8)) hx (by have := hi.ints.1; simp; omega) (Ints.news hi.ints) (ints_ok zs) (by unfold maxLen; omega) (by omega) hb ?_
    intro v' w' h2 h3 _ h4
    exact h v' w' h2 h3 h4

theorem slice_of_own {w : World} {base : Nat} {e : TypeId} {size : Nat} {v : Value} {n : Nat} {xs : List Value} (h : w.ownsRow base e size v n xs) : ∃ A c, v = .slice A n c := by
  rcases h.2 with ⟨rfl, rfl⟩ | ⟨g, cap, cur, rfl, _⟩
  · exact ⟨_, _, rfl⟩
  · exact ⟨_, _, rfl⟩

/-- Slices that stand in a row of slices. -/
def Parts (w : World) (P : Nat) (ps : List (Option Addr × Nat × Nat × List Int)) : Prop :=
  ∀ i A n c zs, ps[i]? = some (A, n, c, zs) → w.cell? ⟨P, i, none⟩ = some (.slice A n c) ∧ Sl w A n c zs
/-- All of the first k. -/
def flat (ps : List (Option Addr × Nat × Nat × List Int)) (k : Nat) : List Int := ((ps.take k).map (·.2.2.2)).flatten
theorem flat_succ {ps : List (Option Addr × Nat × Nat × List Int)} {k : Nat} {A : Option Addr} {n c : Nat} {zs : List Int} (h : ps[k]? = some (A, n, c, zs)) : flat ps (k + 1) = flat ps k ++ zs := by
  unfold flat
  rw [List.take_add_one, h]
  simp
theorem flat_le (ps : List (Option Addr × Nat × Nat × List Int)) {k m : Nat} (h : k ≤ m) : (flat ps k).length ≤ (flat ps m).length := by
  induction m with
  | zero => obtain rfl : k = 0 := by omega
            exact Nat.le_refl _
  | succ m ih =>
    rcases Nat.lt_or_ge m k with h' | h'
    · obtain rfl : k = m + 1 := by omega
      exact Nat.le_refl _
    · refine Nat.le_trans (ih h') ?_
      cases hp : ps[m]? with
      | none =>
        have : ps.length ≤ m := List.getElem?_eq_none_iff.1 hp
        unfold flat
        rw [List.take_of_length_le this, List.take_of_length_le (by omega)]
        exact Nat.le_refl _
      | some p =>
        obtain ⟨A, n, c, zs⟩ := p
        rw [flat_succ hp]
        simp

/-- How a writer stands behind a thing of so many bytes. -/
def After (w : World) (b : Nat) (L r : Int) (out more : List Int) (base : Nat) : Prop :=
  (r = 0 ∧ ((out ++ more).length : Int) ≤ L ∧ ∃ v, WS w b L v 0 (out ++ more) base) ∨ (r = 4 ∧ L < ((out ++ more).length : Int) ∧ WS w b L (.slice none 0 0) 4 [] base)
/-- What a writer may turn. -/
def Own2 (b : Nat) (v : Value) : Nat → Prop := fun k => k = b ∨ v.ownBlock = some k

set_option maxRecDepth 100000 in
set_option maxHeartbeats 2000000 in
theorem write (b : Nat) (L : Int) (v : Value) (out : List Int) (base P : Nat) (ps : List (Option Addr × Nat × Nat × List Int)) (w : World) (h : WS w b L v 0 out base) (hP : Parts w P ps)
    (hb : P ≠ b) (hbv : v.ownBlock ≠ some P) (hps : ∀ (i : Nat) (A : Option Addr) (n c : Nat) (zs : List Int), ps[i]? = some (A, n, c, zs) → ∀ x : Addr, A = some x → x.block ≠ b ∧ v.ownBlock ≠ some x.block) (hl : ∀ (i : Nat) (A : Option Addr) (n c : Nat) (zs : List Int), ps[i]? = some (A, n, c, zs) → n ≤ 1000000000) (hk : ps.length ≤ 10) :
    Calls Try.prog 82 #[.pointer (some ⟨b, 0, none⟩), .slice (some ⟨P, 0, none⟩) ps.length ps.length] w fun e w' => ∃ r, e = .returned (.int .i64 r) ∧ After w' b L r out (flat ps ps.length) base ∧ Kep (Own2 b v) w w' := by
  have ST := Lib.hid (wstate b L v 0 out base w h)
  have H := Lib.hid h
  have HP := Lib.hid hP
  have HN := Lib.hid hps
  have HL := Lib.hid hl
  have h1 := h.high
  have h2 := h.low
  clear h hP hps hl
  go_enter Try.func82, Try.ntmps82
  go_wp2_with fail
  refine (ST.out).mono ?_
  rintro e w1 ⟨rfl, rfl⟩
  go_wp2_with fail
  go_loopw [15] (fun i wr => ∃ (k : Nat) (u : Value), i = .int .i64 k ∧ k ≤ ps.length ∧ WS wr b L u 0 (out ++ flat ps k) base ∧ Kep (Own2 b v) w wr ∧ (u.ownBlock = v.ownBlock ∨ ∀ g, u.ownBlock = some g → w.heap.size ≤ g)) (fun i _ => ps.length - (intOf i).toNat)
  case atStart => exact ⟨0, v, rfl, Nat.zero_le _, by simpa [flat] using H.out, Kep.refl _ _, .inl rfl⟩
  case round =>
    obtain ⟨k, u, rfl, hkn, hws, hkp, hu⟩ := hrel
    have HW := Lib.hid hws
    have HK := Lib.hid hkp
    have HU := Lib.hid hu
    clear hws hkp hu
    by_cases hlt : k < ps.length
    · obtain ⟨A, n, c, zs, hpk⟩ : ∃ A n c zs, ps[k]? = some (A, n, c, zs) := ⟨_, _, _, _, List.getElem?_eq_getElem hlt⟩
      have HPK := Lib.hid hpk
      have hcell : wr.cell? ⟨P, k, none⟩ = some (.slice A n c) := HK.out.cell (by rintro (h | h); exact hb h; exact hbv h) (HP.out k A n c zs hpk).1
      have HSL : Hid (Sl wr A n c zs) := ⟨HK.out.ints (fun x hx hs => by rcases hs with h | h; exact (HN.out k A n c zs hpk x hx).1 h; exact (HN.out k A n c zs hpk x hx).2 h) (HP.out k A n c zs hpk).2.ints, (HP.out k A n c zs hpk).2.cap, (HP.out k A n c zs hpk).2.nil⟩
      have hn := HL.out k A n c zs hpk
      obtain ⟨Au, cu, hvu, hsu⟩ := sl_of_own HW.out.row
      subst hvu
      have c1 : wr.cell? ⟨b, 1, none⟩ = some (.int .i64 L) := HW.out.blk.cell 1 rfl
      have c2 : wr.cell? ⟨b, 2, none⟩ = some (.slice Au (out ++ flat ps k).length cu) := HW.out.blk.cell 2 rfl
      have hfit := HW.out.fits
      clear hpk hsu
      generalize hlen : (out ++ flat ps k).length = m at *
      have HM := Lib.hid hlen
      clear hlen
      by_cases hx : L - (m : Int) < (n : Int)
      · have hm1 : (m : Int) ≤ L := hfit
        have e1 : IntKind.i64.wrap (L - (m : Int)) = L - (m : Int) := IntWalk.i64_in _ (by omega)
        have WF := Lib.hid (fun w' (h : WS w' b L (.slice Au m cu) 0 (out ++ flat ps k) base) => wfail b L _ _ base 4 w' h)
        have hd : decide (L - (m : Int) < (n : Int)) = true := decide_eq_true hx
        have HX := Lib.hid hx
        clear hx
        go_wp2_with fail
        go_region
        all_goals
          clear e1
          go_wp2_with fail
          refine (WF.out _ (HW.out.bel ((Bel.refl _).drew))).mono ?_
          rintro e w2 ⟨rfl, hw2, k2⟩
          go_wp2
          go_ret
          refine ⟨4, rfl, .inr ⟨rfl, ?_, hw2⟩, (HK.out.trans (Kep.of_bel ((Bel.refl _).drew))).trans (k2.mono fun i _ hi => .inl hi)⟩
          have h3 := flat_le ps (k := k + 1) (m := ps.length) hlt
          rw [flat_succ HPK.out] at h3
          have h4 := HM.out
          have h5 := HX.out
          have h6 := HSL.out.ints.1
          simp only [List.length_append] at h3 h4 ⊢
          omega
      · have hm1 : (m : Int) ≤ L := hfit
        have e1 : IntKind.i64.wrap (L - (m : Int)) = L - (m : Int) := IntWalk.i64_in _ (by omega)
        have hd : decide (L - (m : Int) < (n : Int)) = false := decide_eq_false hx
        have HX := Lib.hid hx
        have HROW := Lib.hid (show wr.drew.ownsRow base 5 1 (.slice Au m cu) m ((out ++ flat ps k).map (Value.int .u8)) by have := HW.out.row; rw [HM.out] at this; exact this)
        have HSD := Lib.hid (HSL.out.bel ((Bel.refl wr).drew))
        have HBB := Lib.hid (show Blk wr.drew b _ _ from HW.out.blk.bel ((Bel.refl wr).drew))
        have HNR := Lib.hid (HBB.out.not_row (by decide) HROW.out)
        have hmn : m + n ≤ 1000000000000 := by omega
        have HBS := Lib.hid HW.out.base
        clear hx
        go_wp2_with fail
        go_region
        all_goals
          clear e1
          go_wp2_with (at_builtin; refine wpList_append_at rfl _ _ rfl base _ m _ rfl HROW.out A n c zs rfl HSD.out hmn HBS.out ?_; intro v' w2 hown2 hgrow hat; obtain ⟨Av, cv, hv⟩ : ∃ Av cv, v' = .slice Av (m + n) cv := slice_of_own hown2; subst hv; have HO2 := Lib.hid hown2; have HG := Lib.hid hgrow; have HAT := Lib.hid hat; have HB2 := Lib.hid (show Blk w2 b _ _ from (hgrow.block b HBB.out.lt (fun e => HNR.out e.symm)).trans HBB.out); clear hown2 hgrow hat; have c2' : w2.cell? ⟨b, 2, none⟩ = some (.slice Au m cu) := HB2.out.cell 2 rfl; have f2' := HB2.out.frozen 2)
          go_roundw
          case rel =>
            have hout : out ++ flat ps (k + 1) = (out ++ flat ps k) ++ zs := by rw [flat_succ HPK.out, List.append_assoc]
            have hll : (out ++ flat ps (k + 1)).length = m + n := by rw [hout, List.length_append, HM.out, HSL.out.ints.1]
            have hrow : w2.ownsRow base 5 1 (.slice Av (m + n) cv) (out ++ flat ps (k + 1)).length ((out ++ flat ps (k + 1)).map (Value.int .u8)) := by
              rw [hll, hout, List.map_append]; exact HO2.out
            have hkk : Kep (Own2 b v) w w2 := by
              refine (HK.out.trans (Kep.of_bel ((Bel.refl _).drew))).grown HG.out (fun i hi hlt' => ?_)
              rcases HU.out with h | h
              · exact .inr (by rw [← h]; exact hi)
              · have := h i hi; omega
            have hsz : w.heap.size ≤ wr.drew.heap.size := Nat.le_trans HK.out.size (Nat.le_refl _)
            refine ⟨k + 1, .slice Av (m + n) cv, by go_num, hlt, ⟨HB2.out.set 2 _, owns_set hrow (HB2.out.not_row (by decide) hrow) 2 _, h2, h1, by have hx := HX.out; rw [hll]; omega, ?_⟩, hkk.set (.inl rfl) _, ?_⟩
            · exact Nat.le_trans HBS.out (Nat.le_trans HG.out.size (Kep.set (S := fun i => i = b) (Kep.refl _ w2) (b := b) (o := 2) rfl _).size)
            · rcases HAT.out with h | h
              · rcases HU.out with h' | h'
                · exact .inl (h.trans h')
                · exact .inr fun g hg => h' g (h ▸ hg)
              · refine .inr fun g hg => ?_
                rw [h] at hg
                injection hg with hg
                omega
          case measure => simp [intOf]; omega
    · obtain rfl : k = ps.length := by omega
      go_wp2
      go_ret
      exact ⟨0, rfl, .inl ⟨rfl, HW.out.fits, _, HW.out⟩, HK.out⟩
end Cd
end Go.Proofs.Ythdcgkikhindiaa
end

section
/-
  What U, N and Blob of a writer answer in this program.
  Conditions: the writer is one that NewWriter made, and has no error; a word; a number that is not negative; bytes that share no memory with the writer.
-/
namespace Go.Proofs.Ythdcgkikhindiaa
open Go.RowKit Go.Shelf
set_option linter.unusedVariables false
namespace Cd

theorem parts_one {w : World} {P : Nat} {A : Option Addr} {n c : Nat} {zs : List Int} {t : TypeId} (hb : Blk w P #[.slice A n c] t) (hs : Sl w A n c zs) : Parts w P [(A, n, c, zs)] := by
  intro i A' n' c' zs' h
  match i, h with
  | 0, h => simp at h; obtain ⟨rfl, rfl, rfl, rfl⟩ := h; exact ⟨hb.cell 0 rfl, hs⟩
theorem parts_two {w : World} {P : Nat} {A : Option Addr} {n c : Nat} {zs : List Int} {B : Option Addr} {m d : Nat} {ys : List Int} {t : TypeId} (hb : Blk w P #[.slice A n c, .slice B m d] t) (hs : Sl w A n c zs) (hs' : Sl w B m d ys) : Parts w P [(A, n, c, zs), (B, m, d, ys)] := by
  intro i A' n' c' zs' h
  match i, h with
  | 0, h => simp at h; obtain ⟨rfl, rfl, rfl, rfl⟩ := h; exact ⟨hb.cell 0 rfl, hs⟩
  | 1, h => simp at h; obtain ⟨rfl, rfl, rfl, rfl⟩ := h; exact ⟨hb.cell 1 rfl, hs'⟩
theorem own_block_ge {w : World} {base : Nat} {e : TypeId} {size : Nat} {A : Option Addr} {n c m : Nat} {xs : List Value} (h : w.ownsRow base e size (.slice A n c) m xs) : ∀ x, A = some x → base ≤ x.block := by
  rintro x rfl
  exact (h.lt _ rfl).1
theorem WS.row_lt {w : World} {b : Nat} {L : Int} {v : Value} {err : Int} {out : List Int} {base : Nat} (h : WS w b L v err out base) : ∀ k, v.ownBlock = some k → k < w.heap.size := fun k hk => (h.row.lt k hk).2

set_option maxRecDepth 100000 in
set_option maxHeartbeats 1000000 in
theorem wU (b : Nat) (L : Int) (v : Value) (out : List Int) (base : Nat) (x : Int) (w : World) (h : WS w b L v 0 out base) (x0 : 0 ≤ x) (x1 : x ≤ 18446744073709551615) :
    Calls Try.prog 59 #[.pointer (some ⟨b, 0, none⟩), .int .u64 x] w fun e w' => ∃ r, e = .returned (.int .i64 r) ∧ After w' b L r out (enc x) base ∧ Kep (Own2 b v) w w' := by
  have P1 := Lib.hid (fun w' => put x w' x0 x1)
  have H := Lib.hid h
  have hl := (enc_len x).2
  clear h x1
  go_enter Try.func59, Try.ntmps59
  go_wp2_with fail
  refine (P1.out _).mono ?_
  rintro e w1 ⟨u, rfl, ou, b1⟩
  have b1 : Bel w w1 := b1
  obtain ⟨A, c, hu, hs⟩ := sl_of_own ou
  subst hu
  have hge := own_block_ge ou
  have HS := Lib.hid hs
  have hlt1 : w.heap.size ≤ w1.heap.size := Below.size b1
  have hbl := H.out.blk.lt
  have hrl := H.out.row_lt
  have WR := Lib.hid (write b L v out base w1.heap.size [(A, (enc x).length, c, enc x)] _ (H.out.bel (b1.alloc (.cells #[.slice A (enc x).length c] 43))) (parts_one (Blk.new w1 _ _) (hs.bel ((Bel.refl _).alloc _))) (by omega) (fun e => by have := hrl _ e; omega)
    (by
      intro i A' n' c' zs' hi y hy
      match i, hi with
      | 0, hi =>
        simp at hi
        obtain ⟨rfl, rfl, rfl, rfl⟩ := hi
        have := hge y hy
        exact ⟨by omega, fun e => by have := hrl _ e; omega⟩)
    (by
      intro i A' n' c' zs' hi
      match i, hi with
      | 0, hi => simp at hi; omega) (by simp))
  clear hs ou hge hrl
  go_wp2_with fail
  refine (WR.out).mono ?_
  rintro e w2 ⟨r, rfl, ha, hk⟩
  have HA := Lib.hid ha
  have HK := Lib.hid ((Kep.of_bel (b1.alloc (.cells #[.slice A (enc x).length c] 43))).trans hk)
  clear ha hk
  go_wp2
  go_ret
  have h1 := HA.out
  rw [show flat [(A, (enc x).length, c, enc x)] [(A, (enc x).length, c, enc x)].length = enc x by simp [flat]] at h1
  exact ⟨r, rfl, h1, HK.out⟩

set_option maxRecDepth 100000 in
set_option maxHeartbeats 1000000 in
theorem wN (b : Nat) (L : Int) (v : Value) (out : List Int) (base : Nat) (x : Int) (w : World) (h : WS w b L v 0 out base) (x0 : 0 ≤ x) (x1 : x ≤ 9223372036854775807) :
    Calls Try.prog 58 #[.pointer (some ⟨b, 0, none⟩), .int .i64 x] w fun e w' => ∃ r, e = .returned (.int .i64 r) ∧ After w' b L r out (enc x) base ∧ Kep (Own2 b v) w w' := by
  have ST := Lib.hid (wstate b L v 0 out base w h)
  have WU := Lib.hid (wU b L v out base x w h x0 (by omega))
  clear h
  go_enter Try.func58, Try.ntmps58
  go_wp2_with fail
  refine (ST.out).mono ?_
  rintro e w1 ⟨rfl, rfl⟩
  go_wp2_with fail
  refine (WU.out).mono ?_
  rintro e w2 ⟨r, rfl, ha, hk⟩
  have HA := Lib.hid ha
  have HK := Lib.hid hk
  clear ha hk
  go_wp2
  go_ret
  exact ⟨r, rfl, HA.out, HK.out⟩

end Cd
end Go.Proofs.Ythdcgkikhindiaa
end

section
/-
  What a reader answers in this program: its state, its place, what is left, its end; what U reads.
  Conditions: the reader is one that NewReader made of at most 10^6 bytes.
-/
namespace Go.Proofs.Ythdcgkikhindiaa
open Go.RowKit Go.Shelf
set_option linter.unusedVariables false
namespace Cd

/-- A reader: where it lies, its bytes, its place, its fault's place. -/
structure RSt (w : World) (b : Nat) (A : Option Addr) (n c : Nat) (zs : List Int) (k : Nat) (F : Option Addr) : Prop where
  blk : Blk w b #[.pointer (some ⟨b, 0, none⟩), .slice A n c, .int .i64 (k : Int), .pointer F] 107
  sl : Sl w A n c zs
  len : n ≤ 1000000
  bytes : Bytes zs
  le : k ≤ n
  apart : ∀ x : Addr, A = some x → x.block ≠ b
/-- Its fault: none, or an error and a place. -/
def Flt (w : World) (b : Nat) (F : Option Addr) (f : Option (Int × Int)) : Prop :=
  (f = none ∧ F = none) ∨ (∃ e p fb, f = some (e, p) ∧ F = some ⟨fb, 0, none⟩ ∧ fb ≠ b ∧ Blk w fb #[.int .i64 e, .int .i64 p] 49 ∧ e ≠ 0)
def RS (w : World) (b : Nat) (zs : List Int) (k : Nat) (f : Option (Int × Int)) : Prop := ∃ A n c F, RSt w b A n c zs k F ∧ Flt w b F f

theorem RSt.kep {S : Nat → Prop} {w w' : World} {b : Nat} {A : Option Addr} {n c : Nat} {zs : List Int} {k : Nat} {F : Option Addr} (h : RSt w b A n c zs k F) (hk : Kep S w w') (h1 : ¬ S b) (h2 : ∀ x : Addr, A = some x → ¬ S x.block) : RSt w' b A n c zs k F :=
  ⟨h.blk.kep hk h1, ⟨hk.ints h2 h.sl.ints, h.sl.cap, h.sl.nil⟩, h.len, h.bytes, h.le, h.apart⟩
theorem RSt.bel {w w' : World} {b : Nat} {A : Option Addr} {n c : Nat} {zs : List Int} {k : Nat} {F : Option Addr} (h : RSt w b A n c zs k F) (hk : Bel w w') : RSt w' b A n c zs k F :=
  ⟨h.blk.bel hk, h.sl.bel hk, h.len, h.bytes, h.le, h.apart⟩
theorem Flt.bel {w w' : World} {b : Nat} {F : Option Addr} {f : Option (Int × Int)} (h : Flt w b F f) (hk : Bel w w') : Flt w' b F f := by
  rcases h with h | ⟨e, p, fb, h1, h2, h3, h4, h5⟩
  · exact .inl h
  · exact .inr ⟨e, p, fb, h1, h2, h3, h4.bel hk, h5⟩
theorem RS.bel {w w' : World} {b : Nat} {zs : List Int} {k : Nat} {f : Option (Int × Int)} (h : RS w b zs k f) (hk : Bel w w') : RS w' b zs k f := by
  obtain ⟨A, n, c, F, h1, h2⟩ := h
  exact ⟨A, n, c, F, h1.bel hk, h2.bel hk⟩
/-- The place moved on. -/
theorem RSt.move {w : World} {b : Nat} {A : Option Addr} {n c : Nat} {zs : List Int} {k : Nat} {F : Option Addr} (h : RSt w b A n c zs k F) {k' : Nat} (hk : k' ≤ n) : RSt (w.setCell ⟨b, 2, none⟩ (.int .i64 (k' : Int))) b A n c zs k' F :=
  ⟨h.blk.set 2 _, ⟨(Kep.set (S := fun i => i = b) (Kep.refl _ w) (b := b) (o := 2) rfl _).ints h.apart h.sl.ints, h.sl.cap, h.sl.nil⟩, h.len, h.bytes, hk, h.apart⟩
/-- A fault laid. -/
theorem RSt.fault {w : World} {b : Nat} {A : Option Addr} {n c : Nat} {zs : List Int} {k : Nat} {F : Option Addr} (h : RSt w b A n c zs k F) (G : Option Addr) : RSt (w.setCell ⟨b, 3, none⟩ (.pointer G)) b A n c zs k G :=
  ⟨h.blk.set 3 _, ⟨(Kep.set (S := fun i => i = b) (Kep.refl _ w) (b := b) (o := 3) rfl _).ints h.apart h.sl.ints, h.sl.cap, h.sl.nil⟩, h.len, h.bytes, h.le, h.apart⟩

theorem rneq (a : Addr) (w : World) : (binOp .neq 87 (.pointer (some a)) (.pointer (some a))).run Try.prog w = .ok (.bool false) w :=
  neq_self _ 107 a 4 Try.underlying87 (fun w => Try.sizeOf107 w) (by decide)

theorem newReader (A : Option Addr) (n c : Nat) (zs : List Int) (w : World) (hs : Sl w A n c zs) (hn : n ≤ 1000000) (hb : Bytes zs) :
    Calls Try.prog 62 #[.slice A n c] w fun e w' => ∃ b A' c', e = .returned (.pointer (some ⟨b, 0, none⟩)) ∧ w.heap.size ≤ b ∧ RSt w' b A' n c' zs 0 none ∧ (∀ x : Addr, A' = some x → w.heap.size ≤ x.block) ∧ Bel w w' := by
  have CL := Lib.hid (clone A n c zs w hs (by omega))
  have hl := hs.len
  clear hs
  go_enter Try.func62, Try.ntmps62
  go_wp2_with fail
  refine (CL.out).mono ?_
  rintro e w1 ⟨u, rfl, hu⟩
  obtain ⟨A', c', hv, hs'⟩ := hu.sl
  subst hv
  have b1 : Bel w w1 := hu.2
  have HS := Lib.hid hs'
  have HA : Hid (∀ x : Addr, A' = some x → w.heap.size ≤ x.block ∧ x.block < w1.heap.size) := by rintro x rfl; exact hu.1.lt _ rfl
  clear hs' hu
  have hlt1 : w.heap.size ≤ w1.heap.size := Below.size b1
  go_wp2
  go_ret
  refine ⟨w1.heap.size, A', c', rfl, hlt1, ⟨Blk.new _ _ _, ?_, hn, hb, Nat.zero_le _, fun x hx => by have := HA.out x hx; omega⟩, fun x hx => (HA.out x hx).1, b1.alloc _⟩
  have h := HS.out
  rw [hl] at h
  exact h.bel ((Bel.refl _).alloc _)

set_option maxRecDepth 100000 in
theorem trouble (b : Nat) (A : Option Addr) (n c : Nat) (zs : List Int) (k : Nat) (F : Option Addr) (w : World) (h : RSt w b A n c zs k F) :
    Calls Try.prog 89 #[.pointer (some ⟨b, 0, none⟩)] w fun e w' => e = .returned (.pointer F) ∧ w = w' := by
  have c0 : w.cell? ⟨b, 0, none⟩ = some (.pointer (some ⟨b, 0, none⟩)) := h.blk.cell 0 rfl
  have c3 : w.cell? ⟨b, 3, none⟩ = some (.pointer F) := h.blk.cell 3 rfl
  have hq := rneq ⟨b, 0, none⟩
  clear h
  go_enter Try.func89, Try.ntmps89
  go_wp2
  go_ret
  exact ⟨rfl, rfl⟩


set_option maxRecDepth 100000 in
theorem rleft_none (b : Nat) (A : Option Addr) (n c : Nat) (zs : List Int) (k : Nat) (w : World) (h : RSt w b A n c zs k none) :
    Calls Try.prog 90 #[.pointer (some ⟨b, 0, none⟩)] w fun e w' => e = .returned (.int .i64 ((n : Int) - (k : Int))) ∧ Bel w w' := by
  have T := Lib.hid (trouble b A n c zs k none w h)
  have c1 : w.cell? ⟨b, 1, none⟩ = some (.slice A n c) := h.blk.cell 1 rfl
  have c2 : w.cell? ⟨b, 2, none⟩ = some (.int .i64 (k : Int)) := h.blk.cell 2 rfl
  have h1 := h.len
  have h2 := h.le
  clear h
  go_enter Try.func90, Try.ntmps90
  go_wp2_with (go_at_call 89; refine (T.out).mono ?_; rintro e w' ⟨rfl, rfl⟩)
  have e1 : IntKind.i64.wrap ((n : Int) - (k : Int)) = (n : Int) - (k : Int) := IntWalk.i64_in _ (by omega)
  go_region
  all_goals
    go_wp2
    go_ret
    exact ⟨rfl, (Bel.refl _).drew⟩
set_option maxRecDepth 100000 in
theorem rleft_some (b : Nat) (A : Option Addr) (n c : Nat) (zs : List Int) (k : Nat) (x : Addr) (w : World) (h : RSt w b A n c zs k (some x)) :
    Calls Try.prog 90 #[.pointer (some ⟨b, 0, none⟩)] w fun e w' => e = .returned (.int .i64 0) ∧ w = w' := by
  have T := Lib.hid (trouble b A n c zs k _ w h)
  clear h
  go_enter Try.func90, Try.ntmps90
  go_wp2_with (go_at_call 89; refine (T.out).mono ?_; rintro e w' ⟨rfl, rfl⟩)
  go_ret
  exact ⟨rfl, rfl⟩

set_option maxRecDepth 100000 in
theorem rend_some (b : Nat) (A : Option Addr) (n c : Nat) (zs : List Int) (k fb : Nat) (e p : Int) (w : World) (h : RSt w b A n c zs k (some ⟨fb, 0, none⟩)) (hf : Blk w fb #[.int .i64 e, .int .i64 p] 49) :
    Calls Try.prog 65 #[.pointer (some ⟨b, 0, none⟩)] w fun r w' => r = .returned (.agg #[.int .i64 e, .int .i64 p]) ∧ Bel w w' := by
  have T := Lib.hid (fun w' (hw : Bel w w') => trouble b A n c zs k _ w' (h.bel hw))
  have hw : Bel w (w.alloc (.cells #[.int .i64 0, .int .i64 0] 49)) := (Bel.refl w).alloc _
  have c1 : (w.alloc (.cells #[.int .i64 0, .int .i64 0] 49)).cell? ⟨fb, 0, none⟩ = some (.int .i64 e) := (hf.bel hw).cell 0 rfl
  have c2 : (w.alloc (.cells #[.int .i64 0, .int .i64 0] 49)).cell? ⟨fb, 1, none⟩ = some (.int .i64 p) := (hf.bel hw).cell 1 rfl
  have HW := Lib.hid hw
  clear h hf hw
  go_enter Try.func65, Try.ntmps65
  go_wp2_with (go_at_call 89; refine (T.out _ HW.out).mono ?_; rintro e w' ⟨rfl, rfl⟩)
  refine bodyPost_ret (v := .agg #[.int .i64 e, .int .i64 p]) (by simp [results, Try.results65, go_sem]) rfl ⟨rfl, ?_⟩
  exact (Bel.refl _).alloc _
set_option maxRecDepth 100000 in
theorem rend_none (b : Nat) (A : Option Addr) (n c : Nat) (zs : List Int) (k : Nat) (w : World) (h : RSt w b A n c zs k none) :
    Calls Try.prog 65 #[.pointer (some ⟨b, 0, none⟩)] w fun r w' => r = .returned (if k < n then .agg #[.int .i64 4, .int .i64 (k : Int)] else .agg #[.int .i64 0, .int .i64 0]) ∧ Bel w w' := by
  have T := Lib.hid (fun w' (hw : Bel w w') => trouble b A n c zs k _ w' (h.bel hw))
  have LF := Lib.hid (fun w' (hw : Bel w w') => rleft_none b A n c zs k w' (h.bel hw))
  have HR := Lib.hid h
  have hw : Bel w (w.alloc (.cells #[.int .i64 0, .int .i64 0] 49)) := (Bel.refl w).alloc _
  have HW := Lib.hid hw
  have h1 := h.le
  have h2 := h.len
  clear h hw
  by_cases hlt : k < n
  · rw [if_pos hlt]
    have hd : (0 : Int) < (n : Int) - (k : Int) := by omega
    go_enter Try.func65, Try.ntmps65
    go_wp2_with fail
    refine (T.out _ HW.out).mono ?_
    rintro e w' ⟨rfl, rfl⟩
    go_wp2_with fail
    refine (LF.out _ HW.out).mono ?_
    rintro e w2 ⟨rfl, hb2⟩
    have c2 : w2.cell? ⟨b, 2, none⟩ = some (.int .i64 (k : Int)) := (HR.out.blk.bel (HW.out.trans hb2)).cell 2 rfl
    have d0 : w2.cell? ⟨w.heap.size, 0, none⟩ = some (.int .i64 0) := (Below.cell (p := ⟨w.heap.size, 0, none⟩) hb2 (by simp)).trans (by simp)
    have d1 : w2.cell? ⟨w.heap.size, 1, none⟩ = some (.int .i64 0) := (Below.cell (p := ⟨w.heap.size, 1, none⟩) hb2 (by simp)).trans (by simp)
    have f0 : w2.frozen? ⟨w.heap.size, 0, none⟩ = false := (Below.frozen (p := ⟨w.heap.size, 0, none⟩) hb2 (by simp)).trans (by simp)
    have f1 : w2.frozen? ⟨w.heap.size, 1, none⟩ = false := (Below.frozen (p := ⟨w.heap.size, 1, none⟩) hb2 (by simp)).trans (by simp)
    have hb3 : Bel w w2 := HW.out.trans hb2
    clear hb2
    go_wp2
    refine bodyPost_ret (v := .agg #[.int .i64 4, .int .i64 (k : Int)]) (by simp [results, Try.results65, go_sem, d0, d1]) rfl ⟨rfl, ?_⟩
    exact (hb3.set (Nat.le_refl _) _).set (Nat.le_refl _) _
  · rw [if_neg hlt]
    have hd : (n : Int) - (k : Int) ≤ 0 := by omega
    go_enter Try.func65, Try.ntmps65
    go_wp2_with fail
    refine (T.out _ HW.out).mono ?_
    rintro e w' ⟨rfl, rfl⟩
    go_wp2_with fail
    refine (LF.out _ HW.out).mono ?_
    rintro e w2 ⟨rfl, hb2⟩
    have d0 : w2.cell? ⟨w.heap.size, 0, none⟩ = some (.int .i64 0) := (Below.cell (p := ⟨w.heap.size, 0, none⟩) hb2 (by simp)).trans (by simp)
    have d1 : w2.cell? ⟨w.heap.size, 1, none⟩ = some (.int .i64 0) := (Below.cell (p := ⟨w.heap.size, 1, none⟩) hb2 (by simp)).trans (by simp)
    have f0 : w2.frozen? ⟨w.heap.size, 0, none⟩ = false := (Below.frozen (p := ⟨w.heap.size, 0, none⟩) hb2 (by simp)).trans (by simp)
    have f1 : w2.frozen? ⟨w.heap.size, 1, none⟩ = false := (Below.frozen (p := ⟨w.heap.size, 1, none⟩) hb2 (by simp)).trans (by simp)
    have hb3 : Bel w w2 := HW.out.trans hb2
    clear hb2
    go_wp2
    refine bodyPost_ret (v := .agg #[.int .i64 0, .int .i64 0]) (by simp [results, Try.results65, go_sem, d0, d1]) rfl ⟨rfl, ?_⟩
    exact (hb3.set (Nat.le_refl _) _).set (Nat.le_refl _) _

/-- What the end of a reader tells. -/
def endOf (n k : Nat) (f : Option (Int × Int)) : Int × Int :=
  match f with
  | some p => p
  | none => if k < n then (4, (k : Int)) else (0, 0)
def atOf (k : Nat) (f : Option (Int × Int)) : Int :=
  match f with
  | some p => p.2
  | none => k
def leftOf (n k : Nat) (f : Option (Int × Int)) : Int :=
  match f with
  | some _ => 0
  | none => (n : Int) - k
abbrev fault (p : Int × Int) : Value := .agg #[.int .i64 p.1, .int .i64 p.2]

theorem rLeft (b : Nat) (zs : List Int) (k : Nat) (f : Option (Int × Int)) (w : World) (h : RS w b zs k f) :
    Calls Try.prog 90 #[.pointer (some ⟨b, 0, none⟩)] w fun e w' => e = .returned (.int .i64 (leftOf zs.length k f)) ∧ Bel w w' := by
  obtain ⟨A, n, c, F, h, ⟨rfl, rfl⟩ | ⟨e, p, fb, rfl, rfl, h3, h4, h5⟩⟩ := h
  · have hl := h.sl.len
    subst hl
    exact rleft_none b A _ c zs k w h
  · exact (rleft_some b A n c zs k _ w h).mono fun e w' h => ⟨h.1, by rw [h.2]; exact Bel.refl _⟩
theorem rEnd (b : Nat) (zs : List Int) (k : Nat) (f : Option (Int × Int)) (w : World) (h : RS w b zs k f) :
    Calls Try.prog 65 #[.pointer (some ⟨b, 0, none⟩)] w fun e w' => e = .returned (fault (endOf zs.length k f)) ∧ Bel w w' := by
  obtain ⟨A, n, c, F, h, ⟨rfl, rfl⟩ | ⟨e, p, fb, rfl, rfl, h3, h4, h5⟩⟩ := h
  · have hl := h.sl.len
    subst hl
    refine (rend_none b A _ c zs k w h).mono fun e w' h => ⟨h.1.trans ?_, h.2⟩
    unfold endOf
    split <;> rfl
  · exact rend_some b A n c zs k fb e p w h h4
end Cd
end Go.Proofs.Ythdcgkikhindiaa
end

section
/-
  What U of a reader answers in this program.
  Conditions: the reader is one that NewReader made of at most 10^6 bytes.
-/
namespace Go.Proofs.Ythdcgkikhindiaa
open Go.RowKit Go.Shelf
set_option linter.unusedVariables false
namespace Cd

/-- How a reader moves on behind an item: where the item ends, or its fault. -/
def Moves (k : Nat) (tl e bad : Int) (k' : Nat) (f' : Option (Int × Int)) : Prop := (e = 0 ∧ (k' : Int) = tl ∧ f' = none) ∨ (e ≠ 0 ∧ k' = k ∧ f' = some (e, bad))

theorem laid (w : World) (t : TypeId) : ∀ w1, Bel (w.alloc (.cells #[.int .i64 0, .int .i64 0] t)).drew w1 → w1.cell? ⟨w.heap.size, 0, none⟩ = some (.int .i64 0) ∧ w1.cell? ⟨w.heap.size, 1, none⟩ = some (.int .i64 0) ∧ w1.frozen? ⟨w.heap.size, 0, none⟩ = false ∧ w1.frozen? ⟨w.heap.size, 1, none⟩ = false ∧ Hid (Blk w1 w.heap.size #[.int .i64 0, .int .i64 0] t) := by
  intro w1 hb
  have h := (Blk.new w #[.int .i64 0, .int .i64 0] t).bel (((Bel.refl _).drew).trans hb)
  exact ⟨h.cell 0 rfl, h.cell 1 rfl, h.frozen 0, h.frozen 1, h⟩

set_option maxRecDepth 100000 in
set_option maxHeartbeats 1000000 in
theorem itemU_fault (b : Nat) (A : Option Addr) (n c : Nat) (zs : List Int) (k : Nat) (x : Addr) (fn : Value) (w : World) (h : RSt w b A n c zs k (some x)) :
    Calls Try.prog 88 #[.pointer (some ⟨b, 0, none⟩), fn] w fun e w' => e = .returned (.int .u64 0) ∧ w = w' := by
  have T := Lib.hid (trouble b A n c zs k _ w h)
  clear h
  go_enter Try.func88, Try.ntmps88
  go_wp2_with (go_at_call 89; refine (T.out).mono ?_; rintro e w' ⟨rfl, rfl⟩)
  go_ret
  exact ⟨rfl, rfl⟩

set_option maxRecDepth 100000 in
set_option maxHeartbeats 1000000 in
theorem itemU (b : Nat) (A : Option Addr) (n c : Nat) (zs : List Int) (k : Nat) (x tl e bad : Int) (k' : Nat) (f' : Option (Int × Int)) (w : World) (h : RSt w b A n c zs k none) (hw : Way zs k x tl e bad) (hm : Moves k tl e bad k' f') (hk' : k' ≤ n) (hx : e ≠ 0 → x = 0) :
    Calls Try.prog 88 #[.pointer (some ⟨b, 0, none⟩), .func (.func 87) #[] #[]] w fun r w' => r = .returned (.int .u64 x) ∧ RS w' b zs k' f' ∧ Kep (fun i => i = b) w w' := by
  have T := Lib.hid (trouble b A n c zs k none w h)
  have H := Lib.hid h
  have G := Lib.hid (fun w' (hb : Bel w w') => (get A n c zs k x tl e bad w' (h.sl.bel hb).ints (by have := h.len; omega) h.bytes h.sl.cap hw).mono (R' := fun r w1 => r = .returned (got x tl e bad) ∧ Bel w' w1 ∧ w1.cell? ⟨b, 1, none⟩ = some (.slice A n c) ∧ w1.cell? ⟨b, 2, none⟩ = some (.int .i64 (k : Int))) fun r w1 hr => ⟨hr.1, hr.2, (h.blk.bel (hb.trans hr.2)).cell 1 rfl, (h.blk.bel (hb.trans hr.2)).cell 2 rfl⟩)
  have c1 : w.cell? ⟨b, 1, none⟩ = some (.slice A n c) := h.blk.cell 1 rfl
  have c2 : w.cell? ⟨b, 2, none⟩ = some (.int .i64 (k : Int)) := h.blk.cell 2 rfl
  have n1 := World.new_ne w _ c1
  have D := Lib.hid (laid w 49)
  clear h hw
  go_enter Try.func88, Try.ntmps88
  go_upto_region 2 with (go_at_call 89; refine (T.out).mono ?_; rintro e w' ⟨rfl, rfl⟩)
  go_cut [5, 6, 7] (fun s5 s6 s7 wx => ∃ g : Nat, s5 = .int .u64 x ∧ s6 = .int .i64 tl ∧ s7 = .pointer (some ⟨g, 0, none⟩) ∧ w.heap.size ≤ g ∧ Blk wx g #[.int .i64 e, .int .i64 bad] 49 ∧ Bel w wx)
  case first =>
    go_region_held3 (fun w' => w'.cell? ⟨b, 1, none⟩ = some (.slice A n c) ∧ w'.cell? ⟨b, 2, none⟩ = some (.int .i64 (k : Int))) (go_keep)
      (first | (go_at_call 87; first | (refine (G.out _ ?_).mono ?_; exact ((Bel.refl _).alloc _).drew; rintro r w1 ⟨rfl, hb1, k1, k2⟩; obtain ⟨d0, d1, d2, d3, dB⟩ := D.out w1 hb1; have hb2 : Bel w w1 := (((Bel.refl _).alloc _).drew).trans hb1; have hbig := Below.size hb1; clear hb1) | (refine (G.out _ ?_).mono ?_; exact (Bel.refl _).drew; rintro r w1 ⟨rfl, hb1, k1, k2⟩; have hb2 : Bel w w1 := (Bel.refl _).drew.trans hb1; clear hb1)))
    all_goals (go_wp2_with fail; go_meet; first | exact ⟨w1.heap.size, rfl, rfl, rfl, Below.size hb2, Blk.new _ _ _, hb2.alloc _⟩ | exact ⟨w.heap.size, rfl, rfl, rfl, Nat.le_refl _, (dB.out.set 0 _).set 1 _, (hb2.set (Nat.le_refl _) _).set (Nat.le_refl _) _⟩)
  case rest =>
    obtain ⟨g, rfl, rfl, rfl, hg, hG, hbel⟩ := hcut
    have HG := Lib.hid hG
    have HB := Lib.hid hbel
    have HR := Lib.hid (H.out.bel hbel)
    have g0 : wc.cell? ⟨g, 0, none⟩ = some (.int .i64 e) := hG.cell 0 rfl
    have hbl := H.out.blk.lt
    have hne : g ≠ b := by omega
    clear hG hbel c1 c2 n1
    rcases hm with ⟨rfl, rfl, rfl⟩ | ⟨he, rfl, rfl⟩
    · have k2 : wc.cell? ⟨b, 2, none⟩ = some (.int .i64 (k : Int)) := HR.out.blk.cell 2 rfl
      have f2 := HR.out.blk.frozen 2
      go_wp2
      go_ret
      exact ⟨rfl, ⟨A, n, c, none, HR.out.move hk', .inl ⟨rfl, rfl⟩⟩, (Kep.of_bel HB.out).set_self _ _⟩
    · have k3 : wc.cell? ⟨b, 3, none⟩ = some (.pointer none) := HR.out.blk.cell 3 rfl
      have f3 := HR.out.blk.frozen 3
      have fe : (e != 0) = true := by rw [bne_iff_ne]; exact he
      have HE := Lib.hid he
      have HX := Lib.hid (hx he)
      clear he hx
      go_wp2
      go_ret
      exact ⟨by rw [HX.out]; rfl, ⟨A, n, c, _, HR.out.fault (some ⟨g, 0, none⟩), .inr ⟨e, bad, g, rfl, rfl, hne, HG.out.other hne 3 _, HE.out⟩⟩, (Kep.of_bel HB.out).set_self _ _⟩
end Cd
end Go.Proofs.Ythdcgkikhindiaa
end

section
/-
  What N of a reader answers in this program.
  Conditions: the reader is one that NewReader made of at most 10^6 bytes.
-/
namespace Go.Proofs.Ythdcgkikhindiaa
open Go.RowKit Go.Shelf
set_option linter.unusedVariables false
namespace Cd

/-- What N tells: the number, the place behind it, or a fault. -/
def NWay (zs : List Int) (k : Nat) (least most x tl e bad : Int) : Prop :=
  ∃ x0 t0 e0 b0, Way zs k x0 t0 e0 b0 ∧ 0 ≤ x0 ∧ x0 ≤ 18446744073709551615 ∧ ((e0 ≠ 0 ∧ x = 0 ∧ tl = 0 ∧ e = e0 ∧ bad = b0) ∨ (e0 = 0 ∧ (x0 < least ∨ most < x0) ∧ x = 0 ∧ tl = 0 ∧ e = 3 ∧ bad = k) ∨ (e0 = 0 ∧ least ≤ x0 ∧ x0 ≤ most ∧ x = x0 ∧ tl = t0 ∧ e = 0 ∧ bad = 0))
abbrev gotI (x tl e bad : Int) : Value := .tuple #[.int .i64 x, .int .i64 tl, .agg #[.int .i64 e, .int .i64 bad]]

set_option maxRecDepth 100000 in
set_option maxHeartbeats 1000000 in
theorem n1 (A : Option Addr) (n c : Nat) (zs : List Int) (k : Nat) (least most x tl e bad : Int) (p q : Nat) (w : World) (hs : Sl w A n c zs) (hn : n ≤ 1000000) (hb : Bytes zs) (hw : NWay zs k least most x tl e bad)
    (hp : w.cell? ⟨p, 0, none⟩ = some (.int .i64 least)) (hq : w.cell? ⟨q, 0, none⟩ = some (.int .i64 most)) (hm : most ≤ 9223372036854775807) :
    Calls Try.prog 86 #[.slice A n c, .int .i64 (k : Int), .pointer (some ⟨p, 0, none⟩), .pointer (some ⟨q, 0, none⟩)] w fun r w' => r = .returned (gotI x tl e bad) ∧ Bel w w' := by
  obtain ⟨x0, t0, e0, b0, hw0, h0, h1, hcs⟩ := hw
  have G := Lib.hid (fun w' (hw : Bel w w') => get A n c zs k x0 t0 e0 b0 w' (hs.bel hw).ints (by omega) hb hs.cap hw0)
  have HP := Lib.hid hp
  have HQ := Lib.hid hq
  clear hs hb hw0 hp hq
  rcases hcs with ⟨he, rfl, rfl, rfl, rfl⟩ | ⟨rfl, hx, rfl, rfl, rfl, rfl⟩ | ⟨rfl, hx1, hx2, rfl, rfl, rfl, rfl⟩
  · have fe : (e != 0) = true := by rw [bne_iff_ne]; exact he
    clear he
    go_enter Try.func86, Try.ntmps86
    go_wp2_with fail
    refine (G.out _ ((Bel.refl _).alloc _)).mono ?_
    rintro r w1 ⟨rfl, hb1⟩
    have hbel : Bel w w1 := ((Bel.refl w).alloc _).trans hb1
    have B0 := (Blk.new w #[.int .i64 0, .int .i64 0] 49).bel hb1
    have d0 : w1.cell? ⟨w.heap.size, 0, none⟩ = some (.int .i64 0) := B0.cell 0 rfl
    have d1 : w1.cell? ⟨w.heap.size, 1, none⟩ = some (.int .i64 0) := B0.cell 1 rfl
    have d2 := B0.frozen 0
    have d3 := B0.frozen 1
    have hsz : w.heap.size < w1.heap.size := by have := Below.size hb1; simp at this; omega
    clear hb1 B0
    go_wp2_with fail
    go_region
    go_wp2
    refine bodyPost_ret (v := gotI 0 0 e bad) (by simp [results, Try.results86, go_sem, d0, d1, hsz]) rfl ⟨rfl, ?_⟩
    first
      | exact ((hbel.set (Nat.le_refl _) _).set (Nat.le_refl _) _).alloc _
      | exact (((hbel.set (Nat.le_refl _) _).set (Nat.le_refl _) _).alloc _).drew
  · have hcs : decide ((9223372036854775807 : Int) < x0) = true ∨ (x0 ≤ 9223372036854775807 ∧ decide (x0 < least) = true) ∨ (x0 ≤ 9223372036854775807 ∧ decide (x0 < least) = false ∧ decide (most < x0) = true) := by
      rcases Int.lt_or_le 9223372036854775807 x0 with h | h
      · exact .inl (decide_eq_true h)
      · rcases Int.lt_or_le x0 least with h' | h'
        · exact .inr (.inl ⟨h, decide_eq_true h'⟩)
        · exact .inr (.inr ⟨h, decide_eq_false (by omega), decide_eq_true (by omega)⟩)
    clear hx
    go_enter Try.func86, Try.ntmps86
    go_wp2_with fail
    refine (G.out _ ((Bel.refl _).alloc _)).mono ?_
    rintro r w1 ⟨rfl, hb1⟩
    have hbel : Bel w w1 := ((Bel.refl w).alloc _).trans hb1
    have B0 := (Blk.new w #[.int .i64 0, .int .i64 0] 49).bel hb1
    have d0 : w1.cell? ⟨w.heap.size, 0, none⟩ = some (.int .i64 0) := B0.cell 0 rfl
    have d1 : w1.cell? ⟨w.heap.size, 1, none⟩ = some (.int .i64 0) := B0.cell 1 rfl
    have d2 := B0.frozen 0
    have d3 := B0.frozen 1
    have hsz : w.heap.size < w1.heap.size := by have := Below.size hb1; simp at this; omega
    have k1 : w1.cell? ⟨p, 0, none⟩ = some (.int .i64 least) := (Kep.of_bel (S := fun _ => False) hbel).cell id HP.out
    have k2 : w1.cell? ⟨q, 0, none⟩ = some (.int .i64 most) := (Kep.of_bel (S := fun _ => False) hbel).cell id HQ.out
    have l1 : p < w1.heap.size := World.block_lt_of_cell? w1 ⟨p, 0, none⟩ k1
    have l2 : q < w1.heap.size := World.block_lt_of_cell? w1 ⟨q, 0, none⟩ k2
    clear hb1 B0
    rcases hcs with f1 | ⟨f0, f1⟩ | ⟨f0, f1, f2⟩
    all_goals
      go_wp2
      refine bodyPost_ret (v := gotI 0 0 3 k) (by simp [results, Try.results86, go_sem, d0, d1, hsz]) rfl ⟨rfl, ?_⟩
      first
        | exact ((hbel.set (Nat.le_refl _) _).set (Nat.le_refl _) _).alloc _
        | exact (((hbel.set (Nat.le_refl _) _).set (Nat.le_refl _) _).alloc _).drew
  · have f0 : x ≤ 9223372036854775807 := by omega
    have f1 : decide (x < least) = false := decide_eq_false (by omega)
    have f2 : decide (most < x) = false := decide_eq_false (by omega)
    clear hx1 hx2
    go_enter Try.func86, Try.ntmps86
    go_wp2_with fail
    refine (G.out _ ((Bel.refl _).alloc _)).mono ?_
    rintro r w1 ⟨rfl, hb1⟩
    have hbel : Bel w w1 := ((Bel.refl w).alloc _).trans hb1
    have B0 := (Blk.new w #[.int .i64 0, .int .i64 0] 49).bel hb1
    have d0 : w1.cell? ⟨w.heap.size, 0, none⟩ = some (.int .i64 0) := B0.cell 0 rfl
    have d1 : w1.cell? ⟨w.heap.size, 1, none⟩ = some (.int .i64 0) := B0.cell 1 rfl
    have d2 := B0.frozen 0
    have d3 := B0.frozen 1
    have hsz : w.heap.size < w1.heap.size := by have := Below.size hb1; simp at this; omega
    have k1 : w1.cell? ⟨p, 0, none⟩ = some (.int .i64 least) := (Kep.of_bel (S := fun _ => False) hbel).cell id HP.out
    have k2 : w1.cell? ⟨q, 0, none⟩ = some (.int .i64 most) := (Kep.of_bel (S := fun _ => False) hbel).cell id HQ.out
    have l1 : p < w1.heap.size := World.block_lt_of_cell? w1 ⟨p, 0, none⟩ k1
    have l2 : q < w1.heap.size := World.block_lt_of_cell? w1 ⟨q, 0, none⟩ k2
    clear hb1 B0
    go_wp2
    refine bodyPost_ret (v := gotI x tl 0 0) (by simp [results, Try.results86, go_sem, d0, d1, hsz]) rfl ⟨rfl, ?_⟩
    first
      | exact ((hbel.set (Nat.le_refl _) _).set (Nat.le_refl _) _).alloc _
      | exact (((hbel.set (Nat.le_refl _) _).set (Nat.le_refl _) _).alloc _).drew

set_option maxRecDepth 100000 in
set_option maxHeartbeats 1000000 in
theorem itemN_fault (b : Nat) (A : Option Addr) (n c : Nat) (zs : List Int) (k : Nat) (x : Addr) (fn : Value) (w : World) (h : RSt w b A n c zs k (some x)) :
    Calls Try.prog 85 #[.pointer (some ⟨b, 0, none⟩), fn] w fun e w' => e = .returned (.int .i64 0) ∧ w = w' := by
  have T := Lib.hid (trouble b A n c zs k _ w h)
  clear h
  go_enter Try.func85, Try.ntmps85
  go_wp2_with (go_at_call 89; refine (T.out).mono ?_; rintro e w' ⟨rfl, rfl⟩)
  go_ret
  exact ⟨rfl, rfl⟩

set_option maxRecDepth 100000 in
set_option maxHeartbeats 1000000 in
theorem itemN (b : Nat) (A : Option Addr) (n c : Nat) (zs : List Int) (k : Nat) (x tl e bad : Int) (k' : Nat) (f' : Option (Int × Int)) (w : World) (h : RSt w b A n c zs k none) (p q : Addr) (hG : ∀ w', Bel w w' → Calls Try.prog 86 #[.slice A n c, .int .i64 (k : Int), .pointer (some p), .pointer (some q)] w' fun r w1 => r = .returned (gotI x tl e bad) ∧ Bel w' w1) (hm : Moves k tl e bad k' f') (hk' : k' ≤ n) (hx : e ≠ 0 → x = 0) :
    Calls Try.prog 85 #[.pointer (some ⟨b, 0, none⟩), .func (.func 86) #[] #[.pointer (some p), .pointer (some q)]] w fun r w' => r = .returned (.int .i64 x) ∧ RS w' b zs k' f' ∧ Kep (fun i => i = b) w w' := by
  have T := Lib.hid (trouble b A n c zs k none w h)
  have H := Lib.hid h
  have G := Lib.hid (fun w' (hb : Bel w w') => (hG w' hb).mono (R' := fun r w1 => r = .returned (gotI x tl e bad) ∧ Bel w' w1 ∧ w1.cell? ⟨b, 1, none⟩ = some (.slice A n c) ∧ w1.cell? ⟨b, 2, none⟩ = some (.int .i64 (k : Int))) fun r w1 hr => ⟨hr.1, hr.2, (h.blk.bel (hb.trans hr.2)).cell 1 rfl, (h.blk.bel (hb.trans hr.2)).cell 2 rfl⟩)
  have c1 : w.cell? ⟨b, 1, none⟩ = some (.slice A n c) := h.blk.cell 1 rfl
  have c2 : w.cell? ⟨b, 2, none⟩ = some (.int .i64 (k : Int)) := h.blk.cell 2 rfl
  have n1 := World.new_ne w _ c1
  have D := Lib.hid (laid w 49)
  clear h hG
  go_enter Try.func85, Try.ntmps85
  go_upto_region 2 with (go_at_call 89; refine (T.out).mono ?_; rintro e w' ⟨rfl, rfl⟩)
  go_cut [5, 6, 7] (fun s5 s6 s7 wx => ∃ g : Nat, s5 = .int .i64 x ∧ s6 = .int .i64 tl ∧ s7 = .pointer (some ⟨g, 0, none⟩) ∧ w.heap.size ≤ g ∧ Blk wx g #[.int .i64 e, .int .i64 bad] 49 ∧ Bel w wx)
  case first =>
    go_region_held3 (fun w' => w'.cell? ⟨b, 1, none⟩ = some (.slice A n c) ∧ w'.cell? ⟨b, 2, none⟩ = some (.int .i64 (k : Int))) (go_keep)
      (first | (go_at_call 86; first | (refine (G.out _ ?_).mono ?_; exact ((Bel.refl _).alloc _).drew; rintro r w1 ⟨rfl, hb1, k1, k2⟩; obtain ⟨d0, d1, d2, d3, dB⟩ := D.out w1 hb1; have hb2 : Bel w w1 := (((Bel.refl _).alloc _).drew).trans hb1; have hbig := Below.size hb1; clear hb1) | (refine (G.out _ ?_).mono ?_; exact (Bel.refl _).drew; rintro r w1 ⟨rfl, hb1, k1, k2⟩; have hb2 : Bel w w1 := (Bel.refl _).drew.trans hb1; clear hb1)))
    all_goals (go_wp2_with fail; go_meet; first | exact ⟨w1.heap.size, rfl, rfl, rfl, Below.size hb2, Blk.new _ _ _, hb2.alloc _⟩ | exact ⟨w.heap.size, rfl, rfl, rfl, Nat.le_refl _, (dB.out.set 0 _).set 1 _, (hb2.set (Nat.le_refl _) _).set (Nat.le_refl _) _⟩)
  case rest =>
    obtain ⟨g, rfl, rfl, rfl, hg, hG, hbel⟩ := hcut
    have HG := Lib.hid hG
    have HB := Lib.hid hbel
    have HR := Lib.hid (H.out.bel hbel)
    have g0 : wc.cell? ⟨g, 0, none⟩ = some (.int .i64 e) := hG.cell 0 rfl
    have hbl := H.out.blk.lt
    have hne : g ≠ b := by omega
    clear hG hbel c1 c2 n1
    rcases hm with ⟨rfl, rfl, rfl⟩ | ⟨he, rfl, rfl⟩
    · have k2 : wc.cell? ⟨b, 2, none⟩ = some (.int .i64 (k : Int)) := HR.out.blk.cell 2 rfl
      have f2 := HR.out.blk.frozen 2
      go_wp2
      go_ret
      exact ⟨rfl, ⟨A, n, c, none, HR.out.move hk', .inl ⟨rfl, rfl⟩⟩, (Kep.of_bel HB.out).set_self _ _⟩
    · have k3 : wc.cell? ⟨b, 3, none⟩ = some (.pointer none) := HR.out.blk.cell 3 rfl
      have f3 := HR.out.blk.frozen 3
      have fe : (e != 0) = true := by rw [bne_iff_ne]; exact he
      have HE := Lib.hid he
      have HX := Lib.hid (hx he)
      clear he hx
      go_wp2
      go_ret
      exact ⟨by rw [HX.out]; rfl, ⟨A, n, c, _, HR.out.fault (some ⟨g, 0, none⟩), .inr ⟨e, bad, g, rfl, rfl, hne, HG.out.other hne 3 _, HE.out⟩⟩, (Kep.of_bel HB.out).set_self _ _⟩
end Cd
end Go.Proofs.Ythdcgkikhindiaa
end

section
/-
  What Blob of a reader answers in this program, and its items in general.
  Conditions: the reader is one that NewReader made of at most 10^6 bytes.
-/
namespace Go.Proofs.Ythdcgkikhindiaa
open Go.RowKit Go.Shelf
set_option linter.unusedVariables false
namespace Cd

/-- What Blob tells: the bytes, the place behind them, or a fault. -/
def BWay (zs : List Int) (k : Nat) (most : Int) (ys : List Int) (tl e bad : Int) : Prop :=
  ∃ x0 t0 e0 b0, Way zs k x0 t0 e0 b0 ∧ 0 ≤ x0 ∧ x0 ≤ 18446744073709551615 ∧ ((e0 ≠ 0 ∧ ys = [] ∧ tl = 0 ∧ e = e0 ∧ bad = b0) ∨ (e0 = 0 ∧ (most < 0 ∨ most < x0) ∧ ys = [] ∧ tl = 0 ∧ e = 4 ∧ bad = k) ∨
    (∃ t : Nat, t0 = t ∧ t ≤ zs.length ∧ e0 = 0 ∧ 0 ≤ most ∧ x0 ≤ most ∧ (zs.length : Int) - t < x0 ∧ ys = [] ∧ tl = 0 ∧ e = 6 ∧ bad = k) ∨
    (∃ t m : Nat, t0 = t ∧ x0 = m ∧ t + m ≤ zs.length ∧ e0 = 0 ∧ 0 ≤ most ∧ x0 ≤ most ∧ ys = (zs.drop t).take m ∧ tl = ((t + m : Nat) : Int) ∧ e = 0 ∧ bad = 0))
abbrev gotV (v : Value) (tl e bad : Int) : Value := .tuple #[v, .int .i64 tl, .agg #[.int .i64 e, .int .i64 bad]]

/-- A part of a slice, as the program cuts it. -/
theorem sl_part {A : Option Addr} {n c : Nat} {zs : List Int} {w : World} (hs : Sl w A n c zs) (k m : Nat) (hk : k + m ≤ n) :
    ∃ A', (∀ w' : World, (Instr.slice 43 (.slice A n c) (some (.int .i64 (k : Int))) (some (.int .i64 ((k + m : Nat) : Int))) none).run Try.prog w' = .ok (.slice A' m (c - k)) w') ∧ Sl w A' m (c - k) ((zs.drop k).take m) := by
  have hc := hs.cap
  refine ⟨_, fun w' => ?_, hs.ints.part hk hc, by omega, fun h => ?_⟩
  · rw [slice_lh A n c k ((k + m : Nat) : Int) w' (by omega) (by omega) (by omega)]
    simp only [Int.toNat_natCast, Nat.add_sub_cancel_left]
  · split at h
    · omega
    · have : A = none := by cases A with | none => rfl | some a => simp at h
      have := hs.nil this
      omega

end Cd
end Go.Proofs.Ythdcgkikhindiaa
end

section
/-
  What item of a reader answers in this program where the item is bytes, and what U, N and Blob answer.
  Conditions: the reader is one that NewReader made of at most 10^6 bytes.
-/
namespace Go.Proofs.Ythdcgkikhindiaa
open Go.RowKit Go.Shelf
set_option linter.unusedVariables false
namespace Cd

theorem own_ne {w : World} {base : Nat} {e : TypeId} {size : Nat} {v : Value} {n : Nat} {xs : List Value} (h : w.ownsRow base e size v n xs) {b : Nat} (hb : b < base) : v.ownBlock ≠ some b := fun e => by
  have := (h.lt _ e).1
  omega
theorem own_set2 {w w1 : World} {v : Value} {n : Nat} {xs : List Value} {o : Obj} (h : w1.ownsRow (w.alloc o).drew.heap.size 5 1 v n xs) {u1 u2 : Value} : Hid (((w1.setCell ⟨w.heap.size, 0, none⟩ u1).setCell ⟨w.heap.size, 1, none⟩ u2).ownsRow w.heap.size 5 1 v n xs) := by
  have hne : v.ownBlock ≠ some w.heap.size := fun e => by have := (h.lt _ e).1; simp at this; omega
  exact owns_set (owns_set (owns_mono h (by simp)) hne 0 _) hne 1 _



def RU (zs : List Int) (k : Nat) (f : Option (Int × Int)) (x : Int) (k' : Nat) (f' : Option (Int × Int)) : Prop :=
  (∃ p, f = some p ∧ x = 0 ∧ k' = k ∧ f' = f) ∨ (f = none ∧ ∃ tl e bad, Way zs k x tl e bad ∧ Moves k tl e bad k' f' ∧ k' ≤ zs.length ∧ (e ≠ 0 → x = 0))
def RN (zs : List Int) (k : Nat) (f : Option (Int × Int)) (least most x : Int) (k' : Nat) (f' : Option (Int × Int)) : Prop :=
  (∃ p, f = some p ∧ x = 0 ∧ k' = k ∧ f' = f) ∨ (f = none ∧ ∃ tl e bad, NWay zs k least most x tl e bad ∧ Moves k tl e bad k' f' ∧ k' ≤ zs.length ∧ (e ≠ 0 → x = 0))
def RB (zs : List Int) (k : Nat) (f : Option (Int × Int)) (most : Int) (ys : List Int) (k' : Nat) (f' : Option (Int × Int)) : Prop :=
  (∃ p, f = some p ∧ ys = [] ∧ k' = k ∧ f' = f) ∨ (f = none ∧ ∃ tl e bad, BWay zs k most ys tl e bad ∧ Moves k tl e bad k' f' ∧ k' ≤ zs.length ∧ (e ≠ 0 → ys = []))

theorem rU (b : Nat) (zs : List Int) (k : Nat) (f : Option (Int × Int)) (x : Int) (k' : Nat) (f' : Option (Int × Int)) (w : World) (h : RS w b zs k f) (hr : RU zs k f x k' f') :
    Calls Try.prog 64 #[.pointer (some ⟨b, 0, none⟩)] w fun e w' => e = .returned (.int .u64 x) ∧ RS w' b zs k' f' ∧ Kep (fun i => i = b) w w' := by
  obtain ⟨A, n, c, F, hs, hf⟩ := h
  rcases hr with ⟨p, rfl, rfl, rfl, rfl⟩ | ⟨rfl, tl, e, bad, hw, hm, hk, hx⟩
  · obtain ⟨_, _⟩ | ⟨e, q, fb, h1, rfl, h3, h4, h5⟩ := hf
    · contradiction
    have IT := Lib.hid (itemU_fault b A n c zs k' ⟨fb, 0, none⟩ (.func (.func 87) #[] #[]) w hs)
    have HR : Hid (RS w b zs k' (some p)) := ⟨A, n, c, _, hs, .inr ⟨e, q, fb, h1, rfl, h3, h4, h5⟩⟩
    clear hs h1 h3 h4 h5
    go_enter Try.func64, Try.ntmps64
    go_wp2_with fail
    refine (IT.out).mono ?_
    rintro e w' ⟨rfl, rfl⟩
    go_wp2
    go_ret
    exact ⟨rfl, HR.out, Kep.refl _ _⟩
  · obtain ⟨_, rfl⟩ | ⟨e, q, fb, h1, _⟩ := hf
    · have IT := Lib.hid (itemU b A n c zs k x tl e bad k' f' w hs hw hm (by rw [← hs.sl.len]; exact hk) hx)
      clear hs hw hm hk hx
      go_enter Try.func64, Try.ntmps64
      go_wp2_with fail
      refine (IT.out).mono ?_
      rintro e w' ⟨rfl, h1, h2⟩
      have H1 := Lib.hid h1
      have H2 := Lib.hid h2
      clear h1 h2
      go_wp2
      go_ret
      exact ⟨rfl, H1.out, H2.out⟩
    · cases h1
end Cd
end Go.Proofs.Ythdcgkikhindiaa
end

section
/-
  What N and Blob of a reader answer in this program, and Fail.
  Conditions: the reader is one that NewReader made of at most 10^6 bytes.
-/
namespace Go.Proofs.Ythdcgkikhindiaa
open Go.RowKit Go.Shelf
set_option linter.unusedVariables false
namespace Cd

theorem bel_cell {w w' : World} (h : Bel w w') {b o : Nat} {v : Value} (hc : w.cell? ⟨b, o, none⟩ = some v) : w'.cell? ⟨b, o, none⟩ = some v := (Kep.of_bel (S := fun _ => False) h).cell id hc

set_option maxRecDepth 100000 in
theorem rN (b : Nat) (zs : List Int) (k : Nat) (f : Option (Int × Int)) (least most x : Int) (k' : Nat) (f' : Option (Int × Int)) (w : World) (h : RS w b zs k f) (hr : RN zs k f least most x k' f') (hm : most ≤ 9223372036854775807) :
    Calls Try.prog 63 #[.pointer (some ⟨b, 0, none⟩), .int .i64 least, .int .i64 most] w fun e w' => e = .returned (.int .i64 x) ∧ RS w' b zs k' f' ∧ Kep (fun i => i = b) w w' := by
  have b0 : Bel w ((w.alloc (.cells #[.int .i64 least] 3)).alloc (.cells #[.int .i64 most] 3)) := ((Bel.refl w).alloc _).alloc _
  have HB0 := Lib.hid b0
  have hbl : b < w.heap.size := by obtain ⟨A, n, c, F, hs, _⟩ := h; exact hs.blk.lt
  obtain ⟨A, n, c, F, hs, hf⟩ := h.bel b0
  have p1 : ((w.alloc (.cells #[.int .i64 least] 3)).alloc (.cells #[.int .i64 most] 3)).cell? ⟨w.heap.size, 0, none⟩ = some (.int .i64 least) := ((Blk.new w _ _).alloc _).cell 0 rfl
  have p2 : ((w.alloc (.cells #[.int .i64 least] 3)).alloc (.cells #[.int .i64 most] 3)).cell? ⟨w.heap.size + 1, 0, none⟩ = some (.int .i64 most) := by
    have := (Blk.new (w.alloc (.cells #[.int .i64 least] 3)) #[.int .i64 most] 3).cell 0 rfl
    rwa [World.size_alloc] at this
  have HP1 := Lib.hid p1
  have HP2 := Lib.hid p2
  rcases hr with ⟨p, rfl, rfl, rfl, rfl⟩ | ⟨rfl, tl, e, bad, hw, hmv, hk, hx⟩
  · obtain ⟨_, _⟩ | ⟨e, q, fb, h1, rfl, h3, h4, h5⟩ := hf
    · contradiction
    have IT := Lib.hid (itemN_fault b A n c zs k' ⟨fb, 0, none⟩ (.func (.func 86) #[] #[.pointer (some ⟨w.heap.size, 0, none⟩), .pointer (some ⟨w.heap.size + 1, 0, none⟩)]) _ hs)
    have HR : Hid (RS _ b zs k' (some p)) := ⟨A, n, c, _, hs, .inr ⟨e, q, fb, h1, rfl, h3, h4, h5⟩⟩
    clear hs h1 h3 h4 h5 p1 p2 b0 h
    go_enter Try.func63, Try.ntmps63
    go_wp2_with fail
    refine (IT.out).mono ?_
    rintro e w' ⟨rfl, rfl⟩
    go_wp2
    go_ret
    exact ⟨rfl, HR.out, Kep.of_bel HB0.out⟩
  · obtain ⟨_, rfl⟩ | ⟨e, q, fb, h1, _⟩ := hf
    · have IT := Lib.hid (itemN b A n c zs k x tl e bad k' f' _ hs ⟨w.heap.size, 0, none⟩ ⟨w.heap.size + 1, 0, none⟩ (fun w' hb => n1 A n c zs k least most x tl e bad w.heap.size (w.heap.size + 1) w' (hs.sl.bel hb) hs.len hs.bytes hw (bel_cell hb HP1.out) (bel_cell hb HP2.out) hm) hmv (by rw [← hs.sl.len]; exact hk) hx)
      clear hs hw hmv hk hx p1 p2 b0 h hm
      go_enter Try.func63, Try.ntmps63
      go_wp2_with fail
      refine (IT.out).mono ?_
      rintro e w' ⟨rfl, h1, h2⟩
      have H1 := Lib.hid h1
      have H2 := Lib.hid h2
      clear h1 h2
      go_wp2
      go_ret
      exact ⟨rfl, H1.out, (Kep.of_bel HB0.out).trans H2.out⟩
    · cases h1


/-- What Fail makes of a fault. -/
def failOf (f : Option (Int × Int)) (e p : Int) : Option (Int × Int) := if e = 0 then f else match f with
  | some q => some q
  | none => some (e, p)

end Cd
end Go.Proofs.Ythdcgkikhindiaa
end
