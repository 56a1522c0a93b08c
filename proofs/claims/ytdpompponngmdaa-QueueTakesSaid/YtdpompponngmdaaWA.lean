/-
  Texts of this claim, put together: Obj, Writer, Writer2, Writer3. What each one says, and under which conditions, stands ahead of it.
-/
import Derived.LaidEql
import Derived.Test.YtdpompponngmdaaGKit

section
/-
  Objects behind pointers: a block of cells, how it is read and turned. No condition.
-/
namespace Go.Proofs.Ytdpompponngmdaa
open Go.RowKit Go.Shelf
set_option linter.unusedVariables false
namespace Cd

/-- A block of cells. -/
def Blk (w : World) (b : Nat) (cs : Array Value) (t : TypeId) : Prop := w.heap[b]? = some (.cells cs t (0, 0))
theorem Blk.lt {w : World} {b : Nat} {cs : Array Value} {t : TypeId} (h : Blk w b cs t) : b < w.heap.size := (Array.getElem?_eq_some_iff.1 h).1
theorem Blk.cell {w : World} {b : Nat} {cs : Array Value} {t : TypeId} (h : Blk w b cs t) (i : Nat) {v : Value} (hv : cs[i]? = some v) : w.cell? ⟨b, i, none⟩ = some v := by
  rw [cell_of_row w b i cs t (0, 0) h, hv]
theorem Blk.frozen {w : World} {b : Nat} {cs : Array Value} {t : TypeId} (h : Blk w b cs t) (i : Nat) : w.frozen? ⟨b, i, none⟩ = false := frozen_of_row w b i cs t h
theorem Blk.new (w : World) (cs : Array Value) (t : TypeId) : Blk (w.alloc (.cells cs t)) w.heap.size cs t := World.alloc_heap_new w _
theorem Blk.set {w : World} {b : Nat} {cs : Array Value} {t : TypeId} (h : Blk w b cs t) (i : Nat) (v : Value) : Blk (w.setCell ⟨b, i, none⟩ v) b (cs.setIfInBounds i v) t := heap_setCell_same w b i cs t v h
theorem Blk.other {w : World} {b : Nat} {cs : Array Value} {t : TypeId} (h : Blk w b cs t) {b' : Nat} (hne : b ≠ b') (i : Nat) (v : Value) : Blk (w.setCell ⟨b', i, none⟩ v) b cs t := (heap_setCell_other w ⟨b', i, none⟩ b v hne).trans h
theorem Blk.kep {S : Nat → Prop} {w w' : World} {b : Nat} {cs : Array Value} {t : TypeId} (h : Blk w b cs t) (hk : Kep S w w') (hs : ¬ S b) : Blk w' b cs t := (hk.block b h.lt hs).trans h
theorem Blk.bel {w w' : World} {b : Nat} {cs : Array Value} {t : TypeId} (h : Blk w b cs t) (hk : Bel w w') : Blk w' b cs t := (Below.block hk b h.lt).trans h
theorem Blk.alloc {w : World} {b : Nat} {cs : Array Value} {t : TypeId} (h : Blk w b cs t) (o : Obj) : Blk (w.alloc o) b cs t := h.bel ((Bel.refl w).alloc o)
/-- A row of bytes is no block of another type. -/
theorem Blk.not_row {w : World} {b : Nat} {cs : Array Value} {t e : TypeId} (h : Blk w b cs t) (hte : t ≠ e) {base size k : Nat} {v : Value} {xs : List Value} (hr : w.ownsRow base e size v k xs) : v.ownBlock ≠ some b := by
  rcases hr.2 with ⟨rfl, _⟩ | ⟨g, cap, cur, rfl, _, hgb, _⟩
  · simp [Value.ownBlock]
  · intro e'
    obtain rfl : g = b := by simpa [Value.ownBlock] using e'
    have := (show w.heap[g]? = _ from h).symm.trans hgb
    simp at this
    exact hte this.2
theorem owns_set {w : World} {base : Nat} {e : TypeId} {size : Nat} {v : Value} {n : Nat} {xs : List Value} (ho : w.ownsRow base e size v n xs) {b : Nat} (hne : v.ownBlock ≠ some b) (i : Nat) (u : Value) : (w.setCell ⟨b, i, none⟩ u).ownsRow base e size v n xs := by
  exact Kep.owns (S := fun k => k = b) (Kep.set (S := fun k => k = b) (Kep.refl _ w) (b := b) (o := i) rfl u) (fun k hk e => hne (by rw [hk, e])) ho

theorem eqIn_self {w : World} (d : Nat) (t e : TypeId) (a : Addr) (n : Nat) (ht : Try.prog.underlying t = some (.pointer e)) (he : ∀ w, (sizeOf e).run Try.prog w = .ok n w) (hn : n ≠ 0) : (Op.equalIn (d + 1) t (.pointer (some a)) (.pointer (some a))).run Try.prog w = .ok true w := by
  simp [Op.equalIn, run_underlying ht, he, run_sameAddr_same]
theorem neq_self {w : World} (t e : TypeId) (a : Addr) (n : Nat) (ht : Try.prog.underlying t = some (.pointer e)) (he : ∀ w, (sizeOf e).run Try.prog w = .ok n w) (hn : n ≠ 0) : (binOp .neq t (.pointer (some a)) (.pointer (some a))).run Try.prog w = .ok (.bool false) w := by
  simp only [binOp]
  simp [Op.equal, Op.maxDepth, eqIn_self 9999 t e a n ht he hn]

theorem Kep.set_self {b : Nat} {a w : World} (h : Kep (fun i => i = b) a w) (o : Nat) (u : Value) : Kep (fun i => i = b) a (w.setCell ⟨b, o, none⟩ u) := Kep.set (S := fun i => i = b) h (b := b) (o := o) rfl u

/-! ### Writers -/
/-- A writer: where it lies, its limit, its row, its error. -/
structure WS (w : World) (b : Nat) (L : Int) (v : Value) (err : Int) (out : List Int) (base : Nat) : Prop where
  blk : Blk w b #[.pointer (some ⟨b, 0, none⟩), .int .i64 L, v, .int .i64 err] 105
  row : w.ownsRow base 5 1 v out.length (out.map (Value.int .u8))
  low : 0 ≤ L
  high : L ≤ 1048576
  fits : (out.length : Int) ≤ L
  base : base ≤ w.heap.size
theorem WS.kep {S : Nat → Prop} {w w' : World} {b : Nat} {L : Int} {v : Value} {err : Int} {out : List Int} {base : Nat} (h : WS w b L v err out base) (hk : Kep S w w') (h1 : ¬ S b) (h2 : ∀ k, v.ownBlock = some k → ¬ S k) : WS w' b L v err out base :=
  ⟨h.blk.kep hk h1, hk.owns h2 h.row, h.low, h.high, h.fits, Nat.le_trans h.base hk.size⟩
theorem WS.bel {w w' : World} {b : Nat} {L : Int} {v : Value} {err : Int} {out : List Int} {base : Nat} (h : WS w b L v err out base) (hk : Bel w w') : WS w' b L v err out base :=
  h.kep (S := fun _ => False) (Kep.of_bel hk) id (fun _ _ => id)

theorem newWriter_no (L : Int) (w : World) (h : L < 0 ∨ 1048576 < L) :
    Calls Try.prog 60 #[.int .i64 L] w fun e w' => e = .returned (.tuple #[.pointer none, .int .i64 3]) ∧ w = w' := by
  by_cases h0 : L < 0
  · go_enter Try.func60, Try.ntmps60
    go_wp2
    go_ret2
    exact ⟨rfl, rfl⟩
  · have h1 : 1048576 < L := by omega
    clear h
    go_enter Try.func60, Try.ntmps60
    go_wp2
    go_ret2
    exact ⟨rfl, rfl⟩
theorem newWriter (L : Int) (w : World) (h0 : 0 ≤ L) (h1 : L ≤ 1048576) :
    Calls Try.prog 60 #[.int .i64 L] w fun e w' => e = .returned (.tuple #[.pointer (some ⟨w.heap.size, 0, none⟩), .int .i64 0]) ∧ WS w' w.heap.size L (.slice none 0 0) 0 [] w.heap.size ∧ Bel w w' := by
  go_enter Try.func60, Try.ntmps60
  go_wp2
  go_ret2
  refine ⟨rfl, ⟨?_, World.ownsRow_nil _ _ _ _, h0, h1, h0, by simp⟩, (Bel.refl _).alloc _⟩
  exact Blk.new _ _ _

theorem wneq (a : Addr) (w : World) : (binOp .neq 85 (.pointer (some a)) (.pointer (some a))).run Try.prog w = .ok (.bool false) w :=
  neq_self _ 105 a 4 Try.underlying85 (fun w => Try.sizeOf105 w) (by decide)

set_option maxRecDepth 100000 in
theorem wstate (b : Nat) (L : Int) (v : Value) (err : Int) (out : List Int) (base : Nat) (w : World) (h : WS w b L v err out base) :
    Calls Try.prog 79 #[.pointer (some ⟨b, 0, none⟩)] w fun e w' => e = .returned (.int .i64 err) ∧ w = w' := by
  have c0 : w.cell? ⟨b, 0, none⟩ = some (.pointer (some ⟨b, 0, none⟩)) := h.blk.cell 0 rfl
  have c3 : w.cell? ⟨b, 3, none⟩ = some (.int .i64 err) := h.blk.cell 3 rfl
  have hq := wneq ⟨b, 0, none⟩
  clear h
  go_enter Try.func79, Try.ntmps79
  go_wp2
  go_ret
  exact ⟨rfl, rfl⟩

set_option maxRecDepth 100000 in
theorem wfail (b : Nat) (L : Int) (v : Value) (out : List Int) (base : Nat) (r : Int) (w : World) (h : WS w b L v 0 out base) :
    Calls Try.prog 80 #[.pointer (some ⟨b, 0, none⟩), .int .i64 r] w fun e w' => e = .returned (.int .i64 r) ∧ WS w' b L (.slice none 0 0) r [] base ∧ Kep (fun k => k = b) w w' := by
  have c3 : w.cell? ⟨b, 3, none⟩ = some (.int .i64 0) := h.blk.cell 3 rfl
  have c2 : w.cell? ⟨b, 2, none⟩ = some v := h.blk.cell 2 rfl
  have f2 := h.blk.frozen 2
  have f3 := h.blk.frozen 3
  have H := Lib.hid h
  clear h
  go_enter Try.func80, Try.ntmps80
  go_wp2
  go_ret
  have B := (H.out.blk.set 3 (.int .i64 r)).set 2 (.slice none 0 0)
  exact ⟨rfl, ⟨B, World.ownsRow_nil _ _ _ _, H.out.low, H.out.high, H.out.low, Nat.le_trans H.out.base (Kep.set (Kep.set (S := fun k => k = b) (Kep.refl _ w) (b := b) (o := 3) rfl _) (b := b) (o := 2) rfl _).size⟩, Kep.set (Kep.set (S := fun k => k = b) (Kep.refl _ w) (b := b) (o := 3) rfl _) (b := b) (o := 2) rfl _⟩

theorem wdone_err (b : Nat) (L : Int) (v : Value) (r : Int) (out : List Int) (base : Nat) (w : World) (h : WS w b L v r out base) (hr : r ≠ 0) :
    Calls Try.prog 64 #[.pointer (some ⟨b, 0, none⟩)] w fun e w' => e = .returned (.tuple #[.slice none 0 0, .int .i64 r]) ∧ w = w' := by
  have ST := Lib.hid (wstate b L v r out base w h)
  have f : (r != 0) = true := by rw [bne_iff_ne]; exact hr
  clear h hr
  go_enter Try.func64, Try.ntmps64
  go_wp2_with fail
  refine (ST.out).mono ?_
  rintro e w1 ⟨rfl, rfl⟩
  go_wp2
  go_ret2
  exact ⟨rfl, rfl⟩
theorem wdone (b : Nat) (L : Int) (v : Value) (out : List Int) (base : Nat) (w : World) (h : WS w b L v 0 out base) :
    Calls Try.prog 64 #[.pointer (some ⟨b, 0, none⟩)] w fun e w' => ∃ u, e = .returned (.tuple #[u, .int .i64 0]) ∧ Fresh w w' u out := by
  obtain ⟨A, c, rfl, hs⟩ := sl_of_own h.row
  have ST := Lib.hid (wstate b L _ 0 out base w h)
  have hn : out.length ≤ 1000000000 := by have := h.fits; have := h.high; omega
  have CL := Lib.hid (clone A out.length c out w hs hn)
  have c2 : w.cell? ⟨b, 2, none⟩ = some (.slice A out.length c) := h.blk.cell 2 rfl
  clear h hs
  go_enter Try.func64, Try.ntmps64
  go_wp2_with fail
  refine (ST.out).mono ?_
  rintro e w1 ⟨rfl, rfl⟩
  go_wp2_with fail
  refine (CL.out).mono ?_
  rintro e w1 ⟨u, rfl, hu⟩
  have HU := Lib.hid hu
  clear hu
  go_wp2
  go_ret2
  exact ⟨u, rfl, HU.out⟩
end Cd
end Go.Proofs.Ytdpompponngmdaa
end

section
/-
  What the methods of a writer answer in this program: what is written, or why not; nothing else is turned but the writer and its row.
  Conditions: the writer is one that NewWriter made; slices that read as bytes and share no memory with it.
-/
namespace Go.Proofs.Ytdpompponngmdaa
open Go.RowKit Go.Shelf
set_option linter.unusedVariables false
namespace Cd

theorem wpList_append_at {w : World} {ops : Array Oper} {rest : List Oper} {o : Oper} {a : Act} {Q : Exit → Act → World → Prop} (hgd : o.guard = none) (s x : Operand)
    (ho : o.op = .call { callee := .builtin .append, args := #[s, x], argTypes := #[56, 56] })
    (base : Nat) (v : Value) (k : Nat) (xs : List Value) (hs : a.eval s = v) (hown : w.ownsRow base 5 1 v k xs) (A : Option Addr) (m c : Nat) (zs : List Int) (hx : a.eval x = .slice A m c) (hi : Sl w A m c zs)
    (hm : k + m ≤ 1000000000000) (hb : base ≤ w.heap.size)
    (h : ∀ v' w', w'.ownsRow base 5 1 v' (k + m) (xs ++ zs.map (Value.int .u8)) → w.grownBy w' v.ownBlock → (v'.ownBlock = v.ownBlock ∨ v'.ownBlock = some w.heap.size) → wpList Try.prog ops Q rest (a.put o.dst v') w') : wpList Try.prog ops Q (o :: rest) a w := by
  obtain ⟨i0, h1, hz0, hz1, hz2⟩ := info_parts Try.info_u8
  cases A with
  | none =>
    obtain rfl : c = 0 := hi.nil rfl
    obtain rfl : m = 0 := by have := hi.cap; omega
    have hz : zs = [] := List.length_eq_zero_iff.1 hi.ints.1
    subst hz
    refine wpList_append_own_none hgd s x 56 ho base 5 i0 1 Try.underlying56 h1 v k xs hs hown hx ?_
    exact h v w (by simpa using hown) ⟨rfl, rfl, rfl, Nat.le_refl _, fun _ _ _ => rfl⟩ (.inl rfl)
  | some ad =>
    refine wpList_append_own_at w hgd s x 56 ho base 5 i0 (.int .u8 0) 1 1 Try.underlying56 h1 hz0 hz1 hz2 rfl (by decide) v k xs hs hown ad m c (zs.map (Value.int .u8)) hx (by have := hi.ints.1; simp; omega) (Ints.news hi.ints) (ints_ok zs) (by unfold maxLen; omega) (by omega) hb ?_
    intro v' w' h2 h3 _ h4
    exact h v' w' h2 h3 h4

theorem slice_of_own {w : World} {base : Nat} {e : TypeId} {size : Nat} {v : Value} {n : Nat} {xs : List Value} (h : w.ownsRow base e size v n xs) : ∃ A c, v = .slice A n c := by
  rcases h.2 with ⟨rfl, rfl⟩ | ⟨g, cap, cur, rfl, _⟩
  · exact ⟨_, _, rfl⟩
  · exact ⟨_, _, rfl⟩

/-- Slices that stand in a row of slices. -/
def Parts (w : World) (P : Nat) (ps : List (Option Addr × Nat × Nat × List Int)) : Prop :=
  ∀ i A n c zs, ps[i]? = some (A, n, c, zs) → w.cell? ⟨P, i, none⟩ = some (.slice A n c) ∧ Sl w A n c zs
/-- All of the first k. -/
def flat (ps : List (Option Addr × Nat × Nat × List Int)) (k : Nat) : List Int := ((ps.take k).map (·.2.2.2)).flatten
theorem flat_succ {ps : List (Option Addr × Nat × Nat × List Int)} {k : Nat} {A : Option Addr} {n c : Nat} {zs : List Int} (h : ps[k]? = some (A, n, c, zs)) : flat ps (k + 1) = flat ps k ++ zs := by
  unfold flat
  rw [List.take_add_one, h]
  simp
theorem flat_le (ps : List (Option Addr × Nat × Nat × List Int)) {k m : Nat} (h : k ≤ m) : (flat ps k).length ≤ (flat ps m).length := by
  induction m with
  | zero => obtain rfl : k = 0 := by omega
            exact Nat.le_refl _
  | succ m ih =>
    rcases Nat.lt_or_ge m k with h' | h'
    · obtain rfl : k = m + 1 := by omega
      exact Nat.le_refl _
    · refine Nat.le_trans (ih h') ?_
      cases hp : ps[m]? with
      | none =>
        have : ps.length ≤ m := List.getElem?_eq_none_iff.1 hp
        unfold flat
        rw [List.take_of_length_le this, List.take_of_length_le (by omega)]
        exact Nat.le_refl _
      | some p =>
        obtain ⟨A, n, c, zs⟩ := p
        rw [flat_succ hp]
        simp

/-- How a writer stands behind a thing of so many bytes. -/
def After (w : World) (b : Nat) (L r : Int) (out more : List Int) (base : Nat) : Prop :=
  (r = 0 ∧ ((out ++ more).length : Int) ≤ L ∧ ∃ v, WS w b L v 0 (out ++ more) base) ∨ (r = 4 ∧ L < ((out ++ more).length : Int) ∧ WS w b L (.slice none 0 0) 4 [] base)
/-- What a writer may turn. -/
def Own2 (b : Nat) (v : Value) : Nat → Prop := fun k => k = b ∨ v.ownBlock = some k

set_option maxRecDepth 100000 in
set_option maxHeartbeats 2000000 in
theorem write (b : Nat) (L : Int) (v : Value) (out : List Int) (base P : Nat) (ps : List (Option Addr × Nat × Nat × List Int)) (w : World) (h : WS w b L v 0 out base) (hP : Parts w P ps)
    (hb : P ≠ b) (hbv : v.ownBlock ≠ some P) (hps : ∀ (i : Nat) (A : Option Addr) (n c : Nat) (zs : List Int), ps[i]? = some (A, n, c, zs) → ∀ x : Addr, A = some x → x.block ≠ b ∧ v.ownBlock ≠ some x.block) (hl : ∀ (i : Nat) (A : Option Addr) (n c : Nat) (zs : List Int), ps[i]? = some (A, n, c, zs) → n ≤ 1000000000) (hk : ps.length ≤ 10) :
    Calls Try.prog 82 #[.pointer (some ⟨b, 0, none⟩), .slice (some ⟨P, 0, none⟩) ps.length ps.length] w fun e w' => ∃ r, e = .returned (.int .i64 r) ∧ After w' b L r out (flat ps ps.length) base ∧ Kep (Own2 b v) w w' := by
  have ST := Lib.hid (wstate b L v 0 out base w h)
  have H := Lib.hid h
  have HP := Lib.hid hP
  have HN := Lib.hid hps
  have HL := Lib.hid hl
  have h1 := h.high
  have h2 := h.low
  clear h hP hps hl
  go_enter Try.func82, Try.ntmps82
  go_wp2_with fail
  refine (ST.out).mono ?_
  rintro e w1 ⟨rfl, rfl⟩
  go_wp2_with fail
  go_loopw [15] (fun i wr => ∃ (k : Nat) (u : Value), i = .int .i64 k ∧ k ≤ ps.length ∧ WS wr b L u 0 (out ++ flat ps k) base ∧ Kep (Own2 b v) w wr ∧ (u.ownBlock = v.ownBlock ∨ ∀ g, u.ownBlock = some g → w.heap.size ≤ g)) (fun i _ => ps.length - (intOf i).toNat)
  case atStart => exact ⟨0, v, rfl, Nat.zero_le _, by simpa [flat] using H.out, Kep.refl _ _, .inl rfl⟩
  case round =>
    obtain ⟨k, u, rfl, hkn, hws, hkp, hu⟩ := hrel
    have HW := Lib.hid hws
    have HK := Lib.hid hkp
    have HU := Lib.hid hu
    clear hws hkp hu
    by_cases hlt : k < ps.length
    · obtain ⟨A, n, c, zs, hpk⟩ : ∃ A n c zs, ps[k]? = some (A, n, c, zs) := ⟨_, _, _, _, List.getElem?_eq_getElem hlt⟩
      have HPK := Lib.hid hpk
      have hcell : wr.cell? ⟨P, k, none⟩ = some (.slice A n c) := HK.out.cell (by rintro (h | h); exact hb h; exact hbv h) (HP.out k A n c zs hpk).1
      have HSL : Hid (Sl wr A n c zs) := ⟨HK.out.ints (fun x hx hs => by rcases hs with h | h; exact (HN.out k A n c zs hpk x hx).1 h; exact (HN.out k A n c zs hpk x hx).2 h) (HP.out k A n c zs hpk).2.ints, (HP.out k A n c zs hpk).2.cap, (HP.out k A n c zs hpk).2.nil⟩
      have hn := HL.out k A n c zs hpk
      obtain ⟨Au, cu, hvu, hsu⟩ := sl_of_own HW.out.row
      subst hvu
      have c1 : wr.cell? ⟨b, 1, none⟩ = some (.int .i64 L) := HW.out.blk.cell 1 rfl
      have c2 : wr.cell? ⟨b, 2, none⟩ = some (.slice Au (out ++ flat ps k).length cu) := HW.out.blk.cell 2 rfl
      have hfit := HW.out.fits
      clear hpk hsu
      generalize hlen : (out ++ flat ps k).length = m at *
      have HM := Lib.hid hlen
      clear hlen
      by_cases hx : L - (m : Int) < (n : Int)
      · have hm1 : (m : Int) ≤ L := hfit
        have e1 : IntKind.i64.wrap (L - (m : Int)) = L - (m : Int) := IntWalk.i64_in _ (by omega)
        have WF := Lib.hid (fun w' (h : WS w' b L (.slice Au m cu) 0 (out ++ flat ps k) base) => wfail b L _ _ base 4 w' h)
        have hd : decide (L - (m : Int) < (n : Int)) = true := decide_eq_true hx
        have HX := Lib.hid hx
        clear hx
        go_wp2_with fail
        go_region
        all_goals
          clear e1
          go_wp2_with fail
          refine (WF.out _ (HW.out.bel ((Bel.refl _).drew))).mono ?_
          rintro e w2 ⟨rfl, hw2, k2⟩
          go_wp2
          go_ret
          refine ⟨4, rfl, .inr ⟨rfl, ?_, hw2⟩, (HK.out.trans (Kep.of_bel ((Bel.refl _).drew))).trans (k2.mono fun i _ hi => .inl hi)⟩
          have h3 := flat_le ps (k := k + 1) (m := ps.length) hlt
          rw [flat_succ HPK.out] at h3
          have h4 := HM.out
          have h5 := HX.out
          have h6 := HSL.out.ints.1
          simp only [List.length_append] at h3 h4 ⊢
          omega
      · have hm1 : (m : Int) ≤ L := hfit
        have e1 : IntKind.i64.wrap (L - (m : Int)) = L - (m : Int) := IntWalk.i64_in _ (by omega)
        have hd : decide (L - (m : Int) < (n : Int)) = false := decide_eq_false hx
        have HX := Lib.hid hx
        have HROW := Lib.hid (show wr.drew.ownsRow base 5 1 (.slice Au m cu) m ((out ++ flat ps k).map (Value.int .u8)) by have := HW.out.row; rw [HM.out] at this; exact this)
        have HSD := Lib.hid (HSL.out.bel ((Bel.refl wr).drew))
        have HBB := Lib.hid (show Blk wr.drew b _ _ from HW.out.blk.bel ((Bel.refl wr).drew))
        have HNR := Lib.hid (HBB.out.not_row (by decide) HROW.out)
        have hmn : m + n ≤ 1000000000000 := by omega
        have HBS := Lib.hid HW.out.base
        clear hx
        go_wp2_with fail
        go_region
        all_goals
          clear e1
          go_wp2_with (at_builtin; refine wpList_append_at rfl _ _ rfl base _ m _ rfl HROW.out A n c zs rfl HSD.out hmn HBS.out ?_; intro v' w2 hown2 hgrow hat; obtain ⟨Av, cv, hv⟩ : ∃ Av cv, v' = .slice Av (m + n) cv := slice_of_own hown2; subst hv; have HO2 := Lib.hid hown2; have HG := Lib.hid hgrow; have HAT := Lib.hid hat; have HB2 := Lib.hid (show Blk w2 b _ _ from (hgrow.block b HBB.out.lt (fun e => HNR.out e.symm)).trans HBB.out); clear hown2 hgrow hat; have c2' : w2.cell? ⟨b, 2, none⟩ = some (.slice Au m cu) := HB2.out.cell 2 rfl; have f2' := HB2.out.frozen 2)
          go_roundw
          case rel =>
            have hout : out ++ flat ps (k + 1) = (out ++ flat ps k) ++ zs := by rw [flat_succ HPK.out, List.append_assoc]
            have hll : (out ++ flat ps (k + 1)).length = m + n := by rw [hout, List.length_append, HM.out, HSL.out.ints.1]
            have hrow : w2.ownsRow base 5 1 (.slice Av (m + n) cv) (out ++ flat ps (k + 1)).length ((out ++ flat ps (k + 1)).map (Value.int .u8)) := by
              rw [hll, hout, List.map_append]; exact HO2.out
            have hkk : Kep (Own2 b v) w w2 := by
              refine (HK.out.trans (Kep.of_bel ((Bel.refl _).drew))).grown HG.out (fun i hi hlt' => ?_)
              rcases HU.out with h | h
              · exact .inr (by rw [← h]; exact hi)
              · have := h i hi; omega
            have hsz : w.heap.size ≤ wr.drew.heap.size := Nat.le_trans HK.out.size (Nat.le_refl _)
            refine ⟨k + 1, .slice Av (m + n) cv, by go_num, hlt, ⟨HB2.out.set 2 _, owns_set hrow (HB2.out.not_row (by decide) hrow) 2 _, h2, h1, by have hx := HX.out; rw [hll]; omega, ?_⟩, hkk.set (.inl rfl) _, ?_⟩
            · exact Nat.le_trans HBS.out (Nat.le_trans HG.out.size (Kep.set (S := fun i => i = b) (Kep.refl _ w2) (b := b) (o := 2) rfl _).size)
            · rcases HAT.out with h | h
              · rcases HU.out with h' | h'
                · exact .inl (h.trans h')
                · exact .inr fun g hg => h' g (h ▸ hg)
              · refine .inr fun g hg => ?_
                rw [h] at hg
                injection hg with hg
                omega
          case measure => simp [intOf]; omega
    · obtain rfl : k = ps.length := by omega
      go_wp2
      go_ret
      exact ⟨0, rfl, .inl ⟨rfl, HW.out.fits, _, HW.out⟩, HK.out⟩
end Cd
end Go.Proofs.Ytdpompponngmdaa
end

section
/-
  What U, N and Blob of a writer answer in this program.
  Conditions: the writer is one that NewWriter made, and has no error; a word; a number that is not negative; bytes that share no memory with the writer.
-/
namespace Go.Proofs.Ytdpompponngmdaa
open Go.RowKit Go.Shelf
set_option linter.unusedVariables false
namespace Cd

theorem parts_one {w : World} {P : Nat} {A : Option Addr} {n c : Nat} {zs : List Int} {t : TypeId} (hb : Blk w P #[.slice A n c] t) (hs : Sl w A n c zs) : Parts w P [(A, n, c, zs)] := by
  intro i A' n' c' zs' h
  match i, h with
  | 0, h => simp at h; obtain ⟨rfl, rfl, rfl, rfl⟩ := h; exact ⟨hb.cell 0 rfl, hs⟩
theorem parts_two {w : World} {P : Nat} {A : Option Addr} {n c : Nat} {zs : List Int} {B : Option Addr} {m d : Nat} {ys : List Int} {t : TypeId} (hb : Blk w P #[.slice A n c, .slice B m d] t) (hs : Sl w A n c zs) (hs' : Sl w B m d ys) : Parts w P [(A, n, c, zs), (B, m, d, ys)] := by
  intro i A' n' c' zs' h
  match i, h with
  | 0, h => simp at h; obtain ⟨rfl, rfl, rfl, rfl⟩ := h; exact ⟨hb.cell 0 rfl, hs⟩
  | 1, h => simp at h; obtain ⟨rfl, rfl, rfl, rfl⟩ := h; exact ⟨hb.cell 1 rfl, hs'⟩
theorem own_block_ge {w : World} {base : Nat} {e : TypeId} {size : Nat} {A : Option Addr} {n c m : Nat} {xs : List Value} (h : w.ownsRow base e size (.slice A n c) m xs) : ∀ x, A = some x → base ≤ x.block := by
  rintro x rfl
  exact (h.lt _ rfl).1
theorem WS.row_lt {w : World} {b : Nat} {L : Int} {v : Value} {err : Int} {out : List Int} {base : Nat} (h : WS w b L v err out base) : ∀ k, v.ownBlock = some k → k < w.heap.size := fun k hk => (h.row.lt k hk).2

set_option maxRecDepth 100000 in
set_option maxHeartbeats 1000000 in
theorem wU (b : Nat) (L : Int) (v : Value) (out : List Int) (base : Nat) (x : Int) (w : World) (h : WS w b L v 0 out base) (x0 : 0 ≤ x) (x1 : x ≤ 18446744073709551615) :
    Calls Try.prog 63 #[.pointer (some ⟨b, 0, none⟩), .int .u64 x] w fun e w' => ∃ r, e = .returned (.int .i64 r) ∧ After w' b L r out (enc x) base ∧ Kep (Own2 b v) w w' := by
  have P1 := Lib.hid (fun w' => put x w' x0 x1)
  have H := Lib.hid h
  have hl := (enc_len x).2
  clear h x1
  go_enter Try.func63, Try.ntmps63
  go_wp2_with fail
  refine (P1.out _).mono ?_
  rintro e w1 ⟨u, rfl, ou, b1⟩
  have b1 : Bel w w1 := b1
  obtain ⟨A, c, hu, hs⟩ := sl_of_own ou
  subst hu
  have hge := own_block_ge ou
  have HS := Lib.hid hs
  have hlt1 : w.heap.size ≤ w1.heap.size := Below.size b1
  have hbl := H.out.blk.lt
  have hrl := H.out.row_lt
  have WR := Lib.hid (write b L v out base w1.heap.size [(A, (enc x).length, c, enc x)] _ (H.out.bel (b1.alloc (.cells #[.slice A (enc x).length c] 56))) (parts_one (Blk.new w1 _ _) (hs.bel ((Bel.refl _).alloc _))) (by omega) (fun e => by have := hrl _ e; omega)
    (by
      intro i A' n' c' zs' hi y hy
      match i, hi with
      | 0, hi =>
        simp at hi
        obtain ⟨rfl, rfl, rfl, rfl⟩ := hi
        have := hge y hy
        exact ⟨by omega, fun e => by have := hrl _ e; omega⟩)
    (by
      intro i A' n' c' zs' hi
      match i, hi with
      | 0, hi => simp at hi; omega) (by simp))
  clear hs ou hge hrl
  go_wp2_with fail
  refine (WR.out).mono ?_
  rintro e w2 ⟨r, rfl, ha, hk⟩
  have HA := Lib.hid ha
  have HK := Lib.hid ((Kep.of_bel (b1.alloc (.cells #[.slice A (enc x).length c] 56))).trans hk)
  clear ha hk
  go_wp2
  go_ret
  have h1 := HA.out
  rw [show flat [(A, (enc x).length, c, enc x)] [(A, (enc x).length, c, enc x)].length = enc x by simp [flat]] at h1
  exact ⟨r, rfl, h1, HK.out⟩

set_option maxRecDepth 100000 in
set_option maxHeartbeats 1000000 in
theorem wN (b : Nat) (L : Int) (v : Value) (out : List Int) (base : Nat) (x : Int) (w : World) (h : WS w b L v 0 out base) (x0 : 0 ≤ x) (x1 : x ≤ 9223372036854775807) :
    Calls Try.prog 61 #[.pointer (some ⟨b, 0, none⟩), .int .i64 x] w fun e w' => ∃ r, e = .returned (.int .i64 r) ∧ After w' b L r out (enc x) base ∧ Kep (Own2 b v) w w' := by
  have ST := Lib.hid (wstate b L v 0 out base w h)
  have WU := Lib.hid (wU b L v out base x w h x0 (by omega))
  clear h
  go_enter Try.func61, Try.ntmps61
  go_wp2_with fail
  refine (ST.out).mono ?_
  rintro e w1 ⟨rfl, rfl⟩
  go_wp2_with fail
  refine (WU.out).mono ?_
  rintro e w2 ⟨r, rfl, ha, hk⟩
  have HA := Lib.hid ha
  have HK := Lib.hid hk
  clear ha hk
  go_wp2
  go_ret
  exact ⟨r, rfl, HA.out, HK.out⟩

end Cd
end Go.Proofs.Ytdpompponngmdaa
end

section
/-
  What U and N of a writer answer in this program, told with where the writer's row lies afterwards (where it lay, or in new memory), and for a writer with an error, too.
  Conditions: the writer is one that NewWriter made; a word; a number that is not negative.
-/
namespace Go.Proofs.Ytdpompponngmdaa
open Go.RowKit Go.Shelf
set_option linter.unusedVariables false
namespace Cd

/-- As After, with the row's place. -/
def After3 (w0 w : World) (b : Nat) (L r : Int) (v0 : Value) (out more : List Int) (base : Nat) : Prop :=
  (r = 0 ∧ ((out ++ more).length : Int) ≤ L ∧ ∃ v, WS w b L v 0 (out ++ more) base ∧ (v.ownBlock = v0.ownBlock ∨ ∀ g, v.ownBlock = some g → w0.heap.size ≤ g)) ∨ (r = 4 ∧ L < ((out ++ more).length : Int) ∧ WS w b L (.slice none 0 0) 4 [] base)
theorem After3.older {w0 w1 w : World} {b : Nat} {L r : Int} {v0 : Value} {out more : List Int} {base : Nat} (h : After3 w1 w b L r v0 out more base) (hs : w0.heap.size ≤ w1.heap.size) : After3 w0 w b L r v0 out more base := by
  rcases h with ⟨h1, h2, v, h3, h4⟩ | h
  · exact .inl ⟨h1, h2, v, h3, h4.imp id (fun h g hg => Nat.le_trans hs (h g hg))⟩
  · exact .inr h
set_option maxRecDepth 100000 in
set_option maxHeartbeats 2000000 in
theorem write3 (b : Nat) (L : Int) (v : Value) (out : List Int) (base P : Nat) (ps : List (Option Addr × Nat × Nat × List Int)) (w : World) (h : WS w b L v 0 out base) (hP : Parts w P ps)
    (hb : P ≠ b) (hbv : v.ownBlock ≠ some P) (hps : ∀ (i : Nat) (A : Option Addr) (n c : Nat) (zs : List Int), ps[i]? = some (A, n, c, zs) → ∀ x : Addr, A = some x → x.block ≠ b ∧ v.ownBlock ≠ some x.block) (hl : ∀ (i : Nat) (A : Option Addr) (n c : Nat) (zs : List Int), ps[i]? = some (A, n, c, zs) → n ≤ 1000000000) (hk : ps.length ≤ 10) :
    Calls Try.prog 82 #[.pointer (some ⟨b, 0, none⟩), .slice (some ⟨P, 0, none⟩) ps.length ps.length] w fun e w' => ∃ r, e = .returned (.int .i64 r) ∧ After3 w w' b L r v out (flat ps ps.length) base ∧ Kep (Own2 b v) w w' := by
  have ST := Lib.hid (wstate b L v 0 out base w h)
  have H := Lib.hid h
  have HP := Lib.hid hP
  have HN := Lib.hid hps
  have HL := Lib.hid hl
  have h1 := h.high
  have h2 := h.low
  clear h hP hps hl
  go_enter Try.func82, Try.ntmps82
  go_wp2_with fail
  refine (ST.out).mono ?_
  rintro e w1 ⟨rfl, rfl⟩
  go_wp2_with fail
  go_loopw [15] (fun i wr => ∃ (k : Nat) (u : Value), i = .int .i64 k ∧ k ≤ ps.length ∧ WS wr b L u 0 (out ++ flat ps k) base ∧ Kep (Own2 b v) w wr ∧ (u.ownBlock = v.ownBlock ∨ ∀ g, u.ownBlock = some g → w.heap.size ≤ g)) (fun i _ => ps.length - (intOf i).toNat)
  case atStart => exact ⟨0, v, rfl, Nat.zero_le _, by simpa [flat] using H.out, Kep.refl _ _, .inl rfl⟩
  case round =>
    obtain ⟨k, u, rfl, hkn, hws, hkp, hu⟩ := hrel
    have HW := Lib.hid hws
    have HK := Lib.hid hkp
    have HU := Lib.hid hu
    clear hws hkp hu
    by_cases hlt : k < ps.length
    · obtain ⟨A, n, c, zs, hpk⟩ : ∃ A n c zs, ps[k]? = some (A, n, c, zs) := ⟨_, _, _, _, List.getElem?_eq_getElem hlt⟩
      have HPK := Lib.hid hpk
      have hcell : wr.cell? ⟨P, k, none⟩ = some (.slice A n c) := HK.out.cell (by rintro (h | h); exact hb h; exact hbv h) (HP.out k A n c zs hpk).1
      have HSL : Hid (Sl wr A n c zs) := ⟨HK.out.ints (fun x hx hs => by rcases hs with h | h; exact (HN.out k A n c zs hpk x hx).1 h; exact (HN.out k A n c zs hpk x hx).2 h) (HP.out k A n c zs hpk).2.ints, (HP.out k A n c zs hpk).2.cap, (HP.out k A n c zs hpk).2.nil⟩
      have hn := HL.out k A n c zs hpk
      obtain ⟨Au, cu, hvu, hsu⟩ := sl_of_own HW.out.row
      subst hvu
      have c1 : wr.cell? ⟨b, 1, none⟩ = some (.int .i64 L) := HW.out.blk.cell 1 rfl
      have c2 : wr.cell? ⟨b, 2, none⟩ = some (.slice Au (out ++ flat ps k).length cu) := HW.out.blk.cell 2 rfl
      have hfit := HW.out.fits
      clear hpk hsu
      generalize hlen : (out ++ flat ps k).length = m at *
      have HM := Lib.hid hlen
      clear hlen
      by_cases hx : L - (m : Int) < (n : Int)
      · have hm1 : (m : Int) ≤ L := hfit
        have e1 : IntKind.i64.wrap (L - (m : Int)) = L - (m : Int) := IntWalk.i64_in _ (by omega)
        have WF := Lib.hid (fun w' (h : WS w' b L (.slice Au m cu) 0 (out ++ flat ps k) base) => wfail b L _ _ base 4 w' h)
        have hd : decide (L - (m : Int) < (n : Int)) = true := decide_eq_true hx
        have HX := Lib.hid hx
        clear hx
        go_wp2_with fail
        go_region
        all_goals
          clear e1
          go_wp2_with fail
          refine (WF.out _ (HW.out.bel ((Bel.refl _).drew))).mono ?_
          rintro e w2 ⟨rfl, hw2, k2⟩
          go_wp2
          go_ret
          refine ⟨4, rfl, .inr ⟨rfl, ?_, hw2⟩, (HK.out.trans (Kep.of_bel ((Bel.refl _).drew))).trans (k2.mono fun i _ hi => .inl hi)⟩
          have h3 := flat_le ps (k := k + 1) (m := ps.length) hlt
          rw [flat_succ HPK.out] at h3
          have h4 := HM.out
          have h5 := HX.out
          have h6 := HSL.out.ints.1
          simp only [List.length_append] at h3 h4 ⊢
          omega
      · have hm1 : (m : Int) ≤ L := hfit
        have e1 : IntKind.i64.wrap (L - (m : Int)) = L - (m : Int) := IntWalk.i64_in _ (by omega)
        have hd : decide (L - (m : Int) < (n : Int)) = false := decide_eq_false hx
        have HX := Lib.hid hx
        have HROW := Lib.hid (show wr.drew.ownsRow base 5 1 (.slice Au m cu) m ((out ++ flat ps k).map (Value.int .u8)) by have := HW.out.row; rw [HM.out] at this; exact this)
        have HSD := Lib.hid (HSL.out.bel ((Bel.refl wr).drew))
        have HBB := Lib.hid (show Blk wr.drew b _ _ from HW.out.blk.bel ((Bel.refl wr).drew))
        have HNR := Lib.hid (HBB.out.not_row (by decide) HROW.out)
        have hmn : m + n ≤ 1000000000000 := by omega
        have HBS := Lib.hid HW.out.base
        clear hx
        go_wp2_with fail
        go_region
        all_goals
          clear e1
          go_wp2_with (at_builtin; refine wpList_append_at rfl _ _ rfl base _ m _ rfl HROW.out A n c zs rfl HSD.out hmn HBS.out ?_; intro v' w2 hown2 hgrow hat; obtain ⟨Av, cv, hv⟩ : ∃ Av cv, v' = .slice Av (m + n) cv := slice_of_own hown2; subst hv; have HO2 := Lib.hid hown2; have HG := Lib.hid hgrow; have HAT := Lib.hid hat; have HB2 := Lib.hid (show Blk w2 b _ _ from (hgrow.block b HBB.out.lt (fun e => HNR.out e.symm)).trans HBB.out); clear hown2 hgrow hat; have c2' : w2.cell? ⟨b, 2, none⟩ = some (.slice Au m cu) := HB2.out.cell 2 rfl; have f2' := HB2.out.frozen 2)
          go_roundw
          case rel =>
            have hout : out ++ flat ps (k + 1) = (out ++ flat ps k) ++ zs := by rw [flat_succ HPK.out, List.append_assoc]
            have hll : (out ++ flat ps (k + 1)).length = m + n := by rw [hout, List.length_append, HM.out, HSL.out.ints.1]
            have hrow : w2.ownsRow base 5 1 (.slice Av (m + n) cv) (out ++ flat ps (k + 1)).length ((out ++ flat ps (k + 1)).map (Value.int .u8)) := by
              rw [hll, hout, List.map_append]; exact HO2.out
            have hkk : Kep (Own2 b v) w w2 := by
              refine (HK.out.trans (Kep.of_bel ((Bel.refl _).drew))).grown HG.out (fun i hi hlt' => ?_)
              rcases HU.out with h | h
              · exact .inr (by rw [← h]; exact hi)
              · have := h i hi; omega
            have hsz : w.heap.size ≤ wr.drew.heap.size := Nat.le_trans HK.out.size (Nat.le_refl _)
            refine ⟨k + 1, .slice Av (m + n) cv, by go_num, hlt, ⟨HB2.out.set 2 _, owns_set hrow (HB2.out.not_row (by decide) hrow) 2 _, h2, h1, by have hx := HX.out; rw [hll]; omega, ?_⟩, hkk.set (.inl rfl) _, ?_⟩
            · exact Nat.le_trans HBS.out (Nat.le_trans HG.out.size (Kep.set (S := fun i => i = b) (Kep.refl _ w2) (b := b) (o := 2) rfl _).size)
            · rcases HAT.out with h | h
              · rcases HU.out with h' | h'
                · exact .inl (h.trans h')
                · exact .inr fun g hg => h' g (h ▸ hg)
              · refine .inr fun g hg => ?_
                rw [h] at hg
                injection hg with hg
                omega
          case measure => simp [intOf]; omega
    · obtain rfl : k = ps.length := by omega
      go_wp2
      go_ret
      exact ⟨0, rfl, .inl ⟨rfl, HW.out.fits, _, HW.out, HU.out⟩, HK.out⟩

set_option maxRecDepth 100000 in
set_option maxHeartbeats 1000000 in
theorem wU3 (b : Nat) (L : Int) (v : Value) (out : List Int) (base : Nat) (x : Int) (w : World) (h : WS w b L v 0 out base) (x0 : 0 ≤ x) (x1 : x ≤ 18446744073709551615) :
    Calls Try.prog 63 #[.pointer (some ⟨b, 0, none⟩), .int .u64 x] w fun e w' => ∃ r, e = .returned (.int .i64 r) ∧ After3 w w' b L r v out (enc x) base ∧ Kep (Own2 b v) w w' := by
  have P1 := Lib.hid (fun w' => put x w' x0 x1)
  have H := Lib.hid h
  have hl := (enc_len x).2
  clear h x1
  go_enter Try.func63, Try.ntmps63
  go_wp2_with fail
  refine (P1.out _).mono ?_
  rintro e w1 ⟨u, rfl, ou, b1⟩
  have b1 : Bel w w1 := b1
  obtain ⟨A, c, hu, hs⟩ := sl_of_own ou
  subst hu
  have hge := own_block_ge ou
  have HS := Lib.hid hs
  have hlt1 : w.heap.size ≤ w1.heap.size := Below.size b1
  have hbl := H.out.blk.lt
  have hrl := H.out.row_lt
  have WR := Lib.hid (write3 b L v out base w1.heap.size [(A, (enc x).length, c, enc x)] _ (H.out.bel (b1.alloc (.cells #[.slice A (enc x).length c] 56))) (parts_one (Blk.new w1 _ _) (hs.bel ((Bel.refl _).alloc _))) (by omega) (fun e => by have := hrl _ e; omega)
    (by
      intro i A' n' c' zs' hi y hy
      match i, hi with
      | 0, hi =>
        simp at hi
        obtain ⟨rfl, rfl, rfl, rfl⟩ := hi
        have := hge y hy
        exact ⟨by omega, fun e => by have := hrl _ e; omega⟩)
    (by
      intro i A' n' c' zs' hi
      match i, hi with
      | 0, hi => simp at hi; omega) (by simp))
  clear hs ou hge hrl
  go_wp2_with fail
  refine (WR.out).mono ?_
  rintro e w2 ⟨r, rfl, ha, hk⟩
  have HA := Lib.hid ha
  have HK := Lib.hid ((Kep.of_bel (b1.alloc (.cells #[.slice A (enc x).length c] 56))).trans hk)
  clear ha hk
  go_wp2
  go_ret
  have h1 := HA.out
  rw [show flat [(A, (enc x).length, c, enc x)] [(A, (enc x).length, c, enc x)].length = enc x by simp [flat]] at h1
  exact ⟨r, rfl, h1.older (Nat.le_trans hlt1 (Below.size ((Bel.refl w1).alloc _))), HK.out⟩

set_option maxRecDepth 100000 in
set_option maxHeartbeats 1000000 in
theorem wN3 (b : Nat) (L : Int) (v : Value) (out : List Int) (base : Nat) (x : Int) (w : World) (h : WS w b L v 0 out base) (x0 : 0 ≤ x) (x1 : x ≤ 9223372036854775807) :
    Calls Try.prog 61 #[.pointer (some ⟨b, 0, none⟩), .int .i64 x] w fun e w' => ∃ r, e = .returned (.int .i64 r) ∧ After3 w w' b L r v out (enc x) base ∧ Kep (Own2 b v) w w' := by
  have ST := Lib.hid (wstate b L v 0 out base w h)
  have WU := Lib.hid (wU3 b L v out base x w h x0 (by omega))
  clear h
  go_enter Try.func61, Try.ntmps61
  go_wp2_with fail
  refine (ST.out).mono ?_
  rintro e w1 ⟨rfl, rfl⟩
  go_wp2_with fail
  refine (WU.out).mono ?_
  rintro e w2 ⟨r, rfl, ha, hk⟩
  have HA := Lib.hid ha
  have HK := Lib.hid hk
  clear ha hk
  go_wp2
  go_ret
  exact ⟨r, rfl, HA.out, HK.out⟩


set_option maxRecDepth 100000 in
theorem wN_err (b : Nat) (L : Int) (v : Value) (r : Int) (out : List Int) (base : Nat) (x : Int) (w : World) (h : WS w b L v r out base) (hr : r ≠ 0) :
    Calls Try.prog 61 #[.pointer (some ⟨b, 0, none⟩), .int .i64 x] w fun e w' => e = .returned (.int .i64 r) ∧ w = w' := by
  have ST := Lib.hid (wstate b L v r out base w h)
  have f : (r != 0) = true := by rw [bne_iff_ne]; exact hr
  clear h hr
  go_enter Try.func61, Try.ntmps61
  go_wp2_with fail
  refine (ST.out).mono ?_
  rintro e w1 ⟨rfl, rfl⟩
  go_wp2
  go_ret
  exact ⟨rfl, rfl⟩

/-- What a writer is behind more bytes. -/
def stp (L : Int) (s : List Int × Int) (more : List Int) : List Int × Int := if s.2 ≠ 0 then s else if ((s.1 ++ more).length : Int) ≤ L then (s.1 ++ more, 0) else ([], 4)
/-- The row lies where it lay, or in new memory. -/
def Lies (w : World) (v v' : Value) : Prop := ∀ g, v'.ownBlock = some g → v.ownBlock = some g ∨ w.heap.size ≤ g
theorem Lies.refl (w : World) (v : Value) : Lies w v v := fun _ h => .inl h
theorem Lies.trans {w w1 : World} {v v1 v2 : Value} (h : Lies w v v1) (k : Lies w1 v1 v2) (hs : w.heap.size ≤ w1.heap.size) : Lies w v v2 := fun g hg => by
  rcases k g hg with h' | h'
  · exact h g h'
  · exact .inr (Nat.le_trans hs h')
theorem kep_lies {w w1 w2 : World} {b : Nat} {v v1 : Value} (h : Kep (Own2 b v) w w1) (hl : Lies w v v1) (k : Kep (Own2 b v1) w1 w2) : Kep (Own2 b v) w w2 :=
  ⟨k.os.trans h.os, k.tape.trans h.tape, k.output.trans h.output, Nat.le_trans h.size k.size, fun i hi hS => by
    have h1 := h.block i hi hS
    refine (k.block i (Nat.lt_of_lt_of_le hi h.size) (fun h' => ?_)).trans h1
    rcases h' with rfl | h'
    · exact hS (.inl rfl)
    · rcases hl i h' with h'' | h''
      · exact hS (.inr h'')
      · omega⟩
/-- N of any writer. -/
theorem nAny (b : Nat) (L : Int) (v : Value) (s : List Int × Int) (base : Nat) (x : Int) (w : World) (h : WS w b L v s.2 s.1 base) (x0 : 0 ≤ x) (x1 : x ≤ 9223372036854775807) :
    Calls Try.prog 61 #[.pointer (some ⟨b, 0, none⟩), .int .i64 x] w fun e w' => e = .returned (.int .i64 (stp L s (enc x)).2) ∧ ∃ v', WS w' b L v' (stp L s (enc x)).2 (stp L s (enc x)).1 base ∧ Lies w v v' ∧ Kep (Own2 b v) w w' := by
  obtain ⟨out, e⟩ := s
  by_cases he : e = 0
  · subst he
    refine (wN3 b L v out base x w h x0 x1).mono ?_
    rintro r w' ⟨r', rfl, ha, hk⟩
    rcases ha with ⟨rfl, h1, v', h2, h3⟩ | ⟨rfl, h1, h2⟩
    · have e1 : stp L (out, 0) (enc x) = (out ++ enc x, 0) := by unfold stp; rw [if_neg (by simp), if_pos h1]
      rw [e1]
      exact ⟨rfl, v', h2, fun g hg => h3.imp (fun h => by rw [← h]; exact hg) (fun h => h g hg), hk⟩
    · have e1 : stp L (out, 0) (enc x) = ([], 4) := by unfold stp; rw [if_neg (by simp), if_neg (by show ¬ (((out ++ enc x).length : Nat) : Int) ≤ L; omega)]
      rw [e1]
      exact ⟨rfl, _, h2, fun g hg => by simp [Value.ownBlock] at hg, hk⟩
  · refine (wN_err b L v e out base x w h he).mono ?_
    rintro r w' ⟨rfl, rfl⟩
    have e1 : stp L (out, e) (enc x) = (out, e) := by unfold stp; rw [if_pos he]
    rw [e1]
    exact ⟨rfl, v, h, Lies.refl _ _, Kep.refl _ _⟩
end Cd
end Go.Proofs.Ytdpompponngmdaa
end
