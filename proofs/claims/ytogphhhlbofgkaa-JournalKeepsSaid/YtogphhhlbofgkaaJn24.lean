/-
  Two journals side by side, and what the first one's cells were, level by level, in words of their own; among. Condition: the journals lie in memory as JD says.
-/
import Derived.Test.YtogphhhlbofgkaaJn22
namespace Go.Proofs.Ytogphhhlbofgkaa
open Go.RowKit Go.Shelf Go.Maps
set_option linter.unusedVariables false
namespace Jn
open Kk Pm Bk

theorem among (A : Option Addr) (n c : Nat) (zs : List Int) (x : Int) (w : World) (hi : Ints .i64 w A n zs) (hn : n ≤ 4096) :
    Calls Try.prog 35 #[.slice A n c, .int .i64 x] w fun e w' => e = .returned (.bool (decide (x ∈ zs))) ∧ w' = w := by
  have HA := Lib.hid hi
  have HL := Lib.hid hi.1
  clear hi
  go_enter Try.func35, Try.ntmps35
  go_wp2_with fail
  go_loopw [5] (fun i wr => ∃ k : Nat, k ≤ n ∧ i = .int .i64 k ∧ wr = w ∧ ∀ j, j < k → zs.getD j 0 ≠ x) (fun i _ => n - (iv i).toNat)
  case atStart => exact ⟨0, Nat.zero_le _, rfl, rfl, fun j hj => absurd hj (by omega)⟩
  case round =>
    obtain ⟨k, hk, rfl, rfl, hno⟩ := hrel
    have HNO := Lib.hid hno
    clear hno
    by_cases hlt : k < n
    · obtain ⟨g1, o1, rfl, hg1, c1⟩ := HA.out.cell hlt
      obtain ⟨y, hy⟩ : ∃ y, zs.getD k 0 = y := ⟨_, rfl⟩
      rw [hy] at c1
      have HY := Lib.hid hy
      have hlt2 : (k : Int) < n := by omega
      clear hy
      by_cases hyx : y = x
      · subst hyx
        have HD := Lib.hid (show decide (y ∈ zs) = true from decide_eq_true (by rw [← HY.out, Kk.getD_eq zs k (by rw [HL.out]; exact hlt)]; exact List.getElem_mem _))
        go_wp2
        go_ret
        exact ⟨by rw [HD.out]; rfl, rfl⟩
      · have hyb : (y == x) = false := by simp [hyx]
        go_wp2
        go_roundw
        case rel =>
          refine ⟨k + 1, by omega, by go_num, by first | trivial | rfl, fun j hj => ?_⟩
          rcases Nat.lt_or_ge j k with h | h
          · exact HNO.out j h
          · obtain rfl : j = k := by omega
            rw [HY.out]
            exact hyx
        case measure => simp [iv]; omega
    · obtain rfl : k = n := by omega
      have HD := Lib.hid (show decide (x ∈ zs) = false from decide_eq_false (fun h => by
        obtain ⟨j, hj, e⟩ := List.getElem_of_mem h
        exact HNO.out j (by rw [← HL.out]; exact hj) (by rw [Kk.getD_eq zs j hj]; exact e)))
      go_wp2
      go_ret
      exact ⟨by rw [HD.out]; rfl, rfl⟩

theorem JD.stay {w : World} {M I : Nat → Prop} {pj : Nat} {zs : List Int} {lv : Lv} {L : List Lv} (h : JD w M I pj zs (lv :: L)) (i : Nat) (hi : lv.2 i = false) : zs.getD i 0 = lv.1.getD i 0 := by
  obtain ⟨ls, hw, hd⟩ := h
  cases ls with
  | nil => exact hd.elim
  | cons ch ls =>
    rw [← hd.1]
    exact (get_undo ch i zs (by rw [← hd.2.1 i]; exact hi)).symm

/-- What cells were, in words that the blocks `bad` do not hold. -/
def WS (w : World) (bad : Nat → Prop) : List Value → List (List Int) → Prop
  | [], [] => True
  | x :: xs, ys :: ws => (∃ B c, x = .slice B 6 c ∧ Ints .u64 w B 6 ys ∧ ∀ a, B = some a → ¬ bad a.block ∧ a.block < w.heap.size) ∧ WS w bad xs ws
  | _, _ => False
theorem WS.len {w : World} {bad : Nat → Prop} : ∀ {xs : List Value} {ws : List (List Int)}, WS w bad xs ws → xs.length = ws.length
  | [], [], _ => rfl
  | x :: xs, ys :: ws, h => by simp [WS.len h.2]
  | [], _ :: _, h => h.elim
  | _ :: _, [], h => h.elim
theorem WS.kep {w w' : World} {S bad bad' : Nat → Prop} (hk : Kep S w w') (hS : ∀ b, S b → bad b) (hb : ∀ b, b < w.heap.size → bad' b → bad b) : ∀ {xs : List Value} {ws : List (List Int)}, WS w bad xs ws → WS w' bad' xs ws
  | [], [], _ => trivial
  | x :: xs, ys :: ws, ⟨⟨B, c, e, hi, ha⟩, h⟩ => ⟨⟨B, c, e, hk.ints (fun a ha' hs => (ha a ha').1 (hS _ hs)) hi, fun a ha' => ⟨fun hbad => (ha a ha').1 (hb _ (ha a ha').2 hbad), Nat.lt_of_lt_of_le (ha a ha').2 hk.size⟩⟩, WS.kep hk hS hb h⟩
  | [], _ :: _, h => h.elim
  | _ :: _, [], h => h.elim
theorem WS.get {w : World} {bad : Nat → Prop} : ∀ {xs : List Value} {ws : List (List Int)}, WS w bad xs ws → ∀ i, i < ws.length → ∃ B c, xs[i]? = some (.slice B 6 c) ∧ Ints .u64 w B 6 (ws.getD i []) ∧ ∀ a, B = some a → ¬ bad a.block ∧ a.block < w.heap.size
  | [], [], _, i, hi => absurd hi (by simp)
  | x :: xs, ys :: ws, ⟨⟨B, c, e, h1, h2⟩, h⟩, 0, _ => ⟨B, c, by simp [e], h1, h2⟩
  | x :: xs, ys :: ws, ⟨_, h⟩, i + 1, hi => by
    obtain ⟨B, c, e, h1, h2⟩ := WS.get h i (by simpa using hi)
    exact ⟨B, c, by simpa using e, by simpa using h1, h2⟩
  | [], _ :: _, h, _, _ => h.elim
  | _ :: _, [], h, _, _ => h.elim

/-- The two journals, and the list of what the first one's cells were. -/
structure KX (w0 w : World) (M I M2 I2 : Nat → Prop) (pj pk : Nat) (zs zs2 : List Int) (L : List Lv) (v : Value) (xs : List Value) (ws : List (List Int)) : Prop where
  j : JD w M I pj zs L
  k : JD w M2 I2 pk zs2 []
  am : ∀ b, M b → ¬ M2 b ∧ ¬ I2 b
  ak : ∀ b, M2 b → ¬ I b
  m : ∀ b, M b → w0.heap.size ≤ b
  m2 : ∀ b, M2 b → w0.heap.size ≤ b
  bel : Bel w0 w
  row : w.ownsRow w0.heap.size 45 1 v ws.length xs.reverse
  ra : ∀ g, v.ownBlock = some g → ¬ M g ∧ ¬ I g ∧ ¬ M2 g ∧ ¬ I2 g
  ws : WS w (fun b => M b ∨ M2 b ∨ v.ownBlock = some b) xs ws
def KS (w0 w : World) (pj pk : Nat) (zs zs2 : List Int) (L : List Lv) (v : Value) (ws : List (List Int)) : Prop := ∃ M I M2 I2 xs, KX w0 w M I M2 I2 pj pk zs zs2 L v xs ws
section
variable {w0 w w' : World} {M I M2 I2 : Nat → Prop} {pj pk : Nat} {zs zs2 : List Int} {L : List Lv} {v : Value} {xs : List Value} {ws : List (List Int)}
theorem KS.nwj (h : KS w0 w pj pk zs zs2 L v ws) : Nw w0 w pj zs L := by
  obtain ⟨M, I, M2, I2, xs, h⟩ := h
  exact ⟨M, I, h.j, h.m, h.bel⟩
theorem KS.nwk (h : KS w0 w pj pk zs zs2 L v ws) : Nw w0 w pk zs2 [] := by
  obtain ⟨M, I, M2, I2, xs, h⟩ := h
  exact ⟨M2, I2, h.k, h.m2, h.bel⟩
theorem KX.kept {bad : Nat → Prop} (h : KX w0 w M I M2 I2 pj pk zs zs2 L v xs ws) (hb : Bel w w') : KX w0 w' M I M2 I2 pj pk zs zs2 L v xs ws :=
  ⟨h.j.bel hb, h.k.bel hb, h.am, h.ak, h.m, h.m2, h.bel.trans hb, owns_bel h.row hb, h.ra, WS.kep (S := fun _ => False) (Kep.of_bel hb) (fun _ h => h.elim) (fun _ _ h => h) h.ws⟩
theorem KS.bel (h : KS w0 w pj pk zs zs2 L v ws) (hb : Bel w w') : KS w0 w' pj pk zs zs2 L v ws := by
  obtain ⟨M, I, M2, I2, xs, h⟩ := h
  exact ⟨M, I, M2, I2, xs, h.kept (bad := fun _ => False) hb⟩
theorem KX.stepj {M' I' : Nat → Prop} {zs' : List Int} {L' : List Lv} (h : KX w0 w M I M2 I2 pj pk zs zs2 L v xs ws) (hj : JD w' M' I' pj zs' L') (hs : Step w w' M I M' I') : KX w0 w' M' I' M2 I2 pj pk zs' zs2 L' v xs ws := by
  have f2 := h.k.facts
  refine ⟨hj, h.k.keep hs.kep (fun b hb hm => (h.am b hm).1 hb) (fun b hb hm => (h.am b hm).2 hb), fun b hb => ?_, fun b hb hi => ?_, fun b hb => ?_, h.m2, Kep.bel h.bel hs.kep h.m, hs.kep.owns (fun g hg hm => (h.ra g hg).1 hm) h.row, fun g hg => ?_, WS.kep hs.kep (fun b hb => .inl hb) (fun b hlt hb => ?_) h.ws⟩
  · rcases hs.m b hb with hm | hn
    · exact h.am b hm
    · exact ⟨fun h2 => by have := f2.2.2.2.2.1 b h2; omega, fun h2 => by have := f2.2.2.2.2.2.1 b h2; omega⟩
  · rcases hs.i b hi with hm | hn
    · exact h.ak b hb hm
    · have := f2.2.2.2.2.1 b hb; omega
  · rcases hs.m b hb with hm | hn
    · exact h.m b hm
    · exact Nat.le_trans (Below.size h.bel) hn
  · have hlt := (h.row.lt g hg).2
    have hr := h.ra g hg
    refine ⟨fun hm => ?_, fun hm => ?_, hr.2.2⟩
    · rcases hs.m g hm with h1 | h1
      · exact hr.1 h1
      · omega
    · rcases hs.i g hm with h1 | h1
      · exact hr.2.1 h1
      · omega
  · rcases hb with hm | hm
    · rcases hs.m b hm with h1 | h1
      · exact .inl h1
      · omega
    · exact .inr hm
theorem KX.stepk {M' I' : Nat → Prop} {zs' : List Int} (h : KX w0 w M I M2 I2 pj pk zs zs2 L v xs ws) (hj : JD w' M' I' pk zs' []) (hs : Step w w' M2 I2 M' I') : KX w0 w' M I M' I' pj pk zs zs' L v xs ws := by
  have f2 := h.j.facts
  refine ⟨h.j.keep hs.kep (fun b hb hm => (h.am b hb).1 hm) (fun b hb hm => h.ak b hm hb), hj, fun b hb => ⟨fun hm => ?_, fun hm => ?_⟩, fun b hb hi => ?_, h.m, fun b hb => ?_, Kep.bel h.bel hs.kep h.m2, hs.kep.owns (fun g hg hm => (h.ra g hg).2.2.1 hm) h.row, fun g hg => ?_, WS.kep hs.kep (fun b hb => .inr (.inl hb)) (fun b hlt hb => ?_) h.ws⟩
  · rcases hs.m b hm with h1 | h1
    · exact (h.am b hb).1 h1
    · have := f2.2.2.2.2.1 b hb; omega
  · rcases hs.i b hm with h1 | h1
    · exact (h.am b hb).2 h1
    · have := f2.2.2.2.2.1 b hb; omega
  · rcases hs.m b hb with h1 | h1
    · exact h.ak b h1 hi
    · have := f2.2.2.2.2.2.1 b hi; omega
  · rcases hs.m b hb with h1 | h1
    · exact h.m2 b h1
    · exact Nat.le_trans (Below.size h.bel) h1
  · have hlt := (h.row.lt g hg).2
    have hr := h.ra g hg
    refine ⟨hr.1, hr.2.1, fun hm => ?_, fun hm => ?_⟩
    · rcases hs.m g hm with h1 | h1
      · exact hr.2.2.1 h1
      · omega
    · rcases hs.i g hm with h1 | h1
      · exact hr.2.2.2 h1
      · omega
  · rcases hb with hm | hm | hm
    · exact .inl hm
    · rcases hs.m b hm with h1 | h1
      · exact .inr (.inl h1)
      · omega
    · exact .inr (.inr hm)
theorem doesJ (h : KS w0 w pj pk zs zs2 L v ws) (hl : L.length ≤ 64) (a i k u : Int) (hB : ActB a i k u) :
    Calls Try.prog 17 #[.pointer (some ⟨pj, 0, none⟩), actV a i k u] w fun e w' => e = .returned (.int .i64 (actE zs L a i k u)) ∧ KS w0 w' pj pk (actZ zs L a i k u) zs2 (actL zs L a i k u) v ws := by
  obtain ⟨M, I, M2, I2, xs, h⟩ := h
  refine (does h.j hl a i k u hB).mono ?_
  rintro e w' ⟨rfl, M', I', hj', hs⟩
  exact ⟨rfl, M', I', M2, I2, xs, h.stepj hj' hs⟩
theorem doesK (h : KS w0 w pj pk zs zs2 L v ws) (a i k u : Int) (hB : ActB a i k u) (hn : actL zs2 [] a i k u = []) :
    Calls Try.prog 17 #[.pointer (some ⟨pk, 0, none⟩), actV a i k u] w fun e w' => e = .returned (.int .i64 (actE zs2 [] a i k u)) ∧ KS w0 w' pj pk zs (actZ zs2 [] a i k u) L v ws := by
  obtain ⟨M, I, M2, I2, xs, h⟩ := h
  refine (does h.k (by simp) a i k u hB).mono ?_
  rw [hn]
  rintro e w' ⟨rfl, M', I', hj', hs⟩
  exact ⟨rfl, M, I, M', I', xs, h.stepk hj' hs⟩
end
end Jn
end Go.Proofs.Ytogphhhlbofgkaa
