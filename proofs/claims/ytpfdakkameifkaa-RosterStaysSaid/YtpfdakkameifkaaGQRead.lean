/-
  What the reference's reader answers: Fail, At, Left, End, NewReader.
  Conditions: the reader is one that the reference's NewReader made of at most 10^6 bytes.
-/
import Derived.Test.YtpfdakkameifkaaGOneItems
namespace Go.Proofs.Ytpfdakkameifkaa
open Go.RowKit Go.Shelf
set_option linter.unusedVariables false
namespace Cd

/-- A fault's error and place; none: zeroes. -/
def fE (f : Option (Int × Int)) : Int := match f with
  | some q => q.1
  | none => 0
def fP (f : Option (Int × Int)) : Int := match f with
  | some q => q.2
  | none => 0
/-- The reference's reader: where it lies, its bytes, its place, its fault. -/
structure QS (w : World) (b : Nat) (A : Option Addr) (n c : Nat) (zs : List Int) (k : Nat) (f : Option (Int × Int)) : Prop where
  blk : Blk w b #[.slice A n c, .int .i64 (k : Int), .int .i64 (fE f), .int .i64 (fP f)] 103
  sl : Sl w A n c zs
  len : n ≤ 1000000
  bytes : Bytes zs
  le : k ≤ n
  apart : 0 < n → ∀ x : Addr, A = some x → x.block ≠ b
  flt : ∀ q, f = some q → q.1 ≠ 0
theorem QS.kep {S : Nat → Prop} {w w' : World} {b : Nat} {A : Option Addr} {n c : Nat} {zs : List Int} {k : Nat} {f : Option (Int × Int)} (h : QS w b A n c zs k f) (hk : Kep S w w') (h1 : ¬ S b) (h2 : 0 < n → ∀ x : Addr, A = some x → ¬ S x.block) : QS w' b A n c zs k f := by
  refine ⟨h.blk.kep hk h1, ⟨?_, h.sl.cap, h.sl.nil⟩, h.len, h.bytes, h.le, h.apart, h.flt⟩
  rcases Nat.eq_zero_or_pos n with h0 | h0
  · exact ⟨h.sl.ints.1, fun hn => absurd hn (by omega)⟩
  · exact hk.ints (h2 h0) h.sl.ints
theorem QS.bel {w w' : World} {b : Nat} {A : Option Addr} {n c : Nat} {zs : List Int} {k : Nat} {f : Option (Int × Int)} (h : QS w b A n c zs k f) (hk : Bel w w') : QS w' b A n c zs k f :=
  h.kep (S := fun _ => False) (Kep.of_bel hk) id (fun _ _ _ => id)
/-- A block turned, all else as it was. -/
theorem QS.turn {w w' : World} {b : Nat} {A : Option Addr} {n c : Nat} {zs : List Int} {k k' : Nat} {f f' : Option (Int × Int)} (h : QS w b A n c zs k f) (hk : Kep (fun i => i = b) w w')
    (hb : Blk w' b #[.slice A n c, .int .i64 (k' : Int), .int .i64 (fE f'), .int .i64 (fP f')] 103) (hk' : k' ≤ n) (hf : ∀ q, f' = some q → q.1 ≠ 0) : QS w' b A n c zs k' f' := by
  refine ⟨hb, ⟨?_, h.sl.cap, h.sl.nil⟩, h.len, h.bytes, hk', h.apart, hf⟩
  rcases Nat.eq_zero_or_pos n with h0 | h0
  · exact ⟨h.sl.ints.1, fun hn => absurd hn (by omega)⟩
  · exact hk.ints (h.apart h0) h.sl.ints

set_option maxRecDepth 100000 in
theorem qNew (A : Option Addr) (n c : Nat) (zs : List Int) (w : World) (hs : Sl w A n c zs) (hn : n ≤ 1000000) (hb : Bytes zs) :
    Calls Try.prog 86 #[.slice A n c] w fun e w' => ∃ b A' c', e = .returned (.pointer (some ⟨b, 0, none⟩)) ∧ w.heap.size ≤ b ∧ QS w' b A' n c' zs 0 none ∧ (0 < n → ∀ x : Addr, A' = some x → w.heap.size ≤ x.block ∧ x.block < b) ∧ Bel w w' := by
  have CL := Lib.hid (copyBytes A n c zs w hs (by omega))
  have hl := hs.len
  clear hs
  go_enter Try.func86, Try.ntmps86
  go_wp2_with fail
  refine (CL.out).mono ?_
  rintro e w1 ⟨u, rfl, hu⟩
  obtain ⟨A', c', hv, hs'⟩ := hu.sl
  subst hv
  have b1 : Bel w w1 := hu.2
  rw [hl] at hs'
  have HS := Lib.hid hs'
  have HA : Hid (∀ x : Addr, A' = some x → w.heap.size ≤ x.block ∧ x.block < w1.heap.size) := by rintro x rfl; exact hu.1.lt _ rfl
  clear hs' hu
  have hlt1 : w.heap.size ≤ w1.heap.size := Below.size b1
  go_wp2
  go_ret
  exact ⟨w1.heap.size, A', c', rfl, hlt1, ⟨Blk.new _ _ _, HS.out.bel ((Bel.refl _).alloc _), hn, hb, Nat.zero_le _, fun _ x hx => by have := HA.out x hx; omega, fun q h => by cases h⟩, fun _ x hx => HA.out x hx, b1.alloc _⟩

set_option maxRecDepth 100000 in
theorem qFail (b : Nat) (A : Option Addr) (n c : Nat) (zs : List Int) (k : Nat) (f : Option (Int × Int)) (e p : Int) (w : World) (h : QS w b A n c zs k f) :
    Calls Try.prog 90 #[.pointer (some ⟨b, 0, none⟩), .int .i64 e, .int .i64 p] w fun r w' => r = .returned (.tuple #[]) ∧ QS w' b A n c zs k (failOf f e p) ∧ Kep (fun i => i = b) w w' := by
  have H := Lib.hid h
  have k2 : w.cell? ⟨b, 2, none⟩ = some (.int .i64 (fE f)) := h.blk.cell 2 rfl
  have k3 : w.cell? ⟨b, 3, none⟩ = some (.int .i64 (fP f)) := h.blk.cell 3 rfl
  have f2 := h.blk.frozen 2
  have f3 := h.blk.frozen 3
  rcases hf : f with _ | ⟨e', p'⟩
  · subst hf
    by_cases he : e = 0
    · have E := Lib.hid (show failOf none e p = none from if_pos he)
      have fe : (e != 0) = false := by rw [he]; rfl
      replace k2 : w.cell? ⟨b, 2, none⟩ = some (.int .i64 0) := k2
      clear h he
      go_enter Try.func90, Try.ntmps90
      go_wp2
      go_end0
      rw [E.out]
      exact ⟨rfl, H.out, Kep.refl _ _⟩
    · have E := Lib.hid (show failOf none e p = some (e, p) from if_neg he)
      have fe : (e != 0) = true := by rw [bne_iff_ne]; exact he
      have HE := Lib.hid he
      replace k2 : w.cell? ⟨b, 2, none⟩ = some (.int .i64 0) := k2
      replace k3 : w.cell? ⟨b, 3, none⟩ = some (.int .i64 0) := k3
      clear h he
      go_enter Try.func90, Try.ntmps90
      go_wp2
      go_end0
      rw [E.out]
      exact ⟨rfl, H.out.turn (((Kep.refl _ _).set_self 2 _).set_self 3 _) ((H.out.blk.set 2 _).set 3 _) H.out.le (fun q hq => by cases hq; exact HE.out), ((Kep.refl _ _).set_self 2 _).set_self 3 _⟩
  · have E := Lib.hid (show failOf (some (e', p')) e p = some (e', p') by unfold failOf; split <;> rfl)
    subst hf
    have he := h.flt _ rfl
    have fe : (e' == 0) = false := by rw [beq_eq_false_iff_ne]; exact he
    replace k2 : w.cell? ⟨b, 2, none⟩ = some (.int .i64 e') := k2
    clear h he
    go_enter Try.func90, Try.ntmps90
    go_wp2
    go_end0
    rw [E.out]
    exact ⟨rfl, H.out, Kep.refl _ _⟩

set_option maxRecDepth 100000 in
theorem qAt (b : Nat) (A : Option Addr) (n c : Nat) (zs : List Int) (k : Nat) (f : Option (Int × Int)) (w : World) (h : QS w b A n c zs k f) :
    Calls Try.prog 88 #[.pointer (some ⟨b, 0, none⟩)] w fun r w' => r = .returned (.int .i64 (atOf k f)) ∧ w = w' := by
  have k1 : w.cell? ⟨b, 1, none⟩ = some (.int .i64 (k : Int)) := h.blk.cell 1 rfl
  have k2 : w.cell? ⟨b, 2, none⟩ = some (.int .i64 (fE f)) := h.blk.cell 2 rfl
  have k3 : w.cell? ⟨b, 3, none⟩ = some (.int .i64 (fP f)) := h.blk.cell 3 rfl
  rcases hf : f with _ | ⟨e', p'⟩
  · subst hf
    replace k2 : w.cell? ⟨b, 2, none⟩ = some (.int .i64 0) := k2
    clear h
    go_enter Try.func88, Try.ntmps88
    go_wp2
    go_ret
    exact ⟨rfl, rfl⟩
  · subst hf
    have he := h.flt _ rfl
    have fe : (e' != 0) = true := by rw [bne_iff_ne]; exact he
    replace k2 : w.cell? ⟨b, 2, none⟩ = some (.int .i64 e') := k2
    replace k3 : w.cell? ⟨b, 3, none⟩ = some (.int .i64 p') := k3
    clear h he
    go_enter Try.func88, Try.ntmps88
    go_wp2
    go_ret
    exact ⟨rfl, rfl⟩

end Cd
end Go.Proofs.Ytpfdakkameifkaa
