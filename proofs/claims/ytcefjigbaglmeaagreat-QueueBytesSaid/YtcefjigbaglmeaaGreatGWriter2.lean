/-
  What U, N and Blob of a writer answer in this program.
  Conditions: the writer is one that NewWriter made, and has no error; a word; a number that is not negative; bytes that share no memory with the writer.
-/
import Derived.Test.YtcefjigbaglmeaaGreatGWriter
namespace Go.Proofs.YtcefjigbaglmeaaGreat
open Go.RowKit Go.Shelf
set_option linter.unusedVariables false
namespace Cd

theorem parts_one {w : World} {P : Nat} {A : Option Addr} {n c : Nat} {zs : List Int} {t : TypeId} (hb : Blk w P #[.slice A n c] t) (hs : Sl w A n c zs) : Parts w P [(A, n, c, zs)] := by
  intro i A' n' c' zs' h
  match i, h with
  | 0, h => simp at h; obtain ⟨rfl, rfl, rfl, rfl⟩ := h; exact ⟨hb.cell 0 rfl, hs⟩
theorem parts_two {w : World} {P : Nat} {A : Option Addr} {n c : Nat} {zs : List Int} {B : Option Addr} {m d : Nat} {ys : List Int} {t : TypeId} (hb : Blk w P #[.slice A n c, .slice B m d] t) (hs : Sl w A n c zs) (hs' : Sl w B m d ys) : Parts w P [(A, n, c, zs), (B, m, d, ys)] := by
  intro i A' n' c' zs' h
  match i, h with
  | 0, h => simp at h; obtain ⟨rfl, rfl, rfl, rfl⟩ := h; exact ⟨hb.cell 0 rfl, hs⟩
  | 1, h => simp at h; obtain ⟨rfl, rfl, rfl, rfl⟩ := h; exact ⟨hb.cell 1 rfl, hs'⟩
theorem own_block_ge {w : World} {base : Nat} {e : TypeId} {size : Nat} {A : Option Addr} {n c m : Nat} {xs : List Value} (h : w.ownsRow base e size (.slice A n c) m xs) : ∀ x, A = some x → base ≤ x.block := by
  rintro x rfl
  exact (h.lt _ rfl).1
theorem WS.row_lt {w : World} {b : Nat} {L : Int} {v : Value} {err : Int} {out : List Int} {base : Nat} (h : WS w b L v err out base) : ∀ k, v.ownBlock = some k → k < w.heap.size := fun k hk => (h.row.lt k hk).2

set_option maxRecDepth 100000 in
set_option maxHeartbeats 1000000 in
theorem wU (b : Nat) (L : Int) (v : Value) (out : List Int) (base : Nat) (x : Int) (w : World) (h : WS w b L v 0 out base) (x0 : 0 ≤ x) (x1 : x ≤ 18446744073709551615) :
    Calls Tryz.prog 23 #[.pointer (some ⟨b, 0, none⟩), .int .u64 x] w fun e w' => ∃ r, e = .returned (.int .i64 r) ∧ After w' b L r out (enc x) base ∧ Kep (Own2 b v) w w' := by
  have P1 := Lib.hid (fun w' => put x w' x0 x1)
  have H := Lib.hid h
  have hl := (enc_len x).2
  clear h x1
  go_enter Tryz.func23, Tryz.ntmps23
  go_wp2_with fail
  refine (P1.out _).mono ?_
  rintro e w1 ⟨u, rfl, ou, b1⟩
  have b1 : Bel w w1 := b1
  obtain ⟨A, c, hu, hs⟩ := sl_of_own ou
  subst hu
  have hge := own_block_ge ou
  have HS := Lib.hid hs
  have hlt1 : w.heap.size ≤ w1.heap.size := Below.size b1
  have hbl := H.out.blk.lt
  have hrl := H.out.row_lt
  have WR := Lib.hid (write b L v out base w1.heap.size [(A, (enc x).length, c, enc x)] _ (H.out.bel (b1.alloc (.cells #[.slice A (enc x).length c] 23))) (parts_one (Blk.new w1 _ _) (hs.bel ((Bel.refl _).alloc _))) (by omega) (fun e => by have := hrl _ e; omega)
    (by
      intro i A' n' c' zs' hi y hy
      match i, hi with
      | 0, hi =>
        simp at hi
        obtain ⟨rfl, rfl, rfl, rfl⟩ := hi
        have := hge y hy
        exact ⟨by omega, fun e => by have := hrl _ e; omega⟩)
    (by
      intro i A' n' c' zs' hi
      match i, hi with
      | 0, hi => simp at hi; omega) (by simp))
  clear hs ou hge hrl
  go_wp2_with fail
  refine (WR.out).mono ?_
  rintro e w2 ⟨r, rfl, ha, hk⟩
  have HA := Lib.hid ha
  have HK := Lib.hid ((Kep.of_bel (b1.alloc (.cells #[.slice A (enc x).length c] 23))).trans hk)
  clear ha hk
  go_wp2
  go_ret
  have h1 := HA.out
  rw [show flat [(A, (enc x).length, c, enc x)] [(A, (enc x).length, c, enc x)].length = enc x by simp [flat]] at h1
  exact ⟨r, rfl, h1, HK.out⟩

set_option maxRecDepth 100000 in
set_option maxHeartbeats 1000000 in
theorem wN (b : Nat) (L : Int) (v : Value) (out : List Int) (base : Nat) (x : Int) (w : World) (h : WS w b L v 0 out base) (x0 : 0 ≤ x) (x1 : x ≤ 9223372036854775807) :
    Calls Tryz.prog 21 #[.pointer (some ⟨b, 0, none⟩), .int .i64 x] w fun e w' => ∃ r, e = .returned (.int .i64 r) ∧ After w' b L r out (enc x) base ∧ Kep (Own2 b v) w w' := by
  have ST := Lib.hid (wstate b L v 0 out base w h)
  have WU := Lib.hid (wU b L v out base x w h x0 (by omega))
  clear h
  go_enter Tryz.func21, Tryz.ntmps21
  go_wp2_with fail
  refine (ST.out).mono ?_
  rintro e w1 ⟨rfl, rfl⟩
  go_wp2_with fail
  refine (WU.out).mono ?_
  rintro e w2 ⟨r, rfl, ha, hk⟩
  have HA := Lib.hid ha
  have HK := Lib.hid hk
  clear ha hk
  go_wp2
  go_ret
  exact ⟨r, rfl, HA.out, HK.out⟩

end Cd
end Go.Proofs.YtcefjigbaglmeaaGreat
