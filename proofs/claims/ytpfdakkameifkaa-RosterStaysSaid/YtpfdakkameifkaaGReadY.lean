/-
  What a reader answers while another object, at block d, stands beside it: its own memory stays apart from that block.
  Conditions: readers that were made of at most 10^6 bytes.
-/
import Derived.Test.YtpfdakkameifkaaGReadN0
namespace Go.Proofs.Ytpfdakkameifkaa
open Go.RowKit Go.Shelf
set_option linter.unusedVariables false
namespace Cd

/-- A reader whose bytes lie at a known place, and whose fault does not lie in block d. -/
def RD (d : Nat) (w : World) (b : Nat) (A : Option Addr) (n c : Nat) (zs : List Int) (k : Nat) (f : Option (Int × Int)) : Prop :=
  ∃ F, RSt w b A n c zs k F ∧ Flt w b F f ∧ ∀ x : Addr, F = some x → x.block ≠ d
theorem RD.rs {d : Nat} {w : World} {b : Nat} {A : Option Addr} {n c : Nat} {zs : List Int} {k : Nat} {f : Option (Int × Int)} (h : RD d w b A n c zs k f) : RS w b zs k f := by
  obtain ⟨F, h1, h2, _⟩ := h
  exact ⟨A, n, c, F, h1, h2⟩
theorem RD.rst {d : Nat} {w : World} {b : Nat} {A : Option Addr} {n c : Nat} {zs : List Int} {k : Nat} (h : RD d w b A n c zs k none) : RSt w b A n c zs k none := by
  obtain ⟨F, h1, ⟨_, rfl⟩ | ⟨_, _, _, h2, _⟩, _⟩ := h
  · exact h1
  · cases h2
theorem RX.rd {w : World} {b : Nat} {A : Option Addr} {n c : Nat} {zs : List Int} {k : Nat} {f : Option (Int × Int)} {base : Nat} (h : RX w b A n c zs k f base) {d : Nat} (hd : d < base) : RD d w b A n c zs k f := by
  obtain ⟨F, h1, h2, h3⟩ := h
  exact ⟨F, h1, h2, fun x hx => by have := h3 x hx; omega⟩
theorem RD.bel {d : Nat} {w w' : World} {b : Nat} {A : Option Addr} {n c : Nat} {zs : List Int} {k : Nat} {f : Option (Int × Int)} (h : RD d w b A n c zs k f) (hk : Bel w w') : RD d w' b A n c zs k f := by
  obtain ⟨F, h1, h2, h3⟩ := h
  exact ⟨F, h1.bel hk, h2.bel hk, h3⟩
/-- The other object moves. -/
theorem RD.kep {d : Nat} {w w' : World} {b : Nat} {A : Option Addr} {n c : Nat} {zs : List Int} {k : Nat} {f : Option (Int × Int)} (h : RD d w b A n c zs k f) (hk : Kep (fun i => i = d) w w') (hbd : b ≠ d) (hA : 0 < n → ∀ x : Addr, A = some x → x.block ≠ d) : RD d w' b A n c zs k f := by
  obtain ⟨F, h1, h2, h3⟩ := h
  exact ⟨F, h1.kep0 hk hbd hA, h2.kep hk h3, h3⟩
theorem RD.fault {d : Nat} {w : World} {b : Nat} {A : Option Addr} {n c : Nat} {zs : List Int} {k : Nat} {p : Int × Int} (h : RD d w b A n c zs k (some p)) : ∃ x, RSt w b A n c zs k (some x) := by
  obtain ⟨F, h1, ⟨h2, _⟩ | ⟨_, _, fb, _, rfl, _⟩, _⟩ := h
  · cases h2
  · exact ⟨_, h1⟩

set_option maxRecDepth 100000 in
theorem uF (b : Nat) (A : Option Addr) (n c : Nat) (zs : List Int) (k : Nat) (x : Addr) (w : World) (h : RSt w b A n c zs k (some x)) :
    Calls Try.prog 106 #[.pointer (some ⟨b, 0, none⟩)] w fun e w' => e = .returned (.int .u64 0) ∧ Bel w w' := by
  have IT := Lib.hid (itemU_fault b A n c zs k x (.func (.func 104) #[] #[]) w h)
  clear h
  go_enter Try.func106, Try.ntmps106
  go_wp2_with fail
  refine (IT.out).mono ?_
  rintro e w' ⟨rfl, rfl⟩
  go_wp2
  go_ret
  exact ⟨rfl, Bel.refl _⟩
set_option maxRecDepth 100000 in
theorem nF (b : Nat) (A : Option Addr) (n c : Nat) (zs : List Int) (k : Nat) (x : Addr) (least most : Int) (w : World) (h : RSt w b A n c zs k (some x)) :
    Calls Try.prog 81 #[.pointer (some ⟨b, 0, none⟩), .int .i64 least, .int .i64 most] w fun e w' => e = .returned (.int .i64 0) ∧ Bel w w' := by
  have IT := Lib.hid (fun fn w' (hb : Bel w w') => itemN_fault b A n c zs k x fn w' (h.bel hb))
  clear h
  go_enter Try.func81, Try.ntmps81
  go_wp2_with fail
  refine (IT.out _ _ (((Bel.refl _).alloc _).alloc _)).mono ?_
  rintro e w' ⟨rfl, rfl⟩
  go_wp2
  go_ret
  exact ⟨rfl, ((Bel.refl _).alloc _).alloc _⟩
theorem yU (d b : Nat) (A : Option Addr) (n c : Nat) (zs : List Int) (k : Nat) (f : Option (Int × Int)) (x : Int) (k' : Nat) (f' : Option (Int × Int)) (w : World) (h : RD d w b A n c zs k f) (hr : RU zs k f x k' f') (hd : d < w.heap.size) :
    Calls Try.prog 106 #[.pointer (some ⟨b, 0, none⟩)] w fun e w' => e = .returned (.int .u64 x) ∧ RD d w' b A n c zs k' f' ∧ Kep (fun i => i = b) w w' := by
  rcases id hr with ⟨p, rfl, rfl, rfl, rfl⟩ | ⟨rfl, _⟩
  · obtain ⟨x, hx⟩ := h.fault
    exact (uF b A n c zs k' x w hx).mono fun e w' he => ⟨he.1, h.bel he.2, Kep.of_bel he.2⟩
  · exact (rUx b A n c zs k x k' f' w h.rst hr).mono fun e w' he => ⟨he.1, he.2.1.rd hd, he.2.2⟩
theorem yN (d b : Nat) (A : Option Addr) (n c : Nat) (zs : List Int) (k : Nat) (f : Option (Int × Int)) (least most x : Int) (k' : Nat) (f' : Option (Int × Int)) (w : World) (h : RD d w b A n c zs k f) (hr : RN zs k f least most x k' f') (hm : most ≤ 9223372036854775807) (hd : d < w.heap.size) :
    Calls Try.prog 81 #[.pointer (some ⟨b, 0, none⟩), .int .i64 least, .int .i64 most] w fun e w' => e = .returned (.int .i64 x) ∧ RD d w' b A n c zs k' f' ∧ Kep (fun i => i = b) w w' := by
  rcases id hr with ⟨p, rfl, rfl, rfl, rfl⟩ | ⟨rfl, _⟩
  · obtain ⟨x, hx⟩ := h.fault
    exact (nF b A n c zs k' x least most w hx).mono fun e w' he => ⟨he.1, h.bel he.2, Kep.of_bel he.2⟩
  · exact (rNx b A n c zs k least most x k' f' w h.rst hr hm).mono fun e w' he => ⟨he.1, he.2.1.rd hd, he.2.2⟩
set_option maxRecDepth 100000 in
theorem yFail (d b : Nat) (A : Option Addr) (n c : Nat) (zs : List Int) (k : Nat) (f : Option (Int × Int)) (e p : Int) (w : World) (h : RD d w b A n c zs k f) (hd : d < w.heap.size) :
    Calls Try.prog 84 #[.pointer (some ⟨b, 0, none⟩), .int .i64 e, .int .i64 p] w fun r w' => r = .returned (.tuple #[]) ∧ RD d w' b A n c zs k (failOf f e p) ∧ Kep (fun i => i = b) w w' := by
  obtain ⟨F, hs, hf, hFd⟩ := h
  have T := Lib.hid (trouble b A n c zs k F w hs)
  have HS := Lib.hid hs
  have HF := Lib.hid hf
  have hbl := hs.blk.lt
  by_cases he : e = 0
  · have E := Lib.hid (show failOf f e p = f from if_pos he)
    have fe : (e != 0) = false := by rw [he]; rfl
    clear hs hf he
    go_enter Try.func84, Try.ntmps84
    go_wp2
    go_end0
    rw [E.out]
    exact ⟨rfl, ⟨F, HS.out, HF.out, hFd⟩, Kep.refl _ _⟩
  · have fe : (e != 0) = true := by rw [bne_iff_ne]; exact he
    have HE := Lib.hid he
    rcases hf with ⟨rfl, rfl⟩ | ⟨e', q, fb, rfl, rfl, h3, h4, h5⟩
    · have E := Lib.hid (show failOf none e p = some (e, p) from if_neg he)
      have k3 : w.cell? ⟨b, 3, none⟩ = some (.pointer none) := hs.blk.cell 3 rfl
      have k3' : (w.alloc (.cells #[.int .i64 e, .int .i64 p] 54)).cell? ⟨b, 3, none⟩ = some (.pointer none) := (hs.blk.alloc _).cell 3 rfl
      have f3 := hs.blk.frozen 3
      have f3' := (hs.blk.alloc (.cells #[.int .i64 e, .int .i64 p] 54)).frozen 3
      clear hs he
      go_enter Try.func84, Try.ntmps84
      go_wp2_with (go_at_call 105; refine (T.out).mono ?_; rintro r w' ⟨rfl, rfl⟩)
      go_end0
      rw [E.out]
      have hbk := Blk.new (w.setCell ⟨b, 3, none⟩ (.pointer (some ⟨w.heap.size, 0, none⟩))) #[.int .i64 e, .int .i64 p] 54
      have hsz : (w.setCell ⟨b, 3, none⟩ (.pointer (some ⟨w.heap.size, 0, none⟩))).heap.size = w.heap.size := by simp
      rw [hsz] at hbk
      exact ⟨rfl, ⟨_, (HS.out.fault (some ⟨w.heap.size, 0, none⟩)).bel ((Bel.refl _).alloc _), .inr ⟨e, p, w.heap.size, rfl, rfl, by omega, hbk, HE.out⟩, fun x hx => by cases hx; exact Nat.ne_of_gt hd⟩, ((Kep.refl _ _).set_self 3 _).alloc _⟩
    · have E := Lib.hid (show failOf (some (e', q)) e p = some (e', q) from if_neg he)
      clear hs he
      go_enter Try.func84, Try.ntmps84
      go_wp2_with (go_at_call 105; refine (T.out).mono ?_; rintro r w' ⟨rfl, rfl⟩)
      go_end0
      rw [E.out]
      exact ⟨rfl, ⟨_, HS.out, HF.out, hFd⟩, Kep.refl _ _⟩
end Cd
end Go.Proofs.Ytpfdakkameifkaa
