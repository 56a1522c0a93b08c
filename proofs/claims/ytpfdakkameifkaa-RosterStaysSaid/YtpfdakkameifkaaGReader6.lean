/-
  What N and Blob of a reader answer in this program, and Fail.
  Conditions: the reader is one that NewReader made of at most 10^6 bytes.
-/
import Derived.Test.YtpfdakkameifkaaGReader5
namespace Go.Proofs.Ytpfdakkameifkaa
open Go.RowKit Go.Shelf
set_option linter.unusedVariables false
namespace Cd

theorem bel_cell {w w' : World} (h : Bel w w') {b o : Nat} {v : Value} (hc : w.cell? ⟨b, o, none⟩ = some v) : w'.cell? ⟨b, o, none⟩ = some v := (Kep.of_bel (S := fun _ => False) h).cell id hc

set_option maxRecDepth 100000 in
theorem rN (b : Nat) (zs : List Int) (k : Nat) (f : Option (Int × Int)) (least most x : Int) (k' : Nat) (f' : Option (Int × Int)) (w : World) (h : RS w b zs k f) (hr : RN zs k f least most x k' f') (hm : most ≤ 9223372036854775807) :
    Calls Try.prog 81 #[.pointer (some ⟨b, 0, none⟩), .int .i64 least, .int .i64 most] w fun e w' => e = .returned (.int .i64 x) ∧ RS w' b zs k' f' ∧ Kep (fun i => i = b) w w' := by
  have b0 : Bel w ((w.alloc (.cells #[.int .i64 least] 3)).alloc (.cells #[.int .i64 most] 3)) := ((Bel.refl w).alloc _).alloc _
  have HB0 := Lib.hid b0
  have hbl : b < w.heap.size := by obtain ⟨A, n, c, F, hs, _⟩ := h; exact hs.blk.lt
  obtain ⟨A, n, c, F, hs, hf⟩ := h.bel b0
  have p1 : ((w.alloc (.cells #[.int .i64 least] 3)).alloc (.cells #[.int .i64 most] 3)).cell? ⟨w.heap.size, 0, none⟩ = some (.int .i64 least) := ((Blk.new w _ _).alloc _).cell 0 rfl
  have p2 : ((w.alloc (.cells #[.int .i64 least] 3)).alloc (.cells #[.int .i64 most] 3)).cell? ⟨w.heap.size + 1, 0, none⟩ = some (.int .i64 most) := by
    have := (Blk.new (w.alloc (.cells #[.int .i64 least] 3)) #[.int .i64 most] 3).cell 0 rfl
    rwa [World.size_alloc] at this
  have HP1 := Lib.hid p1
  have HP2 := Lib.hid p2
  rcases hr with ⟨p, rfl, rfl, rfl, rfl⟩ | ⟨rfl, tl, e, bad, hw, hmv, hk, hx⟩
  · obtain ⟨_, _⟩ | ⟨e, q, fb, h1, rfl, h3, h4, h5⟩ := hf
    · contradiction
    have IT := Lib.hid (itemN_fault b A n c zs k' ⟨fb, 0, none⟩ (.func (.func 103) #[] #[.pointer (some ⟨w.heap.size, 0, none⟩), .pointer (some ⟨w.heap.size + 1, 0, none⟩)]) _ hs)
    have HR : Hid (RS _ b zs k' (some p)) := ⟨A, n, c, _, hs, .inr ⟨e, q, fb, h1, rfl, h3, h4, h5⟩⟩
    clear hs h1 h3 h4 h5 p1 p2 b0 h
    go_enter Try.func81, Try.ntmps81
    go_wp2_with fail
    refine (IT.out).mono ?_
    rintro e w' ⟨rfl, rfl⟩
    go_wp2
    go_ret
    exact ⟨rfl, HR.out, Kep.of_bel HB0.out⟩
  · obtain ⟨_, rfl⟩ | ⟨e, q, fb, h1, _⟩ := hf
    · have IT := Lib.hid (itemN b A n c zs k x tl e bad k' f' _ hs ⟨w.heap.size, 0, none⟩ ⟨w.heap.size + 1, 0, none⟩ (fun w' hb => n1 A n c zs k least most x tl e bad w.heap.size (w.heap.size + 1) w' (hs.sl.bel hb) hs.len hs.bytes hw (bel_cell hb HP1.out) (bel_cell hb HP2.out) hm) hmv (by rw [← hs.sl.len]; exact hk) hx)
      clear hs hw hmv hk hx p1 p2 b0 h hm
      go_enter Try.func81, Try.ntmps81
      go_wp2_with fail
      refine (IT.out).mono ?_
      rintro e w' ⟨rfl, h1, h2⟩
      have H1 := Lib.hid h1
      have H2 := Lib.hid h2
      clear h1 h2
      go_wp2
      go_ret
      exact ⟨rfl, H1.out, (Kep.of_bel HB0.out).trans H2.out⟩
    · cases h1


/-- What Fail makes of a fault. -/
def failOf (f : Option (Int × Int)) (e p : Int) : Option (Int × Int) := if e = 0 then f else match f with
  | some q => some q
  | none => some (e, p)

set_option maxRecDepth 100000 in
theorem rFail (b : Nat) (zs : List Int) (k : Nat) (f : Option (Int × Int)) (e p : Int) (w : World) (h : RS w b zs k f) :
    Calls Try.prog 84 #[.pointer (some ⟨b, 0, none⟩), .int .i64 e, .int .i64 p] w fun r w' => r = .returned (.tuple #[]) ∧ RS w' b zs k (failOf f e p) ∧ Kep (fun i => i = b) w w' := by
  obtain ⟨A, n, c, F, hs, hf⟩ := h
  have T := Lib.hid (trouble b A n c zs k F w hs)
  have HS := Lib.hid hs
  have HF := Lib.hid hf
  have hbl := hs.blk.lt
  by_cases he : e = 0
  · have E := Lib.hid (show failOf f e p = f from if_pos he)
    have fe : (e != 0) = false := by rw [he]; rfl
    clear hs hf he
    go_enter Try.func84, Try.ntmps84
    go_wp2
    go_end0
    rw [E.out]
    exact ⟨rfl, ⟨A, n, c, F, HS.out, HF.out⟩, Kep.refl _ _⟩
  · have fe : (e != 0) = true := by rw [bne_iff_ne]; exact he
    have HE := Lib.hid he
    rcases hf with ⟨rfl, rfl⟩ | ⟨e', q, fb, rfl, rfl, h3, h4, h5⟩
    · have E := Lib.hid (show failOf none e p = some (e, p) from if_neg he)
      have k3 : w.cell? ⟨b, 3, none⟩ = some (.pointer none) := hs.blk.cell 3 rfl
      have k3' : (w.alloc (.cells #[.int .i64 e, .int .i64 p] 54)).cell? ⟨b, 3, none⟩ = some (.pointer none) := (hs.blk.alloc _).cell 3 rfl
      have f3 := hs.blk.frozen 3
      have f3' := (hs.blk.alloc (.cells #[.int .i64 e, .int .i64 p] 54)).frozen 3
      clear hs he
      go_enter Try.func84, Try.ntmps84
      go_wp2_with (go_at_call 105; refine (T.out).mono ?_; rintro r w' ⟨rfl, rfl⟩)
      go_end0
      rw [E.out]
      have hbk := Blk.new (w.setCell ⟨b, 3, none⟩ (.pointer (some ⟨w.heap.size, 0, none⟩))) #[.int .i64 e, .int .i64 p] 54
      have hsz : (w.setCell ⟨b, 3, none⟩ (.pointer (some ⟨w.heap.size, 0, none⟩))).heap.size = w.heap.size := by simp
      rw [hsz] at hbk
      exact ⟨rfl, ⟨A, n, c, _, (HS.out.fault (some ⟨w.heap.size, 0, none⟩)).bel ((Bel.refl _).alloc _), .inr ⟨e, p, w.heap.size, rfl, rfl, by omega, hbk, HE.out⟩⟩, ((Kep.refl _ _).set_self 3 _).alloc _⟩
    · have E := Lib.hid (show failOf (some (e', q)) e p = some (e', q) from if_neg he)
      clear hs he
      go_enter Try.func84, Try.ntmps84
      go_wp2_with (go_at_call 105; refine (T.out).mono ?_; rintro r w' ⟨rfl, rfl⟩)
      go_end0
      rw [E.out]
      exact ⟨rfl, ⟨A, n, c, _, HS.out, HF.out⟩, Kep.refl _ _⟩
end Cd
end Go.Proofs.Ytpfdakkameifkaa
