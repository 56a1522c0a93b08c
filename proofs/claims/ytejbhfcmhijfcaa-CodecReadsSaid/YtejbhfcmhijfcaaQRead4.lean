/-
  What the reference's reader answers: take, Blob.
  Conditions: the reader is one that the reference's NewReader made of at most 10^6 bytes.
-/
import Derived.Test.YtejbhfcmhijfcaaQRead3
namespace Go.Proofs.Ytejbhfcmhijfcaa
open Go.RowKit Go.Shelf
set_option linter.unusedVariables false
namespace Cd

theorem head_sl (A : Option Addr) (n c k m : Nat) (zs : List Int) (w : World) (hi : Sl w A n c zs) (hk : k + m ≤ n) :
    ∃ A', (∀ w' : World, (Instr.slice 23 (.slice A n c) (some (.int .i64 (k : Int))) (some (.int .i64 ((k : Int) + (m : Int)))) none).run Try.prog w' = .ok (.slice A' m (c - k)) w') ∧ Sl w A' m (c - k) ((zs.drop k).take m) := by
  have hc := hi.cap
  refine ⟨if c = k then A else A.map (·.add (k * 1)), fun w' => ?_, hi.ints.part hk hc, by omega, fun h => ?_⟩
  · have h := slice_lh A n c k ((k : Int) + (m : Int)) w' (by omega) (by omega) (by omega)
    rw [show ((k : Int) + (m : Int)).toNat = k + m by omega] at h
    simp only [Int.toNat_natCast, Nat.add_sub_cancel_left] at h
    exact h
  · by_cases e : c = k
    · omega
    · rw [if_neg e] at h
      cases A with
      | none => have := hi.nil rfl; omega
      | some x => cases h

set_option maxRecDepth 100000 in
theorem take_fault (b : Nat) (A : Option Addr) (n c : Nat) (zs : List Int) (k : Nat) (p : Int × Int) (m from_ : Int) (w : World) (h : QS w b A n c zs k (some p)) :
    Calls Try.prog 66 #[.pointer (some ⟨b, 0, none⟩), .int .i64 m, .int .i64 from_] w fun r w' => r = .returned (.slice none 0 0) ∧ QS w' b A n c zs k (some p) ∧ Kep (fun i => i = b) w w' := by
  have H := Lib.hid h
  have c2 : w.cell? ⟨b, 2, none⟩ = some (.int .i64 p.1) := h.blk.cell 2 rfl
  have he : p.1 ≠ 0 := h.flt _ rfl
  have fe : (p.1 != 0) = true := by rw [bne_iff_ne]; exact he
  have fe2 : (p.1 == 0) = false := by rw [beq_eq_false_iff_ne]; exact he
  clear h he
  go_enter Try.func66, Try.ntmps66
  go_wp2_with fail
  go_quiet (fail)
  go_wp2
  go_ret
  exact ⟨rfl, H.out.bel ((Bel.refl _).drewN _), Kep.of_bel ((Bel.refl _).drewN _)⟩
set_option maxRecDepth 100000 in
theorem take_short (b : Nat) (A : Option Addr) (n c : Nat) (zs : List Int) (k : Nat) (m : Nat) (from_ : Int) (w : World) (h : QS w b A n c zs k none) (hs : n < k + m) :
    Calls Try.prog 66 #[.pointer (some ⟨b, 0, none⟩), .int .i64 (m : Int), .int .i64 from_] w fun r w' => r = .returned (.slice none 0 0) ∧ QS w' b A n c zs k (some (6, from_)) ∧ Kep (fun i => i = b) w w' := by
  have c0 : w.cell? ⟨b, 0, none⟩ = some (.slice A n c) := h.blk.cell 0 rfl
  have c1 : w.cell? ⟨b, 1, none⟩ = some (.int .i64 (k : Int)) := h.blk.cell 1 rfl
  have c2 : w.cell? ⟨b, 2, none⟩ = some (.int .i64 0) := h.blk.cell 2 rfl
  have h1 := h.len
  have h2 := h.le
  have e1 : IntKind.i64.wrap ((n : Int) - (k : Int)) = (n : Int) - (k : Int) := IntWalk.i64_in _ (by omega)
  have g : (n : Int) - (k : Int) < (m : Int) := by omega
  have FL := Lib.hid (fun w' (hb : Bel w w') => qFail b A n c zs k none 6 from_ w' (h.bel hb))
  clear h
  go_enter Try.func66, Try.ntmps66
  go_wp2_with fail
  go_quiet (fail)
  go_wp2_with fail
  refine (FL.out _ ((Bel.refl _).drewN _)).mono ?_
  rintro r w2 ⟨rfl, hq, hk⟩
  have hq : QS w2 b A n c zs k (some (6, from_)) := hq
  have c2 : w2.cell? ⟨b, 2, none⟩ = some (.int .i64 6) := hq.blk.cell 2 rfl
  have HQ := Lib.hid hq
  have HK := Lib.hid ((Kep.of_bel (S := fun i => i = b) ((Bel.refl w).drewN _)).trans hk)
  clear hq hk
  go_wp2
  go_ret
  exact ⟨rfl, HQ.out, HK.out⟩
set_option maxRecDepth 100000 in
set_option maxHeartbeats 1000000 in
theorem take_ok (b : Nat) (A : Option Addr) (n c : Nat) (zs : List Int) (k : Nat) (m : Nat) (from_ : Int) (w : World) (h : QS w b A n c zs k none) (hs : k + m ≤ n) :
    Calls Try.prog 66 #[.pointer (some ⟨b, 0, none⟩), .int .i64 (m : Int), .int .i64 from_] w fun r w' => ∃ v, r = .returned v ∧ w'.ownsRow w.heap.size 5 1 v m (((zs.drop k).take m).map (Value.int .u8)) ∧ QS w' b A n c zs (k + m) none ∧ Kep (fun i => i = b) w w' := by
  have c0 : w.cell? ⟨b, 0, none⟩ = some (.slice A n c) := h.blk.cell 0 rfl
  have c1 : w.cell? ⟨b, 1, none⟩ = some (.int .i64 (k : Int)) := h.blk.cell 1 rfl
  have c2 : w.cell? ⟨b, 2, none⟩ = some (.int .i64 0) := h.blk.cell 2 rfl
  have H := Lib.hid h
  have h1 := h.len
  have h2 := h.le
  have hbl := h.blk.lt
  have e1 : IntKind.i64.wrap ((n : Int) - (k : Int)) = (n : Int) - (k : Int) := IntWalk.i64_in _ (by omega)
  have e2 : IntKind.i64.wrap ((k : Int) + (m : Int)) = (k : Int) + (m : Int) := IntWalk.i64_in _ (by omega)
  have g : (m : Int) ≤ (n : Int) - (k : Int) := by omega
  have hlen : ((zs.drop k).take m).length = m := by have := h.sl.len; simp; omega
  obtain ⟨A2, hsl, hs3⟩ := head_sl A n c k m zs w h.sl hs
  have G := Lib.hid (fun w' (hb : Bel w w') => (copyBytes A2 m (c - k) _ w' (hs3.bel hb) (by omega)).mono (R' := fun r w1 => ∃ v, r = .returned v ∧ Bel w' w1 ∧ Hid (w1.ownsRow w'.heap.size 5 1 v m (((zs.drop k).take m).map (Value.int .u8))) ∧ w1.cell? ⟨b, 0, none⟩ = some (.slice A n c) ∧ w1.cell? ⟨b, 1, none⟩ = some (.int .i64 (k : Int))) fun r w1 ⟨v, hr1, hr2⟩ => ⟨v, hr1, hr2.2, by have := hr2.1; rw [hlen] at this; exact this, (h.blk.bel (hb.trans hr2.2)).cell 0 rfl, (h.blk.bel (hb.trans hr2.2)).cell 1 rfl⟩)
  have hs2 := hs
  clear h hs3 hs
  go_enter Try.func66, Try.ntmps66
  go_wp2_with fail
  go_quiet (fail)
  go_upto_region 5 with fail
  go_region_held3 (fun w' => w'.cell? ⟨b, 0, none⟩ = some (.slice A n c) ∧ w'.cell? ⟨b, 1, none⟩ = some (.int .i64 (k : Int))) (go_keep)
    (first | (go_at_call 48; refine (G.out _ ?_).mono ?_; exact ((Bel.refl _).drewN _).drew; rintro r w1 ⟨v, rfl, hb1, hu, k1, k2⟩; have hb2 : Bel w w1 := (((Bel.refl w).drewN _).drew).trans hb1; clear hb1))
  all_goals
    have HU := Lib.hid (owns_mono hu.out (show w.heap.size ≤ (w.drewN nq).drew.heap.size by simp))
    have HB := Lib.hid hb2
    have HR := Lib.hid (H.out.bel hb2)
    have hne := Lib.hid (own_ne HU.out hbl)
    have f1 := HR.out.blk.frozen 1
    clear hu hb2
    go_wp2
    go_ret
    exact ⟨v, rfl, owns_set HU.out hne.out 1 _, HR.out.turn ((Kep.refl _ _).set_self 1 _) (HR.out.blk.set 1 _) hs2 (fun q hq => by cases hq), (Kep.of_bel HB.out).set_self _ _⟩
end Cd
end Go.Proofs.Ytejbhfcmhijfcaa
