/-
  What stamp.Check answers: any stamp. No condition.
-/
import Derived.Test.YtcefjigbaglmeaaGreatGSm0
namespace Go.Proofs.YtcefjigbaglmeaaGreat
open Go.RowKit Go.Shelf
set_option linter.unusedVariables false
namespace Sm
open Kk

set_option maxRecDepth 10000 in
set_option maxHeartbeats 4000000 in
theorem check (a b c d : Int) (w : World) : Calls Tryz.prog 55 #[stV a b c d] w fun r w' => r = .returned (.int .i64 (ck a b c d)) ∧ Bel w w' := by
  have HO := Lib.hid (obj_ck a b c d)
  obtain ⟨E, hE⟩ : ∃ E, ck a b c d = E := ⟨_, rfl⟩
  rw [hE] at HO ⊢
  clear hE
  obtain ⟨A1, h1⟩ : ∃ A, decide (a < 0 ∨ 31 < a) = A := ⟨_, rfl⟩
  obtain ⟨A2, h2⟩ : ∃ A, decide (b < 1 ∨ 4294967296 < b) = A := ⟨_, rfl⟩
  obtain ⟨A3, h3⟩ : ∃ A, decide (c < -1 ∨ 31 < c) = A := ⟨_, rfl⟩
  obtain ⟨A4, h4⟩ : ∃ A, decide (d < 0 ∨ 4294967296 < d) = A := ⟨_, rfl⟩
  obtain ⟨A5, h5⟩ : ∃ A, decide (c = a) = A := ⟨_, rfl⟩
  obtain ⟨A6, h6⟩ : ∃ A, decide ((c = -1 ∧ d ≠ 0) ∨ (c ≠ -1 ∧ d = 0)) = A := ⟨_, rfl⟩
  obtain ⟨A7, h7⟩ : ∃ A, decide (b < d) = A := ⟨_, rfl⟩
  have HD := Lib.hid (show obj a b c d = [(A1, 3), (A2, 3), (A3, 3), (A4, 3), (A5, 2), (A6, 11), (A7, 9)] by unfold obj; rw [h1, h2, h3, h4, h5, h6, h7])
  have h6 := odd h6
  have h1 := two h1
  have h2 := two h2
  have h3 := two h3
  have h4 := two h4
  have g5 : (c == a) = A5 := by rw [← h5]; by_cases h : c = a <;> simp [h]
  clear h5
  go_enter Tryz.func55, Tryz.ntmps55
  go_upto_region 1 with fail
  go_cut [3] (fun s3 wx => ∃ g : Nat, s3 = .slice (some ⟨g, 0, none⟩) 7 7 ∧ Hid (Blk wx g (cellsO (obj a b c d)).toArray 119 ∧ Bel w wx))
  case first =>
    have BN := Lib.hid (Blk.new (w.alloc (.cells #[.int .i64 a, .int .i64 b, .int .i64 c, .int .i64 d] 51)) (cellsO (obj a b c d)).toArray 119)
    have BB := Lib.hid (((Bel.refl w).alloc (.cells #[.int .i64 a, .int .i64 b, .int .i64 c, .int .i64 d] 51)).alloc (.cells (cellsO (obj a b c d)).toArray 119))
    rw [HD.out] at BN BB
    rcases h1 with ⟨x1, rfl⟩ | ⟨x1, y1⟩ <;> rcases h2 with ⟨x2, rfl⟩ | ⟨x2, y2⟩ <;> rcases h3 with ⟨x3, rfl⟩ | ⟨x3, y3⟩ <;> rcases h4 with ⟨x4, rfl⟩ | ⟨x4, y4⟩
    all_goals
      go_wp2_with fail
      go_meet
      refine ⟨w.heap.size + 1, rfl, Lib.hid ⟨?_, ?_⟩⟩
      · rw [HD.out]; have := BN.out; rw [World.size_alloc] at this; exact this
      · exact BB.out
  case rest =>
    obtain ⟨g, rfl, hh⟩ := hcut
    have IX := Lib.hid (indexFunc g (obj a b c d) 7 wc rfl (by decide) hh.out.1)
    clear h1 h2 h3 h4 g5 h6 h7
    obtain ⟨I, hI⟩ : ∃ I, idx (obj a b c d) 0 = I := ⟨_, rfl⟩
    rw [hI] at IX HO
    clear hI
    go_wp2_with fail
    refine (IX.out).mono ?_
    rintro r w1 ⟨rfl, kb⟩
    have KB := Lib.hid (hh.out.2.trans kb)
    have BW := Lib.hid (hh.out.1.bel kb)
    clear kb IX
    rcases HO.out with ⟨rfl, rfl⟩ | ⟨i, hi, rfl, hx⟩
    · go_wp2_with fail
      go_ret
      exact ⟨rfl, KB.out⟩
    · obtain ⟨e0, e1⟩ := cellsO_at _ i _ _ hx
      have c1 : w1.cell? ⟨g, i * 2 + 1, none⟩ = some (.int .i64 E) := BW.out.cell _ (by rw [List.getElem?_toArray, Nat.mul_comm]; exact e1)
      have hi3 : (i : Int) < 7 := by omega
      clear hx e0 e1
      go_wp2_with fail
      go_ret
      exact ⟨rfl, KB.out⟩
end Sm
end Go.Proofs.YtcefjigbaglmeaaGreat
