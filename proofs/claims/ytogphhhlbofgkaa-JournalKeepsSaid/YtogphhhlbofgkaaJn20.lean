/-
  The statements' journal of six cells behind no acts; acts at a journal that is new. Condition: the journal lies in memory as JD says.
-/
import Derived.Test.YtogphhhlbofgkaaJn18
namespace Go.Proofs.Ytogphhhlbofgkaa
open Go.RowKit Go.Shelf Go.Maps
set_option linter.unusedVariables false
namespace Jn
open Kk Pm Bk

theorem doesN {w0 w : World} {pj : Nat} {zs : List Int} {L : List Lv} (h : Nw w0 w pj zs L) (hl : L.length ≤ 64) (a i k u : Int) (hB : ActB a i k u) :
    Calls Try.prog 17 #[.pointer (some ⟨pj, 0, none⟩), actV a i k u] w fun e w' => e = .returned (.int .i64 (actE zs L a i k u)) ∧ Nw w0 w' pj (actZ zs L a i k u) (actL zs L a i k u) := by
  obtain ⟨M, I, hj, hm, hb⟩ := h
  refine (does hj hl a i k u hB).mono ?_
  rintro e w' ⟨rfl, M', I', hj', hs⟩
  exact ⟨rfl, Nw.step hm hb hs hj'⟩

theorem cellsK {w0 w : World} {pj : Nat} {zs : List Int} {L : List Lv} (h : Nw w0 w pj zs L) :
    Calls Try.prog 27 #[.pointer (some ⟨pj, 0, none⟩)] w fun e w' => ∃ A c, e = .returned (.slice A zs.length c) ∧ Ints .u64 w' A zs.length zs ∧ Bel w w' ∧ ∀ x, A = some x → w.heap.size ≤ x.block := by
  obtain ⟨M, I, hj, hm, hb⟩ := h
  refine (cellsD hj).mono ?_
  rintro e w' ⟨v, rfl, hf⟩
  obtain ⟨A, c, rfl, hs⟩ := hf.su
  refine ⟨A, c, rfl, hs.ints, hf.2, fun x hx => ?_⟩
  rcases hf.1.2 with ⟨h1, _⟩ | ⟨g, cap, cur, h1, hg, _⟩
  · injection h1 with h1; rw [hx] at h1; cases h1
  · injection h1 with h1; rw [hx] at h1; cases h1; exact hg
theorem moveK {w0 wa w : World} {pj : Nat} {zs : List Int} {L : List Lv} (h : Nw w0 wa pj zs L) (hbb : Bel wa w) (hl : L.length ≤ 64) (i k u E : Int) (h0 : 0 ≤ u) (h1 : u ≤ 18446744073709551615) (e1 : movE zs i k u = E) :
    Calls Try.prog 31 #[.pointer (some ⟨pj, 0, none⟩), .int .i64 i, .int .i64 k, .int .u64 u] w fun e w' => e = .returned (.int .i64 E) ∧ Nw w0 w' pj (movS zs i k u) (movL zs L i k u) ∧ Kep (fun b => b < wa.heap.size) w w' := by
  subst e1
  obtain ⟨M, I, hj, hm, hb⟩ := h
  have hin := hj.facts.2.2.2.2.1
  refine (moveD (hj.bel hbb) hl i k u h0 h1).mono ?_
  rintro e w' ⟨rfl, M', I', hj', hs⟩
  exact ⟨rfl, Nw.step hm (hb.trans hbb) hs hj', hs.kep.mono fun k _ hk => hin k hk⟩

set_option maxHeartbeats 1000000 in
theorem made0 (w : World) : Calls Try.prog 34 #[.slice none 0 0] w fun e w' => ∃ pj, e = .returned (.pointer (some ⟨pj, 0, none⟩)) ∧ Nw w w' pj [0, 0, 0, 0, 0, 0] [] := by
  have NE := Lib.hid (newN 6 w (by decide) (by decide))
  go_enter Try.func34, Try.ntmps34
  go_wp2_with fail
  refine NE.out.mono ?_
  rintro e w1 ⟨pj, rfl, h1⟩
  have H1 := Lib.hid (show Nw w w1 pj [0, 0, 0, 0, 0, 0] [] from h1)
  clear h1
  go_wp2_with fail
  refine wp_loop_rounds 1 ?_
  rw [rounds_succ]
  go_wp2
  go_ret
  exact ⟨pj, rfl, H1.out⟩
end Jn
end Go.Proofs.Ytogphhhlbofgkaa
