/-
  The two journals' beginning, what acts make of them, and calls at them. Condition: the state is as KX says.
-/
import Derived.Test.YtogphhhlbofgkaaJn25
namespace Go.Proofs.Ytogphhhlbofgkaa
open Go.RowKit Go.Shelf Go.Maps
set_option linter.unusedVariables false
namespace Jn
open Kk Pm Bk

set_option maxHeartbeats 1000000 in
theorem made0D (w : World) : Calls Try.prog 34 #[.slice none 0 0] w fun e w' => ∃ M pj, e = .returned (.pointer (some ⟨pj, 0, none⟩)) ∧ JD w' M (fun _ => False) pj [0, 0, 0, 0, 0, 0] [] ∧ Bel w w' ∧ (∀ b, M b → w.heap.size ≤ b) := by
  have NE := Lib.hid (newD 6 w (by decide) (by decide))
  go_enter Try.func34, Try.ntmps34
  go_wp2_with fail
  refine NE.out.mono ?_
  rintro e w1 ⟨M, pj, rfl, h1, h2, h3⟩
  have H1 := Lib.hid (show JD w1 M (fun _ => False) pj [0, 0, 0, 0, 0, 0] [] ∧ Bel w w1 ∧ (∀ b, M b → w.heap.size ≤ b) from ⟨h1, h2, h3⟩)
  clear h1 h2 h3
  go_wp2_with fail
  refine wp_loop_rounds 1 ?_
  rw [rounds_succ]
  go_wp2
  go_ret
  exact ⟨M, pj, rfl, H1.out⟩

theorem kx_start {w0 w1 w2 w3 : World} {M M2 : Nat → Prop} {pj pk : Nat} {zs zs2 : List Int} (hb : Bel w0 w1) (hj : JD w2 M (fun _ => False) pj zs []) (h1 : Bel w1 w2) (hm : ∀ b, M b → w1.heap.size ≤ b) (hk : JD w3 M2 (fun _ => False) pk zs2 []) (h2 : Bel w2 w3) (hm2 : ∀ b, M2 b → w2.heap.size ≤ b) :
    KS w0 w3 pj pk zs zs2 [] (.slice none 0 0) [] := by
  have f := hj.facts
  refine ⟨M, _, M2, _, [], hj.bel h2, hk, fun b hb => ⟨fun h => ?_, fun h => h⟩, fun b _ h => h, fun b h => Nat.le_trans (Below.size hb) (hm b h), fun b h => Nat.le_trans (Below.size (hb.trans h1)) (hm2 b h), (hb.trans h1).trans h2, World.ownsRow_nil _ _ _ _, fun g hg => (by cases hg), trivial⟩
  have := f.2.2.2.2.1 b hb
  have := hm2 b h
  omega
section
variable {w0 w w' : World} {M I M2 I2 : Nat → Prop} {pj pk : Nat} {zs zs2 : List Int} {L : List Lv} {v : Value} {xs : List Value} {ws : List (List Int)}
theorem KX.shape (h : KX w0 w M I M2 I2 pj pk zs zs2 L v xs ws) : ∃ A c, v = .slice A ws.length c := by
  rcases h.row.2 with ⟨e, hn⟩ | ⟨g, cap, cur, e, _⟩
  · exact ⟨none, 0, by rw [e, hn]⟩
  · exact ⟨_, _, e⟩
theorem KX.nwj (h : KX w0 w M I M2 I2 pj pk zs zs2 L v xs ws) : Nw w0 w pj zs L := ⟨M, I, h.j, h.m, h.bel⟩
theorem KX.nwk (h : KX w0 w M I M2 I2 pj pk zs zs2 L v xs ws) : Nw w0 w pk zs2 [] := ⟨M2, I2, h.k, h.m2, h.bel⟩
theorem doesX (h : KX w0 w M I M2 I2 pj pk zs zs2 L v xs ws) (hl : L.length ≤ 64) (a i k u : Int) (hB : ActB a i k u) :
    Calls Try.prog 17 #[.pointer (some ⟨pj, 0, none⟩), actV a i k u] w fun e w' => e = .returned (.int .i64 (actE zs L a i k u)) ∧ Kep M w w' ∧ ∃ M' I', KX w0 w' M' I' M2 I2 pj pk (actZ zs L a i k u) zs2 (actL zs L a i k u) v xs ws := by
  refine (does h.j hl a i k u hB).mono ?_
  rintro e w' ⟨rfl, M', I', hj', hs⟩
  exact ⟨rfl, hs.kep, M', I', h.stepj hj' hs⟩
theorem doesY (h : KX w0 w M I M2 I2 pj pk zs zs2 L v xs ws) (a i k u : Int) (hB : ActB a i k u) (hn : actL zs2 [] a i k u = []) :
    Calls Try.prog 17 #[.pointer (some ⟨pk, 0, none⟩), actV a i k u] w fun e w' => e = .returned (.int .i64 (actE zs2 [] a i k u)) ∧ ∃ M' I', KX w0 w' M I M' I' pj pk zs (actZ zs2 [] a i k u) L v xs ws := by
  refine (does h.k (by simp) a i k u hB).mono ?_
  rw [hn]
  rintro e w' ⟨rfl, M', I', hj', hs⟩
  exact ⟨rfl, M', I', h.stepk hj' hs⟩
theorem undoX {lv : Lv} (h : KX w0 w M I M2 I2 pj pk zs zs2 (lv :: L) v xs ws) :
    Calls Try.prog 36 #[.pointer (some ⟨pj, 0, none⟩)] w fun e w' => e = .returned (.int .i64 0) ∧ KX w0 w' M I M2 I2 pj pk lv.1 zs2 L v xs ws := by
  refine (undoDD h.j).mono ?_
  rintro e w' ⟨rfl, hj, hs⟩
  exact ⟨rfl, h.stepj hj hs⟩
end

/-! ### what acts make of the levels' cells -/
theorem touch_fst (L : List Lv) (i : Nat) : (touch L i).map Prod.fst = L.map Prod.fst := by cases L <;> rfl
theorem keepS_fst (lv : Lv) (L : List Lv) : (keepS (lv :: L)).map Prod.fst = L.map Prod.fst := by cases L <;> rfl
theorem act_same (zs : List Int) (L : List Lv) (a i k u : Int) (h4 : ¬ a = 4) (h5 : ¬ a = 5) (h6 : ¬ a = 6) (h7 : ¬ a = 7) :
    actE zs L a i k u = actE zs [] a i k u ∧ actZ zs L a i k u = actZ zs [] a i k u ∧ actL zs [] a i k u = [] ∧ (actL zs L a i k u).map Prod.fst = L.map Prod.fst ∧ (actL zs L a i k u).length = L.length ∧ (actZ zs [] a i k u).length = zs.length := by
  unfold actE actZ actL
  simp only [if_neg h4, if_neg h5, if_neg h6, if_neg h7]
  refine ⟨trivial, trivial, ?_, ?_, ?_, ?_⟩
  · split
    · unfold setL; split <;> rfl
    · split
      · unfold addL; split <;> rfl
      · split
        · unfold subL; split <;> rfl
        · split
          · unfold movL; split <;> rfl
          · rfl
  · split
    · unfold setL; split
      · exact touch_fst _ _
      · rfl
    · split
      · unfold addL; split
        · exact touch_fst _ _
        · rfl
      · split
        · unfold subL; split
          · exact touch_fst _ _
          · rfl
        · split
          · unfold movL; split
            · rw [touch_fst, touch_fst]
            · rfl
          · rfl
  · split
    · unfold setL; split
      · exact touch_len _ _
      · rfl
    · split
      · unfold addL; split
        · exact touch_len _ _
        · rfl
      · split
        · unfold subL; split
          · exact touch_len _ _
          · rfl
        · split
          · unfold movL; split
            · rw [touch_len, touch_len]
            · rfl
          · rfl
  · split
    · unfold setS; split <;> simp
    · split
      · unfold addS; split <;> simp
      · split
        · unfold subS; split <;> simp
        · split
          · unfold movS; split <;> simp
          · rfl
end Jn
end Go.Proofs.Ytogphhhlbofgkaa
