/-
  What fill of a block answers in this program: as many bytes as there is room for are taken in. Conditions: a block that is not full; a slice of bytes that is not empty.
-/
import Derived.Test.YtaniijpppmipbaaDoorKAbsorb
namespace Go.Proofs.YtaniijpppmipbaaDoor
open Go.RowKit Go.Shelf
set_option linter.unusedVariables false
namespace Kk

theorem step_copy_cells {ops : Array Oper} {o : Oper} {a : Act} {w : World} {K : Act → World → Prop} {Q : Exit → Act → World → Prop} {E : Prop} (hgd : o.guard = none) (d s : Operand)
    (ho : o.op = .call { callee := .builtin .copy, args := #[d, s], argTypes := #[22, 22] }) (g off dLen dCap : Nat) (ad : Addr) (sLen sCap : Nat)
    (hd : a.eval d = .slice (some ⟨g, off, none⟩) dLen dCap) (hs : a.eval s = .slice (some ad) sLen sCap)
    (cs : List Value) (m : Nat) (hm : cs.length = m) (hn : m = Nat.min sLen dLen) (hsrc : ∀ j v, cs[j]? = some v → w.cell? (ad.add j) = some v) (ht : w.there g off m) (h1 : ∀ v ∈ cs, v.oneCell' = true)
    (h : K (a.put o.dst (.int .i64 (m : Int))) (w.setCells g off cs)) :
    if Region.wanted o (yielded ops a.tmps) = true then Oper.wp Tryd.prog o a w K Q else E := by
  have hw : Region.wanted o (yielded ops a.tmps) = true := by simp [Region.wanted, hgd]
  rw [if_pos hw]
  subst hm
  have hrun := run_copy_cells (P := Tryd.prog) w 22 22 o.type 5 g off dLen dCap ad sLen sCap cs Tryd.underlying22 (by kernel_rfl) hn hsrc (fun j hj => (ht j hj).1) (fun j hj => (ht j hj).2) h1
  unfold Oper.wp
  simp [execOp, ho, resolve, invoke, builtin, hd, hs, hrun, Result.andThen]
  exact h
theorem src_cells {w : World} {b o n : Nat} {zs : List Int} (hi : Ints .u8 w (some ⟨b, o, none⟩) n zs) (m : Nat) : ∀ j v, ((zs.take m).map B8)[j]? = some v → w.cell? ((⟨b, o, none⟩ : Addr).add j) = some v := by
  intro j v hj
  have hlt : j < ((zs.take m).map B8).length := (List.getElem?_eq_some_iff.1 hj).1
  have hl : j < n := by have := hi.1; simp at hlt; omega
  refine Ints.news hi j v ?_
  rw [← hj, List.getElem?_map, List.getElem?_map, List.getElem?_take_of_lt (by simp at hlt; omega)]
theorem ints_b8 (zs : List Int) : ∀ v ∈ zs.map B8, v.oneCell' = true := ints_ok zs

set_option maxRecDepth 100000 in
set_option maxHeartbeats 1000000 in
theorem fill (b : Nat) (t : TypeId) (pre : List Value) (A : List Wd) (r : Int) (bs : List Int) (c : Nat) (n : Int) (sb so sn sc : Nat) (zs : List Int) (m : Nat) (w : World) (h : Sp w b t pre A r bs c n) (hc : c < 136)
    (hz : Ints .u8 w (some ⟨sb, so, none⟩) sn zs) (hn : 0 < sn) (hcap : sn ≤ sc) (hsc : sc ≤ maxLen) (hm : m = Nat.min sn (136 - c)) :
    Calls Tryd.prog 51 #[.pointer (some ⟨b, pre.length + 50, none⟩), .slice (some ⟨sb, so, none⟩) sn sc] w fun e w' => e = .returned (.slice (if sc = m then some ⟨sb, so, none⟩ else some ⟨sb, so + m, none⟩) (sn - m) (sc - m)) ∧ Sp w' b t pre A r (bs.take c ++ (zs.take m ++ bs.drop (c + m))) ((c : Int) + m) n ∧ Kep (fun i => i = b) w w' := by
  unfold maxLen at hsc
  obtain ⟨o, ho⟩ : ∃ o, o = pre.length := ⟨_, rfl⟩
  have hm1 : m ≤ sn := by rw [hm]; exact Nat.min_le_left _ _
  have hm2 : m ≤ 136 - c := by rw [hm]; exact Nat.min_le_right _ _
  have hzl := hz.1
  have c0 := h.count
  rw [← ho] at c0
  have f0 := h.frozen (o + 50 + 136)
  have sl := fun w => sliceArr b (o + 50) c hc w
  have SR := Lib.hid (show ∀ j v, ((zs.take m).map B8)[j]? = some v → w.drew.cell? ((⟨sb, so, none⟩ : Addr).add j) = some v from src_cells (hz.bel (Bel.refl w).drew) m)
  have YL := Lib.hid (show ((zs.take m).map B8).length = m by simp; omega)
  have YO := Lib.hid (ints_b8 (zs.take m))
  have TH := Lib.hid (show w.drew.there b (o + 50 + c) m from (h.drew).there (by omega))
  have sr := fun w => slice_l (some ⟨sb, so, none⟩) sn sc (m : Int) w (by omega) (by omega)
  simp only [Int.toNat_natCast] at sr
  rw [show (some (⟨sb, so, none⟩ : Addr)).map (·.add (m * 1)) = some ⟨sb, so + m, none⟩ by simp [Addr.add_mid]] at sr
  obtain ⟨RS, hRS⟩ : ∃ v, Value.slice (if sc = m then some ⟨sb, so, none⟩ else some ⟨sb, so + m, none⟩) (sn - m) (sc - m) = v := ⟨_, rfl⟩
  rw [hRS] at sr ⊢
  have BS := Lib.hid (show Sp (w.drew.setCells b (o + 50 + c) ((zs.take m).map B8)) b t pre A r (bs.take c ++ (zs.take m ++ bs.drop (c + m))) c n by
    have := (h.drew).bytesSet (k := c) (ys := zs.take m) (by simp; omega)
    rwa [show (zs.take m).length = m by simp; omega, ← ho] at this)
  obtain ⟨Y, hY⟩ : ∃ Y, (zs.take m).map B8 = Y := ⟨_, rfl⟩
  rw [hY] at SR YL YO BS
  have hcm : (c : Int) + m ≤ 136 := by omega
  have HM := Lib.hid hm
  have HO := Lib.hid ho
  clear hm hY hRS h hz hzl
  rw [← ho]
  clear ho
  go_enter Tryd.func51, Tryd.ntmps51
  go_wp2
  go_region_law (refine step_copy_cells rfl (.tmp 13) (.tmp 14) rfl b (o + 50 + c) (136 - c) (136 - c) ⟨sb, so, none⟩ sn sc rfl rfl Y m YL.out HM.out SR.out TH.out YO.out ?_)
  have K1 := Lib.hid (show Kep (fun i => i = b) w (w.drew.setCells b (o + 50 + c) Y) from (Kep.of_bel (Bel.refl w).drew).trans (kep_setCellsK b Y _ _))
  have c1 := BS.out.count
  rw [← HO.out] at c1
  have f1 := BS.out.frozen (o + 50 + 136)
  have S2 := BS.out.setCount ((c : Int) + m)
  rw [← HO.out] at S2
  have HS2 := Lib.hid S2
  clear S2 BS c0 f0
  go_wp2
  go_ret
  exact ⟨rfl, HS2.out, K1.out.set_self _ _⟩
end Kk
end Go.Proofs.YtaniijpppmipbaaDoor
