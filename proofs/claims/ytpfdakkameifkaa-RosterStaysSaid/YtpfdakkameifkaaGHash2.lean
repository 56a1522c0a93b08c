/-
  What the inner function of a reader's Hash answers in this program: the hash that stands at a place.
  Conditions: at most 10^6 bytes; 32 of them stand at the place.
-/
import Derived.Laws.CopyOwn
import Derived.Test.YtpfdakkameifkaaGHash
namespace Go.Proofs.Ytpfdakkameifkaa
open Go.RowKit Go.Shelf
set_option linter.unusedVariables false
namespace Cd

theorem slice_l (A : Option Addr) (n c : Nat) (l : Int) (w : World) (h0 : 0 ≤ l) (h1 : l ≤ n) :
    (Instr.slice 47 (.slice A n c) (some (.int .i64 l)) none none).run Try.prog w = .ok (.slice (if c = l.toNat then A else A.map (·.add (l.toNat * 1))) (n - l.toNat) (c - l.toNat)) w := by
  rw [run_slice_l (P := Try.prog) (w := w) (t := 47) (a := A) (len := n) (cap := c) (by rw [elem_u8]; exact Try.underlying47) .i64 l h0 h1]
  rw [elem_u8]
  simp [Try.sizeOf5, Result.andThen, sliced]

/-- A copy that fills an array. -/
theorem step_copy_all {ops : Array Oper} {o : Oper} {a : Act} {w : World} {K : Act → World → Prop} {Q : Exit → Act → World → Prop} {E : Prop} (hgd : o.guard = none) (d s : Operand)
    (ho : o.op = .call { callee := .builtin .copy, args := #[d, s], argTypes := #[47, 47] }) (g : Nat) (ad : Addr) (dCap sLen sCap : Nat)
    (hd : a.eval d = .slice (some ⟨g, 0, none⟩) 32 dCap) (hs : a.eval s = .slice (some ad) sLen sCap) (cur : Array Value) (t : TypeId) (hg : w.heap[g]? = some (.cells cur t (0, 0))) (hcur : cur.size = 32)
    (cs : List Value) (hn : cs.length = 32) (hsl : 32 ≤ sLen) (hsrc : ∀ j v, cs[j]? = some v → w.cell? (ad.add j) = some v) (h1 : ∀ v ∈ cs, v.oneCell' = true)
    (h : ∀ w', Hid (Blk w' g cs.toArray t) → Hid (Kep (fun i => i = g) w w') → K (a.put o.dst (.int .i64 32)) w') :
    if Region.wanted o (yielded ops a.tmps) = true then Oper.wp Try.prog o a w K Q else E := by
  have hw : Region.wanted o (yielded ops a.tmps) = true := by simp [Region.wanted, hgd]
  rw [if_pos hw]
  have hrun := run_copy_row (P := Try.prog) w 47 47 o.type 5 g 0 32 dCap ad sLen sCap cur t cs Try.underlying47 (by kernel_rfl) hg (by rw [hn]; exact (Nat.min_eq_right hsl).symm) hsrc (by omega) h1
  have e : (cur.toList.take 0 ++ cs ++ cur.toList.drop (0 + cs.length)).toArray = cs.toArray := by
    rw [List.take_zero, List.nil_append, List.drop_of_length_le (by rw [hn]; simp; omega), List.append_nil]
  rw [e, hn] at hrun
  unfold Oper.wp
  simp [execOp, ho, resolve, invoke, builtin, hd, hs, hrun, Result.andThen]
  refine h _ (setRow_heap w g cur _ t _ hg) ⟨rfl, rfl, rfl, by simp, fun k _ hk => setRow_other w g k _ hk⟩

end Cd
end Go.Proofs.Ytpfdakkameifkaa
