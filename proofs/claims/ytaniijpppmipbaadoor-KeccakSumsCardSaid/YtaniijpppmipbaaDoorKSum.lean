/-
  What sum of a sponge answers in this program: the hash of the bytes that it holds. Condition: a sponge that holds bytes, as a value.
-/
import Derived.Test.YtaniijpppmipbaaDoorKTake
namespace Go.Proofs.YtaniijpppmipbaaDoor
open Go.RowKit Go.Shelf
set_option linter.unusedVariables false
namespace Kk

/-- What ends the bytes is added. -/
def ended (rest : List Int) : List Int := rest ++ (6 :: List.replicate (135 - rest.length) 0)
def pad (rest : List Int) : List Int := (ended rest).set 135 (bits .xor .u8 ((ended rest).getD 135 0) 128)
theorem len_ended {rest : List Int} (h : rest.length < 136) : (ended rest).length = 136 := by simp [ended]; omega
theorem by_ended {rest : List Int} (h : By rest) : By (ended rest) := h.append (fun z hz => by
  rcases List.mem_cons.1 hz with rfl | hz
  · exact ⟨by decide, by decide⟩
  · rw [List.eq_of_mem_replicate hz]; exact ⟨by decide, by decide⟩)
theorem bits_u8 (op : BinOp) (x y : Int) : 0 ≤ bits op .u8 x y ∧ bits op .u8 x y ≤ 255 := by
  unfold bits
  rw [IntKind.wrap_u8]
  omega
theorem by_set {l : List Int} (h : By l) (i : Nat) {z : Int} (hz : 0 ≤ z ∧ z ≤ 255) : By (l.set i z) := fun x hx => by
  rcases List.mem_or_eq_of_mem_set hx with h1 | rfl
  · exact h x h1
  · exact hz
theorem by_pad {rest : List Int} (h : By rest) : By (pad rest) := by_set (by_ended h) _ (bits_u8 _ _ _)
/-- The hash of a state. -/
def hashOf (A : List Wd) : List Int := bytesOf (g A 0) ++ (bytesOf (g A 1) ++ (bytesOf (g A 2) ++ bytesOf (g A 3)))
/-- The hash of bytes. -/
def lastSt (data : List Int) : List Wd := absorbed (stN data (data.length / 136)) (pad (data.drop (136 * (data.length / 136))))
def sumOf (data : List Int) : List Int := hashOf (lastSt data)
theorem len_bytesOf (x : Wd) : (bytesOf x).length = 8 := by simp [bytesOf]
theorem len_hashOf (A : List Wd) : (hashOf A).length = 32 := by simp [hashOf, len_bytesOf]
theorem by_bytesOf (x : Wd) : By (bytesOf x) := fun z hz => by
  obtain ⟨i, _, rfl⟩ := List.mem_map.1 hz
  exact splitB_bd x i
theorem by_hashOf (A : List Wd) : By (hashOf A) := (by_bytesOf _).append ((by_bytesOf _).append ((by_bytesOf _).append (by_bytesOf _)))
/-- The cells of a hash behind k words. -/
def hN (A : List Wd) : Nat → List Value
  | 0 => List.replicate 32 (.int .u8 0)
  | 1 => (bytesOf (g A 0)).map B8 ++ List.replicate 24 (.int .u8 0)
  | 2 => (bytesOf (g A 0)).map B8 ++ ((bytesOf (g A 1)).map B8 ++ List.replicate 16 (.int .u8 0))
  | 3 => (bytesOf (g A 0)).map B8 ++ ((bytesOf (g A 1)).map B8 ++ ((bytesOf (g A 2)).map B8 ++ List.replicate 8 (.int .u8 0)))
  | _ => (hashOf A).map B8
theorem len_b8 (x : Wd) : ((bytesOf x).map B8).length = 8 := by simp [len_bytesOf]
theorem len_hN (A : List Wd) (k : Nat) : (hN A k).length = 32 := by
  match k with
  | 0 => rfl
  | 1 => simp [hN, len_bytesOf]
  | 2 => simp [hN, len_bytesOf]
  | 3 => simp [hN, len_bytesOf]
  | _ + 4 => simp [hN, len_hashOf]
theorem hN_step {w : World} {b : Nat} {t : TypeId} (A : List Wd) {k : Nat} (hk : k < 4) (h : Blk w b (hN A k).toArray t) : Blk (w.setCells b (k * 8) ((bytesOf (g A k)).map B8)) b (hN A (k + 1)).toArray t := by
  match k, hk with
  | 0, _ =>
    have := Blk.mid (pre := []) (mid := List.replicate 8 (.int .u8 0)) (post := List.replicate 24 (.int .u8 0)) (vs := (bytesOf (g A 0)).map B8) h (by simp [len_bytesOf])
    exact this
  | 1, _ =>
    have := Blk.mid (pre := (bytesOf (g A 0)).map B8) (mid := List.replicate 8 (.int .u8 0)) (post := List.replicate 16 (.int .u8 0)) (vs := (bytesOf (g A 1)).map B8) h (by simp [len_bytesOf])
    rw [len_b8] at this
    exact this
  | 2, _ =>
    have := Blk.mid (pre := (bytesOf (g A 0)).map B8 ++ (bytesOf (g A 1)).map B8) (mid := List.replicate 8 (.int .u8 0)) (post := List.replicate 8 (.int .u8 0)) (vs := (bytesOf (g A 2)).map B8) (by rw [List.append_assoc]; exact h) (by simp [len_bytesOf])
    rw [List.length_append, len_b8, len_b8, List.append_assoc] at this
    exact this
  | 3, _ =>
    have := Blk.mid (pre := (bytesOf (g A 0)).map B8 ++ ((bytesOf (g A 1)).map B8 ++ (bytesOf (g A 2)).map B8)) (mid := List.replicate 8 (.int .u8 0)) (post := []) (vs := (bytesOf (g A 3)).map B8) (by rw [List.append_assoc, List.append_assoc, List.append_nil]; exact h) (by simp [len_bytesOf])
    rw [List.length_append, List.length_append, len_b8, len_b8, len_b8, List.append_assoc, List.append_assoc, List.append_nil] at this
    have e : (bytesOf (g A 0)).map B8 ++ ((bytesOf (g A 1)).map B8 ++ ((bytesOf (g A 2)).map B8 ++ (bytesOf (g A 3)).map B8)) = (hashOf A).map B8 := by simp [hashOf]
    rw [e] at this
    exact this

theorem sliceArrEnd (b p : Nat) (w : World) :
    (Instr.sliceAt 55 (.pointer (some ⟨b, p, none⟩)) (some (.int .i64 136)) none none).run Tryd.prog w = .ok (.slice (some ⟨b, p, none⟩) 0 0) w := by
  rw [run_sliceAt_array_l (P := Tryd.prog) w 55 ⟨b, p, none⟩ (by rw [al136, el136]; exact Tryd.underlying55) .i64 136 (by omega) (by rw [al136]; omega), al136, el136]
  have hs : ∀ w, (sizeOf 5).run Tryd.prog w = .ok 1 w := Tryd.sizeOf5
  rw [hs w]
  simp [Result.andThen, slicedAt]
theorem zero_u8 (w : World) : (zeroValue 5).run Tryd.prog w = .ok (.int .u8 0) w := Tryd.zeroValue5 w
theorem wpList_clear {ops : Array Oper} {rest : List Oper} {o : Oper} {a : Act} {w : World} {Q : Exit → Act → World → Prop} (hgd : o.guard = none) (s : Operand)
    (ho : o.op = .call { callee := .builtin .clear, args := #[s], argTypes := #[22] }) (b off n c : Nat) (hs : a.eval s = .slice (some ⟨b, off, none⟩) n c) (ht : w.there b off n)
    (h : wpList Tryd.prog ops Q rest (a.put o.dst (.tuple #[])) (w.setCells b off (List.replicate n (.int .u8 0)))) : wpList Tryd.prog ops Q (o :: rest) a w := by
  refine wpList_plain hgd fun K hK => ?_
  have hrun : (Builtin.clear_ #[22] o.type #[.slice (some ⟨b, off, none⟩) n c]).run Tryd.prog w = .ok (.tuple #[]) (w.setCells b off (List.replicate n (.int .u8 0))) := by
    rcases Nat.eq_zero_or_pos n with rfl | hn
    · simp [Builtin.clear_, run_underlying Tryd.underlying22, World.setCells]
    · exact Lib.run_clear_slice w 22 5 o.type (.int .u8 0) Tryd.underlying22 zero_u8 rfl rfl b off n c hn (fun j hj => (ht j hj).1) (fun j hj => (ht j hj).2)
  unfold Oper.wp
  simp [execOp, ho, resolve, invoke, builtin, hs, hrun, Result.andThen]
  exact hK _ _ h
end Kk
end Go.Proofs.YtaniijpppmipbaaDoor
