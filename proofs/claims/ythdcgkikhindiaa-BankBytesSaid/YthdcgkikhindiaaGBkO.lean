/-
  A bank and a fault in two new variables; a bank's own bytes are read as it. No walk.
-/
import Derived.Test.YthdcgkikhindiaaGBkN
namespace Go.Proofs.Ythdcgkikhindiaa
open Go.RowKit Go.Shelf
set_option linter.unusedVariables false
namespace Bk
open Pm

abbrev ZF : Array Value := #[.int .i64 0, .int .i64 0]
/-- Two new variables: a bank's, a fault's. -/
theorem put2 (W : World) (Y : List Value) (hY : Y.length = 5) (e p : Int) : ∃ V, ((W.alloc (.cells ZB 26)).alloc (.cells ZF 49)) = V ∧ V.there W.heap.size 0 Y.toArray.size ∧ (V.setCells W.heap.size 0 Y).there (W.heap.size + 1) 0 (#[.int .i64 e, .int .i64 p] : Array Value).size ∧
    Kk.Bel W ((V.setCells W.heap.size 0 Y).setCells (W.heap.size + 1) 0 [.int .i64 e, .int .i64 p]) ∧ Kk.Blk ((V.setCells W.heap.size 0 Y).setCells (W.heap.size + 1) 0 [.int .i64 e, .int .i64 p]) W.heap.size Y.toArray 26 ∧
    Kk.Blk ((V.setCells W.heap.size 0 Y).setCells (W.heap.size + 1) 0 [.int .i64 e, .int .i64 p]) (W.heap.size + 1) [.int .i64 e, .int .i64 p].toArray 49 := by
  have hs : (W.alloc (.cells ZB 26)).heap.size = W.heap.size + 1 := World.size_alloc _ _
  have q3 : Kk.Blk ((W.alloc (.cells ZB 26)).alloc (.cells ZF 49)) W.heap.size [.slice none 0 0, .int .u64 0, .int .u64 0, .int .u64 0, .int .u64 0].toArray 26 := (Kk.Blk.new W _ _).alloc _
  have f3 : Kk.Blk ((W.alloc (.cells ZB 26)).alloc (.cells ZF 49)) (W.heap.size + 1) [.int .i64 0, .int .i64 0].toArray 49 := by rw [← hs]; exact Kk.Blk.new _ _ _
  have f4 := f3.kep (kep_setCells W.heap.size Y 0 _) (by omega)
  refine ⟨_, rfl, blk_there q3 rfl hY, bthere f4 0 _ (Nat.le_refl 2), ?_, ?_, blk2 f4 rfl _ rfl⟩
  · exact bel_setCells (bel_setCells (((Kk.Bel.refl W).alloc _).alloc _) (Nat.le_refl _) 0 _) (by omega) 0 _
  · exact (blk5 q3 rfl Y hY).kep (kep_setCells (W.heap.size + 1) _ 0 _) (by omega)
theorem NB.var {w0 W : World} {b : Nat} {Y : List Value} {zs ps : List Int} (h : NB w0 W Y zs ps) (hb : Kk.Blk W b Y.toArray 26) (hl : w0.heap.size ≤ b) : Var w0 W b Y zs ps := ⟨hb, h, hl⟩
theorem own_bytes {zs ps : List Int} (hc : chk zs ps = 0) (hg : Good zs ps) : Run (bytesB zs ps) zs.length (zs ++ ps) (bytesB zs ps).length none ∧ rdF (bytesB zs ps) zs.length (zs ++ ps) (bytesB zs ps).length none = (0, 0) ∧ rdZ (bytesB zs ps) zs.length (zs ++ ps) (bytesB zs ps).length none = zs ∧ rdP (bytesB zs ps) zs.length (zs ++ ps) (bytesB zs ps).length none = ps ∧ Cd.Bytes (bytesB zs ps) ∧ (bytesB zs ps).length ≤ 800 := by
  obtain ⟨c1, c2, c3⟩ := chk_ok hc
  have hb : bytesB zs ps = Cd.enc zs.length ++ encs (zs ++ ps) := by unfold bytesB; rw [if_pos hc]
  have hF : rdF (bytesB zs ps) zs.length (zs ++ ps) (bytesB zs ps).length none = (0, 0) := by
    unfold rdF
    have he : Cd.endOf (bytesB zs ps).length (bytesB zs ps).length none = (0, 0) := by unfold Cd.endOf; simp
    rw [he]
    simp [hc]
  refine ⟨?_, hF, ?_, ?_, ?_, ?_⟩
  · rw [hb]
    exact run_own zs.length (zs ++ ps) c1 c2 (by rw [List.length_append, hg.2.2.1]) (words_app hg.1 hg.2.1)
  · unfold rdZ; rw [hF]; simp
  · unfold rdP; rw [hF]; simp
  · rw [hb]
    refine Cd.bytes_of fun z hz => ?_
    rcases List.mem_append.1 hz with h | h
    · exact Cd.enc_byte (by omega) (by omega) z h
    · obtain ⟨l, hl, hz2⟩ := List.mem_flatten.1 h
      obtain ⟨x, hx, rfl⟩ := List.mem_map.1 hl
      obtain ⟨x0, x1⟩ := Words.mem (words_app hg.1 hg.2.1) x hx
      exact Cd.enc_byte x0 x1 z hz2
  · rw [hb, List.length_append]
    have h1 := (Cd.enc_len (zs.length : Int)).2
    have h2 := encs_len (zs ++ ps)
    rw [List.length_append, hg.2.2.1] at h2
    omega
/-- What is read without a fault is written so. -/
theorem raw_bytes {raw : List Int} {n : Nat} {l : List Int} {ke : Nat} {fe : Option (Int × Int)} (hr : Run raw n l ke fe) (ho : (Cd.endOf raw.length ke fe).1 = 0 → 1 ≤ n ∧ raw = Cd.enc n ++ encs l) (h : (rdF raw n l ke fe).1 = 0) :
    chk (rdZ raw n l ke fe) (rdP raw n l ke fe) = 0 ∧ bytesB (rdZ raw n l ke fe) (rdP raw n l ke fe) = raw := by
  have he : (Cd.endOf raw.length ke fe).1 = 0 := by
    unfold rdF at h
    by_cases he : (Cd.endOf raw.length ke fe).1 = 0
    · exact he
    · rw [if_neg he] at h; exact absurd h he
  have hc : chk (l.take n) (l.drop n) = 0 := by unfold rdF at h; rw [if_pos he] at h; exact h
  obtain ⟨h1, h2⟩ := ho he
  have hz : rdZ raw n l ke fe = l.take n := by unfold rdZ; rw [if_pos h]
  have hp : rdP raw n l ke fe = l.drop n := by unfold rdP; rw [if_pos h]
  rw [hz, hp]
  refine ⟨hc, ?_⟩
  unfold bytesB
  rw [if_pos hc, List.take_append_drop, List.length_take, hr.2.1, h2]
  congr 2
  omega
end Bk
end Go.Proofs.Ythdcgkikhindiaa
