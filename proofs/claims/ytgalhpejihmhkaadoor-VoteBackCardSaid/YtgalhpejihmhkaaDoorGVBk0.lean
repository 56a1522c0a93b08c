/-
  What the calls answer of a vote's own bytes. Conditions: the vote may be; its root has 32 bytes, its tag is below 2^64; the table of turns lies in its variable.
-/
import Derived.Test.YtgalhpejihmhkaaDoorGVCut
import Derived.Test.YtgalhpejihmhkaaDoorGVLift
namespace Go.Proofs.YtgalhpejihmhkaaDoor
open Go.RowKit Go.Shelf
set_option linter.unusedVariables false
namespace Vt
open Kk

theorem own_at {W : World} {b L : Nat} {u : Value} {xs : List Int} (h : W.ownsRow b 5 1 u L (xs.map (Value.int .u8))) (h0 : 0 < L) : ∃ g c, u = .slice (some ⟨g, 0, none⟩) L c ∧ L ≤ c ∧ c ≤ maxLen := by
  obtain ⟨A, c, rfl, h3, h4, h5⟩ := ints_of_own h
  obtain ⟨_, ⟨h6, _⟩ | ⟨g, cap, cur, h6, _⟩⟩ := id h
  · injection h6 with _ h6 _
    omega
  · injection h6 with h6 _ h7
    subst h6
    exact ⟨g, c, rfl, h4, h5⟩
theorem sl_own {W : World} {b g L c : Nat} {xs : List Int} (h : W.ownsRow b 5 1 (.slice (some ⟨g, 0, none⟩) L c) L (xs.map (Value.int .u8))) : Cd.Sl W (some ⟨g, 0, none⟩) L c xs := by
  obtain ⟨A, c', e, hi, hc, _⟩ := ints_of_own h
  injection e with e1 _ e3
  subst e1
  subst e3
  exact ⟨hi, hc, fun h => by cases h⟩
/-- What EncR says of a vote that may be. -/
theorem enc_own {all : List (Int × List Int)} {W w' : World} {u : Value} (h : EncR all W u w') (he : errOf all = 0) (h0 : 0 < (bytesOf all).length) :
    ∃ g c, u = .slice (some ⟨g, 0, none⟩) (bytesOf all).length c ∧ (bytesOf all).length ≤ c ∧ c ≤ maxLen ∧ w'.ownsRow W.heap.size 5 1 (.slice (some ⟨g, 0, none⟩) (bytesOf all).length c) (bytesOf all).length ((bytesOf all).map (Value.int .u8)) := by
  have h2 : w'.ownsRow W.heap.size 5 1 u (bytesOf all).length ((bytesOf all).map (Value.int .u8)) := by
    rcases h.2 with ⟨h1, _⟩ | ⟨_, h2⟩
    · exact absurd he h1
    · exact h2
  obtain ⟨g, c, rfl, h3, h4⟩ := own_at h2 h0
  exact ⟨g, c, rfl, h3, h4, h2⟩
theorem bytesOf_app (xs ys : List (Int × List Int)) : bytesOf (xs ++ ys) = bytesOf xs ++ bytesOf ys := by
  simp [bytesOf]
theorem bytesOf_tag (tag : Int) : bytesOf (tagI tag) = Cd.enc tag := by
  simp [bytesOf, tagI]
theorem eqIn_hs_self (Y : List Value) (ys : List Int) (h : hsV ys = .agg Y.toArray) (hl : ys.length = 32) (W : World) : (Op.equalIn 10000 23 (.agg Y.toArray) (.agg Y.toArray)).run Tryd.prog W = .ok true W := by
  obtain ⟨i, hi⟩ := info_of_underlying Tryd.underlying5
  rw [← h]
  have := Kk.eqIn_ints 9998 Tryd.underlying23 Tryd.underlying5 hi (by kernel_rfl) ys ys hl hl W
  rwa [show (ys == ys) = true from beq_self_eq_true ys] at this
theorem len_attTl {v s t tag : Int} {hs : List Int} {fe : Int × Int} (h : fe.1 = 0 → hs.length = 32) : (attTl v s t tag hs fe).length = 36 := by
  unfold attTl
  by_cases h0 : fe.1 = 0
  · rw [if_pos h0]
    exact len_attC (h h0) v s t tag
  · rw [if_neg h0]
    rfl
theorem len_propTl {v s tag : Int} {hs : List Int} {fe : Int × Int} (h : fe.1 = 0 → hs.length = 32) : (propTl v s tag hs fe).length = 35 := by
  unfold propTl
  by_cases h0 : fe.1 = 0
  · rw [if_pos h0]
    exact len_propC (h h0) v s tag
  · rw [if_neg h0]
    rfl
theorem attTl_cells (v s t tag : Int) (hs : List Int) (fe : Int × Int) : ∀ u ∈ attTl v s t tag hs fe, u.oneCell' = true := by
  unfold attTl
  split
  · exact att_cells _ _ _ _ _
  · exact att_cells _ _ _ _ _
theorem propTl_cells (v s tag : Int) (hs : List Int) (fe : Int × Int) : ∀ u ∈ propTl v s tag hs fe, u.oneCell' = true := by
  unfold propTl
  split
  · exact prop_cells _ _ _ _
  · exact prop_cells _ _ _ _
theorem ints_own {W : World} {b g L c : Nat} {xs : List Int} (h : W.ownsRow b 5 1 (.slice (some ⟨g, 0, none⟩) L c) L (xs.map (Value.int .u8))) : Kk.Ints .u8 W (some ⟨g, 0, none⟩) L xs := (sl_own h).ints
/-- What != of two structs answers, as an operation of a region. -/
theorem exec_neq {a : Act} {o : Oper} {t t2 : TypeId} {x y : Operand} (ho : o.op = .binOp .neq t x y t2) (xs ys : Array Value) (hx : a.eval x = .agg xs) (hy : a.eval y = .agg ys) (hm : Tryd.prog.eqGuardType Tryd.prog.depth t = false)
    {b : Bool} (hb : ∀ w, (binOp .neq t (.agg xs) (.agg ys)).run Tryd.prog w = .ok (.bool b) w) (w : World) : (execOp a.eval o).run Tryd.prog w = .ok (.value (.bool b)) w := by
  unfold execOp
  simp only [ho, hx, hy, Sem.run_bind, run_eqGuard_agg (hm := hm), Result.andThen_ok, hb, Sem.run_pure]
/-- All that is asked of an attestation's own bytes. -/
theorem att_half (v s t g tag : Int) (h : List Int) (f : attF v s t g h) (he : errOf (attI v s t h ++ tagI g) = 0) : ∃ (K L : Nat) (pre xs : List Int) (Y : List Value),
    L = K + (Cd.enc g).length ∧ 0 < K ∧ L ≤ 1000 ∧ xs.length = L ∧ pre.length = K ∧ xs = pre ++ Cd.enc g ∧
    (∀ W u w', EncR (attI v s t h ++ tagI g) W u w' → ∃ gg c, u = .slice (some ⟨gg, 0, none⟩) L c ∧ L ≤ c ∧ c ≤ maxLen ∧ w'.ownsRow W.heap.size 5 1 (.slice (some ⟨gg, 0, none⟩) L c) L (xs.map (Value.int .u8))) ∧
    Y.length = 32 ∧ (∀ v ∈ Y, v.oneCell' = true) ∧
    (∀ W b gg c, W.ownsRow b 5 1 (.slice (some ⟨gg, 0, none⟩) L c) L (xs.map (Value.int .u8)) → Calls Tryd.prog 6 #[.slice (some ⟨gg, 0, none⟩) L c] W fun e w' => e = .returned (.tuple #[.agg (attC v s t h g).toArray, .agg #[.int .i64 0, .int .i64 0]]) ∧ Bel W w') ∧
    (∀ W b gg c, W.ownsRow b 5 1 (.slice (some ⟨gg, 0, none⟩) L c) L (xs.map (Value.int .u8)) → Calls Tryd.prog 7 #[.slice (some ⟨gg, 0, none⟩) L c] W fun e w' => e = .returned (.tuple #[.agg zP'.toArray, .agg #[.int .i64 3, .int .i64 0]]) ∧ Bel W w') ∧
    (∀ W, Tn W → Calls Tryd.prog 8 #[.agg (attC v s t h g).toArray] W fun e w' => e = .returned (.tuple #[.agg Y.toArray, .int .i64 0]) ∧ Bel W w') ∧
    (∀ W, Tn W → Calls Tryd.prog 8 #[.agg (attC v s t h tag).toArray] W fun e w' => e = .returned (.tuple #[.agg Y.toArray, .int .i64 0]) ∧ Bel W w') ∧
    (∀ W b gg c, W.ownsRow b 5 1 (.slice (some ⟨gg, 0, none⟩) L c) L (xs.map (Value.int .u8)) → L ≤ c → c ≤ maxLen → Tn W → Calls Tryd.prog 10 #[.slice (some ⟨gg, 0, none⟩) K c] W fun e w' => e = .returned (.agg Y.toArray) ∧ Bel W w') ∧
    (∀ W, (Op.equalIn 10000 23 (.agg Y.toArray) (.agg Y.toArray)).run Tryd.prog W = .ok true W) := by
  obtain ⟨b1, b2, b3, hc⟩ := att_may v s t g h he
  have he' : errOf (attI v s t h) = 0 := by rw [att_err']; exact hc
  have hpre := by_attI f.by_ he'
  obtain ⟨Y, hY, hYl, hYo⟩ := hs_facts (attI v s t h)
  have hb : bytesOf (attI v s t h ++ tagI g) = bytesOf (attI v s t h) ++ Cd.enc g := by rw [bytesOf_app, bytesOf_tag]
  have e1 := Cd.enc_len g
  have e2 := Cd.enc_len 1
  have hall : ∀ z ∈ bytesOf (attI v s t h) ++ Cd.enc g, 0 ≤ z ∧ z ≤ 255 := fun z hz => by
    rcases List.mem_append.1 hz with hz | hz
    · exact hpre z hz
    · exact Cd.enc_byte f.tag.1 f.tag.2 z hz
  have hl1 : (bytesOf (attI v s t h)).length ≤ 990 := by
    rw [att_bytes']
    have h1 := enc_le 1; have h2 := enc_le v; have h3 := enc_le s; have h4 := enc_le t
    simp only [List.length_append, f.len]
    omega
  have hl0 : 0 < (bytesOf (attI v s t h)).length := by
    rw [att_bytes']
    simp only [List.length_append]
    omega
  have hlen : (bytesOf (attI v s t h) ++ Cd.enc g).length = (bytesOf (attI v s t h)).length + (Cd.enc g).length := List.length_append
  refine ⟨(bytesOf (attI v s t h)).length, (bytesOf (attI v s t h) ++ Cd.enc g).length, bytesOf (attI v s t h), bytesOf (attI v s t h) ++ Cd.enc g, Y, hlen, hl0, by omega, rfl, rfl, rfl, ?_, hYl, hYo, ?_, ?_, ?_, ?_, ?_, ?_⟩
  · intro W u w' hr
    have := enc_own hr he (by rw [hb]; omega)
    rwa [hb] at this
  · intro W b gg c ho
    have := readA _ _ c _ v s t g h (0, 0) W (sl_own ho) (by omega) (Cd.bytes_of hall) (by rw [← hb, att_bytes]; exact att_own v s t g h b1 b2 b3 f.tag f.len)
    rwa [show attTl v s t g h (0, 0) = attC v s t h g from if_pos rfl] at this
  · intro W b gg c ho
    have hp : bytesOf (attI v s t h) ++ Cd.enc g = Cd.enc 1 ++ (Cd.enc v ++ Cd.enc s ++ Cd.enc t ++ h ++ Cd.enc g) := by rw [att_bytes']; simp only [List.append_assoc]
    have := readB _ _ c _ 0 0 0 Y0 (3, 0) W (sl_own ho) (by omega) (Cd.bytes_of hall) (by rw [hp]; exact prop_other _)
    rwa [show propTl 0 0 0 Y0 (3, 0) = zP' from if_neg (by decide)] at this
  · intro W hT
    have := digestA v s t g h W f.len f.by_ hT
    rwa [hY, he'] at this
  · intro W hT
    have := digestA v s t tag h W f.len f.by_ hT
    rwa [hY, he'] at this
  · intro W b gg c ho h1 h2 hT
    have := hashSumS (some ⟨gg, 0, none⟩) (bytesOf (attI v s t h)).length c (bytesOf (attI v s t h)) W (srcN gg _ c b W _ (Cd.enc g) rfl (by omega) h1 h2 hpre ho) (by omega) hT
    rwa [show sumOf (bytesOf (attI v s t h)) = dgV (attI v s t h) by unfold dgV; rw [if_pos he'], hY] at this
  · exact fun W => eqIn_hs_self Y _ hY (dgV_len _) W
/-- All that is asked of a block vote's own bytes. -/
theorem prop_half (v s g tag : Int) (h : List Int) (f : propF v s g h) (he : errOf (propI v s h ++ tagI g) = 0) : ∃ (K L : Nat) (pre xs : List Int) (Y : List Value),
    L = K + (Cd.enc g).length ∧ 0 < K ∧ L ≤ 1000 ∧ xs.length = L ∧ pre.length = K ∧ xs = pre ++ Cd.enc g ∧
    (∀ W u w', EncR (propI v s h ++ tagI g) W u w' → ∃ gg c, u = .slice (some ⟨gg, 0, none⟩) L c ∧ L ≤ c ∧ c ≤ maxLen ∧ w'.ownsRow W.heap.size 5 1 (.slice (some ⟨gg, 0, none⟩) L c) L (xs.map (Value.int .u8))) ∧
    Y.length = 32 ∧ (∀ v ∈ Y, v.oneCell' = true) ∧
    (∀ W b gg c, W.ownsRow b 5 1 (.slice (some ⟨gg, 0, none⟩) L c) L (xs.map (Value.int .u8)) → Calls Tryd.prog 7 #[.slice (some ⟨gg, 0, none⟩) L c] W fun e w' => e = .returned (.tuple #[.agg (propC v s h g).toArray, .agg #[.int .i64 0, .int .i64 0]]) ∧ Bel W w') ∧
    (∀ W b gg c, W.ownsRow b 5 1 (.slice (some ⟨gg, 0, none⟩) L c) L (xs.map (Value.int .u8)) → Calls Tryd.prog 6 #[.slice (some ⟨gg, 0, none⟩) L c] W fun e w' => e = .returned (.tuple #[.agg zA'.toArray, .agg #[.int .i64 3, .int .i64 0]]) ∧ Bel W w') ∧
    (∀ W, Tn W → Calls Tryd.prog 12 #[.agg (propC v s h g).toArray] W fun e w' => e = .returned (.tuple #[.agg Y.toArray, .int .i64 0]) ∧ Bel W w') ∧
    (∀ W, Tn W → Calls Tryd.prog 12 #[.agg (propC v s h tag).toArray] W fun e w' => e = .returned (.tuple #[.agg Y.toArray, .int .i64 0]) ∧ Bel W w') ∧
    (∀ W b gg c, W.ownsRow b 5 1 (.slice (some ⟨gg, 0, none⟩) L c) L (xs.map (Value.int .u8)) → L ≤ c → c ≤ maxLen → Tn W → Calls Tryd.prog 10 #[.slice (some ⟨gg, 0, none⟩) K c] W fun e w' => e = .returned (.agg Y.toArray) ∧ Bel W w') ∧
    (∀ W, (Op.equalIn 10000 23 (.agg Y.toArray) (.agg Y.toArray)).run Tryd.prog W = .ok true W) := by
  obtain ⟨b1, b2, hc⟩ := prop_may v s g h he
  have he' : errOf (propI v s h) = 0 := by rw [prop_err']; exact hc
  have hpre := by_propI f.by_ he'
  obtain ⟨Y, hY, hYl, hYo⟩ := hs_facts (propI v s h)
  have hb : bytesOf (propI v s h ++ tagI g) = bytesOf (propI v s h) ++ Cd.enc g := by rw [bytesOf_app, bytesOf_tag]
  have e1 := Cd.enc_len g
  have e2 := Cd.enc_len 2
  have hall : ∀ z ∈ bytesOf (propI v s h) ++ Cd.enc g, 0 ≤ z ∧ z ≤ 255 := fun z hz => by
    rcases List.mem_append.1 hz with hz | hz
    · exact hpre z hz
    · exact Cd.enc_byte f.tag.1 f.tag.2 z hz
  have hl1 : (bytesOf (propI v s h)).length ≤ 990 := by
    rw [prop_bytes']
    have h1 := enc_le 2; have h2 := enc_le v; have h3 := enc_le s
    simp only [List.length_append, f.len]
    omega
  have hl0 : 0 < (bytesOf (propI v s h)).length := by
    rw [prop_bytes']
    simp only [List.length_append]
    omega
  have hlen : (bytesOf (propI v s h) ++ Cd.enc g).length = (bytesOf (propI v s h)).length + (Cd.enc g).length := List.length_append
  refine ⟨(bytesOf (propI v s h)).length, (bytesOf (propI v s h) ++ Cd.enc g).length, bytesOf (propI v s h), bytesOf (propI v s h) ++ Cd.enc g, Y, hlen, hl0, by omega, rfl, rfl, rfl, ?_, hYl, hYo, ?_, ?_, ?_, ?_, ?_, ?_⟩
  · intro W u w' hr
    have := enc_own hr he (by rw [hb]; omega)
    rwa [hb] at this
  · intro W b gg c ho
    have := readB _ _ c _ v s g h (0, 0) W (sl_own ho) (by omega) (Cd.bytes_of hall) (by rw [← hb, prop_bytes]; exact prop_own v s g h b1 b2 f.tag f.len)
    rwa [show propTl v s g h (0, 0) = propC v s h g from if_pos rfl] at this
  · intro W b gg c ho
    have hp : bytesOf (propI v s h) ++ Cd.enc g = Cd.enc 2 ++ (Cd.enc v ++ Cd.enc s ++ h ++ Cd.enc g) := by rw [prop_bytes']; simp only [List.append_assoc]
    have := readA _ _ c _ 0 0 0 0 Y0 (3, 0) W (sl_own ho) (by omega) (Cd.bytes_of hall) (by rw [hp]; exact att_other _)
    rwa [show attTl 0 0 0 0 Y0 (3, 0) = zA' from if_neg (by decide)] at this
  · intro W hT
    have := digestB v s g h W f.len f.by_ hT
    rwa [hY, he'] at this
  · intro W hT
    have := digestB v s tag h W f.len f.by_ hT
    rwa [hY, he'] at this
  · intro W b gg c ho h1 h2 hT
    have := hashSumS (some ⟨gg, 0, none⟩) (bytesOf (propI v s h)).length c (bytesOf (propI v s h)) W (srcN gg _ c b W _ (Cd.enc g) rfl (by omega) h1 h2 hpre ho) (by omega) hT
    rwa [show sumOf (bytesOf (propI v s h)) = dgV (propI v s h) by unfold dgV; rw [if_pos he'], hY] at this
  · exact fun W => eqIn_hs_self Y _ hY (dgV_len _) W
end Vt
end Go.Proofs.YtgalhpejihmhkaaDoor
