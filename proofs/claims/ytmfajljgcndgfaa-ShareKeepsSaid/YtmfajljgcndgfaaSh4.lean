/-
  What share's join, leave and cut answer, as plain functions of the numbers. Conditions: the amounts are words.
-/
import Derived.Test.YtmfajljgcndgfaaSh3
import Derived.Test.YtmfajljgcndgfaaPMem
namespace Go.Proofs.Ytmfajljgcndgfaa
open Go.RowKit Go.Shelf
set_option linter.unusedVariables false
namespace Sh
open Fix

theorem res_cii {fn : Func} {p q s : Tmp} {tp : TypeId} (h : fn.results = #[.cell p tp, .tmp q, .tmp s]) (tmps : Array Value) (w : World) (a : Addr) (X U V : Value)
    (hp : tmps.getD p undef = .pointer (some a)) (hq : tmps.getD q undef = U) (hs : tmps.getD s undef = V) (hX : (loadVar tp a).run Try.prog w = .ok X w) :
    (results fn tmps).run Try.prog w = .ok (.tuple #[X, U, V]) w := by
  have hp' : tmps[p]?.getD undef = .pointer (some a) := by simpa using hp
  have hq' : tmps[q]?.getD undef = U := by simpa using hq
  have hs' : tmps[s]?.getD undef = V := by simpa using hs
  simp [results, h, hp', hq', hs', asAddr, hX]

/-- The document's Join. -/
def joiE (T S a : Int) : Int := fE [chk T S, ife (a == 0) 14, priE T S a, roomE T a 4611686018427387904, roomE S (priN T S a) 18446744073709551615]
def joiT (T S a : Int) : Int := if joiE T S a = 0 then T + a else 0
def joiS (T S a : Int) : Int := if joiE T S a = 0 then S + priN T S a else 0
def joiN (T S a : Int) : Int := if joiE T S a = 0 then priN T S a else 0
theorem fE_cons {x : Int} {l : List Int} (h : fE (x :: l) = 0) : x = 0 ∧ fE l = 0 := by
  unfold fE at h
  split at h
  · exact ⟨‹_›, h⟩
  · exact absurd h ‹_›
theorem joi_ok {T S a : Int} (h : joiE T S a = 0) : chk T S = 0 ∧ ¬ a = 0 ∧ priE T S a = 0 ∧ T + a ≤ 4611686018427387904 ∧ S + priN T S a ≤ 18446744073709551615 := by
  obtain ⟨h1, h⟩ := fE_cons h
  obtain ⟨h2, h⟩ := fE_cons h
  obtain ⟨h3, h⟩ := fE_cons h
  obtain ⟨h4, h⟩ := fE_cons h
  obtain ⟨h5, h⟩ := fE_cons h
  refine ⟨h1, fun e => ?_, h3, ?_, ?_⟩
  · subst e; cases h2
  · unfold roomE at h4
    split at h4
    · cases h4
    · omega
  · unfold roomE at h5
    split at h5
    · cases h5
    · omega

theorem five {w : World} {b : Nat} {v0 v1 v2 v3 v4 : Value} {e0 e1 e2 e3 e4 : Int} (t : TypeId) (h0 : Tells w v0 e0) (h1 : Tells w v1 e1) (h2 : Tells w v2 e2) (h3 : Tells w v3 e3) (h4 : Tells w v4 e4) (hb : w.heap.size = b) :
    ∀ i, i < 5 → ∃ v, (w.alloc (.cells #[v0, v1, v2, v3, v4] t)).cell? ⟨b, i, none⟩ = some v ∧ Tells (w.alloc (.cells #[v0, v1, v2, v3, v4] t)) v ([e0, e1, e2, e3, e4].getD i 0) := by
  subst hb
  have B := (Bel.refl w).alloc (.cells #[v0, v1, v2, v3, v4] t)
  intro i hi
  match i, hi with
  | 0, _ => exact ⟨v0, by simp, h0.bel B⟩
  | 1, _ => exact ⟨v1, by simp, h1.bel B⟩
  | 2, _ => exact ⟨v2, by simp, h2.bel B⟩
  | 3, _ => exact ⟨v3, by simp, h3.bel B⟩
  | 4, _ => exact ⟨v4, by simp, h4.bel B⟩

/-- The world of an operation: its pool in the block p, its result in the block q. -/
def In (w W : World) (p q : Nat) (T S : Int) : Prop :=
  Bel w W ∧ W.cell? ⟨p, 0, none⟩ = some (.int .u64 T) ∧ W.cell? ⟨p, 1, none⟩ = some (.int .u64 S) ∧ Kk.Blk W q #[.int .u64 0, .int .u64 0] 53 ∧ w.heap.size ≤ p ∧ p < q
theorem In.up {w W W' : World} {p q : Nat} {T S : Int} (h : In w W p q T S) (hb : Bel W W') : In w W' p q T S :=
  ⟨h.1.trans hb, cell_bel h.2.1 hb, cell_bel h.2.2.1 hb, h.2.2.2.1.bel hb, h.2.2.2.2⟩
theorem In.start (w : World) (T S : Int) : In w ((w.alloc (.cells #[.int .u64 T, .int .u64 S] 53)).alloc (.cells #[.int .u64 0, .int .u64 0] 53)) w.heap.size (w.heap.size + 1) T S :=
  ⟨((Bel.refl _).alloc _).alloc _, by simp [World.cell?_alloc_old], by simp [World.cell?_alloc_old], by
    have := Kk.Blk.new (w.alloc (.cells #[.int .u64 T, .int .u64 S] 53)) #[.int .u64 0, .int .u64 0] 53
    simpa using this, Nat.le_refl _, by omega⟩
/-- What is loaded where a result has been stored. -/
theorem In.load {w W : World} {p q : Nat} {T S : Int} (h : In w W p q T S) (A B : Int) : (loadVar 53 ⟨q, 0, none⟩).run Try.prog ((W.setCell ⟨q, 0, none⟩ (.int .u64 A)).setCell ⟨q, 1, none⟩ (.int .u64 B)) = .ok (pV A B) ((W.setCell ⟨q, 0, none⟩ (.int .u64 A)).setCell ⟨q, 1, none⟩ (.int .u64 B)) :=
  Pm.load_b (C := [.int .u64 A, .int .u64 B]) ((h.2.2.2.1.set 0 _).set 1 _) Try.underlying53 rfl (by kernel_rfl)
theorem In.end_ {w W : World} {p q : Nat} {T S : Int} (h : In w W p q T S) (u v : Value) : Bel w ((W.setCell ⟨q, 0, none⟩ u).setCell ⟨q, 1, none⟩ v) :=
  (h.1.set (by have := h.2.2.2.2; show w.heap.size ≤ q; omega) _).set (by have := h.2.2.2.2; show w.heap.size ≤ q; omega) _

set_option maxRecDepth 10000 in
set_option maxHeartbeats 2000000 in
theorem join (T S a : Int) (w : World) (t0 : 0 ≤ T) (t1 : T ≤ 18446744073709551615) (s0 : 0 ≤ S) (s1 : S ≤ 18446744073709551615) (a0 : 0 ≤ a) (a1 : a ≤ 18446744073709551615) :
    Calls Try.prog 50 #[pV T S, .int .u64 a] w fun r w' => r = .returned (.tuple #[pV (joiT T S a) (joiS T S a), .int .u64 (joiN T S a), .int .i64 (joiE T S a)]) ∧ Bel w w' := by
  have TC := Lib.hid (fun W => tells_check T S W t0 s0)
  have PR := Lib.hid (fun W => price T S a W t0 t1 s0 s1 a0 a1)
  obtain ⟨P, hP⟩ : ∃ P, priN T S a = P := ⟨_, rfl⟩
  obtain ⟨F, hF⟩ : ∃ F, priE T S a = F := ⟨_, rfl⟩
  have hP0 := priN_le t0 s0 a0 (a := a) (T := T) (S := S)
  rw [hP] at hP0
  have RC := Lib.hid (fun W => roomc T a 4611686018427387904 W t0 t1 a0 a1 (by decide) (by decide))
  have RD := Lib.hid (fun W => roomd S P 18446744073709551615 W s0 s1 hP0.1 hP0.2 (by decide) (by decide))
  rw [hP, hF] at PR
  have HP := Lib.hid hP
  have HF := Lib.hid hF
  have B0 := Lib.hid hP0
  clear hP hF hP0
  have JO := Lib.hid (fun h => joi_ok (T := T) (S := S) (a := a) h)
  have I0 := Lib.hid (In.start w T S)
  go_enter Try.func50, Try.ntmps50
  go_wp2_with fail
  obtain ⟨W, hW⟩ : ∃ W, (w.alloc (.cells #[.int .u64 T, .int .u64 S] 53)).alloc (.cells #[.int .u64 0, .int .u64 0] 53) = W := ⟨_, rfl⟩
  obtain ⟨p, hp⟩ : ∃ p, w.heap.size = p := ⟨_, rfl⟩
  obtain ⟨q, hq⟩ : ∃ q, p + 1 = q := ⟨_, rfl⟩
  rw [hW, hp, hq] at I0
  rw [hW, hp, hq]
  clear hW hp hq
  refine (PR.out _).mono ?_
  rintro e w1 ⟨rfl, kb⟩
  have I1 := I0.out.up kb
  clear kb I0
  go_upto_region 2 with fail
  refine wp_region_held_drew (S := fun V => In w V p q T S) (by kernel_rfl) (I1.up (Bel.refl _).drew) (fun hS0 => ?_)
  obtain ⟨w6, hw6⟩ : ∃ w6, w1.drew = w6 := ⟨_, rfl⟩
  rw [hw6] at hS0 ⊢
  clear hw6 I1
  refine wpAnyH_take (i := 0) (oi := { dst := some 16, op := .load 53 (.tmp 2), type := 53, pos := "pool.go:47", after := #[], guard := none }) (v := pV T S) rfl (by kernel_rfl) (by kernel_rfl) (by kernel_rfl) (fun _ _ _ h => h) (Or.inl ⟨by rfl, by intro w h; obtain ⟨hcell, hcell2⟩ := ((show w.cell? ⟨p, 0, none⟩ = some (.int .u64 T) ∧ w.cell? ⟨p, 1, none⟩ = some (.int .u64 S) from ⟨h.2.1, h.2.2.1⟩)); clear h; go_simp⟩) hS0 ?_
  try simp only [Act.put, List.setIfInBounds_toArray, List.set_cons_zero, List.set_cons_succ]
  refine wpAnyH_take (i := 1) (oi := { dst := some 17, op := Op.makeFunc (Fn.func 33) #[.tmp 16] #[], type := 60, pos := "pool.go:47", after := #[{ on := 0, ground := .data }], guard := none }) (v := .func (.func 33) #[pV T S] #[]) rfl (by kernel_rfl) (by kernel_rfl) (by kernel_rfl) (fun _ _ _ h => h) (Or.inl ⟨by rfl, by intro w hSw; clear hSw; go_simp⟩) hS0 ?_
  try simp only [Act.put, List.setIfInBounds_toArray, List.set_cons_zero, List.set_cons_succ]
  refine wpAnyH_take (i := 2) (oi := { dst := some 18, op := .move (.tmp 1), type := 51, pos := "pool.go:47", after := #[], guard := none }) (v := .int .u64 a) rfl (by kernel_rfl) (by kernel_rfl) (by kernel_rfl) (fun _ _ _ h => h) (Or.inl ⟨by rfl, by intro w hSw; clear hSw; go_simp⟩) hS0 ?_
  try simp only [Act.put, List.setIfInBounds_toArray, List.set_cons_zero, List.set_cons_succ]
  refine wpAnyH_take (i := 3) (oi := { dst := some 19, op := .binOp .eql 51 (.tmp 18) (.const (Value.int IntKind.u64 0)) 51, type := 4, pos := "pool.go:47", after := #[{ on := 2, ground := .data }], guard := none }) (v := .bool (a == 0)) rfl (by kernel_rfl) (by kernel_rfl) (by kernel_rfl) (fun _ _ _ h => h) (Or.inl ⟨by rfl, by intro w hSw; clear hSw; go_simp⟩) hS0 ?_
  try simp only [Act.put, List.setIfInBounds_toArray, List.set_cons_zero, List.set_cons_succ]
  refine wpAnyH_take (i := 5) (oi := { dst := some 21, op := .move (.tmp 8), type := 27, pos := "pool.go:47", after := #[], guard := none }) (v := .int .i64 F) rfl (by kernel_rfl) (by kernel_rfl) (by kernel_rfl) (fun _ _ _ h => h) (Or.inl ⟨by rfl, by intro w hSw; clear hSw; go_simp⟩) hS0 ?_
  try simp only [Act.put, List.setIfInBounds_toArray, List.set_cons_zero, List.set_cons_succ]
  refine wpAnyH_take (i := 7) (oi := { dst := some 23, op := .fieldAddr 53 (.tmp 2) 0, type := 0, pos := "pool.go:47", after := #[], guard := none }) (v := .pointer (some ⟨p, 0, none⟩)) rfl (by kernel_rfl) (by kernel_rfl) (by kernel_rfl) (fun _ _ _ h => h) (Or.inl ⟨by rfl, by intro w hSw; clear hSw; go_simp⟩) hS0 ?_
  try simp only [Act.put, List.setIfInBounds_toArray, List.set_cons_zero, List.set_cons_succ]
  refine wpAnyH_take (i := 8) (oi := { dst := some 24, op := .load 22 (.tmp 23), type := 22, pos := "pool.go:47", after := #[{ on := 7, ground := .data }], guard := none }) (v := .int .u64 T) rfl (by kernel_rfl) (by kernel_rfl) (by kernel_rfl) (fun _ _ _ h => h) (Or.inl ⟨by rfl, by intro w h; have hcell := (h.2.1); clear h; go_simp⟩) hS0 ?_
  try simp only [Act.put, List.setIfInBounds_toArray, List.set_cons_zero, List.set_cons_succ]
  refine wpAnyH_take (i := 9) (oi := { dst := some 25, op := .move (.tmp 1), type := 51, pos := "pool.go:47", after := #[], guard := none }) (v := .int .u64 a) rfl (by kernel_rfl) (by kernel_rfl) (by kernel_rfl) (fun _ _ _ h => h) (Or.inl ⟨by rfl, by intro w hSw; clear hSw; go_simp⟩) hS0 ?_
  try simp only [Act.put, List.setIfInBounds_toArray, List.set_cons_zero, List.set_cons_succ]
  refine wpAnyH_take (i := 11) (oi := { dst := some 27, op := .fieldAddr 53 (.tmp 2) 1, type := 0, pos := "pool.go:47", after := #[], guard := none }) (v := .pointer (some ⟨p, 1, none⟩)) rfl (by kernel_rfl) (by kernel_rfl) (by kernel_rfl) (fun _ _ _ h => h) (Or.inl ⟨by rfl, by intro w hSw; clear hSw; go_simp⟩) hS0 ?_
  try simp only [Act.put, List.setIfInBounds_toArray, List.set_cons_zero, List.set_cons_succ]
  refine wpAnyH_take (i := 12) (oi := { dst := some 28, op := .load 22 (.tmp 27), type := 22, pos := "pool.go:47", after := #[{ on := 11, ground := .data }], guard := none }) (v := .int .u64 S) rfl (by kernel_rfl) (by kernel_rfl) (by kernel_rfl) (fun _ _ _ h => h) (Or.inl ⟨by rfl, by intro w h; have hcell := (h.2.2.1); clear h; go_simp⟩) hS0 ?_
  try simp only [Act.put, List.setIfInBounds_toArray, List.set_cons_zero, List.set_cons_succ]
  refine wpAnyH_take (i := 13) (oi := { dst := some 29, op := .move (.tmp 7), type := 55, pos := "pool.go:47", after := #[], guard := none }) (v := .int .u64 P) rfl (by kernel_rfl) (by kernel_rfl) (by kernel_rfl) (fun _ _ _ h => h) (Or.inl ⟨by rfl, by intro w hSw; clear hSw; go_simp⟩) hS0 ?_
  try simp only [Act.put, List.setIfInBounds_toArray, List.set_cons_zero, List.set_cons_succ]
  refine wpAnyH_ready (rs := [4]) (by kernel_rfl) (by simp) ?_
  refine AllReadyH.cons (o := { dst := some 20, op := .call { callee := .value (.func 45), args := #[.tmp 19, .const (Value.int IntKind.i64 14)], argTypes := #[4, 27] }, type := 66, pos := "pool.go:49", after := #[{ on := 3, ground := .data }], guard := none }) rfl (fun K hK => ?_) AllReadyH.nil
  go_simp
  refine (unless_ _ _ _).mono ?_
  rintro e v1 ⟨a0, b0, rfl, ht0, kb0⟩
  go_wp2_with fail
  refine hK.out _ _ (hS0.up kb0) (fun hS1 => ?_)
  clear hK K
  try simp only [Act.put, List.setIfInBounds_toArray, List.set_cons_zero, List.set_cons_succ]
  refine wpAnyH_ready (rs := [6]) (by kernel_rfl) (by simp) ?_
  refine AllReadyH.cons (o := { dst := some 22, op := .call { callee := .value (.func 55), args := #[.tmp 21], argTypes := #[27] }, type := 66, pos := "pool.go:50", after := #[{ on := 5, ground := .data }, { on := 4, ground := .chain }], guard := none }) rfl (fun K hK => ?_) AllReadyH.nil
  go_simp
  refine (told _ _).mono ?_
  rintro e v2 ⟨a1, rfl, ht1, kb1⟩
  go_wp2_with fail
  refine hK.out _ _ (hS1.up kb1) (fun hS2 => ?_)
  clear hK K
  try simp only [Act.put, List.setIfInBounds_toArray, List.set_cons_zero, List.set_cons_succ]
  refine wpAnyH_ready (rs := [10]) (by kernel_rfl) (by simp) ?_
  refine AllReadyH.cons (o := { dst := some 26, op := .call { callee := .value (.func 59), args := #[.tmp 24, .tmp 25, .const (Value.int IntKind.u64 4611686018427387904)], argTypes := #[51, 51, 51] }, type := 66, pos := "pool.go:51", after := #[{ on := 8, ground := .data }, { on := 9, ground := .data }, { on := 6, ground := .chain }], guard := none }) rfl (fun K hK => ?_) AllReadyH.nil
  go_simp
  refine (RC.out _).mono ?_
  rintro e v3 ⟨a2, b2, c2, rfl, ht2, kb2⟩
  go_wp2_with fail
  refine hK.out _ _ (hS2.up kb2) (fun hS3 => ?_)
  clear hK K
  try simp only [Act.put, List.setIfInBounds_toArray, List.set_cons_zero, List.set_cons_succ]
  refine wpAnyH_ready (rs := [14]) (by kernel_rfl) (by simp) ?_
  refine AllReadyH.cons (o := { dst := some 30, op := .call { callee := .value (.func 60), args := #[.tmp 28, .tmp 29, .const (Value.int IntKind.u64 18446744073709551615)], argTypes := #[55, 55, 55] }, type := 66, pos := "pool.go:52", after := #[{ on := 12, ground := .data }, { on := 13, ground := .data }, { on := 10, ground := .chain }], guard := none }) rfl (fun K hK => ?_) AllReadyH.nil
  go_simp
  refine (RD.out _).mono ?_
  rintro e v4 ⟨a3, b3, c3, rfl, ht3, kb3⟩
  go_wp2_with fail
  refine hK.out _ _ (hS3.up kb3) (fun hS4 => ?_)
  clear hK K
  try simp only [Act.put, List.setIfInBounds_toArray, List.set_cons_zero, List.set_cons_succ]
  refine wpAnyH_ready (rs := [15]) (by kernel_rfl) (by simp) ?_
  refine AllReadyH.cons (o := { dst := some 31, op := .buildSlice 79 5 #[(0, .tmp 17), (1, .tmp 20), (2, .tmp 22), (3, .tmp 26), (4, .tmp 30)], type := 79, pos := "pool.go:47", after := #[{ on := 1, ground := .data }, { on := 4, ground := .data }, { on := 6, ground := .data }, { on := 10, ground := .data }, { on := 14, ground := .data }], guard := none }) rfl (fun K hK => ?_) AllReadyH.nil
  go_simp
  refine hK.out _ _ (hS4.up ((Bel.refl _).alloc _)) (fun hS5 => ?_)
  clear hK K
  try simp only [Act.put, List.setIfInBounds_toArray, List.set_cons_zero, List.set_cons_succ]
  refine wpAnyH_ready (rs := [16]) (by kernel_rfl) (by simp) ?_
  refine AllReadyH.cons (o := { dst := some 32, op := .call { callee := .value (.func 44), args := #[.tmp 31], argTypes := #[79] }, type := 27, pos := "pool.go:47", after := #[{ on := 15, ground := .data }, { on := 14, ground := .chain }], guard := none }) rfl (fun K hK => ?_) AllReadyH.nil
  go_simp
  refine (first _ 5 _ [chk T S, ife (a == 0) 14, F, roomE T a 4611686018427387904, roomE S P 18446744073709551615] _ rfl (by decide) (five _ (TC.out _) (ht0.bel (kb1.trans (kb2.trans kb3))) (ht1.bel (kb2.trans kb3)) (ht2.bel kb3) ht3 rfl)).mono ?_
  rintro e v6 ⟨rfl, kb4⟩
  go_wp2_with fail
  refine hK.out _ _ (hS5.up kb4) (fun hS6 => ?_)
  clear hK K
  try simp only [Act.put, List.setIfInBounds_toArray, List.set_cons_zero, List.set_cons_succ]
  refine wpAnyH_take (i := 17) (oi := { dst := some 9, op := .assign (.tmp 32), type := 27, pos := "pool.go:47", after := #[{ on := 16, ground := .data }, { on := 16, ground := .chain }, { on := 0, ground := .phase }, { on := 1, ground := .phase }, { on := 2, ground := .phase }, { on := 3, ground := .phase }, { on := 4, ground := .phase }, { on := 5, ground := .phase }, { on := 6, ground := .phase }, { on := 7, ground := .phase }, { on := 8, ground := .phase }, { on := 9, ground := .phase }, { on := 10, ground := .phase }, { on := 11, ground := .phase }, { on := 12, ground := .phase }, { on := 13, ground := .phase }, { on := 14, ground := .phase }, { on := 15, ground := .phase }, { on := 16, ground := .phase }], guard := none }) (v := .int .i64 (fE [chk T S, ife (a == 0) 14, F, roomE T a 4611686018427387904, roomE S P 18446744073709551615])) rfl (by kernel_rfl) (by kernel_rfl) (by kernel_rfl) (fun _ _ _ h => h) (Or.inl ⟨by rfl, by intro w hSw; clear hSw; go_simp⟩) hS6 ?_
  try simp only [Act.put, List.setIfInBounds_toArray, List.set_cons_zero, List.set_cons_succ]
  refine wpAnyH_done (by kernel_rfl) ?_ _
  obtain ⟨E, hE⟩ : ∃ E, fE [chk T S, ife (a == 0) 14, F, roomE T a 4611686018427387904, roomE S P 18446744073709551615] = E := ⟨_, rfl⟩
  have hE' : joiE T S a = E := by rw [← hE, ← HP.out, ← HF.out]; rfl
  rw [hE]
  have I6 := Lib.hid hS6
  obtain ⟨c0, c1⟩ : v6.cell? ⟨p, 0, none⟩ = some (.int .u64 T) ∧ v6.cell? ⟨p, 1, none⟩ = some (.int .u64 S) := ⟨hS6.2.1, hS6.2.2.1⟩
  obtain ⟨d0, d1, d2, d3⟩ : v6.cell? ⟨q, 0, none⟩ = some (.int .u64 0) ∧ v6.cell? ⟨q, 1, none⟩ = some (.int .u64 0) ∧ v6.frozen? ⟨q, 0, none⟩ = false ∧ v6.frozen? ⟨q, 1, none⟩ = false := ⟨hS6.2.2.2.1.cell 0 rfl, hS6.2.2.2.1.cell 1 rfl, hS6.2.2.2.1.frozen 0, hS6.2.2.2.1.frozen 1⟩
  clear hE hS0 hS1 hS2 hS3 hS4 hS5 hS6
  have EO := Lib.hid hE'
  by_cases hz : E = 0
  · subst hz
    obtain ⟨_, _, _, j1, j2⟩ := JO.out hE'
    rw [HP.out] at j2
    obtain ⟨p0, p1⟩ := B0.out
    have e1 : IntKind.u64.wrap (T + a) = T + a := by rw [IntKind.wrap_u64]; omega
    have e2 : IntKind.u64.wrap (S + P) = S + P := by rw [IntKind.wrap_u64]; omega
    have q1 := Lib.hid (show joiT T S a = T + a from if_pos hE')
    have q2 := Lib.hid (show joiS T S a = S + P from by rw [← HP.out]; exact if_pos hE')
    have q3 := Lib.hid (show joiN T S a = P from by rw [← HP.out]; exact if_pos hE')
    clear hE' j1 j2
    go_wp2_with fail
    refine bodyPost_ret (v := .tuple #[pV (T + a) (S + P), .int .u64 P, .int .i64 0]) (res_cii rfl _ _ ⟨q, 0, none⟩ _ _ _ rfl rfl rfl (I6.out.load _ _)) rfl ⟨by rw [q1.out, q2.out, q3.out, EO.out], I6.out.end_ _ _⟩
  · have hz1 : (E != 0) = true := by simpa using hz
    have hz2 : ¬ joiE T S a = 0 := by rw [hE']; exact hz
    have q1 := Lib.hid (show joiT T S a = 0 from if_neg hz2)
    have q2 := Lib.hid (show joiS T S a = 0 from if_neg hz2)
    have q3 := Lib.hid (show joiN T S a = 0 from if_neg hz2)
    clear hE' hz2
    go_wp2_with fail
    refine bodyPost_ret (v := .tuple #[pV 0 0, .int .u64 0, .int .i64 E]) (res_cii rfl _ _ ⟨q, 0, none⟩ _ _ _ rfl rfl rfl (I6.out.load _ _)) rfl ⟨by rw [q1.out, q2.out, q3.out, EO.out], I6.out.end_ _ _⟩

/-- The document's Leave. -/
def leaE (T S x : Int) : Int := fE [valE T S x, ife (valN T S x == 0) 14]
def leaT (T S x : Int) : Int := if leaE T S x = 0 then T - valN T S x else 0
def leaS (T S x : Int) : Int := if leaE T S x = 0 then S - x else 0
def leaN (T S x : Int) : Int := if leaE T S x = 0 then valN T S x else 0
theorem lea_ok {T S x : Int} (t0 : 0 ≤ T) (x0 : 0 ≤ x) (h : leaE T S x = 0) : valE T S x = 0 ∧ chk T S = 0 ∧ x ≤ S ∧ 0 < valN T S x ∧ valN T S x ≤ T := by
  obtain ⟨h1, h⟩ := fE_cons h
  obtain ⟨h2, h⟩ := fE_cons h
  obtain ⟨_, _, v0, v1⟩ := val_of t0 x0 h1
  obtain ⟨hc, hx⟩ := valE_ok h1
  refine ⟨h1, hc, hx, ?_, v1⟩
  by_cases e : valN T S x = 0
  · rw [e] at h2
    cases h2
  · omega

set_option maxRecDepth 10000 in
set_option maxHeartbeats 2000000 in
theorem leave (T S x : Int) (w : World) (t0 : 0 ≤ T) (t1 : T ≤ 18446744073709551615) (s0 : 0 ≤ S) (s1 : S ≤ 18446744073709551615) (x0 : 0 ≤ x) (x1 : x ≤ 18446744073709551615) :
    Calls Try.prog 51 #[pV T S, .int .u64 x] w fun r w' => r = .returned (.tuple #[pV (leaT T S x) (leaS T S x), .int .u64 (leaN T S x), .int .i64 (leaE T S x)]) ∧ Bel w w' := by
  have PR := Lib.hid (fun W => value T S x W t0 t1 s0 s1 x0 x1)
  have LO := Lib.hid (fun h => lea_ok (T := T) (S := S) (x := x) t0 x0 h)
  obtain ⟨P, hP⟩ : ∃ P, valN T S x = P := ⟨_, rfl⟩
  obtain ⟨F, hF⟩ : ∃ F, valE T S x = F := ⟨_, rfl⟩
  rw [hP, hF] at PR
  have HP := Lib.hid hP
  have HF := Lib.hid hF
  clear hP hF
  have I0 := Lib.hid (In.start w T S)
  go_enter Try.func51, Try.ntmps51
  go_wp2_with fail
  obtain ⟨W, hW⟩ : ∃ W, (w.alloc (.cells #[.int .u64 T, .int .u64 S] 53)).alloc (.cells #[.int .u64 0, .int .u64 0] 53) = W := ⟨_, rfl⟩
  obtain ⟨p, hp⟩ : ∃ p, w.heap.size = p := ⟨_, rfl⟩
  obtain ⟨q, hq⟩ : ∃ q, p + 1 = q := ⟨_, rfl⟩
  rw [hW, hp, hq] at I0
  rw [hW, hp, hq]
  clear hW hp hq
  refine (PR.out _).mono ?_
  rintro e w1 ⟨rfl, kb⟩
  have I1 := Lib.hid (I0.out.up kb)
  clear kb I0
  go_wp2_with fail
  refine (told _ _).mono ?_
  rintro e w2 ⟨a0, rfl, ht0, kb0⟩
  have H0 := Lib.hid ht0
  have K0 := Lib.hid kb0
  clear ht0 kb0
  go_wp2_with fail
  refine (unless_ _ _ _).mono ?_
  rintro e w3 ⟨a1, b1, rfl, ht1, kb1⟩
  have H1 := Lib.hid ht1
  have K1 := Lib.hid kb1
  clear ht1 kb1
  go_wp2_with fail
  refine (first _ 2 _ [F, ife (P == 0) 14] _ rfl (by decide) (two _ (H0.out.bel K1.out) H1.out rfl)).mono ?_
  rintro e w6 ⟨rfl, kb⟩
  have hS6 := (((I1.out.up K0.out).up K1.out).up ((Bel.refl _).alloc _)).up kb
  clear kb
  obtain ⟨E, hE⟩ : ∃ E, fE [F, ife (P == 0) 14] = E := ⟨_, rfl⟩
  have hE' : leaE T S x = E := by rw [← hE, ← HP.out, ← HF.out]; rfl
  rw [hE]
  have I6 := Lib.hid hS6
  obtain ⟨c0, c1⟩ : w6.cell? ⟨p, 0, none⟩ = some (.int .u64 T) ∧ w6.cell? ⟨p, 1, none⟩ = some (.int .u64 S) := ⟨hS6.2.1, hS6.2.2.1⟩
  obtain ⟨d0, d1, d2, d3⟩ : w6.cell? ⟨q, 0, none⟩ = some (.int .u64 0) ∧ w6.cell? ⟨q, 1, none⟩ = some (.int .u64 0) ∧ w6.frozen? ⟨q, 0, none⟩ = false ∧ w6.frozen? ⟨q, 1, none⟩ = false := ⟨hS6.2.2.2.1.cell 0 rfl, hS6.2.2.2.1.cell 1 rfl, hS6.2.2.2.1.frozen 0, hS6.2.2.2.1.frozen 1⟩
  clear hE hS6
  have EO := Lib.hid hE'
  by_cases hz : E = 0
  · subst hz
    obtain ⟨_, _, j1, j2, j3⟩ := LO.out hE'
    rw [HP.out] at j2 j3
    have e1 : IntKind.u64.wrap (T - P) = T - P := by rw [IntKind.wrap_u64]; omega
    have e2 : IntKind.u64.wrap (S - x) = S - x := by rw [IntKind.wrap_u64]; omega
    have q1 := Lib.hid (show leaT T S x = T - P from by rw [← HP.out]; exact if_pos hE')
    have q2 := Lib.hid (show leaS T S x = S - x from if_pos hE')
    have q3 := Lib.hid (show leaN T S x = P from by rw [← HP.out]; exact if_pos hE')
    clear hE' j1 j2 j3
    go_wp2_with fail
    refine bodyPost_ret (v := .tuple #[pV (T - P) (S - x), .int .u64 P, .int .i64 0]) (res_cii rfl _ _ ⟨q, 0, none⟩ _ _ _ rfl rfl rfl (I6.out.load _ _)) rfl ⟨by rw [q1.out, q2.out, q3.out, EO.out], I6.out.end_ _ _⟩
  · have hz1 : (E != 0) = true := by simpa using hz
    have hz2 : ¬ leaE T S x = 0 := by rw [hE']; exact hz
    have q1 := Lib.hid (show leaT T S x = 0 from if_neg hz2)
    have q2 := Lib.hid (show leaS T S x = 0 from if_neg hz2)
    have q3 := Lib.hid (show leaN T S x = 0 from if_neg hz2)
    clear hE' hz2
    go_wp2_with fail
    refine bodyPost_ret (v := .tuple #[pV 0 0, .int .u64 0, .int .i64 E]) (res_cii rfl _ _ ⟨q, 0, none⟩ _ _ _ rfl rfl rfl (I6.out.load _ _)) rfl ⟨by rw [q1.out, q2.out, q3.out, EO.out], I6.out.end_ _ _⟩

/-- The document's Cut. -/
def cutE (T S b : Int) : Int := fE [chk T S, partE T b]
def cutT (T S b : Int) : Int := if cutE T S b = 0 then T - partN T b else 0
def cutS (T S b : Int) : Int := if cutE T S b = 0 ∧ ¬ partN T b = T then S else 0
def cutN (T S b : Int) : Int := if cutE T S b = 0 then partN T b else 0
theorem part_of' {a p : Int} (a0 : 0 ≤ a) (a1 : a ≤ 18446744073709551615) (p0 : 0 ≤ p) (p1 : p ≤ 1000000000) : partN a p = a * p / 1000000000 ∧ partE a p = 0 ∧ 0 ≤ a * p / 1000000000 ∧ a * p / 1000000000 ≤ a := by
  have m0 : 0 ≤ a * p := Int.mul_nonneg a0 p0
  have m1 : a * p ≤ a * 1000000000 := Int.mul_le_mul_of_nonneg_left p1 a0
  have hle : a * p / 1000000000 ≤ a := by omega
  obtain ⟨e1, e2⟩ := amt_of (P := a * p / 1000000000) (by omega)
  unfold partN partE mdN mdE
  have h1 : ¬ 1000000000 < p := by omega
  have h2 : ¬ (1000000000 : Int) = 0 := by decide
  simp only [h1, h2, if_false]
  exact ⟨e1, e2, by omega, hle⟩
theorem part_b {a p : Int} (a0 : 0 ≤ a) (a1 : a ≤ 18446744073709551615) (p0 : 0 ≤ p) : 0 ≤ partN a p ∧ partN a p ≤ a := by
  by_cases h : p ≤ 1000000000
  · obtain ⟨e1, _, e3, e4⟩ := part_of' a0 a1 p0 h
    rw [e1]
    exact ⟨e3, e4⟩
  · have e : partN a p = 0 := if_pos (by omega)
    rw [e]
    exact ⟨by decide, a0⟩

set_option maxRecDepth 10000 in
set_option maxHeartbeats 2000000 in
theorem cut (T S x : Int) (w : World) (t0 : 0 ≤ T) (t1 : T ≤ 18446744073709551615) (s0 : 0 ≤ S) (s1 : S ≤ 18446744073709551615) (x0 : 0 ≤ x) (x1 : x ≤ 18446744073709551615) :
    Calls Try.prog 41 #[pV T S, .int .u64 x] w fun r w' => r = .returned (.tuple #[pV (cutT T S x) (cutS T S x), .int .u64 (cutN T S x), .int .i64 (cutE T S x)]) ∧ Bel w w' := by
  have TC := Lib.hid (fun W => tells_check T S W t0 s0)
  have PR := Lib.hid (fun W => Fix.part T x W t0 t1 x0 x1)
  have hb := part_b t0 t1 x0 (p := x)
  obtain ⟨P, hP⟩ : ∃ P, partN T x = P := ⟨_, rfl⟩
  obtain ⟨F, hF⟩ : ∃ F, partE T x = F := ⟨_, rfl⟩
  rw [hP] at hb
  rw [hP, hF] at PR
  have HP := Lib.hid hP
  have HF := Lib.hid hF
  have B0 := Lib.hid hb
  clear hP hF hb
  have I0 := Lib.hid (In.start w T S)
  go_enter Try.func41, Try.ntmps41
  go_wp2_with fail
  obtain ⟨W, hW⟩ : ∃ W, (w.alloc (.cells #[.int .u64 T, .int .u64 S] 53)).alloc (.cells #[.int .u64 0, .int .u64 0] 53) = W := ⟨_, rfl⟩
  obtain ⟨p, hp⟩ : ∃ p, w.heap.size = p := ⟨_, rfl⟩
  obtain ⟨q, hq⟩ : ∃ q, p + 1 = q := ⟨_, rfl⟩
  rw [hW, hp, hq] at I0
  rw [hW, hp, hq]
  clear hW hp hq
  refine (PR.out _).mono ?_
  rintro e w1 ⟨rfl, kb⟩
  have I1 := I0.out.up kb
  clear kb I0
  go_upto_region 2 with fail
  refine wp_region_held_drew (S := fun V => In w V p q T S) (by kernel_rfl) (I1.up (Bel.refl _).drew) (fun hS0 => ?_)
  obtain ⟨w6, hw6⟩ : ∃ w6, w1.drew = w6 := ⟨_, rfl⟩
  rw [hw6] at hS0 ⊢
  clear hw6 I1
  refine wpAnyH_take (i := 0) (oi := { dst := some 17, op := .load 53 (.tmp 2), type := 53, pos := "pool.go:71", after := #[], guard := none }) (v := pV T S) rfl (by kernel_rfl) (by kernel_rfl) (by kernel_rfl) (fun _ _ _ h => h) (Or.inl ⟨by rfl, by intro w h; obtain ⟨hcell, hcell2⟩ := ((show w.cell? ⟨p, 0, none⟩ = some (.int .u64 T) ∧ w.cell? ⟨p, 1, none⟩ = some (.int .u64 S) from ⟨h.2.1, h.2.2.1⟩)); clear h; go_simp⟩) hS0 ?_
  try simp only [Act.put, List.setIfInBounds_toArray, List.set_cons_zero, List.set_cons_succ]
  refine wpAnyH_take (i := 1) (oi := { dst := some 18, op := Op.makeFunc (Fn.func 33) #[.tmp 17] #[], type := 60, pos := "pool.go:71", after := #[{ on := 0, ground := .data }], guard := none }) (v := .func (.func 33) #[pV T S] #[]) rfl (by kernel_rfl) (by kernel_rfl) (by kernel_rfl) (fun _ _ _ h => h) (Or.inl ⟨by rfl, by intro w hSw; clear hSw; go_simp⟩) hS0 ?_
  try simp only [Act.put, List.setIfInBounds_toArray, List.set_cons_zero, List.set_cons_succ]
  refine wpAnyH_take (i := 2) (oi := { dst := some 19, op := .move (.tmp 8), type := 27, pos := "pool.go:71", after := #[], guard := none }) (v := .int .i64 F) rfl (by kernel_rfl) (by kernel_rfl) (by kernel_rfl) (fun _ _ _ h => h) (Or.inl ⟨by rfl, by intro w hSw; clear hSw; go_simp⟩) hS0 ?_
  try simp only [Act.put, List.setIfInBounds_toArray, List.set_cons_zero, List.set_cons_succ]
  refine wpAnyH_ready (rs := [3]) (by kernel_rfl) (by simp) ?_
  refine AllReadyH.cons (o := { dst := some 20, op := .call { callee := .value (.func 55), args := #[.tmp 19], argTypes := #[27] }, type := 66, pos := "pool.go:71", after := #[{ on := 2, ground := .data }], guard := none }) rfl (fun K hK => ?_) AllReadyH.nil
  go_simp
  refine (told _ _).mono ?_
  rintro e v1 ⟨a1, rfl, ht1, kb1⟩
  go_wp2_with fail
  refine hK.out _ _ (hS0.up kb1) (fun hS1 => ?_)
  clear hK K
  try simp only [Act.put, List.setIfInBounds_toArray, List.set_cons_zero, List.set_cons_succ]
  refine wpAnyH_ready (rs := [4]) (by kernel_rfl) (by simp) ?_
  refine AllReadyH.cons (o := { dst := some 21, op := .buildSlice 79 2 #[(0, .tmp 18), (1, .tmp 20)], type := 79, pos := "pool.go:71", after := #[{ on := 1, ground := .data }, { on := 3, ground := .data }], guard := none }) rfl (fun K hK => ?_) AllReadyH.nil
  go_simp
  refine hK.out _ _ (hS1.up ((Bel.refl _).alloc _)) (fun hS2 => ?_)
  clear hK K
  try simp only [Act.put, List.setIfInBounds_toArray, List.set_cons_zero, List.set_cons_succ]
  refine wpAnyH_ready (rs := [5]) (by kernel_rfl) (by simp) ?_
  refine AllReadyH.cons (o := { dst := some 22, op := .call { callee := .value (.func 44), args := #[.tmp 21], argTypes := #[79] }, type := 27, pos := "pool.go:71", after := #[{ on := 4, ground := .data }, { on := 3, ground := .chain }], guard := none }) rfl (fun K hK => ?_) AllReadyH.nil
  go_simp
  refine (first _ 2 _ [chk T S, F] _ rfl (by decide) (two _ (TC.out _) ht1 rfl)).mono ?_
  rintro e v3 ⟨rfl, kb4⟩
  go_wp2_with fail
  refine hK.out _ _ (hS2.up kb4) (fun hS3 => ?_)
  clear hK K
  try simp only [Act.put, List.setIfInBounds_toArray, List.set_cons_zero, List.set_cons_succ]
  refine wpAnyH_take (i := 6) (oi := { dst := some 9, op := .assign (.tmp 22), type := 27, pos := "pool.go:71", after := #[{ on := 5, ground := .data }, { on := 5, ground := .chain }, { on := 0, ground := .phase }, { on := 1, ground := .phase }, { on := 2, ground := .phase }, { on := 3, ground := .phase }, { on := 4, ground := .phase }, { on := 5, ground := .phase }], guard := none }) (v := .int .i64 (fE [chk T S, F])) rfl (by kernel_rfl) (by kernel_rfl) (by kernel_rfl) (fun _ _ _ h => h) (Or.inl ⟨by rfl, by intro w hSw; clear hSw; go_simp⟩) hS3 ?_
  try simp only [Act.put, List.setIfInBounds_toArray, List.set_cons_zero, List.set_cons_succ]
  refine wpAnyH_done (by kernel_rfl) ?_ _
  obtain ⟨w7, h7⟩ : ∃ w7, v3 = w7 := ⟨_, rfl⟩
  rw [h7] at hS3 ⊢
  have hS6 := hS3
  obtain ⟨E, hE⟩ : ∃ E, fE [chk T S, F] = E := ⟨_, rfl⟩
  have hE' : cutE T S x = E := by rw [← hE, ← HF.out]; rfl
  rw [hE]
  have I6 := Lib.hid hS6
  clear h7 hS1 hS2 hS3 hS0
  obtain ⟨c0, c1⟩ : w7.cell? ⟨p, 0, none⟩ = some (.int .u64 T) ∧ w7.cell? ⟨p, 1, none⟩ = some (.int .u64 S) := ⟨hS6.2.1, hS6.2.2.1⟩
  obtain ⟨d0, d1, d2, d3⟩ : w7.cell? ⟨q, 0, none⟩ = some (.int .u64 0) ∧ w7.cell? ⟨q, 1, none⟩ = some (.int .u64 0) ∧ w7.frozen? ⟨q, 0, none⟩ = false ∧ w7.frozen? ⟨q, 1, none⟩ = false := ⟨hS6.2.2.2.1.cell 0 rfl, hS6.2.2.2.1.cell 1 rfl, hS6.2.2.2.1.frozen 0, hS6.2.2.2.1.frozen 1⟩
  clear hE hS6
  have EO := Lib.hid hE'
  by_cases hz : E = 0
  · subst hz
    obtain ⟨p0, p1⟩ := B0.out
    have q1 := Lib.hid (show cutT T S x = T - P from by rw [← HP.out]; exact if_pos hE')
    have q3 := Lib.hid (show cutN T S x = P from by rw [← HP.out]; exact if_pos hE')
    by_cases hPT : P = T
    · have q2 := Lib.hid (show cutS T S x = 0 from if_neg fun h => h.2 (by rw [HP.out]; exact hPT))
      have hPT1 : (P == T) = true := by simpa using hPT
      have q4 := Lib.hid (show T - P = 0 by omega)
      clear hE' hPT
      go_wp2_with fail
      refine bodyPost_ret (v := .tuple #[pV 0 0, .int .u64 P, .int .i64 0]) (res_cii rfl _ _ ⟨q, 0, none⟩ _ _ _ rfl rfl rfl (I6.out.load _ _)) rfl ⟨by rw [q1.out, q2.out, q3.out, EO.out, q4.out], I6.out.end_ _ _⟩
    · have q2 := Lib.hid (show cutS T S x = S from if_pos ⟨hE', by rw [HP.out]; exact hPT⟩)
      have hPT1 : (P == T) = false := by simpa using hPT
      have e1 : IntKind.u64.wrap (T - P) = T - P := by rw [IntKind.wrap_u64]; omega
      clear hE'
      go_wp2_with fail
      refine bodyPost_ret (v := .tuple #[pV (T - P) S, .int .u64 P, .int .i64 0]) (res_cii rfl _ _ ⟨q, 0, none⟩ _ _ _ rfl rfl rfl (I6.out.load _ _)) rfl ⟨by rw [q1.out, q2.out, q3.out, EO.out], I6.out.end_ _ _⟩
  · have hz1 : (E != 0) = true := by simpa using hz
    have hz2 : ¬ cutE T S x = 0 := by rw [hE']; exact hz
    have q1 := Lib.hid (show cutT T S x = 0 from if_neg hz2)
    have q2 := Lib.hid (show cutS T S x = 0 from if_neg fun h => hz2 h.1)
    have q3 := Lib.hid (show cutN T S x = 0 from if_neg hz2)
    clear hE' hz2
    go_wp2_with fail
    refine bodyPost_ret (v := .tuple #[pV 0 0, .int .u64 0, .int .i64 E]) (res_cii rfl _ _ ⟨q, 0, none⟩ _ _ _ rfl rfl rfl (I6.out.load _ _)) rfl ⟨by rw [q1.out, q2.out, q3.out, EO.out], I6.out.end_ _ _⟩
end Sh
end Go.Proofs.Ytmfajljgcndgfaa
