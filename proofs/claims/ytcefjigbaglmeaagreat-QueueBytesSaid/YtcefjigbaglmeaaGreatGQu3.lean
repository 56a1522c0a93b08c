/-
  What the kit's Copy and Over functions make of lists of rows. Conditions: at most a billion rows.
-/
import Derived.WalkMore
import Derived.Test.YtcefjigbaglmeaaGreatGQu2
namespace Go.Proofs.YtcefjigbaglmeaaGreat
open Go.RowKit Go.Shelf
set_option linter.unusedVariables false
set_option linter.unusedSimpArgs false
namespace Qu
open Kk Pm

theorem putA_size : ∀ (vs : List Value) (C : Array Value) (o : Nat), (putA C o vs).size = C.size
  | [], _, _ => rfl
  | v :: r, C, o => by
    show (putA (C.setIfInBounds o v) (o + 1) r).size = _
    rw [putA_size r]; simp
theorem putA_other : ∀ (vs : List Value) (C : Array Value) (o j : Nat), (j < o ∨ o + vs.length ≤ j) → (putA C o vs)[j]? = C[j]?
  | [], _, _, _, _ => rfl
  | v :: r, C, o, j, h => by
    rw [List.length_cons] at h
    show (putA (C.setIfInBounds o v) (o + 1) r)[j]? = _
    rw [putA_other r _ _ _ (by omega), Array.getElem?_setIfInBounds, if_neg (by omega)]
theorem blk_get {w : World} {g : Nat} {cur : Array Value} {t : TypeId} (h : Blk w g cur t) {i : Nat} (hi : i < cur.size) : ∃ u, w.cell? ⟨g, i, none⟩ = some u := ⟨_, h.cell i (Array.getElem?_eq_getElem hi)⟩
theorem info_E : (Tryz.prog.info? 53).map (·.size) = some 8 := by kernel_rfl
theorem zero_E : (Tryz.prog.info? 53).map (fun i => (i.zero, i.size, i.bytes)) = some (some (.agg #[.int .i64 0, .int .i64 0, .int .i64 0, .int .i64 0, .int .i64 0, .int .i64 0, .int .u64 0, .int .u64 0]), 8, 64) := by kernel_rfl
abbrev OwnE (w : World) (base : Nat) (v : Value) (l : List E8) : Prop := Rw.OwnR eR 53 w base v l
theorem underE : Tryz.prog.underlying 22 = some (.slice 53) := by kernel_rfl
theorem oneE (x0 : Int) (x1 : Int) (x2 : Int) (x3 : Int) (x4 : Int) (x5 : Int) (x6 : Int) (x7 : Int) : (#[.int .i64 x0, .int .i64 x1, .int .i64 x2, .int .i64 x3, .int .i64 x4, .int .i64 x5, .int .u64 x6, .int .u64 x7] : Array Value).all (·.oneCell') = true := by simp [Value.oneCell']
set_option maxHeartbeats 4000000 in
theorem over (g o n c : Nat) (cur : Array Value) (w : World) (hb : Blk w g cur 53) (hlen : o + n * 8 ≤ cur.size) (hn : n ≤ 1000000000) :
    Calls Tryz.prog 13 #[.slice (some ⟨g, o, none⟩) n c] w fun e w' => e = .returned (.tuple #[]) ∧ Kep (fun k => k = g) w w' ∧ ∃ cur', Blk w' g cur' 53 ∧ cur'.size = cur.size ∧ ∀ j, (j < o ∨ o + n * 8 ≤ j) → cur'[j]? = cur[j]? := by
  have HB := Lib.hid hb
  clear hb
  go_enter Tryz.func13, Tryz.ntmps13
  go_wp2_with fail
  go_loopw [2] (fun i wr => ∃ k : Nat, i = .int .i64 k ∧ k ≤ n ∧ Hid (Kep (fun k => k = g) w wr ∧ ∃ cur', Blk wr g cur' 53 ∧ cur'.size = cur.size ∧ ∀ j, (j < o ∨ o + n * 8 ≤ j) → cur'[j]? = cur[j]?)) (fun i _ => n - (intOf i).toNat)
  case atStart => exact ⟨0, rfl, Nat.zero_le _, Lib.hid ⟨Kep.refl _ _, cur, HB.out, rfl, fun j _ => rfl⟩⟩
  case round =>
    obtain ⟨k, rfl, hk, hh⟩ := hrel
    by_cases hlt : k < n
    · obtain ⟨hkp, cu, hbu, hsz, hot⟩ := hh.out
      have HBU := Lib.hid hbu
      have HKP := Lib.hid hkp
      have HOT := Lib.hid hot
      have HSZ := Lib.hid hsz
      obtain ⟨a, ha⟩ : ∃ a, o + k * 8 = a := ⟨_, rfl⟩
      have hal : a + 8 ≤ cur.size := by omega
      have HAL := Lib.hid (show o ≤ a ∧ a + 8 ≤ o + n * 8 by omega)
      have TH := Lib.hid (bthere hbu a 8 (by omega))
      have hlt3 : (k : Int) < n := by omega
      have hlt0 : (0 : Int) ≤ k := by omega
      clear hkp hbu hot hsz hal
      go_upto_region 3 with fail
      iterate 13 (first | go_values | go_skip | go_guarded | go_step | go_upon | go_back)
      refine wpList_store_mid ?hgd 53 (.tmp 12) (.tmp 11) ?ho g a #[.int .i64 (-77), .int .i64 0, .int .i64 0, .int .i64 0, .int .i64 0, .int .i64 0, .int .u64 0, .int .u64 0] ?hx ?hy ?ht ?hi ?h1 ?h
      case hgd => rfl
      case ho => rfl
      case hx => rfl
      case hy => rfl
      case ht => exact TH.out
      case hi => exact info_E
      case h1 => exact oneE _ _ _ _ _ _ _ _
      have QB := Lib.hid (blk_setCells [.int .i64 (-77), .int .i64 0, .int .i64 0, .int .i64 0, .int .i64 0, .int .i64 0, .int .u64 0, .int .u64 0] a wr cu HBU.out)
      have QK := Lib.hid (HKP.out.trans (kep_setCells g [.int .i64 (-77), .int .i64 0, .int .i64 0, .int .i64 0, .int .i64 0, .int .i64 0, .int .u64 0, .int .u64 0] a wr))
      generalize hW : World.setCells wr g a _ = W at QB QK ⊢
      clear hW
      go_wp2_with fail
      go_roundw
      case rel =>
        refine ⟨k + 1, by go_num, by omega, Lib.hid ⟨QK.out, _, QB.out, by rw [putA_size]; exact HSZ.out, fun j hj => ?_⟩⟩
        have := HAL.out
        rw [putA_other _ _ _ _ (by simp; omega)]
        exact HOT.out j hj
      case measure => simp [intOf]; omega
    · obtain rfl : k = n := by omega
      go_wp2_with fail
      go_end0
      exact ⟨rfl, hh.out⟩
theorem over_none (A : Option Addr) (c : Nat) (w : World) :
    Calls Tryz.prog 13 #[.slice A 0 c] w fun e w' => e = .returned (.tuple #[]) ∧ w = w' := by
  go_enter Tryz.func13, Tryz.ntmps13
  go_wp2_with fail
  go_loop [2] (fun i => i = .int .i64 0) (fun _ => 0)
  case atStart => rfl
  case round =>
    subst hrel
    go_wp2
    go_end0
    exact ⟨rfl, rfl⟩
/-- Where rows may be written over. -/
def Lay (w : World) (A : Option Addr) (n : Nat) : Prop := 0 < n → ∃ g o cur, A = some ⟨g, o, none⟩ ∧ Blk w g cur 53 ∧ o + n * 8 ≤ cur.size
/-- What is left when they are. -/
structure Ov (A : Option Addr) (n : Nat) (w w' : World) : Prop where
  kep : Kep (fun k => 0 < n ∧ ∃ x, A = some x ∧ x.block = k) w w'
  row : ∀ g o cur, 0 < n → A = some ⟨g, o, none⟩ → Blk w g cur 53 → ∃ cur', Blk w' g cur' 53 ∧ cur'.size = cur.size ∧ ∀ j, (j < o ∨ o + n * 8 ≤ j) → cur'[j]? = cur[j]?
theorem over_any (A : Option Addr) (n c : Nat) (w : World) (h : Lay w A n) (hn : n ≤ 1000000000) :
    Calls Tryz.prog 13 #[.slice A n c] w fun e w' => e = .returned (.tuple #[]) ∧ Ov A n w w' := by
  by_cases h0 : 0 < n
  · obtain ⟨g, o, cur, rfl, hb, hl⟩ := h h0
    refine (over g o n c cur w hb hl hn).mono fun e w' h => ⟨h.1, h.2.1.mono fun k _ e => ⟨h0, _, rfl, e.symm⟩, fun g' o' cur' _ e hb' => ?_⟩
    injection e with e
    injection e with e1 e2
    subst e1 e2
    have : cur = cur' := by
      have := Option.some.inj ((show w.heap[g]? = _ from hb).symm.trans hb')
      injection this
    subst this
    exact h.2.2
  · obtain rfl : n = 0 := by omega
    refine (over_none A c w).mono fun e w' h => ⟨h.1, by rw [h.2]; exact Kep.refl _ _, fun g o cur h0 => absurd h0 (by omega)⟩
theorem Lay.bel {w w' : World} {A : Option Addr} {n : Nat} (h : Lay w A n) (hb : Bel w w') : Lay w' A n := fun h0 => by
  obtain ⟨g, o, cur, e, h1, h2⟩ := h h0
  exact ⟨g, o, cur, e, h1.bel hb, h2⟩
theorem Lay.kep {w w' : World} {A : Option Addr} {n : Nat} {S : Nat → Prop} (h : Lay w A n) (hb : Kep S w w') (hs : ∀ x, A = some x → ¬ S x.block) : Lay w' A n := fun h0 => by
  obtain ⟨g, o, cur, e, h1, h2⟩ := h h0
  exact ⟨g, o, cur, e, h1.kep hb (hs _ e), h2⟩
theorem lay_own {w : World} {base : Nat} {A : Option Addr} {n c : Nat} {l : List E8} (h : OwnE w base (.slice A n c) l) : Lay w A n := fun h0 => by
  rcases h.2 with ⟨e, _⟩ | ⟨g, cap, cur, e, _, hg, hl, _, hcs, _⟩
  · injection e with e1 e2 e3
    omega
  · injection e with e1 e2 e3
    subst e2
    exact ⟨g, 0, cur, e1, hg, by rw [Nat.zero_add, hcs]; exact Nat.mul_le_mul_right _ hl⟩
theorem info_S : (Tryz.prog.info? 90).map (·.size) = some 2 := by kernel_rfl
theorem zero_S : (Tryz.prog.info? 90).map (fun i => (i.zero, i.size, i.bytes)) = some (some (.agg #[.int .i64 0, .int .u64 0]), 2, 16) := by kernel_rfl
abbrev OwnS (w : World) (base : Nat) (v : Value) (l : List S2) : Prop := Rw.OwnR sR 90 w base v l
theorem underS : Tryz.prog.underlying 86 = some (.slice 90) := by kernel_rfl
theorem oneS (x0 : Int) (x1 : Int) : (#[.int .i64 x0, .int .u64 x1] : Array Value).all (·.oneCell') = true := by simp [Value.oneCell']
/-- Where rows may be written overS. -/
def LayS (w : World) (A : Option Addr) (n : Nat) : Prop := 0 < n → ∃ g o cur, A = some ⟨g, o, none⟩ ∧ Blk w g cur 90 ∧ o + n * 2 ≤ cur.size
/-- What is left when they are. -/
structure OvS (A : Option Addr) (n : Nat) (w w' : World) : Prop where
  kep : Kep (fun k => 0 < n ∧ ∃ x, A = some x ∧ x.block = k) w w'
  row : ∀ g o cur, 0 < n → A = some ⟨g, o, none⟩ → Blk w g cur 90 → ∃ cur', Blk w' g cur' 90 ∧ cur'.size = cur.size ∧ ∀ j, (j < o ∨ o + n * 2 ≤ j) → cur'[j]? = cur[j]?
theorem LayS.bel {w w' : World} {A : Option Addr} {n : Nat} (h : LayS w A n) (hb : Bel w w') : LayS w' A n := fun h0 => by
  obtain ⟨g, o, cur, e, h1, h2⟩ := h h0
  exact ⟨g, o, cur, e, h1.bel hb, h2⟩
theorem LayS.kep {w w' : World} {A : Option Addr} {n : Nat} {S : Nat → Prop} (h : LayS w A n) (hb : Kep S w w') (hs : ∀ x, A = some x → ¬ S x.block) : LayS w' A n := fun h0 => by
  obtain ⟨g, o, cur, e, h1, h2⟩ := h h0
  exact ⟨g, o, cur, e, h1.kep hb (hs _ e), h2⟩
theorem lay_ownS {w : World} {base : Nat} {A : Option Addr} {n c : Nat} {l : List S2} (h : OwnS w base (.slice A n c) l) : LayS w A n := fun h0 => by
  rcases h.2 with ⟨e, _⟩ | ⟨g, cap, cur, e, _, hg, hl, _, hcs, _⟩
  · injection e with e1 e2 e3
    omega
  · injection e with e1 e2 e3
    subst e2
    exact ⟨g, 0, cur, e1, hg, by rw [Nat.zero_add, hcs]; exact Nat.mul_le_mul_right _ hl⟩
end Qu
end Go.Proofs.YtcefjigbaglmeaaGreat
