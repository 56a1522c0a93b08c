/-
  What CopyHops, OverHops and told make of lists of hops; what hop.Into and hop.isHop answer. Conditions: at most a billion hops.
-/
import Derived.Test.YtahhnfnonekbmaaHp2
import Derived.Test.YtahhnfnonekbmaaHpM2
namespace Go.Proofs.Ytahhnfnonekbmaa
open Go.RowKit Go.Shelf
set_option linter.unusedVariables false
set_option linter.unusedSimpArgs false
namespace Hp
open Kk Pm

abbrev OwnH (w : World) (base : Nat) (v : Value) (l : List R4) : Prop := Rw.OwnR hR 24 w base v l
theorem underH : Try.prog.underlying 22 = some (.slice 24) := by kernel_rfl
set_option maxHeartbeats 1000000 in
theorem copy (A : Option Addr) (n c : Nat) (l : List R4) (w : World) (hi : Rw.RS hR w A n c l) (hn : n ≤ 1000000000) :
    Calls Try.prog 10 #[.slice A n c] w fun e w' => ∃ v, e = .returned v ∧ OwnH w' w.heap.size v l ∧ Bel w w' := by
  have HS := Lib.hid (hi.bel ((Bel.refl w).alloc (.cells #[] 24)))
  have HE := Lib.hid (Rw.own_empty hR 24 w)
  clear hi
  go_enter Try.func10, Try.ntmps10
  go_wp2_with (at_builtin; refine Rw.append_R hR rfl _ _ _ 24 rfl underH zero_h rfl (by decide) w.heap.size _ [] rfl HE.out A n c l rfl HS.out (by simp; omega) (by simp) ?_; intro v' w1 hown' hgrow)
  have HO := Lib.hid hown'
  have hb : Bel w w1 := Kk.Bel.grown ((Bel.refl w).alloc _) hgrow (fun k hk => (HE.out.lt k hk).1)
  clear hown' hgrow
  go_wp2
  go_ret
  exact ⟨_, rfl, HO.out, hb⟩

theorem putA_size : ∀ (vs : List Value) (C : Array Value) (o : Nat), (putA C o vs).size = C.size
  | [], _, _ => rfl
  | v :: r, C, o => by
    show (putA (C.setIfInBounds o v) (o + 1) r).size = _
    rw [putA_size r]; simp
theorem putA_other : ∀ (vs : List Value) (C : Array Value) (o j : Nat), (j < o ∨ o + vs.length ≤ j) → (putA C o vs)[j]? = C[j]?
  | [], _, _, _, _ => rfl
  | v :: r, C, o, j, h => by
    rw [List.length_cons] at h
    show (putA (C.setIfInBounds o v) (o + 1) r)[j]? = _
    rw [putA_other r _ _ _ (by omega), Array.getElem?_setIfInBounds, if_neg (by omega)]
theorem one4 (a b c d : Int) : (#[.int .i64 a, .int .i64 b, .int .i64 c, .int .i64 d] : Array Value).all (·.oneCell') = true := by simp [Value.oneCell']
theorem blk_get {w : World} {g : Nat} {cur : Array Value} {t : TypeId} (h : Blk w g cur t) {i : Nat} (hi : i < cur.size) : ∃ u, w.cell? ⟨g, i, none⟩ = some u := ⟨_, h.cell i (Array.getElem?_eq_getElem hi)⟩
set_option maxHeartbeats 4000000 in
theorem over (g o n c : Nat) (cur : Array Value) (w : World) (hb : Blk w g cur 24) (hlen : o + n * 4 ≤ cur.size) (hn : n ≤ 1000000000) :
    Calls Try.prog 50 #[.slice (some ⟨g, o, none⟩) n c] w fun e w' => e = .returned (.tuple #[]) ∧ Kep (fun k => k = g) w w' ∧ ∃ cur', Blk w' g cur' 24 ∧ cur'.size = cur.size ∧ ∀ j, (j < o ∨ o + n * 4 ≤ j) → cur'[j]? = cur[j]? := by
  have HB := Lib.hid hb
  clear hb
  go_enter Try.func50, Try.ntmps50
  go_wp2_with fail
  go_loopw [2] (fun i wr => ∃ k : Nat, i = .int .i64 k ∧ k ≤ n ∧ Hid (Kep (fun k => k = g) w wr ∧ ∃ cur', Blk wr g cur' 24 ∧ cur'.size = cur.size ∧ ∀ j, (j < o ∨ o + n * 4 ≤ j) → cur'[j]? = cur[j]?)) (fun i _ => n - (intOf i).toNat)
  case atStart => exact ⟨0, rfl, Nat.zero_le _, Lib.hid ⟨Kep.refl _ _, cur, HB.out, rfl, fun j _ => rfl⟩⟩
  case round =>
    obtain ⟨k, rfl, hk, hh⟩ := hrel
    by_cases hlt : k < n
    · obtain ⟨hkp, cu, hbu, hsz, hot⟩ := hh.out
      have HBU := Lib.hid hbu
      have HKP := Lib.hid hkp
      have HOT := Lib.hid hot
      have HSZ := Lib.hid hsz
      obtain ⟨a, ha⟩ : ∃ a, o + k * 4 = a := ⟨_, rfl⟩
      have hal : a + 4 ≤ cur.size := by omega
      have HAL := Lib.hid (show o ≤ a ∧ a + 4 ≤ o + n * 4 by omega)
      have TH := Lib.hid (bthere hbu a 4 (by omega))
      have hlt3 : (k : Int) < n := by omega
      have hlt0 : (0 : Int) ≤ k := by omega
      clear hkp hbu hot hsz hal
      go_upto_region 3 with fail
      iterate 13 (first | go_values | go_skip | go_guarded | go_step | go_upon | go_back)
      refine wpList_store_mid ?hgd 24 (.tmp 12) (.tmp 11) ?ho g a #[.int .i64 (-77), .int .i64 0, .int .i64 0, .int .i64 0] ?hx ?hy ?ht ?hi ?h1 ?h
      case hgd => rfl
      case ho => rfl
      case hx => rfl
      case hy => rfl
      case ht => exact TH.out
      case hi => exact info_h
      case h1 => exact one4 _ _ _ _
      have QB := Lib.hid (blk_setCells [.int .i64 (-77), .int .i64 0, .int .i64 0, .int .i64 0] a wr cu HBU.out)
      have QK := Lib.hid (HKP.out.trans (kep_setCells g [.int .i64 (-77), .int .i64 0, .int .i64 0, .int .i64 0] a wr))
      generalize hW : World.setCells wr g a _ = W at QB QK ⊢
      clear hW
      go_wp2_with fail
      go_roundw
      case rel =>
        refine ⟨k + 1, by go_num, by omega, Lib.hid ⟨QK.out, _, QB.out, by rw [putA_size]; exact HSZ.out, fun j hj => ?_⟩⟩
        have := HAL.out
        rw [putA_other _ _ _ _ (by simp; omega)]
        exact HOT.out j hj
      case measure => simp [intOf]; omega
    · obtain rfl : k = n := by omega
      go_wp2_with fail
      go_end0
      exact ⟨rfl, hh.out⟩
theorem over_none (A : Option Addr) (c : Nat) (w : World) :
    Calls Try.prog 50 #[.slice A 0 c] w fun e w' => e = .returned (.tuple #[]) ∧ w = w' := by
  go_enter Try.func50, Try.ntmps50
  go_wp2_with fail
  go_loop [2] (fun i => i = .int .i64 0) (fun _ => 0)
  case atStart => rfl
  case round =>
    subst hrel
    go_wp2
    go_end0
    exact ⟨rfl, rfl⟩
/-- Where rows may be written over. -/
def Lay (w : World) (A : Option Addr) (n : Nat) : Prop := 0 < n → ∃ g o cur, A = some ⟨g, o, none⟩ ∧ Blk w g cur 24 ∧ o + n * 4 ≤ cur.size
/-- What is left when they are. -/
structure Ov (A : Option Addr) (n : Nat) (w w' : World) : Prop where
  kep : Kep (fun k => 0 < n ∧ ∃ x, A = some x ∧ x.block = k) w w'
  row : ∀ g o cur, 0 < n → A = some ⟨g, o, none⟩ → Blk w g cur 24 → ∃ cur', Blk w' g cur' 24 ∧ cur'.size = cur.size ∧ ∀ j, (j < o ∨ o + n * 4 ≤ j) → cur'[j]? = cur[j]?
theorem over_any (A : Option Addr) (n c : Nat) (w : World) (h : Lay w A n) (hn : n ≤ 1000000000) :
    Calls Try.prog 50 #[.slice A n c] w fun e w' => e = .returned (.tuple #[]) ∧ Ov A n w w' := by
  by_cases h0 : 0 < n
  · obtain ⟨g, o, cur, rfl, hb, hl⟩ := h h0
    refine (over g o n c cur w hb hl hn).mono fun e w' h => ⟨h.1, h.2.1.mono fun k _ e => ⟨h0, _, rfl, e.symm⟩, fun g' o' cur' _ e hb' => ?_⟩
    injection e with e
    injection e with e1 e2
    subst e1 e2
    have : cur = cur' := by
      have := Option.some.inj ((show w.heap[g]? = _ from hb).symm.trans hb')
      injection this
    subst this
    exact h.2.2
  · obtain rfl : n = 0 := by omega
    refine (over_none A c w).mono fun e w' h => ⟨h.1, by rw [h.2]; exact Kep.refl _ _, fun g o cur h0 => absurd h0 (by omega)⟩
theorem Lay.bel {w w' : World} {A : Option Addr} {n : Nat} (h : Lay w A n) (hb : Bel w w') : Lay w' A n := fun h0 => by
  obtain ⟨g, o, cur, e, h1, h2⟩ := h h0
  exact ⟨g, o, cur, e, h1.bel hb, h2⟩
theorem Lay.kep {w w' : World} {A : Option Addr} {n : Nat} {S : Nat → Prop} (h : Lay w A n) (hb : Kep S w w') (hs : ∀ x, A = some x → ¬ S x.block) : Lay w' A n := fun h0 => by
  obtain ⟨g, o, cur, e, h1, h2⟩ := h h0
  exact ⟨g, o, cur, e, h1.kep hb (hs _ e), h2⟩
theorem lay_own {w : World} {base : Nat} {A : Option Addr} {n c : Nat} {l : List R4} (h : OwnH w base (.slice A n c) l) : Lay w A n := fun h0 => by
  rcases h.2 with ⟨e, _⟩ | ⟨g, cap, cur, e, _, hg, hl, _, hcs, _⟩
  · injection e with e1 e2 e3
    omega
  · injection e with e1 e2 e3
    subst e2
    exact ⟨g, 0, cur, e1, hg, by rw [Nat.zero_add, hcs]; exact Nat.mul_le_mul_right _ hl⟩
set_option maxHeartbeats 1000000 in
theorem told (A B : Option Addr) (n c m d : Nat) (l1 l2 : List R4) (w : World) (ha : Rw.RS hR w A n c l1) (hb : Rw.RS hR w B m d l2) (hl : Lay w A n) (hn : n ≤ 1000000000) (hm : m ≤ 1000000000) :
    Calls Try.prog 21 #[.slice A n c, .slice B m d] w fun e w' => e = .returned (.bool (decide (l1 = l2))) ∧ ∃ W, Bel w W ∧ Ov A n W w' := by
  have SM := Lib.hid (same_hops A B n c m d l1 l2 w ha hb hn hm)
  have HL := Lib.hid hl
  clear ha hb hl
  obtain ⟨y, hy⟩ : ∃ y, decide (l1 = l2) = y := ⟨_, rfl⟩
  rw [hy] at SM ⊢
  clear hy
  go_enter Try.func21, Try.ntmps21
  go_wp2_with fail
  refine SM.out.mono ?_
  rintro e w1 ⟨rfl, kb⟩
  have KB := Lib.hid kb
  have OV := Lib.hid (over_any A n c w1 (HL.out.bel kb) hn)
  clear kb SM
  go_wp2_with fail
  refine OV.out.mono ?_
  rintro e w2 ⟨rfl, ko⟩
  have KO := Lib.hid ko
  clear ko OV
  go_wp2_with fail
  go_ret
  exact ⟨rfl, w1, KB.out, KO.out⟩
set_option maxHeartbeats 1000000 in
theorem isHop (x1 x2 x3 x4 : Int) (w : World) :
    Calls Try.prog 46 #[.agg #[.int .i64 x1, .int .i64 x2, .int .i64 x3, .int .i64 x4]] w fun e w' => e = .returned (.bool (may (x1, x2, x3, x4))) ∧ Bel w w' := by
  have P0 := Lib.hid (Blk.new w #[.int .i64 x1, .int .i64 x2, .int .i64 x3, .int .i64 x4] 24)
  obtain ⟨W, hW⟩ : ∃ W, w.alloc (.cells #[.int .i64 x1, .int .i64 x2, .int .i64 x3, .int .i64 x4] 24) = W := ⟨_, rfl⟩
  have BW := Lib.hid (show Bel w W by rw [← hW]; exact (Bel.refl w).alloc _)
  rw [hW] at P0
  have P1 := Lib.hid (Blk.new W #[.int .i64 x1, .int .i64 x2, .int .i64 x3, .int .i64 x4] 24)
  obtain ⟨V, hV⟩ : ∃ W', W.alloc (.cells #[.int .i64 x1, .int .i64 x2, .int .i64 x3, .int .i64 x4] 24) = W' := ⟨_, rfl⟩
  have BV := Lib.hid (show Bel w V by rw [← hV]; exact BW.out.alloc _)
  rw [hV] at P1
  have CK := Lib.hid (check (some ⟨W.heap.size, 0, none⟩) 1 1 [(x1, x2, x3, x4)] V (Rw.rs_one hR (r := (x1, x2, x3, x4)) P1.out) (by decide))
  have hm : (chk [(x1, x2, x3, x4)]).1 = 0 ↔ may (x1, x2, x3, x4) = true := chk_one _
  obtain ⟨e1, he1⟩ : ∃ e, (chk [(x1, x2, x3, x4)]).1 = e := ⟨_, rfl⟩
  obtain ⟨e2, he2⟩ : ∃ e, (chk [(x1, x2, x3, x4)]).2 = e := ⟨_, rfl⟩
  rw [he1, he2] at CK
  rw [he1] at hm
  clear he1 he2
  have c0 := P0.out.cell 0 rfl
  have c1 := P0.out.cell 1 rfl
  have c2 := P0.out.cell 2 rfl
  have c3 := P0.out.cell 3 rfl
  by_cases h0 : e1 = 0
  · subst h0
    rw [hm.1 rfl]
    clear hm
    go_enter Try.func46, Try.ntmps46
    go_wp2_with fail
    refine CK.out.mono ?_
    rintro e w2 ⟨rfl, kb⟩
    have KB := Lib.hid (BV.out.trans kb)
    clear kb CK
    go_wp2_with fail
    go_ret
    exact ⟨rfl, KB.out⟩
  · have hf : may (x1, x2, x3, x4) = false := by
      cases h : may (x1, x2, x3, x4)
      · rfl
      · exact absurd (hm.2 h) h0
    have hne : (e1 == 0) = false := beq_eq_false_iff_ne.2 h0
    rw [hf]
    clear hm hf h0
    go_enter Try.func46, Try.ntmps46
    go_wp2_with fail
    refine CK.out.mono ?_
    rintro e w2 ⟨rfl, kb⟩
    have KB := Lib.hid (BV.out.trans kb)
    clear kb CK
    go_wp2_with fail
    go_ret
    exact ⟨rfl, KB.out⟩
end Hp
end Go.Proofs.Ytahhnfnonekbmaa
