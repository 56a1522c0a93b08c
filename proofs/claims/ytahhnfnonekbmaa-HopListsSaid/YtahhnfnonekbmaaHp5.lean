/-
  What hop.counts and hop.Count answer of any list of hops. Conditions: at most a billion hops; the numbers are ints.
-/
import Derived.Test.YtahhnfnonekbmaaHp4
import Derived.Test.YtahhnfnonekbmaaMs
import Derived.Test.YtahhnfnonekbmaaStill
namespace Go.Proofs.Ytahhnfnonekbmaa
open Go.RowKit Go.Shelf
set_option linter.unusedVariables false
set_option linter.unusedSimpArgs false
namespace Hp
open Kk Pm Go.Maps Go.WideElems Go.WideMaps

def I64 (x : Int) : Prop := -9223372036854775808 ≤ x ∧ x ≤ 9223372036854775807
def W3 : R4 → Prop
  | (a, b, c, _) => I64 a ∧ I64 b ∧ I64 c
set_option maxRecDepth 100000 in
theorem laidOut : laidOutB Try.prog = true := by kernel_rfl
theorem underW : (match Try.prog.underlying 68 with | some (.array _ _) | some (.struct _) => true | _ => false) = true := by kernel_rfl
set_option maxRecDepth 100000 in
theorem lawW : KeyLaw Try.prog 68 := deep_law_laid laidOut (m := 2) (by omega) (of_decide_eq_true (by kernel_rfl)) (by kernel_rfl) underW
theorem underM : Try.prog.underlying 65 = some (.map 68 3) := by kernel_rfl
theorem zeroI (w : World) : (zeroValue 3).run Try.prog w = .ok (.int .i64 0) w := by kernel_rfl
theorem underI : Try.prog.underlying 3 = some (.int .i64) := by kernel_rfl
def wayV (a b c : Int) : Value := .agg #[.int .i64 a, .int .i64 b, .int .i64 c]
theorem wf64 {a : Int} (h : I64 a) : (Lit.int .i64 a).wf = true := WalkArith.wf_i64 h
set_option maxRecDepth 100000 in
theorem key3 {a b c : Int} (ha : I64 a) (hb : I64 b) (hc : I64 c) : ∃ kl, keyOf Try.prog 68 (wayV a b c) = some kl := by
  have h1 : Try.prog.keyType 68 = true := by kernel_rfl
  have hz : Try.prog.cellsOf 68 = 3 := by kernel_rfl
  have hi : Try.prog.cellsOf 3 = 1 := by kernel_rfl
  have hi2 := underI
  have hpos : 0 < Try.prog.types.size := of_decide_eq_true (by kernel_rfl)
  obtain ⟨d, hd⟩ : ∃ d, Try.prog.types.size = d + 1 := ⟨Try.prog.types.size - 1, by omega⟩
  clear hpos
  have hu := Try.underlying68
  have hfm : (wayV a b c).formed Try.prog 68 = true := by simp [Value.formed, wayV, hu, hz]
  have hk : ∀ x, I64 x → Try.prog.keyLits (d + 1) 3 [.int .i64 x] = some [.int .i64 x] := fun x hx => by
    unfold Program.keyLits
    simp [hi2, wf64 hx]
  have hl : Try.prog.keyLits (d + 1 + 1) 68 [.int .i64 a, .int .i64 b, .int .i64 c] = some [.int .i64 a, .int .i64 b, .int .i64 c] := by
    unfold Program.keyLits
    rw [hu]
    simp [hz, hi, hk a ha, hk b hb, hk c hc]
  refine ⟨.string (keyBytes [.int .i64 a, .int .i64 b, .int .i64 c]), ?_⟩
  unfold keyOf
  rw [hu]
  simp only [h1, hfm, Bool.and_self, if_true, hd]
  show Option.map _ (Try.prog.keyLits (d + 1 + 1) 68 [.int .i64 a, .int .i64 b, .int .i64 c]) = _
  rw [hl]
  rfl
/-- A map that counts ways. -/
def Mp (w : World) (b n : Nat) (f : Int → Int → Int → Nat) : Prop :=
  ∃ D : DataW Unit, w.ownsMap Try.prog 68 (plainElem Try.prog 3) b n D ∧ IsMap D ∧ ∀ o s d kl, keyOf Try.prog 68 (wayV o s d) = some kl → D.atKey kl (.lit (.int .i64 0)) = .lit (.int .i64 (f o s d))
theorem mp_made (w : World) : Mp (w.alloc (.map #[] 0)) w.heap.size 0 (fun _ _ _ => 0) :=
  ⟨.map [], World.ownsMap_made _ _ _ _, isMap_empty, fun o s d kl _ => rfl⟩
set_option maxRecDepth 100000 in
theorem mp_look {w : World} {b n : Nat} {f : Int → Int → Int → Nat} (h : Mp w b n f) {o s d : Int} (ho : I64 o) (hs : I64 s) (hd : I64 d) : (Instr.lookup 65 (.map (some b)) (wayV o s d) false).run Try.prog w = .ok (.int .i64 (f o s d)) w := by
  obtain ⟨D, h1, _, h2⟩ := h
  obtain ⟨kl, hk⟩ := key3 ho hs hd
  obtain ⟨c, h3, h4, _⟩ := h1.lookup_int (Keyed.of_law lawW) underM underI (zeroI w) hk
  rw [h2 o s d kl hk] at h4
  injection h4 with h4
  injection h4 with _ h4
  rw [h3, ← h4]
theorem mp_kept {w w' : World} {b n : Nat} {f : Int → Int → Int → Nat} (h : Mp w b n f) (hb : Bel w w') : Mp w' b n f := by
  obtain ⟨D, h1, h2⟩ := h
  exact ⟨D, h1.kept (row := none) ⟨hb.os, hb.tape, hb.output, hb.size, fun k hk _ => hb.block k hk⟩ (by simp), h2⟩
set_option maxRecDepth 100000 in
theorem mp_entry {w : World} {b n : Nat} {f : Int → Int → Int → Nat} (h : Mp w b n f) (hn : n < 1000000001) {o s d : Int} (ho : I64 o) (hs : I64 s) (hd : I64 d) (hf : f o s d ≤ 1000000000) :
    ∃ (v0 : Value) (st : Int) (W1 : World), (Instr.mapEntry 65 (.map (some b)) (wayV o s d)).run Try.prog w = .ok (.tuple #[v0, .int .i64 st]) W1 ∧ w.grownBy W1 (some b) ∧ Mp W1 b (n + 1) f ∧
      ∃ W2, (Instr.entryStore 65 (.map (some b)) (.int .i64 st) (.int .i64 (((f o s d : Nat) : Int) + 1))).run Try.prog W1 = .ok () W2 ∧ w.grownBy W2 (some b) ∧ Mp W2 b (n + 1) (fun o' s' d' => if o' = o ∧ s' = s ∧ d' = d then f o s d + 1 else f o' s' d') := by
  obtain ⟨D, h1, hm, h2⟩ := h
  obtain ⟨kl, hk⟩ := key3 ho hs hd
  obtain ⟨v0, st, W1, D1, h3, h4, ⟨q1, q2⟩, h5⟩ := Ms.own_entry h1 lawW underM zeroI (plainElem_int underI (WalkArith.wf_i64 (by omega))) (by unfold maxLen; omega) hk
  obtain ⟨W2, h6, h7, h8⟩ := h5 (.int .i64 (((f o s d : Nat) : Int) + 1)) _ _ (plainElem_int underI (WalkArith.wf_i64 (by omega)))
  refine ⟨v0, st, W1, h3, h4, ⟨D1, q1, q1.isMap, fun o' s' d' kl' hk' => by rw [q2]; exact h2 o' s' d' kl' hk'⟩, W2, h6, h8, _, h7, hm.put _ _, fun o' s' d' kl' hk' => ?_⟩
  show _ = DataW.lit (Lit.int .i64 (((if o' = o ∧ s' = s ∧ d' = d then f o s d + 1 else f o' s' d' : Nat)) : Int))
  by_cases he : o' = o ∧ s' = s ∧ d' = d
  · obtain ⟨rfl, rfl, rfl⟩ := he
    rw [if_pos ⟨rfl, rfl, rfl⟩]
    rw [hk] at hk'
    injection hk' with hk'
    subst hk'
    rw [atKey_put_same hm ((Keyed.of_law lawW).key hk)]
    push_cast
    rfl
  · rw [if_neg he, atKey_put_other, h2 o' s' d' kl' hk']
    intro e
    subst e
    have := lawW.inj hk hk'
    refine he ?_
    unfold wayV at this
    injection this with this
    have := congrArg Array.toList this
    simp at this
    exact ⟨this.1.symm, this.2.1.symm, this.2.2.symm⟩

set_option maxRecDepth 100000 in
set_option maxHeartbeats 4000000 in
theorem counts (A : Option Addr) (n c : Nat) (l : List R4) (w : World) (hi : Rw.RS hR w A n c l) (hn : n ≤ 1000000000) (h3 : ∀ r ∈ l, W3 r) :
    Calls Try.prog 45 #[.slice A n c] w fun e w' => ∃ m, e = .returned (.map (some m)) ∧ Mp w' m n (fun o s d => cnt l o s d) ∧ Bel w w' := by
  have HR := Lib.hid hi
  have H3 := Lib.hid h3
  have hmm := @run_makeMap Try.prog
  clear hi h3
  go_enter Try.func45, Try.ntmps45
  have HM := Lib.hid (mp_made w)
  have BM := Lib.hid ((Bel.refl w).alloc (.map #[] 0))
  obtain ⟨m, hm⟩ : ∃ m, w.heap.size = m := ⟨_, rfl⟩
  have HMS := Lib.hid hm
  rw [hm] at HM
  clear hm
  go_wp2_with fail
  try rw [HMS.out]
  go_loopw [9] (fun s9 wr => ∃ k : Nat, k ≤ n ∧ s9 = .int .i64 k ∧ Hid (Mp wr m k (fun o s d => cnt (l.take k) o s d)) ∧ Hid (Bel w wr)) (fun s9 _ => n - (intOf s9).toNat)
  case atStart => exact ⟨0, Nat.zero_le _, rfl, HM, BM⟩
  case round =>
    obtain ⟨k, hk, rfl, hmp, hh⟩ := hrel
    by_cases hlt : k < n
    · obtain ⟨⟨r1, r2, r3, r4⟩, hr⟩ := HR.out.get hlt
      obtain ⟨b, q, rfl, hb, hrow⟩ := (HR.out.bel hh.out).at hlt hr
      have HNX := Lib.hid (fun o s d => cnt_take hr o s d)
      obtain ⟨hw1, hw2, hw3⟩ := H3.out _ (List.mem_of_getElem? hr)
      have HW := Lib.hid (⟨hw1, hw2, hw3⟩ : I64 r1 ∧ I64 r2 ∧ I64 r3)
      have hlt3 : (k : Int) < n := by omega
      have hlt0 : (0 : Int) ≤ k := by omega
      obtain ⟨c0, c1, c2, c3⟩ := rng4 (show wr.rangeAt b (q + k * 4) [.int .i64 r1, .int .i64 r2, .int .i64 r3, .int .i64 r4] from hrow)
      have HCL := Lib.hid (show cnt (l.take k) r1 r2 r3 ≤ k from Nat.le_trans (cnt_le _ _ _ _) (by rw [List.length_take]; omega))
      clear hr hrow hw1 hw2 hw3
      go_upto_region 5 with fail
      have P0 := Lib.hid (Blk.new wr #[.int .i64 r1, .int .i64 r2, .int .i64 r3, .int .i64 r4] 24)
      obtain ⟨V, hV⟩ : ∃ V, wr.alloc (.cells #[.int .i64 r1, .int .i64 r2, .int .i64 r3, .int .i64 r4] 24) = V := ⟨_, rfl⟩
      have BV := Lib.hid (show Bel w V by rw [← hV]; exact hh.out.alloc _)
      have MV := Lib.hid (show Mp V m k _ by rw [← hV]; exact mp_kept hmp.out ((Bel.refl _).alloc _))
      rw [hV] at P0 ⊢
      obtain ⟨g, hg⟩ : ∃ g, wr.heap.size = g := ⟨_, rfl⟩
      have HGM := Lib.hid (show g ≠ m from fun e => by
        obtain ⟨D, h1, _⟩ := hmp.out
        have := h1.lt
        omega)
      rw [hg] at P0 ⊢
      clear hV hg c0 c1 c2 c3 hmp
      refine wp_region_held_drew (S := fun Vx => Kep (fun i => i = m) V Vx) (by kernel_rfl) (Kep.drew (Kep.refl _ _)) (fun hS0 => ?_)
      have MW := Lib.hid (mp_kept MV.out ((Bel.refl V).drew))
      obtain ⟨w7, hw7⟩ : ∃ w7, World.drew V = w7 := ⟨_, rfl⟩
      rw [hw7] at hS0 MW ⊢
      clear hw7 MV
      have hLK := mp_look MW.out HW.out.1 HW.out.2.1 HW.out.2.2
      obtain ⟨v0, st, W1, hME, hg1, hM1, W2, hES, hg2, hM2⟩ := mp_entry MW.out (by omega) HW.out.1 HW.out.2.1 HW.out.2.2 (by have := HCL.out; omega)
      have hLK1 := mp_look hM1 HW.out.1 HW.out.2.1 HW.out.2.2
      obtain ⟨C, hC⟩ : ∃ C, cnt (l.take k) r1 r2 r3 = C := ⟨_, rfl⟩
      rw [hC] at hLK hLK1 hES HCL
      have HCC := Lib.hid hC
      have HM2 := Lib.hid hM2
      have HG1 := Lib.hid hg1
      have HG2 := Lib.hid hg2
      have hwr : IntKind.i64.wrap ((C : Int) + 1) = (C : Int) + 1 := IntWalk.i64_in _ (by have := HCL.out; omega)
      unfold wayV at hLK hLK1 hME
      clear hC hM1 hM2 hg1 hg2
      refine wpAnyH_take (i := 0) (oi := { dst := some 13, op := .move (.tmp 3), type := 65, pos := "hop.go:20", after := #[], guard := none }) (v := .map (some m)) rfl (by kernel_rfl) (by kernel_rfl) (by kernel_rfl) (fun _ _ _ h => h) (Or.inl ⟨by rfl, by intro w hSw; clear hSw; go_simp⟩) hS0 ?_
      try simp only [Act.put, List.setIfInBounds_toArray, List.set_cons_zero, List.set_cons_succ]
      refine wpAnyH_take (i := 1) (oi := { dst := some 14, op := .fieldAddr 24 (.tmp 5) 0, type := 0, pos := "hop.go:20", after := #[], guard := none }) (v := .pointer (some ⟨g, 0, none⟩)) rfl (by kernel_rfl) (by kernel_rfl) (by kernel_rfl) (fun _ _ _ h => h) (Or.inl ⟨by rfl, by intro w hSw; clear hSw; go_simp⟩) hS0 ?_
      try simp only [Act.put, List.setIfInBounds_toArray, List.set_cons_zero, List.set_cons_succ]
      refine wpAnyH_take (i := 2) (oi := { dst := some 15, op := .load 3 (.tmp 14), type := 3, pos := "hop.go:20", after := #[{ on := 1, ground := .data }], guard := none }) (v := .int .i64 r1) rfl (by kernel_rfl) (by kernel_rfl) (by kernel_rfl) (fun _ _ _ h => h) (Or.inl ⟨by rfl, by intro w h; have hcell := ((P0.out.kep h HGM.out).cell 0 rfl); clear h; go_simp⟩) hS0 ?_
      try simp only [Act.put, List.setIfInBounds_toArray, List.set_cons_zero, List.set_cons_succ]
      refine wpAnyH_take (i := 3) (oi := { dst := some 16, op := .fieldAddr 24 (.tmp 5) 1, type := 0, pos := "hop.go:20", after := #[], guard := none }) (v := .pointer (some ⟨g, 1, none⟩)) rfl (by kernel_rfl) (by kernel_rfl) (by kernel_rfl) (fun _ _ _ h => h) (Or.inl ⟨by rfl, by intro w hSw; clear hSw; go_simp⟩) hS0 ?_
      try simp only [Act.put, List.setIfInBounds_toArray, List.set_cons_zero, List.set_cons_succ]
      refine wpAnyH_take (i := 4) (oi := { dst := some 17, op := .load 3 (.tmp 16), type := 3, pos := "hop.go:20", after := #[{ on := 3, ground := .data }], guard := none }) (v := .int .i64 r2) rfl (by kernel_rfl) (by kernel_rfl) (by kernel_rfl) (fun _ _ _ h => h) (Or.inl ⟨by rfl, by intro w h; have hcell := ((P0.out.kep h HGM.out).cell 1 rfl); clear h; go_simp⟩) hS0 ?_
      try simp only [Act.put, List.setIfInBounds_toArray, List.set_cons_zero, List.set_cons_succ]
      refine wpAnyH_take (i := 5) (oi := { dst := some 18, op := .fieldAddr 24 (.tmp 5) 2, type := 0, pos := "hop.go:20", after := #[], guard := none }) (v := .pointer (some ⟨g, 2, none⟩)) rfl (by kernel_rfl) (by kernel_rfl) (by kernel_rfl) (fun _ _ _ h => h) (Or.inl ⟨by rfl, by intro w hSw; clear hSw; go_simp⟩) hS0 ?_
      try simp only [Act.put, List.setIfInBounds_toArray, List.set_cons_zero, List.set_cons_succ]
      refine wpAnyH_take (i := 6) (oi := { dst := some 19, op := .load 3 (.tmp 18), type := 3, pos := "hop.go:20", after := #[{ on := 5, ground := .data }], guard := none }) (v := .int .i64 r3) rfl (by kernel_rfl) (by kernel_rfl) (by kernel_rfl) (fun _ _ _ h => h) (Or.inl ⟨by rfl, by intro w h; have hcell := ((P0.out.kep h HGM.out).cell 2 rfl); clear h; go_simp⟩) hS0 ?_
      try simp only [Act.put, List.setIfInBounds_toArray, List.set_cons_zero, List.set_cons_succ]
      refine wpAnyH_take (i := 7) (oi := { dst := some 20, op := .build 68 #[(0, .tmp 15), (1, .tmp 17), (2, .tmp 19)], type := 68, pos := "hop.go:20", after := #[{ on := 2, ground := .data }, { on := 4, ground := .data }, { on := 6, ground := .data }], guard := none }) (v := .agg #[.int .i64 r1, .int .i64 r2, .int .i64 r3]) rfl (by kernel_rfl) (by kernel_rfl) (by kernel_rfl) (fun _ _ _ h => h) (Or.inl ⟨by rfl, by intro w hSw; clear hSw; go_simp⟩) hS0 ?_
      try simp only [Act.put, List.setIfInBounds_toArray, List.set_cons_zero, List.set_cons_succ]
      refine wpAnyH_ready (rs := [8, 10]) (by kernel_rfl) (by simp) ?_
      refine AllReadyH.cons (o := { dst := some 21, op := Op.lookup 65 (.tmp 13) (.tmp 20) false, type := 3, pos := "hop.go:20", after := #[{ on := 0, ground := .data }, { on := 7, ground := .data }], guard := none }) rfl (fun K hK => ?_) (AllReadyH.cons (o := { dst := some 23, op := Op.mapEntry 65 (.tmp 13) (.tmp 20), type := 0, pos := "hop.go:20", after := #[{ on := 0, ground := .data }, { on := 7, ground := .data }, { on := 0, ground := .phase }, { on := 1, ground := .phase }, { on := 2, ground := .phase }, { on := 3, ground := .phase }, { on := 4, ground := .phase }, { on := 5, ground := .phase }, { on := 6, ground := .phase }, { on := 7, ground := .phase }, { on := 8, ground := .textOnly .mapOpAssignEntry }, { on := 9, ground := .textOnly .mapOpAssignEntry }], guard := none }) rfl (fun K hK => ?_) AllReadyH.nil)
      · go_simp
        refine hK.out _ _ (hS0) (fun hS1 => ?_)
        clear hK K
        try simp only [Act.put, List.setIfInBounds_toArray, List.set_cons_zero, List.set_cons_succ]
        refine wpAnyH_take (i := 9) (oi := { dst := some 22, op := .binOp .add 3 (.tmp 21) (.const (Value.int IntKind.i64 1)) 3, type := 3, pos := "hop.go:20", after := #[{ on := 8, ground := .data }], guard := none }) (v := .int .i64 (C + 1)) rfl (by kernel_rfl) (by kernel_rfl) (by kernel_rfl) (fun _ _ _ h => h) (Or.inl ⟨by rfl, by intro w hSw; clear hSw; go_simp⟩) hS1 ?_
        try simp only [Act.put, List.setIfInBounds_toArray, List.set_cons_zero, List.set_cons_succ]
        refine wpAnyH_ready (rs := [10]) (by kernel_rfl) (by simp) ?_
        refine AllReadyH.cons (o := { dst := some 23, op := Op.mapEntry 65 (.tmp 13) (.tmp 20), type := 0, pos := "hop.go:20", after := #[{ on := 0, ground := .data }, { on := 7, ground := .data }, { on := 0, ground := .phase }, { on := 1, ground := .phase }, { on := 2, ground := .phase }, { on := 3, ground := .phase }, { on := 4, ground := .phase }, { on := 5, ground := .phase }, { on := 6, ground := .phase }, { on := 7, ground := .phase }, { on := 8, ground := .textOnly .mapOpAssignEntry }, { on := 9, ground := .textOnly .mapOpAssignEntry }], guard := none }) rfl (fun K hK => ?_) AllReadyH.nil
        go_simp
        refine hK.out _ _ (hS0.trans (Ms.kep_grown HG1.out)) (fun hS2 => ?_)
        clear hK K
        try simp only [Act.put, List.setIfInBounds_toArray, List.set_cons_zero, List.set_cons_succ]
        refine wpAnyH_take (i := 11) (oi := { dst := some 24, op := .extract (.tmp 23) 1, type := 3, pos := "hop.go:20", after := #[{ on := 10, ground := .data }], guard := none }) (v := .int .i64 st) rfl (by kernel_rfl) (by kernel_rfl) (by kernel_rfl) (fun _ _ _ h => h) (Or.inl ⟨by rfl, by intro w hSw; clear hSw; go_simp⟩) hS2 ?_
        try simp only [Act.put, List.setIfInBounds_toArray, List.set_cons_zero, List.set_cons_succ]
        refine wpAnyH_ready (rs := [12]) (by kernel_rfl) (by simp) ?_
        refine AllReadyH.cons (o := { dst := none, op := Op.entryStore 65 (.tmp 13) (.tmp 24) (.tmp 22), type := 0, pos := "hop.go:20", after := #[{ on := 0, ground := .data }, { on := 11, ground := .data }, { on := 9, ground := .data }, { on := 10, ground := .chain }, { on := 0, ground := .phase }, { on := 1, ground := .phase }, { on := 2, ground := .phase }, { on := 3, ground := .phase }, { on := 4, ground := .phase }, { on := 5, ground := .phase }, { on := 6, ground := .phase }, { on := 7, ground := .phase }, { on := 8, ground := .phase }, { on := 9, ground := .phase }, { on := 10, ground := .phase }, { on := 11, ground := .phase }], guard := none }) rfl (fun K hK => ?_) AllReadyH.nil
        go_simp
        refine hK.out _ _ (hS0.trans (Ms.kep_grown HG2.out)) (fun hS3 => ?_)
        clear hK K
        try simp only [Act.put, List.setIfInBounds_toArray, List.set_cons_zero, List.set_cons_succ]
        refine wpAnyH_done (by kernel_rfl) ?_ _
        have HB2 := Lib.hid (show Bel w W2 from Kep.bel BV.out (hS0.trans (Ms.kep_grown HG2.out)) (fun i hi => by rw [hi, ← HMS.out]; exact Nat.le_refl _))
        have HMF := Lib.hid (show Mp W2 m (k + 1) (fun o s d => cnt (l.take (k + 1)) o s d) from by
          have h := HM2.out
          rw [show (fun o s d => cnt (l.take (k + 1)) o s d) = (fun o' s' d' => if o' = r1 ∧ s' = r2 ∧ d' = r3 then cnt (l.take k) r1 r2 r3 + 1 else cnt (l.take k) o' s' d') from funext fun o => funext fun s => funext fun d => ?_]
          · exact h
          · rw [HNX.out]
            by_cases he : o = r1 ∧ s = r2 ∧ d = r3
            · obtain ⟨rfl, rfl, rfl⟩ := he
              rw [if_pos (show goes o s d (o, s, d, r4) = true by simp [goes]), if_pos ⟨rfl, rfl, rfl⟩]
            · rw [if_neg (show ¬ goes o s d (r1, r2, r3, r4) = true by simp [goes]; intro h1 h2 h3; exact he ⟨h1.symm, h2.symm, h3.symm⟩), if_neg he, Nat.add_zero])
        clear hLK hLK1 hME hES hwr
        go_wp2_with fail
        go_roundw
        case rel => exact ⟨k + 1, by omega, by go_num, HMF, HB2⟩
        case measure => simp [intOf]; omega
      · go_simp
        refine hK.out _ _ (hS0.trans (Ms.kep_grown HG1.out)) (fun hS1 => ?_)
        clear hK K
        try simp only [Act.put, List.setIfInBounds_toArray, List.set_cons_zero, List.set_cons_succ]
        refine wpAnyH_take (i := 11) (oi := { dst := some 24, op := .extract (.tmp 23) 1, type := 3, pos := "hop.go:20", after := #[{ on := 10, ground := .data }], guard := none }) (v := .int .i64 st) rfl (by kernel_rfl) (by kernel_rfl) (by kernel_rfl) (fun _ _ _ h => h) (Or.inl ⟨by rfl, by intro w hSw; clear hSw; go_simp⟩) hS1 ?_
        try simp only [Act.put, List.setIfInBounds_toArray, List.set_cons_zero, List.set_cons_succ]
        refine wpAnyH_ready (rs := [8]) (by kernel_rfl) (by simp) ?_
        refine AllReadyH.cons (o := { dst := some 21, op := Op.lookup 65 (.tmp 13) (.tmp 20) false, type := 3, pos := "hop.go:20", after := #[{ on := 0, ground := .data }, { on := 7, ground := .data }], guard := none }) rfl (fun K hK => ?_) AllReadyH.nil
        go_simp
        refine hK.out _ _ (hS1) (fun hS2 => ?_)
        clear hK K
        try simp only [Act.put, List.setIfInBounds_toArray, List.set_cons_zero, List.set_cons_succ]
        refine wpAnyH_take (i := 9) (oi := { dst := some 22, op := .binOp .add 3 (.tmp 21) (.const (Value.int IntKind.i64 1)) 3, type := 3, pos := "hop.go:20", after := #[{ on := 8, ground := .data }], guard := none }) (v := .int .i64 (C + 1)) rfl (by kernel_rfl) (by kernel_rfl) (by kernel_rfl) (fun _ _ _ h => h) (Or.inl ⟨by rfl, by intro w hSw; clear hSw; go_simp⟩) hS2 ?_
        try simp only [Act.put, List.setIfInBounds_toArray, List.set_cons_zero, List.set_cons_succ]
        refine wpAnyH_ready (rs := [12]) (by kernel_rfl) (by simp) ?_
        refine AllReadyH.cons (o := { dst := none, op := Op.entryStore 65 (.tmp 13) (.tmp 24) (.tmp 22), type := 0, pos := "hop.go:20", after := #[{ on := 0, ground := .data }, { on := 11, ground := .data }, { on := 9, ground := .data }, { on := 10, ground := .chain }, { on := 0, ground := .phase }, { on := 1, ground := .phase }, { on := 2, ground := .phase }, { on := 3, ground := .phase }, { on := 4, ground := .phase }, { on := 5, ground := .phase }, { on := 6, ground := .phase }, { on := 7, ground := .phase }, { on := 8, ground := .phase }, { on := 9, ground := .phase }, { on := 10, ground := .phase }, { on := 11, ground := .phase }], guard := none }) rfl (fun K hK => ?_) AllReadyH.nil
        go_simp
        refine hK.out _ _ (hS0.trans (Ms.kep_grown HG2.out)) (fun hS3 => ?_)
        clear hK K
        try simp only [Act.put, List.setIfInBounds_toArray, List.set_cons_zero, List.set_cons_succ]
        refine wpAnyH_done (by kernel_rfl) ?_ _
        have HB2 := Lib.hid (show Bel w W2 from Kep.bel BV.out (hS0.trans (Ms.kep_grown HG2.out)) (fun i hi => by rw [hi, ← HMS.out]; exact Nat.le_refl _))
        have HMF := Lib.hid (show Mp W2 m (k + 1) (fun o s d => cnt (l.take (k + 1)) o s d) from by
          have h := HM2.out
          rw [show (fun o s d => cnt (l.take (k + 1)) o s d) = (fun o' s' d' => if o' = r1 ∧ s' = r2 ∧ d' = r3 then cnt (l.take k) r1 r2 r3 + 1 else cnt (l.take k) o' s' d') from funext fun o => funext fun s => funext fun d => ?_]
          · exact h
          · rw [HNX.out]
            by_cases he : o = r1 ∧ s = r2 ∧ d = r3
            · obtain ⟨rfl, rfl, rfl⟩ := he
              rw [if_pos (show goes o s d (o, s, d, r4) = true by simp [goes]), if_pos ⟨rfl, rfl, rfl⟩]
            · rw [if_neg (show ¬ goes o s d (r1, r2, r3, r4) = true by simp [goes]; intro h1 h2 h3; exact he ⟨h1.symm, h2.symm, h3.symm⟩), if_neg he, Nat.add_zero])
        clear hLK hLK1 hME hES hwr
        go_wp2_with fail
        go_roundw
        case rel => exact ⟨k + 1, by omega, by go_num, HMF, HB2⟩
        case measure => simp [intOf]; omega
    · obtain rfl : k = n := by omega
      have HL := Lib.hid (show l.take k = l from List.take_of_length_le (by rw [HR.out.len]; exact Nat.le_refl _))
      rw [HL.out] at hmp
      go_wp2_with fail
      go_ret
      exact ⟨m, rfl, hmp.out, hh.out⟩
set_option maxHeartbeats 1000000 in
theorem count (A : Option Addr) (n c : Nat) (l : List R4) (o s d : Int) (w : World) (hi : Rw.RS hR w A n c l) (hn : n ≤ 1000000000) (h3 : ∀ r ∈ l, W3 r) (ho : I64 o) (hs : I64 s) (hd : I64 d) :
    Calls Try.prog 15 #[.slice A n c, .int .i64 o, .int .i64 s, .int .i64 d] w fun e w' => e = .returned (.int .i64 (cnt l o s d)) ∧ Bel w w' := by
  have CN := Lib.hid (counts A n c l w hi hn h3)
  have HW := Lib.hid (⟨ho, hs, hd⟩ : I64 o ∧ I64 s ∧ I64 d)
  clear hi h3 ho hs hd
  go_enter Try.func15, Try.ntmps15
  go_wp2_with fail
  refine CN.out.mono ?_
  rintro e w1 ⟨m, rfl, hm, kb⟩
  have KB := Lib.hid kb
  have hLK := mp_look hm HW.out.1 HW.out.2.1 HW.out.2.2
  unfold wayV at hLK
  clear kb hm CN
  go_wp2_with fail
  go_ret
  exact ⟨rfl, KB.out⟩
end Hp
end Go.Proofs.Ytahhnfnonekbmaa
