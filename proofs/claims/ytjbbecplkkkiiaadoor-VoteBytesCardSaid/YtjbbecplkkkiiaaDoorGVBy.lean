/-
  The walk of the law VoteBytes: it returns true. Conditions: roots have 32 bytes, tags are below 2^64; the table of turns lies in its variable.
-/
import Derived.Test.YtjbbecplkkkiiaaDoorGX
import Derived.Test.YtjbbecplkkkiiaaDoorGY
import Derived.Test.YtjbbecplkkkiiaaDoorGVLift
namespace Go.Proofs.YtjbbecplkkkiiaaDoor
open Go.RowKit Go.Shelf
set_option linter.unusedVariables false
namespace Vt
open Kk

/-- The bytes that are told of parts: theirs, or none. -/
def outB (all : List (Int × List Int)) : List Int := if errOf all = 0 then bytesOf all else []
theorem EncR.row {all : List (Int × List Int)} {w w' : World} {u : Value} (h : EncR all w u w') : w'.ownsRow w.heap.size 5 1 u (outB all).length ((outB all).map (Value.int .u8)) := by
  unfold outB
  rcases h.2 with ⟨h1, rfl⟩ | ⟨h1, h2⟩
  · rw [if_neg h1]; exact World.ownsRow_nil _ _ _ _
  · rw [if_pos h1]; exact h2
theorem outB_len {all : List (Int × List Int)} (h : (bytesOf all).length ≤ 1048576) : (outB all).length ≤ 1048576 := by
  unfold outB
  split
  · exact h
  · simp
/-- A row of one's own, and when it is another one's. -/
theorem own_ne {w w2 : World} {b2 : Nat} {u v : Value} {n m : Nat} {xs ys : List Value} {b1 : Nat} (h : w.ownsRow b1 5 1 u n xs) (h2 : w2.ownsRow b2 5 1 v m ys) (hb : w.heap.size ≤ b2) : ∀ i, v.ownBlock = some i → u.ownBlock ≠ some i := by
  intro i hi e
  have := (h.lt i e).2
  have := (h2.lt i hi).1
  omega

set_option maxRecDepth 100000 in
set_option maxHeartbeats 16000000 in
theorem bytesLaw (v1 s1 t1 g1 : Int) (h1 : List Int) (v3 s3 g3 : Int) (h3 : List Int) (w : World) (f1 : attF v1 s1 t1 g1 h1) (f3 : propF v3 s3 g3 h3) (hT : Tn w) :
    Calls Tryd.prog 3 #[.agg (attC v1 s1 t1 h1 g1).toArray, .agg (propC v3 s3 h3 g3).toArray] w fun e w' => e = .returned (.bool true) ∧ Bel w w' := by
  have BY1 := Lib.hid (fun W => bytes v1 s1 t1 g1 h1 W f1.len f1.tag.1 f1.tag.2)
  have BY2 := Lib.hid (fun W => refBytes v1 s1 t1 g1 h1 W f1.len f1.tag.1 f1.tag.2)
  have BY3 := Lib.hid (fun W => bytesB v3 s3 g3 h3 W f3.len f3.tag.1 f3.tag.2)
  have BY4 := Lib.hid (fun W => refBytesB v3 s3 g3 h3 W f3.len f3.tag.1 f3.tag.2)
  have CK1 := Lib.hid (fun W => check v1 s1 t1 g1 h1 W f1.len)
  have CK2 := Lib.hid (fun W => refCheck v1 s1 t1 g1 h1 W f1.len)
  have CK3 := Lib.hid (fun W => checkBlock v3 s3 g3 h3 W f3.len)
  have CK4 := Lib.hid (fun W => refCheckB v3 s3 g3 h3 W f3.len)
  have DG1 := Lib.hid (fun W h => digestA v1 s1 t1 g1 h1 W f1.len f1.by_ h)
  have DG2 := Lib.hid (fun W => refDigest v1 s1 t1 g1 h1 W f1.len f1.by_)
  have DG3 := Lib.hid (fun W h => digestB v3 s3 g3 h3 W f3.len f3.by_ h)
  have DG4 := Lib.hid (fun W => refDigestB v3 s3 g3 h3 W f3.len f3.by_)
  have AW := Lib.hid (fun W => awake W)
  have LA := Lib.hid (outB_len (attI_len (v := v1) (s := s1) (t := t1) (tag := g1) f1.len))
  have LP := Lib.hid (outB_len (propI_len (v := v3) (s := s3) (tag := g3) f3.len))
  obtain ⟨CA, hCA⟩ : ∃ D, D = attC v1 s1 t1 h1 g1 := ⟨_, rfl⟩
  obtain ⟨CP, hCP⟩ : ∃ D, D = propC v3 s3 h3 g3 := ⟨_, rfl⟩
  have lA := Lib.hid (show CA.length = 36 by rw [hCA]; exact len_attC f1.len v1 s1 t1 g1)
  have lP := Lib.hid (show CP.length = 35 by rw [hCP]; exact len_propC f3.len v3 s3 g3)
  rw [← hCA] at BY1 BY2 CK1 CK2 DG1 DG2
  rw [← hCP] at BY3 BY4 CK3 CK4 DG3 DG4
  rw [← hCA, ← hCP]
  obtain ⟨al, hal⟩ : ∃ x, x = attI v1 s1 t1 h1 ++ tagI g1 := ⟨_, rfl⟩
  obtain ⟨pl, hpl⟩ : ∃ x, x = propI v3 s3 h3 ++ tagI g3 := ⟨_, rfl⟩
  obtain ⟨ad, had⟩ : ∃ x, x = attI v1 s1 t1 h1 := ⟨_, rfl⟩
  obtain ⟨pd, hpd⟩ : ∃ x, x = propI v3 s3 h3 := ⟨_, rfl⟩
  rw [← hal] at BY1 BY2 LA
  rw [← hpl] at BY3 BY4 LP
  rw [← had] at DG1 DG2
  rw [← hpd] at DG3 DG4
  obtain ⟨E1, hE1⟩ : ∃ x, x = errOf al := ⟨_, rfl⟩
  obtain ⟨E2, hE2⟩ : ∃ x, x = errOf pl := ⟨_, rfl⟩
  rw [← hE1] at BY1 BY2
  rw [← hE2] at BY3 BY4
  obtain ⟨F1, hF1⟩ : ∃ x, x = errOf ad := ⟨_, rfl⟩
  obtain ⟨F2, hF2⟩ : ∃ x, x = errOf pd := ⟨_, rfl⟩
  obtain ⟨Y1, hY1, n1, o1⟩ := hs_facts ad
  obtain ⟨Y2, hY2, n2, o2⟩ := hs_facts pd
  have EQ1 := Lib.hid (show ∀ W, (binOp .eql 23 (.agg Y1.toArray) (.agg Y1.toArray)).run Tryd.prog W = .ok (.bool true) W by
    intro W
    rw [← hY1, eql_hs _ _ (dgV_len ad) (dgV_len ad) W, beq_self_eq_true])
  have EQ2 := Lib.hid (show ∀ W, (binOp .eql 23 (.agg Y2.toArray) (.agg Y2.toArray)).run Tryd.prog W = .ok (.bool true) W by
    intro W
    rw [← hY2, eql_hs _ _ (dgV_len pd) (dgV_len pd) W, beq_self_eq_true])
  rw [hY1, ← hF1] at DG1 DG2
  rw [hY2, ← hF2] at DG3 DG4
  have s1' : Y1.toArray.size = 32 := by rw [List.size_toArray]; exact n1
  have s2' : Y2.toArray.size = 32 := by rw [List.size_toArray]; exact n2
  have O1 := Lib.hid (all_oneCell_toArray (cs := Y1) o1)
  have O2 := Lib.hid (all_oneCell_toArray (cs := Y2) o2)
  have I1 := Lib.hid (show (Tryd.prog.info? 23).map (·.size) = some Y1.toArray.size by rw [s1']; exact info_hash)
  have I2 := Lib.hid (show (Tryd.prog.info? 23).map (·.size) = some Y2.toArray.size by rw [s2']; exact info_hash)
  have J1 := Lib.hid (show (Tryd.prog.info? 23).map (·.size) = some Y1.length by rw [n1]; exact info_hash)
  have J2 := Lib.hid (show (Tryd.prog.info? 23).map (·.size) = some Y2.length by rw [n2]; exact info_hash)
  have N1 := Lib.hid n1
  have N2 := Lib.hid n2
  obtain ⟨c1, hc1⟩ : ∃ x, x = chkE v1 s1 t1 := ⟨_, rfl⟩
  obtain ⟨c2, hc2⟩ : ∃ x, x = chkBE v3 s3 := ⟨_, rfl⟩
  rw [← hc1] at CK1 CK2
  rw [← hc2] at CK3 CK4
  clear hCA hCP hal hpl had hpd hE1 hE2 hF1 hF2 hY1 hY2 s1' s2' o1 o2 n1 n2 hc1 hc2 f1 f3
  obtain ⟨bA, hbA⟩ : ∃ b, b = w.heap.size := ⟨_, rfl⟩
  obtain ⟨bP, hbP⟩ : ∃ b, b = w.heap.size + 1 := ⟨_, rfl⟩
  obtain ⟨W1, hW1⟩ : ∃ W, w.alloc (.cells CA.toArray 26) = W := ⟨_, rfl⟩
  obtain ⟨W, hW⟩ : ∃ W, W1.alloc (.cells CP.toArray 28) = W := ⟨_, rfl⟩
  have z1 : W1.heap.size = w.heap.size + 1 := by rw [← hW1]; simp
  have z2 : W.heap.size = w.heap.size + 2 := by rw [← hW]; simp; exact z1
  have k1 : Bel w W1 := by rw [← hW1]; exact (Bel.refl w).alloc _
  have k2 : Bel W1 W := by rw [← hW]; exact (Bel.refl W1).alloc _
  have m1 : Blk W bA CA.toArray 26 := by
    have hbk : Blk W1 bA CA.toArray 26 := by rw [← hW1, hbA]; exact Blk.new w _ _
    exact hbk.bel k2
  have m2 : Blk W bP CP.toArray 28 := by rw [← hW, hbP, ← z1]; exact Blk.new W1 _ _
  have RA := Lib.hid (show ∀ X, Bel W X → X.rangeAt bA 0 CA from fun X hX => range_blk (m1.bel hX))
  have RP := Lib.hid (show ∀ X, Bel W X → X.rangeAt bP 0 CP from fun X hX => range_blk (m2.bel hX))
  have B0 := Lib.hid (k1.trans k2)
  have HT := Lib.hid (show ∀ X, Bel W X → Tn X from fun X hX => (hT.bel (k1.trans k2)).bel hX)
  have HW1 := Lib.hid hW1
  have HW := Lib.hid hW
  have X1 := Lib.hid hbA
  have X2 := Lib.hid hbP
  have uA := Tryd.underlying26
  have uP := Tryd.underlying28
  have iA : (Tryd.prog.info? 26).map (·.size) = some CA.length := by rw [lA.out]; exact info_att
  have iP : (Tryd.prog.info? 28).map (·.size) = some CP.length := by rw [lP.out]; exact info_prop
  clear hbA hbP hW1 hW z1 z2 k1 k2 m1 m2 hT
  go_enter Tryd.func3, Tryd.ntmps3
  go_upto_region 1 with fail
  rw [← X2.out, ← X1.out, HW1.out, HW.out]
  have Rx := Lib.hid (RA.out W (Bel.refl W))
  go_wp2_with (refine wpList_load_mid rfl 26 (.tmp 2) rfl bA 0 rfl CA _ Rx.out uA rfl iA ?_)
  refine (BY1.out W).mono ?_
  rintro e w1 ⟨ux, rfl, rx⟩
  have Px := Lib.hid ((Bel.refl W).trans rx.1)
  have Ox := Lib.hid rx.row
  clear rx Rx
  have Ry := Lib.hid (RA.out w1 Px.out)
  go_wp2_with (refine wpList_load_mid rfl 26 (.tmp 2) rfl bA 0 rfl CA _ Ry.out uA rfl iA ?_)
  refine (BY2.out w1).mono ?_
  rintro e w2 ⟨uy, rfl, ry⟩
  have Py := Lib.hid (Px.out.trans ry.1)
  have Oxy := Lib.hid (owns_bel Ox.out ry.1)
  have Oy := Lib.hid ry.row
  clear ry Ry
  have Rz := Lib.hid (RP.out w2 Py.out)
  go_wp2_with (refine wpList_load_mid rfl 28 (.tmp 3) rfl bP 0 rfl CP _ Rz.out uP rfl iP ?_)
  refine (BY3.out w2).mono ?_
  rintro e w3 ⟨uz, rfl, rz⟩
  have Pz := Lib.hid (Py.out.trans rz.1)
  have Ox3 := Lib.hid (owns_bel Oxy.out rz.1)
  have Oy3 := Lib.hid (owns_bel Oy.out rz.1)
  have Oz := Lib.hid rz.row
  clear rz Rz
  have Rw := Lib.hid (RP.out w3 Pz.out)
  go_wp2_with (refine wpList_load_mid rfl 28 (.tmp 3) rfl bP 0 rfl CP _ Rw.out uP rfl iP ?_)
  refine (BY4.out w3).mono ?_
  rintro e w4 ⟨uw, rfl, rww⟩
  have Pw := Lib.hid (Pz.out.trans rww.1)
  have Ox4 := Lib.hid (owns_bel Ox3.out rww.1)
  have Oy4 := Lib.hid (owns_bel Oy3.out rww.1)
  have Oz4 := Lib.hid (owns_bel Oz.out rww.1)
  have Ow := Lib.hid rww.row
  clear rww Rw
  obtain ⟨nA, hnA⟩ : ∃ n, n = (outB al).length := ⟨_, rfl⟩
  obtain ⟨nP, hnP⟩ : ∃ n, n = (outB pl).length := ⟨_, rfl⟩
  rw [← hnA] at Ox Oy Ox4 Oy4 LA
  have hnA' := Lib.hid hnA
  rw [← hnP] at Oz Ow Oz4 LP
  have NXY := Lib.hid (own_ne Ox.out Oy.out (Nat.le_refl _))
  have NXZ := Lib.hid (own_ne Oxy.out Oz.out (Nat.le_refl _))
  have NYZ := Lib.hid (own_ne Oy.out Oz.out (Nat.le_refl _))
  have LX := Lib.hid (fun i h => (Ox.out.lt i h).1)
  have LZ := Lib.hid (show ∀ i, uz.ownBlock = some i → W.heap.size ≤ i from fun i h => Nat.le_trans (Below.size Py.out) (Oz.out.lt i h).1)
  obtain ⟨Ax, cx, rfl, ix, _, _⟩ := ints_of_own Ox4.out
  obtain ⟨Ay, cy, rfl, iy, _, _⟩ := ints_of_own Oy4.out
  obtain ⟨Az, cz, rfl, iz, _, _⟩ := ints_of_own Oz4.out
  obtain ⟨Aw, cw, rfl, iw, _, _⟩ := ints_of_own Ow.out
  obtain ⟨w5, hw5⟩ : ∃ w5, w5 = w4 := ⟨_, rfl⟩
  rw [← hw5] at ix iy iz iw Pw Ox4 Oy4 Oz4 ⊢
  have IX := Lib.hid ix
  have IY := Lib.hid iy
  have IZ := Lib.hid iz
  have IW := Lib.hid iw
  clear hw5 ix iy iz iw Ox Oy Oz Ow Oxy Ox3 Oy3 Px Py Pz hnA hnP
  have S0 : w5.rangeAt bA 0 CA ∧ w5.rangeAt bP 0 CP ∧ Bel w5 w5 := ⟨RA.out _ Pw.out, RP.out _ Pw.out, Bel.refl _⟩
  have KEEP := Lib.hid (show ∀ V V' : World, (V.rangeAt bA 0 CA ∧ V.rangeAt bP 0 CP ∧ Bel w5 V) → Bel V V' → (V'.rangeAt bA 0 CA ∧ V'.rangeAt bP 0 CP ∧ Bel w5 V') from
    fun V V' h hb => ⟨RA.out _ (Pw.out.trans (h.2.2.trans hb)), RP.out _ (Pw.out.trans (h.2.2.trans hb)), h.2.2.trans hb⟩)
  have S0d := KEEP.out _ _ S0 (Bel.refl w5).drew
  clear S0
  go_upto_region 5 with fail
  refine wp_region_held_drew (S := fun V => V.rangeAt bA 0 CA ∧ V.rangeAt bP 0 CP ∧ Bel w5 V) (by kernel_rfl) S0d (fun hS0 => ?_)
  obtain ⟨w6, hw6⟩ : ∃ w6, w5.drew = w6 := ⟨_, rfl⟩
  rw [hw6] at hS0 ⊢
  clear hw6 S0d
  refine wpAnyH_take (i := 0) (oi := { dst := some 44, op := .move (.tmp 5), type := 29, pos := "law.go:17", after := #[], guard := none }) (v := .slice Ax nA cx) rfl (by kernel_rfl) (by kernel_rfl) (by kernel_rfl) (fun _ _ _ h => h) (Or.inl ⟨by rfl, by intro w hSw; clear hSw; go_simp⟩) hS0 ?_
  try simp only [Act.put, List.setIfInBounds_toArray, List.set_cons_zero, List.set_cons_succ]
  refine wpAnyH_take (i := 1) (oi := { dst := some 45, op := .move (.tmp 7), type := 29, pos := "law.go:17", after := #[], guard := none }) (v := .slice Ay nA cy) rfl (by kernel_rfl) (by kernel_rfl) (by kernel_rfl) (fun _ _ _ h => h) (Or.inl ⟨by rfl, by intro w hSw; clear hSw; go_simp⟩) hS0 ?_
  try simp only [Act.put, List.setIfInBounds_toArray, List.set_cons_zero, List.set_cons_succ]
  refine wpAnyH_ready (rs := [2]) (by kernel_rfl) (by simp) ?_
  refine AllReadyH.cons (o := { dst := some 46, op := .call { callee := .value (.func 12), args := #[.tmp 44, .tmp 45], argTypes := #[29, 29] }, type := 4, pos := "law.go:17", after := #[{ on := 0, ground := .data }, { on := 1, ground := .data }], guard := none }) rfl (fun K hK => ?_) AllReadyH.nil
  go_simp
  refine (same Ax Ay nA cx nA cy _ _ (IX.out.bel hS0.2.2) (IY.out.bel hS0.2.2)).mono ?_
  rintro e v1 ⟨rfl, rfl⟩
  go_wp2_with fail
  refine hK.out _ _ (hS0) (fun hS1 => ?_)
  clear hK K
  try simp only [Act.put, List.setIfInBounds_toArray, List.set_cons_zero, List.set_cons_succ]
  refine wpAnyH_take (i := 3) (oi := { dst := some 47, op := .move (.tmp 46), type := 4, pos := "law.go:17", after := #[{ on := 2, ground := .data }, { on := 2, ground := .chain }], guard := none }) (v := .bool true) rfl (by kernel_rfl) (by kernel_rfl) (by kernel_rfl) (fun _ _ _ h => h) (Or.inl ⟨by rfl, by intro w hSw; clear hSw; go_simp⟩) hS1 ?_
  try simp only [Act.put, List.setIfInBounds_toArray, List.set_cons_zero, List.set_cons_succ]
  refine wpAnyH_take (i := 4) (oi := { dst := some 48, op := .move (.tmp 6), type := 30, pos := "law.go:17", after := #[{ on := 3, ground := .guard }], guard := some (3, true) }) (v := .int .i64 E1) rfl (by kernel_rfl) (by kernel_rfl) (by kernel_rfl) (fun _ _ _ h => h) (Or.inl ⟨by rfl, by intro w hSw; clear hSw; go_simp⟩) hS1 ?_
  try simp only [Act.put, List.setIfInBounds_toArray, List.set_cons_zero, List.set_cons_succ]
  refine wpAnyH_take (i := 5) (oi := { dst := some 49, op := .move (.tmp 8), type := 30, pos := "law.go:17", after := #[{ on := 3, ground := .guard }], guard := some (3, true) }) (v := .int .i64 E1) rfl (by kernel_rfl) (by kernel_rfl) (by kernel_rfl) (fun _ _ _ h => h) (Or.inl ⟨by rfl, by intro w hSw; clear hSw; go_simp⟩) hS1 ?_
  try simp only [Act.put, List.setIfInBounds_toArray, List.set_cons_zero, List.set_cons_succ]
  refine wpAnyH_take (i := 6) (oi := { dst := some 50, op := .binOp .eql 30 (.tmp 48) (.tmp 49) 30, type := 4, pos := "law.go:17", after := #[{ on := 4, ground := .data }, { on := 5, ground := .data }, { on := 3, ground := .guard }], guard := some (3, true) }) (v := .bool true) rfl (by kernel_rfl) (by kernel_rfl) (by kernel_rfl) (fun _ _ _ h => h) (Or.inl ⟨by rfl, by intro w hSw; clear hSw; go_simp⟩) hS1 ?_
  try simp only [Act.put, List.setIfInBounds_toArray, List.set_cons_zero, List.set_cons_succ]
  refine wpAnyH_take (i := 7) (oi := { dst := some 51, op := .pick (.tmp 47) (.tmp 50) (.const (Value.bool false)), type := 4, pos := "law.go:17", after := #[{ on := 3, ground := .data }, { on := 6, ground := .data }], guard := none }) (v := .bool true) rfl (by kernel_rfl) (by kernel_rfl) (by kernel_rfl) (fun _ _ _ h => h) (Or.inl ⟨by rfl, by intro w hSw; clear hSw; go_simp⟩) hS1 ?_
  try simp only [Act.put, List.setIfInBounds_toArray, List.set_cons_zero, List.set_cons_succ]
  refine wpAnyH_take (i := 8) (oi := { dst := some 52, op := .move (.tmp 51), type := 4, pos := "law.go:17", after := #[{ on := 7, ground := .data }, { on := 3, ground := .chain }], guard := none }) (v := .bool true) rfl (by kernel_rfl) (by kernel_rfl) (by kernel_rfl) (fun _ _ _ h => h) (Or.inl ⟨by rfl, by intro w hSw; clear hSw; go_simp⟩) hS1 ?_
  try simp only [Act.put, List.setIfInBounds_toArray, List.set_cons_zero, List.set_cons_succ]
  refine wpAnyH_take (i := 9) (oi := { dst := some 53, op := .move (.tmp 9), type := 29, pos := "law.go:17", after := #[{ on := 8, ground := .guard }], guard := some (8, true) }) (v := .slice Az nP cz) rfl (by kernel_rfl) (by kernel_rfl) (by kernel_rfl) (fun _ _ _ h => h) (Or.inl ⟨by rfl, by intro w hSw; clear hSw; go_simp⟩) hS1 ?_
  try simp only [Act.put, List.setIfInBounds_toArray, List.set_cons_zero, List.set_cons_succ]
  refine wpAnyH_take (i := 10) (oi := { dst := some 54, op := .move (.tmp 11), type := 29, pos := "law.go:17", after := #[{ on := 8, ground := .guard }], guard := some (8, true) }) (v := .slice Aw nP cw) rfl (by kernel_rfl) (by kernel_rfl) (by kernel_rfl) (fun _ _ _ h => h) (Or.inl ⟨by rfl, by intro w hSw; clear hSw; go_simp⟩) hS1 ?_
  try simp only [Act.put, List.setIfInBounds_toArray, List.set_cons_zero, List.set_cons_succ]
  refine wpAnyH_ready (rs := [11]) (by kernel_rfl) (by simp) ?_
  refine AllReadyH.cons (o := { dst := some 55, op := .call { callee := .value (.func 12), args := #[.tmp 53, .tmp 54], argTypes := #[29, 29] }, type := 4, pos := "law.go:17", after := #[{ on := 9, ground := .data }, { on := 10, ground := .data }, { on := 8, ground := .chain }, { on := 8, ground := .guard }], guard := some (8, true) }) rfl (fun K hK => ?_) AllReadyH.nil
  go_simp
  refine (same Az Aw nP cz nP cw _ _ (IZ.out.bel hS1.2.2) (IW.out.bel hS1.2.2)).mono ?_
  rintro e v2 ⟨rfl, rfl⟩
  go_wp2_with fail
  refine hK.out _ _ (hS1) (fun hS2 => ?_)
  clear hK K
  try simp only [Act.put, List.setIfInBounds_toArray, List.set_cons_zero, List.set_cons_succ]
  refine wpAnyH_take (i := 12) (oi := { dst := some 56, op := .pick (.tmp 52) (.tmp 55) (.const (Value.bool false)), type := 4, pos := "law.go:17", after := #[{ on := 8, ground := .data }, { on := 11, ground := .data }], guard := none }) (v := .bool true) rfl (by kernel_rfl) (by kernel_rfl) (by kernel_rfl) (fun _ _ _ h => h) (Or.inl ⟨by rfl, by intro w hSw; clear hSw; go_simp⟩) hS2 ?_
  try simp only [Act.put, List.setIfInBounds_toArray, List.set_cons_zero, List.set_cons_succ]
  refine wpAnyH_take (i := 13) (oi := { dst := some 57, op := .move (.tmp 56), type := 4, pos := "law.go:17", after := #[{ on := 12, ground := .data }, { on := 11, ground := .chain }], guard := none }) (v := .bool true) rfl (by kernel_rfl) (by kernel_rfl) (by kernel_rfl) (fun _ _ _ h => h) (Or.inl ⟨by rfl, by intro w hSw; clear hSw; go_simp⟩) hS2 ?_
  try simp only [Act.put, List.setIfInBounds_toArray, List.set_cons_zero, List.set_cons_succ]
  refine wpAnyH_take (i := 14) (oi := { dst := some 58, op := .move (.tmp 10), type := 30, pos := "law.go:17", after := #[{ on := 13, ground := .guard }], guard := some (13, true) }) (v := .int .i64 E2) rfl (by kernel_rfl) (by kernel_rfl) (by kernel_rfl) (fun _ _ _ h => h) (Or.inl ⟨by rfl, by intro w hSw; clear hSw; go_simp⟩) hS2 ?_
  try simp only [Act.put, List.setIfInBounds_toArray, List.set_cons_zero, List.set_cons_succ]
  refine wpAnyH_take (i := 15) (oi := { dst := some 59, op := .move (.tmp 12), type := 30, pos := "law.go:17", after := #[{ on := 13, ground := .guard }], guard := some (13, true) }) (v := .int .i64 E2) rfl (by kernel_rfl) (by kernel_rfl) (by kernel_rfl) (fun _ _ _ h => h) (Or.inl ⟨by rfl, by intro w hSw; clear hSw; go_simp⟩) hS2 ?_
  try simp only [Act.put, List.setIfInBounds_toArray, List.set_cons_zero, List.set_cons_succ]
  refine wpAnyH_take (i := 16) (oi := { dst := some 60, op := .binOp .eql 30 (.tmp 58) (.tmp 59) 30, type := 4, pos := "law.go:17", after := #[{ on := 14, ground := .data }, { on := 15, ground := .data }, { on := 13, ground := .guard }], guard := some (13, true) }) (v := .bool true) rfl (by kernel_rfl) (by kernel_rfl) (by kernel_rfl) (fun _ _ _ h => h) (Or.inl ⟨by rfl, by intro w hSw; clear hSw; go_simp⟩) hS2 ?_
  try simp only [Act.put, List.setIfInBounds_toArray, List.set_cons_zero, List.set_cons_succ]
  refine wpAnyH_take (i := 17) (oi := { dst := some 61, op := .pick (.tmp 57) (.tmp 60) (.const (Value.bool false)), type := 4, pos := "law.go:17", after := #[{ on := 13, ground := .data }, { on := 16, ground := .data }], guard := none }) (v := .bool true) rfl (by kernel_rfl) (by kernel_rfl) (by kernel_rfl) (fun _ _ _ h => h) (Or.inl ⟨by rfl, by intro w hSw; clear hSw; go_simp⟩) hS2 ?_
  try simp only [Act.put, List.setIfInBounds_toArray, List.set_cons_zero, List.set_cons_succ]
  refine wpAnyH_take (i := 18) (oi := { dst := some 62, op := .move (.tmp 61), type := 4, pos := "law.go:17", after := #[{ on := 17, ground := .data }, { on := 13, ground := .chain }], guard := none }) (v := .bool true) rfl (by kernel_rfl) (by kernel_rfl) (by kernel_rfl) (fun _ _ _ h => h) (Or.inl ⟨by rfl, by intro w hSw; clear hSw; go_simp⟩) hS2 ?_
  try simp only [Act.put, List.setIfInBounds_toArray, List.set_cons_zero, List.set_cons_succ]
  refine wpAnyH_take (i := 19) (oi := { dst := some 63, op := .load 26 (.tmp 2), type := 26, pos := "law.go:17", after := #[{ on := 18, ground := .guard }], guard := some (18, true) }) (v := .agg CA.toArray) rfl (by kernel_rfl) (by kernel_rfl) (by kernel_rfl) (fun _ _ _ h => h) (yieldsIf_load_mid (by rfl) _ _ rfl _ _ rfl _ _ (fun w h => h.1) uA rfl iA) hS2 ?_
  try simp only [Act.put, List.setIfInBounds_toArray, List.set_cons_zero, List.set_cons_succ]
  refine wpAnyH_take (i := 21) (oi := { dst := some 65, op := .load 26 (.tmp 2), type := 26, pos := "law.go:17", after := #[{ on := 18, ground := .guard }], guard := some (18, true) }) (v := .agg CA.toArray) rfl (by kernel_rfl) (by kernel_rfl) (by kernel_rfl) (fun _ _ _ h => h) (yieldsIf_load_mid (by rfl) _ _ rfl _ _ rfl _ _ (fun w h => h.1) uA rfl iA) hS2 ?_
  try simp only [Act.put, List.setIfInBounds_toArray, List.set_cons_zero, List.set_cons_succ]
  refine wpAnyH_ready (rs := [20]) (by kernel_rfl) (by simp) ?_
  refine AllReadyH.cons (o := { dst := some 64, op := .call { callee := .value (.func 13), args := #[.tmp 63], argTypes := #[26] }, type := 30, pos := "law.go:17", after := #[{ on := 19, ground := .data }, { on := 18, ground := .chain }, { on := 18, ground := .guard }], guard := some (18, true) }) rfl (fun K hK => ?_) AllReadyH.nil
  go_simp
  refine (CK1.out _).mono ?_
  rintro e v3 ⟨rfl, k1⟩
  go_wp2_with fail
  refine hK.out _ _ (KEEP.out _ _ hS2 k1) (fun hS3 => ?_)
  clear hK K
  try simp only [Act.put, List.setIfInBounds_toArray, List.set_cons_zero, List.set_cons_succ]
  refine wpAnyH_ready (rs := [22]) (by kernel_rfl) (by simp) ?_
  refine AllReadyH.cons (o := { dst := some 66, op := .call { callee := .value (.func 14), args := #[.tmp 65], argTypes := #[26] }, type := 30, pos := "law.go:17", after := #[{ on := 21, ground := .data }, { on := 20, ground := .chain }, { on := 18, ground := .guard }], guard := some (18, true) }) rfl (fun K hK => ?_) AllReadyH.nil
  go_simp
  refine (CK2.out _).mono ?_
  rintro e v4 ⟨rfl, k2⟩
  go_wp2_with fail
  refine hK.out _ _ (KEEP.out _ _ hS3 k2) (fun hS4 => ?_)
  clear hK K
  try simp only [Act.put, List.setIfInBounds_toArray, List.set_cons_zero, List.set_cons_succ]
  refine wpAnyH_take (i := 23) (oi := { dst := some 67, op := .binOp .eql 30 (.tmp 64) (.tmp 66) 30, type := 4, pos := "law.go:17", after := #[{ on := 20, ground := .data }, { on := 22, ground := .data }, { on := 18, ground := .guard }], guard := some (18, true) }) (v := .bool true) rfl (by kernel_rfl) (by kernel_rfl) (by kernel_rfl) (fun _ _ _ h => h) (Or.inl ⟨by rfl, by intro w hSw; clear hSw; go_simp⟩) hS4 ?_
  try simp only [Act.put, List.setIfInBounds_toArray, List.set_cons_zero, List.set_cons_succ]
  refine wpAnyH_take (i := 24) (oi := { dst := some 68, op := .pick (.tmp 62) (.tmp 67) (.const (Value.bool false)), type := 4, pos := "law.go:17", after := #[{ on := 18, ground := .data }, { on := 23, ground := .data }], guard := none }) (v := .bool true) rfl (by kernel_rfl) (by kernel_rfl) (by kernel_rfl) (fun _ _ _ h => h) (Or.inl ⟨by rfl, by intro w hSw; clear hSw; go_simp⟩) hS4 ?_
  try simp only [Act.put, List.setIfInBounds_toArray, List.set_cons_zero, List.set_cons_succ]
  refine wpAnyH_take (i := 25) (oi := { dst := some 69, op := .move (.tmp 68), type := 4, pos := "law.go:17", after := #[{ on := 24, ground := .data }, { on := 22, ground := .chain }], guard := none }) (v := .bool true) rfl (by kernel_rfl) (by kernel_rfl) (by kernel_rfl) (fun _ _ _ h => h) (Or.inl ⟨by rfl, by intro w hSw; clear hSw; go_simp⟩) hS4 ?_
  try simp only [Act.put, List.setIfInBounds_toArray, List.set_cons_zero, List.set_cons_succ]
  refine wpAnyH_take (i := 26) (oi := { dst := some 70, op := .load 28 (.tmp 3), type := 28, pos := "law.go:17", after := #[{ on := 25, ground := .guard }], guard := some (25, true) }) (v := .agg CP.toArray) rfl (by kernel_rfl) (by kernel_rfl) (by kernel_rfl) (fun _ _ _ h => h) (yieldsIf_load_mid (by rfl) _ _ rfl _ _ rfl _ _ (fun w h => h.2.1) uP rfl iP) hS4 ?_
  try simp only [Act.put, List.setIfInBounds_toArray, List.set_cons_zero, List.set_cons_succ]
  refine wpAnyH_take (i := 28) (oi := { dst := some 72, op := .load 28 (.tmp 3), type := 28, pos := "law.go:17", after := #[{ on := 25, ground := .guard }], guard := some (25, true) }) (v := .agg CP.toArray) rfl (by kernel_rfl) (by kernel_rfl) (by kernel_rfl) (fun _ _ _ h => h) (yieldsIf_load_mid (by rfl) _ _ rfl _ _ rfl _ _ (fun w h => h.2.1) uP rfl iP) hS4 ?_
  try simp only [Act.put, List.setIfInBounds_toArray, List.set_cons_zero, List.set_cons_succ]
  refine wpAnyH_ready (rs := [27]) (by kernel_rfl) (by simp) ?_
  refine AllReadyH.cons (o := { dst := some 71, op := .call { callee := .value (.func 15), args := #[.tmp 70], argTypes := #[28] }, type := 30, pos := "law.go:17", after := #[{ on := 26, ground := .data }, { on := 25, ground := .chain }, { on := 25, ground := .guard }], guard := some (25, true) }) rfl (fun K hK => ?_) AllReadyH.nil
  go_simp
  refine (CK3.out _).mono ?_
  rintro e v5 ⟨rfl, k3⟩
  go_wp2_with fail
  refine hK.out _ _ (KEEP.out _ _ hS4 k3) (fun hS5 => ?_)
  clear hK K
  try simp only [Act.put, List.setIfInBounds_toArray, List.set_cons_zero, List.set_cons_succ]
  refine wpAnyH_ready (rs := [29]) (by kernel_rfl) (by simp) ?_
  refine AllReadyH.cons (o := { dst := some 73, op := .call { callee := .value (.func 16), args := #[.tmp 72], argTypes := #[28] }, type := 30, pos := "law.go:17", after := #[{ on := 28, ground := .data }, { on := 27, ground := .chain }, { on := 25, ground := .guard }], guard := some (25, true) }) rfl (fun K hK => ?_) AllReadyH.nil
  go_simp
  refine (CK4.out _).mono ?_
  rintro e v6 ⟨rfl, k4⟩
  go_wp2_with fail
  refine hK.out _ _ (KEEP.out _ _ hS5 k4) (fun hS6 => ?_)
  clear hK K
  try simp only [Act.put, List.setIfInBounds_toArray, List.set_cons_zero, List.set_cons_succ]
  refine wpAnyH_take (i := 30) (oi := { dst := some 74, op := .binOp .eql 30 (.tmp 71) (.tmp 73) 30, type := 4, pos := "law.go:17", after := #[{ on := 27, ground := .data }, { on := 29, ground := .data }, { on := 25, ground := .guard }], guard := some (25, true) }) (v := .bool true) rfl (by kernel_rfl) (by kernel_rfl) (by kernel_rfl) (fun _ _ _ h => h) (Or.inl ⟨by rfl, by intro w hSw; clear hSw; go_simp⟩) hS6 ?_
  try simp only [Act.put, List.setIfInBounds_toArray, List.set_cons_zero, List.set_cons_succ]
  refine wpAnyH_take (i := 31) (oi := { dst := some 75, op := .pick (.tmp 69) (.tmp 74) (.const (Value.bool false)), type := 4, pos := "law.go:17", after := #[{ on := 25, ground := .data }, { on := 30, ground := .data }], guard := none }) (v := .bool true) rfl (by kernel_rfl) (by kernel_rfl) (by kernel_rfl) (fun _ _ _ h => h) (Or.inl ⟨by rfl, by intro w hSw; clear hSw; go_simp⟩) hS6 ?_
  try simp only [Act.put, List.setIfInBounds_toArray, List.set_cons_zero, List.set_cons_succ]
  refine wpAnyH_take (i := 32) (oi := { dst := some 13, op := .assign (.tmp 75), type := 4, pos := "law.go:17", after := #[{ on := 31, ground := .data }, { on := 29, ground := .chain }, { on := 0, ground := .phase }, { on := 1, ground := .phase }, { on := 2, ground := .phase }, { on := 3, ground := .phase }, { on := 4, ground := .phase }, { on := 5, ground := .phase }, { on := 6, ground := .phase }, { on := 7, ground := .phase }, { on := 8, ground := .phase }, { on := 9, ground := .phase }, { on := 10, ground := .phase }, { on := 11, ground := .phase }, { on := 12, ground := .phase }, { on := 13, ground := .phase }, { on := 14, ground := .phase }, { on := 15, ground := .phase }, { on := 16, ground := .phase }, { on := 17, ground := .phase }, { on := 18, ground := .phase }, { on := 19, ground := .phase }, { on := 20, ground := .phase }, { on := 21, ground := .phase }, { on := 22, ground := .phase }, { on := 23, ground := .phase }, { on := 24, ground := .phase }, { on := 25, ground := .phase }, { on := 26, ground := .phase }, { on := 27, ground := .phase }, { on := 28, ground := .phase }, { on := 29, ground := .phase }, { on := 30, ground := .phase }, { on := 31, ground := .phase }], guard := none }) (v := .bool true) rfl (by kernel_rfl) (by kernel_rfl) (by kernel_rfl) (fun _ _ _ h => h) (Or.inl ⟨by rfl, by intro w hSw; clear hSw; go_simp⟩) hS6 ?_
  try simp only [Act.put, List.setIfInBounds_toArray, List.set_cons_zero, List.set_cons_succ]
  refine wpAnyH_done (by kernel_rfl) ?_ _
  have B5 := Lib.hid hS6.2.2
  have Ox4 := Lib.hid (owns_bel Ox4.out B5.out)
  have Oy4 := Lib.hid (owns_bel Oy4.out B5.out)
  have Oz4 := Lib.hid (owns_bel Oz4.out B5.out)
  have P5 := Lib.hid (Pw.out.trans B5.out)
  obtain ⟨w6, hw6⟩ : ∃ w6, w6 = v6 := ⟨_, rfl⟩
  rw [← hw6] at Ox4 Oy4 Oz4 P5 ⊢
  clear hw6 B5 KEEP IX IY IZ IW Pw CK1 CK2 CK3 CK4 hS0 hS1 hS2 hS3 hS4 hS5 hS6 k1 k2 k3 k4
  have OV := Lib.hid (over_any W.heap.size nA _ (outB al) w6 (by have := LA.out; omega) Ox4.out)
  go_wp2_with fail
  refine (OV.out).mono ?_
  rintro e w7 ⟨rfl, k7⟩
  have P7 := Lib.hid (Kep.bel P5.out k7 (fun i hi => LX.out i hi))
  have Oy7 := Lib.hid (Kep.owns k7 (fun i hi => NXY.out i hi) Oy4.out)
  have Oz7 := Lib.hid (Kep.owns k7 (fun i hi e => NXZ.out i hi e) Oz4.out)
  clear k7 OV Ox4 Oy4 Oz4 P5
  have OV := Lib.hid (over_any w2.heap.size nP _ (outB pl) w7 (by have := LP.out; omega) Oz7.out)
  go_wp2_with fail
  refine (OV.out).mono ?_
  rintro e w8 ⟨rfl, k8⟩
  have P8 := Lib.hid (Kep.bel P7.out k8 (fun i hi => LZ.out i hi))
  have Oy8 := Lib.hid (Kep.owns k8 (fun i hi e => NYZ.out i e hi) Oy7.out)
  clear k8 OV Oy7 Oz7 P7
  have RX := Lib.hid (RA.out w8 P8.out)
  go_wp2_with (refine wpList_load_mid rfl 26 (.tmp 2) rfl bA 0 rfl CA _ RX.out uA rfl iA ?_)
  refine (BY1.out w8).mono ?_
  rintro e w9 ⟨ug, rfl, rg⟩
  have Og := Lib.hid rg.row
  have Oy9 := Lib.hid (owns_bel Oy8.out rg.1)
  have P9 := Lib.hid (P8.out.trans rg.1)
  rw [← hnA'.out] at Og
  obtain ⟨Ag, cg, rfl, ig, _, _⟩ := ints_of_own Og.out
  obtain ⟨Ay2, cy2, ey, iy, _, _⟩ := ints_of_own Oy9.out
  injection ey with ey1 ey2 ey3
  subst ey1
  subst ey3
  have SG := Lib.hid (show ∀ X, Bel w9 X → Calls Tryd.prog 12 #[.slice Ag nA cg, .slice Ay nA cy] X fun e w' => e = .returned (.bool true) ∧ X = w' from fun X hX => same Ag Ay nA cg nA cy _ X (Ints.bel ig hX) (Ints.bel iy hX))
  clear rg Og Oy8 Oy9 ig iy ey2 RX BY1 BY2 BY3 BY4 P8
  have RX := Lib.hid (RA.out w9 P9.out)
  go_wp2_with (refine wpList_load_mid rfl 26 (.tmp 2) rfl bA 0 rfl CA _ RX.out uA rfl iA ?_)
  refine (DG1.out w9 (HT.out _ P9.out)).mono ?_
  rintro e w10 ⟨rfl, m1⟩
  have m1 : Bel w9 w10 := m1
  obtain ⟨t1, t2, t3, t4⟩ := put32 w10 Y1 N1.out
  have TH := Lib.hid t1
  have Q1 := Lib.hid (m1.trans t2)
  have RH1 := Lib.hid t3
  have LH1 := Lib.hid t4
  clear t1 t2 t3 t4 RX m1 DG1
  go_upto_region 10 with (refine wpList_store_mid rfl 23 (.tmp 16) (.tmp 88) rfl w10.heap.size 0 Y1.toArray rfl rfl TH.out I1.out O1.out ?_)
  obtain ⟨w11, hw⟩ : ∃ x, (w10.alloc Z32h).setCells w10.heap.size 0 Y1 = x := ⟨_, rfl⟩
  obtain ⟨q1, hq⟩ : ∃ q, q = w10.heap.size := ⟨_, rfl⟩
  rw [hw] at Q1 RH1 LH1 ⊢
  rw [← hq] at RH1 LH1 ⊢
  clear hw hq TH
  have Pw11 := Lib.hid (P9.out.trans Q1.out)
  have Gw11 := Lib.hid ((Bel.refl w9).trans Q1.out)
  have RX := Lib.hid (RA.out w11 Pw11.out)
  go_wp2_with (refine wpList_load_mid rfl 26 (.tmp 2) rfl bA 0 rfl CA _ RX.out uA rfl iA ?_)
  refine (DG2.out w11).mono ?_
  rintro e w12 ⟨rfl, m2⟩
  have m2 : Bel w11 w12 := m2
  obtain ⟨t1, t2, t3, t4⟩ := put32 w12 Y1 N1.out
  have TH := Lib.hid t1
  have Q2 := Lib.hid (m2.trans t2)
  have RH2 := Lib.hid t3
  have LH2 := Lib.hid t4
  clear t1 t2 t3 t4 RX m2 DG2
  go_upto_region 11 with (refine wpList_store_mid rfl 23 (.tmp 18) (.tmp 93) rfl w12.heap.size 0 Y1.toArray rfl rfl TH.out I1.out O1.out ?_)
  obtain ⟨w13, hw⟩ : ∃ x, (w12.alloc Z32h).setCells w12.heap.size 0 Y1 = x := ⟨_, rfl⟩
  obtain ⟨q2, hq⟩ : ∃ q, q = w12.heap.size := ⟨_, rfl⟩
  rw [hw] at Q2 RH2 LH2 ⊢
  rw [← hq] at RH2 LH2 ⊢
  clear hw hq TH
  have RH1 := Lib.hid (range_up RH1.out Q2.out LH1.out)
  have LH1 := Lib.hid (Nat.lt_of_lt_of_le LH1.out (Below.size Q2.out))
  have Pw13 := Lib.hid (Pw11.out.trans Q2.out)
  have Gw13 := Lib.hid (Gw11.out.trans Q2.out)
  have RX := Lib.hid (RP.out w13 Pw13.out)
  go_wp2_with (refine wpList_load_mid rfl 28 (.tmp 3) rfl bP 0 rfl CP _ RX.out uP rfl iP ?_)
  refine (DG3.out w13 (HT.out _ Pw13.out)).mono ?_
  rintro e w14 ⟨rfl, m3⟩
  have m3 : Bel w13 w14 := m3
  obtain ⟨t1, t2, t3, t4⟩ := put32 w14 Y2 N2.out
  have TH := Lib.hid t1
  have Q3 := Lib.hid (m3.trans t2)
  have RH3 := Lib.hid t3
  have LH3 := Lib.hid t4
  clear t1 t2 t3 t4 RX m3 DG3
  go_upto_region 12 with (refine wpList_store_mid rfl 23 (.tmp 20) (.tmp 98) rfl w14.heap.size 0 Y2.toArray rfl rfl TH.out I2.out O2.out ?_)
  obtain ⟨w15, hw⟩ : ∃ x, (w14.alloc Z32h).setCells w14.heap.size 0 Y2 = x := ⟨_, rfl⟩
  obtain ⟨q3, hq⟩ : ∃ q, q = w14.heap.size := ⟨_, rfl⟩
  rw [hw] at Q3 RH3 LH3 ⊢
  rw [← hq] at RH3 LH3 ⊢
  clear hw hq TH
  have RH1 := Lib.hid (range_up RH1.out Q3.out LH1.out)
  have LH1 := Lib.hid (Nat.lt_of_lt_of_le LH1.out (Below.size Q3.out))
  have RH2 := Lib.hid (range_up RH2.out Q3.out LH2.out)
  have LH2 := Lib.hid (Nat.lt_of_lt_of_le LH2.out (Below.size Q3.out))
  have Pw15 := Lib.hid (Pw13.out.trans Q3.out)
  have Gw15 := Lib.hid (Gw13.out.trans Q3.out)
  have RX := Lib.hid (RP.out w15 Pw15.out)
  go_wp2_with (refine wpList_load_mid rfl 28 (.tmp 3) rfl bP 0 rfl CP _ RX.out uP rfl iP ?_)
  refine (DG4.out w15).mono ?_
  rintro e w16 ⟨rfl, m4⟩
  have m4 : Bel w15 w16 := m4
  obtain ⟨t1, t2, t3, t4⟩ := put32 w16 Y2 N2.out
  have TH := Lib.hid t1
  have Q4 := Lib.hid (m4.trans t2)
  have RH4 := Lib.hid t3
  have LH4 := Lib.hid t4
  clear t1 t2 t3 t4 RX m4 DG4
  go_upto_region 13 with (refine wpList_store_mid rfl 23 (.tmp 22) (.tmp 103) rfl w16.heap.size 0 Y2.toArray rfl rfl TH.out I2.out O2.out ?_)
  obtain ⟨w17, hw⟩ : ∃ x, (w16.alloc Z32h).setCells w16.heap.size 0 Y2 = x := ⟨_, rfl⟩
  obtain ⟨q4, hq⟩ : ∃ q, q = w16.heap.size := ⟨_, rfl⟩
  rw [hw] at Q4 RH4 LH4 ⊢
  rw [← hq] at RH4 LH4 ⊢
  clear hw hq TH
  have RH1 := Lib.hid (range_up RH1.out Q4.out LH1.out)
  have LH1 := Lib.hid (Nat.lt_of_lt_of_le LH1.out (Below.size Q4.out))
  have RH2 := Lib.hid (range_up RH2.out Q4.out LH2.out)
  have LH2 := Lib.hid (Nat.lt_of_lt_of_le LH2.out (Below.size Q4.out))
  have RH3 := Lib.hid (range_up RH3.out Q4.out LH3.out)
  have LH3 := Lib.hid (Nat.lt_of_lt_of_le LH3.out (Below.size Q4.out))
  have Pw17 := Lib.hid (Pw15.out.trans Q4.out)
  have Gw17 := Lib.hid (Gw15.out.trans Q4.out)
  have eq1 := EQ1.out
  have eq2 := EQ2.out
  go_wp2_with (first
    | (go_at_call 12; refine (SG.out _ Gw17.out).mono ?_; rintro e w' ⟨rfl, rfl⟩)
    | (refine load_guarded (by rfl) 23 (.tmp 16) rfl q1 0 rfl Y1 _ RH1.out Tryd.underlying23 rfl J1.out ?_)
    | (refine load_guarded (by rfl) 23 (.tmp 18) rfl q2 0 rfl Y1 _ RH2.out Tryd.underlying23 rfl J1.out ?_)
    | (refine load_guarded (by rfl) 23 (.tmp 20) rfl q3 0 rfl Y2 _ RH3.out Tryd.underlying23 rfl J2.out ?_)
    | (refine load_guarded (by rfl) 23 (.tmp 22) rfl q4 0 rfl Y2 _ RH4.out Tryd.underlying23 rfl J2.out ?_))
  refine (AW.out w17).mono ?_
  rintro e w18 ⟨rfl, m18⟩
  have P18 := Lib.hid (Pw17.out.trans (show Bel w17 w18 from m18))
  clear m18
  go_wp2
  go_ret
  exact ⟨rfl, B0.out.trans P18.out⟩
end Vt
end Go.Proofs.YtjbbecplkkkiiaaDoor
