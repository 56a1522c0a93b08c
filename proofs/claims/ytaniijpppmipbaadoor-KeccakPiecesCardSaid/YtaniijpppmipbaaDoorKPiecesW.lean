/-
  The walk of the law KeccakPieces: it returns true. Conditions: the table of turns lies in its variable; no slice takes more room than the form's reach.
-/
import Derived.Test.YtaniijpppmipbaaDoorKMade
import Derived.Test.YtaniijpppmipbaaDoorKEq
import Derived.Test.YtaniijpppmipbaaDoorKAwake2
import Derived.Test.YtaniijpppmipbaaDoorKTurns
import Derived.Test.YtaniijpppmipbaaDoorKKnown
import Derived.Test.YtaniijpppmipbaaDoorKLst
import Derived.Test.YtaniijpppmipbaaDoorQSum
namespace Go.Proofs.YtaniijpppmipbaaDoor
open Go.RowKit Go.Shelf
set_option linter.unusedVariables false
namespace Kk

theorem Ob.blk {w : World} {b : Nat} {data : List Int} (h : Ob w b data) : ∃ cs, Blk w b cs 61 := by
  obtain ⟨A, r, bs, c, h1, _⟩ := h
  exact ⟨_, h1.blk⟩
theorem Ob.not_row {w : World} {b : Nat} {data : List Int} (h : Ob w b data) {base k : Nat} {v : Value} {xs : List Value} (hr : w.ownsRow base 5 1 v k xs) : v.ownBlock ≠ some b := by
  obtain ⟨cs, hb⟩ := h.blk
  exact hb.not_row (by decide) hr
theorem Ob.lt0 {w : World} {b : Nat} {data : List Int} (h : Ob w b data) : b < w.heap.size := h.lt

/-- What the law holds behind k pieces: the hash, what stands together, the copy. -/
structure Pc (w0 w : World) (b p k : Nat) (zss : List (List Int)) (vc va : Value) : Prop where
  ob : Ob w b (flat zss k)
  row : w.ownsRow w0.heap.size 5 1 va (tot zss k) ((flat zss k).map (Value.int .u8))
  none_ : k ≤ p → vc = .pointer none
  copy : p < k → ∃ cb, vc = .pointer (some ⟨cb, 0, none⟩) ∧ w0.heap.size ≤ cb ∧ cb ≠ b ∧ Ob w cb (flat zss p)
  bel : Bel w0 w
/-- The same, behind the copy's place, ahead of the piece. -/
structure Pd (w0 w : World) (b p k : Nat) (zss : List (List Int)) (vc va : Value) : Prop where
  ob : Ob w b (flat zss k)
  row : w.ownsRow w0.heap.size 5 1 va (tot zss k) ((flat zss k).map (Value.int .u8))
  none_ : k < p → vc = .pointer none
  copy : p ≤ k → ∃ cb, vc = .pointer (some ⟨cb, 0, none⟩) ∧ w0.heap.size ≤ cb ∧ cb ≠ b ∧ Ob w cb (flat zss p)
  bel : Bel w0 w
theorem Pc.same {w0 w : World} {b p k : Nat} {zss : List (List Int)} {vc va : Value} (h : Pc w0 w b p k zss vc va) (hk : k ≠ p) : Pd w0 w b p k zss vc va :=
  ⟨h.ob, h.row, fun hlt => h.none_ (by omega), fun hle => h.copy (by omega), h.bel⟩
theorem Pc.copied {w0 w w' : World} {b p : Nat} {zss : List (List Int)} {vc va : Value} (h : Pc w0 w b p p zss vc va) (hb : Bel w w') {cb : Nat} (hcb : w.heap.size ≤ cb) (ho : Ob w' cb (flat zss p)) : Pd w0 w' b p p zss (.pointer (some ⟨cb, 0, none⟩)) va := by
  have hbl := h.ob.lt
  exact ⟨h.ob.bel hb, owns_bel h.row hb, fun hlt => absurd hlt (by omega), fun _ => ⟨cb, rfl, Nat.le_trans (Below.size h.bel) hcb, by omega, ho⟩, h.bel.trans hb⟩

theorem Pd.at5 {w0 wc w3 w4 w5 : World} {b p k : Nat} {zss : List (List Int)} {vc va : Value} {D : List Int} (h : Pd w0 wc b p k zss vc va) (hb0 : w0.heap.size ≤ b) (k3 : Bel wc w3) (k4 : Kep (fun i => i = b) w3 w4) (o4 : Ob w4 b D)
    (k5 : Kep (fun i => wc.heap.size ≤ i) w4 w5) :
    Ob w5 b D ∧ w5.ownsRow w0.heap.size 5 1 va (tot zss k) ((flat zss k).map (Value.int .u8)) ∧ (∀ cb, Ob wc cb (flat zss p) → cb ≠ b → Ob w5 cb (flat zss p)) ∧ Bel w0 w5 := by
  have hbl := h.ob.lt
  refine ⟨o4.kep k5 (by omega), ?_, fun cb hc hne => ((hc.bel k3).kep k4 hne).kep k5 (by have := hc.lt; omega), ?_⟩
  · refine Kep.owns k5 (fun i hi => ?_) (Kep.owns k4 (fun i hi e => ?_) (owns_bel h.row k3))
    · have := (h.row.lt i hi).2; omega
    · exact h.ob.not_row h.row (by rw [hi, e])
  · have s0 := Below.size h.bel
    exact Kep.bel (Kep.bel (h.bel.trans k3) k4 (fun i hi => by omega)) k5 (fun i hi => by omega)
theorem Pd.next {w0 wc w5 w6 : World} {b p k m : Nat} {zss : List (List Int)} {vc va v' : Value} (h : Pd w0 wc b p k zss vc va) (hm : (zss.getD k []).length = m) (o5 : Ob w5 b (flat zss k ++ zss.getD k [])) (r5 : w5.ownsRow w0.heap.size 5 1 va (tot zss k) ((flat zss k).map (Value.int .u8)))
    (c5 : ∀ cb, Ob wc cb (flat zss p) → cb ≠ b → Ob w5 cb (flat zss p)) (b5 : Bel w0 w5) (hown : w6.ownsRow w0.heap.size 5 1 v' (tot zss k + m) ((flat zss k).map (Value.int .u8) ++ (zss.getD k []).map (Value.int .u8))) (hg : w5.grownBy w6 va.ownBlock) :
    Pc w0 w6 b p (k + 1) zss vc v' := by
  have kg : Kep (fun i => va.ownBlock = some i) w5 w6 := Kep.grown (Kep.refl _ _) hg (fun i e _ => e)
  refine ⟨o5.kep kg (fun e => o5.not_row r5 e), ?_, fun hle => h.none_ (by omega), fun hlt => ?_, Bel.grown b5 hg (fun i e => (r5.lt i e).1)⟩
  · show w6.ownsRow w0.heap.size 5 1 v' (tot zss k + (zss.getD k []).length) ((flat zss k ++ zss.getD k []).map (Value.int .u8))
    rw [hm, List.map_append]
    exact hown
  · obtain ⟨cb, e, h1, h2, h3⟩ := h.copy (by omega)
    have o := c5 cb h3 h2
    exact ⟨cb, e, h1, h2, o.kep kg (fun e => o.not_row r5 e)⟩
/-- What stays while the law compares: the hash that was told, what stands together. -/
structure Sy (w0 W : World) (hs n : Nat) (va : Value) (zs : List Int) : Prop where
  lt : hs < W.heap.size
  th : W.there hs 0 32
  row : W.ownsRow w0.heap.size 5 1 va n (zs.map (Value.int .u8))
  bel : Bel w0 W
theorem Sy.up {w0 W W' : World} {hs n : Nat} {va : Value} {zs : List Int} (h : Sy w0 W hs n va zs) (hb : Bel W W') : Sy w0 W' hs n va zs :=
  ⟨Nat.lt_of_lt_of_le h.lt (Below.size hb), there_bel h.th hb, owns_bel h.row hb, h.bel.trans hb⟩
theorem Sy.kep {w0 W W' : World} {hs n cb : Nat} {va : Value} {zs D : List Int} (h : Sy w0 W hs n va zs) (ho : Ob W cb D) (hc : w0.heap.size ≤ cb) (hne : hs ≠ cb) (hk : Kep (fun i => i = cb) W W') : Sy w0 W' hs n va zs :=
  ⟨Nat.lt_of_lt_of_le h.lt hk.size, there_kep h.th hk hne, Kep.owns hk (fun i hi e => ho.not_row h.row (by rw [hi, e])) h.row, Kep.bel h.bel hk (fun i hi => by omega)⟩
theorem own_ptr {w : World} {base : Nat} {e : TypeId} {v : Value} {n : Nat} {zs : List Int} (h : w.ownsRow base e 1 v n (zs.map (Value.int .u8))) :
    ∃ A c, v = .slice A n c ∧ Ints .u8 w A n zs ∧ n ≤ c ∧ c ≤ maxLen ∧ ∀ x, A = some x → base ≤ x.block := by
  obtain ⟨A, c, rfl, h1, h2, h3⟩ := ints_of_own h
  refine ⟨A, c, rfl, h1, h2, h3, fun x hx => ?_⟩
  subst hx
  rcases h.2 with ⟨h4, _⟩ | ⟨g, cap, cur, h4, hb, _⟩
  · cases h4
  · injection h4 with h4
    injection h4 with h4
    subst h4
    exact hb
theorem flat_by {w : World} {A : Option Addr} {n : Nat} {zss : List (List Int)} (h : Lst w A n zss) : ∀ k, k ≤ n → By (flat zss k)
  | 0, _ => fun z hz => by cases hz
  | k + 1, hk => by
    obtain ⟨b, o, _, _, hc⟩ := h.2 (by omega)
    obtain ⟨P, m, kk, _, h2⟩ := hc k (by omega)
    exact (flat_by h k (by omega)).append h2.by_
theorem Pc.bel' {w0 w w' : World} {b p k : Nat} {zss : List (List Int)} {vc va : Value} (h : Pc w0 w b p k zss vc va) (hb : Bel w w') : Pc w0 w' b p k zss vc va :=
  ⟨h.ob.bel hb, owns_bel h.row hb, h.none_, fun hlt => by
    obtain ⟨cb, e, h1, h2, h3⟩ := h.copy hlt
    exact ⟨cb, e, h1, h2, h3.bel hb⟩, h.bel.trans hb⟩

set_option maxRecDepth 100000 in
set_option maxHeartbeats 8000000 in
theorem piecesLaw (A : Option Addr) (n c : Nat) (zss : List (List Int)) (at_ : Int) (w : World) (hL : Lst w A n zss) (hn : n ≤ 140737488355328) (t0 : -9223372036854775808 ≤ at_) (t1 : at_ ≤ 9223372036854775807) (hT : Tn w) :
    Calls Tryd.prog 4 #[.slice A n c, .int .i64 at_] w fun e w' => e = .returned (.bool true) ∧ Bel w w' := by
  have HL := Lib.hid hL
  have HT := Lib.hid hT
  have LG := Lib.hid (long_ A n c zss w hL hn)
  have h0 : 0 < w.heap.size := hT.1
  clear hL hT
  go_enter Tryd.func4, Tryd.ntmps4
  go_wp2_with fail
  refine (LG.out).mono ?_
  rintro e w' ⟨rfl, rfl⟩
  by_cases hl : lng n zss = true
  · rw [hl]
    go_wp2_with fail
    refine (awake w HT.out).mono ?_
    rintro e w1 ⟨rfl, k1⟩
    have K1 := Lib.hid (show Bel w w1 from k1)
    clear k1
    go_wp2
    go_ret
    exact ⟨rfl, K1.out⟩
  have hl2 : lng n zss = false := by simpa using hl
  have hnl : tot zss n ≤ 700 ∧ n ≤ 40 := by
    have h2 := hl2
    unfold lng at h2
    rw [decide_eq_false_iff_not] at h2
    omega
  obtain ⟨ht7, hn4⟩ := hnl
  rw [hl2]
  clear hl hl2 LG hn
  obtain ⟨p, hp, hp2⟩ : ∃ p : Nat, (p : Int) = at_ % ((n : Int) + 1) ∧ p ≤ n := ⟨(at_ % ((n : Int) + 1)).toNat, by have := Int.emod_nonneg at_ (show (n : Int) + 1 ≠ 0 by omega); omega, by have := Int.emod_lt_of_pos at_ (show 0 < (n : Int) + 1 by omega); omega⟩
  have PK := Lib.hid (show ∀ W, Calls Tryd.prog 26 #[.int .i64 at_, .int .i64 ((n : Int) + 1)] W fun e w' => e = .returned (.int .i64 (p : Int)) ∧ W = w' by
    rw [hp]; exact fun W => pick at_ ((n : Int) + 1) W t0 t1 (by omega) (by omega))
  clear hp t0 t1
  go_wp2_with fail
  refine (PK.out _).mono ?_
  rintro e w' ⟨rfl, rfl⟩
  go_wp2_with fail
  refine (hNew _).mono ?_
  rintro e w1 ⟨b, hb, rfl, ho, k1⟩
  have P0 := Lib.hid (show Pc w w1 b p 0 zss (.pointer none) (.slice none 0 0) from ⟨ho, World.ownsRow_nil _ _ _ _, fun _ => rfl, fun h => absurd h (by omega), k1⟩)
  clear ho k1 PK
  go_wp2_with fail
  go_loopw [6, 7, 8] (fun vc va i wr => ∃ k : Nat, i = .int .i64 k ∧ k ≤ n ∧ Pc w wr b p k zss vc va) (fun _ _ i _ => n - (intOf i).toNat)
  case atStart => exact ⟨0, rfl, Nat.zero_le _, P0.out⟩
  case round =>
    obtain ⟨k, rfl, hk, hP⟩ := hrel
    by_cases hlt : k < n
    · obtain ⟨lb, lo, rfl, hlb, hlc⟩ := HL.out.2 (by omega)
      obtain ⟨P, m, kk, hc, ho⟩ := hlc k hlt
      have HC := Lib.hid (show ∀ W, Bel w W → W.cell? ⟨lb, lo + k, none⟩ = some (.slice P m kk) from fun W hW => (Below.cell (p := ⟨lb, lo + k, none⟩) hW hlb).trans hc)
      have HO := Lib.hid ho
      have HP := Lib.hid hP
      have hm := ho.sl.len
      have hml : m ≤ 700 := by
        have h1 : tot zss (k + 1) ≤ tot zss n := tot_mono zss (by omega)
        have h2 : tot zss (k + 1) = tot zss k + (zss.getD k []).length := rfl
        omega
      clear hc ho hlc hP hm
      go_upto_if 32 with fail
      go_cut [6] (fun s6 wx => Pd w wx b p k zss s6 u7)
      case first =>
        by_cases hkp : k = p
        · subst hkp
          go_wp2_with fail
          refine (hCopy b _ wr HP.out.ob).mono ?_
          rintro e w2 ⟨rfl, ho2, k2⟩
          have HD := Lib.hid (HP.out.copied k2 (Nat.le_succ _) ho2)
          clear ho2 k2
          go_wp2_with fail
          go_meet
          exact HD.out
        · have hkp2 : ¬ (k : Int) = (p : Int) := by omega
          go_wp2_with fail
          go_meet
          exact HP.out.same hkp
      case rest =>
        have HD := Lib.hid hcut
        have cl := HC.out wc hcut.bel
        obtain ⟨Z, hZ⟩ : ∃ Z, Z = zss.getD k [] := ⟨_, rfl⟩
        have HZ := Lib.hid hZ
        have ON := HO.out.bel hcut.bel
        rw [← hZ] at ON
        have HZB := Lib.hid ON.by_
        have HZm := Lib.hid ON.sl.len
        have hbw : b < wc.heap.size := hcut.ob.lt
        have CB := Lib.hid (copyBytes P m kk Z wc ON.sl (by omega))
        have TW := Lib.hid (show ∀ W, Bel wc W → Tn W from fun W hW => HT.out.bel (HD.out.bel.trans hW))
        clear hcut hZ ON
        go_wp2_with fail
        refine (CB.out).mono ?_
        rintro e w3 ⟨vi, rfl, hf⟩
        have K3 := Lib.hid hf.2
        obtain ⟨Ai, ci, rfl, hi1, hi2, hi3, hi4⟩ := own_ptr hf.1
        have FR := Lib.hid hf.1
        have hsz3 := Below.size hf.2
        rw [HZm.out] at hi1 hi2
        have WR := Lib.hid (hWrite b (flat zss k) Ai m ci Z w3 (HD.out.ob.bel hf.2) hi1 hi2 hi3 HZB.out (fun x hx => by have := hi4 x hx; omega) (TW.out _ hf.2) (by omega) (by rw [flat_len]; have := tot_mono zss (show k ≤ n by omega); omega))
        have hne : (Value.slice Ai m ci).ownBlock ≠ some b := by
          intro e
          have := (FR.out.lt b (by rw [HZm.out]; exact e)).1
          omega
        clear hf hi1 hi2 hi3 hi4
        rw [HZm.out]
        go_wp2_with fail
        refine (WR.out).mono ?_
        rintro e w4 ⟨rfl, o4, k4⟩
        have HO4 := Lib.hid o4
        have HK4 := Lib.hid k4
        have OV := Lib.hid (over_any wc.heap.size m (.slice Ai m ci) Z w4 (by omega) (Kep.owns k4 (fun i hi e => hne (by rw [hi, e])) (by have h := FR.out; rw [HZm.out] at h; exact h)))
        clear o4 k4
        go_wp2_with fail
        refine (OV.out).mono ?_
        rintro e w5 ⟨rfl, k5⟩
        obtain ⟨O5, R5, C5, B5⟩ := HD.out.at5 hb K3.out HK4.out HO4.out (k5.mono (T := fun i => wc.heap.size ≤ i) (fun i _ e => by have := (FR.out.lt i (by rw [HZm.out]; exact e)).1; exact this))
        have HO5 := Lib.hid O5
        have HR5 := Lib.hid R5
        have HC5 := Lib.hid C5
        have HB5 := Lib.hid B5
        have cl5 := HC.out w5 B5
        have S5 := Lib.hid (show Sl w5 P m kk Z by rw [HZ.out]; exact HO.out.sl.bel B5)
        clear k5 O5 R5 C5 B5 WR OV CB
        go_wp2_with (at_builtin; refine wpList_append_sl rfl _ _ rfl w.heap.size _ (tot zss k) _ rfl HR5.out P m kk Z rfl S5.out (by have := tot_mono zss (show k ≤ n by omega); omega) (Below.size HB5.out) ?_; intro v' w6 hown' hgrow)
        have HP6 := Lib.hid (HD.out.next (m := m) (by rw [← HZ.out]; exact HZm.out) (by rw [← HZ.out]; exact HO5.out) HR5.out HC5.out HB5.out (by rw [← HZ.out]; exact hown') hgrow)
        obtain ⟨g, hg⟩ : ∃ g, g = tot zss (k + 1) := ⟨_, rfl⟩
        have hg7 : g ≤ 700 := by have := tot_mono zss (show k + 1 ≤ n by omega); omega
        have SM := Lib.hid (hSum b (flat zss (k + 1)) w6 HP6.out.ob (HT.out.bel HP6.out.bel))
        obtain ⟨Y, hY⟩ : ∃ Y, Y = (sumOf (flat zss (k + 1))).map B8 := ⟨_, rfl⟩
        have HYl := Lib.hid (show Y.length = 32 by rw [hY, List.length_map]; exact len_hashOf _)
        have YI := Lib.hid (show (Tryd.prog.info? 31).map (·.size) = some Y.length by rw [HYl.out]; exact info_hash)
        have YS := Lib.hid (show Y.toArray.size = Y.length from List.size_toArray)
        have YI2 := Lib.hid (show (Tryd.prog.info? 31).map (·.size) = some Y.toArray.size by rw [YS.out]; exact YI.out)
        have YO := Lib.hid (all_oneCell_toArray (cs := Y) (by rw [hY]; exact ints_b8 _))
        have YV := Lib.hid (show hsV (sumOf (flat zss (k + 1))) = .agg Y.toArray by rw [hY])
        clear hown' hgrow hY hg S5 HR5 HC5 HB5 HO5
        go_wp2_with fail
        refine (SM.out).mono ?_
        rintro e w7 ⟨rfl, k7⟩
        rw [YV.out]
        have B7 : Bel w6 w7 := k7
        obtain ⟨y1, y2, y3, y4⟩ := put32 w7 Y HYl.out
        have TY := Lib.hid y1
        have HP8 := Lib.hid ((HP6.out.bel' B7).bel' y2)
        have RY := Lib.hid y3
        clear k7 B7 y1 y2 y3 y4 SM
        have FB := Lib.hid (flat_by HL.out (k + 1) (by omega))
        obtain ⟨Aa, ca, rfl, _, _, _, _⟩ := own_ptr HP8.out.row
        go_wp2_with (refine wpList_store_mid rfl 31 (.tmp 10) (.tmp 55) rfl w7.heap.size 0 Y.toArray rfl rfl TY.out YI2.out YO.out ?_)
        obtain ⟨w8, hw8⟩ : ∃ w8, (w7.alloc (.cells Z32l.toArray 31)).setCells w7.heap.size 0 Y = w8 := ⟨_, rfl⟩
        obtain ⟨hs, hhs⟩ : ∃ hs, hs = w7.heap.size := ⟨_, rfl⟩
        have S8 : w8.rangeAt hs 0 Y ∧ hs < w8.heap.size ∧ Pc w w8 b p (k + 1) zss u6 (.slice Aa (tot zss (k + 1)) ca) := by
          rw [← hw8, hhs]
          exact ⟨RY.out, (put32 w7 Y HYl.out).2.2.2, HP8.out⟩
        rw [hw8, ← hhs]
        have RS := Lib.hid (show ∀ W, (W.rangeAt hs 0 Y ∧ hs < W.heap.size ∧ Pc w W b p (k + 1) zss u6 (.slice Aa (tot zss (k + 1)) ca)) → Calls Tryd.prog 16 #[.slice Aa (tot zss (k + 1)) ca] W fun e w' => e = .returned (.agg Y.toArray) ∧ Bel W w' from fun W hW => by
          rw [← YV.out]
          obtain ⟨A', c', e, hs'⟩ := sl_of_own hW.2.2.row
          injection e with e1 e2 e3
          subst e1
          subst e3
          exact refSum _ _ _ _ W hs' FB.out (by have := tot_mono zss (show k + 1 ≤ n by omega); omega))
        have LN := Lib.hid (show ∀ W, (W.rangeAt hs 0 Y ∧ hs < W.heap.size ∧ Pc w W b p (k + 1) zss u6 (.slice Aa (tot zss (k + 1)) ca)) → Calls Tryd.prog 32 #[.pointer (some ⟨b, 0, none⟩)] W fun e w' => e = .returned (.int .i64 ((tot zss (k + 1) : Nat) : Int)) ∧ W = w' from fun W hW => by
          have h := hLen b (flat zss (k + 1)) W hW.2.2.ob
          rw [flat_len] at h
          exact h)
        have KEEP := Lib.hid (show ∀ W W' : World, (W.rangeAt hs 0 Y ∧ hs < W.heap.size ∧ Pc w W b p (k + 1) zss u6 (.slice Aa (tot zss (k + 1)) ca)) → Bel W W' → (W'.rangeAt hs 0 Y ∧ hs < W'.heap.size ∧ Pc w W' b p (k + 1) zss u6 (.slice Aa (tot zss (k + 1)) ca)) from
          fun W W' h hb => ⟨range_bel h.1 hb h.2.1, Nat.lt_of_lt_of_le h.2.1 (Below.size hb), h.2.2.bel' hb⟩)
        have nYY : ∀ W, (binOp .neq 31 (.agg Y.toArray) (.agg Y.toArray)).run Tryd.prog W = .ok (.bool false) W := fun W => by
          rw [← YV.out, neq_hs (sumOf _) (sumOf _) (len_hashOf _) (len_hashOf _) W, beq_self_eq_true]
          rfl
        have uH := Tryd.underlying31
        have iY := YI.out
        have S8d := KEEP.out _ _ S8 (Bel.refl w8).drew
        clear hw8 hhs TY RY HP8 HP6
        go_cut [71] (fun s71 wx => s71 = .bool false ∧ Pc w wx b p (k + 1) zss u6 (.slice Aa (tot zss (k + 1)) ca))
        case first =>
          go_region_held3 (fun w' => w'.rangeAt hs 0 Y ∧ hs < w'.heap.size ∧ Pc w w' b p (k + 1) zss u6 (.slice Aa (tot zss (k + 1)) ca)) (first | assumption | exact KEEP.out _ _ (by assumption) (by assumption))
            (first | (go_at_call 16; refine (RS.out _ (by assumption)).mono ?_; rintro e w9 ⟨rfl, kA⟩) | (go_at_call 32; refine (LN.out _ (by assumption)).mono ?_; rintro e w9 ⟨rfl, rfl⟩))
          go_wp2_with fail
          go_meet
          rename_i hS
          exact ⟨rfl, hS.2.2⟩
        case rest =>
          obtain ⟨rfl, hP9⟩ := hcut
          have HP9 := Lib.hid hP9
          clear hP9 nYY uH iY S8d KEEP LN RS
          go_wp2_with fail
          refine ⟨⟨k + 1, by go_num, by omega, HP9.out⟩, ?_⟩
          simp [intOf]
          omega
    · obtain rfl : k = n := by omega
      have HP := Lib.hid hP
      clear hP
      go_upto_if 75 with fail
      go_cut [6] (fun s6 wx => Pd w wx b p k zss s6 u7)
      case first =>
        by_cases hkp : k = p
        · subst hkp
          go_wp2_with fail
          refine (hCopy b _ wr HP.out.ob).mono ?_
          rintro e w2 ⟨rfl, ho2, k2⟩
          have HD := Lib.hid (HP.out.copied k2 (Nat.le_succ _) ho2)
          clear ho2 k2
          go_wp2_with fail
          go_meet
          exact HD.out
        · have hkp2 : ¬ (p : Int) = (k : Int) := by omega
          go_wp2_with fail
          go_meet
          exact HP.out.same hkp
      case rest =>
        obtain ⟨cb, rfl, hcb, hcb2, hoc⟩ := hcut.copy hp2
        obtain ⟨Aa, ca, rfl, hi1, hi2, hi3, hi4⟩ := own_ptr hcut.row
        have HD := Lib.hid hcut
        have HOC := Lib.hid hoc
        have htp : tot zss p ≤ tot zss k := tot_mono zss hp2
        have LC := Lib.hid (hLen cb (flat zss p) wc hoc)
        have SM := Lib.hid (hSum cb (flat zss p) wc hoc (HT.out.bel hcut.bel))
        have FL := Lib.hid (flat_len zss p)
        clear hcut hi1 hoc hi4
        go_wp2_with fail
        refine (LC.out).mono ?_
        rintro e w' ⟨rfl, rfl⟩
        rw [FL.out]
        have ht0 : ¬ ((tot zss p : Nat) : Int) > ((tot zss k : Nat) : Int) := by omega
        have ht1 : ¬ ((tot zss k : Nat) : Int) < ((tot zss p : Nat) : Int) := by omega
        go_wp2_with fail
        refine (SM.out).mono ?_
        rintro e w7 ⟨rfl, k7⟩
        obtain ⟨Y, hY⟩ : ∃ Y, Y = (sumOf (flat zss p)).map B8 := ⟨_, rfl⟩
        have HYl := Lib.hid (show Y.length = 32 by rw [hY, List.length_map]; exact len_hashOf _)
        have YI := Lib.hid (show (Tryd.prog.info? 31).map (·.size) = some Y.length by rw [HYl.out]; exact info_hash)
        have YS := Lib.hid (show Y.toArray.size = Y.length from List.size_toArray)
        have YI2 := Lib.hid (show (Tryd.prog.info? 31).map (·.size) = some Y.toArray.size by rw [YS.out]; exact YI.out)
        have YO := Lib.hid (all_oneCell_toArray (cs := Y) (by rw [hY]; exact ints_b8 _))
        have YV := Lib.hid (show hsV (sumOf (flat zss p)) = .agg Y.toArray by rw [hY])
        clear hY
        rw [YV.out]
        have B7 : Bel wc w7 := k7
        obtain ⟨y1, y2, y3, y4⟩ := put32 w7 Y HYl.out
        have TY := Lib.hid y1
        go_wp2_with (refine wpList_store_mid rfl 31 (.tmp 13) (.tmp 91) rfl w7.heap.size 0 Y.toArray rfl rfl TY.out YI2.out YO.out ?_)
        obtain ⟨w8, hw8⟩ : ∃ w8, (w7.alloc (.cells Z32l.toArray 31)).setCells w7.heap.size 0 Y = w8 := ⟨_, rfl⟩
        obtain ⟨hs, hhs⟩ : ∃ hs, hs = w7.heap.size := ⟨_, rfl⟩
        rw [hw8] at y2 y3 y4
        have B8' : Bel wc w8 := B7.trans y2
        have S8 : w8.rangeAt hs 0 Y ∧ Sy w w8 hs (tot zss k) (.slice Aa (tot zss k) ca) (flat zss k) := by
          rw [hhs]
          exact ⟨y3, y4, by rw [← hw8]; exact World.there_setCells (there_newK (by decide)) _ _ _, owns_bel HD.out.row B8', HD.out.bel.trans B8'⟩
        have hwh : wc.heap.size ≤ hs := by rw [hhs]; exact Below.size B7
        have hcs : cb < hs := by rw [hhs]; exact Nat.lt_of_lt_of_le HOC.out.lt (Below.size B7)
        have O8 := Lib.hid (HOC.out.bel B8')
        have hbh : w.heap.size ≤ hs := by omega
        rw [hw8, ← hhs]
        clear hw8 hhs y1 y2 y3 y4 TY k7 B7 B8' LC SM
        have FP := Lib.hid (flat_by HL.out p (by omega))
        have FK := Lib.hid (flat_by HL.out k (by omega))
        have FT := Lib.hid (show (flat zss k).take (tot zss p) = flat zss p by
          obtain ⟨r, hr⟩ := flat_pre zss hp2
          rw [← hr, ← flat_len, List.take_left])
        have FD := Lib.hid (show flat zss p ++ (flat zss k).drop (tot zss p) = flat zss k by rw [← FT.out, List.take_append_drop])
        have FL2 := Lib.hid (flat_len zss k)
        obtain ⟨A1, hA1⟩ : ∃ A1, (if ca = 0 then Aa else Aa.map (·.add (0 * 1))) = A1 := ⟨_, rfl⟩
        obtain ⟨A2, hA2⟩ : ∃ A2, (if ca = tot zss p then Aa else Aa.map (·.add (tot zss p * 1))) = A2 := ⟨_, rfl⟩
        have sl1 := fun W => slice_h Aa (tot zss k) ca ((tot zss p : Nat) : Int) W (by omega) (by omega)
        have sl2 := fun W => slice_l Aa (tot zss k) ca ((tot zss p : Nat) : Int) W (by omega) (by omega)
        rw [Int.toNat_natCast] at sl1 sl2
        rw [hA1] at sl1
        rw [hA2] at sl2
        rw [Nat.sub_zero, Nat.sub_zero] at sl1
        have RS := Lib.hid (show ∀ W, (W.rangeAt hs 0 Y ∧ Sy w W hs (tot zss k) (.slice Aa (tot zss k) ca) (flat zss k)) → Calls Tryd.prog 16 #[.slice A1 (tot zss p) ca] W fun e w' => e = .returned (.agg Y.toArray) ∧ Bel W w' from fun W hW => by
          rw [← YV.out]
          obtain ⟨A', c', e, hs'⟩ := sl_of_own hW.2.row
          injection e with e1 e2 e3
          subst e1
          subst e3
          have hp3 := hs'.ints.part (k := 0) (m := tot zss p) (c := ca) (by omega) hs'.cap
          rw [hA1, List.drop_zero, FT.out] at hp3
          exact refSum _ _ _ _ W ⟨hp3, by omega, fun e => hs'.nil (by
            rw [← hA1] at e
            split at e
            · exact e
            · cases Aa with
              | none => rfl
              | some x => cases e)⟩ FP.out (by omega))
        have WC := Lib.hid (show ∀ W, Bel w8.drew W → Calls Tryd.prog 29 #[.pointer (some ⟨cb, 0, none⟩), .slice A2 (tot zss k - tot zss p) (ca - tot zss p)] W fun e w' => e = .returned (.int .i64 0) ∧ Ob w' cb (flat zss k) ∧ Kep (fun i => i = cb) W w' from fun W hW => by
          have hB : Bel w8 W := (Bel.refl w8).drew.trans hW
          obtain ⟨A', c', e, hs'⟩ := sl_of_own (owns_bel S8.2.row hB)
          injection e with e1 e2 e3
          subst e1
          subst e3
          have hp3 := hs'.ints.part (k := tot zss p) (m := tot zss k - tot zss p) (c := ca) (by omega) hs'.cap
          rw [hA2] at hp3
          have ho8 := O8.out.bel hB
          have hl2 : (flat zss k).length = tot zss k := FL2.out
          have hpd : ((flat zss k).drop (tot zss p)).take (tot zss k - tot zss p) = (flat zss k).drop (tot zss p) := List.take_of_length_le (by rw [List.length_drop]; omega)
          rw [hpd] at hp3
          have h := hWrite cb (flat zss p) A2 (tot zss k - tot zss p) (ca - tot zss p) ((flat zss k).drop (tot zss p)) W ho8 hp3 (by omega) (by omega) (FK.out.drop _) (fun x hx => by
            have hr := ho8.not_row (owns_bel S8.2.row hB)
            have : ∀ g, Aa = some g → g.block ≠ cb := fun g hg e => hr (by rw [hg]; show some g.block = some cb; rw [e])
            rw [← hA2] at hx
            split at hx
            · exact this x hx
            · cases Aa with
              | none => cases hx
              | some y =>
                simp only [Option.map_some, Option.some.injEq] at hx
                rw [← hx]
                have hy := this y rfl
                unfold Addr.add
                split <;> exact hy) (HT.out.bel (S8.2.bel.trans hB)) (by omega) (by rw [flat_len]; omega)
          rw [FD.out] at h
          exact h)
        have KEEP := Lib.hid (show ∀ W W' : World, (W.rangeAt hs 0 Y ∧ Sy w W hs (tot zss k) (.slice Aa (tot zss k) ca) (flat zss k)) → Bel W W' → (W'.rangeAt hs 0 Y ∧ Sy w W' hs (tot zss k) (.slice Aa (tot zss k) ca) (flat zss k)) from
          fun W W' h hb => ⟨range_bel h.1 hb h.2.lt, h.2.up hb⟩)
        have KEEP2 := Lib.hid (show ∀ W W' : World, (W.rangeAt hs 0 Y ∧ Sy w W hs (tot zss k) (.slice Aa (tot zss k) ca) (flat zss k)) → Bel w8.drew W → Kep (fun i => i = cb) W W' → (W'.rangeAt hs 0 Y ∧ Sy w W' hs (tot zss k) (.slice Aa (tot zss k) ca) (flat zss k)) from
          fun W W' h hb hk => ⟨range_kep2 h.1 hk (by omega), h.2.kep (O8.out.bel ((Bel.refl w8).drew.trans hb)) hcb (by omega) hk⟩)
        have nYY : ∀ W, (binOp .neq 31 (.agg Y.toArray) (.agg Y.toArray)).run Tryd.prog W = .ok (.bool false) W := fun W => by
          rw [← YV.out, neq_hs (sumOf _) (sumOf _) (len_hashOf _) (len_hashOf _) W, beq_self_eq_true]
          rfl
        have uH := Tryd.underlying31
        have iY := YI.out
        have S8d := KEEP.out _ _ S8 (Bel.refl w8).drew
        have r8 : Bel w8.drew w8.drew := Bel.refl _
        clear hA1 hA2
        go_cut [110] (fun s110 wx => s110 = .bool false ∧ Ob wx cb (flat zss k) ∧ Sy w wx hs (tot zss k) (.slice Aa (tot zss k) ca) (flat zss k))
        case first =>
          go_region_held3 (fun w' => w'.rangeAt hs 0 Y ∧ Sy w w' hs (tot zss k) (.slice Aa (tot zss k) ca) (flat zss k)) (first | assumption | exact KEEP.out _ _ (by assumption) (by assumption) | exact KEEP2.out _ _ (by assumption) (by assumption) (by assumption))
            (first | (go_at_call 16; refine (RS.out _ (by assumption)).mono ?_; rintro e w9 ⟨rfl, kA⟩) | (go_at_call 29; refine (WC.out _ (by assumption)).mono ?_; rintro e w9 ⟨rfl, oA, kA⟩))
          go_wp2_with fail
          go_meet
          rename_i hS
          exact ⟨rfl, by assumption, hS.2⟩
        case rest =>
          obtain ⟨rfl, o9, s9⟩ := hcut
          have HS9 := Lib.hid s9
          have HO9 := Lib.hid o9
          have SM := Lib.hid (hSum cb (flat zss k) wc o9 (HT.out.bel s9.bel))
          clear s9 o9 nYY uH iY S8d r8 KEEP KEEP2 RS WC sl1 sl2 S8
          go_wp2_with fail
          refine (SM.out).mono ?_
          rintro e w10 ⟨rfl, k10⟩
          have B10 : Bel wc w10 := k10
          obtain ⟨Z, hZ⟩ : ∃ Z, Z = (sumOf (flat zss k)).map B8 := ⟨_, rfl⟩
          have HZl := Lib.hid (show Z.length = 32 by rw [hZ, List.length_map]; exact len_hashOf _)
          have ZI := Lib.hid (show (Tryd.prog.info? 31).map (·.size) = some Z.length by rw [HZl.out]; exact info_hash)
          have ZS := Lib.hid (show Z.toArray.size = Z.length from List.size_toArray)
          have ZI2 := Lib.hid (show (Tryd.prog.info? 31).map (·.size) = some Z.toArray.size by rw [ZS.out]; exact ZI.out)
          have ZO := Lib.hid (all_oneCell_toArray (cs := Z) (by rw [hZ]; exact ints_b8 _))
          have ZV := Lib.hid (show hsV (sumOf (flat zss k)) = .agg Z.toArray by rw [hZ])
          have s10 := HS9.out.up B10
          have TZ := Lib.hid (show w10.there hs 0 Z.toArray.size by rw [ZS.out, HZl.out]; exact s10.th)
          have RZ := Lib.hid (show (w10.setCells hs 0 Z).rangeAt hs 0 Z from World.rangeAt_setCells_same _ _ _ _ (by rw [HZl.out]; exact s10.th))
          have hrow : (Value.slice Aa (tot zss k) ca).ownBlock ≠ some hs := fun e => by
            have h1 := (HD.out.row.lt hs e).2
            omega
          have S11 := Lib.hid (show Sy w (w10.setCells hs 0 Z) hs (tot zss k) (.slice Aa (tot zss k) ca) (flat zss k) from
            ⟨by rw [size_setCells]; exact s10.lt, World.there_setCells s10.th _ _ _, Kep.owns (kep_setCellsK hs Z 0 w10) (fun i hi e => hrow (by rw [hi, e])) s10.row, Kep.bel s10.bel (kep_setCellsK hs Z 0 w10) (fun i hi => by rw [hi]; exact hbh)⟩)
          rw [ZV.out]
          clear hZ k10 s10 B10 SM
          go_wp2_with (refine wpList_store_mid rfl 31 (.tmp 13) (.tmp 114) rfl hs 0 Z.toArray rfl rfl TZ.out ZI2.out ZO.out ?_)
          obtain ⟨w11, hw11⟩ : ∃ w11, w10.setCells hs 0 Z = w11 := ⟨_, rfl⟩
          rw [hw11] at RZ S11 ⊢
          have RS := Lib.hid (show ∀ W, (W.rangeAt hs 0 Z ∧ Sy w W hs (tot zss k) (.slice Aa (tot zss k) ca) (flat zss k)) → Calls Tryd.prog 16 #[.slice Aa (tot zss k) ca] W fun e w' => e = .returned (.agg Z.toArray) ∧ Bel W w' from fun W hW => by
            rw [← ZV.out]
            obtain ⟨A', c', e, hs'⟩ := sl_of_own hW.2.row
            injection e with e1 e2 e3
            subst e1
            subst e3
            exact refSum _ _ _ _ W hs' FK.out (by omega))
          have AW := Lib.hid (show ∀ W, (W.rangeAt hs 0 Z ∧ Sy w W hs (tot zss k) (.slice Aa (tot zss k) ca) (flat zss k)) → Calls Tryd.prog 11 #[] W fun e w' => e = .returned (.bool true) ∧ Bel W w' from fun W hW => awake W (HT.out.bel hW.2.bel))
          have KEEP := Lib.hid (show ∀ W W' : World, (W.rangeAt hs 0 Z ∧ Sy w W hs (tot zss k) (.slice Aa (tot zss k) ca) (flat zss k)) → Bel W W' → (W'.rangeAt hs 0 Z ∧ Sy w W' hs (tot zss k) (.slice Aa (tot zss k) ca) (flat zss k)) from
            fun W W' h hb => ⟨range_bel h.1 hb h.2.lt, h.2.up hb⟩)
          have eZZ : ∀ W, (binOp .eql 31 (.agg Z.toArray) (.agg Z.toArray)).run Tryd.prog W = .ok (.bool true) W := fun W => by
            rw [← ZV.out, eql_hs (sumOf _) (sumOf _) (len_hashOf _) (len_hashOf _) W, beq_self_eq_true]
          have uH := Tryd.underlying31
          have iZ := ZI.out
          have S11d := KEEP.out _ _ ⟨RZ.out, S11.out⟩ (Bel.refl w11).drew
          clear hw11 RZ S11 TZ
          go_wp2_with fail
          go_region_held3 (fun w' => w'.rangeAt hs 0 Z ∧ Sy w w' hs (tot zss k) (.slice Aa (tot zss k) ca) (flat zss k)) (first | assumption | exact KEEP.out _ _ (by assumption) (by assumption))
            (first | (go_at_call 16; refine (RS.out _ (by assumption)).mono ?_; rintro e w12 ⟨rfl, kA⟩) | (go_at_call 11; refine (AW.out _ (by assumption)).mono ?_; rintro e w12 ⟨rfl, kA⟩))
          go_wp2_with fail
          go_ret
          rename_i hS
          exact ⟨rfl, hS.2.bel⟩
theorem piecesLaw2 (A : Option Addr) (n c : Nat) (zss : List (List Int)) (at_ : Int) (w : World) (hL : Lst w A n zss) (hn : n ≤ 140737488355328) (ht : (Lit.int .i64 at_).wf = true) (hT : Tn w) :
    Calls Tryd.prog 4 #[.slice A n c, .int .i64 at_] w fun e w' => e = .returned (.bool true) ∧ Bel w w' := by
  have h : -9223372036854775808 ≤ at_ ∧ at_ ≤ 9223372036854775807 := by
    simp [Lit.wf, IntKind.min, IntKind.max, IntKind.signed, IntKind.bits] at ht
    exact ⟨by omega, by omega⟩
  exact piecesLaw A n c zss at_ w hL hn h.1 h.2 hT
end Kk
end Go.Proofs.YtaniijpppmipbaaDoor
