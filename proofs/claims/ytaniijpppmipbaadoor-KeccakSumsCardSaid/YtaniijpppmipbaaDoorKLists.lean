/-
  What CopyLists and SameLists answer. Condition: not many bytes.
-/
import Derived.Test.YtaniijpppmipbaaDoorKLst
namespace Go.Proofs.YtaniijpppmipbaaDoor
open Go.RowKit Go.Shelf
set_option linter.unusedVariables false
theorem Tryd.info_sl : (Tryd.prog.info? 22).map (fun i => (i.zero, i.size, i.bytes)) = some (some (.slice none 0 0), 1, 24) := by kernel_rfl
namespace Kk

/-- Slices that were made read as these. -/
def Made (w : World) (base k : Nat) (vs : List Value) (zss : List (List Int)) : Prop := vs.length = k ∧ ∀ i, i < k → ∃ v, vs[i]? = some v ∧ w.ownsRow base 5 1 v (zss.getD i []).length ((zss.getD i []).map (Value.int .u8))
theorem Made.bel {w w' : World} {base k : Nat} {vs : List Value} {zss : List (List Int)} (h : Made w base k vs zss) (hb : Bel w w') : Made w' base k vs zss :=
  ⟨h.1, fun i hi => by
    obtain ⟨v, h1, h2⟩ := h.2 i hi
    exact ⟨v, h1, owns_bel h2 hb⟩⟩
theorem rows_apart {w : World} {b1 b2 s1 s2 n1 n2 : Nat} {e1 e2 : TypeId} {v1 v2 : Value} {x1 x2 : List Value} (h1 : w.ownsRow b1 e1 s1 v1 n1 x1) (h2 : w.ownsRow b2 e2 s2 v2 n2 x2) (he : e1 ≠ e2) {g : Nat} (hg : v1.ownBlock = some g) : v2.ownBlock ≠ some g := by
  rcases h1.2 with ⟨rfl, _⟩ | ⟨g1, cap1, cur1, rfl, _, hh1, _⟩
  · cases hg
  · have hg1 : g1 = g := by injection hg
    subst hg1
    rcases h2.2 with ⟨rfl, _⟩ | ⟨g2, cap2, cur2, rfl, _, hh2, _⟩
    · intro h; cases h
    · intro h
      have hg2 : g2 = g1 := by injection h
      subst hg2
      rw [hh1] at hh2
      injection hh2 with hh2
      injection hh2 with _ ht _
      exact he ht
theorem Made.grown {w w' : World} {base base2 k n : Nat} {vs : List Value} {zss : List (List Int)} {v : Value} {xs : List Value} (h : Made w base k vs zss) (hr : w.ownsRow base2 22 1 v n xs) (hg : w.grownBy w' v.ownBlock) : Made w' base k vs zss :=
  ⟨h.1, fun i hi => by
    obtain ⟨u, h1, h2⟩ := h.2 i hi
    refine ⟨u, h1, h2.kept hg ?_⟩
    cases hu : u.ownBlock with
    | none => exact .inl rfl
    | some g => exact .inr (fun e => rows_apart h2 hr (by decide) hu e.symm)⟩
theorem Made.snoc {w : World} {base k : Nat} {vs : List Value} {zss : List (List Int)} {v : Value} (h : Made w base k vs zss) (hv : w.ownsRow base 5 1 v (zss.getD k []).length ((zss.getD k []).map (Value.int .u8))) : Made w base (k + 1) (vs ++ [v]) zss :=
  ⟨by rw [List.length_append, h.1]; rfl, fun i hi => by
    rcases Nat.lt_or_ge i k with h2 | h2
    · obtain ⟨u, h3, h4⟩ := h.2 i h2
      exact ⟨u, by rw [List.getElem?_append_left (by rw [h.1]; exact h2)]; exact h3, h4⟩
    · obtain rfl : i = k := by omega
      exact ⟨v, by rw [List.getElem?_append_right (by rw [h.1]; exact Nat.le_refl _), h.1, Nat.sub_self]; rfl, hv⟩⟩

set_option maxRecDepth 100000 in
set_option maxHeartbeats 2000000 in
theorem copyLists (A : Option Addr) (n c : Nat) (zss : List (List Int)) (w : World) (hL : Lst w A n zss) (ht : tot zss n ≤ 1000000) (hn : n ≤ 1000) :
    Calls Tryd.prog 13 #[.slice A n c] w fun e w' => ∃ A' c', e = .returned (.slice A' n c') ∧ Lst w' A' n zss ∧ Bel w w' := by
  have HL := Lib.hid hL
  obtain ⟨i0, hi, hz0, hz1, hz2⟩ := info_parts Tryd.info_sl
  clear hL
  go_enter Tryd.func13, Tryd.ntmps13
  go_wp2_with fail
  go_loopw [3, 4] (fun v i wr => ∃ (k : Nat) (vs : List Value), i = .int .i64 k ∧ k ≤ n ∧ wr.ownsRow w.heap.size 22 1 v k vs ∧ Made wr w.heap.size k vs zss ∧ Bel w wr) (fun _ i _ => n - (intOf i).toNat)
  case atStart => exact ⟨0, [], rfl, Nat.zero_le _, World.ownsRow_nil _ _ _ _, ⟨rfl, fun i hi => absurd hi (by omega)⟩, Bel.refl _⟩
  case round =>
    obtain ⟨k, vs, rfl, hk, hown, hM, hb⟩ := hrel
    by_cases hlt : k < n
    · obtain ⟨lb, lo, rfl, hlb, hlc⟩ := HL.out.2 (by omega)
      obtain ⟨P, m, kk, hc, ho⟩ := hlc k hlt
      have c0 : wr.cell? ⟨lb, lo + k, none⟩ = some (.slice P m kk) := (Below.cell (p := ⟨lb, lo + k, none⟩) hb hlb).trans hc
      obtain ⟨Z, hZ⟩ : ∃ Z, Z = zss.getD k [] := ⟨_, rfl⟩
      have hml : Z.length = m := by rw [hZ]; exact ho.sl.len
      have hm9 : m ≤ 1000000 := by
        have h1 : tot zss (k + 1) ≤ tot zss n := tot_mono zss (by omega)
        have h2 : tot zss (k + 1) = tot zss k + (zss.getD k []).length := rfl
        rw [← hZ, hml] at h2
        omega
      have CB := Lib.hid (copyBytes P m kk Z wr (by rw [hZ]; exact ho.sl.bel hb) (by omega))
      have HV := Lib.hid hown
      have HM := Lib.hid hM
      have HB := Lib.hid hb
      have HZ := Lib.hid hZ
      have HML := Lib.hid hml
      clear hlc hc ho hZ hown hM hb hml
      go_wp2_with fail
      refine (CB.out).mono ?_
      rintro e w2 ⟨vb, rfl, fb⟩
      obtain ⟨Ab, cb, rfl, hi1, hi2, hi3, hi4⟩ := own_ptr fb.1
      have SB := Lib.hid (show w2.ownsRow w.heap.size 5 1 (.slice Ab Z.length cb) Z.length (Z.map (Value.int .u8)) from owns_mono fb.1 (Below.size HB.out))
      have B2 := Lib.hid (HB.out.trans fb.2)
      have V2 := Lib.hid (owns_bel HV.out fb.2)
      have M2 := Lib.hid (HM.out.bel fb.2)
      have s2 := Below.size B2.out
      clear fb hi1 hi2 hi3 hi4 CB HV HM HB
      rw [HML.out]
      go_wp2_with (at_builtin; refine wpList_append_own _ rfl _ _ 23 rfl w.heap.size 22 i0 (.slice none 0 0) 1 24 Tryd.underlying23 hi hz0 hz1 hz2 rfl (by decide) _ _ _ rfl (V2.out.alloc _) ⟨w2.heap.size, 0, none⟩ 1 1 [.slice Ab m cb] rfl rfl ?c1 ?c2 ?c3 ?c4 ?c5 ?_)
      case c1 =>
        intro j u hj
        match j, hj with
        | 0, hj => simp at hj; subst hj; simp [Addr.add]
      case c2 => intro u hu; simp at hu; subst hu; rfl
      case c3 => unfold maxLen; omega
      case c4 => omega
      case c5 => simp; omega
      · intro v' w3 hown' hgrow _
        have B3 := Lib.hid (show Bel w w3 from Bel.grown (B2.out.alloc _) hgrow (fun j hj => (V2.out.lt j hj).1))
        have HO := Lib.hid hown'
        have M3 := Lib.hid (show Made w3 w.heap.size (k + 1) (vs ++ [.slice Ab m cb]) zss from Made.grown (base2 := w.heap.size) ((M2.out.snoc (by have h := SB.out; rw [← HZ.out]; rw [HML.out] at h ⊢; exact h)).bel ((Bel.refl w2).alloc _)) (V2.out.alloc _) hgrow)
        clear hown' hgrow
        go_wp2
        go_roundw
        case rel =>
          exact ⟨k + 1, vs ++ [.slice Ab m cb], by go_num, by omega, HO.out, M3.out, B3.out⟩
        case measure => simp [intOf] <;> omega
    · obtain rfl : k = n := by omega
      have LW := Lib.hid (show ∃ A' c', u3 = .slice A' k c' ∧ Lst wr A' k zss from by
        rcases hown.2 with ⟨rfl, h2⟩ | ⟨g, cap, cur, rfl, hb2, hg, hnc, hm, r⟩
        · subst h2
          exact ⟨none, 0, rfl, HL.out.1, fun h => absurd h (by omega)⟩
        · refine ⟨_, _, rfl, HL.out.1, fun hn0 => ⟨g, 0, rfl, (Array.getElem?_eq_some_iff.1 hg).1, fun i hi => ?_⟩⟩
          obtain ⟨u, h1, h2⟩ := hM.2 i hi
          obtain ⟨lb, lo, e, _, hlc⟩ := HL.out.2 hn0
          obtain ⟨P, m, kk, _, ho⟩ := hlc i hi
          obtain ⟨A', c', rfl, hi1, hi2, hi3, _⟩ := own_ptr h2
          obtain ⟨A2, c2, e2, hsl⟩ := sl_of_own h2
          injection e2 with e3 e4 e5
          subst e3
          subst e5
          refine ⟨A', (zss.getD i []).length, c', ?_, hsl, ho.by_, by rw [ho.sl.len]; exact ho.max, hi3⟩
          have := hown.cellAt i (by omega)
          rw [Nat.zero_add, this]
          exact h1)
      have HB := Lib.hid hb
      clear hown hM hb
      go_wp2
      go_ret
      obtain ⟨A', c', rfl, hl⟩ := LW.out
      exact ⟨A', c', rfl, hl, HB.out⟩

set_option maxRecDepth 100000 in
set_option maxHeartbeats 2000000 in
theorem sameLists (A B : Option Addr) (n c d : Nat) (zss : List (List Int)) (w : World) (hA : Lst w A n zss) (hB : Lst w B n zss) (hn : n ≤ 1000) :
    Calls Tryd.prog 25 #[.slice A n c, .slice B n d] w fun e w' => e = .returned (.bool true) ∧ Bel w w' := by
  have HA := Lib.hid hA
  have HB := Lib.hid hB
  clear hA hB
  go_enter Tryd.func25, Tryd.ntmps25
  go_wp2_with fail
  go_loopw [5, 6] (fun o i wr => ∃ k : Nat, i = .int .i64 k ∧ k ≤ n ∧ o = .bool true ∧ Bel w wr) (fun _ i _ => n - (intOf i).toNat)
  case atStart => exact ⟨0, rfl, Nat.zero_le _, by simp, Bel.refl _⟩
  case round =>
    obtain ⟨k, rfl, hk, rfl, hb⟩ := hrel
    by_cases hlt : k < n
    · obtain ⟨lb, lo, rfl, hlb, hlc⟩ := HA.out.2 (by omega)
      obtain ⟨mb, mo, rfl, hmb, hmc⟩ := HB.out.2 (by omega)
      obtain ⟨P, m, kk, hc, ho⟩ := hlc k hlt
      obtain ⟨P2, m2, kk2, hc2, ho2⟩ := hmc k hlt
      have c0 : wr.cell? ⟨lb, lo + k, none⟩ = some (.slice P m kk) := (Below.cell (p := ⟨lb, lo + k, none⟩) hb hlb).trans hc
      have c2 : wr.cell? ⟨mb, mo + k, none⟩ = some (.slice P2 m2 kk2) := (Below.cell (p := ⟨mb, mo + k, none⟩) hb hmb).trans hc2
      have SM := Lib.hid (fun j => same P P2 m kk m2 kk2 (zss.getD k []) (wr.drewN j) ((ho.bel hb).sl.ints.bel ((Bel.refl wr).drewN j)) ((ho2.bel hb).sl.ints.bel ((Bel.refl wr).drewN j)))
      have HBW := Lib.hid hb
      have hlt2 : (k : Int) < (n : Int) := by omega
      clear hlc hmc hc ho hc2 ho2 hb
      go_wp2
      go_quiet ((go_at_call 24; exact Calls.quiet_of_same ((SM.out _).mono fun e w' h => ⟨h.1, h.2.symm⟩)))
      have HB2 := Lib.hid (HBW.out.drewN nq)
      clear c0 c2 HBW
      go_wp2
      go_roundw
      case rel => exact ⟨k + 1, by go_num, by omega, rfl, HB2.out⟩
      case measure => simp [intOf] <;> omega
    · obtain rfl : k = n := by omega
      have HBW := Lib.hid hb
      clear hb
      go_wp2
      go_ret
      exact ⟨rfl, HBW.out⟩
end Kk
end Go.Proofs.YtaniijpppmipbaaDoor
