/-
  What active.eligible makes of any lists, and Rank answers. Conditions: at most a million elements.
-/
import Derived.Test.YtmbodfmdaocppaaAc3
import Derived.Test.YtmbodfmdaocppaaAcM2
namespace Go.Proofs.Ytmbodfmdaocppaa
open Go.RowKit Go.Shelf
set_option linter.unusedVariables false
set_option linter.unusedSimpArgs false
namespace Ac
open Kk Pm Ro

set_option maxRecDepth 100000 in
set_option maxHeartbeats 2000000 in
theorem eligible (T : Option Addr) (tn tc : Nat) (t : List Int) (M : Option Addr) (mn mc : Nat) (m : List Bool) (w : World) (ht : Rw.RS uR w T tn tc t) (hm : Rw.RS bR w M mn mc m) (htn : tn ≤ 1000000) (hmn : mn ≤ 1000000) :
    Calls Try.prog 33 #[.slice T tn tc, .slice M mn mc] w fun e w' => ∃ p v f n, e = .returned (.pointer (some ⟨p, 0, none⟩)) ∧ Ro_ w w' p v T tn tc t f n ∧ Bag (fun x => cn t m x = true) f n ∧ Heap t f n := by
  obtain ⟨W0, hW0⟩ : ∃ W0, w.alloc (.cells #[.slice none 0 0, .slice T tn tc] 56) = W0 := ⟨_, rfl⟩
  obtain ⟨p, hp⟩ : ∃ p, w.heap.size = p := ⟨_, rfl⟩
  have hB0 : Bel w W0 := by rw [← hW0]; exact (Bel.refl _).alloc _
  have hK0 := Blk.new w #[.slice none 0 0, .slice T tn tc] 56
  rw [hW0, hp] at hK0
  have H0 := Lib.hid (show ∃ v f n, Ro_ w W0 p v T tn tc t f n ∧ Bag (fun x => x < 0 ∧ cn t m x = true) f n ∧ Heap t f n ∧ n ≤ 0 from
    ⟨.slice none 0 0, fun _ => 0, 0, ⟨hB0, by omega, hK0, Rw.OwnR.nil_ _ _ _ _, ht, fun k hk => absurd hk (by omega), by omega⟩, ⟨fun a b h => absurd h (by omega), fun v => ⟨fun h => absurd h.1 (by omega), fun ⟨k, hk, _⟩ => absurd hk (by omega)⟩⟩, fun i h0 h => absurd h (by omega), Nat.le_refl _⟩)
  have HT := Lib.hid ht
  have HM := Lib.hid hm
  have HTL := Lib.hid ht.len
  clear ht hm hK0 hB0
  go_enter Try.func33, Try.ntmps33
  go_wp2_with fail
  try rw [hW0]
  try rw [hp]
  clear hW0 hp
  go_loopw [15] (fun s15 wr => ∃ k : Nat, s15 = .int .i64 k ∧ k ≤ tn ∧ Hid (∃ v f n, Ro_ w wr p v T tn tc t f n ∧ Bag (fun x => x < k ∧ cn t m x = true) f n ∧ Heap t f n ∧ n ≤ k)) (fun s15 _ => tn - (intOf s15).toNat)
  case atStart => exact ⟨0, rfl, Nat.zero_le _, H0⟩
  case round =>
    obtain ⟨k, rfl, hk, hh⟩ := hrel
    clear H0
    by_cases hlt : k < tn
    · obtain ⟨v, f, n, hR, hB, hH, hn⟩ := hh.out
      obtain ⟨b, o, hT, _, hc⟩ := word_at (HT.out.bel hR.bel) hlt
      have CA := Lib.hid (at_b M mn mc m k wr (HM.out.bel hR.bel) (by omega) (by omega))
      have hlt3 : (k : Int) < tn := by omega
      have hlt0 : (0 : Int) ≤ k := by omega
      obtain ⟨x, hx⟩ : ∃ x, isb m k = x := ⟨_, rfl⟩
      obtain ⟨y, hy⟩ : ∃ y, decide (k < mn) = y := ⟨_, rfl⟩
      obtain ⟨z, hz⟩ : ∃ z, tk t k = z := ⟨_, rfl⟩
      have HC := Lib.hid (show cn t m k = (x && decide (0 < z)) by unfold cn; rw [hx, hz])
      have HY := Lib.hid (show y = false → x = false from fun h => by
        rw [← hx]
        subst h
        exact is_out (by rw [HM.out.len]; have := of_decide_eq_false hy; omega))
      have HNX := Lib.hid (show cn t m k = false → Bag (fun x => x < k + 1 ∧ cn t m x = true) f n from fun h => hB.congr fun x => by
        constructor
        · exact fun ⟨h1, h2⟩ => ⟨by omega, h2⟩
        · exact fun ⟨h1, h2⟩ => ⟨Nat.lt_of_le_of_ne (by omega) (fun e => by rw [e, h] at h2; cases h2), h2⟩)
      rw [hx, hy] at CA
      rw [hz] at hc
      have HR := Lib.hid hR
      have HB := Lib.hid hB
      have HH := Lib.hid hH
      clear hR hB hH hx hy hz hh
      subst hT
      go_wp2_with fail
      refine CA.out.mono ?_
      rintro e w1 ⟨rfl, rfl⟩
      clear CA
      have HNO := Lib.hid (show cn t m k = false → ∃ k_1 : Nat, (Value.int .i64 ((k + 1 : Nat) : Int)) = .int .i64 k_1 ∧ k_1 ≤ tn ∧ Hid (∃ v f n, Ro_ w wr p v (some ⟨b, o, none⟩) tn tc t f n ∧ Bag (fun x => x < k_1 ∧ cn t m x = true) f n ∧ Heap t f n ∧ n ≤ k_1) from fun h => ⟨k + 1, rfl, by omega, Lib.hid ⟨v, f, n, HR.out, HNX.out h, HH.out, by omega⟩⟩)
      have hw1 : IntKind.i64.wrap ((k : Int) + 1) = ((k + 1 : Nat) : Int) := by rw [IntWalk.i64_in _ (by omega)]; omega
      cases y with
      | false =>
        have HF := Lib.hid (HNO.out (by rw [HC.out, HY.out rfl]; rfl))
        clear HNO HNX HY HC
        go_wp2_with fail
        go_roundw
        case rel => exact HF.out
        case measure => simp [intOf]; omega
      | true =>
        cases x with
        | false =>
          have HF := Lib.hid (HNO.out (by rw [HC.out]; rfl))
          clear HNO HNX HY HC
          go_wp2_with fail
          go_roundw
          case rel => exact HF.out
          case measure => simp [intOf]; omega
        | true =>
          by_cases hz : 0 < z
          · have hcn := Lib.hid (show cn t m k = true by rw [HC.out]; simp [hz])
            have CP := Lib.hid (hpush k wr HR.out HB.out HH.out (fun h => absurd h.1 (by omega)) hlt (by omega) (by omega))
            clear HNO HNX HY HC
            go_wp2_with fail
            refine CP.out.mono ?_
            rintro e w2 ⟨rfl, v', f', hr, hb, hh⟩
            have HF := Lib.hid (show ∃ v f n, Ro_ w w2 p v (some ⟨b, o, none⟩) tn tc t f n ∧ Bag (fun x => x < k + 1 ∧ cn t m x = true) f n ∧ Heap t f n ∧ n ≤ k + 1 from ⟨v', f', n + 1, hr, hb.congr fun x => by
              constructor
              · rintro (⟨h1, h2⟩ | rfl)
                · exact ⟨by omega, h2⟩
                · exact ⟨by omega, hcn.out⟩
              · exact fun ⟨h1, h2⟩ => by
                  by_cases he : x = k
                  · exact .inr he
                  · exact .inl ⟨by omega, h2⟩, hh, by omega⟩)
            clear hr hb hh CP
            go_wp2_with fail
            go_roundw
            case rel => exact ⟨k + 1, rfl, by omega, HF⟩
            case measure => simp [intOf]; omega
          · have HF := Lib.hid (HNO.out (by rw [HC.out]; simp [hz]))
            clear HNO HNX HY HC
            go_wp2_with fail
            go_roundw
            case rel => exact HF.out
            case measure => simp [intOf]; omega
    · obtain rfl : k = tn := by omega
      obtain ⟨v, f, n, hR, hB, hH, hn⟩ := hh.out
      have HB := Lib.hid (show Bag (fun x => cn t m x = true) f n from hB.congr fun x => ⟨fun h => h.2, fun h => ⟨by have := (cn_lt h).1; have := HTL.out; omega, h⟩⟩)
      have HR := Lib.hid hR
      have HH := Lib.hid hH
      clear hh hR hB hH
      go_wp2_with fail
      go_ret
      exact ⟨p, v, f, n, rfl, HR.out, HB.out, HH.out⟩

/-- A ranking between two worlds: its blocks lie from b0 on, below b1. -/
structure Rq (b0 b1 : Nat) (w : World) (p : Nat) (v : Value) (T : Option Addr) (tn tc : Nat) (t : List Int) (f : Nat → Nat) (n : Nat) : Prop where
  blk : Blk w p #[v, .slice T tn tc] 56
  new : b0 ≤ p
  own : OwnI w b0 v (fl f n)
  tok : Rw.RS uR w T tn tc t
  old : 0 < tn → ∀ x, T = some x → x.block < b0
  hip : p < b1
  hig : ∀ g, v.ownBlock = some g → g < b1
  lts : ∀ k, k < n → f k < tn
  few : n ≤ 1000000
theorem Ro_.rq {w0 w : World} {p : Nat} {v : Value} {T : Option Addr} {tn tc : Nat} {t : List Int} {f : Nat → Nat} {n : Nat} (h : Ro_ w0 w p v T tn tc t f n) : Rq w0.heap.size w.heap.size w p v T tn tc t f n :=
  ⟨h.blk, h.new, h.own, h.tok.bel h.bel, fun h0 x hx => by
    obtain ⟨b, o, e, hlt, _⟩ := h.tok.row h0
    rw [hx] at e
    injection e with e
    subst e
    exact hlt, h.blk.lt, fun g hg => (h.own.lt g hg).2, h.lts, h.few⟩
section
variable {b0 b1 : Nat} {w w' : World} {p : Nat} {v : Value} {T : Option Addr} {tn tc : Nat} {t : List Int} {f : Nat → Nat} {n : Nat}
theorem Rq.len (h : Rq b0 b1 w p v T tn tc t f n) : ∃ A c, v = .slice A n c := by
  obtain ⟨A, c, e, _⟩ := h.own.rs iR
  rw [fl_len] at e
  exact ⟨A, c, e⟩
theorem Rq.kep {S : Nat → Prop} (h : Rq b0 b1 w p v T tn tc t f n) (hk : Kep S w w') (h1 : ∀ b, S b → ¬ (b0 ≤ b ∧ b < b1)) (h2 : 0 < tn → ∀ x, T = some x → ¬ S x.block) : Rq b0 b1 w' p v T tn tc t f n :=
  ⟨h.blk.kep hk (fun e => h1 _ e ⟨h.new, h.hip⟩), h.new, h.own.kep hk (fun i e hs => h1 _ hs ⟨Rw.own_ge h.own e, h.hig i e⟩), h.tok.kep2 hk h2, h.old, h.hip, h.hig, h.lts, h.few⟩
theorem Rq.rg (h : Rq b0 b1 w p v T tn tc t f n) (hn : 0 < n) (htn : 0 < tn) : ∃ g cap, v = .slice (some ⟨g, 0, none⟩) n cap ∧ b0 ≤ g ∧ g < b1 ∧ Rg w p g cap T tn tc t f n := by
  obtain ⟨g, cap, e, hg, hrb, hm⟩ := Rw.rb_own iR h.own (by rw [fl_len]; exact hn)
  rw [fl_len] at e
  have hgb : g < b1 := h.hig g (by rw [e]; rfl)
  subst e
  refine ⟨g, cap, rfl, hg, hgb, h.blk, hrb, h.tok, fun x hx => ?_, h.lts, hm, h.few⟩
  have h1 := h.old htn x hx
  have h2 := h.new
  exact ⟨by omega, by omega⟩
theorem Rg.rq {g cap : Nat} (h : Rg w p g cap T tn tc t f n) (hp : b0 ≤ p) (hg : b0 ≤ g) (hp1 : p < b1) (hg1 : g < b1) (ho : 0 < tn → ∀ x, T = some x → x.block < b0) : Rq b0 b1 w p (.slice (some ⟨g, 0, none⟩) n cap) T tn tc t f n := by
  refine ⟨h.blk, hp, ?_, h.tok, ho, hp1, fun i e => ?_, h.lts, h.few⟩
  · obtain ⟨cur, h1, h2, h3⟩ := h.row.blk
    have hc := h.row.cap
    rw [fl_len] at h2 hc
    refine ⟨by rw [Rw.flat_len, fl_len], .inr ⟨g, cap, cur, ?_, hg, h1, ?_, h.cap, h3, ?_⟩⟩
    · rw [fl_len]
    · rw [fl_len]; exact hc
    · rw [fl_len]; exact h2
  · injection e with e
    subst e
    exact hg1
end
theorem next_q {b0 b1 : Nat} {p : Nat} {v : Value} {T : Option Addr} {tn tc : Nat} {t : List Int} {f : Nat → Nat} {n : Nat} {S : Nat → Prop} (w : World) (h : Rq b0 b1 w p v T tn tc t f (n + 1)) (hB : Bag S f (n + 1)) (hH : Heap t f (n + 1)) (ht : tn ≤ 1000000000) :
    Calls Try.prog 35 #[.pointer (some ⟨p, 0, none⟩)] w fun e w' => e = .returned (.int .i64 (f 0)) ∧ ∃ v' f', Rq b0 b1 w' p v' T tn tc t f' n ∧ Bag (fun x => S x ∧ x ≠ f 0) f' n ∧ Heap t f' n ∧ Kep (fun b => b0 ≤ b ∧ b < b1) w w' := by
  have hl := h.lts 0 (by omega)
  obtain ⟨g, cap, rfl, hg, hg1, hr⟩ := h.rg (by omega) (by omega)
  refine (next_ w hr hB hH ht).mono ?_
  rintro e w' ⟨rfl, f', h1, h2, h3, h4⟩
  exact ⟨rfl, _, f', h1.rq h.new hg h.hip hg1 h.old, h2, h3, h4.mono fun k _ hk => by
    rcases hk with rfl | rfl
    · exact ⟨hg, hg1⟩
    · exact ⟨h.new, h.hip⟩⟩

def bagLen (w : World) (p : Nat) : Nat := match w.cell? ⟨p, 0, none⟩ with | some (.slice _ n _) => n | _ => 0
theorem bagLen_of {b0 b1 : Nat} {w : World} {p : Nat} {v : Value} {T : Option Addr} {tn tc : Nat} {t : List Int} {f : Nat → Nat} {n : Nat} (h : Rq b0 b1 w p v T tn tc t f n) : bagLen w p = n := by
  obtain ⟨A, c, e⟩ := h.len
  unfold bagLen
  rw [h.blk.cell 0 (v := v) rfl, e]
set_option maxRecDepth 100000 in
set_option maxHeartbeats 2000000 in
/-- Rank. -/
theorem rank (T : Option Addr) (tn tc : Nat) (t : List Int) (M : Option Addr) (mn mc : Nat) (m : List Bool) (w : World) (ht : Rw.RS uR w T tn tc t) (hm : Rw.RS bR w M mn mc m) (htn : tn ≤ 1000000) (hmn : mn ≤ 1000000) :
    Calls Try.prog 11 #[.slice T tn tc, .slice M mn mc] w fun e w' => ∃ v, e = .returned v ∧ OwnI w' w.heap.size v (rk t m) ∧ Bel w w' := by
  have CE := Lib.hid (eligible T tn tc t M mn mc m w ht hm htn hmn)
  clear ht hm
  go_enter Try.func11, Try.ntmps11
  go_wp2_with fail
  refine CE.out.mono ?_
  rintro e w1 ⟨p, v, f, n, rfl, hR, hB, hH⟩
  have H0 := Lib.hid (show ∃ v' f' r, Rq w.heap.size w1.heap.size w1 p v' T tn tc t f' n ∧ Bag (Left t m r) f' n ∧ Heap t f' n ∧ Tkn t m r ∧ OwnI w1 w1.heap.size (.slice none 0 0) r ∧ Bel w w1 ∧ r.length + n ≤ 1000000 from
    ⟨v, f, [], hR.rq, hB.congr fun x => ⟨fun h => ⟨h, by simp⟩, fun h => h.1⟩, hH, Tkn.nil_ t m, Rw.OwnR.nil_ _ _ _ _, hR.bel, by have := hR.few; simpa using this⟩)
  have HB01 := Lib.hid (Below.size hR.bel)
  have hns := hR.few
  obtain ⟨b1, hb1⟩ : ∃ b1, w1.heap.size = b1 := ⟨_, rfl⟩
  rw [hb1] at H0 HB01
  have HB1 := Lib.hid hb1
  clear hR hB hH CE hb1
  go_wp2_with fail
  go_loopw [4] (fun s4 wr => ∃ n' : Nat, n' ≤ n ∧ Hid (∃ v' f' r, Rq w.heap.size b1 wr p v' T tn tc t f' n' ∧ Bag (Left t m r) f' n' ∧ Heap t f' n' ∧ Tkn t m r ∧ OwnI wr b1 s4 r ∧ Bel w wr ∧ r.length + n' ≤ 1000000 ∧ b1 ≤ wr.heap.size)) (fun _ wr => bagLen wr p)
  case atStart => exact ⟨n, Nat.le_refl _, Lib.hid (by obtain ⟨v, f, r, h1, h2, h3, h4, h5, h6, h7⟩ := H0.out; exact ⟨v, f, r, h1, h2, h3, h4, h5, h6, h7, by rw [HB1.out]; exact Nat.le_refl _⟩)⟩
  case round =>
    obtain ⟨n', hn', hh⟩ := hrel
    obtain ⟨v', f', r, hR, hB, hH, hT, hO, hBe, hl, hsz⟩ := hh.out
    obtain ⟨A, c, rfl⟩ := hR.len
    have c0 := hR.blk.cell 0 rfl
    have CL := Lib.hid (len_ A n' c wr)
    have HR := Lib.hid hR
    have HB := Lib.hid hB
    have HH := Lib.hid hH
    have HT := Lib.hid hT
    have HO := Lib.hid hO
    have HE := Lib.hid hBe
    have HL := Lib.hid hl
    have HS := Lib.hid hsz
    clear H0 hh hR hB hH hT hO hBe hl hsz
    go_wp2_with fail
    refine CL.out.mono ?_
    rintro e w2 ⟨rfl, rfl⟩
    clear CL
    cases n' with
    | zero =>
      go_wp2_with fail
      go_ret
      exact ⟨_, rfl, by rw [HT.out.done HB.out]; exact HO.out.mono HB01.out, HE.out⟩
    | succ n' =>
      have CN := Lib.hid (next_q wr HR.out HB.out HH.out (by omega))
      have HN := Lib.hid (HT.out.next HB.out HH.out)
      have HM := Lib.hid (bagLen_of HR.out)
      generalize f' 0 = y at *
      go_wp2_with fail
      refine CN.out.mono ?_
      rintro e w3 ⟨rfl, v2, f2, hR2, hB2, hH2, hK2⟩
      have HR2 := Lib.hid hR2
      have HB2 := Lib.hid (hB2.congr HN.out.2.1)
      have HH2 := Lib.hid hH2
      have HS2 := Lib.hid (Nat.le_trans HS.out hK2.size)
      have HO2 := Lib.hid (HO.out.kep hK2 (fun i e h => by have := Rw.own_ge HO.out e; omega))
      have HE2 := Lib.hid (Kep.bel HE.out hK2 (fun i h => h.1))
      have HX := Lib.hid (Rw.rs_one iR (r := y) (Blk.new w3 #[.int .i64 y] 3))
      have HO3 := Lib.hid (HO2.out.bel ((Bel.refl w3).alloc (.cells #[.int .i64 y] 3)))
      clear hR2 hB2 hH2 hK2 CN
      go_wp2_with (at_builtin; refine append_i rfl _ _ 27 rfl Try.underlying27 b1 _ r rfl HO3.out ⟨w3.heap.size, 0, none⟩ 1 1 [y] rfl HX.out (by have := HL.out; omega) (by have := HS2.out; simp; omega) ?_; intro v4 w4 hO4 hg4)
      have hK4 : Kep (fun b => b1 ≤ b) w3 w4 := ((Kep.refl (fun b => b1 ≤ b) w3).alloc _).grown hg4 (fun k hk _ => Rw.own_ge HO3.out hk)
      have HF := Lib.hid (show ∃ v' f' r, Rq w.heap.size b1 w4 p v' T tn tc t f' n' ∧ Bag (Left t m r) f' n' ∧ Heap t f' n' ∧ Tkn t m r ∧ OwnI w4 b1 v4 r ∧ Bel w w4 ∧ r.length + n' ≤ 1000000 ∧ b1 ≤ w4.heap.size from
        ⟨v2, f2, r ++ [y], HR2.out.kep hK4 (fun b hb h => by omega) (fun h0 x hx h => by have := HR2.out.old h0 x hx; have := HB01.out; omega), HB2.out, HH2.out, HN.out.1, hO4, Kep.bel HE2.out hK4 (fun k h => Nat.le_trans HB01.out h), by have := HL.out; rw [List.length_append, List.length_singleton]; omega, Nat.le_trans HS2.out hK4.size⟩)
      have HM2 := Lib.hid (bagLen_of (b0 := w.heap.size) (b1 := b1) (HR2.out.kep hK4 (fun b hb h => by omega) (fun h0 x hx h => by have := HR2.out.old h0 x hx; have := HB01.out; omega)))
      clear hK4 hO4 hg4
      go_wp2_with fail
      go_roundw
      case rel => exact ⟨n', by omega, HF⟩
      case measure => rw [HM.out, HM2.out]; omega
end Ac
end Go.Proofs.Ytmbodfmdaocppaa
