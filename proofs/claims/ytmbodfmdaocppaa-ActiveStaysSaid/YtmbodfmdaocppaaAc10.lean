/-
  What a text of digits tells as bools; what active.Diff answers. Conditions: at most a million elements.
-/
import Derived.Test.YtmbodfmdaocppaaAc9
namespace Go.Proofs.Ytmbodfmdaocppaa
open Go.RowKit Go.Shelf
set_option linter.unusedVariables false
set_option linter.unusedSimpArgs false
namespace Ac
open Kk Pm Ro

def bts (s : ByteArray) : List Bool := s.data.toList.map fun c => ((c.toNat : Int) == 49)
theorem bts_at (s : ByteArray) (k : Nat) (h : k < s.size) : (bts s)[k]? = some (((s[k].toNat : Nat) : Int) == 49) := by
  unfold bts
  rw [List.getElem?_map, Array.getElem?_toList, Array.getElem?_eq_getElem (by exact h)]
  rfl
theorem bts_len (s : ByteArray) : (bts s).length = s.size := by unfold bts; rw [List.length_map]; rfl
set_option maxRecDepth 100000 in
set_option maxHeartbeats 1000000 in
theorem bools_ (s : ByteArray) (hs : s.size ≤ 1000000) (w : World) : Calls Try.prog 20 #[.string s] w fun e w' => ∃ v, e = .returned v ∧ OwnB w' w.heap.size v (bts s) ∧ Bel w w' := by
  go_enter Try.func20, Try.ntmps20
  go_wp2_with fail
  go_loopw [3, 4] (fun s3 s4 wr => ∃ k : Nat, s4 = .int .i64 k ∧ k ≤ s.size ∧ Hid (OwnB wr w.heap.size s3 ((bts s).take k) ∧ Bel w wr)) (fun _ s4 _ => s.size - (intOf s4).toNat)
  case atStart => exact ⟨0, rfl, Nat.zero_le _, Lib.hid ⟨by simpa using Rw.OwnR.nil_ bR _ w _, Bel.refl _⟩⟩
  case round =>
    obtain ⟨k, rfl, hk, hh⟩ := hrel
    have HO := Lib.hid hh.out.1
    have HB := Lib.hid hh.out.2
    clear hh
    by_cases hlt : k < s.size
    · have hlt3 : (k : Int) < s.size := by omega
      have hw1 : IntKind.i64.wrap ((k : Int) + 1) = ((k + 1 : Nat) : Int) := by rw [IntWalk.i64_in _ (by omega)]; omega
      obtain ⟨b, hb⟩ : ∃ b, (((s[k].toNat : Nat) : Int) == 49) = b := ⟨_, rfl⟩
      have HS := Lib.hid (show (bts s).take (k + 1) = (bts s).take k ++ [b] by rw [List.take_add_one, bts_at s k hlt, hb]; rfl)
      have HLN := Lib.hid (show ((bts s).take k).length ≤ k from by rw [List.length_take]; exact Nat.min_le_left _ _)
      have HX := Lib.hid (Rw.rs_one bR (r := b) (Blk.new wr #[.bool b] 4))
      have HO3 := Lib.hid (HO.out.bel ((Bel.refl wr).alloc (.cells #[.bool b] 4)))
      have HB3 := Lib.hid (HB.out.alloc (.cells #[.bool b] 4))
      go_wp2_with (at_builtin; refine append_bs rfl _ _ 23 rfl Try.underlying23 w.heap.size _ _ rfl HO3.out (some ⟨wr.heap.size, 0, none⟩) 1 1 [b] rfl HX.out (by have := HLN.out; omega) (Below.size HB3.out) ?_; intro v4 w4 hO4 hg4)
      have HF := Lib.hid (show OwnB w4 w.heap.size v4 ((bts s).take (k + 1)) ∧ Bel w w4 from ⟨by rw [HS.out]; exact hO4, HB3.out.grown hg4 (fun k hk => Rw.own_ge HO3.out hk)⟩)
      clear hO4 hg4 hb
      go_wp2_with fail
      go_roundw
      case rel => exact ⟨k + 1, rfl, by omega, HF⟩
      case measure => simp [intOf]; omega
    · obtain rfl : k = s.size := by omega
      have HF := Lib.hid (show OwnB wr w.heap.size u3 (bts s) from by have h := HO.out; rwa [List.take_of_length_le (by rw [bts_len]; exact Nat.le_refl _)] at h)
      go_wp2_with fail
      go_ret
      exact ⟨_, rfl, HF.out, HB.out⟩

/-- Two lists of one's own, apart. -/
structure Two (w wr : World) (u v : Value) (a b : List Nat) : Prop where
  o1 : OwnI wr w.heap.size u a
  o2 : OwnI wr w.heap.size v b
  ap : ∀ i, u.ownBlock = some i → ¬ v.ownBlock = some i
  bel : Bel w wr
theorem append_il {w : World} {ops : Array Oper} {rest : List Oper} {o : Oper} {a : Act} {Q : Exit → Act → World → Prop} (hgd : o.guard = none) (s x : Operand) (ty : TypeId)
    (ho : o.op = .call { callee := .builtin .append, args := #[s, x], argTypes := #[ty, ty] }) (hu : Try.prog.underlying ty = some (.slice 3))
    (base : Nat) (v : Value) (l : List Nat) (hs : a.eval s = v) (hown : OwnI w base v l) (ad : Addr) (y : Nat) (hx : a.eval x = .slice (some ad) 1 1) (hi : Rw.RS iR w (some ad) 1 1 [y])
    (hm : l.length ≤ 1000000000) (hb : base ≤ w.heap.size)
    (h : ∀ v' w', OwnI w' base v' (l ++ [y]) → w.grownBy w' v.ownBlock → (∀ i, v'.ownBlock = some i → v.ownBlock = some i ∨ i = w.heap.size) → wpList Try.prog ops Q rest (a.put o.dst v') w') : wpList Try.prog ops Q (o :: rest) a w := by
  obtain ⟨i0, h1, hz0, hz1, hz2⟩ := info_parts1 info_i
  obtain ⟨b, off, e, _⟩ := hi.row (by decide)
  injection e with e
  subst e
  refine Go.wpList_append_lies (w := w) hgd s x ty ho base 3 i0 (.int .i64 0) 1 8 hu h1 hz0 hz1 hz2 rfl (by decide) v l.length (Rw.flat iR l) hs hown ⟨b, off, none⟩ 1 1 (Rw.flat iR [y]) hx (by rw [Rw.flat_len iR]; rfl) (Rw.rs_news iR hi) (Rw.flat_one iR [y]) (by decide) (by unfold maxLen; omega) (by omega) hb w.heap.size rfl ?_
  intro g cap w' h2 h3 h4 h5
  refine h _ w' ?_ h3 (fun i hi => by injection hi with hi; subst hi; exact h4)
  show w'.ownsRow base 3 1 _ (l ++ [y]).length (Rw.flat iR (l ++ [y]))
  rw [Rw.flat_app, List.length_append]
  exact h2
theorem Two.bel_ {w wr : World} {u v : Value} {a b : List Nat} (h : Two w wr u v a b) (o : Obj) : Two w (wr.alloc o) u v a b := ⟨h.o1.bel ((Bel.refl _).alloc o), h.o2.bel ((Bel.refl _).alloc o), h.ap, h.bel.alloc o⟩
theorem Two.fst_ {w wr w4 : World} {u v v4 : Value} {a b c : List Nat} (h : Two w wr u v a b) (ho : OwnI w4 w.heap.size v4 c) (hg : wr.grownBy w4 u.ownBlock) (hap : ∀ i, v4.ownBlock = some i → u.ownBlock = some i ∨ i = wr.heap.size) : Two w w4 v4 v c b := by
  refine ⟨ho, ?_, fun i e e' => ?_, h.bel.grown hg (fun k hk => Rw.own_ge h.o1 hk)⟩
  · refine h.o2.kept hg ?_
    cases hv : v.ownBlock with
    | none => exact .inl rfl
    | some i => exact .inr (fun e => h.ap i (by rw [← e]) hv)
  · rcases hap i e with h1 | h1
    · exact h.ap i h1 e'
    · have := (h.o2.lt i e').2
      omega
theorem Two.snd_ {w wr w4 : World} {u v v4 : Value} {a b c : List Nat} (h : Two w wr u v a b) (ho : OwnI w4 w.heap.size v4 c) (hg : wr.grownBy w4 v.ownBlock) (hap : ∀ i, v4.ownBlock = some i → v.ownBlock = some i ∨ i = wr.heap.size) : Two w w4 u v4 a c := by
  refine ⟨?_, ho, fun i e e' => ?_, h.bel.grown hg (fun k hk => Rw.own_ge h.o2 hk)⟩
  · refine h.o1.kept hg ?_
    cases hv : u.ownBlock with
    | none => exact .inl rfl
    | some i => exact .inr (fun e => h.ap i hv (by rw [← e]))
  · rcases hap i e' with h1 | h1
    · exact h.ap i e h1
    · have := (h.o1.lt i e).2
      omega
set_option maxRecDepth 100000 in
set_option maxHeartbeats 4000000 in
theorem diff_ (A : Option Addr) (an ac : Nat) (l1 : List Bool) (B : Option Addr) (bn bc : Nat) (l2 : List Bool) (w : World) (h1 : Rw.RS bR w A an ac l1) (h2 : Rw.RS bR w B bn bc l2) (hn : an ≤ 1000000) (hm : bn ≤ 1000000) :
    Calls Try.prog 21 #[.slice A an ac, .slice B bn bc] w fun e w' => ∃ u v, e = .returned (.tuple #[u, v]) ∧ Two w w' u v (dfL (isb l2) (isb l1) (max an bn)) (dfL (isb l1) (isb l2) (max an bn)) := by
  have C1 := Lib.hid (fun k (hk : k ≤ 1000000) V (hv : Bel w V) => at_b A an ac l1 k V (h1.bel hv) (by omega) (by omega))
  have C2 := Lib.hid (fun k (hk : k ≤ 1000000) V (hv : Bel w V) => at_b B bn bc l2 k V (h2.bel hv) (by omega) (by omega))
  obtain ⟨N, hN⟩ : ∃ N, max an bn = N := ⟨_, rfl⟩
  have HN := Lib.hid hN
  have hNb : N ≤ 1000000 := by omega
  have HL1 := Lib.hid h1.len
  have HL2 := Lib.hid h2.len
  rw [hN]
  clear h1 h2 hN
  go_enter Try.func21, Try.ntmps21
  go_wp2_with fail
  go_loopw [4, 5, 6] (fun s4 s5 s6 wr => ∃ k : Nat, s6 = .int .i64 k ∧ k ≤ N ∧ Hid (Two w wr s4 s5 (dfL (isb l2) (isb l1) k) (dfL (isb l1) (isb l2) k))) (fun _ _ s6 _ => N - (intOf s6).toNat)
  case atStart => exact ⟨0, rfl, Nat.zero_le _, Lib.hid ⟨Rw.OwnR.nil_ _ _ _ _, Rw.OwnR.nil_ _ _ _ _, (fun i e => by cases e), Bel.refl _⟩⟩
  case round =>
    obtain ⟨k, rfl, hk, HT⟩ := hrel
    have D1 := Lib.hid (C1.out k (by omega) _ HT.out.bel)
    have D2 := Lib.hid (C2.out k (by omega) _ HT.out.bel)
    have HI1 := Lib.hid (dfL_succ (isb l2) (isb l1) k)
    have HI2 := Lib.hid (dfL_succ (isb l1) (isb l2) k)
    have HLN := Lib.hid (show (dfL (isb l2) (isb l1) k).length ≤ k ∧ (dfL (isb l1) (isb l2) k).length ≤ k from ⟨dfL_len _ _ _, dfL_len _ _ _⟩)
    obtain ⟨p, hp⟩ : ∃ p, decide (k < an) = p := ⟨_, rfl⟩
    obtain ⟨q, hq⟩ : ∃ q, decide (k < bn) = q := ⟨_, rfl⟩
    have HO1 := Lib.hid (show p = false → isb l1 k = false from fun h => is_out (by rw [HL1.out]; rw [h] at hp; have := of_decide_eq_false hp; omega))
    have HO2 := Lib.hid (show q = false → isb l2 k = false from fun h => is_out (by rw [HL2.out]; rw [h] at hq; have := of_decide_eq_false hq; omega))
    have HPQ := Lib.hid (show (p || q) = decide (k < N) by
      rw [← hp, ← hq, Bool.eq_iff_iff, Bool.or_eq_true, decide_eq_true_iff, decide_eq_true_iff, decide_eq_true_iff]
      have := HN.out
      omega)
    rw [hp] at D1
    rw [hq] at D2
    generalize isb l1 k = x at *
    generalize isb l2 k = y at *
    clear hp hq
    go_wp2_with fail
    refine D1.out.mono ?_
    rintro e w1 ⟨rfl, rfl⟩
    go_wp2_with fail
    refine D2.out.mono ?_
    rintro e w1 ⟨rfl, rfl⟩
    clear D1 D2
    by_cases hlt : k < N
    · have hw1 : IntKind.i64.wrap ((k : Int) + 1) = ((k + 1 : Nat) : Int) := by rw [IntWalk.i64_in _ (by omega)]; omega
      have HSAME := Lib.hid (show x = y → Two w wr u4 u5 (dfL (isb l2) (isb l1) (k + 1)) (dfL (isb l1) (isb l2) (k + 1)) from fun e => by
        subst e
        rw [HI1.out, HI2.out, if_neg (by cases x <;> decide), if_neg (by cases x <;> decide)]
        exact HT.out)
      cases p with
      | false =>
        cases q with
        | false =>
          exact absurd HPQ.out (by simp [hlt])
        | true =>
          obtain rfl : x = false := HO1.out rfl
          cases y with
          | false =>
            have HF := Lib.hid (HSAME.out rfl)
            clear HSAME HI1 HI2
            go_wp2_with fail
            go_roundw
            case rel => exact ⟨k + 1, rfl, by omega, HF⟩
            case measure => simp [intOf]; omega
          | true =>
            have HX := Lib.hid (Rw.rs_one iR (r := k) (Blk.new wr #[.int .i64 k] 3))
            have HT3 := Lib.hid (HT.out.bel_ (.cells #[.int .i64 k] 3))
            have HB3 := Lib.hid (HT3.out.bel)
            go_wp2_with (at_builtin; refine append_il rfl _ _ 27 rfl Try.underlying27 w.heap.size _ _ rfl HT3.out.o1 ⟨wr.heap.size, 0, none⟩ k rfl HX.out (by have := HLN.out; omega) (Below.size HB3.out) ?_; intro v4 w4 hO4 hg4 hap)
            have HF := Lib.hid (HT3.out.fst_ hO4 hg4 hap)
            clear hO4 hg4 hap
            go_wp2_with fail
            go_roundw
            case rel => exact ⟨k + 1, rfl, by omega, Lib.hid (by rw [HI1.out, HI2.out]; exact HF.out)⟩
            case measure => simp [intOf]; omega
      | true =>
        cases q with
        | false =>
          obtain rfl : y = false := HO2.out rfl
          cases x with
          | false =>
            have HF := Lib.hid (HSAME.out rfl)
            clear HSAME HI1 HI2
            go_wp2_with fail
            go_roundw
            case rel => exact ⟨k + 1, rfl, by omega, HF⟩
            case measure => simp [intOf]; omega
          | true =>
            have HX := Lib.hid (Rw.rs_one iR (r := k) (Blk.new wr #[.int .i64 k] 3))
            have HT3 := Lib.hid (HT.out.bel_ (.cells #[.int .i64 k] 3))
            have HB3 := Lib.hid (HT3.out.bel)
            go_wp2_with (at_builtin; refine append_il rfl _ _ 27 rfl Try.underlying27 w.heap.size _ _ rfl HT3.out.o2 ⟨wr.heap.size, 0, none⟩ k rfl HX.out (by have := HLN.out; omega) (Below.size HB3.out) ?_; intro v4 w4 hO4 hg4 hap)
            have HF := Lib.hid (HT3.out.snd_ hO4 hg4 hap)
            clear hO4 hg4 hap
            go_wp2_with fail
            go_roundw
            case rel => exact ⟨k + 1, rfl, by omega, Lib.hid (by rw [HI1.out, HI2.out]; exact HF.out)⟩
            case measure => simp [intOf]; omega
        | true =>
          cases x with
          | false =>
            cases y with
            | false =>
              have HF := Lib.hid (HSAME.out rfl)
              clear HSAME HI1 HI2
              go_wp2_with fail
              go_roundw
              case rel => exact ⟨k + 1, rfl, by omega, HF⟩
              case measure => simp [intOf]; omega
            | true =>
              have HX := Lib.hid (Rw.rs_one iR (r := k) (Blk.new wr #[.int .i64 k] 3))
              have HT3 := Lib.hid (HT.out.bel_ (.cells #[.int .i64 k] 3))
              have HB3 := Lib.hid (HT3.out.bel)
              go_wp2_with (at_builtin; refine append_il rfl _ _ 27 rfl Try.underlying27 w.heap.size _ _ rfl HT3.out.o1 ⟨wr.heap.size, 0, none⟩ k rfl HX.out (by have := HLN.out; omega) (Below.size HB3.out) ?_; intro v4 w4 hO4 hg4 hap)
              have HF := Lib.hid (HT3.out.fst_ hO4 hg4 hap)
              clear hO4 hg4 hap
              go_wp2_with fail
              go_roundw
              case rel => exact ⟨k + 1, rfl, by omega, Lib.hid (by rw [HI1.out, HI2.out]; exact HF.out)⟩
              case measure => simp [intOf]; omega
          | true =>
            cases y with
            | false =>
              have HX := Lib.hid (Rw.rs_one iR (r := k) (Blk.new wr #[.int .i64 k] 3))
              have HT3 := Lib.hid (HT.out.bel_ (.cells #[.int .i64 k] 3))
              have HB3 := Lib.hid (HT3.out.bel)
              go_wp2_with (at_builtin; refine append_il rfl _ _ 27 rfl Try.underlying27 w.heap.size _ _ rfl HT3.out.o2 ⟨wr.heap.size, 0, none⟩ k rfl HX.out (by have := HLN.out; omega) (Below.size HB3.out) ?_; intro v4 w4 hO4 hg4 hap)
              have HF := Lib.hid (HT3.out.snd_ hO4 hg4 hap)
              clear hO4 hg4 hap
              go_wp2_with fail
              go_roundw
              case rel => exact ⟨k + 1, rfl, by omega, Lib.hid (by rw [HI1.out, HI2.out]; exact HF.out)⟩
              case measure => simp [intOf]; omega
            | true =>
              have HF := Lib.hid (HSAME.out rfl)
              clear HSAME HI1 HI2
              go_wp2_with fail
              go_roundw
              case rel => exact ⟨k + 1, rfl, by omega, HF⟩
              case measure => simp [intOf]; omega
    · obtain rfl : k = N := by omega
      have hpq : (p || q) = false := by rw [HPQ.out]; simp
      rw [Bool.or_eq_false_iff] at hpq
      obtain ⟨rfl, rfl⟩ := hpq
      go_wp2_with fail
      go_ret2
      exact ⟨_, _, rfl, HT.out⟩
end Ac
end Go.Proofs.Ytmbodfmdaocppaa
