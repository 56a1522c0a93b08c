/-
  Texts of this claim, put together: Ro9, Ro10, Ro11. What each one says, and under which conditions, stands ahead of it.
-/
import Derived.Test.YtpfdakkameifkaaRC

section
/-
  What roster.Jail, Unjail, Punished, Punish and Choose answer of any list. Conditions: at most a million validators and bools; operators are ints.
-/
namespace Go.Proofs.Ytpfdakkameifkaa
open Go.RowKit Go.Shelf
set_option linter.unusedVariables false
set_option linter.unusedSimpArgs false
namespace Ro
open Kk Pm

set_option maxRecDepth 100000 in
set_option maxHeartbeats 2000000 in
theorem jail (A : Option Addr) (n c : Nat) (l : List V6) (v tl : Int) (w : World) (hi : Rw.RS vR w A n c l) (hn : n ≤ 1000000) (hO : ∀ r ∈ l, I64 (op r)) :
    Calls Try.prog 30 #[.slice A n c, .int .i64 v, .int .i64 tl] w fun x w' => CgR w w' l v (cgE l v (jaE tl)) (jaF tl) x := by
  obtain ⟨W, hW⟩ : ∃ W, w.alloc (.cells #[.int .i64 tl] 3) = W := ⟨_, rfl⟩
  have BW := Lib.hid (show Bel w W by rw [← hW]; exact (Bel.refl w).alloc _)
  have P0 := Lib.hid (show Blk W (w.heap.size) #[.int .i64 tl] 3 by rw [← hW]; exact (Blk.new w _ _))
  have CH := Lib.hid (changed A n c l v 64 #[.pointer (some ⟨w.heap.size, 0, none⟩)] (jaE tl) (jaF tl) W (hi.bel BW.out) hn hO (fun args w => rfl) (jail1 W l w.heap.size tl P0.out))
  obtain ⟨E, hE⟩ : ∃ E, cgE l v (jaE tl) = E := ⟨_, rfl⟩
  rw [hE] at CH ⊢
  have HW := Lib.hid hW
  clear hi hO hE hW
  go_enter Try.func30, Try.ntmps30
  go_upto_region 1 with fail
  try rw [HW.out]
  go_wp2_with fail
  refine CH.out.mono ?_
  rintro x w1 ⟨y, rfl, ho, kb⟩
  have HO := Lib.hid (ho.mono (Below.size BW.out))
  have KB := Lib.hid (BW.out.trans kb)
  clear ho kb CH
  go_wp2_with fail
  go_ret2
  exact ⟨_, rfl, HO.out, KB.out⟩
set_option maxRecDepth 100000 in
set_option maxHeartbeats 2000000 in
theorem unjail (A : Option Addr) (n c : Nat) (l : List V6) (v by_ h_ : Int) (w : World) (hi : Rw.RS vR w A n c l) (hn : n ≤ 1000000) (hO : ∀ r ∈ l, I64 (op r)) :
    Calls Try.prog 32 #[.slice A n c, .int .i64 v, .int .i64 by_, .int .i64 h_] w fun x w' => CgR w w' l v (cgE l v (unE by_ h_)) (setS 1) x := by
  obtain ⟨W, hW⟩ : ∃ W, (w.alloc (.cells #[.int .i64 by_] 3)).alloc (.cells #[.int .i64 h_] 3) = W := ⟨_, rfl⟩
  have BW := Lib.hid (show Bel w W by rw [← hW]; exact ((Bel.refl w).alloc _).alloc _)
  have P0 := Lib.hid (show Blk W (w.heap.size) #[.int .i64 by_] 3 by rw [← hW]; exact ((Blk.new w _ _).alloc _))
  have P1 := Lib.hid (show Blk W (w.heap.size + 1) #[.int .i64 h_] 3 by rw [← hW]; have h := Blk.new (w.alloc (.cells #[.int .i64 by_] 3)) #[.int .i64 h_] 3; simpa using h)
  have CH := Lib.hid (changed A n c l v 67 #[.pointer (some ⟨w.heap.size, 0, none⟩), .pointer (some ⟨w.heap.size + 1, 0, none⟩)] (unE by_ h_) (setS 1) W (hi.bel BW.out) hn hO (fun args w => rfl) (unjail1 W l w.heap.size (w.heap.size + 1) by_ h_ P0.out P1.out))
  obtain ⟨E, hE⟩ : ∃ E, cgE l v (unE by_ h_) = E := ⟨_, rfl⟩
  rw [hE] at CH ⊢
  have HW := Lib.hid hW
  clear hi hO hE hW
  go_enter Try.func32, Try.ntmps32
  go_upto_region 1 with fail
  try rw [HW.out]
  go_wp2_with fail
  refine CH.out.mono ?_
  rintro x w1 ⟨y, rfl, ho, kb⟩
  have HO := Lib.hid (ho.mono (Below.size BW.out))
  have KB := Lib.hid (BW.out.trans kb)
  clear ho kb CH
  go_wp2_with fail
  go_ret2
  exact ⟨_, rfl, HO.out, KB.out⟩
theorem pdE_def (l : List V6) (v c : Int) : pdE l v c = if (chk l).1 ≠ 0 then (chk l).1 else if ¬ (c = 1 ∨ c = 2) then 2 else if reE l v ≠ 0 then reE l v else (nth l v).elim 10 (fun r => if c = 2 ∧ pro r = true then 19 else 0) := by
  unfold pdE
  by_cases h0 : (chk l).1 ≠ 0
  · rw [if_pos h0, if_pos h0]
  · rw [if_neg h0, if_neg h0]
    by_cases h1 : c = 1 ∨ c = 2
    · rw [if_neg (fun h => h h1), if_neg (fun h => h h1)]
      unfold reE
      cases hn : nth l v with
      | none => rfl
      | some r =>
        by_cases h4 : st r = 4 <;> simp [h4]
    · rw [if_pos h1, if_pos h1]
set_option maxRecDepth 100000 in
set_option maxHeartbeats 2000000 in
theorem punished (A : Option Addr) (n c : Nat) (l : List V6) (v cl : Int) (w : World) (hi : Rw.RS vR w A n c l) (hn : n ≤ 1000000) (hO : ∀ r ∈ l, I64 (op r)) :
    Calls Try.prog 36 #[.slice A n c, .int .i64 v, .int .i64 cl] w fun x w' => x = .returned (.int .i64 (pdE l v cl)) ∧ Bel w w' := by
  have HI := Lib.hid hi
  have HLN := Lib.hid hi.len
  have CK := Lib.hid (check A n c l w hi (by omega) hO)
  have RE := Lib.hid (fun V (hv : Bel w V) => refuse A n c l v V (hi.bel hv) (by omega))
  obtain ⟨e1, he1⟩ : ∃ e, (chk l).1 = e := ⟨_, rfl⟩
  obtain ⟨e2, he2⟩ : ∃ e, (chk l).2 = e := ⟨_, rfl⟩
  obtain ⟨e3, he3⟩ : ∃ e, reE l v = e := ⟨_, rfl⟩
  obtain ⟨E, hE⟩ : ∃ E, pdE l v cl = E := ⟨_, rfl⟩
  have HE := Lib.hid hE
  rw [pdE_def, he1, he3] at HE
  rw [he1, he2] at CK
  rw [he3] at RE
  rw [hE]
  have H3 := Lib.hid (show (nth l v).elim 10 (fun r => if st r = 4 then 20 else 0) = e3 from he3)
  clear hi he1 he2 he3 hE hO
  go_enter Try.func36, Try.ntmps36
  go_wp2_with fail
  refine CK.out.mono ?_
  rintro x w1 ⟨rfl, kb⟩
  have K1 := Lib.hid kb
  clear kb CK
  by_cases h0 : e1 = 0
  case neg =>
    have hne : (e1 != 0) = true := by rw [bne_iff_ne]; exact h0
    obtain rfl : e1 = E := by have := HE.out; rwa [if_pos h0] at this
    go_wp2_with fail
    go_ret
    exact ⟨rfl, K1.out⟩
  subst h0
  have IC := isClass cl w1
  by_cases h1 : cl = 1 ∨ cl = 2
  case neg =>
    rw [decide_eq_false h1] at IC
    obtain rfl : E = 2 := by have := HE.out; rw [if_neg (by decide), if_pos h1] at this; exact this.symm
    clear h1
    go_wp2_with fail
    refine IC.mono ?_
    rintro x wz ⟨rfl, rfl⟩
    go_wp2_with fail
    go_ret
    exact ⟨rfl, K1.out⟩
  have HE := Lib.hid (show (if e3 ≠ 0 then e3 else (nth l v).elim 10 (fun r => if cl = 2 ∧ pro r = true then 19 else 0)) = E by have := HE.out; rwa [if_neg (by decide), if_neg (fun h => h h1)] at this)
  rw [decide_eq_true h1] at IC
  have H1 := Lib.hid h1
  clear h1
  have RE := Lib.hid (RE.out w1 K1.out)
  go_wp2_with fail
  refine IC.mono ?_
  rintro x wz ⟨rfl, rfl⟩
  clear IC
  go_wp2_with fail
  refine RE.out.mono ?_
  rintro x w2 ⟨rfl, kb⟩
  have K2 := Lib.hid (K1.out.trans kb)
  clear kb RE
  by_cases h3 : e3 = 0
  case neg =>
    have hne : (e3 != 0) = true := by rw [bne_iff_ne]; exact h3
    obtain rfl : e3 = E := by have := HE.out; rwa [if_pos h3] at this
    go_wp2_with fail
    go_ret
    exact ⟨rfl, K2.out⟩
  subst h3
  have HE := Lib.hid (show (nth l v).elim 10 (fun r => if cl = 2 ∧ pro r = true then 19 else 0) = E by have := HE.out; rwa [if_neg (by decide)] at this)
  have hv : 0 ≤ v ∧ v < l.length := by
    have := H3.out
    by_cases hb : v < 0 ∨ (l.length : Int) ≤ v
    · rw [nth_none hb] at this; cases this
    · omega
  obtain ⟨k, rfl⟩ : ∃ k : Nat, v = k := ⟨v.toNat, by omega⟩
  have hlt : k < n := by have := HLN.out; omega
  clear hv
  obtain ⟨⟨r1, r2, r3, r4, r5, r6⟩, hr⟩ := HI.out.get hlt
  obtain ⟨b, q, rfl, hb, hrow⟩ := (HI.out.bel K2.out).at hlt hr
  have HE := Lib.hid (show (if cl = 2 ∧ r6 = true then (19 : Int) else 0) = E by have := HE.out; rw [nth_some hr] at this; exact this)
  have hlt3 : (k : Int) < n := by omega
  obtain ⟨c0, c1, c2, c3, c4, c5⟩ := rng6 (show w2.rangeAt b (q + k * 6) [.int .i64 r1, .int .u64 r2, .int .i64 r3, .int .i64 r4, .bool r5, .bool r6] from hrow)
  clear hr hrow H3 c0 c1 c2 c3 c4
  by_cases h2 : cl = 2
  · subst h2
    cases r6 with
    | true =>
      obtain rfl : E = 19 := by have := HE.out; rw [if_pos ⟨rfl, rfl⟩] at this; exact this.symm
      go_wp2_with fail
      go_ret
      exact ⟨rfl, K2.out⟩
    | false =>
      obtain rfl : E = 0 := by have := HE.out; rw [if_neg (fun h => by cases h.2)] at this; exact this.symm
      go_wp2_with fail
      go_ret
      exact ⟨rfl, K2.out⟩
  · have e2 : (cl == 2) = false := beq_eq_false_iff_ne.2 h2
    obtain rfl : E = 0 := by have := HE.out; rw [if_neg (fun h => h2 h.1)] at this; exact this.symm
    clear h2
    go_wp2_with fail
    go_ret
    exact ⟨rfl, K2.out⟩
theorem pdE_ok {l : List V6} {v c : Int} (h : pdE l v c = 0) : (chk l).1 = 0 ∧ nth l v ≠ none := by
  unfold pdE at h
  by_cases h0 : (chk l).1 ≠ 0
  · rw [if_pos h0] at h; exact absurd h h0
  · rw [if_neg h0] at h
    refine ⟨by omega, fun hn => ?_⟩
    by_cases h1 : ¬ (c = 1 ∨ c = 2)
    · rw [if_pos h1] at h; cases h
    · rw [if_neg h1, hn] at h; cases h
theorem cgE_const {l : List V6} {v x : Int} (h : (chk l).1 = 0) (h2 : nth l v ≠ none) : cgE l v (fun _ => x) = x := by
  unfold cgE
  rw [if_neg (by omega)]
  cases hn : nth l v with
  | none => exact absurd hn h2
  | some r => rfl
set_option maxRecDepth 100000 in
set_option maxHeartbeats 2000000 in
theorem punish (A : Option Addr) (n c : Nat) (l : List V6) (v cl tl : Int) (w : World) (hi : Rw.RS vR w A n c l) (hn : n ≤ 1000000) (hO : ∀ r ∈ l, I64 (op r)) :
    Calls Try.prog 34 #[.slice A n c, .int .i64 v, .int .i64 cl, .int .i64 tl] w fun x w' => CgR w w' l v (puE l v cl tl) (puF cl tl) x := by
  obtain ⟨W, hW⟩ : ∃ W, (w.alloc (.cells #[.int .i64 cl] 3)).alloc (.cells #[.int .i64 tl] 3) = W := ⟨_, rfl⟩
  have BW := Lib.hid (show Bel w W by rw [← hW]; exact ((Bel.refl w).alloc _).alloc _)
  have P0 := Lib.hid (show Blk W w.heap.size #[.int .i64 cl] 3 by rw [← hW]; exact (Blk.new w _ _).alloc _)
  have P1 := Lib.hid (show Blk W (w.heap.size + 1) #[.int .i64 tl] 3 by rw [← hW]; have h := Blk.new (w.alloc (.cells #[.int .i64 cl] 3)) #[.int .i64 tl] 3; simpa using h)
  have PD := Lib.hid (punished A n c l v cl W (hi.bel BW.out) hn hO)
  have CH := Lib.hid (fun V (hv : Bel W V) => changed A n c l v 68 #[.pointer (some ⟨w.heap.size, 0, none⟩), .pointer (some ⟨w.heap.size + 1, 0, none⟩)] (fun _ => if untB tl = false then 3 else 0) (puF cl tl) V (hi.bel (BW.out.trans hv)) hn hO (fun args w => rfl) (punish1 V l w.heap.size (w.heap.size + 1) cl tl (P0.out.bel hv) (P1.out.bel hv)))
  have HK := Lib.hid (@pdE_ok l v cl)
  obtain ⟨D, hD⟩ : ∃ D, pdE l v cl = D := ⟨_, rfl⟩
  obtain ⟨E, hE⟩ : ∃ E, puE l v cl tl = E := ⟨_, rfl⟩
  have HE := Lib.hid (show (if D ≠ 0 then D else if untB tl = false then 3 else 0) = E by rw [← hE, ← hD]; rfl)
  rw [hD] at PD HK
  rw [hE]
  have HW := Lib.hid hW
  clear hi hO hE hD hW
  have p0 := P0.out.cell 0 rfl
  go_enter Try.func34, Try.ntmps34
  go_upto_region 1 with fail
  try rw [HW.out]
  go_wp2_with fail
  refine PD.out.mono ?_
  rintro x w1 ⟨rfl, kb⟩
  have K1 := Lib.hid kb
  clear kb PD p0
  by_cases h0 : D = 0
  case neg =>
    have hne : (D != 0) = true := by rw [bne_iff_ne]; exact h0
    obtain rfl : D = E := by have := HE.out; rwa [if_pos h0] at this
    go_wp2_with fail
    go_ret2
    exact cgR_no (BW.out.trans K1.out) h0
  subst h0
  have CH := Lib.hid (CH.out w1 K1.out)
  rw [cgE_const (HK.out rfl).1 (HK.out rfl).2, show (if untB tl = false then (3 : Int) else 0) = E by have := HE.out; rwa [if_neg (by decide)] at this] at CH
  clear HK HE
  go_wp2_with fail
  refine CH.out.mono ?_
  rintro x w2 ⟨y, rfl, ho, kb⟩
  have HO := Lib.hid (ho.mono (Below.size (BW.out.trans K1.out)))
  have KB := Lib.hid ((BW.out.trans K1.out).trans kb)
  clear ho kb CH
  go_wp2_with fail
  go_ret2
  exact ⟨_, rfl, HO.out, KB.out⟩
end Ro
end Go.Proofs.Ytpfdakkameifkaa
end

section
/-
  What roster.Choose answers of any list. Conditions: at most a million validators and bools; operators are ints.
-/
namespace Go.Proofs.Ytpfdakkameifkaa
open Go.RowKit Go.Shelf
set_option linter.unusedVariables false
set_option linter.unusedSimpArgs false
namespace Ro
open Kk Pm

/-- The list with the first k chosen. -/
def cur (l : List V6) (b : List Bool) (k : Nat) : List V6 := (l.zipWith pick b).take k ++ l.drop k
theorem cur_len {l : List V6} {b : List Bool} (h : b.length = l.length) {k : Nat} (hk : k ≤ l.length) : (cur l b k).length = l.length := by
  unfold cur
  rw [List.length_append, List.length_take, List.length_zipWith, List.length_drop]; omega
theorem cur_zero (l : List V6) (b : List Bool) : cur l b 0 = l := by simp [cur]
theorem cur_end {l : List V6} {b : List Bool} (h : b.length = l.length) : cur l b l.length = l.zipWith pick b := by
  unfold cur
  rw [List.drop_length, List.append_nil, List.take_of_length_le (by rw [List.length_zipWith]; omega)]
theorem cur_at {l : List V6} {b : List Bool} (h : b.length = l.length) {k : Nat} {r : V6} (hr : l[k]? = some r) : (cur l b k)[k]? = some r := by
  have hk := (List.getElem?_eq_some_iff.1 hr).1
  have h1 : ((l.zipWith pick b).take k).length = k := by rw [List.length_take, List.length_zipWith]; omega
  unfold cur
  rw [List.getElem?_append_right (by omega), h1, Nat.sub_self, List.getElem?_drop, Nat.add_zero, hr]
theorem cur_set {l : List V6} {b : List Bool} (h : b.length = l.length) {k : Nat} {r : V6} {x : Bool} (hr : l[k]? = some r) (hx : b[k]? = some x) : (cur l b k).set k (pick r x) = cur l b (k + 1) := by
  have hk := (List.getElem?_eq_some_iff.1 hr).1
  have h1 : ((l.zipWith pick b).take k).length = k := by rw [List.length_take, List.length_zipWith]; omega
  have h2 : (l.zipWith pick b)[k]? = some (pick r x) := by rw [List.getElem?_zipWith, hr, hx]
  unfold cur
  rw [List.set_append_right _ _ (by omega), h1, Nat.sub_self, List.take_add_one, h2, show l.drop k = l[k] :: l.drop (k + 1) from List.drop_eq_getElem_cons hk, List.set_cons_zero]
  simp only [Option.toList_some, List.append_assoc, List.cons_append, List.nil_append]
theorem cur_same {l : List V6} {b : List Bool} (h : b.length = l.length) {k : Nat} {r : V6} {x : Bool} (hr : l[k]? = some r) (hx : b[k]? = some x) (hp : pick r x = r) : cur l b (k + 1) = cur l b k := by
  rw [← cur_set h hr hx, hp]
  have := cur_at h hr
  obtain ⟨h1, h2⟩ := List.getElem?_eq_some_iff.1 this
  rw [← h2]
  exact List.set_getElem_self h1
theorem clash_at : ∀ {l : List V6} {b : List Bool} {k : Nat} {r : V6} {x : Bool}, l[k]? = some r → b[k]? = some x → (x && !free r) = true → clash l b = true
  | y :: l, z :: b, 0, r, x, h1, h2, h3 => by
    simp at h1 h2
    subst h1 h2
    show ((z && !free y) || clash l b) = true
    rw [h3]; rfl
  | y :: l, z :: b, k + 1, r, x, h1, h2, h3 => by
    show ((z && !free y) || clash l b) = true
    rw [clash_at (l := l) (b := b) (k := k) (by simpa using h1) (by simpa using h2) h3, Bool.or_true]
  | [], _, _, _, _, h1, _, _ => by simp at h1
  | _ :: _, [], _, _, _, _, h2, _ => by simp at h2
theorem clash_no : ∀ {l : List V6} {b : List Bool}, b.length = l.length → (∀ (j : Nat) (r : V6) (x : Bool), l[j]? = some r → b[j]? = some x → (x && !free r) = false) → clash l b = false
  | [], _, _, _ => rfl
  | _ :: _, [], h, _ => by simp at h
  | y :: l, z :: b, h, hh => by
    show ((z && !free y) || clash l b) = false
    rw [hh 0 y z rfl rfl, clash_no (l := l) (b := b) (by simpa using h) (fun j r x h1 h2 => hh (j + 1) r x (by simpa using h1) (by simpa using h2))]; rfl
/-- What Choose tells. -/
def ChR (w w' : World) (l : List V6) (b : List Bool) (e : Ending) : Prop :=
  ∃ x, e = .returned (.tuple #[x, .int .i64 (chE l b)]) ∧ OwnV w' w.heap.size x (chL l b) ∧ Bel w w'
theorem chR_no {w w' : World} {l : List V6} {b : List Bool} {E : Int} (hb : Bel w w') (he : chE l b = E) (hx : E ≠ 0) : ChR w w' l b (.returned (.tuple #[.slice none 0 0, .int .i64 E])) := by
  refine ⟨.slice none 0 0, by rw [he], ?_, hb⟩
  unfold chL; rw [if_neg (by rw [he]; exact hx)]; exact Rw.OwnR.nil_ _ _ _ _
theorem chE_0 {l : List V6} {b : List Bool} (h : (chk l).1 ≠ 0) : chE l b = (chk l).1 := if_pos h
theorem chE_2 {l : List V6} {b : List Bool} (h : (chk l).1 = 0) (h1 : b.length ≠ l.length) : chE l b = 2 := by unfold chE; rw [if_neg (by omega), if_pos h1]
theorem chE_11 {l : List V6} {b : List Bool} (h : (chk l).1 = 0) (h1 : b.length = l.length) (h2 : clash l b = true) : chE l b = 11 := by unfold chE; rw [if_neg (by omega), if_neg (by omega), if_pos h2]
theorem chE_ok {l : List V6} {b : List Bool} (h : (chk l).1 = 0) (h1 : b.length = l.length) (h2 : clash l b = false) : chE l b = 0 := by unfold chE; rw [if_neg (by omega), if_neg (by omega), if_neg (by rw [h2]; decide)]
theorem pick_t {r1 r2 r3 r4 : Int} {r5 r6 : Bool} (h : free (r1, r2, r3, r4, r5, r6) = true) : pick (r1, r2, r3, r4, r5, r6) true = (r1, r2, 2, r4, r5, r6) := if_pos h
theorem pick_f {r1 r2 r3 r4 : Int} {r5 r6 : Bool} (h : free (r1, r2, r3, r4, r5, r6) = true) : pick (r1, r2, r3, r4, r5, r6) false = (r1, r2, 1, r4, r5, r6) := if_pos h
theorem pick_n {r : V6} {x : Bool} (h : free r = false) : pick r x = r := by unfold pick; rw [if_neg (by rw [h]; decide)]
set_option maxRecDepth 100000 in
set_option maxHeartbeats 8000000 in
theorem choose (A : Option Addr) (n c : Nat) (l : List V6) (B : Option Addr) (m d : Nat) (bs : List Bool) (w : World) (hi : Rw.RS vR w A n c l) (hn : n ≤ 1000000) (hO : ∀ r ∈ l, I64 (op r)) (hb : Rw.RS bR w B m d bs) (hm : m ≤ 1000000) :
    Calls Try.prog 28 #[.slice A n c, .slice B m d] w fun x w' => ChR w w' l bs x := by
  have HI := Lib.hid hi
  have HLN := Lib.hid hi.len
  have HLB := Lib.hid hb.len
  have HB := Lib.hid hb
  have CK := Lib.hid (check A n c l w hi (by omega) hO)
  have CN := Lib.hid (fun V (hv : Bel w V) => clone A n c l V (hi.bel hv) (by omega))
  obtain ⟨e1, he1⟩ : ∃ e, (chk l).1 = e := ⟨_, rfl⟩
  obtain ⟨e2, he2⟩ : ∃ e, (chk l).2 = e := ⟨_, rfl⟩
  have H1 := Lib.hid he1
  rw [he1, he2] at CK
  clear hi he1 he2 hO hb
  go_enter Try.func28, Try.ntmps28
  go_wp2_with fail
  refine CK.out.mono ?_
  rintro x w1 ⟨rfl, kb⟩
  have K1 := Lib.hid kb
  clear kb CK
  by_cases h0 : e1 = 0
  case neg =>
    have hne : (e1 != 0) = true := by rw [bne_iff_ne]; exact h0
    have HE := Lib.hid (chE_0 (l := l) (b := bs) (by rw [H1.out]; exact h0))
    go_wp2_with fail
    go_ret2
    exact chR_no K1.out (HE.out.trans H1.out) h0
  subst h0
  by_cases hmn : m = n
  case neg =>
    have hne : ((m : Int) != n) = true := by rw [bne_iff_ne]; omega
    have HE := Lib.hid (chE_2 (l := l) (b := bs) H1.out (by rw [HLN.out, HLB.out]; exact hmn))
    go_wp2_with fail
    go_ret2
    exact chR_no K1.out HE.out (by decide)
  subst hmn
  have hne : ((m : Int) != m) = false := by simp
  have HEQ := Lib.hid (show bs.length = l.length by rw [HLN.out, HLB.out])
  have CN := Lib.hid (CN.out w1 K1.out)
  go_wp2_with fail
  refine CN.out.mono ?_
  rintro x w2 ⟨vc, rfl, ho, kb⟩
  obtain ⟨Ac, cc, rfl, hrs⟩ := ho.slice
  rw [HLN.out] at hrs ho ⊢
  have K2 := Lib.hid (K1.out.trans kb)
  have HO := Lib.hid (ho.mono (Below.size K1.out))
  have FR := Lib.hid (free_ Ac m cc l w2 hrs (by omega))
  clear kb ho hrs CN
  go_wp2_with fail
  refine FR.out.mono ?_
  rintro x w3 ⟨vf, rfl, hf, kb⟩
  obtain ⟨Af, cf, rfl, hfr⟩ := hf.slice
  rw [List.length_map, HLN.out] at hf hfr ⊢
  have K3 := Lib.hid (K2.out.trans kb)
  have HO3 := Lib.hid (HO.out.bel kb)
  have HF3 := Lib.hid hf
  clear kb hf hfr FR HO
  go_wp2_with fail
  go_loopw [4, 5, 28] (fun s4 s5 s28 wr => ∃ k : Nat, k ≤ m ∧ s28 = .int .i64 k ∧ s4 = .slice none 0 0 ∧ s5 = .int .i64 0 ∧ Hid (OwnV wr w.heap.size (.slice Ac m cc) (cur l bs k)) ∧ Hid (OwnB wr w2.heap.size (.slice Af m cf) (l.map free)) ∧ Hid (Bel w wr) ∧ Hid (∀ (j : Nat) (r : V6) (x : Bool), j < k → l[j]? = some r → bs[j]? = some x → (x && !free r) = false)) (fun _ _ s28 _ => m - (intOf s28).toNat)
  case atStart => exact ⟨0, Nat.zero_le _, rfl, rfl, rfl, Lib.hid (by rw [cur_zero]; exact HO3.out), HF3, K3, Lib.hid (fun j r x hj => absurd hj (by omega))⟩
  case round =>
    obtain ⟨k, hk, rfl, rfl, rfl, ho, hf, hh, hz⟩ := hrel
    by_cases hlt : k < m
    · obtain ⟨⟨r1, r2, r3, r4, r5, r6⟩, hr⟩ := HI.out.get hlt
      obtain ⟨a1, a2, x, rfl, _, hx, ca⟩ := bool_at (HB.out.bel hh.out) hlt
      have hfs : Rw.RS bR wr Af m cf (l.map free) := by
        obtain ⟨A', c', e, h⟩ := hf.out.slice
        injection e with e1 e2 e3
        subst e1 e3
        rw [List.length_map, HLN.out] at h
        exact h
      obtain ⟨b1, b2, y, rfl, _, hy, cb⟩ := bool_at hfs hlt
      have hy2 : free (r1, r2, r3, r4, r5, r6) = y := by
        rw [List.getElem?_map, hr] at hy
        exact Option.some.inj hy
      clear hfs hy
      obtain ⟨g, cap, e, hge, hrb, hcm⟩ := Rw.rb_own vR ho.out (by rw [cur_len HEQ.out (by rw [HLN.out]; omega), HLN.out]; omega)
      rw [cur_len HEQ.out (by rw [HLN.out]; omega), HLN.out] at e
      injection e with ea eb ec
      subst ea ec
      have HRB := Lib.hid hrb
      have HGE := Lib.hid hge
      have HCM := Lib.hid hcm
      have HR := Lib.hid hr
      have HX := Lib.hid hx
      have HY := Lib.hid hy2
      have hlt3 : (k : Int) < m := by omega
      have hlt0 : (0 : Int) ≤ k := by omega
      have hfz := hrb.frozen (k * 6 + 2)
      have hthere : wr.cell? ⟨g, k * 6 + 2, none⟩ = some (.int .i64 r3) := (rb_cells hrb (cur_at HEQ.out hr)).2.2.1
      have STEP := fun (s : Int) (hp : pick (r1, r2, r3, r4, r5, r6) x = (r1, r2, s, r4, r5, r6)) => (show
          OwnV (wr.setCell ⟨g, k * 6 + 2, none⟩ (.int .i64 s)) w.heap.size (.slice (some ⟨g, 0, none⟩) m cc) (cur l bs (k + 1)) ∧ OwnB (wr.setCell ⟨g, k * 6 + 2, none⟩ (.int .i64 s)) w2.heap.size (.slice (some ⟨b1, b2, none⟩) m cf) (l.map free) ∧ Bel w (wr.setCell ⟨g, k * 6 + 2, none⟩ (.int .i64 s)) from by
        have h1 := HRB.out.set (o := 2) (r' := (r1, r2, s, r4, r5, r6)) (v := .int .i64 s) (by decide) (cur_at HEQ.out HR.out) rfl
        rw [← hp, cur_set HEQ.out HR.out HX.out] at h1
        have h2 := own_rb h1 HGE.out HCM.out
        rw [cur_len HEQ.out (by rw [HLN.out]; omega), HLN.out] at h2
        refine ⟨h2, hf.out.kep (S := fun b => b = g) (Kep.set_self (Kep.refl _ _) _ _) (fun i e e' => ?_), hh.out.set HGE.out _⟩
        obtain ⟨C, hC, _⟩ := HRB.out.blk
        subst e'
        exact Rw.own_ne hf.out hC (by decide) e)
      have STEP := Lib.hid STEP
      have HZ := fun (h : (x && !y) = false) => (show ∀ (j : Nat) (r : V6) (x : Bool), j < k + 1 → l[j]? = some r → bs[j]? = some x → (x && !free r) = false from fun j r x' hj h1 h2 => by
        rcases Nat.lt_or_ge j k with h' | h'
        · exact hz.out j r x' h' h1 h2
        · obtain rfl : j = k := by omega
          rw [HR.out] at h1
          rw [HX.out] at h2
          injection h1 with h1
          injection h2 with h2
          subst h1 h2
          rw [HY.out]; exact h)
      have HZ := Lib.hid HZ
      have HNE := Lib.hid (fun h : (x && !y) = true => chE_11 (l := l) (b := bs) H1.out HEQ.out (clash_at HR.out HX.out (by rw [HY.out]; exact h)))
      have HSM := Lib.hid (fun h : pick (r1, r2, r3, r4, r5, r6) x = (r1, r2, r3, r4, r5, r6) => cur_same HEQ.out HR.out HX.out h)
      clear hrb hge hcm hr hx hy2
      cases x with
      | true =>
        cases y with
        | true =>
          have hp := pick_t HY.out
          obtain ⟨s1, s2, s3⟩ := STEP.out 2 hp
          have S1 := Lib.hid s1
          have S2 := Lib.hid s2
          have S3 := Lib.hid s3
          have Z := Lib.hid (HZ.out rfl)
          clear s1 s2 s3 hp STEP HZ HNE HSM
          go_wp2_with fail
          go_roundw
          case rel => exact ⟨k + 1, by omega, by go_num, rfl, rfl, S1, S2, S3, Z⟩
          case measure => simp [intOf]; omega
        | false =>
          have HE := Lib.hid (HNE.out rfl)
          clear STEP HZ HNE HSM
          go_wp2_with fail
          (try rw [Exit.noGoto_ret])
          go_ret2
          exact chR_no hh.out HE.out (by decide)
      | false =>
        cases y with
        | true =>
          have hp := pick_f HY.out
          obtain ⟨s1, s2, s3⟩ := STEP.out 1 hp
          have S1 := Lib.hid s1
          have S2 := Lib.hid s2
          have S3 := Lib.hid s3
          have Z := Lib.hid (HZ.out rfl)
          clear s1 s2 s3 hp STEP HZ HNE HSM
          go_wp2_with fail
          go_roundw
          case rel => exact ⟨k + 1, by omega, by go_num, rfl, rfl, S1, S2, S3, Z⟩
          case measure => simp [intOf]; omega
        | false =>
          have S1 := Lib.hid (show OwnV wr w.heap.size (.slice (some ⟨g, 0, none⟩) m cc) (cur l bs (k + 1)) by rw [HSM.out (pick_n HY.out)]; exact ho.out)
          have Z := Lib.hid (HZ.out rfl)
          clear STEP HZ HNE HSM
          go_wp2_with fail
          go_roundw
          case rel => exact ⟨k + 1, by omega, by go_num, rfl, rfl, S1, hf, hh, Z⟩
          case measure => simp [intOf]; omega
    · obtain rfl : k = m := by omega
      have HE := Lib.hid (chE_ok (l := l) (b := bs) H1.out HEQ.out (clash_no HEQ.out (fun j r x h1 h2 => hz.out j r x (by have := (List.getElem?_eq_some_iff.1 h1).1; have := HLN.out; omega) h1 h2)))
      go_wp2_with fail
      (try rw [Exit.noGoto_ret])
      go_ret2
      refine ⟨_, by rw [HE.out]; rfl, ?_, hh.out⟩
      unfold chL
      rw [if_pos HE.out, ← cur_end HEQ.out, HLN.out]
      exact ho.out
end Ro
end Go.Proofs.Ytpfdakkameifkaa
end

section
/-
  What chapter and awake of the law's package answer. No condition.
-/
namespace Go.Proofs.Ytpfdakkameifkaa
open Go.RowKit Go.Shelf
set_option linter.unusedVariables false
set_option linter.unusedSimpArgs false
namespace Ro
open Kk Pm

theorem i64s {l : List V6} (h : l.all (fun r => decide (-1000 ≤ op r ∧ op r ≤ 1000)) = true) : ∀ r ∈ l, I64 (op r) := fun r hr => by
  have := List.all_eq_true.1 h r hr
  have := of_decide_eq_true this
  unfold I64; omega
/-- Create, its answer known. -/
theorem create_c (A : Option Addr) (n c : Nat) (l : List V6) (o m : Int) (w : World) (hi : Rw.RS vR w A n c l) (E : Int) (N : Nat) (L : List V6) (hE : crE l o m = E) (hN : crN l o m = N) (hL : crL l o m = L) (hn : n ≤ 1000000) (hO : ∀ r ∈ l, I64 (op r)) (ho : I64 o) :
    Calls Try.prog 11 #[.slice A n c, .int .i64 o, .int .u64 m] w fun e w' => ∃ v, e = .returned (.tuple #[v, .int .i64 (N : Nat), .int .i64 E]) ∧ OwnV w' w.heap.size v L ∧ Bel w w' := by
  subst hE hN hL
  exact create A n c l o m w hi hn hO ho
theorem choose_c (A : Option Addr) (n c : Nat) (l : List V6) (B : Option Addr) (m d : Nat) (bs : List Bool) (w : World) (hi : Rw.RS vR w A n c l) (hb : Rw.RS bR w B m d bs) (E : Int) (L : List V6) (hE : chE l bs = E) (hL : chL l bs = L) (hn : n ≤ 1000000) (hO : ∀ r ∈ l, I64 (op r)) (hm : m ≤ 1000000) :
    Calls Try.prog 28 #[.slice A n c, .slice B m d] w fun e w' => ∃ v, e = .returned (.tuple #[v, .int .i64 E]) ∧ OwnV w' w.heap.size v L ∧ Bel w w' := by
  subst hE hL
  exact choose A n c l B m d bs w hi hn hO hb hm
theorem jail_c (A : Option Addr) (n c : Nat) (l : List V6) (v tl : Int) (w : World) (hi : Rw.RS vR w A n c l) (E : Int) (L : List V6) (hE : cgE l v (jaE tl) = E) (hL : upd l v E (jaF tl) = L) (hn : n ≤ 1000000) (hO : ∀ r ∈ l, I64 (op r)) :
    Calls Try.prog 30 #[.slice A n c, .int .i64 v, .int .i64 tl] w fun e w' => ∃ v, e = .returned (.tuple #[v, .int .i64 E]) ∧ OwnV w' w.heap.size v L ∧ Bel w w' := by
  subst hE hL
  exact jail A n c l v tl w hi hn hO
theorem unjail_c (A : Option Addr) (n c : Nat) (l : List V6) (v b h : Int) (w : World) (hi : Rw.RS vR w A n c l) (E : Int) (L : List V6) (hE : cgE l v (unE b h) = E) (hL : upd l v E (setS 1) = L) (hn : n ≤ 1000000) (hO : ∀ r ∈ l, I64 (op r)) :
    Calls Try.prog 32 #[.slice A n c, .int .i64 v, .int .i64 b, .int .i64 h] w fun e w' => ∃ v, e = .returned (.tuple #[v, .int .i64 E]) ∧ OwnV w' w.heap.size v L ∧ Bel w w' := by
  subst hE hL
  exact unjail A n c l v b h w hi hn hO
theorem punish_c (A : Option Addr) (n c : Nat) (l : List V6) (v k tl : Int) (w : World) (hi : Rw.RS vR w A n c l) (E : Int) (L : List V6) (hE : puE l v k tl = E) (hL : upd l v E (puF k tl) = L) (hn : n ≤ 1000000) (hO : ∀ r ∈ l, I64 (op r)) :
    Calls Try.prog 34 #[.slice A n c, .int .i64 v, .int .i64 k, .int .i64 tl] w fun e w' => ∃ v, e = .returned (.tuple #[v, .int .i64 E]) ∧ OwnV w' w.heap.size v L ∧ Bel w w' := by
  subst hE hL
  exact punish A n c l v k tl w hi hn hO
def lch : List V6 := [(5, 1, 1, 0, false, false), (3, 9, 1, 0, false, false)]
set_option maxRecDepth 100000 in
set_option maxHeartbeats 4000000 in
theorem chapter (w : World) : Calls Try.prog 46 #[] w fun e w' => ∃ v, e = .returned v ∧ OwnV w' w.heap.size v lch ∧ Bel w w' := by
  go_enter Try.func46, Try.ntmps46
  have K0 := Lib.hid (Bel.refl w)
  have C1 := Lib.hid (create_c none 0 0 [] 5 1 w (Rw.RS.nil_ (K := vR)) 0 0 [(5, 1, 1, 0, false, false)] (by decide) (by decide) (by decide) (by decide) (i64s rfl) (by unfold I64; omega))
  go_wp2_with fail
  refine C1.out.mono ?_
  rintro x w1 ⟨v, rfl, ho, kb⟩
  have K1 := Lib.hid (K0.out.trans kb)
  clear C1
  obtain ⟨Al, cl, rfl, hl⟩ := Rw.OwnR.slice ho
  have Hl := Lib.hid (show Rw.RS vR w1 Al 1 cl [(5, 1, 1, 0, false, false)] from hl)
  clear hl
  have C2 := Lib.hid (create_c Al 1 cl [(5, 1, 1, 0, false, false)] 3 9 w1 Hl.out 0 1 [(5, 1, 1, 0, false, false), (3, 9, 1, 0, false, false)] (by decide) (by decide) (by decide) (by decide) (i64s rfl) (by unfold I64; omega))
  go_wp2_with fail
  refine C2.out.mono ?_
  rintro x w2 ⟨v, rfl, ho, kb⟩
  have K2 := Lib.hid (K1.out.trans kb)
  have Hl := Lib.hid (Hl.out.bel kb)
  clear C2
  have HO := Lib.hid (ho.mono (Below.size K1.out))
  obtain ⟨Am, cm, rfl, hm⟩ := Rw.OwnR.slice ho
  have Hm := Lib.hid (show Rw.RS vR w2 Am 2 cm [(5, 1, 1, 0, false, false), (3, 9, 1, 0, false, false)] from hm)
  clear hm
  have HO := Lib.hid (show OwnV w2 w.heap.size (.slice Am 2 cm) lch from HO.out)
  go_wp2_with fail
  go_ret
  exact ⟨_, rfl, HO.out, K2.out⟩
set_option maxRecDepth 100000 in
set_option maxHeartbeats 8000000 in
theorem awake (w : World) : Calls Try.prog 9 #[] w fun e w' => e = .returned (.bool true) ∧ Bel w w' := by
  go_enter Try.func9, Try.ntmps9
  have K0 := Lib.hid (Bel.refl w)
  have C1 := Lib.hid (chapter w)
  go_wp2_with fail
  refine C1.out.mono ?_
  rintro x w1 ⟨v, rfl, ho, kb⟩
  have K1 := Lib.hid (K0.out.trans kb)
  clear C1
  have ho : OwnV w1 w.heap.size v [(5, 1, 1, 0, false, false), (3, 9, 1, 0, false, false)] := ho
  obtain ⟨Al, cl, rfl, hl⟩ := Rw.OwnR.slice ho
  have Hl := Lib.hid (show Rw.RS vR w1 Al 2 cl [(5, 1, 1, 0, false, false), (3, 9, 1, 0, false, false)] from hl)
  clear hl
  obtain ⟨bl, ol, hAl, _⟩ := Hl.out.row (by decide)
  subst hAl
  have qT : ∀ (w : World) (a : Option Addr) (n c n' c' : Nat), (binOp .eql 22 (.slice a n c) (.slice none n' c')).run Try.prog w = .ok (.bool a.isNone) w := fun w a n c n' c' => Lib.run_eql_slice_nil w _ _ a n c n' c' Try.underlying22
  have C2 := Lib.hid (choose_c (some ⟨bl, ol, none⟩) 2 cl [(5, 1, 1, 0, false, false), (3, 9, 1, 0, false, false)] (some ⟨w1.heap.size, 0, none⟩) 2 2 [true, false] (w1.alloc (.cells #[.bool true, .bool false] 4)) (Hl.out.bel ((Bel.refl _).alloc _)) (Rw.rs_blk bR (Blk.new w1 #[.bool true, .bool false] 4) (l := [true, false]) rfl (Nat.le_refl _) rfl) 0 [(5, 1, 2, 0, false, false), (3, 9, 1, 0, false, false)] (by decide) (by decide) (by decide) (i64s rfl) (by decide))
  go_wp2_with fail
  refine C2.out.mono ?_
  rintro x w2 ⟨v, rfl, ho, kb⟩
  have kb := (((Bel.refl w1).alloc (.cells #[.bool true, .bool false] 4))).trans kb
  have K2 := Lib.hid (K1.out.trans kb)
  have Hl := Lib.hid (Hl.out.bel kb)
  clear C2
  obtain ⟨Am, cm, rfl, hm⟩ := Rw.OwnR.slice ho
  have Hm := Lib.hid (show Rw.RS vR w2 Am 2 cm [(5, 1, 2, 0, false, false), (3, 9, 1, 0, false, false)] from hm)
  clear hm
  have C3 := Lib.hid (jail_c Am 2 cm [(5, 1, 2, 0, false, false), (3, 9, 1, 0, false, false)] 0 30 w2 Hm.out 0 [(5, 1, 3, 30, false, false), (3, 9, 1, 0, false, false)] (by decide) (by decide) (by decide) (i64s rfl))
  go_wp2_with fail
  refine C3.out.mono ?_
  rintro x w3 ⟨v, rfl, ho, kb⟩
  have K3 := Lib.hid (K2.out.trans kb)
  have Hl := Lib.hid (Hl.out.bel kb)
  have Hm := Lib.hid (Hm.out.bel kb)
  clear C3
  obtain ⟨Ak, ck, rfl, hk⟩ := Rw.OwnR.slice ho
  have Hk := Lib.hid (show Rw.RS vR w3 Ak 2 ck [(5, 1, 3, 30, false, false), (3, 9, 1, 0, false, false)] from hk)
  clear hk
  have C4 := Lib.hid (choose_c Ak 2 ck [(5, 1, 3, 30, false, false), (3, 9, 1, 0, false, false)] (some ⟨w3.heap.size, 0, none⟩) 2 2 [true, true] (w3.alloc (.cells #[.bool true, .bool true] 4)) (Hk.out.bel ((Bel.refl _).alloc _)) (Rw.rs_blk bR (Blk.new w3 #[.bool true, .bool true] 4) (l := [true, true]) rfl (Nat.le_refl _) rfl) 11 [] (by decide) (by decide) (by decide) (i64s rfl) (by decide))
  go_wp2_with fail
  refine C4.out.mono ?_
  rintro x w4 ⟨v, rfl, ho, kb⟩
  have kb := (((Bel.refl w3).alloc (.cells #[.bool true, .bool true] 4))).trans kb
  have K4 := Lib.hid (K3.out.trans kb)
  have Hl := Lib.hid (Hl.out.bel kb)
  have Hm := Lib.hid (Hm.out.bel kb)
  have Hk := Lib.hid (Hk.out.bel kb)
  clear C4
  clear ho
  have C5 := Lib.hid ((show Calls Try.prog 17 #[.slice (some ⟨bl, ol, none⟩) 2 cl, .int .i64 3] w4 fun e w' => e = .returned (.tuple #[.int .i64 1, .bool true]) ∧ Bel w4 w' from find (some ⟨bl, ol, none⟩) 2 cl [(5, 1, 1, 0, false, false), (3, 9, 1, 0, false, false)] 3 w4 Hl.out (by decide) (i64s rfl) (by unfold I64; omega)))
  go_wp2_with fail
  refine C5.out.mono ?_
  rintro x w5 ⟨rfl, kb⟩
  have K5 := Lib.hid (K4.out.trans kb)
  have Hl := Lib.hid (Hl.out.bel kb)
  have Hm := Lib.hid (Hm.out.bel kb)
  have Hk := Lib.hid (Hk.out.bel kb)
  clear C5
  have C6 := Lib.hid ((show Calls Try.prog 22 #[.slice Am 2 cm] w5 fun e w' => ∃ v, e = .returned v ∧ OwnB w' _ v [true, false] ∧ Bel w5 w' from acts_ Am 2 cm [(5, 1, 2, 0, false, false), (3, 9, 1, 0, false, false)] w5 Hm.out (by decide)))
  go_wp2_with fail
  refine C6.out.mono ?_
  rintro x w6 ⟨v, rfl, ho, kb⟩
  have K6 := Lib.hid (K5.out.trans kb)
  have Hl := Lib.hid (Hl.out.bel kb)
  have Hm := Lib.hid (Hm.out.bel kb)
  have Hk := Lib.hid (Hk.out.bel kb)
  clear C6
  obtain ⟨Aa, ca, rfl, ha⟩ := Rw.OwnR.slice ho
  have Ha := Lib.hid (show Rw.RS bR w6 Aa 2 ca [true, false] from ha)
  clear ha
  have C7 := Lib.hid ((show Calls Try.prog 19 #[.slice Aa 2 ca, .slice (some ⟨w6.heap.size, 0, none⟩) 2 2] (w6.alloc (.cells #[.bool true, .bool false] 4)) fun e w' => e = .returned (.bool true) ∧ Bel (w6.alloc (.cells #[.bool true, .bool false] 4)) w' from same_bools Aa _ 2 ca 2 2 [true, false] [true, false] (w6.alloc (.cells #[.bool true, .bool false] 4)) (Ha.out.bel ((Bel.refl _).alloc _)) (Rw.rs_blk bR (Blk.new w6 #[.bool true, .bool false] 4) (l := [true, false]) rfl (Nat.le_refl _) rfl) (by decide) (by decide)))
  go_wp2_with fail
  refine C7.out.mono ?_
  rintro x w7 ⟨rfl, kb⟩
  have kb := (((Bel.refl w6).alloc (.cells #[.bool true, .bool false] 4))).trans kb
  have K7 := Lib.hid (K6.out.trans kb)
  have Hl := Lib.hid (Hl.out.bel kb)
  have Hm := Lib.hid (Hm.out.bel kb)
  have Hk := Lib.hid (Hk.out.bel kb)
  have Ha := Lib.hid (Ha.out.bel kb)
  clear C7
  have C8 := Lib.hid ((show Calls Try.prog 20 #[.slice Ak 2 ck] w7 fun e w' => ∃ v, e = .returned v ∧ OwnB w' _ v [false, true] ∧ Bel w7 w' from free_ Ak 2 ck [(5, 1, 3, 30, false, false), (3, 9, 1, 0, false, false)] w7 Hk.out (by decide)))
  go_wp2_with fail
  refine C8.out.mono ?_
  rintro x w8 ⟨v, rfl, ho, kb⟩
  have K8 := Lib.hid (K7.out.trans kb)
  have Hl := Lib.hid (Hl.out.bel kb)
  have Hm := Lib.hid (Hm.out.bel kb)
  have Hk := Lib.hid (Hk.out.bel kb)
  have Ha := Lib.hid (Ha.out.bel kb)
  clear C8
  obtain ⟨Ab, cb, rfl, hb⟩ := Rw.OwnR.slice ho
  have Hb := Lib.hid (show Rw.RS bR w8 Ab 2 cb [false, true] from hb)
  clear hb
  have C9 := Lib.hid ((show Calls Try.prog 19 #[.slice Ab 2 cb, .slice (some ⟨w8.heap.size, 0, none⟩) 2 2] (w8.alloc (.cells #[.bool false, .bool true] 4)) fun e w' => e = .returned (.bool true) ∧ Bel (w8.alloc (.cells #[.bool false, .bool true] 4)) w' from same_bools Ab _ 2 cb 2 2 [false, true] [false, true] (w8.alloc (.cells #[.bool false, .bool true] 4)) (Hb.out.bel ((Bel.refl _).alloc _)) (Rw.rs_blk bR (Blk.new w8 #[.bool false, .bool true] 4) (l := [false, true]) rfl (Nat.le_refl _) rfl) (by decide) (by decide)))
  go_wp2_with fail
  refine C9.out.mono ?_
  rintro x w9 ⟨rfl, kb⟩
  have kb := (((Bel.refl w8).alloc (.cells #[.bool false, .bool true] 4))).trans kb
  have K9 := Lib.hid (K8.out.trans kb)
  have Hl := Lib.hid (Hl.out.bel kb)
  have Hm := Lib.hid (Hm.out.bel kb)
  have Hk := Lib.hid (Hk.out.bel kb)
  have Ha := Lib.hid (Ha.out.bel kb)
  have Hb := Lib.hid (Hb.out.bel kb)
  clear C9
  go_wp2_with fail
  go_ret
  exact ⟨rfl, K9.out⟩
end Ro
end Go.Proofs.Ytpfdakkameifkaa
end
