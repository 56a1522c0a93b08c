/-
  What roster.permits, agrees, operators, Find and Refuse answer of any list of validators. Conditions: at most a billion; operators are ints.
-/
import Derived.Test.YtpfdakkameifkaaRo1
namespace Go.Proofs.Ytpfdakkameifkaa
open Go.RowKit Go.Shelf
set_option linter.unusedVariables false
set_option linter.unusedSimpArgs false
namespace Ro
open Kk Pm Go.Maps Go.WideElems Go.WideMaps

theorem fnd_next1 {l : List V6} {k j : Nat} {r : V6} (hr : l[k]? = some r) (h : fnd (l.take k) (op r) = some j) : fnd (l.take (k + 1)) = fnd (l.take k) := funext fun o => by
  rw [fnd_take hr]
  by_cases ho : op r = o
  · subst ho; rw [h]; rfl
  · rw [if_neg ho]; cases fnd (l.take k) o <;> rfl
theorem fnd_next2 {l : List V6} {k : Nat} {r : V6} (hr : l[k]? = some r) (h : fnd (l.take k) (op r) = none) : (fun x => if x = op r then some k else fnd (l.take k) x) = fnd (l.take (k + 1)) := funext fun o => by
  rw [fnd_take hr]
  by_cases ho : op r = o
  · subst ho; rw [h, if_pos rfl]; simp
  · rw [if_neg ho, if_neg (fun e => ho e.symm)]; cases fnd (l.take k) o <;> rfl
theorem info_rts : (Try.prog.info? 75).map (·.size) = some 3 := by kernel_rfl
set_option maxRecDepth 10000 in
set_option maxHeartbeats 1000000 in
theorem permits (s : Int) (w : World) : Calls Try.prog 61 #[.int .i64 s] w fun e w' => e = .returned (rts s) ∧ Bel w w' := by
  go_enter Try.func61, Try.ntmps61
  by_cases h4 : s = 4
  · subst h4
    go_wp2_with fail
    exact bodyPost_ret (res_c Try.results61 _ _ ⟨w.heap.size, 0, none⟩ (.agg #[.bool false, .bool false, .bool false]) rfl (load_b (C := [.bool false, .bool false, .bool false]) ((Blk.new w _ _).alloc _) Try.underlying75 rfl info_rts)) rfl ⟨rfl, ((Bel.refl w).alloc _).alloc _⟩
  · have e4 : (s == 4) = false := beq_eq_false_iff_ne.2 h4
    by_cases h1 : s = 1
    · subst h1
      go_wp2_with fail
      exact bodyPost_ret (res_c Try.results61 _ _ ⟨w.heap.size, 0, none⟩ (.agg #[.bool true, .bool true, .bool false]) rfl (load_b (C := [.bool true, .bool true, .bool false]) ((Blk.new w _ _).alloc _) Try.underlying75 rfl info_rts)) rfl ⟨rfl, ((Bel.refl w).alloc _).alloc _⟩
    · have e1 : (s == 1) = false := beq_eq_false_iff_ne.2 h1
      by_cases h2 : s = 2
      · subst h2
        go_wp2_with fail
        exact bodyPost_ret (res_c Try.results61 _ _ ⟨w.heap.size, 0, none⟩ (.agg #[.bool true, .bool true, .bool true]) rfl (load_b (C := [.bool true, .bool true, .bool true]) ((Blk.new w _ _).alloc _) Try.underlying75 rfl info_rts)) rfl ⟨rfl, ((Bel.refl w).alloc _).alloc _⟩
      · have e2 : (s == 2) = false := beq_eq_false_iff_ne.2 h2
        have e : rts s = .agg #[.bool true, .bool false, .bool false] := by unfold rts; rw [decide_eq_false h4, decide_eq_false h1, decide_eq_false h2]; rfl
        rw [e]
        clear e h1 h2 h4
        go_wp2_with fail
        exact bodyPost_ret (res_c Try.results61 _ _ ⟨w.heap.size, 0, none⟩ (.agg #[.bool true, .bool false, .bool false]) rfl (load_b (C := [.bool true, .bool false, .bool false]) ((Blk.new w _ _).alloc _) Try.underlying75 rfl info_rts)) rfl ⟨rfl, ((Bel.refl w).alloc _).alloc _⟩
set_option maxRecDepth 10000 in
set_option maxHeartbeats 1000000 in
theorem agrees (x1 x2 x3 x4 : Int) (x5 x6 : Bool) (w : World) : Calls Try.prog 56 #[.agg #[.int .i64 x1, .int .u64 x2, .int .i64 x3, .int .i64 x4, .bool x5, .bool x6]] w fun e w' => e = .returned (.bool (agrB x3 x4 x5 x6)) ∧ Bel w w' := by
  have P0 := Lib.hid (Blk.new w #[.int .i64 x1, .int .u64 x2, .int .i64 x3, .int .i64 x4, .bool x5, .bool x6] 66)
  obtain ⟨V, hV⟩ : ∃ V, w.alloc (.cells #[.int .i64 x1, .int .u64 x2, .int .i64 x3, .int .i64 x4, .bool x5, .bool x6] 66) = V := ⟨_, rfl⟩
  have BV := Lib.hid (show Bel w V by rw [← hV]; exact (Bel.refl w).alloc _)
  rw [hV] at P0
  have c2 := P0.out.cell 2 rfl
  have c3 := P0.out.cell 3 rfl
  have c4 := P0.out.cell 4 rfl
  have c5 := P0.out.cell 5 rfl
  obtain ⟨R, hR⟩ : ∃ R, agrB x3 x4 x5 x6 = R := ⟨_, rfl⟩
  rw [hR]
  go_enter Try.func56, Try.ntmps56
  by_cases h4 : x3 = 4
  · subst h4
    by_cases h0 : x4 = 0
    · subst h0
      cases x5 <;> cases x6 <;> (simp [agrB] at hR; subst hR; clear hV; go_wp2_with fail; go_ret; exact ⟨rfl, (Bel.refl w).alloc _⟩)
    · have e0 : (x4 != 0) = true := by rw [bne_iff_ne]; exact h0
      cases x5 <;> cases x6 <;> (simp [agrB, h0] at hR; subst hR; clear h0 hV; go_wp2_with fail; go_ret; exact ⟨rfl, (Bel.refl w).alloc _⟩)
  · have e4 : (x3 == 4) = false := beq_eq_false_iff_ne.2 h4
    by_cases h3 : x3 = 3
    · subst h3
      by_cases h0 : x4 = 0
      · subst h0
        cases x5 <;> cases x6 <;> (simp [agrB] at hR; subst hR; clear h4 hV; go_wp2_with fail; go_ret; exact ⟨rfl, (Bel.refl w).alloc _⟩)
      · have e0 : (x4 != 0) = true := by rw [bne_iff_ne]; exact h0
        cases x5 <;> cases x6 <;> (simp [agrB, h0] at hR; subst hR; clear h0 h4 hV; go_wp2_with fail; go_ret; exact ⟨rfl, (Bel.refl w).alloc _⟩)
    · have e3 : (x3 == 3) = false := beq_eq_false_iff_ne.2 h3
      by_cases h0 : x4 = 0
      · subst h0
        cases x5 <;> cases x6 <;> (simp [agrB, h4, h3] at hR; subst hR; clear h4 h3 hV; go_wp2_with fail; go_ret; exact ⟨rfl, (Bel.refl w).alloc _⟩)
      · have e0 : (x4 != 0) = true := by rw [bne_iff_ne]; exact h0
        cases x5 <;> cases x6 <;> (simp [agrB, h4, h3, h0] at hR; subst hR; clear h4 h3 h0 hV; go_wp2_with fail; go_ret; exact ⟨rfl, (Bel.refl w).alloc _⟩)
set_option maxRecDepth 100000 in
set_option maxHeartbeats 4000000 in
theorem operators (A : Option Addr) (n c : Nat) (l : List V6) (w : World) (hi : Rw.RS vR w A n c l) (hn : n ≤ 1000000000) (hO : ∀ r ∈ l, I64 (op r)) :
    Calls Try.prog 53 #[.slice A n c] w fun e w' => ∃ m, e = .returned (.map (some m)) ∧ Mo w' m n (fnd l) ∧ Bel w w' := by
  have HR := Lib.hid hi
  have HO := Lib.hid hO
  have hmm := @run_makeMap Try.prog
  clear hi hO
  go_enter Try.func53, Try.ntmps53
  have HM := Lib.hid (mo_made w)
  have BM := Lib.hid ((Bel.refl w).alloc (.map #[] 0))
  have HGE := Lib.hid (Nat.le_refl w.heap.size)
  obtain ⟨m, hm⟩ : ∃ m, w.heap.size = m := ⟨_, rfl⟩
  have HMS := Lib.hid hm
  rw [hm] at HM
  clear hm
  go_wp2_with fail
  try rw [HMS.out]
  go_loopw [11] (fun s11 wr => ∃ k : Nat, k ≤ n ∧ s11 = .int .i64 k ∧ Hid (Mo wr m k (fnd (l.take k))) ∧ Hid (Bel w wr)) (fun s11 _ => n - (intOf s11).toNat)
  case atStart => exact ⟨0, Nat.zero_le _, rfl, HM, BM⟩
  case round =>
    obtain ⟨k, hk, rfl, hmp, hh⟩ := hrel
    by_cases hlt : k < n
    · obtain ⟨⟨r1, r2, r3, r4, r5, r6⟩, hr⟩ := HR.out.get hlt
      obtain ⟨b, q, rfl, hb, hrow⟩ := (HR.out.bel hh.out).at hlt hr
      have HW := Lib.hid (show I64 r1 from HO.out _ (List.mem_of_getElem? hr))
      have HN1 := Lib.hid (fun j => @fnd_next1 l k j _ hr)
      have HN2 := Lib.hid (@fnd_next2 l k _ hr)
      have hlt3 : (k : Int) < n := by omega
      have hlt0 : (0 : Int) ≤ k := by omega
      obtain ⟨c0, c1, c2, c3, c4, c5⟩ := rng6 (show wr.rangeAt b (q + k * 6) [.int .i64 r1, .int .u64 r2, .int .i64 r3, .int .i64 r4, .bool r5, .bool r6] from hrow)
      clear hr hrow
      go_upto_region 5 with fail
      have P0 := Lib.hid (Blk.new wr #[.int .i64 r1, .int .u64 r2, .int .i64 r3, .int .i64 r4, .bool r5, .bool r6] 66)
      obtain ⟨V, hV⟩ : ∃ V, wr.alloc (.cells #[.int .i64 r1, .int .u64 r2, .int .i64 r3, .int .i64 r4, .bool r5, .bool r6] 66) = V := ⟨_, rfl⟩
      have BV := Lib.hid (show Bel w V by rw [← hV]; exact hh.out.alloc _)
      have MV := Lib.hid (show Mo V m k _ by rw [← hV]; exact hmp.out.bel ((Bel.refl _).alloc _))
      rw [hV] at P0 ⊢
      obtain ⟨g, hg⟩ : ∃ g, wr.heap.size = g := ⟨_, rfl⟩
      rw [hg] at P0 ⊢
      clear hV hg c0 c1 c2 c3 c4 c5 hmp
      have c0 := P0.out.cell 0 rfl
      have hLK := mo_look_ok MV.out HW.out
      obtain ⟨w2, hUP, hg2, hM2⟩ := mo_put MV.out (by omega) HW.out (show k ≤ 1000000000 by omega)
      cases hf : fnd (l.take k) r1 with
      | some j =>
        rw [hf] at hLK
        have HNX := Lib.hid (HN1.out j hf)
        clear hUP hg2 hM2 HN1 HN2 hf
        simp only [Option.getD_some, Option.isSome_some] at hLK
        go_wp2_with fail
        go_roundw
        case rel => exact ⟨k + 1, by omega, by go_num, Lib.hid (by rw [HNX.out]; obtain ⟨D, q1, q2⟩ := MV.out; exact ⟨D, q1.mono (by omega), q2⟩), BV⟩
        case measure => simp [intOf]; omega
      | none =>
        rw [hf] at hLK
        have HNX := Lib.hid (HN2.out hf)
        have M2 := Lib.hid hM2
        have G2 := Lib.hid hg2
        clear hg2 hM2 HN1 HN2 hf
        simp only [Option.getD_none, Option.isSome_none] at hLK
        go_wp2_with fail
        go_roundw
        case rel => exact ⟨k + 1, by omega, by go_num, Lib.hid (by rw [← HNX.out]; exact M2.out), Lib.hid (BV.out.grown G2.out (fun x hx => by injection hx with hx; have := HMS.out; omega))⟩
        case measure => simp [intOf]; omega
    · obtain rfl : k = n := by omega
      have HL := Lib.hid (show l.take k = l from List.take_of_length_le (by rw [HR.out.len]; exact Nat.le_refl _))
      rw [HL.out] at hmp
      go_wp2_with fail
      go_ret
      exact ⟨_, rfl, hmp.out, hh.out⟩
set_option maxRecDepth 10000 in
set_option maxHeartbeats 1000000 in
theorem find (A : Option Addr) (n c : Nat) (l : List V6) (o : Int) (w : World) (hi : Rw.RS vR w A n c l) (hn : n ≤ 1000000000) (hO : ∀ r ∈ l, I64 (op r)) (ho : I64 o) :
    Calls Try.prog 17 #[.slice A n c, .int .i64 o] w fun e w' => e = .returned (.tuple #[.int .i64 ((fnd l o).getD 0 : Nat), .bool (fnd l o).isSome]) ∧ Bel w w' := by
  have OP := Lib.hid (operators A n c l w hi hn hO)
  clear hi hO
  go_enter Try.func17, Try.ntmps17
  go_wp2_with fail
  refine OP.out.mono ?_
  rintro e w1 ⟨m, rfl, hm, kb⟩
  have hLK := mo_look_ok hm ho
  have KB := Lib.hid kb
  clear kb hm OP
  go_wp2_with fail
  go_ret2
  exact ⟨rfl, KB.out⟩
set_option maxRecDepth 10000 in
set_option maxHeartbeats 1000000 in
theorem refuse (A : Option Addr) (n c : Nat) (l : List V6) (v : Int) (w : World) (hi : Rw.RS vR w A n c l) (hn : n ≤ 1000000000) :
    Calls Try.prog 24 #[.slice A n c, .int .i64 v] w fun e w' => e = .returned (.int .i64 (reE l v)) ∧ Bel w w' := by
  have HR := Lib.hid hi
  have HL := Lib.hid hi.len
  clear hi
  by_cases h0 : 0 ≤ v
  · obtain ⟨k, rfl⟩ : ∃ k : Nat, v = k := ⟨v.toNat, by omega⟩
    by_cases hlt : k < n
    · obtain ⟨⟨r1, r2, r3, r4, r5, r6⟩, hr⟩ := HR.out.get hlt
      obtain ⟨b, q, rfl, hb, hrow⟩ := HR.out.at hlt hr
      have e : reE l k = if r3 = 4 then 20 else 0 := by
        unfold reE nth
        rw [if_pos h0, Int.toNat_natCast, hr]; rfl
      rw [e]
      clear e
      have hlt3 : (k : Int) < n := by omega
      obtain ⟨c0, c1, c2, c3, c4, c5⟩ := rng6 (show w.rangeAt b (q + k * 6) [.int .i64 r1, .int .u64 r2, .int .i64 r3, .int .i64 r4, .bool r5, .bool r6] from hrow)
      have PE := Lib.hid (permits r3 w)
      clear hr hrow
      unfold rts at PE
      obtain ⟨y, hy⟩ : ∃ y, decide (r3 = 4) = y := ⟨_, rfl⟩
      rw [hy] at PE
      have HY := Lib.hid (show (if r3 = 4 then (20 : Int) else 0) = if y = true then 20 else 0 by rw [← hy]; by_cases h : r3 = 4 <;> simp [h])
      rw [HY.out]
      clear hy HY
      go_enter Try.func24, Try.ntmps24
      go_wp2_with fail
      refine PE.out.mono ?_
      rintro e w1 ⟨rfl, kb⟩
      have KB := Lib.hid kb
      clear kb PE
      cases y
      · have hfd : ∀ W, (Instr.field 75 (.agg #[.bool true, .bool (decide (r3 = 1) || decide (r3 = 2)), .bool (decide (r3 = 2))]) 0).run Try.prog W = .ok (.bool true) W := fun W => by kernel_rfl
        go_wp2_with fail
        go_ret
        exact ⟨rfl, KB.out⟩
      · have hfd : ∀ W, (Instr.field 75 (.agg #[.bool false, .bool (decide (r3 = 1) || decide (r3 = 2)), .bool (decide (r3 = 2))]) 0).run Try.prog W = .ok (.bool false) W := fun W => by kernel_rfl
        go_wp2_with fail
        go_ret
        exact ⟨rfl, KB.out⟩
    · have e : reE l k = 10 := by
        unfold reE nth
        rw [if_pos h0, Int.toNat_natCast, List.getElem?_eq_none (by rw [HL.out]; omega)]; rfl
      rw [e]
      clear e
      have hlt3 : ¬ (k : Int) < n := by omega
      go_enter Try.func24, Try.ntmps24
      go_wp2_with fail
      go_ret
      exact ⟨rfl, Bel.refl _⟩
  · have e : reE l v = 10 := by
      unfold reE nth
      rw [if_neg h0]; rfl
    rw [e]
    clear e
    go_enter Try.func24, Try.ntmps24
    go_wp2_with fail
    go_ret
    exact ⟨rfl, Bel.refl _⟩
end Ro
end Go.Proofs.Ytpfdakkameifkaa
