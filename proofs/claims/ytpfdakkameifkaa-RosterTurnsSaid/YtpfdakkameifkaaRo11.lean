/-
  What chapter and awake of the law's package answer. No condition.
-/
import Derived.Test.YtpfdakkameifkaaRo10
namespace Go.Proofs.Ytpfdakkameifkaa
open Go.RowKit Go.Shelf
set_option linter.unusedVariables false
set_option linter.unusedSimpArgs false
namespace Ro
open Kk Pm

theorem i64s {l : List V6} (h : l.all (fun r => decide (-1000 ≤ op r ∧ op r ≤ 1000)) = true) : ∀ r ∈ l, I64 (op r) := fun r hr => by
  have := List.all_eq_true.1 h r hr
  have := of_decide_eq_true this
  unfold I64; omega
/-- Create, its answer known. -/
theorem create_c (A : Option Addr) (n c : Nat) (l : List V6) (o m : Int) (w : World) (hi : Rw.RS vR w A n c l) (E : Int) (N : Nat) (L : List V6) (hE : crE l o m = E) (hN : crN l o m = N) (hL : crL l o m = L) (hn : n ≤ 1000000) (hO : ∀ r ∈ l, I64 (op r)) (ho : I64 o) :
    Calls Try.prog 11 #[.slice A n c, .int .i64 o, .int .u64 m] w fun e w' => ∃ v, e = .returned (.tuple #[v, .int .i64 (N : Nat), .int .i64 E]) ∧ OwnV w' w.heap.size v L ∧ Bel w w' := by
  subst hE hN hL
  exact create A n c l o m w hi hn hO ho
theorem choose_c (A : Option Addr) (n c : Nat) (l : List V6) (B : Option Addr) (m d : Nat) (bs : List Bool) (w : World) (hi : Rw.RS vR w A n c l) (hb : Rw.RS bR w B m d bs) (E : Int) (L : List V6) (hE : chE l bs = E) (hL : chL l bs = L) (hn : n ≤ 1000000) (hO : ∀ r ∈ l, I64 (op r)) (hm : m ≤ 1000000) :
    Calls Try.prog 28 #[.slice A n c, .slice B m d] w fun e w' => ∃ v, e = .returned (.tuple #[v, .int .i64 E]) ∧ OwnV w' w.heap.size v L ∧ Bel w w' := by
  subst hE hL
  exact choose A n c l B m d bs w hi hn hO hb hm
theorem jail_c (A : Option Addr) (n c : Nat) (l : List V6) (v tl : Int) (w : World) (hi : Rw.RS vR w A n c l) (E : Int) (L : List V6) (hE : cgE l v (jaE tl) = E) (hL : upd l v E (jaF tl) = L) (hn : n ≤ 1000000) (hO : ∀ r ∈ l, I64 (op r)) :
    Calls Try.prog 30 #[.slice A n c, .int .i64 v, .int .i64 tl] w fun e w' => ∃ v, e = .returned (.tuple #[v, .int .i64 E]) ∧ OwnV w' w.heap.size v L ∧ Bel w w' := by
  subst hE hL
  exact jail A n c l v tl w hi hn hO
theorem unjail_c (A : Option Addr) (n c : Nat) (l : List V6) (v b h : Int) (w : World) (hi : Rw.RS vR w A n c l) (E : Int) (L : List V6) (hE : cgE l v (unE b h) = E) (hL : upd l v E (setS 1) = L) (hn : n ≤ 1000000) (hO : ∀ r ∈ l, I64 (op r)) :
    Calls Try.prog 32 #[.slice A n c, .int .i64 v, .int .i64 b, .int .i64 h] w fun e w' => ∃ v, e = .returned (.tuple #[v, .int .i64 E]) ∧ OwnV w' w.heap.size v L ∧ Bel w w' := by
  subst hE hL
  exact unjail A n c l v b h w hi hn hO
theorem punish_c (A : Option Addr) (n c : Nat) (l : List V6) (v k tl : Int) (w : World) (hi : Rw.RS vR w A n c l) (E : Int) (L : List V6) (hE : puE l v k tl = E) (hL : upd l v E (puF k tl) = L) (hn : n ≤ 1000000) (hO : ∀ r ∈ l, I64 (op r)) :
    Calls Try.prog 34 #[.slice A n c, .int .i64 v, .int .i64 k, .int .i64 tl] w fun e w' => ∃ v, e = .returned (.tuple #[v, .int .i64 E]) ∧ OwnV w' w.heap.size v L ∧ Bel w w' := by
  subst hE hL
  exact punish A n c l v k tl w hi hn hO
def lch : List V6 := [(5, 1, 1, 0, false, false), (3, 9, 1, 0, false, false)]
set_option maxRecDepth 100000 in
set_option maxHeartbeats 4000000 in
theorem chapter (w : World) : Calls Try.prog 46 #[] w fun e w' => ∃ v, e = .returned v ∧ OwnV w' w.heap.size v lch ∧ Bel w w' := by
  go_enter Try.func46, Try.ntmps46
  have K0 := Lib.hid (Bel.refl w)
  have C1 := Lib.hid (create_c none 0 0 [] 5 1 w (Rw.RS.nil_ (K := vR)) 0 0 [(5, 1, 1, 0, false, false)] (by decide) (by decide) (by decide) (by decide) (i64s rfl) (by unfold I64; omega))
  go_wp2_with fail
  refine C1.out.mono ?_
  rintro x w1 ⟨v, rfl, ho, kb⟩
  have K1 := Lib.hid (K0.out.trans kb)
  clear C1
  obtain ⟨Al, cl, rfl, hl⟩ := Rw.OwnR.slice ho
  have Hl := Lib.hid (show Rw.RS vR w1 Al 1 cl [(5, 1, 1, 0, false, false)] from hl)
  clear hl
  have C2 := Lib.hid (create_c Al 1 cl [(5, 1, 1, 0, false, false)] 3 9 w1 Hl.out 0 1 [(5, 1, 1, 0, false, false), (3, 9, 1, 0, false, false)] (by decide) (by decide) (by decide) (by decide) (i64s rfl) (by unfold I64; omega))
  go_wp2_with fail
  refine C2.out.mono ?_
  rintro x w2 ⟨v, rfl, ho, kb⟩
  have K2 := Lib.hid (K1.out.trans kb)
  have Hl := Lib.hid (Hl.out.bel kb)
  clear C2
  have HO := Lib.hid (ho.mono (Below.size K1.out))
  obtain ⟨Am, cm, rfl, hm⟩ := Rw.OwnR.slice ho
  have Hm := Lib.hid (show Rw.RS vR w2 Am 2 cm [(5, 1, 1, 0, false, false), (3, 9, 1, 0, false, false)] from hm)
  clear hm
  have HO := Lib.hid (show OwnV w2 w.heap.size (.slice Am 2 cm) lch from HO.out)
  go_wp2_with fail
  go_ret
  exact ⟨_, rfl, HO.out, K2.out⟩
set_option maxRecDepth 100000 in
set_option maxHeartbeats 8000000 in
theorem awake (w : World) : Calls Try.prog 9 #[] w fun e w' => e = .returned (.bool true) ∧ Bel w w' := by
  go_enter Try.func9, Try.ntmps9
  have K0 := Lib.hid (Bel.refl w)
  have C1 := Lib.hid (chapter w)
  go_wp2_with fail
  refine C1.out.mono ?_
  rintro x w1 ⟨v, rfl, ho, kb⟩
  have K1 := Lib.hid (K0.out.trans kb)
  clear C1
  have ho : OwnV w1 w.heap.size v [(5, 1, 1, 0, false, false), (3, 9, 1, 0, false, false)] := ho
  obtain ⟨Al, cl, rfl, hl⟩ := Rw.OwnR.slice ho
  have Hl := Lib.hid (show Rw.RS vR w1 Al 2 cl [(5, 1, 1, 0, false, false), (3, 9, 1, 0, false, false)] from hl)
  clear hl
  obtain ⟨bl, ol, hAl, _⟩ := Hl.out.row (by decide)
  subst hAl
  have qT : ∀ (w : World) (a : Option Addr) (n c n' c' : Nat), (binOp .eql 22 (.slice a n c) (.slice none n' c')).run Try.prog w = .ok (.bool a.isNone) w := fun w a n c n' c' => Lib.run_eql_slice_nil w _ _ a n c n' c' Try.underlying22
  have C2 := Lib.hid (choose_c (some ⟨bl, ol, none⟩) 2 cl [(5, 1, 1, 0, false, false), (3, 9, 1, 0, false, false)] (some ⟨w1.heap.size, 0, none⟩) 2 2 [true, false] (w1.alloc (.cells #[.bool true, .bool false] 4)) (Hl.out.bel ((Bel.refl _).alloc _)) (Rw.rs_blk bR (Blk.new w1 #[.bool true, .bool false] 4) (l := [true, false]) rfl (Nat.le_refl _) rfl) 0 [(5, 1, 2, 0, false, false), (3, 9, 1, 0, false, false)] (by decide) (by decide) (by decide) (i64s rfl) (by decide))
  go_wp2_with fail
  refine C2.out.mono ?_
  rintro x w2 ⟨v, rfl, ho, kb⟩
  have kb := (((Bel.refl w1).alloc (.cells #[.bool true, .bool false] 4))).trans kb
  have K2 := Lib.hid (K1.out.trans kb)
  have Hl := Lib.hid (Hl.out.bel kb)
  clear C2
  obtain ⟨Am, cm, rfl, hm⟩ := Rw.OwnR.slice ho
  have Hm := Lib.hid (show Rw.RS vR w2 Am 2 cm [(5, 1, 2, 0, false, false), (3, 9, 1, 0, false, false)] from hm)
  clear hm
  have C3 := Lib.hid (jail_c Am 2 cm [(5, 1, 2, 0, false, false), (3, 9, 1, 0, false, false)] 0 30 w2 Hm.out 0 [(5, 1, 3, 30, false, false), (3, 9, 1, 0, false, false)] (by decide) (by decide) (by decide) (i64s rfl))
  go_wp2_with fail
  refine C3.out.mono ?_
  rintro x w3 ⟨v, rfl, ho, kb⟩
  have K3 := Lib.hid (K2.out.trans kb)
  have Hl := Lib.hid (Hl.out.bel kb)
  have Hm := Lib.hid (Hm.out.bel kb)
  clear C3
  obtain ⟨Ak, ck, rfl, hk⟩ := Rw.OwnR.slice ho
  have Hk := Lib.hid (show Rw.RS vR w3 Ak 2 ck [(5, 1, 3, 30, false, false), (3, 9, 1, 0, false, false)] from hk)
  clear hk
  have C4 := Lib.hid (choose_c Ak 2 ck [(5, 1, 3, 30, false, false), (3, 9, 1, 0, false, false)] (some ⟨w3.heap.size, 0, none⟩) 2 2 [true, true] (w3.alloc (.cells #[.bool true, .bool true] 4)) (Hk.out.bel ((Bel.refl _).alloc _)) (Rw.rs_blk bR (Blk.new w3 #[.bool true, .bool true] 4) (l := [true, true]) rfl (Nat.le_refl _) rfl) 11 [] (by decide) (by decide) (by decide) (i64s rfl) (by decide))
  go_wp2_with fail
  refine C4.out.mono ?_
  rintro x w4 ⟨v, rfl, ho, kb⟩
  have kb := (((Bel.refl w3).alloc (.cells #[.bool true, .bool true] 4))).trans kb
  have K4 := Lib.hid (K3.out.trans kb)
  have Hl := Lib.hid (Hl.out.bel kb)
  have Hm := Lib.hid (Hm.out.bel kb)
  have Hk := Lib.hid (Hk.out.bel kb)
  clear C4
  clear ho
  have C5 := Lib.hid ((show Calls Try.prog 17 #[.slice (some ⟨bl, ol, none⟩) 2 cl, .int .i64 3] w4 fun e w' => e = .returned (.tuple #[.int .i64 1, .bool true]) ∧ Bel w4 w' from find (some ⟨bl, ol, none⟩) 2 cl [(5, 1, 1, 0, false, false), (3, 9, 1, 0, false, false)] 3 w4 Hl.out (by decide) (i64s rfl) (by unfold I64; omega)))
  go_wp2_with fail
  refine C5.out.mono ?_
  rintro x w5 ⟨rfl, kb⟩
  have K5 := Lib.hid (K4.out.trans kb)
  have Hl := Lib.hid (Hl.out.bel kb)
  have Hm := Lib.hid (Hm.out.bel kb)
  have Hk := Lib.hid (Hk.out.bel kb)
  clear C5
  have C6 := Lib.hid ((show Calls Try.prog 22 #[.slice Am 2 cm] w5 fun e w' => ∃ v, e = .returned v ∧ OwnB w' _ v [true, false] ∧ Bel w5 w' from acts_ Am 2 cm [(5, 1, 2, 0, false, false), (3, 9, 1, 0, false, false)] w5 Hm.out (by decide)))
  go_wp2_with fail
  refine C6.out.mono ?_
  rintro x w6 ⟨v, rfl, ho, kb⟩
  have K6 := Lib.hid (K5.out.trans kb)
  have Hl := Lib.hid (Hl.out.bel kb)
  have Hm := Lib.hid (Hm.out.bel kb)
  have Hk := Lib.hid (Hk.out.bel kb)
  clear C6
  obtain ⟨Aa, ca, rfl, ha⟩ := Rw.OwnR.slice ho
  have Ha := Lib.hid (show Rw.RS bR w6 Aa 2 ca [true, false] from ha)
  clear ha
  have C7 := Lib.hid ((show Calls Try.prog 19 #[.slice Aa 2 ca, .slice (some ⟨w6.heap.size, 0, none⟩) 2 2] (w6.alloc (.cells #[.bool true, .bool false] 4)) fun e w' => e = .returned (.bool true) ∧ Bel (w6.alloc (.cells #[.bool true, .bool false] 4)) w' from same_bools Aa _ 2 ca 2 2 [true, false] [true, false] (w6.alloc (.cells #[.bool true, .bool false] 4)) (Ha.out.bel ((Bel.refl _).alloc _)) (Rw.rs_blk bR (Blk.new w6 #[.bool true, .bool false] 4) (l := [true, false]) rfl (Nat.le_refl _) rfl) (by decide) (by decide)))
  go_wp2_with fail
  refine C7.out.mono ?_
  rintro x w7 ⟨rfl, kb⟩
  have kb := (((Bel.refl w6).alloc (.cells #[.bool true, .bool false] 4))).trans kb
  have K7 := Lib.hid (K6.out.trans kb)
  have Hl := Lib.hid (Hl.out.bel kb)
  have Hm := Lib.hid (Hm.out.bel kb)
  have Hk := Lib.hid (Hk.out.bel kb)
  have Ha := Lib.hid (Ha.out.bel kb)
  clear C7
  have C8 := Lib.hid ((show Calls Try.prog 20 #[.slice Ak 2 ck] w7 fun e w' => ∃ v, e = .returned v ∧ OwnB w' _ v [false, true] ∧ Bel w7 w' from free_ Ak 2 ck [(5, 1, 3, 30, false, false), (3, 9, 1, 0, false, false)] w7 Hk.out (by decide)))
  go_wp2_with fail
  refine C8.out.mono ?_
  rintro x w8 ⟨v, rfl, ho, kb⟩
  have K8 := Lib.hid (K7.out.trans kb)
  have Hl := Lib.hid (Hl.out.bel kb)
  have Hm := Lib.hid (Hm.out.bel kb)
  have Hk := Lib.hid (Hk.out.bel kb)
  have Ha := Lib.hid (Ha.out.bel kb)
  clear C8
  obtain ⟨Ab, cb, rfl, hb⟩ := Rw.OwnR.slice ho
  have Hb := Lib.hid (show Rw.RS bR w8 Ab 2 cb [false, true] from hb)
  clear hb
  have C9 := Lib.hid ((show Calls Try.prog 19 #[.slice Ab 2 cb, .slice (some ⟨w8.heap.size, 0, none⟩) 2 2] (w8.alloc (.cells #[.bool false, .bool true] 4)) fun e w' => e = .returned (.bool true) ∧ Bel (w8.alloc (.cells #[.bool false, .bool true] 4)) w' from same_bools Ab _ 2 cb 2 2 [false, true] [false, true] (w8.alloc (.cells #[.bool false, .bool true] 4)) (Hb.out.bel ((Bel.refl _).alloc _)) (Rw.rs_blk bR (Blk.new w8 #[.bool false, .bool true] 4) (l := [false, true]) rfl (Nat.le_refl _) rfl) (by decide) (by decide)))
  go_wp2_with fail
  refine C9.out.mono ?_
  rintro x w9 ⟨rfl, kb⟩
  have kb := (((Bel.refl w8).alloc (.cells #[.bool false, .bool true] 4))).trans kb
  have K9 := Lib.hid (K8.out.trans kb)
  have Hl := Lib.hid (Hl.out.bel kb)
  have Hm := Lib.hid (Hm.out.bel kb)
  have Hk := Lib.hid (Hk.out.bel kb)
  have Ha := Lib.hid (Ha.out.bel kb)
  have Hb := Lib.hid (Hb.out.bel kb)
  clear C9
  go_wp2_with fail
  go_ret
  exact ⟨rfl, K9.out⟩
end Ro
end Go.Proofs.Ytpfdakkameifkaa
