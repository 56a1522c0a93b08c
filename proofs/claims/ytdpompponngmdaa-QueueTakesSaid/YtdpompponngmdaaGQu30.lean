/-
  The closed law QueueKnown answers true. No condition.
-/
import Derived.Laws.StructEq
import Derived.ChangeKeysEq
import Derived.Test.YtdpompponngmdaaQG
import Derived.Test.YtdpompponngmdaaGQu12
namespace Go.Proofs.Ytdpompponngmdaa
open Go.RowKit Go.Shelf
set_option linter.unusedVariables false
set_option linter.unusedSimpArgs false
set_option Elab.async false
namespace Rw


theorem eqIn_fault (d : Nat) (a0 a1 b0 b1 : Int) (W : World) : (Op.equalIn (d + 2) 60 (.agg #[Value.int .i64 a0, Value.int .i64 a1]) (.agg #[Value.int .i64 b0, Value.int .i64 b1])).run Try.prog W = .ok ((a0 == b0) && ((a1 == b1) && true)) W := by
  have hS : Try.prog.underlying 60 = some (.struct (Try.prog.fieldsOf 60)) := by kernel_rfl
  rw [show d + 2 = (d + 1) + 1 from rfl, run_equalIn_struct W (d + 1) _ _ _ hS (by kernel_rfl)]
  simp only [Program.fieldsOf, Try.underlying60]
  exact eqF_cons (by decide) (partI Try.underlying30 rfl _) (partI Try.underlying30 rfl _) (run_equalIn_int W _ _ _ _ _ _ Try.underlying30) (eqF_cons (by decide) (partI Try.underlying3 rfl _) (partI Try.underlying3 rfl _) (run_equalIn_int W _ _ _ _ _ _ Try.underlying3) (eqF_nil))
theorem eq_fault (a0 a1 b0 b1 : Int) : ((a0 == b0) && ((a1 == b1) && true)) = decide ((a0, a1) = (b0, b1)) := by
  rw [Bool.eq_iff_iff]
  simp only [Bool.and_eq_true, beq_iff_eq, Prod.mk.injEq, and_assoc, and_true, decide_eq_true_eq]
theorem eql_fault (a0 a1 b0 b1 : Int) (W : World) : (binOp .eql 60 (.agg #[Value.int .i64 a0, Value.int .i64 a1]) (.agg #[Value.int .i64 b0, Value.int .i64 b1])).run Try.prog W = .ok (.bool (decide ((a0, a1) = (b0, b1)))) W := by
  rw [run_eql_struct, show (10000 : Nat) = 9998 + 2 from rfl, eqIn_fault, eq_fault]
  rfl
theorem neq_fault (a0 a1 b0 b1 : Int) (W : World) : (binOp .neq 60 (.agg #[Value.int .i64 a0, Value.int .i64 a1]) (.agg #[Value.int .i64 b0, Value.int .i64 b1])).run Try.prog W = .ok (.bool (!decide ((a0, a1) = (b0, b1)))) W := by
  rw [run_neq_struct, show (10000 : Nat) = 9998 + 2 from rfl, eqIn_fault, eq_fault]
  rfl

end Rw
namespace Qu
open Kk Pm

def M3 : List E8 := [(0, 2, 5, -1, 0, 9, 10, 10), (1, 2, 5, -1, 0, 9, 20, 20), (0, 3, 6, 2, 5, 12, 30, 0)]
def BB : List Int := [1, 0, 2, 5, 0, 0, 9, 10, 10]
theorem wn3 : Wn C3 := fun r hr => by
  simp [C3] at hr
  rcases hr with rfl | rfl | rfl <;> (unfold ini; simp)
theorem byL : (if (chk (C3.take 1)).1 = 0 then encL (C3.take 1) else []) = BB := by decide +kernel
theorem B1_b : Cd.Bytes B1 := Cd.bytes_of (by decide)
theorem B2_b : Cd.Bytes B2 := Cd.bytes_of (by decide)
theorem slice_h1 (A : Option Addr) (n c : Nat) (w : World) (hc : 1 ≤ c) : (Instr.slice 22 (.slice A n c) none (some (.int .i64 1)) none).run Try.prog w = .ok (.slice A 1 c) w := by
  rw [run_slice_h (P := Try.prog) (w := w) (t := 22) (a := A) (len := n) (cap := c) (by rw [elemE]; exact underE) .i64 1 (by omega) (by omega), elemE]
  simp [sizeE, Result.andThen, sliced]
  intro _
  cases A with
  | none => rfl
  | some a => simp [Addr.add]
set_option maxRecDepth 100000 in
set_option maxHeartbeats 32000000 in
theorem known (w : World) : Calls Try.prog 6 #[] w fun e w' => e = .returned (.bool true) ∧ Bel w w' := by
  have K0 := Lib.hid (Bel.refl w)
  go_enter Try.func6, Try.ntmps6
  have C1 := Lib.hid (chapter_ w)
  go_wp2_with fail
  refine C1.out.mono ?_
  rintro x w1 ⟨A, c, rfl, hr, kb⟩
  have K1 := Lib.hid (K0.out.trans kb)
  clear C1
  have Hi := Lib.hid hr
  clear hr
  have C2 := Lib.hid ((show Calls Try.prog 27 #[.slice A 3 c, .int .i64 0, .int .i64 3] w1 fun e w' => e = .returned (.int .i64 1) ∧ Bel w1 w' by have h := liveX A 3 c C3 0 3 w1 Hi.out (by decide); rwa [show live C3 0 3 = 1 by decide +kernel] at h))
  go_wp2_with fail
  refine C2.out.mono ?_
  rintro x w2 ⟨rfl, kb⟩
  have K2 := Lib.hid (K1.out.trans kb)
  have Hi := Lib.hid (Hi.out.bel kb)
  clear C2
  have C3 := Lib.hid ((show Calls Try.prog 27 #[.slice A 3 c, .int .i64 1, .int .i64 3] w2 fun e w' => e = .returned (.int .i64 0) ∧ Bel w2 w' by have h := liveX A 3 c C3 1 3 w2 Hi.out (by decide); rwa [show live C3 1 3 = 0 by decide +kernel] at h))
  go_wp2_with fail
  refine C3.out.mono ?_
  rintro x w3 ⟨rfl, kb⟩
  have K3 := Lib.hid (K2.out.trans kb)
  have Hi := Lib.hid (Hi.out.bel kb)
  clear C3
  have C4 := Lib.hid (ofX A 3 c C3 0 w3 Hi.out (by decide))
  go_wp2_with fail
  refine C4.out.mono ?_
  rintro x w4 ⟨vo, rfl, ho, kb⟩
  have K4 := Lib.hid (K3.out.trans kb)
  have Hi := Lib.hid (Hi.out.bel kb)
  clear C4
  obtain ⟨Ao, co, rfl, _⟩ := Rw.OwnR.slice ho
  rw [show (ofL C3 0).length = 2 by decide +kernel]
  clear ho
  have C5 := Lib.hid (cuts_ 2 10 1000000000 0 none 0 0 [] w4 Rw.RS.nil_ (by decide) (by decide +kernel) (by decide +kernel) (by decide +kernel) (fun i x h => by simp at h) (by decide))
  go_wp2_with fail
  refine C5.out.mono ?_
  rintro x w5 ⟨rfl, kb⟩
  have K5 := Lib.hid (K4.out.trans kb)
  have Hi := Lib.hid (Hi.out.bel kb)
  clear C5
  have C6 := Lib.hid ((show Calls Try.prog 20 #[.slice A 3 c, .int .i64 3, .int .i64 12, .int .u64 1000000000] w5 fun e w' => ∃ y1 y2, e = .returned (.tuple #[y1, y2, .int .u64 30, .int .i64 0]) ∧ OwnE w' (World.heap w5).size y1 M3 ∧ Bel w5 w' by refine (cut A 3 c C3 3 12 1000000000 w5 Hi.out (by decide) wd3 (by decide)).mono ?_; rintro e w9 ⟨y1, y2, rfl, h1, _, kb⟩; exact ⟨y1, y2, by rw [show ctN C3 3 12 1000000000 = 30 by decide +kernel, show ctE C3 3 12 1000000000 = 0 by decide +kernel], by rw [show ctL C3 3 12 1000000000 = M3 by decide +kernel] at h1; exact h1, kb⟩))
  go_wp2_with fail
  refine C6.out.mono ?_
  rintro x w6 ⟨y1, y2, rfl, hm, kb⟩
  have K6 := Lib.hid (K5.out.trans kb)
  have Hi := Lib.hid (Hi.out.bel kb)
  clear C6
  obtain ⟨gm, cm, rfl, _, hrb, _⟩ := Rw.rb_own eR hm (by decide)
  have Hm := Lib.hid hrb
  rw [show M3.length = 3 from rfl]
  clear hm hrb
  have C7 := Lib.hid ((show Calls Try.prog 20 #[.slice A 3 c, .int .i64 32, .int .i64 1, .int .u64 0] w6 fun e w' => ∃ y1 y2, e = .returned (.tuple #[y1, y2, .int .u64 0, .int .i64 3]) ∧ Bel w6 w' by refine (cut A 3 c C3 32 1 0 w6 Hi.out (by decide) wd3 (by decide)).mono ?_; rintro e w9 ⟨y1, y2, rfl, _, _, kb⟩; exact ⟨y1, y2, by rw [show ctN C3 32 1 0 = 0 by decide +kernel, show ctE C3 32 1 0 = 3 by decide +kernel], kb⟩))
  go_wp2_with fail
  refine C7.out.mono ?_
  rintro x w7 ⟨y3, y4, rfl, kb⟩
  have K7 := Lib.hid (K6.out.trans kb)
  have Hi := Lib.hid (Hi.out.bel kb)
  have Hm := Lib.hid (Hm.out.bel kb)
  clear C7
  have C8 := Lib.hid ((show Calls Try.prog 20 #[.slice A 3 c, .int .i64 0, .int .i64 1, .int .u64 1000000001] w7 fun e w' => ∃ y1 y2, e = .returned (.tuple #[y1, y2, .int .u64 0, .int .i64 3]) ∧ Bel w7 w' by refine (cut A 3 c C3 0 1 1000000001 w7 Hi.out (by decide) wd3 (by decide)).mono ?_; rintro e w9 ⟨y1, y2, rfl, _, _, kb⟩; exact ⟨y1, y2, by rw [show ctN C3 0 1 1000000001 = 0 by decide +kernel, show ctE C3 0 1 1000000001 = 3 by decide +kernel], kb⟩))
  go_wp2_with fail
  refine C8.out.mono ?_
  rintro x w8 ⟨y5, y6, rfl, kb⟩
  have K8 := Lib.hid (K7.out.trans kb)
  have Hi := Lib.hid (Hi.out.bel kb)
  have Hm := Lib.hid (Hm.out.bel kb)
  clear C8
  have m7 := (rng8 (rb_rng (k := 0) (r1 := 0) (r2 := 2) (r3 := 5) (r4 := -1) (r5 := 0) (r6 := 9) (r7 := 10) (r8 := 10) Hm.out rfl)).2.2.2.2.2.2.2
  have m15 := (rng8 (rb_rng (k := 1) (r1 := 1) (r2 := 2) (r3 := 5) (r4 := -1) (r5 := 0) (r6 := 9) (r7 := 20) (r8 := 20) Hm.out rfl)).2.2.2.2.2.2.2
  have m23 := (rng8 (rb_rng (k := 2) (r1 := 0) (r2 := 3) (r3 := 6) (r4 := 2) (r5 := 5) (r6 := 12) (r7 := 30) (r8 := 0) Hm.out rfl)).2.2.2.2.2.2.2
  have m22 := (rng8 (rb_rng (k := 2) (r1 := 0) (r2 := 3) (r3 := 6) (r4 := 2) (r5 := 5) (r6 := 12) (r7 := 30) (r8 := 0) Hm.out rfl)).2.2.2.2.2.2.1
  simp only [Nat.zero_mul, Nat.one_mul, Nat.zero_add, Nat.reduceMul, Nat.reduceAdd] at m7 m15 m23 m22
  go_upto_region 7 with fail
  clear m7 m15 m23 m22 Hm
  have C9 := Lib.hid (ripe_ok A 3 c C3 18 10 0 3 w8 Hi.out (by decide) wd3 (by decide +kernel) (by decide +kernel) (by decide +kernel) rfl)
  go_wp2_with fail
  refine C9.out.mono ?_
  rintro x w9 ⟨rfl, kb⟩
  have K9 := Lib.hid (K8.out.trans kb)
  have Hi := Lib.hid (Hi.out.bel kb)
  clear C9
  have C10 := Lib.hid (ripe_ok A 3 c C3 19 10 2 1 w9 Hi.out (by decide) wd3 (by decide +kernel) (by decide +kernel) (by decide +kernel) rfl)
  go_wp2_with fail
  refine C10.out.mono ?_
  rintro x w10 ⟨rfl, kb⟩
  have K10 := Lib.hid (K9.out.trans kb)
  have Hi := Lib.hid (Hi.out.bel kb)
  clear C10
  have C11 := Lib.hid (ripe_no A 3 c C3 0 10 3 w10 Hi.out (by decide) wd3 (by decide +kernel) (by decide) (by decide))
  go_wp2_with fail
  refine C11.out.mono ?_
  rintro x w11 ⟨rfl, kb⟩
  have K11 := Lib.hid (K10.out.trans kb)
  have Hi := Lib.hid (Hi.out.bel kb)
  clear C11
  have C12 := Lib.hid (two_ w11)
  go_wp2_with fail
  refine C12.out.mono ?_
  rintro x w12 ⟨rfl, kb⟩
  have K12 := Lib.hid (K11.out.trans kb)
  have Hi := Lib.hid (Hi.out.bel kb)
  clear C12
  have C13 := Lib.hid (entry_ 0 2 5 (-1) 0 12 3 w12)
  go_wp2_with fail
  refine C13.out.mono ?_
  rintro x w13 ⟨rfl, kb⟩
  have K13 := Lib.hid (K12.out.trans kb)
  have Hi := Lib.hid (Hi.out.bel kb)
  clear C13
  go_upto_region 9 with fail
  have HNG := Lib.hid (show ∀ x : Addr, A = some x → ¬ x.block = (World.heap w13).size from fun x hx e => by obtain ⟨b, o, ha, hlt, _⟩ := Hi.out.row (by decide); rw [hx] at ha; injection ha with ha; subst ha; simp at e; omega)
  have o0 := Blk.new w13 #[.int .i64 0, .int .i64 2, .int .i64 5, .int .i64 (-1), .int .i64 0, .int .i64 12, .int .u64 3, .int .u64 3] 27
  have ob := (Bel.refl w13).alloc (.cells #[.int .i64 0, .int .i64 2, .int .i64 5, .int .i64 (-1), .int .i64 0, .int .i64 12, .int .u64 3, .int .u64 3] 27)
  obtain ⟨V14, hV⟩ : ∃ V, World.alloc w13 (.cells #[.int .i64 0, .int .i64 2, .int .i64 5, .int .i64 (-1), .int .i64 0, .int .i64 12, .int .u64 3, .int .u64 3] 27) = V := ⟨_, rfl⟩
  obtain ⟨go_, hg⟩ : ∃ g, (World.heap w13).size = g := ⟨_, rfl⟩
  have HGE := Lib.hid (show w.heap.size ≤ go_ by rw [← hg]; exact Below.size K13.out)
  rw [hV] at o0 ob ⊢
  rw [hg] at o0 HNG ⊢
  have Hi := Lib.hid (Hi.out.bel ob)
  have KV := Lib.hid (K13.out.trans ob)
  have O0 := Lib.hid o0
  have o7 := O0.out.cell 7 rfl
  have of := O0.out.frozen 7
  clear hV hg ob o0
  go_upto_region 10 with fail
  clear o7 of
  have Hi := Lib.hid (show Rw.RS eR (World.setCell V14 ⟨go_, 7, none⟩ (.int .u64 2)) A 3 c C3 from Hi.out.kep (S := fun j => j = go_) ((Kk.Kep.refl _ _).set_self 7 _) HNG.out)
  have Hod := Lib.hid (show Blk (World.setCell V14 ⟨go_, 7, none⟩ (.int .u64 2)) go_ #[.int .i64 0, .int .i64 2, .int .i64 5, .int .i64 (-1), .int .i64 0, .int .i64 12, .int .u64 3, .int .u64 2] 27 from O0.out.set 7 _)
  have KV := Lib.hid (show Bel w (World.setCell V14 ⟨go_, 7, none⟩ (.int .u64 2)) from KV.out.set HGE.out _)
  obtain ⟨w14, hV⟩ : ∃ V, World.setCell V14 ⟨go_, 7, none⟩ (.int .u64 2) = V := ⟨_, rfl⟩
  rw [hV] at Hi Hod KV ⊢
  have K14 := Lib.hid KV.out
  clear hV O0 HNG KV
  have C15 := Lib.hid (hop_ w14)
  go_wp2_with fail
  refine C15.out.mono ?_
  rintro x w15 ⟨rfl, kb⟩
  have K15 := Lib.hid (K14.out.trans kb)
  have Hi := Lib.hid (Hi.out.bel kb)
  have Hod := Lib.hid (Hod.out.bel kb)
  clear C15
  have C16 := Lib.hid (entry_ 0 3 6 2 5 11 1 w15)
  go_wp2_with fail
  refine C16.out.mono ?_
  rintro x w16 ⟨rfl, kb⟩
  have K16 := Lib.hid (K15.out.trans kb)
  have Hi := Lib.hid (Hi.out.bel kb)
  have Hod := Lib.hid (Hod.out.bel kb)
  clear C16
  have C17 := Lib.hid (adds_ 0 3 6 2 5 11 1 1 2 9 w16 (by decide) (by decide +kernel))
  go_wp2_with fail
  refine C17.out.mono ?_
  rintro x w17 ⟨rfl, kb⟩
  have K17 := Lib.hid (K16.out.trans kb)
  have Hi := Lib.hid (Hi.out.bel kb)
  have Hod := Lib.hid (Hod.out.bel kb)
  clear C17
  have C18 := Lib.hid (two_ w17)
  go_wp2_with fail
  refine C18.out.mono ?_
  rintro x w18 ⟨rfl, kb⟩
  have K18 := Lib.hid (K17.out.trans kb)
  have Hi := Lib.hid (Hi.out.bel kb)
  have Hod := Lib.hid (Hod.out.bel kb)
  clear C18
  have C19 := Lib.hid (entry_ 0 2 5 (-1) 0 12 1 w18)
  go_wp2_with fail
  refine C19.out.mono ?_
  rintro x w19 ⟨rfl, kb⟩
  have K19 := Lib.hid (K18.out.trans kb)
  have Hi := Lib.hid (Hi.out.bel kb)
  have Hod := Lib.hid (Hod.out.bel kb)
  clear C19
  have C20 := Lib.hid (adds_ 0 2 5 (-1) 0 12 1 1 1 22 w19 (by decide) (by decide +kernel))
  go_wp2_with fail
  refine C20.out.mono ?_
  rintro x w20 ⟨rfl, kb⟩
  have K20 := Lib.hid (K19.out.trans kb)
  have Hi := Lib.hid (Hi.out.bel kb)
  have Hod := Lib.hid (Hod.out.bel kb)
  clear C20
  have C21 := Lib.hid (two_ w20)
  go_wp2_with fail
  refine C21.out.mono ?_
  rintro x w21 ⟨rfl, kb⟩
  have K21 := Lib.hid (K20.out.trans kb)
  have Hi := Lib.hid (Hi.out.bel kb)
  have Hod := Lib.hid (Hod.out.bel kb)
  clear C21
  have C22 := Lib.hid (entry_ 0 2 5 (-1) 0 12 0 w21)
  go_wp2_with fail
  refine C22.out.mono ?_
  rintro x w22 ⟨rfl, kb⟩
  have K22 := Lib.hid (K21.out.trans kb)
  have Hi := Lib.hid (Hi.out.bel kb)
  have Hod := Lib.hid (Hod.out.bel kb)
  clear C22
  have C23 := Lib.hid (adds_ 0 2 5 (-1) 0 12 0 0 2 14 w22 (by decide) (by decide +kernel))
  go_wp2_with fail
  refine C23.out.mono ?_
  rintro x w23 ⟨rfl, kb⟩
  have K23 := Lib.hid (K22.out.trans kb)
  have Hi := Lib.hid (Hi.out.bel kb)
  have Hod := Lib.hid (Hod.out.bel kb)
  clear C23
  have c0 := Hod.out.cell 0 rfl
  have c1 := Hod.out.cell 1 rfl
  have c2 := Hod.out.cell 2 rfl
  have c3 := Hod.out.cell 3 rfl
  have c4 := Hod.out.cell 4 rfl
  have c5 := Hod.out.cell 5 rfl
  have c6 := Hod.out.cell 6 rfl
  have c7 := Hod.out.cell 7 rfl
  have C24 := Lib.hid (adds_ 0 2 5 (-1) 0 12 3 2 2 11 w23 (by decide) (by decide +kernel))
  go_wp2_with fail
  refine C24.out.mono ?_
  rintro x w24 ⟨rfl, kb⟩
  have K24 := Lib.hid (K23.out.trans kb)
  have Hi := Lib.hid (Hi.out.bel kb)
  have Hod := Lib.hid (Hod.out.bel kb)
  clear C24
  clear c0 c1 c2 c3 c4 c5 c6 c7
  have C25 := Lib.hid (two_ w24)
  go_wp2_with fail
  refine C25.out.mono ?_
  rintro x w25 ⟨rfl, kb⟩
  have K25 := Lib.hid (K24.out.trans kb)
  have Hi := Lib.hid (Hi.out.bel kb)
  clear C25
  have C26 := Lib.hid (entry_ 0 2 5 (-1) 0 12 3 w25)
  go_wp2_with fail
  refine C26.out.mono ?_
  rintro x w26 ⟨rfl, kb⟩
  have K26 := Lib.hid (K25.out.trans kb)
  have Hi := Lib.hid (Hi.out.bel kb)
  clear C26
  have C27 := Lib.hid (adds_ 0 2 5 (-1) 0 12 3 3 17 3 w26 (by decide) (by decide +kernel))
  go_wp2_with fail
  refine C27.out.mono ?_
  rintro x w27 ⟨rfl, kb⟩
  have K27 := Lib.hid (K26.out.trans kb)
  have Hi := Lib.hid (Hi.out.bel kb)
  clear C27
  have s1 := fun V => slice_h1 A 3 c V (by have := Hi.out.cap; omega)
  have C28 := Lib.hid ((show Calls Try.prog 37 #[.slice A 1 c] w27 fun e w' => ∃ v, e = .returned (.tuple #[v, .int .i64 0]) ∧ Fresh w27 w' v BB ∧ Bel w27 w' by refine (bytes_ A 1 c (C3.take 1) w27 (Hi.out.part (by decide)) (by decide) (fun r hr => wd3 r (List.mem_of_mem_take hr)) (fun r hr => wn3 r (List.mem_of_mem_take hr))).mono ?_; rintro e w9 ⟨v, rfl, hf⟩; exact ⟨v, by rw [show (chk (C3.take 1)).1 = 0 by decide +kernel], by rw [byL] at hf; exact hf, hf.2⟩))
  go_wp2_with fail
  refine C28.out.mono ?_
  rintro x w28 ⟨vb, rfl, hfr, kb⟩
  have K28 := Lib.hid (K27.out.trans kb)
  have Hi := Lib.hid (Hi.out.bel kb)
  clear C28
  obtain ⟨Ab, cb, rfl, hb⟩ := Cd.Fresh.sl hfr
  have Hb := Lib.hid hb
  rw [show BB.length = 9 from rfl]
  clear hb hfr s1
  have C29 := Lib.hid (show Calls Try.prog 38 #[.slice (some ⟨(World.heap w28).size, 0, none⟩) 9 9] (World.alloc w28 (.cells #[.int .u8 1, .int .u8 0, .int .u8 2, .int .u8 5, .int .u8 0, .int .u8 0, .int .u8 4, .int .u8 1, .int .u8 1] 5)) fun e w' => ∃ v, e = .returned (.tuple #[v, .agg #[.int .i64 9, .int .i64 1]]) ∧ Bel (World.alloc w28 (.cells #[.int .u8 1, .int .u8 0, .int .u8 2, .int .u8 5, .int .u8 0, .int .u8 0, .int .u8 4, .int .u8 1, .int .u8 1] 5)) w' from by refine (read_ (some ⟨(World.heap w28).size, 0, none⟩) 9 9 B1 [] 9 (some (9, 1)) 9 1 (World.alloc w28 (.cells #[.int .u8 1, .int .u8 0, .int .u8 2, .int .u8 5, .int .u8 0, .int .u8 0, .int .u8 4, .int .u8 1, .int .u8 1] 5)) (sl_lit w28 B1) (by decide) B1_b rq_1 (by decide) (fun r h => by cases h) rfl).mono ?_; rintro e w9 ⟨v, rfl, _, kb⟩; exact ⟨v, rfl, kb⟩)
  go_wp2_with fail
  refine C29.out.mono ?_
  rintro x w29 ⟨vr29, rfl, kb⟩
  have kb := ((Bel.refl w28).alloc (.cells #[.int .u8 1, .int .u8 0, .int .u8 2, .int .u8 5, .int .u8 0, .int .u8 0, .int .u8 4, .int .u8 1, .int .u8 1] 5)).trans kb
  have K29 := Lib.hid (K28.out.trans kb)
  have Hi := Lib.hid (Hi.out.bel kb)
  have Hb := Lib.hid (Hb.out.bel kb)
  clear C29 kb
  have o0 := Blk.new w29 #[.int .i64 9, .int .i64 1] 60
  have ob := (Bel.refl w29).alloc (.cells #[.int .i64 9, .int .i64 1] 60)
  go_upto_region 15 with fail
  obtain ⟨w30, hV⟩ : ∃ V, World.alloc w29 (.cells #[.int .i64 9, .int .i64 1] 60) = V := ⟨_, rfl⟩
  obtain ⟨gfi, hg⟩ : ∃ g, (World.heap w29).size = g := ⟨_, rfl⟩
  rw [hV] at o0 ob ⊢
  rw [hg] at o0 ⊢
  have Hfi := Lib.hid o0
  clear hV hg o0
  have K30 := Lib.hid (K29.out.trans ob)
  have Hi := Lib.hid (Hi.out.bel ob)
  have Hb := Lib.hid (Hb.out.bel ob)
  clear ob
  have C31 := Lib.hid (show Calls Try.prog 38 #[.slice (some ⟨(World.heap w30).size, 0, none⟩) 2 2] (World.alloc w30 (.cells #[.int .u8 1, .int .u8 64] 5)) fun e w' => ∃ v, e = .returned (.tuple #[v, .agg #[.int .i64 3, .int .i64 1]]) ∧ Bel (World.alloc w30 (.cells #[.int .u8 1, .int .u8 64] 5)) w' from by refine (read_ (some ⟨(World.heap w30).size, 0, none⟩) 2 2 B2 [] 1 (some (3, 1)) 3 1 (World.alloc w30 (.cells #[.int .u8 1, .int .u8 64] 5)) (sl_lit w30 B2) (by decide) B2_b rq_2 (by decide) (fun r h => by cases h) rfl).mono ?_; rintro e w9 ⟨v, rfl, _, kb⟩; exact ⟨v, rfl, kb⟩)
  go_wp2_with fail
  refine C31.out.mono ?_
  rintro x w31 ⟨vr31, rfl, kb⟩
  have kb := ((Bel.refl w30).alloc (.cells #[.int .u8 1, .int .u8 64] 5)).trans kb
  have K31 := Lib.hid (K30.out.trans kb)
  have Hi := Lib.hid (Hi.out.bel kb)
  have Hb := Lib.hid (Hb.out.bel kb)
  have Hfi := Lib.hid (Hfi.out.bel kb)
  clear C31 kb
  have o0 := Blk.new w31 #[.int .i64 3, .int .i64 1] 60
  have ob := (Bel.refl w31).alloc (.cells #[.int .i64 3, .int .i64 1] 60)
  go_upto_region 16 with fail
  obtain ⟨w32, hV⟩ : ∃ V, World.alloc w31 (.cells #[.int .i64 3, .int .i64 1] 60) = V := ⟨_, rfl⟩
  obtain ⟨gfk, hg⟩ : ∃ g, (World.heap w31).size = g := ⟨_, rfl⟩
  rw [hV] at o0 ob ⊢
  rw [hg] at o0 ⊢
  have Hfk := Lib.hid o0
  clear hV hg o0
  have K32 := Lib.hid (K31.out.trans ob)
  have Hi := Lib.hid (Hi.out.bel ob)
  have Hb := Lib.hid (Hb.out.bel ob)
  have Hfi := Lib.hid (Hfi.out.bel ob)
  clear ob
  have C33 := Lib.hid (Cd.same Ab (some ⟨(World.heap w32).size, 0, none⟩) 9 cb 9 9 BB (World.alloc w32 (.cells #[.int .u8 1, .int .u8 0, .int .u8 2, .int .u8 5, .int .u8 0, .int .u8 0, .int .u8 9, .int .u8 10, .int .u8 10] 5)) (Hb.out.bel ((Bel.refl _).alloc _)).ints (sl_lit w32 BB).ints)
  have EQ1 := fun V => (Rw.eql_fault 9 1 9 1 V).trans (by rw [decide_eq_true (rfl : ((9 : Int), (1 : Int)) = (9, 1))])
  have EQ2 := fun V => (Rw.eql_fault 3 1 3 1 V).trans (by rw [decide_eq_true (rfl : ((3 : Int), (1 : Int)) = (3, 1))])
  go_wp2_with fail
  refine C33.out.mono ?_
  rintro x w33 ⟨rfl, rfl⟩
  clear C33
  have Hfi := Lib.hid (Hfi.out.alloc (.cells #[.int .u8 1, .int .u8 0, .int .u8 2, .int .u8 5, .int .u8 0, .int .u8 0, .int .u8 9, .int .u8 10, .int .u8 10] 5))
  have Hfk := Lib.hid (Hfk.out.alloc (.cells #[.int .u8 1, .int .u8 0, .int .u8 2, .int .u8 5, .int .u8 0, .int .u8 0, .int .u8 9, .int .u8 10, .int .u8 10] 5))
  have fi0 := Hfi.out.cell 0 rfl
  have fi1 := Hfi.out.cell 1 rfl
  have fk0 := Hfk.out.cell 0 rfl
  have fk1 := Hfk.out.cell 1 rfl
  go_wp2_with fail
  refine (awake _).mono ?_
  rintro e wz ⟨rfl, kz⟩
  have KZ := Lib.hid ((K32.out.alloc _).trans kz)
  clear kz fi0 fi1 fk0 fk1 EQ1 EQ2
  go_wp2_with fail
  go_ret
  exact ⟨rfl, KZ.out⟩
end Qu
end Go.Proofs.Ytdpompponngmdaa
