/-
  What the reference's Bytes of a stamp answers: any stamp. No condition.
-/
import Derived.Test.YtagcpphkabkgjaaSm4
import Derived.Test.YtagcpphkabkgjaaRm
import Derived.Test.YtagcpphkabkgjaaRef02
namespace Go.Proofs.Ytagcpphkabkgjaa
open Go.RowKit Go.Shelf
set_option linter.unusedVariables false
namespace Sm
open Cd

theorem take_succ' (zs : List Int) (i : Nat) (h : i < zs.length) : zs.take (i + 1) = zs.take i ++ [zs.getD i 0] := by
  rw [List.take_add_one, List.getElem?_eq_getElem h, Kk.getD_eq _ _ h]
  rfl
theorem encs4 (a b c d : Int) : Rm.encs [a, b, c + 1, d] = enc4 a b c d := by unfold enc4; simp [Rm.encs]

set_option maxRecDepth 10000 in
set_option maxHeartbeats 4000000 in
theorem bytesR (x1 x2 x3 x4 : Int) (w : World) :
    Calls Try.prog 10 #[stV x1 x2 x3 x4] w fun r w' => ∃ v, r = .returned (.tuple #[v, .int .i64 (ck x1 x2 x3 x4)]) ∧ Fresh w w' v (bytesN x1 x2 x3 x4) := by
  have CK := Lib.hid (fun V => show Calls Try.prog 41 #[stV x1 x2 x3 x4] V fun r w' => r = .returned (.int .i64 (ck x1 x2 x3 x4)) ∧ Bel V w' from checkR x1 x2 x3 x4 V)
  have P0 := Blk.new w #[.int .i64 x1, .int .i64 x2, .int .i64 x3, .int .i64 x4] 23
  have B0 := (Bel.refl w).alloc (.cells #[.int .i64 x1, .int .i64 x2, .int .i64 x3, .int .i64 x4] 23)
  obtain ⟨W, hW⟩ : ∃ W, w.alloc (.cells #[.int .i64 x1, .int .i64 x2, .int .i64 x3, .int .i64 x4] 23) = W := ⟨_, rfl⟩
  obtain ⟨p, hp⟩ : ∃ p, w.heap.size = p := ⟨_, rfl⟩
  rw [hW, hp] at P0
  rw [hW] at B0
  have P0 := Lib.hid P0
  have B0 := Lib.hid B0
  have HW := Lib.hid hW
  have HP := Lib.hid hp
  clear hW hp
  obtain ⟨e, he⟩ : ∃ e, ck x1 x2 x3 x4 = e := ⟨_, rfl⟩
  obtain ⟨zs, hz⟩ : ∃ zs, bytesN x1 x2 x3 x4 = zs := ⟨_, rfl⟩
  rw [he] at CK
  rw [he, hz]
  have HE := Lib.hid he
  have HZ := Lib.hid hz
  clear he hz
  go_enter Try.func10, Try.ntmps10
  go_upto_region 1 with fail
  rw [HW.out, HP.out]
  have c0 := P0.out.cell 0 rfl
  have c1 := P0.out.cell 1 rfl
  have c2 := P0.out.cell 2 rfl
  have c3 := P0.out.cell 3 rfl
  go_wp2_with fail
  refine (CK.out _).mono ?_
  rintro r w1 ⟨rfl, kb⟩
  have K1 := Lib.hid (B0.out.trans kb)
  have P1 := P0.out.bel kb
  clear kb c0 c1 c2 c3 CK
  by_cases h0 : e = 0
  · subst h0
    obtain ⟨a0, a1, b0, b1, g0, g1, d0, d1, -, -, -⟩ := ck_ok HE.out
    have HZE := Lib.hid (show Rm.encs [x1, x2, x3 + 1, x4] = zs by rw [encs4, ← HZ.out]; unfold bytesN; rw [if_pos HE.out])
    have w3 : IntKind.i64.wrap (x3 + 1) = x3 + 1 := IntWalk.i64_in _ (by omega)
    have c0 := P1.cell 0 rfl
    have c1 := P1.cell 1 rfl
    have c2 := P1.cell 2 rfl
    have c3 := P1.cell 3 rfl
    have HB := Lib.hid (show ∀ i, i < 4 → 0 ≤ [x1, x2, x3 + 1, x4].getD i 0 ∧ [x1, x2, x3 + 1, x4].getD i 0 ≤ 4294967296 by
      intro i hi
      match i, hi with
      | 0, _ => show 0 ≤ x1 ∧ x1 ≤ _; omega
      | 1, _ => show 0 ≤ x2 ∧ x2 ≤ _; omega
      | 2, _ => show 0 ≤ x3 + 1 ∧ x3 + 1 ≤ _; omega
      | 3, _ => show 0 ≤ x4 ∧ x4 ≤ _; omega)
    obtain ⟨x5, hx5⟩ : ∃ x, x3 + 1 = x := ⟨_, rfl⟩
    rw [hx5] at w3 HB HZE
    have L0 := Blk.new w1 #[.int .i64 x1, .int .i64 x2, .int .i64 x5, .int .i64 x4] 3
    have LB := (Bel.refl w1).alloc (.cells #[.int .i64 x1, .int .i64 x2, .int .i64 x5, .int .i64 x4] 3)
    obtain ⟨L, hL⟩ : ∃ L, [x1, x2, x5, x4] = L := ⟨_, rfl⟩
    have HL4 := Lib.hid (show L.length = 4 by rw [← hL]; rfl)
    have HLC := Lib.hid (show ∀ i, i < 4 → (#[.int .i64 x1, .int .i64 x2, .int .i64 x5, .int .i64 x4] : Array Value)[i]? = some (.int .i64 (L.getD i 0)) by
      rw [← hL]
      intro i hi
      match i, hi with
      | 0, _ => rfl
      | 1, _ => rfl
      | 2, _ => rfl
      | 3, _ => rfl)
    rw [hL] at HB HZE
    clear hL a0 a1 b0 b1 g0 g1 d0 d1
    go_upto_region 6 with fail
    obtain ⟨W1, hW⟩ : ∃ W, w1.alloc (.cells #[.int .i64 x1, .int .i64 x2, .int .i64 x5, .int .i64 x4] 3) = W := ⟨_, rfl⟩
    obtain ⟨g, hg⟩ : ∃ g, w1.heap.size = g := ⟨_, rfl⟩
    rw [hW, hg] at L0
    rw [hW] at LB
    rw [hW, hg]
    have L0 := Lib.hid L0
    have K2 := Lib.hid (K1.out.trans LB)
    clear hW hg LB c0 c1 c2 c3 P1 hx5 w3
    go_wp2_with fail
    go_loopw [5, 7] (fun v i wr => ∃ k : Nat, i = .int .i64 k ∧ k ≤ 4 ∧ Hid (wr.ownsRow W1.heap.size 5 1 v (Rm.encs (L.take k)).length ((Rm.encs (L.take k)).map (Value.int .u8)) ∧ Bel W1 wr)) (fun _ i _ => 4 - (intOf i).toNat)
    case atStart => exact ⟨0, rfl, by omega, Lib.hid ⟨World.ownsRow_nil _ _ _ _, Bel.refl _⟩⟩
    case round =>
      obtain ⟨k, rfl, hk, hh⟩ := hrel
      by_cases hlt : k < 4
      · have hlt2 : (k : Int) < 4 := by omega
        obtain ⟨y0, y1⟩ := HB.out k hlt
        have cy := (L0.out.bel hh.out.2).cell k (HLC.out k hlt)
        have HT := take_succ' L k (by rw [HL4.out]; exact hlt)
        have hbl := Rm.encs_len (L.take k)
        rw [show (L.take k).length = k by rw [List.length_take, HL4.out]; omega] at hbl
        obtain ⟨y, hy⟩ : ∃ y, L.getD k 0 = y := ⟨_, rfl⟩
        rw [hy] at y0 y1 cy HT
        have e5 : IntKind.u64.wrap y = y := by rw [IntKind.wrap_u64]; omega
        have PX := Lib.hid (fun V => ref_put y V y0 (by omega))
        have hbx := (enc_len y).2
        obtain ⟨zx, hzx⟩ : ∃ zx, enc y = zx := ⟨_, rfl⟩
        obtain ⟨O, hO⟩ : ∃ O, Rm.encs (L.take k) = O := ⟨_, rfl⟩
        have HOX := Lib.hid (show Rm.encs (L.take (k + 1)) = O ++ zx by rw [HT, Rm.encs_app, hO, ← hzx]; simp [Rm.encs])
        rw [hO] at hh hbl
        rw [hzx] at PX hbx
        obtain ⟨ol, hol⟩ : ∃ ol, O.length = ol := ⟨_, rfl⟩
        obtain ⟨zl, hzl⟩ : ∃ zl, zx.length = zl := ⟨_, rfl⟩
        rw [hol] at hh hbl
        rw [hzl] at hbx
        have HOLE := Lib.hid hol
        have HZLE := Lib.hid hzl
        have HH := Lib.hid hh.out
        clear hy hO hzx hol hzl HT hh y0 y1
        go_wp2_with fail
        refine (PX.out _).mono ?_
        rintro e w5 ⟨v5, rfl, hf5⟩
        obtain ⟨A5, c5, rfl, hsl⟩ := (show Fresh wr w5 v5 zx from hf5).sl
        have K5 := Lib.hid hf5.2
        have O5 := Lib.hid (owns_bel HH.out.1 K5.out)
        have SL5 := Lib.hid hsl
        rw [HZLE.out] at SL5
        rw [HZLE.out]
        have BS := Lib.hid (show W1.heap.size ≤ w5.heap.size from Nat.le_trans (Below.size HH.out.2) (Below.size K5.out))
        have hbnd : ol + zl ≤ 1000000000000 := by omega
        clear hf5 hsl PX cy
        go_wp2_with (at_builtin; refine wpList_append_sl rfl _ _ rfl W1.heap.size u5 ol _ rfl O5.out A5 zl c5 zx rfl SL5.out hbnd BS.out ?_; intro v' w6 hown' hgrow)
        refine ⟨⟨k + 1, by go_num, by omega, Lib.hid ⟨?_, (HH.out.2.trans K5.out).grown hgrow (fun j hj => (O5.out.lt j hj).1)⟩⟩, ?_⟩
        · rw [HOX.out, List.map_append, List.length_append, HOLE.out, HZLE.out]
          exact hown'
        · simp [intOf]; omega
      · obtain rfl : k = 4 := by omega
        have hO2 := hh.out.1
        rw [List.take_of_length_le (by rw [HL4.out]; omega), HZE.out] at hO2
        have HO2 := Lib.hid (show Fresh w wr u5 zs from ⟨owns_mono hO2 (Below.size K2.out), K2.out.trans hh.out.2⟩)
        clear hO2
        go_wp2_with fail
        go_ret2
        exact ⟨_, rfl, HO2.out⟩
  · have h1 : (e != 0) = true := by rw [bne_iff_ne]; exact h0
    obtain rfl : zs = [] := by rw [← HZ.out]; unfold bytesN; rw [if_neg (by rw [HE.out]; exact h0)]
    clear h0
    go_wp2_with fail
    go_ret2
    exact ⟨_, rfl, World.ownsRow_nil _ _ _ _, K1.out⟩
end Sm
end Go.Proofs.Ytagcpphkabkgjaa
