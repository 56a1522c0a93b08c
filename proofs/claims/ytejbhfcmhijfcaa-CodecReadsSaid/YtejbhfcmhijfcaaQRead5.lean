/-
  What the reference's reader answers: Blob.
  Conditions: the reader is one that the reference's NewReader made of at most 10^6 bytes.
-/
import Derived.Test.YtejbhfcmhijfcaaQRead4
namespace Go.Proofs.Ytejbhfcmhijfcaa
open Go.RowKit Go.Shelf
set_option linter.unusedVariables false
namespace Cd

theorem own_nil (w : World) (base : Nat) : w.ownsRow base 5 1 (.slice none 0 0) ([] : List Int).length (([] : List Int).map (Value.int .u8)) := World.ownsRow_nil _ _ _ _

set_option maxRecDepth 100000 in
set_option maxHeartbeats 2000000 in
theorem tBlob (b : Nat) (A : Option Addr) (n c : Nat) (zs : List Int) (k : Nat) (f : Option (Int × Int)) (most : Int) (ys : List Int) (k' : Nat) (f' : Option (Int × Int)) (w : World) (h : QT w b A n c zs k f) (hr : RB zs k f most ys k' f') (m1 : most ≤ 9223372036854775807) :
    Calls Try.prog 52 #[.pointer (some ⟨b, 0, none⟩), .int .i64 most] w fun r w' => ∃ v, r = .returned v ∧ w'.ownsRow w.heap.size 5 1 v ys.length (ys.map (Value.int .u8)) ∧ QT w' b A n c zs k' f' ∧ Kep (fun i => i = b) w w' := by
  obtain ⟨k2, hq, h2⟩ := h
  have k1 : w.cell? ⟨b, 1, none⟩ = some (.int .i64 (k2 : Int)) := hq.blk.cell 1 rfl
  rcases hr with ⟨p, rfl, rfl, rfl, rfl⟩ | ⟨rfl, tl, e, bad, ⟨x0, t0, e0, b0, hw, h0, h1, hcs⟩, hm, hk', hx⟩
  · have U := Lib.hid (qU b A n c zs k2 (some p) 0 k2 (some p) w hq (.inl ⟨p, rfl, rfl, rfl, rfl⟩))
    have he : p.1 ≠ 0 := hq.flt _ rfl
    have fe : (p.1 != 0) = true := by rw [bne_iff_ne]; exact he
    have fe2 : (p.1 == 0) = false := by rw [beq_eq_false_iff_ne]; exact he
    clear hq h2 he
    go_enter Try.func52, Try.ntmps52
    go_wp2_with fail
    refine (U.out).mono ?_
    rintro r w1 ⟨rfl, hq, hk⟩
    have c2 : w1.cell? ⟨b, 2, none⟩ = some (.int .i64 p.1) := hq.blk.cell 2 rfl
    have HQ := Lib.hid hq
    have HK := Lib.hid hk
    clear hq hk
    go_wp2
    go_ret
    exact ⟨_, rfl, own_nil _ _, ⟨k2, HQ.out, fun h => by cases h⟩, HK.out⟩
  obtain rfl := h2 rfl
  clear h2
  have hzl := hq.sl.len
  have hnl := hq.len
  rcases hcs with ⟨he, rfl, rfl, rfl, rfl⟩ | ⟨rfl, hx0, rfl, rfl, rfl, rfl⟩ | ⟨t, rfl, htl, rfl, m0, hx1, hx2, rfl, rfl, rfl, rfl⟩ | ⟨t, mm, rfl, rfl, htm, rfl, m0, hx1, rfl, rfl, rfl, rfl⟩
  · obtain ⟨h, _⟩ | ⟨_, rfl, rfl⟩ := hm
    · exact absurd h he
    have U := Lib.hid (qU b A n c zs k' none x0 k' (some (e, bad)) w hq (.inr ⟨rfl, _, _, _, hw, .inr ⟨he, rfl, rfl⟩, hk', way_zero hw⟩))
    have fe : (e != 0) = true := by rw [bne_iff_ne]; exact he
    have fe2 : (e == 0) = false := by rw [beq_eq_false_iff_ne]; exact he
    clear hq he hw hx hk' hzl hnl
    go_enter Try.func52, Try.ntmps52
    go_wp2_with fail
    refine (U.out).mono ?_
    rintro r w1 ⟨rfl, hq, hk⟩
    have c2 : w1.cell? ⟨b, 2, none⟩ = some (.int .i64 e) := hq.blk.cell 2 rfl
    have HQ := Lib.hid hq
    have HK := Lib.hid hk
    clear hq hk
    go_wp2
    go_ret
    exact ⟨_, rfl, own_nil _ _, ⟨k', HQ.out, fun h => by cases h⟩, HK.out⟩
  · obtain ⟨h, _⟩ | ⟨_, rfl, rfl⟩ := hm
    · exact absurd h (by decide)
    obtain ⟨t, rfl, ht⟩ := way_to hw
    have U := Lib.hid (qU b A n c zs k' none x0 t none w hq (.inr ⟨rfl, _, _, _, hw, .inl ⟨rfl, rfl, rfl⟩, ht, fun h => absurd rfl h⟩))
    have hcs : (most < 0 ∧ max most 0 = 0) ∨ (0 ≤ most ∧ most < x0 ∧ max most 0 = most) := by omega
    clear hq hw hx hk' hx0 hzl hnl
    rcases hcs with ⟨g1, e1⟩ | ⟨g1, g2, e1⟩
    all_goals
      go_enter Try.func52, Try.ntmps52
      go_wp2_with fail
      refine (U.out).mono ?_
      rintro r w1 ⟨rfl, hq, hk⟩
      have c2 : w1.cell? ⟨b, 2, none⟩ = some (.int .i64 0) := hq.blk.cell 2 rfl
      have FL := Lib.hid (qFail b A n c zs t none 4 (k' : Int) w1 hq)
      have HK := Lib.hid hk
      clear hq hk
      go_wp2_with fail
      refine (FL.out).mono ?_
      rintro r w2 ⟨rfl, hq, hk⟩
      have hq : QS w2 b A n c zs t (some (4, (k' : Int))) := hq
      have c2 : w2.cell? ⟨b, 2, none⟩ = some (.int .i64 4) := hq.blk.cell 2 rfl
      have HQ := Lib.hid hq
      have HK2 := Lib.hid (HK.out.trans hk)
      clear hq hk
      go_wp2
      go_ret
      exact ⟨_, rfl, own_nil _ _, ⟨t, HQ.out, fun h => by cases h⟩, HK2.out⟩
  · obtain ⟨h, _⟩ | ⟨_, rfl, rfl⟩ := hm
    · exact absurd h (by decide)
    have U := Lib.hid (qU b A n c zs k' none x0 t none w hq (.inr ⟨rfl, _, _, _, hw, .inl ⟨rfl, rfl, rfl⟩, htl, fun h => absurd rfl h⟩))
    obtain ⟨mm, rfl⟩ := Int.eq_ofNat_of_zero_le h0
    have g1 : 0 ≤ most := m0
    have g2 : (mm : Int) ≤ most := hx1
    have e1 : max most 0 = most := by omega
    have e2 : IntKind.i64.wrap (mm : Int) = (mm : Int) := IntWalk.i64_in _ (by omega)
    have hs : n < t + mm := by omega
    clear hq hw hx hk'
    go_enter Try.func52, Try.ntmps52
    go_wp2_with fail
    refine (U.out).mono ?_
    rintro r w1 ⟨rfl, hq, hk⟩
    have c2 : w1.cell? ⟨b, 2, none⟩ = some (.int .i64 0) := hq.blk.cell 2 rfl
    have TK := Lib.hid (take_short b A n c zs t mm (k' : Int) w1 hq hs)
    have HK := Lib.hid hk
    clear hq hk
    go_wp2_with fail
    refine (TK.out).mono ?_
    rintro r w2 ⟨rfl, hq, hk⟩
    have HQ := Lib.hid hq
    have HK2 := Lib.hid (HK.out.trans hk)
    clear hq hk
    go_wp2
    go_ret
    exact ⟨_, rfl, own_nil _ _, ⟨t, HQ.out, fun h => by cases h⟩, HK2.out⟩
  · obtain ⟨_, hk2, rfl⟩ | ⟨h, _⟩ := hm
    · obtain rfl : k' = t + mm := by omega
      have htl : t ≤ zs.length := by omega
      have U := Lib.hid (qU b A n c zs k2 none (mm : Int) t none w hq (.inr ⟨rfl, _, _, _, hw, .inl ⟨rfl, rfl, rfl⟩, htl, fun h => absurd rfl h⟩))
      have g1 : 0 ≤ most := m0
      have g2 : (mm : Int) ≤ most := hx1
      have e1 : max most 0 = most := by omega
      have e2 : IntKind.i64.wrap (mm : Int) = (mm : Int) := IntWalk.i64_in _ (by omega)
      have hs : t + mm ≤ n := by omega
      have hlen : ((zs.drop t).take mm).length = mm := by simp; omega
      have hwl := Lib.hid (fun w' (hk : Kep (fun i => i = b) w w') => hk.size)
      clear hq hw hx hk' hk2
      go_enter Try.func52, Try.ntmps52
      go_wp2_with fail
      refine (U.out).mono ?_
      rintro r w1 ⟨rfl, hq, hk⟩
      have c2 : w1.cell? ⟨b, 2, none⟩ = some (.int .i64 0) := hq.blk.cell 2 rfl
      have TK := Lib.hid (take_ok b A n c zs t mm (k2 : Int) w1 hq hs)
      have HK := Lib.hid hk
      have HS := Lib.hid (hk.size)
      clear hq hk
      go_wp2_with fail
      refine (TK.out).mono ?_
      rintro r w2 ⟨v, rfl, ho, hq, hk⟩
      have HO := Lib.hid (owns_mono ho HS.out)
      have HQ := Lib.hid hq
      have HK2 := Lib.hid (HK.out.trans hk)
      clear ho hq hk
      go_wp2
      go_ret
      exact ⟨v, rfl, by rw [hlen]; exact HO.out, ⟨t + mm, HQ.out, fun _ => rfl⟩, HK2.out⟩
    · exact absurd rfl h
end Cd
end Go.Proofs.Ytejbhfcmhijfcaa
