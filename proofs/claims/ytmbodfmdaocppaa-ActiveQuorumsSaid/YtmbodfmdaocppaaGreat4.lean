/-
  What SumGreat of distraintkit answers in this program: the sum of two great numbers.
  Conditions: the slices are great numbers of at most some thousand digits.
-/
import Derived.Test.YtmbodfmdaocppaaGreat3
namespace Go.Proofs.Ytmbodfmdaocppaa
open Go.RowKit Go.Shelf
set_option linter.unusedVariables false
namespace Gt

theorem ints_of_own' {w : World} {base : Nat} {e : TypeId} {v : Value} {n : Nat} {zs : List Int} (h : w.ownsRow base e 1 v n (zs.map (Value.int .u64))) :
    ∃ A c, v = .slice A n c ∧ Ints .u64 w A n zs ∧ n ≤ c ∧ c ≤ 9223372036854775807 := by
  obtain ⟨A, c, rfl, hi, hn⟩ := ints_of_own h
  refine ⟨A, c, rfl, hi, hn, ?_⟩
  rcases h.2 with ⟨h1, rfl⟩ | ⟨g, cap, cur, h1, hb, hg, hnc, hcm, r⟩
  · injection h1 with _ _ h2; omega
  · injection h1 with _ _ h2; unfold maxLen at hcm; omega

theorem one_cell (w : World) (u : Value) {t : TypeId} : ∀ (j : Nat) (u' : Value), [u][j]? = some u' → (w.alloc (.cells #[u] t)).cell? ((⟨w.heap.size, 0, none⟩ : Addr).add j) = some u' := by
  intro j u' hj
  match j, hj with
  | 0, hj => simp at hj; subst hj; simp [Addr.add]
theorem one_ok (z : Int) {k : IntKind} : ∀ u ∈ [Value.int k z], u.oneCell' = true := by
  intro u hu
  simp at hu
  subst hu
  rfl

theorem sum_round {zs xs ys : List Int} {c : Int} {i : Nat} (hl : zs.length = i) (h : valTo zs i + c * 65536 ^ i = valTo xs i + valTo ys i) :
    valTo (zs ++ [(c + xs.getD i 0 + ys.getD i 0) % 65536]) (i + 1) + (c + xs.getD i 0 + ys.getD i 0) / 65536 * 65536 ^ (i + 1) = valTo xs (i + 1) + valTo ys (i + 1) := by
  subst hl
  rw [valTo_snoc, pow_succ]
  show _ = valTo xs zs.length + xs.getD zs.length 0 * 65536 ^ zs.length + (valTo ys zs.length + ys.getD zs.length 0 * 65536 ^ zs.length)
  have e := Int.emod_add_mul_ediv (c + xs.getD zs.length 0 + ys.getD zs.length 0) 65536
  generalize (c + xs.getD zs.length 0 + ys.getD zs.length 0) % 65536 = r at *
  generalize hq : (c + xs.getD zs.length 0 + ys.getD zs.length 0) / 65536 = q at *
  generalize xs.getD zs.length 0 = x at *
  generalize ys.getD zs.length 0 = y at *
  generalize (65536 : Int) ^ zs.length = p at *
  have e2 : r * p + q * (p * 65536) = (c + x + y) * p := by rw [← e, Int.add_mul, Int.mul_comm 65536 q, Int.mul_assoc, Int.mul_comm 65536 p]
  rw [Int.add_mul, Int.add_mul] at e2
  omega

set_option maxHeartbeats 800000 in
set_option maxRecDepth 4000 in
theorem sum (v u : Value) (P Q : Int) (L M : Nat) (w : World) (hp : Gr w v P L) (hq : Gr w u Q M) (hL : L ≤ 100000) (hM : M ≤ 100000) :
    Calls Try.prog 32 #[v, u] w fun e w' => ∃ r, e = .returned r ∧ Gr w' r (P + Q) (L + M + 1) ∧ Bel w w' := by
  obtain ⟨A, n, c, xs, rfl, hx, hdx, hfx, rfl, hn⟩ := hp.open_
  obtain ⟨B, m, c', ys, rfl, hy, hdy, hfy, rfl, hm⟩ := hq.open_
  clear hp hq
  have HX := Lib.hid hx; have HY := Lib.hid hy; have DX := Lib.hid hdx; have DY := Lib.hid hdy
  clear hx hy hdx hdy hfx hfy
  have DG := Lib.hid (fun w' (hb : Bel w w') i => digit A n c xs i w' (HX.out.bel hb) (by omega))
  have DG' := Lib.hid (fun w' (hb : Bel w w') i => digit B m c' ys i w' (HY.out.bel hb) (by omega))
  obtain ⟨i0, hi, hz0, hz1, hz2⟩ := info_parts Try.info_u64
  go_enter Try.func32, Try.ntmps32
  go_wp2_with fail
  go_loopw [5, 6, 7] (fun o c i wr => ∃ (k : Nat) (q : Int) (zs : List Int), i = .int .i64 k ∧ c = .int .u64 q ∧ 0 ≤ q ∧ q ≤ 1 ∧ k ≤ max n m + 1 ∧ (k = max n m + 1 → q = 0) ∧ zs.length = k ∧ wr.ownsRow w.heap.size 36 1 o k (zs.map (Value.int .u64)) ∧ Dig zs ∧ valTo zs k + q * 65536 ^ k = valTo xs k + valTo ys k ∧ Bel w wr) (fun _ _ i _ => max n m + 1 - (intOf i).toNat)
  case atStart => exact ⟨0, 0, [], rfl, rfl, by omega, by omega, by omega, by omega, rfl, World.ownsRow_nil _ _ _ _, dig_nil, by simp [valTo], Bel.refl _⟩
  case round =>
    obtain ⟨k, q, zs, rfl, rfl, q0, q1, hk, hkq, hl, hown, hd, hv, hb⟩ := hrel
    have HV := Lib.hid hv
    have HO := Lib.hid hown
    have HL := Lib.hid hl
    have HD := Lib.hid hd
    have HKQ := Lib.hid hkq
    have hstep := Lib.hid (sum_round hl hv)
    obtain ⟨x0, x1⟩ := DX.out k
    obtain ⟨y0, y1⟩ := DY.out k
    have HXG := Lib.hid (fun (h : n ≤ k) => getD_ge (ys := xs) (i := k) (by rw [HX.out.1]; exact h))
    have HYG := Lib.hid (fun (h : m ≤ k) => getD_ge (ys := ys) (i := k) (by rw [HY.out.1]; exact h))
    have D1 := Lib.hid (DG.out wr hb k)
    have D2 := Lib.hid (DG'.out wr hb k)
    clear hv hown hl hd hkq
    by_cases hgo : k < max n m ∨ (max n m ≤ k ∧ 0 < q)
    · have hkm : k ≤ max n m := by
        rcases hgo with h | ⟨_, h⟩
        · omega
        · rcases Nat.lt_or_ge (max n m) k with h' | h'
          · have := HKQ.out (by omega); omega
          · exact h'
      have HEND := Lib.hid (fun (h : k + 1 = max n m + 1) => (⟨HXG.out (by omega), HYG.out (by omega)⟩ : xs.getD k 0 = 0 ∧ ys.getD k 0 = 0))
      generalize hgx : xs.getD k 0 = x at *
      generalize hgy : ys.getD k 0 = y at *
      have GX := Lib.hid hgx
      have GY := Lib.hid hgy
      clear hgx hgy
      rcases hgo with hgo | ⟨hge, hgo⟩
      all_goals
        go_wp2_with fail
        refine (D1.out).mono ?_
        rintro e w' ⟨rfl, rfl⟩
        go_wp2_with fail
        refine (D2.out).mono ?_
        rintro e w' ⟨rfl, rfl⟩
        go_wp2_with (at_builtin; refine wpList_append_own _ rfl _ _ 22 rfl w.heap.size 36 i0 (.int .u64 0) 1 8 Try.underlying22 hi hz0 hz1 hz2 rfl (by decide) _ _ _ rfl (HO.out.alloc _) ⟨wr.heap.size, 0, none⟩ 1 1 [.int .u64 ((q + x + y) % 65536)] rfl rfl (one_cell _ _) (one_ok _) (by unfold maxLen; omega) (by omega) (by have := Below.size hb; simp; omega) ?_; intro v' w1 hown' hgrow hnil)
        have hb' : Bel w w1 := Below.grown (hb.alloc _) hgrow (by have := Below.size hb; simp; omega) (fun k hk => (HO.out.lt k hk).1)
        clear hgrow hnil
        have HO' := Lib.hid hown'
        clear hown'
        go_wp2
        go_roundw
        case rel =>
          refine ⟨k + 1, (q + x + y) / 65536, zs ++ [(q + x + y) % 65536], by go_num, rfl, by omega, by omega, by omega, ?_, by rw [List.length_append, HL.out]; rfl, by rw [List.map_append]; exact HO'.out, dig_snoc HD.out (by omega) (by omega), hstep.out, hb'⟩
          intro h
          obtain ⟨h1, h2⟩ := HEND.out h
          omega
        case measure => simp [intOf]; omega
    · obtain rfl : q = 0 := by omega
      have hge : max n m ≤ k := by omega
      obtain ⟨A', c'', rfl, hints, hcc, hcm⟩ := ints_of_own' HO.out
      have HI := Lib.hid hints
      have T := Lib.hid (trim A' k c'' zs wr hints HD.out hcc hcm)
      have E : Hid (valTo zs k = valTo xs n + valTo ys m) := by
        have h1 := HV.out
        rw [valTo_beyond (zs := xs) (k := k) (by rw [HX.out.1]; omega), valTo_beyond (zs := ys) (k := k) (by rw [HY.out.1]; omega), HX.out.1, HY.out.1] at h1
        show _ = _
        omega
      clear hints hgo
      go_wp2_with fail
      refine (T.out).mono ?_
      rintro e w' ⟨r, rfl, hg, hb'⟩
      go_wp2
      go_ret
      refine ⟨r, rfl, ?_, hb.trans hb'⟩
      rw [E.out] at hg
      obtain ⟨A1, n1, c1, zs1, e1, r1, r2, r3, r4, r5⟩ := hg
      exact ⟨A1, n1, c1, zs1, e1, r1, r2, r3, r4, by omega⟩
end Gt
end Go.Proofs.Ytmbodfmdaocppaa
