/-
  What TimesGreat of distraintkit answers in this program: the product of two great numbers.
  Conditions: the slices are great numbers of at most some thousand digits.
-/
import Derived.Test.YtmbodfmdaocppaaGreat4
namespace Go.Proofs.Ytmbodfmdaocppaa
open Go.RowKit Go.Shelf
set_option linter.unusedVariables false
namespace Gt

theorem getD_set {os : List Int} {p j : Nat} {d : Int} (hp : p < os.length) : (os.set p d).getD j 0 = if j = p then d else os.getD j 0 := by
  simp only [List.getD_eq_getElem?_getD, List.getElem?_set]
  split
  · rename_i h; subst h; simp
  · rename_i h; rw [if_neg (fun e => h e.symm)]
theorem valTo_set {os : List Int} {p n : Nat} {d : Int} (hp : p < os.length) : valTo (os.set p d) n = valTo os n + if p < n then (d - os.getD p 0) * 65536 ^ p else 0 := by
  induction n with
  | zero => simp [valTo]
  | succ n ih =>
    show valTo (os.set p d) n + (os.set p d).getD n 0 * _ = valTo os n + os.getD n 0 * _ + _
    rw [ih, getD_set hp]
    rcases Nat.lt_trichotomy p n with h | h | h
    · rw [if_pos h, if_neg (by omega), if_pos (by omega)]; omega
    · subst h
      rw [if_neg (by omega), if_pos rfl, if_pos (by omega), Int.sub_mul]; omega
    · rw [if_neg (by omega), if_neg (by omega), if_neg (by omega)]; omega
theorem dig_set {os : List Int} {p : Nat} {d : Int} (hp : p < os.length) (h : Dig os) (d0 : 0 ≤ d) (d1 : d ≤ 65535) : Dig (os.set p d) := by
  intro j
  rw [getD_set hp]
  split
  · exact ⟨d0, d1⟩
  · exact h j
theorem map_set {os : List Int} {p : Nat} {d : Int} {k : IntKind} : (os.map (Value.int k)).set p (.int k d) = (os.set p d).map (Value.int k) := by
  rw [List.map_set]

/-- what holds in the inner loop -/
structure Inner (os0 os ys : List Int) (x q V : Int) (N i k m : Nat) : Prop where
  len : os.length = N
  dig : Dig os
  q0 : 0 ≤ q
  q1 : q ≤ 65535
  val : valTo os N + q * 65536 ^ (i + k) = V + x * 65536 ^ i * valTo ys k
  far : ∀ j, i + k ≤ j → os.getD j 0 = os0.getD j 0
  fin : k = m + 1 → q = 0

theorem Inner.step {os0 os ys : List Int} {x q V : Int} {N i k m : Nat} (I : Inner os0 os ys x q V N i k m) (hN : i + m < N) (hk : k ≤ m) (x0 : 0 ≤ x) (x1 : x ≤ 65535)
    (hy : Dig ys) (hym : ys.getD m 0 = 0) (hz : os0.getD (i + m) 0 = 0) :
    Inner os0 (os.set (i + k) ((q + os.getD (i + k) 0 + x * ys.getD k 0) % 65536)) ys x ((q + os.getD (i + k) 0 + x * ys.getD k 0) / 65536) V N i (k + 1) m := by
  have hp : i + k < os.length := by rw [I.len]; omega
  have ho := I.dig (i + k)
  have hyk := hy k
  have m0 : 0 ≤ x * ys.getD k 0 := Int.mul_nonneg x0 hyk.1
  have m1 : x * ys.getD k 0 ≤ 65535 * 65535 := by
    have h1 : x * ys.getD k 0 ≤ 65535 * ys.getD k 0 := Int.mul_le_mul_of_nonneg_right x1 hyk.1
    omega
  have q0 := I.q0; have q1 := I.q1
  refine ⟨by rw [List.length_set]; exact I.len, dig_set hp I.dig (by omega) (by omega), by omega, by omega, ?_, fun j hj => ?_, fun hkm => ?_⟩
  · rw [valTo_set hp, if_pos (by omega), show i + (k + 1) = (i + k) + 1 by omega, pow_succ]
    have hv := I.val
    have e := Int.emod_add_mul_ediv (q + os.getD (i + k) 0 + x * ys.getD k 0) 65536
    show _ = V + x * 65536 ^ i * (valTo ys k + ys.getD k 0 * 65536 ^ k)
    rw [Int.mul_add]
    have e2 : x * 65536 ^ i * (ys.getD k 0 * 65536 ^ k) = x * ys.getD k 0 * 65536 ^ (i + k) := by
      rw [Int.pow_add, Int.mul_assoc, Int.mul_assoc, Int.mul_left_comm (65536 ^ i)]
    rw [e2]
    generalize (q + os.getD (i + k) 0 + x * ys.getD k 0) / 65536 = t at *
    generalize (q + os.getD (i + k) 0 + x * ys.getD k 0) % 65536 = r at *
    generalize x * ys.getD k 0 = z at *
    generalize os.getD (i + k) 0 = o at *
    generalize (65536 : Int) ^ (i + k) = p at *
    have e3 : (r - o) * p + t * (p * 65536) = q * p + z * p := by
      have : r - o + t * 65536 = q + z := by omega
      rw [← Int.add_mul, ← this, Int.add_mul, Int.mul_assoc, Int.mul_comm 65536 p]
    omega
  · rw [getD_set hp, if_neg (by omega)]
    exact I.far j (by omega)
  · obtain rfl : k = m := by omega
    have h1 := I.far (i + k) (Nat.le_refl _)
    rw [h1, hz, hym]
    simp
    omega

theorem digitQ (A : Option Addr) (n c : Nat) (zs : List Int) (i : Nat) (w : World) (hi : Ints .u64 w A n zs) (hn : n ≤ 9223372036854775807) :
    Calls Try.prog 42 #[.slice A n c, .int .i64 (i : Int)] w fun e w' => e = .returned (.int .u64 (zs.getD i 0)) ∧ w' = w :=
  (digit A n c zs i w hi hn).mono fun _ _ h => ⟨h.1, h.2.symm⟩

theorem cell_of_own {w : World} {base g cap : Nat} {e : TypeId} {n : Nat} {zs : List Int} (h : w.ownsRow base e 1 (.slice (some ⟨g, 0, none⟩) n cap) n (zs.map (Value.int .u64))) {j : Nat} (hj : j < n) :
    w.cell? ⟨g, j, none⟩ = some (.int .u64 (zs.getD j 0)) := by
  have hl : zs.length = n := by simpa using h.1
  rw [h.cellAt j (by omega), List.getElem?_map, List.getElem?_eq_getElem (by omega), List.getD_eq_getElem?_getD, List.getElem?_eq_getElem (by omega)]
  rfl

theorem made_zero (n : Nat) : (madeCells (Value.int .u64 0).cells (n * 1)).toList = (List.replicate n (0 : Int)).map (Value.int .u64) := by
  rw [Nat.mul_one]
  refine List.ext_getElem? fun i => ?_
  rw [Array.getElem?_toList, List.getElem?_map, List.getElem?_replicate]
  show (madeCells #[Value.int .u64 0] n)[i]? = _
  by_cases hi : i < n
  · simp [madeCells, hi, Nat.mod_one]
  · simp [madeCells, hi]
theorem getD_zero (n j : Nat) : (List.replicate n (0 : Int)).getD j 0 = 0 := by
  simp only [List.getD_eq_getElem?_getD, List.getElem?_replicate]
  split <;> rfl
theorem dig_zero (n : Nat) : Dig (List.replicate n (0 : Int)) := fun j => by rw [getD_zero]; exact ⟨by decide, by decide⟩
theorem valTo_zero (n k : Nat) : valTo (List.replicate n (0 : Int)) k = 0 := by
  rw [valTo_congr (ys := []) fun i _ => by rw [getD_zero]; rfl]
  exact valTo_nil k

set_option maxRecDepth 100000 in
set_option maxHeartbeats 800000 in
theorem times (v u : Value) (P Q : Int) (L M : Nat) (w : World) (hp : Gr w v P L) (hq : Gr w u Q M) (hL : L ≤ 100000) (hM : M ≤ 100000) :
    Calls Try.prog 28 #[v, u] w fun e w' => ∃ r, e = .returned r ∧ Gr w' r (P * Q) (L + M + 1) ∧ Bel w w' := by
  obtain ⟨A, n, c, xs, rfl, hx, hdx, hfx, rfl, hn⟩ := hp.open_
  obtain ⟨B, m, c', ys, rfl, hy, hdy, hfy, rfl, hm⟩ := hq.open_
  clear hp hq
  have HX := Lib.hid hx; have HY := Lib.hid hy; have DX := Lib.hid hdx; have DY := Lib.hid hdy
  clear hx hy hdx hdy hfx hfy
  have DG := Lib.hid (fun w' (hb : Bel w w') i => digitQ B m c' ys i w' (HY.out.bel hb) (by omega))
  obtain ⟨i0, hi, hz0, hz1, hz2⟩ := info_parts Try.info_u64
  go_enter Try.func28, Try.ntmps28
  go_wp2_with (at_make; refine wpList_make_full _ rfl _ _ 22 rfl w.heap.size 36 i0 (.int .u64 0) 1 Try.underlying22 hi hz0 hz1 .i64 .i64 _ _ (n + m + 1) rfl rfl (by omega) (by omega) (by rw [hz2]; omega) (by unfold maxLen; omega) (Nat.le_refl _) ?_; intro w0 hown0 hgrow0)
  have hb0 : Bel w w0 := Below.grown (Bel.refl w) hgrow0 (Nat.le_refl _) (by intro k hk; cases hk)
  have hown1 : w0.ownsRow w.heap.size 36 1 (.slice (some ⟨w.heap.size, 0, none⟩) (n + m + 1) (n + m + 1)) (n + m + 1) ((List.replicate (n + m + 1) (0 : Int)).map (Value.int .u64)) := by
    have e := hown0
    rw [made_zero] at e
    exact e
  clear hgrow0 hown0
  have HO0 := Lib.hid hown1
  clear hown1
  obtain ⟨g, hg⟩ : ∃ g, g = w.heap.size := ⟨_, rfl⟩
  have HG := Lib.hid hg
  rw [← hg]
  rw [← hg] at HO0
  clear hg
  go_loopw [6] (fun i wr => ∃ (k : Nat) (os : List Int), i = .int .i64 k ∧ k ≤ n ∧ os.length = n + m + 1 ∧ wr.ownsRow g 36 1 (.slice (some ⟨g, 0, none⟩) (n + m + 1) (n + m + 1)) (n + m + 1) (os.map (Value.int .u64)) ∧ Dig os ∧ valTo os (n + m + 1) = valTo xs k * valTo ys m ∧ (∀ j, k + m ≤ j → os.getD j 0 = 0) ∧ Bel w wr) (fun i _ => n - (intOf i).toNat)
  case atStart =>
    refine ⟨0, List.replicate (n + m + 1) 0, rfl, by omega, by simp, HO0.out, dig_zero _, ?_, fun j _ => getD_zero _ _, hb0⟩
    rw [valTo_zero]; simp [valTo]
  case round =>
    obtain ⟨i, os, rfl, hi', hlen, hown, hdo, hvo, hzo, hb⟩ := hrel
    have HL := Lib.hid hlen; have HO := Lib.hid hown; have HD := Lib.hid hdo; have HV := Lib.hid hvo; have HZ := Lib.hid hzo
    clear hlen hown hdo hvo hzo
    obtain ⟨wo, rfl⟩ : ∃ wo : World, wo = wr := ⟨_, rfl⟩
    by_cases hlt : i < n
    · obtain ⟨b, o, rfl, hbw, hcx⟩ := (HX.out).2 (by omega)
      have hcx' := hcx i hlt
      obtain ⟨x0, x1⟩ := DX.out i
      have hstep : valTo xs (i + 1) = valTo xs i + xs.getD i 0 * 65536 ^ i := rfl
      clear hcx
      generalize xs.getD i 0 = x at *
      have HS := Lib.hid hstep
      have HC := Lib.hid hcx'
      clear hstep hcx'
      go_wp2_with fail
      go_loopw [7, 8] (fun c k wr => ∃ (q : Int) (k' : Nat) (os' : List Int), c = .int .u64 q ∧ k = .int .i64 k' ∧ k' ≤ m + 1 ∧ Inner os os' ys x q (valTo os (n + m + 1)) (n + m + 1) i k' m ∧ wr.ownsRow g 36 1 (.slice (some ⟨g, 0, none⟩) (n + m + 1) (n + m + 1)) (n + m + 1) (os'.map (Value.int .u64)) ∧ Bel w wr) (fun _ k _ => m + 1 - (intOf k).toNat)
      case atStart =>
        exact ⟨0, 0, os, rfl, rfl, by omega, ⟨HL.out, HD.out, by omega, by omega, by simp [valTo], fun _ _ => rfl, by omega⟩, HO.out, hb⟩
      case round =>
        obtain ⟨q, k, os', rfl, rfl, hk, I, hown', hb'⟩ := hrel
        have HI := Lib.hid I
        have HO' := Lib.hid hown'
        have q0 := I.q0; have q1 := I.q1
        clear I hown'
        by_cases hkm : k ≤ m
        · have IS := Lib.hid (HI.out.step (by omega) hkm x0 x1 DY.out (getD_ge (by rw [HY.out.1]; exact Nat.le_refl _)) (HZ.out _ (Nat.le_refl _)))
          have c1 := cell_of_own HO'.out (j := i + k) (by omega)
          have f1 := HO'.out.frozenAt (i + k)
          have c2 : wr.cell? ⟨b, o + i, none⟩ = some (.int .u64 x) := (Below.cell (p := ⟨b, o + i, none⟩) hb' hbw).trans HC.out
          obtain ⟨y0, y1⟩ := DY.out k
          obtain ⟨o0, o1⟩ := HI.out.dig (i + k)
          have D := Lib.hid (fun n => DG.out (wr.drewN n) (hb'.drewN n) k)
          have HST := Lib.hid (fun u => HO'.out.stored (i + k) u)
          have hxy : 0 ≤ x * ys.getD k 0 ∧ x * ys.getD k 0 ≤ 4294836225 := by
            refine ⟨Int.mul_nonneg x0 y0, ?_⟩
            have h1 : x * ys.getD k 0 ≤ 65535 * ys.getD k 0 := Int.mul_le_mul_of_nonneg_right x1 y0
            omega
          obtain ⟨hxy0, hxy1⟩ := hxy
          generalize ys.getD k 0 = y at *
          generalize hoo : os'.getD (i + k) 0 = oo at *
          have HOO := Lib.hid hoo
          clear hoo
          have g1 : (0 : Int) ≤ (i : Int) + (k : Int) := by omega
          have g2 : (i : Int) + (k : Int) < (n : Int) + (m : Int) + 1 := by omega
          have g3 : (i : Int) < (n : Int) := by omega
          have g0 : IntKind.i64.wrap ((i : Int) + (k : Int)) = (i : Int) + (k : Int) := IntWalk.i64_in _ (by omega)
          have g4 : ((i : Int) + (k : Int)).toNat = i + k := by omega
          have u1 : IntKind.u64.wrap (q + oo) = q + oo := by rw [IntKind.wrap_u64]; omega
          have u2 : IntKind.u64.wrap (x * y) = x * y := by rw [IntKind.wrap_u64]; omega
          have u3 : IntKind.u64.wrap (q + oo + x * y) = q + oo + x * y := by rw [IntKind.wrap_u64]; omega
          go_wp2_with fail
          go_quiet ((go_at_call 42; exact Calls.quiet_of_same (D.out _)))
          clear g0 g4 u1 u2 u3
          go_wp2_with fail
          go_roundw
          case rel =>
            refine ⟨_, k + 1, _, rfl, by go_num, by omega, IS.out, ?_, Bel.set (hb'.drewN _) (by rw [← HG.out]; exact Nat.le_refl _) _⟩
            have h := fun n' => (World.ownsRow.stored (w := wr.drewN n') HO'.out (i + k) (.int .u64 ((q + oo + x * y) % 65536))).1
            simp only [map_set] at h
            exact h _
          case measure => simp [intOf]; omega
        · obtain rfl : k = m + 1 := by omega
          have hq : q = 0 := HI.out.fin rfl
          subst hq
          go_wp2
          go_roundw
          case rel =>
            refine ⟨i + 1, os', by go_num, by omega, HI.out.len, HO'.out, HI.out.dig, ?_, fun j hj => ?_, hb'⟩
            · have h1 := HI.out.val
              rw [valTo_beyond (zs := ys) (k := m + 1) (by rw [HY.out.1]; omega), HY.out.1, HV.out] at h1
              rw [HS.out, Int.add_mul, ← h1]
              omega
            · rw [HI.out.far j (by omega)]
              exact HZ.out j (by omega)
          case measure => simp [intOf]; omega
    · obtain rfl : i = n := by omega
      obtain ⟨A', c'', he, hints, hcc, hcm⟩ := ints_of_own' HO.out
      injection he with he1 he2 he3
      subst he1 he3
      have T := Lib.hid (trim _ _ _ os wo hints HD.out hcc hcm)
      clear hints
      go_wp2_with fail
      refine (T.out).mono ?_
      rintro e w' ⟨r, rfl, hg, hb'⟩
      go_wp2
      go_ret
      refine ⟨r, rfl, ?_, hb.trans hb'⟩
      rw [HV.out] at hg
      obtain ⟨A1, n1, c1, zs1, e1, r1, r2, r3, r4, r5⟩ := hg
      exact ⟨A1, n1, c1, zs1, e1, r1, r2, r3, r4, by omega⟩
end Gt
end Go.Proofs.Ytmbodfmdaocppaa
