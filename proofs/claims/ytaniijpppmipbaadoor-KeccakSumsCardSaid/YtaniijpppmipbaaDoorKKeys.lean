/-
  What keys answers in this program: the 24 keys of the rounds. No condition.
-/
import Derived.Test.YtaniijpppmipbaaDoorKMix
namespace Go.Proofs.YtaniijpppmipbaaDoor
open Go.RowKit Go.Shelf
set_option linter.unusedVariables false
attribute [local go_sem] Oper.semAt_some
namespace Kk

/-- The shift register: what it holds behind n steps; the bits that it puts out. -/
def reg : Nat → Nat
  | 0 => 1
  | n + 1 => if 256 ≤ 2 * reg n then (2 * reg n) % 256 ^^^ 113 else 2 * reg n
theorem reg_great {n : Nat} (h : 256 ≤ 2 * reg n) : reg (n + 1) = (2 * reg n) % 256 ^^^ 113 := if_pos h
theorem reg_small {n : Nat} (h : ¬ 256 ≤ 2 * reg n) : reg (n + 1) = 2 * reg n := if_neg h
def regBit (n : Nat) : Int := ((reg n % 2 : Nat) : Int)
def regBits (n : Nat) : List Int := (List.range n).map regBit
theorem regBits_succ (n : Nat) : regBits (n + 1) = regBits n ++ [regBit n] := by simp [regBits, List.range_succ]
theorem regBits_len (n : Nat) : (regBits n).length = n := by simp [regBits]
theorem regBits_pre {k m : Nat} (h : k ≤ m) : regBits k <+: regBits m := by
  obtain ⟨d, rfl⟩ : ∃ d, m = k + d := ⟨m - k, by omega⟩
  induction d with
  | zero => exact List.prefix_refl _
  | succ d ih => exact (ih (by omega)).trans (by rw [← Nat.add_assoc, regBits_succ]; exact List.prefix_append _ _)
theorem reg_lt (n : Nat) : reg n < 256 := by
  induction n with
  | zero => decide
  | succ n ih =>
    unfold reg
    split
    · exact Nat.xor_lt_two_pow (n := 8) (by omega) (by decide)
    · omega
theorem reg_xor {m : Int} (h0 : 0 ≤ m) (h1 : m < 256) : bits .xor .u64 m 113 = ((m.toNat ^^^ 113 : Nat) : Int) := by
  obtain ⟨n, rfl⟩ := Int.eq_ofNat_of_zero_le h0
  have hn : n < 256 := by omega
  have : ∀ m : Fin 256, bits .xor .u64 ((m.1 : Nat) : Int) 113 = ((m.1 ^^^ 113 : Nat) : Int) := by decide +kernel
  exact this ⟨n, hn⟩
theorem and_one {m : Nat} (h : m < 256) : bits .and .u64 (m : Int) 1 = ((m % 2 : Nat) : Int) := by
  have : ∀ m : Fin 256, bits .and .u64 ((m.1 : Nat) : Int) 1 = ((m.1 % 2 : Nat) : Int) := by decide +kernel
  exact this ⟨m, h⟩
/-- The keys behind bits. -/
def kstep (s : List Wd × Nat) (z : Int) : List Wd × Nat := (s.1.set (s.2 / 7) (g s.1 (s.2 / 7) ||| BitVec.ofInt 64 z <<< (2 ^ (s.2 % 7) - 1)), s.2 + 1)
def ksF (l : List Int) : List Wd × Nat := l.foldl kstep (List.replicate 24 0, 0)
def ks (l : List Int) : List Wd := (ksF l).1
theorem ksF_snoc (l : List Int) (z : Int) : ksF (l ++ [z]) = kstep (ksF l) z := by simp [ksF]
theorem snoc_ind {p : List Int → Prop} (h0 : p []) (h1 : ∀ l z, p l → p (l ++ [z])) : ∀ l, p l := by
  intro l
  have : ∀ m : List Int, p m.reverse := by
    intro m
    induction m with
    | nil => exact h0
    | cons z m ih => rw [List.reverse_cons]; exact h1 _ _ ih
  have h := this l.reverse
  rwa [List.reverse_reverse] at h
theorem ksF_len (l : List Int) : (ksF l).2 = l.length ∧ (ksF l).1.length = 24 := by
  induction l using snoc_ind with
  | h0 => exact ⟨rfl, rfl⟩
  | h1 l z ih => rw [ksF_snoc]; simp [kstep, ih.1, ih.2]
theorem ks_len (l : List Int) : (ks l).length = 24 := (ksF_len l).2
theorem ks_snoc (l : List Int) (z : Int) : ks (l ++ [z]) = (ks l).set (l.length / 7) (g (ks l) (l.length / 7) ||| BitVec.ofInt 64 z <<< (2 ^ (l.length % 7) - 1)) := by
  unfold ks
  rw [ksF_snoc, kstep, (ksF_len l).1]
theorem ks168 : ks (regBits 168) = K := by decide +kernel
set_option linter.unusedSimpArgs false
theorem ofInt_wrap (z : Int) (p : Nat) : BitVec.ofInt 64 (IntKind.u64.wrap (z * 2 ^ p)) = BitVec.ofInt 64 z <<< p := by
  apply BitVec.eq_of_toNat_eq
  have e2 : ((2 : Int) ^ p) = ((2 ^ p : Nat) : Int) := by rw [Int.natCast_pow]; rfl
  have e3 : ((2 ^ 64 : Nat) : Int) = 18446744073709551616 := by decide
  have e4 : (2 : Nat) ^ 64 = 18446744073709551616 := by decide
  rw [IntKind.wrap_u64, BitVec.toNat_ofInt, BitVec.toNat_shiftLeft, BitVec.toNat_ofInt, Nat.shiftLeft_eq, e3, e4, Int.emod_emod, e2]
  obtain ⟨m, hm⟩ := Int.eq_ofNat_of_zero_le (a := z % 18446744073709551616) (Int.emod_nonneg _ (by decide))
  rw [Int.mul_emod, hm]
  show ((m : Int) * (((2 ^ p : Nat) : Int) % 18446744073709551616) % 18446744073709551616).toNat = _
  have h : (m : Int) * (((2 ^ p : Nat) : Int) % 18446744073709551616) % 18446744073709551616 = ((m * 2 ^ p % 18446744073709551616 : Nat) : Int) := by
    rw [Int.mul_emod, Int.emod_emod, ← Int.mul_emod, ← Int.natCast_mul]
    exact (Int.natCast_emod _ _).symm
  rw [h]
  rfl
theorem or_shl (x : Wd) (z : Int) (p : Nat) : bits .or .u64 (U x) (IntKind.u64.wrap (z * 2 ^ p)) = U (x ||| BitVec.ofInt 64 z <<< p) := by
  show IntKind.u64.wrap ((BitVec.ofInt 64 (U x) ||| BitVec.ofInt 64 (IntKind.u64.wrap (z * 2 ^ p))).toNat : Int) = _
  rw [ofInt_U, ofInt_wrap, wrap_U]
theorem blk_own {β : Type} (B : Nat) (t : TypeId) (f : β → Array Value) : Own (fun s W => Blk W B (f s) t) := fun s X Y row hs hg hrow =>
  (hg.block B hs.lt (fun e' => by obtain ⟨o, ho, hc⟩ := hrow B e'.symm; rw [show X.heap[B]? = _ from hs] at ho; cases ho; cases hc)).trans hs
theorem key_at {A : List Wd} (h : A.length = 24) {i : Nat} (hi : i < 24) : (A.map V).toArray[i]? = some (.int .u64 (U (g A i))) := by
  unfold g
  rw [List.getElem?_toArray, List.getElem?_map, List.getD_eq_getElem?_getD, List.getElem?_eq_getElem (by omega)]
  rfl
theorem key_set (A : List Wd) (i : Nat) (x : Wd) : (A.map V).toArray.setIfInBounds i (.int .u64 (U x)) = ((A.set i x).map V).toArray := by
  rw [List.setIfInBounds_toArray, List.map_set]

set_option maxRecDepth 100000 in
set_option maxHeartbeats 1000000 in
theorem yields (F : Fence) (n : Nat) (h6 : F.fn 67) (hro : F.round = none) (hn : 1 ≤ n) (l Bn n₀ : Nat) (m : Nat) (m1 : m ≤ 1000) (J Jx : List Int → World → Prop)
    (hY : ∀ pre z W, J pre W → pre.length < m → YieldAt F (n - 1) Tryd.prog l #[.int .u64 z] W fun e W' =>
      (e = .returned (.bool true) ∧ J (pre ++ [z]) W' ∧ Below n₀ W W') ∨ (e = .returned (.bool false) ∧ Jx (pre ++ [z]) W'))
    (W : World) (hBn : W.cell? ⟨Bn, 0, none⟩ = some (.int .i64 m)) (h0 : J [] W) :
    CallsIn F n Tryd.prog 67 #[.func (.yield l) #[] #[], .pointer (some ⟨Bn, 0, none⟩)] W fun e W' => (∃ v, e = .returned v) ∧
      ((∃ ys, ys = regBits m ∧ J ys W') ∨ (∃ pre, pre <+: regBits m ∧ Jx pre W')) := by
  refine callsIn_of_wp Tryd.func67 rfl h6 ?_ hro
  simp only [Tryd.ntmps67, List.size_toArray, List.length_cons, List.length_nil, Nat.reduceAdd, Nat.reduceSub, Array.replicate_succ, Array.replicate_zero, List.push_toArray, List.append_toArray, List.nil_append, List.cons_append]
  gi_wp2
  gi_loopw [3, 5] (fun r i wr => ∃ k : Nat, r = .int .u64 (reg k) ∧ i = .int .i64 k ∧ k ≤ m ∧ J (regBits k) wr)
    (fun r i wr => m - (intOf i).toNat)
  case atStart =>
    exact ⟨0, rfl, rfl, Nat.zero_le _, h0⟩
  case round =>
    obtain ⟨k, rfl, rfl, hk, hJs⟩ := hrel
    have hr := reg_lt k
    have hr' : (reg k : Int) < 256 := by omega
    by_cases hlt : k < m
    · obtain ⟨fn, tmps, assign, body, hy, hR⟩ := hY (regBits k) (regBit k) wr hJs (by rw [regBits_len]; exact hlt)
      have E : bits .and .u64 (reg k : Int) 1 = regBit k := and_one hr
      have HX := Lib.hid (regBits_succ k)
      have hlt' : (k : Int) < m := by omega
      by_cases h256 : 256 ≤ 2 * reg k
      · have h256' : 256 ≤ (reg k : Int) * 2 := by omega
        have HE := Lib.hid (show bits .xor .u64 ((reg k : Int) * 2 % 256) 113 = (reg (k + 1) : Int) by
          rw [reg_xor (by omega) (by omega)]
          rw [reg_great h256]
          congr 2
          omega)
        clear hr
        gi_wp2_with fail
        refine hR.mono ?_
        rintro e W3 (⟨rfl, hJ3, hk3⟩ | ⟨rfl, hJx3⟩)
        · gi_wp2
          go_roundw
          case rel => exact ⟨k + 1, by rw [← HE.out], by go_num, by omega, by rw [HX.out]; exact hJ3⟩
          case measure => simp [intOf]; omega
        · gi_wp2
          refine bodyPost_ret (results_none rfl _ _ _) rfl ?_
          exact ⟨⟨_, rfl⟩, .inr ⟨regBits k ++ [regBit k], by rw [← HX.out]; exact regBits_pre (by omega), hJx3⟩⟩
      · have h256' : (reg k : Int) * 2 < 256 := by omega
        have HE := Lib.hid (show (reg k : Int) * 2 = (reg (k + 1) : Int) by rw [reg_small h256]; omega)
        clear hr
        gi_wp2_with fail
        refine hR.mono ?_
        rintro e W3 (⟨rfl, hJ3, hk3⟩ | ⟨rfl, hJx3⟩)
        · gi_wp2
          go_roundw
          case rel => exact ⟨k + 1, by rw [← HE.out], by go_num, by omega, by rw [HX.out]; exact hJ3⟩
          case measure => simp [intOf]; omega
        · gi_wp2
          refine bodyPost_ret (results_none rfl _ _ _) rfl ?_
          exact ⟨⟨_, rfl⟩, .inr ⟨regBits k ++ [regBit k], by rw [← HX.out]; exact regBits_pre (by omega), hJx3⟩⟩
    · obtain rfl : k = m := by omega
      gi_wp2
      go_end0
      exact ⟨⟨_, rfl⟩, .inl ⟨_, rfl, hJs⟩⟩

set_option maxHeartbeats 1000000 in
theorem maker (F : Fence) (n : Nat) (h5 : F.fn 65) (hro : F.round = none) (x : Int) (w : World) :
    CallsIn F n Tryd.prog 65 #[.int .i64 x] w fun e w' => e = .returned (.func (.func 67) #[] #[.pointer (some ⟨w.heap.size, 0, none⟩)]) ∧ w' = w.alloc (.cells #[.int .i64 x] 3) := by
  refine callsIn_of_wp Tryd.func65 rfl h5 ?_ hro
  simp only [Tryd.ntmps65, List.size_toArray, List.length_cons, List.length_nil, Nat.reduceAdd, Nat.reduceSub, Array.replicate_succ, Array.replicate_zero, List.push_toArray, List.append_toArray, List.nil_append, List.cons_append]
  gi_wp2
  go_ret
  exact ⟨rfl, rfl⟩

theorem stops (F : Fence) (n : Nat) (h6 : F.fn 67) (hro : F.round = none) (hn : 1 ≤ n) (Bn n₀ : Nat) (m : Nat) (m1 : m ≤ 1000) (w : World) (hBn : Bn < w.heap.size)
    (hc : w.cell? ⟨Bn, 0, none⟩ = some (.int .i64 m)) :
    SeqStopsK F n Tryd.prog 67 #[.pointer (some ⟨Bn, 0, none⟩)] (fun z : Int => #[Value.int .u64 z]) (Below n₀) (fun ys => ys = regBits m) (fun pre => pre <+: regBits m) m w := fun l J Jx W hW _ _ hY h0 =>
  yields F n h6 hro hn l Bn n₀ m m1 J Jx hY W ((hW.cell (p := ⟨Bn, 0, none⟩) hBn).trans hc) h0

theorem oper_inRound {F : Fence} {n : Nat} {P : Program} {o : Oper} {a : Act} {w : World} {K : Act → World → Prop} {Q : Exit → Act → World → Prop} (l : Nat) (hd : ∀ c, o.op ≠ .defer c) (h : o.wpIn F n P a w K Q) : o.wpIn (F.inRound l) n P a w K Q := by
  refine ⟨h.1, ?_⟩
  have h2 := h.2
  rw [Oper.semAt_eq _ _ _ hd] at h2
  rw [Oper.semAt_eq _ _ _ hd]
  exact h2
theorem any_inRound {F : Fence} {n : Nat} {P : Program} {md : Region.Mode} {ops : Array Oper} {Q : Exit → Act → World → Prop} (l : Nat) (hd : ∀ (i : Nat) (o : Oper), ops[i]? = some o → ∀ c, o.op ≠ .defer c) : ∀ (fuel : Nat) (listed : Array Bool) (a : Act) (w : World), wpAnyIn F n P md ops Q fuel listed a w → wpAnyIn (F.inRound l) n P md ops Q fuel listed a w
  | 0, _, _, _, h => h
  | fuel + 1, listed, a, w, h => by
    refine ⟨h.1, fun i hi => ?_⟩
    have h2 := wpOpIn_mono (fun a w => any_inRound l hd fuel (listed.setIfInBounds i true) a w) (h.2 i hi)
    unfold wpOpIn at h2 ⊢
    cases ho : ops[i]? with
    | none => rw [ho] at h2; exact h2
    | some o =>
      rw [ho] at h2
      simp only at h2 ⊢
      split
      · rename_i hw
        rw [if_pos hw] at h2
        exact oper_inRound l (hd i o ho) h2
      · rename_i hw
        rw [if_neg hw] at h2
        exact h2
theorem keeps_drew {W X : World} (h : KeepsOthers W X) : KeepsOthers W X.drew := ⟨h.size, fun k o hk ho => h.same k o hk ho⟩
theorem results_c1 {fn : Func} {p : Tmp} {tp : TypeId} (h : fn.results = #[.cell p tp]) (tmps : Array Value) (w : World) (a : Addr) (X : Value)
    (hp : tmps.getD p undef = .pointer (some a)) (hX : (loadVar tp a).run Tryd.prog w = .ok X w) : (results fn tmps).run Tryd.prog w = .ok X w := by
  have hp' : tmps[p]?.getD undef = .pointer (some a) := by simpa using hp
  simp [results, h, hp', asAddr, hX]
theorem no_defer {ops : Array Oper} (h : ops.all (fun o => match o.op with | .defer _ => false | _ => true) = true) {i : Nat} {o : Oper} (hi : ops[i]? = some o) : ∀ c, o.op ≠ .defer c := by
  intro c e
  have := Array.all_eq_true_iff_forall_mem.1 h o (Array.mem_of_getElem? hi)
  rw [e] at this
  cases this
theorem pow7 {m : Nat} (h : m < 7) : IntKind.i64.wrap ((2 : Int) ^ m) = 2 ^ m ∧ IntKind.i64.wrap ((2 : Int) ^ m - 1) = ((2 ^ m - 1 : Nat) : Int) ∧ 2 ^ m - 1 ≤ 63 := by
  match m, h with
  | 0, _ => decide
  | 1, _ => decide
  | 2, _ => decide
  | 3, _ => decide
  | 4, _ => decide
  | 5, _ => decide
  | 6, _ => decide

abbrev Z24 : Array Value := #[.int .u64 0, .int .u64 0, .int .u64 0, .int .u64 0, .int .u64 0, .int .u64 0, .int .u64 0, .int .u64 0, .int .u64 0, .int .u64 0, .int .u64 0, .int .u64 0, .int .u64 0, .int .u64 0, .int .u64 0, .int .u64 0, .int .u64 0, .int .u64 0, .int .u64 0, .int .u64 0, .int .u64 0, .int .u64 0, .int .u64 0, .int .u64 0]
theorem z24 : Z24 = ((ks []).map V).toArray := by rfl

set_option maxRecDepth 100000 in
set_option maxHeartbeats 4000000 in
theorem keys_in (F : Fence) (n : Nat) (h3 : F.fn 54) (h4 : F.fn 65) (h5 : F.fn 67) (hro : F.round = none) (hn : 3 ≤ n) (w : World) :
    CallsIn F n Tryd.prog 54 #[] w fun e W' => e = .returned (.agg (K.map V).toArray) ∧ Below w.heap.size w W' := by
  have h1 : 1 ≤ n := by omega
  obtain ⟨h, hh⟩ : ∃ h, h = w.heap.size := ⟨_, rfl⟩
  have hZ := Lib.hid z24
  refine callsIn_of_wp_marks Tryd.func54 rfl h3 ?_ hro
  simp only [Tryd.ntmps54, List.size_toArray, List.length_nil, Nat.reduceSub, Array.replicate_succ, Array.replicate_zero, List.push_toArray, List.append_toArray, List.nil_append, List.cons_append]
  gi_wp2_with (gi_at_call 65; refine (maker F (n - 1) h4 hro _ _).mono ?_; rintro e w' ⟨rfl, rfl⟩)
  have bA : Blk ((w.alloc (.cells Z24 52)).alloc (.cells #[.int .i64 0] 3)) h Z24 52 := by rw [hh]; exact (Blk.new w Z24 52).alloc _
  have bS := Boxed.new (w.alloc (.cells Z24 52)) 3 (.int .i64 0)
  have bN := Boxed.new ((w.alloc (.cells Z24 52)).alloc (.cells #[.int .i64 0] 3)) 3 (.int .i64 168)
  rw [World.size_alloc, ← hh] at bS
  rw [World.size_alloc, World.size_alloc, ← hh] at bN
  have hB0 : Below w.heap.size w (((w.alloc (.cells Z24 52)).alloc (.cells #[.int .i64 0] 3)).alloc (.cells #[.int .i64 168] 3)) := (((Below.refl _ w).alloc (Nat.le_refl _) _).alloc (by simp) _).alloc (by simp; omega) _
  have hsz : (((w.alloc (.cells Z24 52)).alloc (.cells #[.int .i64 0] 3)).alloc (.cells #[.int .i64 168] 3)).heap.size = h + 3 := by simp [hh]
  rw [← hh]
  have HH := Lib.hid hh
  have HSZ := Lib.hid hsz
  clear hh hsz
  refine wpIn_rangeFunc_ownG hro h1 (gf := 67) (lb := #[.pointer (some ⟨h + 1 + 1, 0, none⟩)]) rfl h5 (enters_of Tryd.func67 (by kernel_rfl) rfl)
    (stops F (n - 1) h5 hro (by omega) (h + 1 + 1) h 168 (by omega) _ (by rw [HSZ.out]; omega) bN.cell) belowK_t (belowK_b (by rw [HSZ.out]; omega)) (Below.refl _ _) (fun _ => rfl)
    (fun pre W => (Boxed W (h + 1) 3 (.int .i64 (pre.length : Int)) ∧ Blk W h ((ks pre).map V).toArray 52) ∧ Below w.heap.size w W)
    (fun _ _ _ => False)
    (OwnFrom.and (OwnFrom.and (Own.from (boxed_own (h + 1) 3 (fun pre : List Int => .int .i64 (pre.length : Int))) _) (Own.from (blk_own h 52 fun pre : List Int => ((ks pre).map V).toArray) _)) (ownFrom_below (Nat.le_refl _) (by rw [HSZ.out, ← HH.out]; omega)))
    (fun _ _ _ _ _ hs _ _ => hs)
    ⟨⟨bS.alloc _, by rw [← hZ.out]; exact bA.alloc _⟩, hB0⟩
    (fun z => { tmps := #[.pointer (some ⟨h, 0, none⟩), .pointer (some ⟨h + 1, 0, none⟩), .int .u64 z, undef, .func (.func 67) #[] #[.pointer (some ⟨h + 1 + 1, 0, none⟩)], .int .u64 z, undef, undef, undef, undef, undef, undef, undef, undef, undef, undef, undef, undef, undef, undef, undef], defers := [] }) ?assign ?body ?done ?stop
  case assign =>
    intro l x W K hK
    have hh := HH.out
    clear bA bS bN hB0
    subst hh
    gi_wp2
    exact hK
  case body =>
    rintro l pre z W ⟨⟨hv, hrow⟩, hB⟩ hlt
    clear bA bS bN hB0
    have hc := hv.cell
    have hf := hv.frozen
    have hi7 : pre.length / 7 < 24 := by omega
    have hk := hrow.cell _ (key_at (ks_len pre) hi7)
    have hkf := hrow.frozen (pre.length / 7)
    have ho := or_shl (g (ks pre) (pre.length / 7)) z
    have HV := Lib.hid hv
    have HR := Lib.hid hrow
    have HB := Lib.hid hB
    clear hv hrow hB
    have hd : ((pre.length : Int)).tdiv 7 = ((pre.length / 7 : Nat) : Int) := by
      rw [Int.tdiv_eq_ediv_of_nonneg (by omega)]
      omega
    obtain ⟨q, hq⟩ : ∃ q, pre.length / 7 = q := ⟨_, rfl⟩
    have HQ := Lib.hid hq
    rw [hq] at hk hkf ho hd hi7
    have hd2 : ((pre.length : Int)) / 7 = (q : Int) := by omega
    have hq2 : (q : Int) < 24 := by omega
    have hq3 : (0 : Int) ≤ (q : Int) := by omega
    have hq4 : (0 : Int) ≤ (q : Int) ∧ (q : Int) < 24 := ⟨hq3, hq2⟩
    have SB := Lib.hid (ks_snoc pre z)
    rw [hq] at SB
    clear hq
    obtain ⟨m, hm⟩ : ∃ m, pre.length % 7 = m := ⟨_, rfl⟩
    have hm2 : ((pre.length : Int)) % 7 = (m : Int) := by omega
    have hm7 : m < 7 := by omega
    obtain ⟨p1, p2, p3⟩ := pow7 hm7
    rw [hm] at SB
    clear hm hd
    obtain ⟨p, hp⟩ : ∃ p, 2 ^ m - 1 = p := ⟨_, rfl⟩
    rw [hp] at p2 p3 SB
    have ho := ho p
    have wq : IntKind.i64.wrap (q : Int) = q := IntWalk.i64_in _ (by omega)
    clear hp
    gi_wp2
    have hp64 : (p : Int) ≤ 63 := by omega
    refine wpIn_region_any (by kernel_rfl) ?_
    try (change wpAnyIn _ _ _ _ _ _ _ _ _ (World.drew _))
    refine any_inRound l (fun i o hi c => no_defer (by kernel_rfl) hi c) _ _ _ _ ?_
    refine wpAnyIn_take (i := 4) (v := ?_) hro rfl (by kernel_rfl) (by kernel_rfl) (by kernel_rfl) (fun _ _ _ h => h) ⟨Or.inl ⟨by rfl, ?_⟩, fun _ => rfl⟩ ?_
    rotate_left
    · intro w; go_simp; with_reducible rfl
    refine wpAnyIn_take (i := 5) (v := ?_) hro rfl (by kernel_rfl) (by kernel_rfl) (by kernel_rfl) (fun _ _ _ h => h) ⟨Or.inl ⟨by rfl, ?_⟩, fun _ => rfl⟩ ?_
    rotate_left
    · intro w; go_simp; with_reducible rfl
    refine wpAnyIn_take (i := 6) (v := ?_) hro rfl (by kernel_rfl) (by kernel_rfl) (by kernel_rfl) (fun _ _ _ h => h) ⟨Or.inl ⟨by rfl, ?_⟩, fun _ => rfl⟩ ?_
    rotate_left
    · intro w; go_simp; with_reducible rfl
    refine wpAnyIn_ready (rs := [0]) (by kernel_rfl) (by simp) ?_
    refine AllReadyIn.cons rfl (fun K hK => ?_) AllReadyIn.nil
    go_simp
    refine hK _ _ ?_
    clear hK K
    refine wpAnyIn_ready (rs := [1]) (by kernel_rfl) (by simp) ?_
    refine AllReadyIn.cons rfl (fun K hK => ?_) AllReadyIn.nil
    go_simp
    refine hK _ _ ?_
    clear hK K
    refine wpAnyIn_ready (rs := [2]) (by kernel_rfl) (by simp) ?_
    refine AllReadyIn.cons rfl (fun K hK => ?_) AllReadyIn.nil
    go_simp
    refine hK _ _ ?_
    clear hK K
    refine wpAnyIn_ready (rs := [3]) (by kernel_rfl) (by simp) ?_
    refine AllReadyIn.cons rfl (fun K hK => ?_) AllReadyIn.nil
    go_simp
    refine hK _ _ ?_
    clear hK K
    refine wpAnyIn_ready (rs := [7]) (by kernel_rfl) (by simp) ?_
    refine AllReadyIn.cons rfl (fun K hK => ?_) AllReadyIn.nil
    go_simp
    refine hK _ _ ?_
    clear hK K
    refine wpAnyIn_ready (rs := [8]) (by kernel_rfl) (by simp) ?_
    refine AllReadyIn.cons rfl (fun K hK => ?_) AllReadyIn.nil
    go_simp
    refine hK _ _ ?_
    clear hK K
    refine wpAnyIn_ready (rs := [9]) (by kernel_rfl) (by simp) ?_
    refine AllReadyIn.cons rfl (fun K hK => ?_) AllReadyIn.nil
    go_simp
    refine hK _ _ ?_
    clear hK K
    refine wpAnyIn_done (by kernel_rfl) ?_ _
    gi_wp2
    have hne : h ≠ h + 1 := by omega
    have KO : KeepsOthers W ((W.setCell ⟨h, q, none⟩ (.int .u64 (U (g (ks pre) q ||| BitVec.ofInt 64 z <<< p)))).setCell ⟨h + 1, 0, none⟩ (.int .i64 ((pre.length : Int) + 1))).drew := keeps_drew ((KeepsOthers.setCell _ _ _).trans (KeepsOthers.setCell _ _ _))
    have BL : Below h W ((W.setCell ⟨h, q, none⟩ (.int .u64 (U (g (ks pre) q ||| BitVec.ofInt 64 z <<< p)))).setCell ⟨h + 1, 0, none⟩ (.int .i64 ((pre.length : Int) + 1))).drew := (((Below.refl h W).setCell (p := ⟨h, q, none⟩) (Nat.le_refl _) _).setCell (p := ⟨h + 1, 0, none⟩) (by simp) _).drew
    have RB : Blk ((W.setCell ⟨h, q, none⟩ (.int .u64 (U (g (ks pre) q ||| BitVec.ofInt 64 z <<< p)))).setCell ⟨h + 1, 0, none⟩ (.int .i64 ((pre.length : Int) + 1))).drew h ((ks (pre ++ [z])).map V).toArray 52 := by
      rw [SB.out, ← key_set]
      exact (((HR.out.set q _).other hne 0 _).bel (Bel.refl _).drew)
    have SX : Boxed ((W.setCell ⟨h, q, none⟩ (.int .u64 (U (g (ks pre) q ||| BitVec.ofInt 64 z <<< p)))).setCell ⟨h + 1, 0, none⟩ (.int .i64 ((pre.length : Int) + 1))).drew (h + 1) 3 (.int .i64 ((pre ++ [z]).length : Int)) := by
      have h1 : Blk W (h + 1) #[.int .i64 (pre.length : Int)] 3 := HV.out
      have h2 := (((h1.other hne.symm q (.int .u64 (U (g (ks pre) q ||| BitVec.ofInt 64 z <<< p)))).set 0 (.int .i64 ((pre.length : Int) + 1))).bel (Bel.refl _).drew)
      rw [show ((pre ++ [z]).length : Int) = (pre.length : Int) + 1 by simp]
      exact h2
    exact ⟨KO.from _, BL, ⟨SX, RB⟩, HB.out.trans (by rw [← HH.out]; exact BL)⟩
  case done =>
    rintro D ys W hD rfl ⟨⟨hv, hrow⟩, hB⟩ hK
    rw [ks168] at hrow
    have hDh : h ≠ D := by rw [HSZ.out] at hD; omega
    have hr2 : Blk (W.putObj D (.deferred none)) h (K.map V).toArray 52 := (World.putObj_heap_other hDh).trans hrow
    have RG : (W.putObj D (.deferred none)).rangeAt h 0 (K.map V) := fun j v hv => by
      rw [Nat.zero_add]
      exact hr2.cell j (by rw [List.getElem?_toArray]; exact hv)
    clear hv hrow hr2
    gi_wp2
    refine ⟨by simp, .inl ⟨_, _, rfl, run_takeDeferred hK, ?_⟩⟩
    refine ⟨.agg (K.map V).toArray, results_c1 Tryd.results54 _ _ ⟨h, 0, none⟩ _ rfl (run_loadVar_mid (P := Tryd.prog) _ h 0 52 (K.map V) _ RG Tryd.underlying52 rfl (by kernel_rfl)), rfl, hB.trans (belowK_b (w := w) (Nat.le_refl _) W D _ _ (by rw [HSZ.out] at hD; rw [← HH.out]; omega) hK rfl rfl)⟩
  case stop =>
    rintro D c pre W _ _ h _
    exact h.elim

theorem keys (w : World) : Calls Tryd.prog 54 #[] w fun e W' => e = .returned (.agg (K.map V).toArray) ∧ Bel w W' :=
  callsIn_wide.1 (keys_in Fence.wide 3 trivial trivial trivial rfl (Nat.le_refl _) w)
end Kk
end Go.Proofs.YtaniijpppmipbaaDoor
