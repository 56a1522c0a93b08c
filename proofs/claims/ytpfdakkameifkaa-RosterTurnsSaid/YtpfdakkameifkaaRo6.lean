/-
  What roster.each, Free, Active and Name answer, and the reference's Free, Active, Name. Conditions: at most a billion validators.
-/
import Derived.Test.YtpfdakkameifkaaRo5
import Derived.Test.YtpfdakkameifkaaRoB
namespace Go.Proofs.Ytpfdakkameifkaa
open Go.RowKit Go.Shelf
set_option linter.unusedVariables false
set_option linter.unusedSimpArgs false
namespace Ro
open Kk Pm

theorem own_rb {α : Type} {K : Rw.Row α} {t : TypeId} {w : World} {base g cap : Nat} {l : List α} (h : Rw.RB K t w g l cap) (hb : base ≤ g) (hm : cap ≤ maxLen) : Rw.OwnR K t w base (.slice (some ⟨g, 0, none⟩) l.length cap) l := by
  obtain ⟨cur, h1, h2, h3⟩ := h.blk
  exact ⟨Rw.flat_len K l, .inr ⟨g, cap, cur, rfl, hb, h1, h.cap, hm, h3, h2⟩⟩
theorem rb_some {α : Type} {K : Rw.Row α} {t : TypeId} {w : World} {base g n c : Nat} {l : List α} (h : w.ownsRow base t K.z (.slice (some ⟨g, 0, none⟩) n c) n (Rw.flat K l)) (hl : l.length = n) : Rw.RB K t w g l c ∧ base ≤ g ∧ c ≤ maxLen := by
  subst hl
  rcases h.2 with ⟨e, _⟩ | ⟨g', cap, cur, e, hbg, hg, hnc, hm, hcs, ht⟩
  · cases e
  · injection e with e1 e2 e3
    injection e1 with e1
    injection e1 with e1
    subst e1 e3
    exact ⟨⟨⟨cur, hg, ht, hcs⟩, hnc⟩, hbg, hm⟩
theorem made_b (w : World) (n : Nat) (hn : n ≤ 1000000000) : ∃ w', (Instr.makeSlice 36 (.int .i64 (n : Int)) (.int .i64 (n : Int))).run Try.prog w = .ok (.slice (some ⟨w.heap.size, 0, none⟩) n n) w' ∧ Rw.RB bR 4 w' w.heap.size (List.replicate n false) n ∧ Bel w w' := by
  obtain ⟨i0, h1, hz0, hz1, hz2⟩ := info_parts1 zero_b
  obtain ⟨w', h2, h3, h4⟩ := run_make_full (P := Try.prog) w w.heap.size 36 4 i0 (.bool false) 1 underB h1 hz0 hz1 .i64 .i64 n (by rw [hz2]; omega) (by unfold maxLen; omega) (Nat.le_refl _)
  have e : (madeCells (Value.bool false).cells (n * 1)).toList = Rw.flat bR (List.replicate n false) := by
    rw [flat_b]
    apply List.ext_getElem?
    intro i
    simp [madeCells, Value.cells, List.getElem?_map, List.getElem?_replicate]
    try split <;> simp_all [Nat.mod_one]
  rw [e] at h3
  exact ⟨w', h2, (rb_some h3 (List.length_replicate ..)).1, (Bel.refl w).grown h4 (fun k hk => by cases hk)⟩
/-- What is known so far. -/
def part (bs : List Bool) (n k : Nat) : List Bool := bs.take k ++ List.replicate (n - k) false
theorem part_set {bs : List Bool} {n k : Nat} (hl : bs.length = n) (hk : k < n) {x : Bool} (hx : bs[k]? = some x) : (part bs n k).set k x = part bs n (k + 1) := by
  unfold part
  have h1 : (bs.take k).length = k := by rw [List.length_take]; omega
  rw [List.set_append_right _ _ (by omega), h1, Nat.sub_self, List.take_add_one, hx, show n - k = (n - (k + 1)) + 1 by omega, List.replicate_succ]
  simp
theorem part_at {bs : List Bool} {n k : Nat} (hl : bs.length = n) (hk : k < n) : (part bs n k)[k]? = some false := by
  unfold part
  have h1 : (bs.take k).length = k := by rw [List.length_take]; omega
  rw [List.getElem?_append_right (by omega), h1, Nat.sub_self, List.getElem?_replicate, if_pos (by omega)]
theorem part_len {bs : List Bool} {n k : Nat} (hl : bs.length = n) (hk : k ≤ n) : (part bs n k).length = n := by
  unfold part
  rw [List.length_append, List.length_take, List.length_replicate]; omega
set_option maxRecDepth 100000 in
set_option maxHeartbeats 4000000 in
theorem each (F : Nat) (f : Int → Bool) (A : Option Addr) (n c : Nat) (l : List V6) (w : World) (hi : Rw.RS vR w A n c l) (hn : n ≤ 1000000000) (eg : ∀ args w, (callFunc F args).run Try.prog w = .ok (.enter F args) w)
    (hF : ∀ s V, Calls Try.prog F #[rts s] V fun e V' => e = .returned (.bool (f s)) ∧ Bel V V') :
    Calls Try.prog 58 #[.slice A n c, .func (.func F) #[] #[]] w fun e w' => ∃ v, e = .returned v ∧ OwnB w' w.heap.size v (l.map (fun r => f (st r))) ∧ Bel w w' := by
  have HR := Lib.hid hi
  have HF := Lib.hid hF
  obtain ⟨bs, hbs⟩ : ∃ bs, l.map (fun r => f (st r)) = bs := ⟨_, rfl⟩
  have HBL := Lib.hid (show bs.length = n by rw [← hbs, List.length_map, hi.len])
  have HBA := Lib.hid (show ∀ i r, l[i]? = some r → bs[i]? = some (f (st r)) from fun i r h => by rw [← hbs, List.getElem?_map, h]; rfl)
  rw [hbs]
  clear hi hF hbs
  obtain ⟨w1, hmk, hrb, hbel⟩ := made_b w n hn
  have RB0 := Lib.hid hrb
  have B1 := Lib.hid hbel
  clear hrb hbel
  go_enter Try.func58, Try.ntmps58
  go_wp2_with fail
  obtain ⟨g, hg⟩ : ∃ g, w.heap.size = g := ⟨_, rfl⟩
  have HG := Lib.hid hg
  rw [hg] at RB0 ⊢
  clear hg
  go_loopw [13] (fun s13 wr => ∃ k : Nat, k ≤ n ∧ s13 = .int .i64 k ∧ Hid (Rw.RB bR 4 wr g (part bs n k) n) ∧ Hid (Bel w wr)) (fun s13 _ => n - (intOf s13).toNat)
  case atStart => exact ⟨0, Nat.zero_le _, rfl, Lib.hid (by unfold part; simpa using RB0.out), B1⟩
  case round =>
    obtain ⟨k, hk, rfl, hrb, hh⟩ := hrel
    by_cases hlt : k < n
    · obtain ⟨⟨r1, r2, r3, r4, r5, r6⟩, hr⟩ := HR.out.get hlt
      obtain ⟨b, q, rfl, hb, hrow⟩ := (HR.out.bel hh.out).at hlt hr
      have HX := Lib.hid (show bs[k]? = some (f r3) from HBA.out _ _ hr)
      obtain ⟨x, hx⟩ : ∃ x, f r3 = x := ⟨_, rfl⟩
      rw [hx] at HX
      have hlt3 : (k : Int) < n := by omega
      have hlt0 : (0 : Int) ≤ k := by omega
      obtain ⟨c0, c1, c2, c3, c4, c5⟩ := rng6 (show wr.rangeAt b (q + k * 6) [.int .i64 r1, .int .u64 r2, .int .i64 r3, .int .i64 r4, .bool r5, .bool r6] from hrow)
      clear hr hrow
      go_upto_region 5 with fail
      have P0 := Lib.hid (Blk.new wr #[.int .i64 r1, .int .u64 r2, .int .i64 r3, .int .i64 r4, .bool r5, .bool r6] 66)
      obtain ⟨V, hV⟩ : ∃ V, wr.alloc (.cells #[.int .i64 r1, .int .u64 r2, .int .i64 r3, .int .i64 r4, .bool r5, .bool r6] 66) = V := ⟨_, rfl⟩
      have BV := Lib.hid (show Bel w V by rw [← hV]; exact hh.out.alloc _)
      have RV := Lib.hid (show Rw.RB bR 4 V g (part bs n k) n by rw [← hV]; exact hrb.out.bel ((Bel.refl _).alloc _))
      rw [hV] at P0 ⊢
      obtain ⟨p, hp⟩ : ∃ p, wr.heap.size = p := ⟨_, rfl⟩
      rw [hp] at P0 ⊢
      clear hV hp c0 c1 c2 c3 c4 c5 hrb
      have c2 := P0.out.cell 2 rfl
      have PE := Lib.hid (permits r3 V)
      go_wp2_with fail
      refine PE.out.mono ?_
      rintro e V1 ⟨rfl, k1⟩
      have FC := Lib.hid (HF.out r3 V1)
      rw [hx] at FC
      have BV1 := Lib.hid (BV.out.trans k1)
      have RV1 := Lib.hid (RV.out.bel k1)
      clear k1 hx PE P0 c2 RV
      go_wp2_with fail
      refine FC.out.mono ?_
      rintro e V2 ⟨rfl, k2⟩
      have BV2 := Lib.hid (BV1.out.trans k2)
      have RV2 := Lib.hid (RV1.out.bel k2)
      clear k2 FC RV1
      have hce := Rw.rng_cell ((RV2.out.rs.at (i := k) (by rw [part_len HBL.out (by omega)]; exact hlt) (part_at HBL.out hlt)).elim fun b h => h.elim fun o h => by
        obtain ⟨e, _, hr⟩ := h
        injection e with e; injection e with e1 e2
        subst e1 e2
        exact hr) 0 (v := .bool false) rfl
      have hfr := RV2.out.frozen k
      have RV3 := Lib.hid (RV2.out.set (i := k) (o := 0) (r := false) (r' := x) (v := .bool x) (by decide) (part_at HBL.out hlt) rfl)
      rw [part_set HBL.out hlt HX.out] at RV3
      have hz : 0 + k * bR.z + 0 = k := by show 0 + k * 1 + 0 = k; omega
      rw [hz] at hce
      have hz2 : k * bR.z + 0 = k := by show k * 1 + 0 = k; omega
      rw [hz2] at RV3
      clear hz hz2
      have hkl : k < n := hlt
      go_wp2_with fail
      go_roundw
      case rel => exact ⟨k + 1, by omega, by go_num, RV3, Lib.hid (BV2.out.set (by have := HG.out; show w.heap.size ≤ g; omega) _)⟩
      case measure => simp [intOf]; omega
    · obtain rfl : k = n := by omega
      have HF2 := Lib.hid (show part bs k k = bs by unfold part; rw [Nat.sub_self, List.take_of_length_le (by rw [HBL.out]; exact Nat.le_refl _)]; simp)
      rw [HF2.out] at hrb
      go_wp2_with fail
      go_ret
      have := own_rb (base := w.heap.size) hrb.out (by have := HG.out; omega) (by unfold maxLen; omega)
      rw [HBL.out] at this
      exact ⟨_, rfl, by have := HG.out; subst this; exact this, hh.out⟩

set_option maxHeartbeats 1000000 in
theorem ask_f (s : Int) (V : World) : Calls Try.prog 59 #[rts s] V fun e V' => e = .returned (.bool (decide (s = 1) || decide (s = 2))) ∧ Bel V V' := by
  unfold rts
  go_enter Try.func59, Try.ntmps59
  go_wp2_with fail
  go_ret
  exact ⟨rfl, (Bel.refl V).alloc _⟩
set_option maxHeartbeats 1000000 in
theorem ask_a (s : Int) (V : World) : Calls Try.prog 60 #[rts s] V fun e V' => e = .returned (.bool (decide (s = 2))) ∧ Bel V V' := by
  unfold rts
  go_enter Try.func60, Try.ntmps60
  go_wp2_with fail
  go_ret
  exact ⟨rfl, (Bel.refl V).alloc _⟩
set_option maxRecDepth 100000 in
set_option maxHeartbeats 1000000 in
theorem free_ (A : Option Addr) (n c : Nat) (l : List V6) (w : World) (hi : Rw.RS vR w A n c l) (hn : n ≤ 1000000000) :
    Calls Try.prog 20 #[.slice A n c] w fun e w' => ∃ v, e = .returned v ∧ OwnB w' w.heap.size v (l.map free) ∧ Bel w w' := by
  have EA := Lib.hid (each 59 (fun s => decide (s = 1) || decide (s = 2)) A n c l w hi hn (fun args w => rfl) ask_f)
  clear hi
  go_enter Try.func20, Try.ntmps20
  go_wp2_with fail
  refine EA.out.mono ?_
  rintro e w1 ⟨v, rfl, ho, kb⟩
  have HO := Lib.hid ho
  have KB := Lib.hid kb
  clear ho kb EA
  go_wp2_with fail
  go_ret
  exact ⟨_, rfl, HO.out, KB.out⟩
set_option maxRecDepth 100000 in
set_option maxHeartbeats 1000000 in
theorem acts_ (A : Option Addr) (n c : Nat) (l : List V6) (w : World) (hi : Rw.RS vR w A n c l) (hn : n ≤ 1000000000) :
    Calls Try.prog 22 #[.slice A n c] w fun e w' => ∃ v, e = .returned v ∧ OwnB w' w.heap.size v (l.map acts) ∧ Bel w w' := by
  have EA := Lib.hid (each 60 (fun s => decide (s = 2)) A n c l w hi hn (fun args w => rfl) ask_a)
  clear hi
  go_enter Try.func22, Try.ntmps22
  go_wp2_with fail
  refine EA.out.mono ?_
  rintro e w1 ⟨v, rfl, ho, kb⟩
  have HO := Lib.hid ho
  have KB := Lib.hid kb
  clear ho kb EA
  go_wp2_with fail
  go_ret
  exact ⟨_, rfl, HO.out, KB.out⟩
theorem map_next {β : Type} (f : V6 → β) {l : List V6} {k : Nat} {r : V6} (h : l[k]? = some r) : (l.take (k + 1)).map f = (l.take k).map f ++ [f r] := by
  rw [List.take_add_one, h, List.map_append]; rfl
theorem free_def (o m s u : Int) (a p : Bool) : free (o, m, s, u, a, p) = (decide (s = 1) || decide (s = 2)) := rfl
set_option maxRecDepth 100000 in
set_option maxHeartbeats 2000000 in
theorem freeR (A : Option Addr) (n c : Nat) (l : List V6) (w : World) (hi : Rw.RS vR w A n c l) (hn : n ≤ 1000000000) :
    Calls Try.prog 21 #[.slice A n c] w fun e w' => ∃ v, e = .returned v ∧ OwnB w' w.heap.size v (l.map free) ∧ Bel w w' := by
  have HR := Lib.hid hi
  clear hi
  go_enter Try.func21, Try.ntmps21
  go_wp2_with fail
  go_loopw [3, 4] (fun s3 s4 wr => ∃ k : Nat, k ≤ n ∧ s4 = .int .i64 k ∧ Hid (OwnB wr w.heap.size s3 ((l.take k).map free)) ∧ Hid (Bel w wr)) (fun _ s4 _ => n - (intOf s4).toNat)
  case atStart => exact ⟨0, Nat.zero_le _, rfl, Lib.hid (Rw.OwnR.nil_ _ _ _ _), Lib.hid (Bel.refl _)⟩
  case round =>
    obtain ⟨k, hk, rfl, ho, hh⟩ := hrel
    by_cases hlt : k < n
    · obtain ⟨⟨r1, r2, r3, r4, r5, r6⟩, hr⟩ := HR.out.get hlt
      obtain ⟨b, q, rfl, hb, hrow⟩ := (HR.out.bel hh.out).at hlt hr
      have HNX := Lib.hid (map_next free hr)
      have HLE := Lib.hid (show ((l.take k).map free).length ≤ k by rw [List.length_map, List.length_take]; omega)
      have HSZ := Lib.hid (Below.size hh.out)
      have hlt3 : (k : Int) < n := by omega
      have hlt0 : (0 : Int) ≤ k := by omega
      obtain ⟨c0, c1, c2, c3, c4, c5⟩ := rng6 (show wr.rangeAt b (q + k * 6) [.int .i64 r1, .int .u64 r2, .int .i64 r3, .int .i64 r4, .bool r5, .bool r6] from hrow)
      clear hr hrow
      obtain ⟨x, hx⟩ : ∃ x, free (r1, r2, r3, r4, r5, r6) = x := ⟨_, rfl⟩
      rw [hx] at HNX
      have HCE := Lib.hid ((Blk.new wr #[.bool x] 4).cell 0 rfl)
      have HOA := Lib.hid (show OwnB _ w.heap.size _ _ from ho.out.bel ((Bel.refl wr).alloc (.cells #[.bool x] 4)))
      have HB := Lib.hid (hh.out.alloc (.cells #[.bool x] 4))
      clear ho
      by_cases h1 : r3 = 1
      · subst h1
        obtain rfl : true = x := hx
        go_wp2_with (at_builtin; refine append_b rfl _ _ rfl w.heap.size _ ((l.take k).map free) rfl HOA.out ⟨wr.heap.size, 0, none⟩ true rfl HCE.out (by have := HLE.out; omega) (by have := HSZ.out; simp; omega) ?_; intro v' w1 hown' hgrow)
        have HO2 := Lib.hid hown'
        have HB2 := Lib.hid (show Bel w w1 from Kk.Bel.grown HB.out hgrow (fun k hk => (HOA.out.lt k hk).1))
        clear hown' hgrow HOA HB HCE
        go_wp2_with fail
        go_roundw
        case rel => exact ⟨k + 1, by omega, by go_num, Lib.hid (by rw [HNX.out]; exact HO2.out), HB2⟩
        case measure => simp [intOf]; omega
      · have e1 : (r3 == 1) = false := beq_eq_false_iff_ne.2 h1
        by_cases h2 : r3 = 2
        · subst h2
          obtain rfl : true = x := hx
          clear h1
          go_wp2_with (at_builtin; refine append_b rfl _ _ rfl w.heap.size _ ((l.take k).map free) rfl HOA.out ⟨wr.heap.size, 0, none⟩ true rfl HCE.out (by have := HLE.out; omega) (by have := HSZ.out; simp; omega) ?_; intro v' w1 hown' hgrow)
          have HO2 := Lib.hid hown'
          have HB2 := Lib.hid (show Bel w w1 from Kk.Bel.grown HB.out hgrow (fun k hk => (HOA.out.lt k hk).1))
          clear hown' hgrow HOA HB HCE
          go_wp2_with fail
          go_roundw
          case rel => exact ⟨k + 1, by omega, by go_num, Lib.hid (by rw [HNX.out]; exact HO2.out), HB2⟩
          case measure => simp [intOf]; omega
        · have e2 : (r3 == 2) = false := beq_eq_false_iff_ne.2 h2
          obtain rfl : x = false := by rw [← hx, free_def, decide_eq_false h1, decide_eq_false h2]; rfl
          clear hx h1 h2
          go_wp2_with (at_builtin; refine append_b rfl _ _ rfl w.heap.size _ ((l.take k).map free) rfl HOA.out ⟨wr.heap.size, 0, none⟩ false rfl HCE.out (by have := HLE.out; omega) (by have := HSZ.out; simp; omega) ?_; intro v' w1 hown' hgrow)
          have HO2 := Lib.hid hown'
          have HB2 := Lib.hid (show Bel w w1 from Kk.Bel.grown HB.out hgrow (fun k hk => (HOA.out.lt k hk).1))
          clear hown' hgrow HOA HB HCE
          go_wp2_with fail
          go_roundw
          case rel => exact ⟨k + 1, by omega, by go_num, Lib.hid (by rw [HNX.out]; exact HO2.out), HB2⟩
          case measure => simp [intOf]; omega
    · obtain rfl : k = n := by omega
      have HL := Lib.hid (show l.take k = l from List.take_of_length_le (by rw [HR.out.len]; exact Nat.le_refl _))
      rw [HL.out] at ho
      go_wp2_with fail
      go_ret
      exact ⟨_, rfl, ho.out, hh.out⟩
set_option maxRecDepth 100000 in
set_option maxHeartbeats 2000000 in
theorem actsR (A : Option Addr) (n c : Nat) (l : List V6) (w : World) (hi : Rw.RS vR w A n c l) (hn : n ≤ 1000000000) :
    Calls Try.prog 23 #[.slice A n c] w fun e w' => ∃ v, e = .returned v ∧ OwnB w' w.heap.size v (l.map acts) ∧ Bel w w' := by
  have HR := Lib.hid hi
  clear hi
  go_enter Try.func23, Try.ntmps23
  go_wp2_with fail
  go_loopw [3, 4] (fun s3 s4 wr => ∃ k : Nat, k ≤ n ∧ s4 = .int .i64 k ∧ Hid (OwnB wr w.heap.size s3 ((l.take k).map acts)) ∧ Hid (Bel w wr)) (fun _ s4 _ => n - (intOf s4).toNat)
  case atStart => exact ⟨0, Nat.zero_le _, rfl, Lib.hid (Rw.OwnR.nil_ _ _ _ _), Lib.hid (Bel.refl _)⟩
  case round =>
    obtain ⟨k, hk, rfl, ho, hh⟩ := hrel
    by_cases hlt : k < n
    · obtain ⟨⟨r1, r2, r3, r4, r5, r6⟩, hr⟩ := HR.out.get hlt
      obtain ⟨b, q, rfl, hb, hrow⟩ := (HR.out.bel hh.out).at hlt hr
      have HNX := Lib.hid (map_next acts hr)
      have HLE := Lib.hid (show ((l.take k).map acts).length ≤ k by rw [List.length_map, List.length_take]; omega)
      have HSZ := Lib.hid (Below.size hh.out)
      have hlt3 : (k : Int) < n := by omega
      have hlt0 : (0 : Int) ≤ k := by omega
      obtain ⟨c0, c1, c2, c3, c4, c5⟩ := rng6 (show wr.rangeAt b (q + k * 6) [.int .i64 r1, .int .u64 r2, .int .i64 r3, .int .i64 r4, .bool r5, .bool r6] from hrow)
      clear hr hrow
      obtain ⟨x, hx⟩ : ∃ x, acts (r1, r2, r3, r4, r5, r6) = x := ⟨_, rfl⟩
      rw [hx] at HNX
      have HCE := Lib.hid ((Blk.new wr #[.bool x] 4).cell 0 rfl)
      have HOA := Lib.hid (show OwnB _ w.heap.size _ _ from ho.out.bel ((Bel.refl wr).alloc (.cells #[.bool x] 4)))
      have HB := Lib.hid (hh.out.alloc (.cells #[.bool x] 4))
      clear ho
      by_cases h2 : r3 = 2
      · subst h2
        obtain rfl : true = x := hx
        go_wp2_with (at_builtin; refine append_b rfl _ _ rfl w.heap.size _ ((l.take k).map acts) rfl HOA.out ⟨wr.heap.size, 0, none⟩ true rfl HCE.out (by have := HLE.out; omega) (by have := HSZ.out; simp; omega) ?_; intro v' w1 hown' hgrow)
        have HO2 := Lib.hid hown'
        have HB2 := Lib.hid (show Bel w w1 from Kk.Bel.grown HB.out hgrow (fun k hk => (HOA.out.lt k hk).1))
        clear hown' hgrow HOA HB HCE
        go_wp2_with fail
        go_roundw
        case rel => exact ⟨k + 1, by omega, by go_num, Lib.hid (by rw [HNX.out]; exact HO2.out), HB2⟩
        case measure => simp [intOf]; omega
      · have e2 : (r3 == 2) = false := beq_eq_false_iff_ne.2 h2
        obtain rfl : x = false := by rw [← hx]; exact decide_eq_false h2
        clear hx h2
        go_wp2_with (at_builtin; refine append_b rfl _ _ rfl w.heap.size _ ((l.take k).map acts) rfl HOA.out ⟨wr.heap.size, 0, none⟩ false rfl HCE.out (by have := HLE.out; omega) (by have := HSZ.out; simp; omega) ?_; intro v' w1 hown' hgrow)
        have HO2 := Lib.hid hown'
        have HB2 := Lib.hid (show Bel w w1 from Kk.Bel.grown HB.out hgrow (fun k hk => (HOA.out.lt k hk).1))
        clear hown' hgrow HOA HB HCE
        go_wp2_with fail
        go_roundw
        case rel => exact ⟨k + 1, by omega, by go_num, Lib.hid (by rw [HNX.out]; exact HO2.out), HB2⟩
        case measure => simp [intOf]; omega
    · obtain rfl : k = n := by omega
      have HL := Lib.hid (show l.take k = l from List.take_of_length_le (by rw [HR.out.len]; exact Nat.le_refl _))
      rw [HL.out] at ho
      go_wp2_with fail
      go_ret
      exact ⟨_, rfl, ho.out, hh.out⟩
/-- A status's name. -/
def nmS (s : Int) : ByteArray := if s = 1 then ⟨#[105, 100, 108, 101]⟩ else if s = 2 then ⟨#[97, 99, 116, 105, 118, 101]⟩ else if s = 3 then ⟨#[106, 97, 105, 108, 101, 100]⟩ else if s = 4 then ⟨#[116, 111, 109, 98]⟩ else ⟨#[110, 111, 110, 101]⟩
set_option maxHeartbeats 1000000 in
theorem name_ (s : Int) (w : World) : Calls Try.prog 26 #[.int .i64 s] w fun e w' => e = .returned (.string (nmS s)) ∧ w = w' := by
  unfold nmS
  by_cases h1 : s = 1
  · subst h1
    go_enter Try.func26, Try.ntmps26
    go_wp2_with fail
    go_ret
    exact ⟨rfl, rfl⟩
  have e1 : (s == 1) = false := beq_eq_false_iff_ne.2 h1
  by_cases h2 : s = 2
  · subst h2
    go_enter Try.func26, Try.ntmps26
    go_wp2_with fail
    go_ret
    exact ⟨rfl, rfl⟩
  have e2 : (s == 2) = false := beq_eq_false_iff_ne.2 h2
  by_cases h3 : s = 3
  · subst h3
    go_enter Try.func26, Try.ntmps26
    go_wp2_with fail
    go_ret
    exact ⟨rfl, rfl⟩
  have e3 : (s == 3) = false := beq_eq_false_iff_ne.2 h3
  by_cases h4 : s = 4
  · subst h4
    go_enter Try.func26, Try.ntmps26
    go_wp2_with fail
    go_ret
    exact ⟨rfl, rfl⟩
  have e4 : (s == 4) = false := beq_eq_false_iff_ne.2 h4
  rw [if_neg h1, if_neg h2, if_neg h3, if_neg h4]
  clear h1 h2 h3 h4
  go_enter Try.func26, Try.ntmps26
  go_wp2_with fail
  go_ret
  exact ⟨rfl, rfl⟩
set_option maxHeartbeats 1000000 in
theorem nameR (s : Int) (w : World) : Calls Try.prog 27 #[.int .i64 s] w fun e w' => e = .returned (.string (nmS s)) ∧ w = w' := by
  unfold nmS
  by_cases h1 : s = 1
  · subst h1
    go_enter Try.func27, Try.ntmps27
    go_wp2_with fail
    go_ret
    exact ⟨rfl, rfl⟩
  have e1 : (s == 1) = false := beq_eq_false_iff_ne.2 h1
  by_cases h2 : s = 2
  · subst h2
    go_enter Try.func27, Try.ntmps27
    go_wp2_with fail
    go_ret
    exact ⟨rfl, rfl⟩
  have e2 : (s == 2) = false := beq_eq_false_iff_ne.2 h2
  by_cases h3 : s = 3
  · subst h3
    go_enter Try.func27, Try.ntmps27
    go_wp2_with fail
    go_ret
    exact ⟨rfl, rfl⟩
  have e3 : (s == 3) = false := beq_eq_false_iff_ne.2 h3
  by_cases h4 : s = 4
  · subst h4
    go_enter Try.func27, Try.ntmps27
    go_wp2_with fail
    go_ret
    exact ⟨rfl, rfl⟩
  have e4 : (s == 4) = false := beq_eq_false_iff_ne.2 h4
  rw [if_neg h1, if_neg h2, if_neg h3, if_neg h4]
  clear h1 h2 h3 h4
  go_enter Try.func27, Try.ntmps27
  go_wp2_with fail
  go_ret
  exact ⟨rfl, rfl⟩
end Ro
end Go.Proofs.Ytpfdakkameifkaa
