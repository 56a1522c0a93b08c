/-
  Texts of this claim, put together: Ro6, RwF, Ro7, Ro8. What each one says, and under which conditions, stands ahead of it.
-/
import Derived.Laws.AppendOwn
import Derived.Deep.AppendLies
import Derived.BigQuiet
import Derived.Test.YtpfdakkameifkaaRB
import Derived.Test.YtpfdakkameifkaaRA
import Derived.Test.YtpfdakkameifkaaGRw

section
/-
  What roster.each, Free, Active and Name answer, and the reference's Free, Active, Name. Conditions: at most a billion validators.
-/
namespace Go.Proofs.Ytpfdakkameifkaa
open Go.RowKit Go.Shelf
set_option linter.unusedVariables false
set_option linter.unusedSimpArgs false
namespace Ro
open Kk Pm

theorem own_rb {α : Type} {K : Rw.Row α} {t : TypeId} {w : World} {base g cap : Nat} {l : List α} (h : Rw.RB K t w g l cap) (hb : base ≤ g) (hm : cap ≤ maxLen) : Rw.OwnR K t w base (.slice (some ⟨g, 0, none⟩) l.length cap) l := by
  obtain ⟨cur, h1, h2, h3⟩ := h.blk
  exact ⟨Rw.flat_len K l, .inr ⟨g, cap, cur, rfl, hb, h1, h.cap, hm, h3, h2⟩⟩
theorem rb_some {α : Type} {K : Rw.Row α} {t : TypeId} {w : World} {base g n c : Nat} {l : List α} (h : w.ownsRow base t K.z (.slice (some ⟨g, 0, none⟩) n c) n (Rw.flat K l)) (hl : l.length = n) : Rw.RB K t w g l c ∧ base ≤ g ∧ c ≤ maxLen := by
  subst hl
  rcases h.2 with ⟨e, _⟩ | ⟨g', cap, cur, e, hbg, hg, hnc, hm, hcs, ht⟩
  · cases e
  · injection e with e1 e2 e3
    injection e1 with e1
    injection e1 with e1
    subst e1 e3
    exact ⟨⟨⟨cur, hg, ht, hcs⟩, hnc⟩, hbg, hm⟩
theorem made_b (w : World) (n : Nat) (hn : n ≤ 1000000000) : ∃ w', (Instr.makeSlice 36 (.int .i64 (n : Int)) (.int .i64 (n : Int))).run Try.prog w = .ok (.slice (some ⟨w.heap.size, 0, none⟩) n n) w' ∧ Rw.RB bR 4 w' w.heap.size (List.replicate n false) n ∧ Bel w w' := by
  obtain ⟨i0, h1, hz0, hz1, hz2⟩ := info_parts1 zero_b
  obtain ⟨w', h2, h3, h4⟩ := run_make_full (P := Try.prog) w w.heap.size 36 4 i0 (.bool false) 1 underB h1 hz0 hz1 .i64 .i64 n (by rw [hz2]; omega) (by unfold maxLen; omega) (Nat.le_refl _)
  have e : (madeCells (Value.bool false).cells (n * 1)).toList = Rw.flat bR (List.replicate n false) := by
    rw [flat_b]
    apply List.ext_getElem?
    intro i
    simp [madeCells, Value.cells, List.getElem?_map, List.getElem?_replicate]
    try split <;> simp_all [Nat.mod_one]
  rw [e] at h3
  exact ⟨w', h2, (rb_some h3 (List.length_replicate ..)).1, (Bel.refl w).grown h4 (fun k hk => by cases hk)⟩
/-- What is known so far. -/
def part (bs : List Bool) (n k : Nat) : List Bool := bs.take k ++ List.replicate (n - k) false
theorem part_set {bs : List Bool} {n k : Nat} (hl : bs.length = n) (hk : k < n) {x : Bool} (hx : bs[k]? = some x) : (part bs n k).set k x = part bs n (k + 1) := by
  unfold part
  have h1 : (bs.take k).length = k := by rw [List.length_take]; omega
  rw [List.set_append_right _ _ (by omega), h1, Nat.sub_self, List.take_add_one, hx, show n - k = (n - (k + 1)) + 1 by omega, List.replicate_succ]
  simp
theorem part_at {bs : List Bool} {n k : Nat} (hl : bs.length = n) (hk : k < n) : (part bs n k)[k]? = some false := by
  unfold part
  have h1 : (bs.take k).length = k := by rw [List.length_take]; omega
  rw [List.getElem?_append_right (by omega), h1, Nat.sub_self, List.getElem?_replicate, if_pos (by omega)]
theorem part_len {bs : List Bool} {n k : Nat} (hl : bs.length = n) (hk : k ≤ n) : (part bs n k).length = n := by
  unfold part
  rw [List.length_append, List.length_take, List.length_replicate]; omega
set_option maxRecDepth 100000 in
set_option maxHeartbeats 4000000 in
theorem each (F : Nat) (f : Int → Bool) (A : Option Addr) (n c : Nat) (l : List V6) (w : World) (hi : Rw.RS vR w A n c l) (hn : n ≤ 1000000000) (eg : ∀ args w, (callFunc F args).run Try.prog w = .ok (.enter F args) w)
    (hF : ∀ s V, Calls Try.prog F #[rts s] V fun e V' => e = .returned (.bool (f s)) ∧ Bel V V') :
    Calls Try.prog 58 #[.slice A n c, .func (.func F) #[] #[]] w fun e w' => ∃ v, e = .returned v ∧ OwnB w' w.heap.size v (l.map (fun r => f (st r))) ∧ Bel w w' := by
  have HR := Lib.hid hi
  have HF := Lib.hid hF
  obtain ⟨bs, hbs⟩ : ∃ bs, l.map (fun r => f (st r)) = bs := ⟨_, rfl⟩
  have HBL := Lib.hid (show bs.length = n by rw [← hbs, List.length_map, hi.len])
  have HBA := Lib.hid (show ∀ i r, l[i]? = some r → bs[i]? = some (f (st r)) from fun i r h => by rw [← hbs, List.getElem?_map, h]; rfl)
  rw [hbs]
  clear hi hF hbs
  obtain ⟨w1, hmk, hrb, hbel⟩ := made_b w n hn
  have RB0 := Lib.hid hrb
  have B1 := Lib.hid hbel
  clear hrb hbel
  go_enter Try.func58, Try.ntmps58
  go_wp2_with fail
  obtain ⟨g, hg⟩ : ∃ g, w.heap.size = g := ⟨_, rfl⟩
  have HG := Lib.hid hg
  rw [hg] at RB0 ⊢
  clear hg
  go_loopw [13] (fun s13 wr => ∃ k : Nat, k ≤ n ∧ s13 = .int .i64 k ∧ Hid (Rw.RB bR 4 wr g (part bs n k) n) ∧ Hid (Bel w wr)) (fun s13 _ => n - (intOf s13).toNat)
  case atStart => exact ⟨0, Nat.zero_le _, rfl, Lib.hid (by unfold part; simpa using RB0.out), B1⟩
  case round =>
    obtain ⟨k, hk, rfl, hrb, hh⟩ := hrel
    by_cases hlt : k < n
    · obtain ⟨⟨r1, r2, r3, r4, r5, r6⟩, hr⟩ := HR.out.get hlt
      obtain ⟨b, q, rfl, hb, hrow⟩ := (HR.out.bel hh.out).at hlt hr
      have HX := Lib.hid (show bs[k]? = some (f r3) from HBA.out _ _ hr)
      obtain ⟨x, hx⟩ : ∃ x, f r3 = x := ⟨_, rfl⟩
      rw [hx] at HX
      have hlt3 : (k : Int) < n := by omega
      have hlt0 : (0 : Int) ≤ k := by omega
      obtain ⟨c0, c1, c2, c3, c4, c5⟩ := rng6 (show wr.rangeAt b (q + k * 6) [.int .i64 r1, .int .u64 r2, .int .i64 r3, .int .i64 r4, .bool r5, .bool r6] from hrow)
      clear hr hrow
      go_upto_region 5 with fail
      have P0 := Lib.hid (Blk.new wr #[.int .i64 r1, .int .u64 r2, .int .i64 r3, .int .i64 r4, .bool r5, .bool r6] 66)
      obtain ⟨V, hV⟩ : ∃ V, wr.alloc (.cells #[.int .i64 r1, .int .u64 r2, .int .i64 r3, .int .i64 r4, .bool r5, .bool r6] 66) = V := ⟨_, rfl⟩
      have BV := Lib.hid (show Bel w V by rw [← hV]; exact hh.out.alloc _)
      have RV := Lib.hid (show Rw.RB bR 4 V g (part bs n k) n by rw [← hV]; exact hrb.out.bel ((Bel.refl _).alloc _))
      rw [hV] at P0 ⊢
      obtain ⟨p, hp⟩ : ∃ p, wr.heap.size = p := ⟨_, rfl⟩
      rw [hp] at P0 ⊢
      clear hV hp c0 c1 c2 c3 c4 c5 hrb
      have c2 := P0.out.cell 2 rfl
      have PE := Lib.hid (permits r3 V)
      go_wp2_with fail
      refine PE.out.mono ?_
      rintro e V1 ⟨rfl, k1⟩
      have FC := Lib.hid (HF.out r3 V1)
      rw [hx] at FC
      have BV1 := Lib.hid (BV.out.trans k1)
      have RV1 := Lib.hid (RV.out.bel k1)
      clear k1 hx PE P0 c2 RV
      go_wp2_with fail
      refine FC.out.mono ?_
      rintro e V2 ⟨rfl, k2⟩
      have BV2 := Lib.hid (BV1.out.trans k2)
      have RV2 := Lib.hid (RV1.out.bel k2)
      clear k2 FC RV1
      have hce := Rw.rng_cell ((RV2.out.rs.at (i := k) (by rw [part_len HBL.out (by omega)]; exact hlt) (part_at HBL.out hlt)).elim fun b h => h.elim fun o h => by
        obtain ⟨e, _, hr⟩ := h
        injection e with e; injection e with e1 e2
        subst e1 e2
        exact hr) 0 (v := .bool false) rfl
      have hfr := RV2.out.frozen k
      have RV3 := Lib.hid (RV2.out.set (i := k) (o := 0) (r := false) (r' := x) (v := .bool x) (by decide) (part_at HBL.out hlt) rfl)
      rw [part_set HBL.out hlt HX.out] at RV3
      have hz : 0 + k * bR.z + 0 = k := by show 0 + k * 1 + 0 = k; omega
      rw [hz] at hce
      have hz2 : k * bR.z + 0 = k := by show k * 1 + 0 = k; omega
      rw [hz2] at RV3
      clear hz hz2
      have hkl : k < n := hlt
      go_wp2_with fail
      go_roundw
      case rel => exact ⟨k + 1, by omega, by go_num, RV3, Lib.hid (BV2.out.set (by have := HG.out; show w.heap.size ≤ g; omega) _)⟩
      case measure => simp [intOf]; omega
    · obtain rfl : k = n := by omega
      have HF2 := Lib.hid (show part bs k k = bs by unfold part; rw [Nat.sub_self, List.take_of_length_le (by rw [HBL.out]; exact Nat.le_refl _)]; simp)
      rw [HF2.out] at hrb
      go_wp2_with fail
      go_ret
      have := own_rb (base := w.heap.size) hrb.out (by have := HG.out; omega) (by unfold maxLen; omega)
      rw [HBL.out] at this
      exact ⟨_, rfl, by have := HG.out; subst this; exact this, hh.out⟩

set_option maxHeartbeats 1000000 in
theorem ask_f (s : Int) (V : World) : Calls Try.prog 59 #[rts s] V fun e V' => e = .returned (.bool (decide (s = 1) || decide (s = 2))) ∧ Bel V V' := by
  unfold rts
  go_enter Try.func59, Try.ntmps59
  go_wp2_with fail
  go_ret
  exact ⟨rfl, (Bel.refl V).alloc _⟩
set_option maxHeartbeats 1000000 in
theorem ask_a (s : Int) (V : World) : Calls Try.prog 60 #[rts s] V fun e V' => e = .returned (.bool (decide (s = 2))) ∧ Bel V V' := by
  unfold rts
  go_enter Try.func60, Try.ntmps60
  go_wp2_with fail
  go_ret
  exact ⟨rfl, (Bel.refl V).alloc _⟩
set_option maxRecDepth 100000 in
set_option maxHeartbeats 1000000 in
theorem free_ (A : Option Addr) (n c : Nat) (l : List V6) (w : World) (hi : Rw.RS vR w A n c l) (hn : n ≤ 1000000000) :
    Calls Try.prog 20 #[.slice A n c] w fun e w' => ∃ v, e = .returned v ∧ OwnB w' w.heap.size v (l.map free) ∧ Bel w w' := by
  have EA := Lib.hid (each 59 (fun s => decide (s = 1) || decide (s = 2)) A n c l w hi hn (fun args w => rfl) ask_f)
  clear hi
  go_enter Try.func20, Try.ntmps20
  go_wp2_with fail
  refine EA.out.mono ?_
  rintro e w1 ⟨v, rfl, ho, kb⟩
  have HO := Lib.hid ho
  have KB := Lib.hid kb
  clear ho kb EA
  go_wp2_with fail
  go_ret
  exact ⟨_, rfl, HO.out, KB.out⟩
set_option maxRecDepth 100000 in
set_option maxHeartbeats 1000000 in
theorem acts_ (A : Option Addr) (n c : Nat) (l : List V6) (w : World) (hi : Rw.RS vR w A n c l) (hn : n ≤ 1000000000) :
    Calls Try.prog 22 #[.slice A n c] w fun e w' => ∃ v, e = .returned v ∧ OwnB w' w.heap.size v (l.map acts) ∧ Bel w w' := by
  have EA := Lib.hid (each 60 (fun s => decide (s = 2)) A n c l w hi hn (fun args w => rfl) ask_a)
  clear hi
  go_enter Try.func22, Try.ntmps22
  go_wp2_with fail
  refine EA.out.mono ?_
  rintro e w1 ⟨v, rfl, ho, kb⟩
  have HO := Lib.hid ho
  have KB := Lib.hid kb
  clear ho kb EA
  go_wp2_with fail
  go_ret
  exact ⟨_, rfl, HO.out, KB.out⟩
theorem map_next {β : Type} (f : V6 → β) {l : List V6} {k : Nat} {r : V6} (h : l[k]? = some r) : (l.take (k + 1)).map f = (l.take k).map f ++ [f r] := by
  rw [List.take_add_one, h, List.map_append]; rfl
theorem free_def (o m s u : Int) (a p : Bool) : free (o, m, s, u, a, p) = (decide (s = 1) || decide (s = 2)) := rfl
set_option maxRecDepth 100000 in
set_option maxHeartbeats 2000000 in
theorem freeR (A : Option Addr) (n c : Nat) (l : List V6) (w : World) (hi : Rw.RS vR w A n c l) (hn : n ≤ 1000000000) :
    Calls Try.prog 21 #[.slice A n c] w fun e w' => ∃ v, e = .returned v ∧ OwnB w' w.heap.size v (l.map free) ∧ Bel w w' := by
  have HR := Lib.hid hi
  clear hi
  go_enter Try.func21, Try.ntmps21
  go_wp2_with fail
  go_loopw [3, 4] (fun s3 s4 wr => ∃ k : Nat, k ≤ n ∧ s4 = .int .i64 k ∧ Hid (OwnB wr w.heap.size s3 ((l.take k).map free)) ∧ Hid (Bel w wr)) (fun _ s4 _ => n - (intOf s4).toNat)
  case atStart => exact ⟨0, Nat.zero_le _, rfl, Lib.hid (Rw.OwnR.nil_ _ _ _ _), Lib.hid (Bel.refl _)⟩
  case round =>
    obtain ⟨k, hk, rfl, ho, hh⟩ := hrel
    by_cases hlt : k < n
    · obtain ⟨⟨r1, r2, r3, r4, r5, r6⟩, hr⟩ := HR.out.get hlt
      obtain ⟨b, q, rfl, hb, hrow⟩ := (HR.out.bel hh.out).at hlt hr
      have HNX := Lib.hid (map_next free hr)
      have HLE := Lib.hid (show ((l.take k).map free).length ≤ k by rw [List.length_map, List.length_take]; omega)
      have HSZ := Lib.hid (Below.size hh.out)
      have hlt3 : (k : Int) < n := by omega
      have hlt0 : (0 : Int) ≤ k := by omega
      obtain ⟨c0, c1, c2, c3, c4, c5⟩ := rng6 (show wr.rangeAt b (q + k * 6) [.int .i64 r1, .int .u64 r2, .int .i64 r3, .int .i64 r4, .bool r5, .bool r6] from hrow)
      clear hr hrow
      obtain ⟨x, hx⟩ : ∃ x, free (r1, r2, r3, r4, r5, r6) = x := ⟨_, rfl⟩
      rw [hx] at HNX
      have HCE := Lib.hid ((Blk.new wr #[.bool x] 4).cell 0 rfl)
      have HOA := Lib.hid (show OwnB _ w.heap.size _ _ from ho.out.bel ((Bel.refl wr).alloc (.cells #[.bool x] 4)))
      have HB := Lib.hid (hh.out.alloc (.cells #[.bool x] 4))
      clear ho
      by_cases h1 : r3 = 1
      · subst h1
        obtain rfl : true = x := hx
        go_wp2_with (at_builtin; refine append_b rfl _ _ rfl w.heap.size _ ((l.take k).map free) rfl HOA.out ⟨wr.heap.size, 0, none⟩ true rfl HCE.out (by have := HLE.out; omega) (by have := HSZ.out; simp; omega) ?_; intro v' w1 hown' hgrow)
        have HO2 := Lib.hid hown'
        have HB2 := Lib.hid (show Bel w w1 from Kk.Bel.grown HB.out hgrow (fun k hk => (HOA.out.lt k hk).1))
        clear hown' hgrow HOA HB HCE
        go_wp2_with fail
        go_roundw
        case rel => exact ⟨k + 1, by omega, by go_num, Lib.hid (by rw [HNX.out]; exact HO2.out), HB2⟩
        case measure => simp [intOf]; omega
      · have e1 : (r3 == 1) = false := beq_eq_false_iff_ne.2 h1
        by_cases h2 : r3 = 2
        · subst h2
          obtain rfl : true = x := hx
          clear h1
          go_wp2_with (at_builtin; refine append_b rfl _ _ rfl w.heap.size _ ((l.take k).map free) rfl HOA.out ⟨wr.heap.size, 0, none⟩ true rfl HCE.out (by have := HLE.out; omega) (by have := HSZ.out; simp; omega) ?_; intro v' w1 hown' hgrow)
          have HO2 := Lib.hid hown'
          have HB2 := Lib.hid (show Bel w w1 from Kk.Bel.grown HB.out hgrow (fun k hk => (HOA.out.lt k hk).1))
          clear hown' hgrow HOA HB HCE
          go_wp2_with fail
          go_roundw
          case rel => exact ⟨k + 1, by omega, by go_num, Lib.hid (by rw [HNX.out]; exact HO2.out), HB2⟩
          case measure => simp [intOf]; omega
        · have e2 : (r3 == 2) = false := beq_eq_false_iff_ne.2 h2
          obtain rfl : x = false := by rw [← hx, free_def, decide_eq_false h1, decide_eq_false h2]; rfl
          clear hx h1 h2
          go_wp2_with (at_builtin; refine append_b rfl _ _ rfl w.heap.size _ ((l.take k).map free) rfl HOA.out ⟨wr.heap.size, 0, none⟩ false rfl HCE.out (by have := HLE.out; omega) (by have := HSZ.out; simp; omega) ?_; intro v' w1 hown' hgrow)
          have HO2 := Lib.hid hown'
          have HB2 := Lib.hid (show Bel w w1 from Kk.Bel.grown HB.out hgrow (fun k hk => (HOA.out.lt k hk).1))
          clear hown' hgrow HOA HB HCE
          go_wp2_with fail
          go_roundw
          case rel => exact ⟨k + 1, by omega, by go_num, Lib.hid (by rw [HNX.out]; exact HO2.out), HB2⟩
          case measure => simp [intOf]; omega
    · obtain rfl : k = n := by omega
      have HL := Lib.hid (show l.take k = l from List.take_of_length_le (by rw [HR.out.len]; exact Nat.le_refl _))
      rw [HL.out] at ho
      go_wp2_with fail
      go_ret
      exact ⟨_, rfl, ho.out, hh.out⟩
set_option maxRecDepth 100000 in
set_option maxHeartbeats 2000000 in
theorem actsR (A : Option Addr) (n c : Nat) (l : List V6) (w : World) (hi : Rw.RS vR w A n c l) (hn : n ≤ 1000000000) :
    Calls Try.prog 23 #[.slice A n c] w fun e w' => ∃ v, e = .returned v ∧ OwnB w' w.heap.size v (l.map acts) ∧ Bel w w' := by
  have HR := Lib.hid hi
  clear hi
  go_enter Try.func23, Try.ntmps23
  go_wp2_with fail
  go_loopw [3, 4] (fun s3 s4 wr => ∃ k : Nat, k ≤ n ∧ s4 = .int .i64 k ∧ Hid (OwnB wr w.heap.size s3 ((l.take k).map acts)) ∧ Hid (Bel w wr)) (fun _ s4 _ => n - (intOf s4).toNat)
  case atStart => exact ⟨0, Nat.zero_le _, rfl, Lib.hid (Rw.OwnR.nil_ _ _ _ _), Lib.hid (Bel.refl _)⟩
  case round =>
    obtain ⟨k, hk, rfl, ho, hh⟩ := hrel
    by_cases hlt : k < n
    · obtain ⟨⟨r1, r2, r3, r4, r5, r6⟩, hr⟩ := HR.out.get hlt
      obtain ⟨b, q, rfl, hb, hrow⟩ := (HR.out.bel hh.out).at hlt hr
      have HNX := Lib.hid (map_next acts hr)
      have HLE := Lib.hid (show ((l.take k).map acts).length ≤ k by rw [List.length_map, List.length_take]; omega)
      have HSZ := Lib.hid (Below.size hh.out)
      have hlt3 : (k : Int) < n := by omega
      have hlt0 : (0 : Int) ≤ k := by omega
      obtain ⟨c0, c1, c2, c3, c4, c5⟩ := rng6 (show wr.rangeAt b (q + k * 6) [.int .i64 r1, .int .u64 r2, .int .i64 r3, .int .i64 r4, .bool r5, .bool r6] from hrow)
      clear hr hrow
      obtain ⟨x, hx⟩ : ∃ x, acts (r1, r2, r3, r4, r5, r6) = x := ⟨_, rfl⟩
      rw [hx] at HNX
      have HCE := Lib.hid ((Blk.new wr #[.bool x] 4).cell 0 rfl)
      have HOA := Lib.hid (show OwnB _ w.heap.size _ _ from ho.out.bel ((Bel.refl wr).alloc (.cells #[.bool x] 4)))
      have HB := Lib.hid (hh.out.alloc (.cells #[.bool x] 4))
      clear ho
      by_cases h2 : r3 = 2
      · subst h2
        obtain rfl : true = x := hx
        go_wp2_with (at_builtin; refine append_b rfl _ _ rfl w.heap.size _ ((l.take k).map acts) rfl HOA.out ⟨wr.heap.size, 0, none⟩ true rfl HCE.out (by have := HLE.out; omega) (by have := HSZ.out; simp; omega) ?_; intro v' w1 hown' hgrow)
        have HO2 := Lib.hid hown'
        have HB2 := Lib.hid (show Bel w w1 from Kk.Bel.grown HB.out hgrow (fun k hk => (HOA.out.lt k hk).1))
        clear hown' hgrow HOA HB HCE
        go_wp2_with fail
        go_roundw
        case rel => exact ⟨k + 1, by omega, by go_num, Lib.hid (by rw [HNX.out]; exact HO2.out), HB2⟩
        case measure => simp [intOf]; omega
      · have e2 : (r3 == 2) = false := beq_eq_false_iff_ne.2 h2
        obtain rfl : x = false := by rw [← hx]; exact decide_eq_false h2
        clear hx h2
        go_wp2_with (at_builtin; refine append_b rfl _ _ rfl w.heap.size _ ((l.take k).map acts) rfl HOA.out ⟨wr.heap.size, 0, none⟩ false rfl HCE.out (by have := HLE.out; omega) (by have := HSZ.out; simp; omega) ?_; intro v' w1 hown' hgrow)
        have HO2 := Lib.hid hown'
        have HB2 := Lib.hid (show Bel w w1 from Kk.Bel.grown HB.out hgrow (fun k hk => (HOA.out.lt k hk).1))
        clear hown' hgrow HOA HB HCE
        go_wp2_with fail
        go_roundw
        case rel => exact ⟨k + 1, by omega, by go_num, Lib.hid (by rw [HNX.out]; exact HO2.out), HB2⟩
        case measure => simp [intOf]; omega
    · obtain rfl : k = n := by omega
      have HL := Lib.hid (show l.take k = l from List.take_of_length_le (by rw [HR.out.len]; exact Nat.le_refl _))
      rw [HL.out] at ho
      go_wp2_with fail
      go_ret
      exact ⟨_, rfl, ho.out, hh.out⟩
/-- A status's name. -/
def nmS (s : Int) : ByteArray := if s = 1 then ⟨#[105, 100, 108, 101]⟩ else if s = 2 then ⟨#[97, 99, 116, 105, 118, 101]⟩ else if s = 3 then ⟨#[106, 97, 105, 108, 101, 100]⟩ else if s = 4 then ⟨#[116, 111, 109, 98]⟩ else ⟨#[110, 111, 110, 101]⟩
set_option maxHeartbeats 1000000 in
theorem name_ (s : Int) (w : World) : Calls Try.prog 26 #[.int .i64 s] w fun e w' => e = .returned (.string (nmS s)) ∧ w = w' := by
  unfold nmS
  by_cases h1 : s = 1
  · subst h1
    go_enter Try.func26, Try.ntmps26
    go_wp2_with fail
    go_ret
    exact ⟨rfl, rfl⟩
  have e1 : (s == 1) = false := beq_eq_false_iff_ne.2 h1
  by_cases h2 : s = 2
  · subst h2
    go_enter Try.func26, Try.ntmps26
    go_wp2_with fail
    go_ret
    exact ⟨rfl, rfl⟩
  have e2 : (s == 2) = false := beq_eq_false_iff_ne.2 h2
  by_cases h3 : s = 3
  · subst h3
    go_enter Try.func26, Try.ntmps26
    go_wp2_with fail
    go_ret
    exact ⟨rfl, rfl⟩
  have e3 : (s == 3) = false := beq_eq_false_iff_ne.2 h3
  by_cases h4 : s = 4
  · subst h4
    go_enter Try.func26, Try.ntmps26
    go_wp2_with fail
    go_ret
    exact ⟨rfl, rfl⟩
  have e4 : (s == 4) = false := beq_eq_false_iff_ne.2 h4
  rw [if_neg h1, if_neg h2, if_neg h3, if_neg h4]
  clear h1 h2 h3 h4
  go_enter Try.func26, Try.ntmps26
  go_wp2_with fail
  go_ret
  exact ⟨rfl, rfl⟩
set_option maxHeartbeats 1000000 in
theorem nameR (s : Int) (w : World) : Calls Try.prog 27 #[.int .i64 s] w fun e w' => e = .returned (.string (nmS s)) ∧ w = w' := by
  unfold nmS
  by_cases h1 : s = 1
  · subst h1
    go_enter Try.func27, Try.ntmps27
    go_wp2_with fail
    go_ret
    exact ⟨rfl, rfl⟩
  have e1 : (s == 1) = false := beq_eq_false_iff_ne.2 h1
  by_cases h2 : s = 2
  · subst h2
    go_enter Try.func27, Try.ntmps27
    go_wp2_with fail
    go_ret
    exact ⟨rfl, rfl⟩
  have e2 : (s == 2) = false := beq_eq_false_iff_ne.2 h2
  by_cases h3 : s = 3
  · subst h3
    go_enter Try.func27, Try.ntmps27
    go_wp2_with fail
    go_ret
    exact ⟨rfl, rfl⟩
  have e3 : (s == 3) = false := beq_eq_false_iff_ne.2 h3
  by_cases h4 : s = 4
  · subst h4
    go_enter Try.func27, Try.ntmps27
    go_wp2_with fail
    go_ret
    exact ⟨rfl, rfl⟩
  have e4 : (s == 4) = false := beq_eq_false_iff_ne.2 h4
  rw [if_neg h1, if_neg h2, if_neg h3, if_neg h4]
  clear h1 h2 h3 h4
  go_enter Try.func27, Try.ntmps27
  go_wp2_with fail
  go_ret
  exact ⟨rfl, rfl⟩
end Ro
end Go.Proofs.Ytpfdakkameifkaa
end

section
/-
  An append to a slice without room behind it (l[:n:n]): new memory, whatever the slice lies in. Conditions: at most two billion rows.
-/
namespace Go.Proofs.Ytpfdakkameifkaa
open Go.RowKit Go.Shelf
set_option linter.unusedVariables false
namespace Rw
open Kk Pm
variable {α : Type}
theorem run_append_full (K : Row α) {P : Program} {w : World} (t ty e : TypeId) (hu : P.underlying t = some (.slice e)) {zs : Array Value} {bytes : Nat} (hz : (P.info? e).map (fun i => (i.zero, i.size, i.bytes)) = some (some (.agg zs), K.z, bytes)) (hzs : zs.size = K.z) (hby : bytes ≤ 1000)
    {A : Option Addr} {n : Nat} {l : List α} (hs : RS K w A n n l) {B : Addr} {m c : Nat} {l2 : List α} (hx : RS K w (some B) m c l2) (hm0 : 0 < m) (hm : n + m ≤ 2000000000) :
    ∃ cap W, (Builtin.append_ #[t, t] ty #[.slice A n n, .slice (some B) m c]).run P w = .ok (.slice (some ⟨w.heap.size, 0, none⟩) (n + m) cap) W ∧ RB K e W w.heap.size (l ++ l2) cap ∧ OwnR K e W w.heap.size (.slice (some ⟨w.heap.size, 0, none⟩) (n + m) cap) (l ++ l2) ∧ Bel w W := by
  obtain ⟨i0, h1, hz0, hz1, hz2⟩ := info_parts hz
  have hk : (n + m) * bytes ≤ 2000000000 * 1000 := Nat.mul_le_mul hm hby
  have hll : (flat K l).length = n * i0.size := by rw [flat_len K, hs.len, hz1]
  have hl2 : (flat K l2).length = m * i0.size := by rw [flat_len K, hx.len, hz1]
  have new : ∀ old, old < n + m → ∃ cap W, cap = grownCap w (n + m) old e ∧ W = w.drew.alloc (.cells ((flat K l).toArray ++ (flat K l2).toArray ++ Builtin.zeroCells (Value.agg zs).cells (grownCap w (n + m) old e - (n + m))) e) ∧
      RB K e W w.heap.size (l ++ l2) cap ∧ OwnR K e W w.heap.size (.slice (some ⟨w.heap.size, 0, none⟩) (n + m) cap) (l ++ l2) ∧ Bel w W := by
    intro old ho
    have hge := grownCap_ge w (n + m) old e
    have hcm : grownCap w (n + m) old e ≤ maxLen := grownCap_le_maxLen w (n + m) old e (by unfold maxLen; omega)
    have hsz : ((flat K l).toArray ++ (flat K l2).toArray ++ Builtin.zeroCells (Value.agg zs).cells (grownCap w (n + m) old e - (n + m))).size = grownCap w (n + m) old e * K.z := by
      simp only [Array.size_append, List.size_toArray, size_zeroCells, hll, hl2, hz1]
      show n * K.z + m * K.z + _ * zs.size = _
      rw [hzs, ← Nat.add_mul, ← Nat.add_mul]
      congr 1
      omega
    have htk : ((flat K l).toArray ++ (flat K l2).toArray ++ Builtin.zeroCells (Value.agg zs).cells (grownCap w (n + m) old e - (n + m))).toList.take ((n + m) * K.z) = flat K (l ++ l2) := by
      have hlen : (flat K (l ++ l2)).length = (n + m) * K.z := by rw [flat_len K, List.length_append, hs.len, hx.len]
      rw [Array.toList_append, Array.toList_append, ← hlen, flat_app]
      exact List.take_left
    have hlen2 : (l ++ l2).length = n + m := by rw [List.length_append, hs.len, hx.len]
    refine ⟨_, _, rfl, rfl, ⟨⟨_, heap_alloc_new w.drew _, by rw [hlen2]; exact htk, hsz⟩, by rw [hlen2]; exact hge⟩, ?_, ((Bel.refl w).drew).alloc _⟩
    refine ⟨?_, .inr ⟨w.heap.size, _, _, ?_, Nat.le_refl _, heap_alloc_new w.drew _, ?_, hcm, hsz, ?_⟩⟩
    · rw [flat_len K]
    · rw [hlen2]
    · rw [hlen2]; exact hge
    · rw [hlen2]; exact htk
  cases A with
  | none =>
    obtain rfl : n = 0 := by have := hs.nil rfl; omega
    have hl : l = [] := List.length_eq_zero_iff.1 hs.len
    subst hl
    obtain ⟨cap, W, rfl, rfl, h3, h4, h5⟩ := new 0 (by omega)
    have hr := run_append_nil (P := P) w t ty e i0 (.agg zs) hu h1 hz0 B m c (flat K l2) hl2 (rs_news K hx) hm0 (by omega) (by rw [hz2]; have := hk; rw [Nat.zero_add] at this; omega)
    refine ⟨_, _, ?_, h3, h4, h5⟩
    rw [hr]
    simp [flat]
  | some b =>
    obtain ⟨cap, W, rfl, rfl, h3, h4, h5⟩ := new n (by omega)
    exact ⟨_, _, run_append_grow (P := P) w t ty e i0 (.agg zs) hu h1 hz0 b n n (flat K l) hll (rs_news K hs) B m c (flat K l2) hl2 (rs_news K hx) (by omega) (by omega) (growslice_fits (by omega) (by rw [hz2]; omega)), h3, h4, h5⟩
theorem wpList_append_full (K : Row α) {P : Program} {w : World} {ops : Array Oper} {rest : List Oper} {o : Oper} {a : Act} {Q : Exit → Act → World → Prop} (hgd : o.guard = none) (s x : Operand) (t e : TypeId)
    (ho : o.op = .call { callee := .builtin .append, args := #[s, x], argTypes := #[t, t] }) (hu : P.underlying t = some (.slice e)) {zs : Array Value} {bytes : Nat} (hz : (P.info? e).map (fun i => (i.zero, i.size, i.bytes)) = some (some (.agg zs), K.z, bytes)) (hzs : zs.size = K.z) (hby : bytes ≤ 1000)
    {A : Option Addr} {n : Nat} {l : List α} (hs : a.eval s = .slice A n n) (hS : RS K w A n n l) {B : Addr} {m c : Nat} {l2 : List α} (hx : a.eval x = .slice (some B) m c) (hX : RS K w (some B) m c l2) (hm0 : 0 < m) (hm : n + m ≤ 2000000000)
    (h : ∀ cap W, RB K e W w.heap.size (l ++ l2) cap → OwnR K e W w.heap.size (.slice (some ⟨w.heap.size, 0, none⟩) (n + m) cap) (l ++ l2) → Bel w W → wpList P ops Q rest (a.put o.dst (.slice (some ⟨w.heap.size, 0, none⟩) (n + m) cap)) W) : wpList P ops Q (o :: rest) a w :=
  wpList_plain hgd fun K' hK' => by
    obtain ⟨cap, W, hr, h2, h3, h4⟩ := run_append_full K t o.type e hu hz hzs hby hS hX hm0 hm
    unfold Oper.wp execOp
    simp only [ho, resolve, invoke, builtin, Sem.run_bind, Sem.run_pure, Result.andThen_ok, List.map_toArray, List.map_cons, List.map_nil, hs, hx, hr]
    exact hK' _ _ (h cap W h2 h3 h4)
theorem step_append_run {P : Program} {ops : Array Oper} {o : Oper} {a : Act} {w : World} {K : Act → World → Prop} {Q : Exit → Act → World → Prop} {E : Prop}
    (hg : o.guard = none) (d x : Operand) (dT sT : TypeId) (hop : o.op = Op.call { callee := Callee.builtin Builtin.append, args := #[d, x], argTypes := #[dT, sT] })
    (v u : Value) (hd : a.eval d = v) (hx : a.eval x = u) {v' : Value} {w' : World} (hr : (Builtin.append_ #[dT, sT] o.type #[v, u]).run P w = .ok v' w') (hK : K (a.put o.dst v') w') :
    if Region.wanted o (yielded ops a.tmps) = true then Oper.wp P o a w K Q else E := by
  have hw : Region.wanted o (yielded ops a.tmps) = true := by simp [Region.wanted, hg]
  rw [if_pos hw]
  unfold Oper.wp
  simp [execOp, hop, resolve, invoke, builtin, hd, hx, hr, Result.andThen]
  exact hK
/-- An append to a list of one's own: the run. -/
theorem run_append_R (K : Row α) {P : Program} {w : World} (t ty e : TypeId) (hu : P.underlying t = some (.slice e)) {zs : Array Value} {bytes : Nat} (hz : (P.info? e).map (fun i => (i.zero, i.size, i.bytes)) = some (some (.agg zs), K.z, bytes)) (hzs : zs.size = K.z) (hby : bytes ≤ 1000)
    {base : Nat} {v : Value} {l : List α} (hown : OwnR K e w base v l) {B : Addr} {m c : Nat} {l2 : List α} (hx : RS K w (some B) m c l2) (hm0 : 0 < m) (hm : l.length + m ≤ 2000000000) (hb : base ≤ w.heap.size) :
    ∃ v' W, (Builtin.append_ #[t, t] ty #[v, .slice (some B) m c]).run P w = .ok v' W ∧ OwnR K e W base v' (l ++ l2) ∧ w.grownBy W v.ownBlock := by
  obtain ⟨i0, h1, hz0, hz1, hz2⟩ := info_parts hz
  have hk : (l.length + m) * bytes ≤ 2000000000 * 1000 := Nat.mul_le_mul hm hby
  obtain ⟨v', W, hr, h2, h3, _⟩ := run_append_own (P := P) w base t ty e i0 (.agg zs) K.z bytes hu h1 hz0 hz1 hz2 hzs K.pos v l.length (flat K l) hown B m c (flat K l2) (by rw [flat_len K, hx.len]) (rs_news K hx) (flat_one K l2) (by unfold maxLen; omega) (by omega) hb
  refine ⟨v', W, hr, ?_, h3⟩
  unfold OwnR
  rw [flat_app, List.length_append, hx.len]
  exact h2
/-- As append_R, told where the new row lies. -/
theorem wpList_append_lies (K : Row α) {P : Program} {w : World} {ops : Array Oper} {rest : List Oper} {o : Oper} {a : Act} {Q : Exit → Act → World → Prop} (hgd : o.guard = none) (s x : Operand) (ty t : TypeId)
    (ho : o.op = .call { callee := .builtin .append, args := #[s, x], argTypes := #[ty, ty] }) (hu : P.underlying ty = some (.slice t)) {zs : Array Value} {bytes : Nat} (hz : (P.info? t).map (fun i => (i.zero, i.size, i.bytes)) = some (some (.agg zs), K.z, bytes)) (hzs : zs.size = K.z) (hby : bytes ≤ 1000)
    (base : Nat) (v : Value) (l : List α) (hs : a.eval s = v) (hown : OwnR K t w base v l) (A : Option Addr) (m c : Nat) (l2 : List α) (hx : a.eval x = .slice A m c) (hi : RS K w A m c l2)
    (hm0 : 0 < m) (hm : l.length + m ≤ 2000000000) (hb : base ≤ w.heap.size)
    (h : ∀ g cap w', OwnR K t w' base (.slice (some ⟨g, 0, none⟩) (l.length + m) cap) (l ++ l2) → w.grownBy w' v.ownBlock → (v.ownBlock = some g ∨ g = w.heap.size) → g < w'.heap.size → wpList P ops Q rest (a.put o.dst (.slice (some ⟨g, 0, none⟩) (l.length + m) cap)) w') : wpList P ops Q (o :: rest) a w := by
  obtain ⟨i0, h1, hz0, hz1, hz2⟩ := info_parts hz
  obtain ⟨b, off, rfl, _⟩ := hi.row hm0
  have hk : (l.length + m) * bytes ≤ 2000000000 * 1000 := Nat.mul_le_mul hm hby
  refine Go.wpList_append_lies (w := w) hgd s x ty ho base t i0 (.agg zs) K.z bytes hu h1 hz0 hz1 hz2 hzs K.pos v l.length (flat K l) hs hown ⟨b, off, none⟩ m c (flat K l2) hx (by rw [flat_len K, hi.len]) (rs_news K hi) (flat_one K l2) hm0 (by unfold maxLen; omega) (by omega) hb w.heap.size rfl ?_
  intro g cap w' h2 h3 h4 h5
  refine h g cap w' ?_ h3 h4 h5
  unfold OwnR
  rw [flat_app, List.length_append, hi.len]
  exact h2
end Rw
end Go.Proofs.Ytpfdakkameifkaa
end

section
/-
  What slices.Clone of validators and roster.Create answer of any list. Conditions: at most a million validators; operators are ints.
-/
namespace Go.Proofs.Ytpfdakkameifkaa
open Go.RowKit Go.Shelf
set_option linter.unusedVariables false
set_option linter.unusedSimpArgs false
namespace Ro
open Kk Pm

theorem clone (A : Option Addr) (n c : Nat) (l : List V6) (w : World) (hi : Rw.RS vR w A n c l) (hn : n ≤ 1000000000) :
    Calls Try.prog 62 #[.slice A n c] w fun e w' => ∃ v, e = .returned v ∧ OwnV w' w.heap.size v l ∧ Bel w w' := by
  have qT : ∀ (w : World) (a : Option Addr) (n c n' c' : Nat), (binOp .eql 22 (.slice a n c) (.slice none n' c')).run Try.prog w = .ok (.bool a.isNone) w := fun w a n c n' c' => Lib.run_eql_slice_nil w _ _ a n c n' c' Try.underlying22
  cases A with
  | none =>
    obtain rfl : c = 0 := hi.nil rfl
    obtain rfl : n = 0 := by have := hi.cap; omega
    have hz : l = [] := List.length_eq_zero_iff.1 hi.len
    subst hz
    clear hi
    go_enter Try.func62, Try.ntmps62
    go_wp2
    go_ret
    exact ⟨_, rfl, Rw.OwnR.nil_ _ _ _ _, Bel.refl _⟩
  | some ad =>
    have HS := Lib.hid (hi.bel ((Bel.refl w).alloc (.cells #[] 66)))
    have HE := Lib.hid (Rw.own_empty vR 66 w)
    clear hi
    go_enter Try.func62, Try.ntmps62
    go_wp2_with (at_builtin; refine Rw.append_R vR rfl _ _ _ 66 rfl underV zero_v rfl (by decide) w.heap.size _ [] rfl HE.out (some ad) n c l rfl HS.out (by simp; omega) (by simp) ?_; intro v' w1 hown' hgrow)
    have HO := Lib.hid hown'
    have hb : Bel w w1 := Kk.Bel.grown ((Bel.refl w).alloc _) hgrow (fun k hk => (HE.out.lt k hk).1)
    clear hown' hgrow
    go_wp2
    go_ret
    exact ⟨_, rfl, HO.out, hb⟩
theorem sliced_zero (A : Option Addr) (n s : Nat) : sliced A 0 n n s = .slice A n n := by
  unfold sliced
  by_cases h : n = 0
  · subst h; simp
  · rw [if_neg h]
    cases A with
    | none => simp
    | some a => simp [Addr.add]
theorem elemV : Try.prog.elem 22 = 66 := by kernel_rfl
theorem sizeV (w : World) : (sizeOf 66).run Try.prog w = .ok 6 w := by kernel_rfl
theorem slice_full (A : Option Addr) (n c : Nat) (hc : n ≤ c) (w : World) : (Instr.slice 22 (.slice A n c) none (some (.int .i64 (n : Int))) (some (.int .i64 (n : Int)))).run Try.prog w = .ok (.slice A n n) w := by
  rw [run_slice_hm (P := Try.prog) (w := w) (t := 22) (a := A) (len := n) (cap := c) (by rw [elemV]; exact underV) .i64 .i64 n n (by omega) (by omega) (by omega), elemV]
  simp [sizeV, Result.andThen, sliced_zero]
/-- What Create tells. -/
def CrR (w w' : World) (l : List V6) (o m : Int) (e : Ending) : Prop :=
  ∃ v, e = .returned (.tuple #[v, .int .i64 (crN l o m : Nat), .int .i64 (crE l o m)]) ∧ OwnV w' w.heap.size v (crL l o m) ∧ Bel w w'
theorem crR_no {w w' : World} {l : List V6} {o m x : Int} (hb : Bel w w') (he : crE l o m = x) (hx : x ≠ 0) : CrR w w' l o m (.returned (.tuple #[.slice none 0 0, .int .i64 0, .int .i64 x])) := by
  refine ⟨.slice none 0 0, ?_, ?_, hb⟩
  · rw [he]; unfold crN; rw [if_neg (by rw [he]; exact hx)]; rfl
  · unfold crL; rw [if_neg (by rw [he]; exact hx)]; exact Rw.OwnR.nil_ _ _ _ _
theorem crE_0 {l : List V6} {o m : Int} (h : (chk l).1 ≠ 0) : crE l o m = (chk l).1 := if_pos h
theorem crE_3 {l : List V6} {o m : Int} (h : (chk l).1 = 0) (h1 : ¬ (0 ≤ o ∧ o < 64)) : crE l o m = 3 := by unfold crE; rw [if_neg (by omega), if_pos h1]
theorem crE_2 {l : List V6} {o m : Int} (h : (chk l).1 = 0) (h1 : 0 ≤ o ∧ o < 64) (h2 : m = 0) : crE l o m = 2 := by unfold crE; rw [if_neg (by omega), if_neg (by omega), if_pos h2]
theorem crE_8 {l : List V6} {o m : Int} (h : (chk l).1 = 0) (h1 : 0 ≤ o ∧ o < 64) (h2 : m ≠ 0) (h3 : has l o = true) : crE l o m = 8 := by unfold crE; rw [if_neg (by omega), if_neg (by omega), if_neg h2, if_pos h3]
theorem crE_7 {l : List V6} {o m : Int} (h : (chk l).1 = 0) (h1 : 0 ≤ o ∧ o < 64) (h2 : m ≠ 0) (h3 : has l o = false) (h4 : l.length = 32) : crE l o m = 7 := by unfold crE; rw [if_neg (by omega), if_neg (by omega), if_neg h2, if_neg (by rw [h3]; decide), if_pos h4]
theorem crE_ok {l : List V6} {o m : Int} (h : (chk l).1 = 0) (h1 : 0 ≤ o ∧ o < 64) (h2 : m ≠ 0) (h3 : has l o = false) (h4 : l.length ≠ 32) : crE l o m = 0 := by unfold crE; rw [if_neg (by omega), if_neg (by omega), if_neg h2, if_neg (by rw [h3]; decide), if_neg h4]
set_option maxRecDepth 100000 in
set_option maxHeartbeats 4000000 in
theorem create (A : Option Addr) (n c : Nat) (l : List V6) (o m : Int) (w : World) (hi : Rw.RS vR w A n c l) (hn : n ≤ 1000000) (hO : ∀ r ∈ l, I64 (op r)) (ho : I64 o) :
    Calls Try.prog 11 #[.slice A n c, .int .i64 o, .int .u64 m] w fun e w' => CrR w w' l o m e := by
  have HI := Lib.hid hi
  have HLN := Lib.hid hi.len
  have CK := Lib.hid (check A n c l w hi (by omega) hO)
  have FD := Lib.hid (fun V (hv : Bel w V) => find A n c l o V (hi.bel hv) (by omega) hO ho)
  obtain ⟨e1, he1⟩ : ∃ e, (chk l).1 = e := ⟨_, rfl⟩
  obtain ⟨e2, he2⟩ : ∃ e, (chk l).2 = e := ⟨_, rfl⟩
  have HE1 := Lib.hid he1
  rw [he1, he2] at CK
  obtain ⟨j, hj⟩ : ∃ j, (fnd l o).getD 0 = j := ⟨_, rfl⟩
  obtain ⟨y, hy⟩ : ∃ y, (fnd l o).isSome = y := ⟨_, rfl⟩
  have HY := Lib.hid (show has l o = y from hy)
  rw [hj, hy] at FD
  clear hi he1 he2 hj hy hO
  go_enter Try.func11, Try.ntmps11
  go_wp2_with fail
  refine CK.out.mono ?_
  rintro e w1 ⟨rfl, kb⟩
  have K1 := Lib.hid kb
  clear kb CK
  by_cases h0 : e1 = 0
  case neg =>
    have hne : (e1 != 0) = true := by rw [bne_iff_ne]; exact h0
    have HE := Lib.hid (crE_0 (l := l) (o := o) (m := m) (by rw [HE1.out]; exact h0))
    go_wp2_with fail
    go_ret3
    exact crR_no K1.out (HE.out.trans HE1.out) h0
  subst h0
  go_wp2_with fail
  refine (FD.out _ K1.out).mono ?_
  rintro e w2 ⟨rfl, kb⟩
  have K2 := Lib.hid (K1.out.trans kb)
  clear kb FD
  by_cases h1 : 0 ≤ o ∧ o < 64
  case neg =>
    have HE := Lib.hid (crE_3 (m := m) HE1.out h1)
    have i1 := isAccount o w2
    rw [decide_eq_false h1] at i1
    go_wp2_with fail
    refine i1.mono ?_
    rintro e wz ⟨rfl, rfl⟩
    go_wp2_with fail
    go_ret3
    exact crR_no K2.out HE.out (by decide)
  have i1 := isAccount o w2
  rw [decide_eq_true h1] at i1
  go_wp2_with fail
  refine i1.mono ?_
  rintro e wz ⟨rfl, rfl⟩
  clear i1
  by_cases h2 : m = 0
  · have HE := Lib.hid (crE_2 HE1.out h1 h2)
    have em : (m == 0) = true := by rw [beq_iff_eq]; exact h2
    clear h1 h2
    go_wp2_with fail
    go_ret3
    exact crR_no K2.out HE.out (by decide)
  have em : (m == 0) = false := beq_eq_false_iff_ne.2 h2
  cases y with
  | true =>
    have HE := Lib.hid (crE_8 HE1.out h1 h2 HY.out)
    clear h1 h2
    go_wp2_with fail
    go_ret3
    exact crR_no K2.out HE.out (by decide)
  | false =>
    by_cases h3 : n = 32
    · have HE := Lib.hid (crE_7 HE1.out h1 h2 HY.out (HLN.out.trans h3))
      have hl3 : ((n : Int) == 32) = true := by rw [h3]; rfl
      clear h1 h2 h3
      go_wp2_with fail
      go_ret3
      exact crR_no K2.out HE.out (by decide)
    · have HE := Lib.hid (crE_ok HE1.out h1 h2 HY.out (by rw [HLN.out]; exact h3))
      have hl3 : ((n : Int) == 32) = false := by simp; omega
      have hsl := fun V => slice_full A n c HI.out.cap V
      clear h1 h2 h3
      go_upto_region 14 with fail
      have P0 := Lib.hid (Blk.new w2 #[.int .i64 o, .int .u64 m, .int .i64 1, .int .i64 0, .bool false, .bool false] 66)
      obtain ⟨w4, hw4⟩ : ∃ V, w2.alloc (.cells #[.int .i64 o, .int .u64 m, .int .i64 1, .int .i64 0, .bool false, .bool false] 66) = V := ⟨_, rfl⟩
      have K4 := Lib.hid (show Bel w w4 by rw [← hw4]; exact K2.out.alloc _)
      rw [hw4] at P0 ⊢
      obtain ⟨g, hg⟩ : ∃ g, w2.heap.size = g := ⟨_, rfl⟩
      rw [hg] at P0 ⊢
      clear hw4 hg
      refine wp_region_held_drew (S := fun Vx => Bel w4 Vx) (by kernel_rfl) (Bel.refl _).drew (fun hS0 => ?_)
      have HS6 := Lib.hid hS0
      obtain ⟨w6, hw6⟩ : ∃ w6, World.drew w4 = w6 := ⟨_, rfl⟩
      rw [hw6] at hS0 HS6 ⊢
      clear hw6
      have HX := Lib.hid (Rw.rs_one vR (r := newV o m) (Blk.new w6 #[.int .i64 o, .int .u64 m, .int .i64 1, .int .i64 0, .bool false, .bool false] 66))
      have HS7 := Lib.hid ((HI.out.cut (c' := n) (Nat.le_refl _) (fun h => by have := HI.out.nil h; have := HI.out.cap; omega)).bel ((K4.out.trans HS6.out).alloc (.cells #[.int .i64 o, .int .u64 m, .int .i64 1, .int .i64 0, .bool false, .bool false] 66)))
      obtain ⟨cap, W9, hAP, hRB, hOW, hB9⟩ := Rw.run_append_full vR 22 22 66 underV zero_v rfl (by decide) HS7.out HX.out (by omega) (by omega)
      obtain ⟨W7, hW7⟩ : ∃ W7, w6.alloc (.cells #[.int .i64 o, .int .u64 m, .int .i64 1, .int .i64 0, .bool false, .bool false] 66) = W7 := ⟨_, rfl⟩
      have H7 := Lib.hid (show Bel w4 W7 by rw [← hW7]; exact HS6.out.alloc _)
      have H67 := Lib.hid hW7
      rw [hW7] at hAP hOW hB9
      have HAP := Lib.hid hAP
      have HOW := Lib.hid hOW
      have HB9 := Lib.hid hB9
      clear hAP hRB hOW hB9 hW7 HX HS7
      refine wpAnyH_take (i := 0) (oi := { dst := some 44, op := .move (.tmp 0), type := 22, pos := "change.go:27", after := #[], guard := none }) (v := .slice A n c) rfl (by kernel_rfl) (by kernel_rfl) (by kernel_rfl) (fun _ _ _ h => h) (Or.inl ⟨by rfl, by intro w hSw; clear hSw; go_simp⟩) hS0 ?_
      try simp only [Act.put, List.setIfInBounds_toArray, List.set_cons_zero, List.set_cons_succ]
      refine wpAnyH_take (i := 1) (oi := { dst := some 45, op := .move (.tmp 0), type := 22, pos := "change.go:27", after := #[], guard := none }) (v := .slice A n c) rfl (by kernel_rfl) (by kernel_rfl) (by kernel_rfl) (fun _ _ _ h => h) (Or.inl ⟨by rfl, by intro w hSw; clear hSw; go_simp⟩) hS0 ?_
      try simp only [Act.put, List.setIfInBounds_toArray, List.set_cons_zero, List.set_cons_succ]
      refine wpAnyH_take (i := 2) (oi := { dst := some 46, op := .call { callee := .builtin .len, args := #[.tmp 45], argTypes := #[22] }, type := 3, pos := "change.go:27", after := #[{ on := 1, ground := .data }], guard := none }) (v := .int .i64 n) rfl (by kernel_rfl) (by kernel_rfl) (by kernel_rfl) (fun _ _ _ h => h) (Or.inl ⟨by rfl, by intro w hSw; clear hSw; go_simp⟩) hS0 ?_
      try simp only [Act.put, List.setIfInBounds_toArray, List.set_cons_zero, List.set_cons_succ]
      refine wpAnyH_take (i := 3) (oi := { dst := some 47, op := .move (.tmp 0), type := 22, pos := "change.go:27", after := #[], guard := none }) (v := .slice A n c) rfl (by kernel_rfl) (by kernel_rfl) (by kernel_rfl) (fun _ _ _ h => h) (Or.inl ⟨by rfl, by intro w hSw; clear hSw; go_simp⟩) hS0 ?_
      try simp only [Act.put, List.setIfInBounds_toArray, List.set_cons_zero, List.set_cons_succ]
      refine wpAnyH_take (i := 4) (oi := { dst := some 48, op := .call { callee := .builtin .len, args := #[.tmp 47], argTypes := #[22] }, type := 3, pos := "change.go:27", after := #[{ on := 3, ground := .data }], guard := none }) (v := .int .i64 n) rfl (by kernel_rfl) (by kernel_rfl) (by kernel_rfl) (fun _ _ _ h => h) (Or.inl ⟨by rfl, by intro w hSw; clear hSw; go_simp⟩) hS0 ?_
      try simp only [Act.put, List.setIfInBounds_toArray, List.set_cons_zero, List.set_cons_succ]
      refine wpAnyH_take (i := 5) (oi := { dst := some 49, op := .slice 22 (.tmp 44) none (some (.tmp 46)) (some (.tmp 48)), type := 22, pos := "change.go:27", after := #[{ on := 0, ground := .data }, { on := 2, ground := .data }, { on := 4, ground := .data }], guard := none }) (v := .slice A n n) rfl (by kernel_rfl) (by kernel_rfl) (by kernel_rfl) (fun _ _ _ h => h) (Or.inl ⟨by rfl, by intro w hSw; clear hSw; go_simp⟩) hS0 ?_
      try simp only [Act.put, List.setIfInBounds_toArray, List.set_cons_zero, List.set_cons_succ]
      refine wpAnyH_take (i := 6) (oi := { dst := some 50, op := .load 66 (.tmp 13), type := 66, pos := "change.go:27", after := #[], guard := none }) (v := .agg #[.int .i64 o, .int .u64 m, .int .i64 1, .int .i64 0, .bool false, .bool false]) rfl (by kernel_rfl) (by kernel_rfl) (by kernel_rfl) (fun _ _ _ h => h) (yieldsIf_load_mid (by rfl) _ _ rfl _ _ rfl _ _ (fun w h => rng_bel (Pm.rngB (C := [.int .i64 o, .int .u64 m, .int .i64 1, .int .i64 0, .bool false, .bool false]) P0.out) h) Try.underlying66 rfl info_v) hS0 ?_
      try simp only [Act.put, List.setIfInBounds_toArray, List.set_cons_zero, List.set_cons_succ]
      refine wpAnyH_take (i := 9) (oi := { dst := some 53, op := .move (.tmp 0), type := 22, pos := "change.go:27", after := #[], guard := none }) (v := .slice A n c) rfl (by kernel_rfl) (by kernel_rfl) (by kernel_rfl) (fun _ _ _ h => h) (Or.inl ⟨by rfl, by intro w hSw; clear hSw; go_simp⟩) hS0 ?_
      try simp only [Act.put, List.setIfInBounds_toArray, List.set_cons_zero, List.set_cons_succ]
      refine wpAnyH_take (i := 10) (oi := { dst := some 54, op := .call { callee := .builtin .len, args := #[.tmp 53], argTypes := #[22] }, type := 3, pos := "change.go:27", after := #[{ on := 9, ground := .data }], guard := none }) (v := .int .i64 n) rfl (by kernel_rfl) (by kernel_rfl) (by kernel_rfl) (fun _ _ _ h => h) (Or.inl ⟨by rfl, by intro w hSw; clear hSw; go_simp⟩) hS0 ?_
      try simp only [Act.put, List.setIfInBounds_toArray, List.set_cons_zero, List.set_cons_succ]
      refine wpAnyH_ready (rs := [7]) (by kernel_rfl) (by simp) ?_
      refine AllReadyH.cons (o := { dst := some 51, op := .buildSlice 22 1 #[(0, .tmp 50)], type := 22, pos := "change.go:27", after := #[{ on := 6, ground := .data }], guard := none }) rfl (fun K hK => ?_) AllReadyH.nil
      go_simp
      refine hK.out _ _ (HS6.out.alloc _) (fun hS1 => ?_)
      clear hK K
      try simp only [Act.put, List.setIfInBounds_toArray, List.set_cons_zero, List.set_cons_succ]
      refine wpAnyH_ready (rs := [8]) (by kernel_rfl) (by simp) ?_
      refine AllReadyH.cons (o := { dst := some 52, op := .call { callee := .builtin .append, args := #[.tmp 49, .tmp 51], argTypes := #[22, 22] }, type := 22, pos := "change.go:27", after := #[{ on := 5, ground := .data }, { on := 7, ground := .data }], guard := none }) rfl (fun K hK => ?_) AllReadyH.nil
      rw [H67.out]
      refine Rw.step_append_run rfl (.tmp 49) (.tmp 51) 22 22 rfl _ _ (by simp [Act.eval, Act.put]) (by simp [Act.eval, Act.put]) HAP.out ?_
      refine hK.out _ _ (H7.out.trans HB9.out) (fun hS2 => ?_)
      clear hK K
      try simp only [Act.put, List.setIfInBounds_toArray, List.set_cons_zero, List.set_cons_succ]
      refine wpAnyH_take (i := 11) (oi := { dst := some 6, op := .assign (.tmp 52), type := 22, pos := "change.go:27", after := #[{ on := 8, ground := .data }, { on := 8, ground := .chain }, { on := 0, ground := .phase }, { on := 1, ground := .phase }, { on := 2, ground := .phase }, { on := 3, ground := .phase }, { on := 4, ground := .phase }, { on := 5, ground := .phase }, { on := 6, ground := .phase }, { on := 7, ground := .phase }, { on := 8, ground := .phase }, { on := 9, ground := .textOnly .lateStores }, { on := 10, ground := .textOnly .lateStoresUnsure }], guard := none }) (v := .slice (some ⟨(World.heap W7).size, 0, none⟩) (n + 1) cap) rfl (by kernel_rfl) (by kernel_rfl) (by kernel_rfl) (fun _ _ _ h => h) (Or.inl ⟨by rfl, by intro w hSw; clear hSw; go_simp⟩) hS2 ?_
      try simp only [Act.put, List.setIfInBounds_toArray, List.set_cons_zero, List.set_cons_succ]
      refine wpAnyH_take (i := 12) (oi := { dst := some 7, op := .assign (.tmp 54), type := 3, pos := "change.go:27", after := #[{ on := 10, ground := .data }, { on := 11, ground := .chain }, { on := 0, ground := .phase }, { on := 1, ground := .phase }, { on := 2, ground := .phase }, { on := 3, ground := .phase }, { on := 4, ground := .phase }, { on := 5, ground := .phase }, { on := 6, ground := .phase }, { on := 7, ground := .phase }, { on := 8, ground := .phase }, { on := 9, ground := .phase }, { on := 10, ground := .phase }, { on := 11, ground := .phase }], guard := none }) (v := .int .i64 n) rfl (by kernel_rfl) (by kernel_rfl) (by kernel_rfl) (fun _ _ _ h => h) (Or.inl ⟨by rfl, by intro w hSw; clear hSw; go_simp⟩) hS2 ?_
      try simp only [Act.put, List.setIfInBounds_toArray, List.set_cons_zero, List.set_cons_succ]
      refine wpAnyH_take (i := 13) (oi := { dst := some 8, op := .assign (.const (Value.int IntKind.i64 0)), type := 26, pos := "change.go:27", after := #[{ on := 12, ground := .chain }, { on := 0, ground := .phase }, { on := 1, ground := .phase }, { on := 2, ground := .phase }, { on := 3, ground := .phase }, { on := 4, ground := .phase }, { on := 5, ground := .phase }, { on := 6, ground := .phase }, { on := 7, ground := .phase }, { on := 8, ground := .phase }, { on := 9, ground := .phase }, { on := 10, ground := .phase }, { on := 11, ground := .phase }, { on := 12, ground := .phase }], guard := none }) (v := .int .i64 0) rfl (by kernel_rfl) (by kernel_rfl) (by kernel_rfl) (fun _ _ _ h => h) (Or.inl ⟨by rfl, by intro w hSw; clear hSw; go_simp⟩) hS2 ?_
      try simp only [Act.put, List.setIfInBounds_toArray, List.set_cons_zero, List.set_cons_succ]
      refine wpAnyH_done (by kernel_rfl) ?_ _
      go_wp2_with fail
      go_ret3
      refine ⟨_, by rw [HE.out]; unfold crN; rw [if_pos HE.out, HLN.out]; rfl, ?_, (K4.out.trans H7.out).trans HB9.out⟩
      unfold crL
      rw [if_pos HE.out]
      exact HOW.out.mono (Nat.le_trans (Below.size K4.out) (Below.size H7.out))
end Ro
end Go.Proofs.Ytpfdakkameifkaa
end

section
/-
  What roster.hold, the changes of Jail, Unjail, Punish, and changed answer of any list. Conditions: at most a million validators; operators are ints.
-/
namespace Go.Proofs.Ytpfdakkameifkaa
open Go.RowKit Go.Shelf
set_option linter.unusedVariables false
set_option linter.unusedSimpArgs false
namespace Ro
open Kk Pm

theorem bel_drewN (w : World) (n : Nat) : Bel w (w.drewN n) := ⟨rfl, rfl, rfl, Nat.le_refl _, fun _ _ => rfl⟩
theorem rb_cells {w : World} {g cap k : Nat} {l : List V6} {r1 r2 r3 r4 : Int} {r5 r6 : Bool} (h : Rw.RB vR 66 w g l cap) (hr : l[k]? = some (r1, r2, r3, r4, r5, r6)) :
    w.cell? ⟨g, k * 6, none⟩ = some (.int .i64 r1) ∧ w.cell? ⟨g, k * 6 + 1, none⟩ = some (.int .u64 r2) ∧ w.cell? ⟨g, k * 6 + 2, none⟩ = some (.int .i64 r3) ∧ w.cell? ⟨g, k * 6 + 3, none⟩ = some (.int .i64 r4) ∧ w.cell? ⟨g, k * 6 + 4, none⟩ = some (.bool r5) ∧ w.cell? ⟨g, k * 6 + 5, none⟩ = some (.bool r6) := by
  obtain ⟨b, o, e, _, hc⟩ := h.rs.at (List.getElem?_eq_some_iff.1 hr).1 hr
  injection e with e
  injection e with e1 e2
  subst e1 e2
  have := rng6 (show w.rangeAt g (0 + k * 6) [.int .i64 r1, .int .u64 r2, .int .i64 r3, .int .i64 r4, .bool r5, .bool r6] from hc)
  rw [Nat.zero_add] at this
  exact this
/-- A validator held: a status until a height. -/
def hldF (s tl : Int) : V6 → V6
  | (o, m, _, u, a, p) => (o, m, s, max u tl, a, p)
set_option maxRecDepth 10000 in
set_option maxHeartbeats 1000000 in
theorem hold (g cap k : Nat) (l : List V6) (r1 r2 r3 r4 : Int) (r5 r6 : Bool) (s tl : Int) (V : World) (h : Rw.RB vR 66 V g l cap) (hr : l[k]? = some (r1, r2, r3, r4, r5, r6)) :
    Calls Try.prog 65 #[.pointer (some ⟨g, k * 6, none⟩), .int .i64 s, .int .i64 tl] V fun e V' => e = .returned (.int .i64 (if untB tl = false then 3 else 0)) ∧ Kep (fun b => b = g) V V' ∧ (untB tl = true → Rw.RB vR 66 V' g (l.set k (r1, r2, s, max r4 tl, r5, r6)) cap) := by
  obtain ⟨c0, c1, c2, c3, c4, c5⟩ := rb_cells h hr
  have IU := isUntil tl V
  have f2 := h.frozen (k * 6 + 2)
  have f3 := h.frozen (k * 6 + 3)
  have S1 : Rw.RB vR 66 (V.setCell ⟨g, k * 6 + 2, none⟩ (.int .i64 s)) g (l.set k (r1, r2, s, r4, r5, r6)) cap := h.set (o := 2) (by decide) hr rfl
  have S2 : Rw.RB vR 66 ((V.setCell ⟨g, k * 6 + 2, none⟩ (.int .i64 s)).setCell ⟨g, k * 6 + 3, none⟩ (.int .i64 (max r4 tl))) g ((l.set k (r1, r2, s, r4, r5, r6)).set k (r1, r2, s, max r4 tl, r5, r6)) cap := S1.set (o := 3) (r := (r1, r2, s, r4, r5, r6)) (by decide) (by rw [List.getElem?_set_self (List.getElem?_eq_some_iff.1 hr).1]) rfl
  rw [List.set_set] at S2
  have HS2 := Lib.hid S2
  have HK2 := Lib.hid (show Kep (fun b => b = g) V ((V.setCell ⟨g, k * 6 + 2, none⟩ (.int .i64 s)).setCell ⟨g, k * 6 + 3, none⟩ (.int .i64 (max r4 tl))) from Kep.set_self (Kep.set_self (Kep.refl _ _) _ _) _ _)
  clear h hr S1 S2
  cases hu : untB tl
  · rw [hu] at IU
    have H : Calls Try.prog 65 #[.pointer (some ⟨g, k * 6, none⟩), .int .i64 s, .int .i64 tl] V fun e V' => e = .returned (.int .i64 3) ∧ V = V' := by
      clear hu HS2 HK2
      go_enter Try.func65, Try.ntmps65
      go_wp2_with fail
      refine IU.mono ?_
      rintro e w1 ⟨rfl, rfl⟩
      go_wp2_with fail
      go_ret
      exact ⟨rfl, rfl⟩
    refine H.mono ?_
    rintro e V' ⟨rfl, rfl⟩
    exact ⟨rfl, Kep.refl _ _, fun h => by cases h⟩
  · rw [hu] at IU
    have H : Calls Try.prog 65 #[.pointer (some ⟨g, k * 6, none⟩), .int .i64 s, .int .i64 tl] V fun e V' => e = .returned (.int .i64 0) ∧ Kep (fun b => b = g) V V' ∧ Rw.RB vR 66 V' g (l.set k (r1, r2, s, max r4 tl, r5, r6)) cap := by
      clear hu
      go_enter Try.func65, Try.ntmps65
      go_wp2_with fail
      refine IU.mono ?_
      rintro e w1 ⟨rfl, rfl⟩
      go_wp2_with fail
      · have e : max r4 tl = tl := by omega
        have h2 := HK2.out
        have h3 := HS2.out
        rw [e] at h2 h3
        go_ret
        refine ⟨rfl, h2, ?_⟩
        rw [e]
        exact h3
      · have e : max r4 tl = r4 := by omega
        have h2 := HK2.out
        have h3 := HS2.out
        rw [e] at h2 h3
        go_ret
        refine ⟨rfl, h2, ?_⟩
        rw [e]
        exact h3
    refine H.mono ?_
    rintro e V' ⟨rfl, h2, h3⟩
    exact ⟨rfl, h2, fun _ => h3⟩
/-- A function value that changes a validator. -/
def Cl (w : World) (l : List V6) (F : Nat) (lb : Array Value) (e : V6 → Int) (f : V6 → V6) : Prop :=
  ∀ (V : World) (g cap k : Nat) (r : V6), Bel w V → w.heap.size ≤ g → Rw.RB vR 66 V g l cap → l[k]? = some r → Calls Try.prog F (#[.pointer (some ⟨g, k * 6, none⟩)] ++ lb) V fun x V' => x = .returned (.int .i64 (e r)) ∧ Kep (fun b => b = g) V V' ∧ (e r = 0 → Rw.RB vR 66 V' g (l.set k (f r)) cap)
/-- What a change tells. -/
def CgR (w w' : World) (l : List V6) (v E : Int) (f : V6 → V6) (e : Ending) : Prop :=
  ∃ x, e = .returned (.tuple #[x, .int .i64 E]) ∧ OwnV w' w.heap.size x (upd l v E f) ∧ Bel w w'
theorem cgR_no {w w' : World} {l : List V6} {v E : Int} {f : V6 → V6} (hb : Bel w w') (hx : E ≠ 0) : CgR w w' l v E f (.returned (.tuple #[.slice none 0 0, .int .i64 E])) := by
  refine ⟨.slice none 0 0, rfl, ?_, hb⟩
  unfold upd; rw [if_neg hx]; exact Rw.OwnR.nil_ _ _ _ _
theorem nth_some {l : List V6} {k : Nat} {r : V6} (h : l[k]? = some r) : nth l k = some r := by
  unfold nth; rw [if_pos (by omega), Int.toNat_natCast, h]
theorem nth_none {l : List V6} {v : Int} (h : v < 0 ∨ (l.length : Int) ≤ v) : nth l v = none := by
  unfold nth
  by_cases h0 : 0 ≤ v
  · rw [if_pos h0, List.getElem?_eq_none (by omega)]
  · rw [if_neg h0]
theorem upd_at {l : List V6} {k : Nat} {r : V6} (h : l[k]? = some r) (f : V6 → V6) : upd l k 0 f = l.set k (f r) := by
  unfold upd; rw [if_pos rfl, nth_some h, Int.toNat_natCast]
theorem upd_len {l : List V6} {v E : Int} {f : V6 → V6} (h : E = 0) (h2 : nth l v ≠ none) : (upd l v E f).length = l.length := by
  unfold upd
  rw [if_pos h]
  cases hn : nth l v with
  | none => exact absurd hn h2
  | some r => exact List.length_set
set_option maxRecDepth 100000 in
set_option maxHeartbeats 4000000 in
theorem changed (A : Option Addr) (n c : Nat) (l : List V6) (v : Int) (F : Nat) (lb : Array Value) (e : V6 → Int) (f : V6 → V6) (w : World) (hi : Rw.RS vR w A n c l) (hn : n ≤ 1000000) (hO : ∀ r ∈ l, I64 (op r))
    (eg : ∀ args w, (callFunc F args).run Try.prog w = .ok (.enter F args) w) (hF : Cl w l F lb e f) :
    Calls Try.prog 63 #[.slice A n c, .int .i64 v, .func (.func F) #[] lb] w fun x w' => CgR w w' l v (cgE l v e) f x := by
  have HI := Lib.hid hi
  have HLN := Lib.hid hi.len
  have CK := Lib.hid (check A n c l w hi (by omega) hO)
  have HF := Lib.hid hF
  have CN := Lib.hid (fun V (hv : Bel w V) => clone A n c l V (hi.bel hv) (by omega))
  obtain ⟨e1, he1⟩ : ∃ e, (chk l).1 = e := ⟨_, rfl⟩
  obtain ⟨e2, he2⟩ : ∃ e, (chk l).2 = e := ⟨_, rfl⟩
  obtain ⟨E, hE⟩ : ∃ E, cgE l v e = E := ⟨_, rfl⟩
  have HE := Lib.hid hE
  unfold cgE at HE
  rw [he1] at HE
  rw [he1, he2] at CK
  rw [hE]
  clear hi he1 he2 hE hO hF
  go_enter Try.func63, Try.ntmps63
  go_wp2_with fail
  refine CK.out.mono ?_
  rintro x w1 ⟨rfl, kb⟩
  have K1 := Lib.hid kb
  clear kb CK
  by_cases h0 : e1 = 0
  case neg =>
    have hne : (e1 != 0) = true := by rw [bne_iff_ne]; exact h0
    obtain rfl : e1 = E := by have := HE.out; rwa [if_pos h0] at this
    go_wp2_with fail
    go_ret2
    exact cgR_no K1.out h0
  subst h0
  have HE := Lib.hid (show (nth l v).elim 10 e = E by have := HE.out; rwa [if_neg (by decide)] at this)
  by_cases hv0 : v < 0
  · obtain rfl : E = 10 := by have := HE.out; rw [nth_none (.inl hv0)] at this; exact this.symm
    go_wp2_with fail
    go_ret2
    exact cgR_no K1.out (by decide)
  obtain ⟨k, rfl⟩ : ∃ k : Nat, v = k := ⟨v.toNat, by omega⟩
  by_cases hlt : k < n
  case neg =>
    obtain rfl : E = 10 := by have := HE.out; rw [nth_none (.inr (by rw [HLN.out]; omega))] at this; exact this.symm
    have hge : (k : Int) ≥ n := by omega
    have hlt3 : ¬ (k : Int) < n := by omega
    go_wp2_with fail
    go_ret2
    exact cgR_no K1.out (by decide)
  have hlt3 : (k : Int) < n := by omega
  have hlt4 : ¬ (k : Int) ≥ n := by omega
  have CN := Lib.hid (CN.out w1 K1.out)
  obtain ⟨r, hr⟩ := HI.out.get hlt
  have HR := Lib.hid hr
  have HE := Lib.hid (show e r = E by have := HE.out; rwa [nth_some hr] at this)
  clear hr
  go_wp2_with fail
  refine CN.out.mono ?_
  rintro x w2 ⟨vc, rfl, ho, kb⟩
  obtain ⟨g, cap, rfl, hg, hrb, hcm⟩ := Rw.rb_own vR ho (by rw [HLN.out]; omega)
  rw [HLN.out]
  have K2 := Lib.hid (K1.out.trans kb)
  have HG := Lib.hid (Nat.le_trans (Below.size K1.out) hg)
  have HCM := Lib.hid hcm
  have FC := Lib.hid (HF.out w2 g cap k r K2.out HG.out hrb HR.out)
  rw [HE.out] at FC
  clear ho kb hg hcm hrb CN HF
  go_wp2_with fail
  refine FC.out.mono ?_
  rintro x w3 ⟨rfl, hk, hs⟩
  have K3 := Lib.hid (show Bel w w3 from Kep.bel K2.out hk (fun i hi => by rw [hi]; exact HG.out))
  have HS := Lib.hid hs
  clear hk hs FC
  by_cases hE : E = 0
  case neg =>
    have hne : (E != 0) = true := by rw [bne_iff_ne]; exact hE
    go_wp2_with fail
    go_ret2
    exact cgR_no K3.out hE
  subst hE
  go_wp2_with fail
  go_ret2
  refine ⟨_, rfl, ?_, K3.out⟩
  rw [upd_at HR.out]
  have := own_rb (HS.out (by first | rfl | trivial)) HG.out HCM.out
  rw [List.length_set, HLN.out] at this
  exact this
set_option maxRecDepth 10000 in
set_option maxHeartbeats 2000000 in
theorem jail1 (w : World) (l : List V6) (p : Nat) (tl : Int) (hP : Blk w p #[.int .i64 tl] 3) : Cl w l 64 #[.pointer (some ⟨p, 0, none⟩)] (jaE tl) (jaF tl) := by
  intro V g cap k r hb hg h hr
  obtain ⟨r1, r2, r3, r4, r5, r6⟩ := r
  show Calls Try.prog 64 #[.pointer (some ⟨g, k * 6, none⟩), .pointer (some ⟨p, 0, none⟩)] V _
  obtain ⟨c0, c1, c2, c3, c4, c5⟩ := rb_cells h hr
  have HP := Lib.hid (hP.bel hb)
  have HH := Lib.hid h
  have HR := Lib.hid hr
  have PE := Lib.hid (permits r3 V)
  obtain ⟨E, hE⟩ : ∃ E, jaE tl (r1, r2, r3, r4, r5, r6) = E := ⟨_, rfl⟩
  rw [hE]
  have HE := Lib.hid (show (if r3 = 4 then 20 else if untB tl = false then (3 : Int) else 0) = E from hE)
  show Calls _ _ _ _ fun x V' => x = .returned (.int .i64 E) ∧ Kep (fun b => b = g) V V' ∧ (E = 0 → Rw.RB vR 66 V' g (l.set k (r1, r2, 3, max r4 tl, r5, r6)) cap)
  clear hb h hr hE c0 c1 c3 c4 c5 hP
  unfold rts at PE
  go_enter Try.func64, Try.ntmps64
  go_wp2_with fail
  refine PE.out.mono ?_
  rintro x V1 ⟨rfl, kb⟩
  have KB := Lib.hid kb
  clear kb PE
  by_cases h4 : r3 = 4
  · obtain rfl : E = 20 := by have := HE.out; rw [if_pos h4] at this; exact this.symm
    have hfd : ∀ W, (Instr.field 75 (.agg #[.bool (!decide (r3 = 4)), .bool (decide (r3 = 1) || decide (r3 = 2)), .bool (decide (r3 = 2))]) 0).run Try.prog W = .ok (.bool false) W := fun W => by rw [decide_eq_true h4]; kernel_rfl
    clear h4
    go_wp2_with fail
    go_ret
    first | exact ⟨rfl, Kep.of_bel KB.out, fun h => by cases h⟩ | exact ⟨rfl, Kep.of_bel KB.out⟩
  · have HE := Lib.hid (show (if untB tl = false then (3 : Int) else 0) = E by have := HE.out; rwa [if_neg h4] at this)
    have hfd : ∀ W, (Instr.field 75 (.agg #[.bool (!decide (r3 = 4)), .bool (decide (r3 = 1) || decide (r3 = 2)), .bool (decide (r3 = 2))]) 0).run Try.prog W = .ok (.bool true) W := fun W => by rw [decide_eq_false h4]; kernel_rfl
    have HO := Lib.hid (hold g cap k l r1 r2 r3 r4 r5 r6 3 tl V1 (HH.out.bel KB.out) HR.out)
    rw [HE.out] at HO
    have p0 := (HP.out.bel KB.out).cell 0 rfl
    clear h4 c2
    go_wp2_with fail
    refine HO.out.mono ?_
    rintro x V2 ⟨rfl, hk, hs⟩
    have HK := Lib.hid ((Kep.of_bel KB.out).trans hk)
    have HS := Lib.hid hs
    clear hk hs HO
    go_wp2_with fail
    go_ret
    refine ⟨rfl, HK.out, fun h0 => HS.out ?_⟩
    subst h0
    have := HE.out
    cases hu : untB tl
    · rw [hu, if_pos rfl] at this; cases this
    · rfl
set_option maxRecDepth 10000 in
set_option maxHeartbeats 4000000 in
theorem unjail1 (w : World) (l : List V6) (p q : Nat) (by_ h_ : Int) (hP : Blk w p #[.int .i64 by_] 3) (hQ : Blk w q #[.int .i64 h_] 3) : Cl w l 67 #[.pointer (some ⟨p, 0, none⟩), .pointer (some ⟨q, 0, none⟩)] (unE by_ h_) (setS 1) := by
  intro V g cap k r hb hg h hr
  obtain ⟨r1, r2, r3, r4, r5, r6⟩ := r
  show Calls Try.prog 67 #[.pointer (some ⟨g, k * 6, none⟩), .pointer (some ⟨p, 0, none⟩), .pointer (some ⟨q, 0, none⟩)] V _
  obtain ⟨c0, c1, c2, c3, c4, c5⟩ := rb_cells h hr
  have HP := Lib.hid (hP.bel hb)
  have HQ := Lib.hid (hQ.bel hb)
  have HH := Lib.hid h
  have HR := Lib.hid hr
  have PE := Lib.hid (permits r3 V)
  obtain ⟨E, hE⟩ : ∃ E, unE by_ h_ (r1, r2, r3, r4, r5, r6) = E := ⟨_, rfl⟩
  rw [hE]
  have HE := Lib.hid (show (if by_ ≠ r1 then (24 : Int) else if r3 = 4 then 20 else if (decide (r3 = 1) || decide (r3 = 2)) = true then 11 else if h_ < r4 then 21 else 0) = E from hE)
  show Calls _ _ _ _ fun x V' => x = .returned (.int .i64 E) ∧ Kep (fun b => b = g) V V' ∧ (E = 0 → Rw.RB vR 66 V' g (l.set k (r1, r2, 1, r4, r5, r6)) cap)
  clear hb h hr hE c0 c1 c3 c4 c5 hP hQ
  unfold rts at PE
  go_enter Try.func67, Try.ntmps67
  go_wp2_with fail
  refine PE.out.mono ?_
  rintro x V1 ⟨rfl, kb⟩
  have KB := Lib.hid kb
  clear kb PE c2
  obtain ⟨y4, hy4⟩ : ∃ y, decide (r3 = 4) = y := ⟨_, rfl⟩
  obtain ⟨yf, hyf⟩ : ∃ y, (decide (r3 = 1) || decide (r3 = 2)) = y := ⟨_, rfl⟩
  obtain ⟨y2, hy2⟩ : ∃ y, decide (r3 = 2) = y := ⟨_, rfl⟩
  have HE := Lib.hid (show (if by_ ≠ r1 then (24 : Int) else if y4 = true then 20 else if yf = true then 11 else if h_ < r4 then 21 else 0) = E by
    have := HE.out
    rw [hyf] at this
    rw [← this, ← hy4]
    by_cases h4 : r3 = 4 <;> simp [h4])
  rw [hy4, hyf, hy2]
  clear hy4 hyf hy2
  go_upto_region 2 with fail
  have R0 := Lib.hid (Blk.new V1 #[.bool (!y4), .bool yf, .bool y2] 75)
  obtain ⟨V2, hV2⟩ : ∃ W, V1.alloc (.cells #[.bool (!y4), .bool yf, .bool y2] 75) = W := ⟨_, rfl⟩
  have B2 := Lib.hid (show Bel V V2 by rw [← hV2]; exact KB.out.alloc _)
  rw [hV2] at R0 ⊢
  obtain ⟨d, hd⟩ : ∃ d, V1.heap.size = d := ⟨_, rfl⟩
  rw [hd] at R0 ⊢
  clear hV2 hd
  have c0 := (rb_cells (HH.out.bel B2.out) HR.out).1
  have p0 := (HP.out.bel B2.out).cell 0 rfl
  obtain ⟨z, hz⟩ : ∃ z, (by_ != r1) = z := ⟨_, rfl⟩
  have HZ := Lib.hid (show z = true ↔ by_ ≠ r1 by rw [← hz]; exact bne_iff_ne)
  go_quiet (fail)
  rename_i nq
  obtain ⟨V3, hV3⟩ : ∃ W, V2.drewN nq = W := ⟨_, rfl⟩
  have B3 := Lib.hid (show Bel V V3 by rw [← hV3]; exact B2.out.trans (bel_drewN V2 nq))
  have R3 := Lib.hid (show Blk V3 d _ _ by rw [← hV3]; exact R0.out.bel (bel_drewN V2 nq))
  rw [hV3]
  try rw [hz]
  clear hV3 c0 p0 hz
  cases z with
  | true =>
    obtain rfl : E = 24 := by have := HE.out; rw [if_pos (HZ.out.1 rfl)] at this; exact this.symm
    go_wp2_with fail
    go_ret
    first | exact ⟨rfl, Kep.of_bel B3.out, fun h => by cases h⟩ | exact ⟨rfl, Kep.of_bel B3.out⟩
  | false =>
    have HE := Lib.hid (show (if y4 = true then (20 : Int) else if yf = true then 11 else if h_ < r4 then 21 else 0) = E by
      have := HE.out
      rwa [if_neg (fun h => by have := HZ.out.2 h; cases this)] at this)
    clear HZ
    have d0 := R3.out.cell 0 rfl
    have d1 := R3.out.cell 1 rfl
    cases y4 with
    | true =>
      obtain rfl : E = 20 := HE.out.symm
      go_wp2_with fail
      go_ret
      first | exact ⟨rfl, Kep.of_bel B3.out, fun h => by cases h⟩ | exact ⟨rfl, Kep.of_bel B3.out⟩
    | false =>
      cases yf with
      | true =>
        obtain rfl : E = 11 := HE.out.symm
        go_wp2_with fail
        go_ret
        first | exact ⟨rfl, Kep.of_bel B3.out, fun h => by cases h⟩ | exact ⟨rfl, Kep.of_bel B3.out⟩
      | false =>
        have HE := Lib.hid (show (if h_ < r4 then (21 : Int) else 0) = E from HE.out)
        have c3 := (rb_cells (HH.out.bel B3.out) HR.out).2.2.2.1
        have q0 := (HQ.out.bel B3.out).cell 0 rfl
        obtain ⟨z, hz⟩ : ∃ z, decide (h_ < r4) = z := ⟨_, rfl⟩
        have HE := Lib.hid (show (if z = true then (21 : Int) else 0) = E by rw [← HE.out, ← hz]; by_cases h : h_ < r4 <;> simp [h])
        go_upto_region 8 with fail
        go_quiet (fail)
        obtain ⟨V4, hV4⟩ : ∃ W, V3.drewN nq = W := ⟨_, rfl⟩
        have B4 := Lib.hid (show Bel V V4 by rw [← hV4]; exact B3.out.trans (bel_drewN V3 nq))
        rw [hV4]
        try rw [hz]
        clear hV4 c3 q0 hz d0 d1
        cases z with
        | true =>
          obtain rfl : E = 21 := HE.out.symm
          go_wp2_with fail
          go_ret
          first | exact ⟨rfl, Kep.of_bel B4.out, fun h => by cases h⟩ | exact ⟨rfl, Kep.of_bel B4.out⟩
        | false =>
          obtain rfl : E = 0 := HE.out.symm
          have c2 := (rb_cells (HH.out.bel B4.out) HR.out).2.2.1
          have f2 := (HH.out.bel B4.out).frozen (k * 6 + 2)
          have HS := Lib.hid ((HH.out.bel B4.out).set (o := 2) (r' := (r1, r2, 1, r4, r5, r6)) (v := .int .i64 1) (by decide) HR.out rfl)
          have HK := Lib.hid ((Kep.of_bel (S := fun b => b = g) B4.out).trans (Kep.set_self (Kep.refl _ V4) (k * 6 + 2) (.int .i64 1)))
          go_wp2_with fail
          go_ret
          first | exact ⟨rfl, HK.out, fun _ => HS.out⟩ | exact ⟨rfl, HK.out, HS.out⟩
set_option maxRecDepth 10000 in
set_option maxHeartbeats 2000000 in
theorem punish1 (w : World) (l : List V6) (p q : Nat) (cl tl : Int) (hP : Blk w p #[.int .i64 cl] 3) (hQ : Blk w q #[.int .i64 tl] 3) : Cl w l 68 #[.pointer (some ⟨p, 0, none⟩), .pointer (some ⟨q, 0, none⟩)] (fun _ => if untB tl = false then 3 else 0) (puF cl tl) := by
  intro V g cap k r hb hg h hr
  obtain ⟨r1, r2, r3, r4, r5, r6⟩ := r
  show Calls Try.prog 68 #[.pointer (some ⟨g, k * 6, none⟩), .pointer (some ⟨p, 0, none⟩), .pointer (some ⟨q, 0, none⟩)] V _
  obtain ⟨c0, c1, c2, c3, c4, c5⟩ := rb_cells h hr
  have f4 := h.frozen (k * 6 + 4)
  have f5 := h.frozen (k * 6 + 5)
  have P0 := hP.bel hb
  have Q0 := hQ.bel hb
  have p0 := P0.cell 0 rfl
  have hk0 := (List.getElem?_eq_some_iff.1 hr).1
  have hqg : q ≠ g := by have := hQ.lt; omega
  have q4 := ((Kep.set_self (Kep.refl (fun b => b = g) V) (k * 6 + 4) (.bool true)).cell (S := fun b => b = g) hqg (Q0.cell 0 rfl))
  have q5 := ((Kep.set_self (Kep.refl (fun b => b = g) V) (k * 6 + 5) (.bool true)).cell (S := fun b => b = g) hqg (Q0.cell 0 rfl))
  have K4 := Lib.hid (Kep.set_self (Kep.refl (fun b => b = g) V) (k * 6 + 4) (.bool true))
  have K5 := Lib.hid (Kep.set_self (Kep.refl (fun b => b = g) V) (k * 6 + 5) (.bool true))
  have S4 := h.set (o := 4) (r' := (r1, r2, r3, r4, true, r6)) (v := .bool true) (by decide) hr rfl
  have S5 := h.set (o := 5) (r' := (r1, r2, r3, r4, r5, true)) (v := .bool true) (by decide) hr rfl
  have H4 := hold g cap k _ r1 r2 r3 r4 true r6 4 tl _ S4 (List.getElem?_set_self hk0)
  have H5 := hold g cap k _ r1 r2 r3 r4 r5 true 3 tl _ S5 (List.getElem?_set_self hk0)
  rw [List.set_set] at H4 H5
  have HO4 := Lib.hid H4
  have HO5 := Lib.hid H5
  obtain ⟨E, hE⟩ : ∃ E, (if untB tl = false then (3 : Int) else 0) = E := ⟨_, rfl⟩
  rw [hE] at HO4 HO5
  have HU := Lib.hid (show E = 0 → untB tl = true from fun h0 => by
    subst h0
    cases hu : untB tl
    · rw [hu, if_pos rfl] at hE; cases hE
    · rfl)
  show Calls _ _ _ _ fun x V' => x = .returned (.int .i64 (if untB tl = false then (3 : Int) else 0)) ∧ Kep (fun b => b = g) V V' ∧ ((if untB tl = false then (3 : Int) else 0) = 0 → Rw.RB vR 66 V' g (l.set k (if cl = 1 then (r1, r2, 4, max r4 tl, true, r6) else (r1, r2, 3, max r4 tl, r5, true))) cap)
  rw [hE]
  clear hb h hr hE hP hQ P0 Q0 S4 S5 H4 H5 c0 c1 c2 c3 hk0 hqg
  go_enter Try.func68, Try.ntmps68
  by_cases h1 : cl = 1
  · subst h1
    go_wp2_with fail
    refine HO4.out.mono ?_
    rintro x V2 ⟨rfl, hk, hs⟩
    have HK := Lib.hid (K4.out.trans hk)
    have HS := Lib.hid hs
    clear hk hs HO4
    go_wp2_with fail
    go_ret
    exact ⟨rfl, HK.out, fun h0 => HS.out (HU.out h0)⟩
  · have e1 : (cl == 1) = false := beq_eq_false_iff_ne.2 h1
    rw [if_neg h1]
    clear h1
    go_wp2_with fail
    refine HO5.out.mono ?_
    rintro x V2 ⟨rfl, hk, hs⟩
    have HK := Lib.hid (K5.out.trans hk)
    have HS := Lib.hid hs
    clear hk hs HO5
    go_wp2_with fail
    go_ret
    exact ⟨rfl, HK.out, fun h0 => HS.out (HU.out h0)⟩
end Ro
end Go.Proofs.Ytpfdakkameifkaa
end
