/-
  Texts of this claim, put together: PTx0, PTx1, PText. What each one says, and under which conditions, stands ahead of it.
-/
import Derived.Laws.Externs
import Derived.Lib.AppendIntMem
import Derived.Lib.AppendStr
import Derived.Test.YtpohcdfmkcfonaaGreatDoorGPMem
import Derived.Test.YtpohcdfmkcfonaaGreatDoorGShelf
import Derived.Test.YtpohcdfmkcfonaaGreatDoorPB

section
/-
  What strconv.FormatUint answers at base 10, and what a strings.Builder of the call's own makes of WriteString and String.
  Conditions: the number is below 2^64; the library's table of powers of ten is as the program's text lays it.
-/
namespace Go.Proofs.YtpohcdfmkcfonaaGreatDoor
open Go.RowKit Go.Shelf Go.Sort
set_option linter.unusedVariables false
namespace Pm
open Kk

/-- The library's table of powers of ten. -/
abbrev Tab (w : World) : Prop := Lib.TabIs Tryz.prog w "internal/strconv.uint64pow10" .u64 Lib.pow10Tab
theorem Tab.bel {w w' : World} (h : Tab w) (hb : Bel w w') : Tab w' := (Lib.tabBelow_of_tabIs h) w' hb

set_option maxHeartbeats 6400000 in
set_option maxRecDepth 100000 in
theorem fmtU0 (u : Nat) (hu64 : u < 18446744073709551616) (w : World) (htab : Tab w) :
    Calls Tryz.prog 52 #[.int .u64 u, .int .i64 10] w fun e w' => e = .returned (.string ⟨(Lib.decDigits u).toArray⟩) ∧ Bel w w' := by
  by_cases hs : u < 100
  · have SM := Lib.hid (Tryz.internal_strconv_small u hs w)
    have hlt : (u : Int) < 100 := by omega
    go_enter Tryz.func52, Tryz.ntmps52
    go_wp2_with fail
    refine SM.out.mono ?_
    rintro e w' ⟨rfl, rfl⟩
    go_wp2_with fail
    go_ret
    exact ⟨rfl, Bel.refl _⟩
  · have hu1 : 1 ≤ u := by omega
    have hge : ¬ (u : Int) < 100 := by omega
    have hnd20 : Lib.nDigits u ≤ 20 := by have := Lib.numDigits_eq u hu1 hu64; split at this <;> omega
    have hal : Tryz.prog.arrayLen 117 = 24 := by kernel_rfl
    have hsl2 : ∀ W, (Instr.sliceAt 117 (.pointer (some ⟨w.heap.size, 0, none⟩)) none (some (.int .i64 (Lib.nDigits u : Int))) none).run Tryz.prog W = .ok (.slice (some ⟨w.heap.size, 0, none⟩) (Lib.nDigits u) 24) W := fun W => by
      rw [run_sliceAt_array_h W 117 ⟨w.heap.size, 0, none⟩ (by kernel_rfl) .i64 (Lib.nDigits u : Int) (by omega) (by rw [hal]; omega)]
      go_simp
    have hH0 := Lib.holds_zero0 w 117 (Lib.nDigits u) (by omega)
    have hfmt := Tryz.internal_strconv_formatBase10 w.heap.size 0 24 u (Array.replicate (Lib.nDigits u) 0) (w.alloc (.cells Lib.zeros24 117)) hH0 (by rw [Array.size_replicate]; exact Lib.lt_pow_nDigits u) hu64 (by rw [Array.size_replicate]; omega)
    rw [Array.size_replicate] at hfmt
    have HH0 := Lib.hid hH0
    have HFM := Lib.hid hfmt
    have ND := Lib.hid (Tryz.internal_strconv_numDigits u hu1 hu64 (w.alloc (.cells Lib.zeros24 117)) (htab.bel ((Bel.refl w).alloc _)))
    clear hH0 hal hfmt
    go_enter Tryz.func52, Tryz.ntmps52
    go_wp2_with fail
    refine ND.out.mono ?_
    rintro e w' ⟨rfl, rfl⟩
    go_wp2_with fail
    refine HFM.out.mono ?_
    rintro e w' ⟨rfl, k, v', dk, rfl, hF⟩
    have hcv : (convert 25 9 (.slice (some ⟨w.heap.size, 0, none⟩) (Lib.nDigits u) 24)).run Tryz.prog ((putRow (fun (b : UInt8) => Value.int .u8 (b.toNat : Int)) (w.alloc (.cells Lib.zeros24 117)) w.heap.size 0 dk).drewN k) = .ok (.string ⟨(Lib.decDigits u).toArray⟩) ((putRow (fun (b : UInt8) => Value.int .u8 (b.toNat : Int)) (w.alloc (.cells Lib.zeros24 117)) w.heap.size 0 dk).drewN k) := by
      have h := run_convert_bytes_back (P := Tryz.prog) ((putRow (fun (b : UInt8) => Value.int .u8 (b.toNat : Int)) (w.alloc (.cells Lib.zeros24 117)) w.heap.size 0 dk).drewN k) 25 9 5 ⟨w.heap.size, 0, none⟩ 24 (Lib.decDigits u) Tryz.underlying25 Tryz.underlying5 Tryz.underlying9 (fun j hj => by
        rw [Lib.row_is_numeral hF j hj, Lib.add_plain, World.cell?_drewN]
        exact cell?_putRow (fun (b : UInt8) => Value.int .u8 (b.toNat : Int)) _ w.heap.size 0 _ dk HH0.out (by rw [hF.size, Array.size_replicate]) j (by rw [hF.size]; rw [Lib.decDigits_length] at hj; exact hj))
      rw [Lib.decDigits_length] at h
      exact h
    have HB := Lib.hid (show Bel w ((putRow (fun (b : UInt8) => Value.int .u8 (b.toNat : Int)) (w.alloc (.cells Lib.zeros24 117)) w.heap.size 0 dk).drewN k) from by
      rw [alloc_eq_grow]
      obtain ⟨os', _, e⟩ := putRow_grow_new (fun (b : UInt8) => Value.int .u8 (b.toNat : Int)) w #[_] w.heap.size 0 dk (Nat.le_refl _)
      rw [e]
      exact Lib.below_grow w.heap.size w (Nat.le_refl _) k os')
    go_wp2
    go_ret
    exact ⟨rfl, HB.out⟩

set_option maxHeartbeats 1000000 in
set_option maxRecDepth 100000 in
theorem fmtU (u : Nat) (hu64 : u < 18446744073709551616) (w : World) (htab : Tab w) :
    Calls Tryz.prog 21 #[.int .u64 u, .int .i64 10] w fun e w' => e = .returned (.string ⟨(Lib.decDigits u).toArray⟩) ∧ Bel w w' := by
  have F0 := Lib.hid (fmtU0 u hu64 w htab)
  clear htab
  go_enter Tryz.func21, Tryz.ntmps21
  go_wp2_with fail
  refine F0.out.mono ?_
  rintro e w1 ⟨rfl, k1⟩
  have B1 : Hid (Bel w w1) := Lib.hid k1
  clear k1
  go_wp2_with fail
  go_ret
  exact ⟨rfl, B1.out⟩

/-- A builder of the call's own, from block B on, that holds bytes. -/
abbrev Bld (B b : Nat) (cs : List Value) (w : World) : Prop := Lib.IsBuilder 48 5 B b cs w
abbrev BldAt (B b : Nat) (p : Value) (cs : List Value) (w : World) : Prop := Lib.BuilderAt 48 5 B b p cs w
theorem Bld.low {B b : Nat} {cs : List Value} {w : World} (h : Bld B b cs w) : B ≤ b := h.elim (·.1) (·.1)
theorem size_bld : (Tryz.prog.info? 48).map (·.size) = some 2 := by kernel_rfl
theorem lies_bld : liesAt Tryz.prog Tryz.prog.depth 48 (2 / Tryz.prog.cellsOf 48) 0 48 1 = true := by kernel_rfl

set_option maxHeartbeats 1000000 in
set_option maxRecDepth 100000 in
theorem copyCheck (B b : Nat) (cs : List Value) (w : World) (h : Bld B b cs w) :
    Calls Tryz.prog 51 #[.pointer (some ⟨b, 0, none⟩)] w fun e w' => e = .returned (.tuple #[]) ∧ BldAt B b (.pointer (some ⟨b, 0, none⟩)) cs w' ∧ Below B w w' := by
  obtain ⟨j, hj, hjs⟩ := Option.map_eq_some_iff.1 size_bld
  rcases h with h | h
  · have c0 := h.cell0
    have f0 := h.frozen0
    have e1 := Lib.run_to_unsafe w ⟨b, 0, none⟩ Tryz.underlying46 Tryz.underlying115 hj (by rw [hjs]; decide) h.shape (Nat.zero_lt_succ 1)
    have e2 := Lib.run_from_unsafe w ⟨b, 0, none⟩ Tryz.underlying115 Tryz.underlying46 hj h.shape lies_bld
    have e0 : (callFunc 70 #[.pointer (some ⟨b, 0, none⟩)]).run Tryz.prog w = .ok (.value (.pointer (some ⟨b, 0, none⟩))) w := by
      rw [run_callFunc_extern Tryz.func70 (by kernel_rfl) (by kernel_rfl) (by kernel_rfl) (e := Extern.AbiNoEscape.same) (by kernel_rfl), Lib.run_noEscape]
      rfl
    have HB := Lib.hid (show BldAt B b (.pointer (some ⟨b, 0, none⟩)) cs (w.setCell ⟨b, 0, none⟩ (.pointer (some ⟨b, 0, none⟩))) from h.used _)
    have HL := Lib.hid ((Below.refl B w).setCell (p := ⟨b, 0, none⟩) h.1 (.pointer (some ⟨b, 0, none⟩)))
    clear h hj hjs
    go_enter Tryz.func51, Tryz.ntmps51
    go_wp2
    go_end0
    exact ⟨rfl, HB.out, HL.out⟩
  · have c0 := h.cell0
    have H := Lib.hid h
    clear h
    go_enter Tryz.func51, Tryz.ntmps51
    go_wp2
    rw [Lib.run_neq_ptr_same w _ Tryz.underlying46 hj]
    go_wp2
    go_end0
    exact ⟨rfl, H.out, Below.refl B _⟩

set_option maxHeartbeats 2000000 in
set_option maxRecDepth 100000 in
theorem writeString (B b : Nat) (cs : List Value) (s : ByteArray) (w : World) (h : Bld B b cs w) (hlen : cs.length + s.size ≤ 1000000000) (hBw : B ≤ w.heap.size) :
    Calls Tryz.prog 20 #[.pointer (some ⟨b, 0, none⟩), .string s] w fun e w' => e = .returned (.tuple #[.int .i64 s.size, .nilIface]) ∧ BldAt B b (.pointer (some ⟨b, 0, none⟩)) (cs ++ Lib.strCells s) w' ∧ Below B w w' := by
  obtain ⟨i0, hi, hz0, hz1, hz2⟩ := info_parts Tryz.info_u8
  have H := Lib.hid h
  have HL := Lib.hid hlen
  clear h hlen
  go_enter Tryz.func20, Tryz.ntmps20
  go_wp2_with fail
  refine (copyCheck B b cs _ H.out).mono ?_
  rintro e w1 ⟨rfl, ⟨hB, v, hbk, hown, hne⟩, hb1⟩
  have hbk : Blk w1 b #[.pointer (some ⟨b, 0, none⟩), v] 48 := hbk
  have HK := Lib.hid hbk
  have HO := Lib.hid hown
  have HN := Lib.hid hne
  have HB1 := Lib.hid hb1
  have HLT := Lib.hid (fun k hk => (hown.lt k hk).1)
  have c1 := hbk.cell 1 (v := v) rfl
  have hs1 : B ≤ w1.heap.size := Nat.le_trans hBw (Below.size hb1)
  clear hbk hown hne hb1
  go_wp2_with (at_builtin; refine Lib.wpList_append_own_string _ rfl _ _ 25 9 rfl B 5 i0 Tryz.underlying25 Tryz.underlying9 hi hz0 hz1 hz2 _ _ _ rfl HO.out s rfl (by have := HL.out; unfold maxLen; omega) (by have := HL.out; omega) hs1 ?_; intro v' w2 hown' hgrow _; have HO2 := Lib.hid hown'; have HG := Lib.hid hgrow; clear hown' hgrow; have HK2 := Lib.hid (show Blk w2 b #[.pointer (some ⟨b, 0, none⟩), v] 48 from (HG.out.block b HK.out.lt (fun e => HN.out e.symm)).trans HK.out); have d1 := HK2.out.cell 1 (v := v) rfl; have f1 := HK2.out.frozen 1; obtain ⟨ao, n', cap, rfl⟩ : ∃ ao n' cap, v' = .slice ao n' cap := (by rcases HO2.out.2 with ⟨hv, _⟩ | ⟨g, cap, cur, hv, _⟩ <;> exact ⟨_, _, _, hv⟩))
  go_ret2
  refine ⟨rfl, ?_, ?_⟩
  · refine Lib.BuilderAt.put (Bld.low H.out) HK2.out ?_ (by decide)
    have := HO2.out
    rw [List.length_append, Lib.strCells_length]
    exact this
  · exact (HB1.out.grown HG.out hs1 HLT.out).setCell (p := ⟨b, 1, none⟩) (Bld.low H.out) _
end Pm
end Go.Proofs.YtpohcdfmkcfonaaGreatDoor
end

section
/-
  A strings.Builder of the call's own, whose row lies from the block B on: what WriteString and String make of it, and what they leave alone.
  Condition: at most 10^9 bytes.
-/
namespace Go.Proofs.YtpohcdfmkcfonaaGreatDoor
open Go.RowKit Go.Shelf Go.Sort
set_option linter.unusedVariables false
namespace Pm
open Kk

abbrev BP (b : Nat) : Value := .pointer (some ⟨b, 0, none⟩)
/-- The builder in the block b holds the bytes cs, in a row from the block B on. -/
def Bl (B b : Nat) (cs : List Value) (w : World) : Prop := ∃ v, (Blk w b #[.pointer none, v] 48 ∨ Blk w b #[BP b, v] 48) ∧ w.ownsRow B 5 1 v cs.length cs ∧ v.ownBlock ≠ some b
theorem Bl.is {B b : Nat} {cs : List Value} {w : World} (h : Bl B b cs w) (A : Nat) (hA : A ≤ B) (hb : A ≤ b) : Bld A b cs w := by
  obtain ⟨v, h1 | h1, h2, h3⟩ := h
  · exact .inl ⟨hb, v, h1, owns_mono h2 hA, h3⟩
  · exact .inr ⟨hb, v, h1, owns_mono h2 hA, h3⟩
theorem Bl.kep {S : Nat → Prop} {B b : Nat} {cs : List Value} {w w' : World} (h : Bl B b cs w) (hk : Kep S w w') (hb : ¬ S b) (hs : ∀ k, S k → k < B) : Bl B b cs w' := by
  obtain ⟨v, h1, h2, h3⟩ := h
  refine ⟨v, h1.imp (fun h => h.kep hk hb) (fun h => h.kep hk hb), hk.owns (fun k hk2 hS => ?_) h2, h3⟩
  have := (h2.lt k hk2).1
  have := hs k hS
  omega
theorem Bl.bel {B b : Nat} {cs : List Value} {w w' : World} (h : Bl B b cs w) (hk : Bel w w') : Bl B b cs w' := h.kep (Kep.of_bel (S := fun _ => False) hk) id (fun _ h => h.elim)

set_option maxHeartbeats 1000000 in
set_option maxRecDepth 100000 in
theorem copyCheck2 (B b : Nat) (cs : List Value) (w : World) (h : Bl B b cs w) :
    Calls Tryz.prog 51 #[BP b] w fun e w' => e = .returned (.tuple #[]) ∧ (∃ v, Blk w' b #[BP b, v] 48 ∧ w'.ownsRow B 5 1 v cs.length cs ∧ v.ownBlock ≠ some b) ∧ Kep (fun k => k = b) w w' := by
  obtain ⟨j, hj, hjs⟩ := Option.map_eq_some_iff.1 size_bld
  obtain ⟨v, hv, h2, h3⟩ := h
  rcases hv with h1 | h1
  · have c0 := h1.cell 0 (v := .pointer none) rfl
    have f0 := h1.frozen 0
    have hsh : w.shape? b = some (48, 2) := by simp [World.shape?, show w.heap[b]? = _ from h1]
    have e1 := Lib.run_to_unsafe w ⟨b, 0, none⟩ Tryz.underlying46 Tryz.underlying115 hj (by rw [hjs]; decide) hsh (Nat.zero_lt_succ 1)
    have e2 := Lib.run_from_unsafe w ⟨b, 0, none⟩ Tryz.underlying115 Tryz.underlying46 hj hsh lies_bld
    have e0 : (callFunc 70 #[BP b]).run Tryz.prog w = .ok (.value (BP b)) w := by
      rw [run_callFunc_extern Tryz.func70 (by kernel_rfl) (by kernel_rfl) (by kernel_rfl) (e := Extern.AbiNoEscape.same) (by kernel_rfl), Lib.run_noEscape]
      rfl
    have H1 := Lib.hid h1
    have H2 := Lib.hid h2
    have H3 := Lib.hid h3
    clear h1 h2 h3 hj hjs hsh
    go_enter Tryz.func51, Tryz.ntmps51
    go_wp2
    go_end0
    exact ⟨rfl, ⟨v, H1.out.set 0 (BP b), owns_set H2.out H3.out 0 _, H3.out⟩, Kep.set_self (Kep.refl _ w) 0 _⟩
  · have c0 := h1.cell 0 (v := BP b) rfl
    have H1 := Lib.hid h1
    have H2 := Lib.hid h2
    have H3 := Lib.hid h3
    clear h1 h2 h3
    go_enter Tryz.func51, Tryz.ntmps51
    go_wp2
    rw [Lib.run_neq_ptr_same w _ Tryz.underlying46 hj]
    go_wp2
    go_end0
    exact ⟨rfl, ⟨v, H1.out, H2.out, H3.out⟩, Kep.refl _ w⟩

set_option maxHeartbeats 2000000 in
set_option maxRecDepth 100000 in
theorem writeS (B b : Nat) (cs : List Value) (s : ByteArray) (w : World) (h : Bl B b cs w) (hlen : cs.length + s.size ≤ 1000000000) (hBw : B ≤ w.heap.size) :
    Calls Tryz.prog 20 #[BP b, .string s] w fun e w' => e = .returned (.tuple #[.int .i64 s.size, .nilIface]) ∧ Bl B b (cs ++ Lib.strCells s) w' ∧ Kep (fun k => k = b ∨ B ≤ k) w w' ∧ (∀ f C t, t ≠ 5 → f ≠ b → Blk w f C t → Blk w' f C t) := by
  obtain ⟨i0, hi, hz0, hz1, hz2⟩ := info_parts Tryz.info_u8
  have H := Lib.hid h
  have HL := Lib.hid hlen
  clear h hlen
  go_enter Tryz.func20, Tryz.ntmps20
  go_wp2_with fail
  refine (copyCheck2 B b cs _ H.out).mono ?_
  rintro e w1 ⟨rfl, ⟨v, hbk, hown, hne⟩, hb1⟩
  have HK := Lib.hid hbk
  have HO := Lib.hid hown
  have HN := Lib.hid hne
  have HB1 := Lib.hid hb1
  have HLT := Lib.hid (fun k hk => (hown.lt k hk).1)
  have c1 := hbk.cell 1 (v := v) rfl
  have hs1 : B ≤ w1.heap.size := Nat.le_trans hBw hb1.size
  clear hbk hown hne hb1
  go_wp2_with (at_builtin; refine Lib.wpList_append_own_string _ rfl _ _ 25 9 rfl B 5 i0 Tryz.underlying25 Tryz.underlying9 hi hz0 hz1 hz2 _ _ _ rfl HO.out s rfl (by have := HL.out; unfold maxLen; omega) (by have := HL.out; omega) hs1 ?_; intro v' w2 hown' hgrow _; have HO2 := Lib.hid hown'; have HG := Lib.hid hgrow; clear hown' hgrow; have HK2 := Lib.hid (show Blk w2 b #[BP b, v] 48 from (HG.out.block b HK.out.lt (fun e => HN.out e.symm)).trans HK.out); have d1 := HK2.out.cell 1 (v := v) rfl; have f1 := HK2.out.frozen 1; obtain ⟨ao, n', cap, rfl⟩ : ∃ ao n' cap, v' = .slice ao n' cap := (by rcases HO2.out.2 with ⟨hv, _⟩ | ⟨g, cap, cur, hv, _⟩ <;> exact ⟨_, _, _, hv⟩))
  go_ret2
  have hO3 : w2.ownsRow B 5 1 (.slice ao n' cap) (cs ++ Lib.strCells s).length (cs ++ Lib.strCells s) := by
    have := HO2.out
    rw [List.length_append, Lib.strCells_length]
    exact this
  have hne2 := Blk.not_row HK2.out (by decide) hO3
  refine ⟨rfl, ⟨_, .inr (HK2.out.set 1 _), owns_set hO3 hne2 1 _, hne2⟩, ?_, fun f C t ht hf hB => ?_⟩
  have k1 : Kep (fun k => k = b ∨ B ≤ k) w w1 := HB1.out.mono (fun k _ h => .inl h)
  · exact (k1.grown HG.out (fun k hk _ => .inr (HLT.out k hk))).set (b := b) (o := 1) (.inl rfl) _
  · have q1 := hB.kep HB1.out hf
    have q2 : Blk w2 f C t := (HG.out.block f q1.lt (fun e => Blk.not_row q1 ht HO.out e.symm)).trans q1
    exact q2.other hf 1 _

/-- What String answers. -/
theorem stringB (A B b : Nat) (s : ByteArray) (w : World) (h : Bl B b (Lib.strCells s) w) (hA : A ≤ B) (hb : A ≤ b) (hw : A ≤ w.heap.size) :
    Calls Tryz.prog 22 #[BP b] w fun e w' => e = .returned (.string s) ∧ Below A w w' :=
  Tryz.Builder_String_any A b s.data.toList w (h.is A hA hb) hw
/-- A new builder. -/
theorem bl_new {w : World} {b B : Nat} (h : Blk w b #[.pointer none, .slice none 0 0] 48) : Bl B b [] w := ⟨.slice none 0 0, .inl h, ⟨rfl, .inl ⟨rfl, rfl⟩⟩, by simp [Value.ownBlock]⟩
theorem strCells_app (a b : ByteArray) : Lib.strCells (a ++ b) = Lib.strCells a ++ Lib.strCells b := by
  rw [Lib.strCells_eq, Lib.strCells_eq, Lib.strCells_eq, ByteArray.data_append, Array.toList_append]
  simp [Lib.byteCells]
end Pm
end Go.Proofs.YtpohcdfmkcfonaaGreatDoor
end

section
/-
  What params.Text answers in this program: the eleven lines of a record that is valid.
  Conditions: the eleven numbers are of their kinds; the library's table of powers of ten is as the program's text lays it.
-/
namespace Go.Proofs.YtpohcdfmkcfonaaGreatDoor
open Go.RowKit Go.Shelf Go.Sort
set_option linter.unusedVariables false
set_option linter.unusedSimpArgs false
namespace Pm
open Kk

/-- A field's line; the first k lines. -/
def lineB (i : Nat) (v : Int) : ByteArray := nm i ++ ⟨#[32]⟩ ++ ⟨(Lib.decDigits v.toNat).toArray⟩ ++ ⟨#[10]⟩
def textB (x : Nat → Int) : Nat → ByteArray
  | 0 => ⟨#[]⟩
  | k + 1 => textB x k ++ lineB k (x k)
theorem nm_size (i : Nat) (hi : i < 11) : (nm i).size ≤ 10 := by
  match i, hi with
  | 0, _ => decide
  | 1, _ => decide
  | 2, _ => decide
  | 3, _ => decide
  | 4, _ => decide
  | 5, _ => decide
  | 6, _ => decide
  | 7, _ => decide
  | 8, _ => decide
  | 9, _ => decide
  | 10, _ => decide
  | n + 11, h => omega
theorem dec_size (n : Nat) (h : n < 18446744073709551616) : (Lib.decDigits n).length ≤ 20 := by
  rw [Lib.decDigits_length]
  by_cases h0 : n = 0
  · rw [h0, ← Lib.decDigits_length, Lib.decDigits_one (by decide)]; decide
  · have := Lib.numDigits_eq n (by omega) h
    split at this <;> omega
theorem line_size (i : Nat) (hi : i < 11) (v : Int) (h1 : v ≤ 18446744073709551615) : (lineB i v).size ≤ 40 := by
  have h := nm_size i hi
  have hd : (Lib.decDigits v.toNat).length ≤ 20 := dec_size _ (by omega)
  unfold lineB
  simp only [ByteArray.size_append]
  have e1 : (⟨#[32]⟩ : ByteArray).size = 1 := rfl
  have e2 : (⟨#[10]⟩ : ByteArray).size = 1 := rfl
  have e3 : (⟨(Lib.decDigits v.toNat).toArray⟩ : ByteArray).size = (Lib.decDigits v.toNat).length := by simp [ByteArray.size]
  omega
theorem text_size (x : Nat → Int) (hx : ∀ i, i < 11 → x i ≤ 18446744073709551615) : ∀ k, k ≤ 11 → (textB x k).size ≤ 40 * k
  | 0, _ => Nat.le_refl 0
  | k + 1, h => by
    have h1 := text_size x hx k (by omega)
    have h2 := line_size k (by omega) (x k) (hx k (by omega))
    show (textB x k ++ lineB k (x k)).size ≤ _
    rw [ByteArray.size_append]
    omega

/-- What Text answers: the text, or Check's error. -/
def Txt (x : Nat → Int) (s : ByteArray) (a : Int) : Prop := (a = 0 ∧ Chk x 0 0 ∧ s = textB x 11) ∨ (a ≠ 0 ∧ s = ⟨#[]⟩ ∧ ∃ b, Chk x a b)
def TxtE (x : Nat → Int) (w : World) (e : Ending) (w' : World) : Prop := ∃ s a, e = .returned (.tuple #[.string s, .int .i64 a]) ∧ Txt x s a ∧ Bel w w'

set_option maxRecDepth 100000 in
set_option maxHeartbeats 4000000 in
theorem text (x : Nat → Int) (hx : Kinds x) (w : World) (htab : Tab w) : Calls Tryz.prog 5 #[.agg (recC x).toArray] w (TxtE x w) := by
  obtain ⟨D, hD⟩ : ∃ D, D = recC x := ⟨_, rfl⟩
  obtain ⟨W, hW⟩ : ∃ W, w.alloc (.cells D.toArray 24) = W := ⟨_, rfl⟩
  have B0 := Lib.hid (show Bel w W by rw [← hW]; exact (Bel.refl w).alloc _)
  have R0 := Lib.hid (show W.rangeAt w.heap.size 0 (recC x) by rw [← hW, hD]; exact rngB (Blk.new w (recC x).toArray 24))
  obtain ⟨p, hp⟩ : ∃ p, w.heap.size = p := ⟨_, rfl⟩
  have hpw : p < W.heap.size := by rw [← hW, ← hp]; simp
  rw [hp] at R0
  have HDl := Lib.hid (show D.length = 11 by rw [hD]; rfl)
  have R1 := Lib.hid (show W.rangeAt p 0 D by rw [hD]; exact R0.out)
  have CK := Lib.hid (check x hx)
  rw [← hD] at CK
  rw [← hD]
  have HX := Lib.hid hx
  have HP := Lib.hid hp
  have HW := Lib.hid hW
  have HPW := Lib.hid hpw
  have HT := Lib.hid htab
  clear hx hp hD hW hpw htab
  go_enter Tryz.func5, Tryz.ntmps5
  go_upto_region 1 with fail
  rw [HW.out, HP.out]
  go_wp2_with (refine wpList_load_mid rfl 24 (.tmp 1) rfl p 0 rfl D _ R1.out Tryz.underlying24 rfl (by rw [HDl.out]; exact info_rec) ?_)
  refine (CK.out W).mono ?_
  rintro e w1 ⟨a, b, rfl, hC, k1⟩
  have B1 : Hid (Bel W w1) := Lib.hid k1
  have C1 := Lib.hid hC
  clear k1 hC
  by_cases ha : a = 0
  · subst ha
    obtain rfl := C1.out.zero
    obtain ⟨u, hu⟩ : ∃ u, w1.heap.size = u := ⟨_, rfl⟩
    obtain ⟨w2, hw2⟩ : ∃ w2, w1.alloc (.cells #[.pointer none, .slice none 0 0] 48) = w2 := ⟨_, rfl⟩
    have HU := Lib.hid hu
    have K2 := Lib.hid (show Blk w2 u #[.pointer none, .slice none 0 0] 48 by rw [← hw2, ← hu]; exact Blk.new w1 _ _)
    have B2 := Lib.hid (show Bel w1 w2 by rw [← hw2]; exact (Bel.refl w1).alloc _)
    have SZ := Lib.hid (show w2.heap.size = u + 1 by rw [← hw2, ← hu]; simp)
    have PU := Lib.hid (show p ≠ u ∧ w.heap.size ≤ u by have h1 := HPW.out; have h2 := Below.size B1.out; have h3 := Below.size B0.out; omega)
    have HW2 := Lib.hid hw2
    clear hu hw2
    go_upto_region 5 with fail
    rw [HW2.out, HU.out]
    go_wp2_with fail
    refine (fieldsR p w2).mono ?_
    rintro e w3 ⟨b, rfl, hF, k3⟩
    have B3 : Hid (Bel w2 w3) := Lib.hid k3
    have F3 := Lib.hid hF
    have L3 := Lib.hid (show Bl w3.heap.size u [] w3 from bl_new (K2.out.bel k3))
    have BW := Lib.hid (show Bel w w3 from ((B0.out.trans B1.out).trans B2.out).trans k3)
    have R3 := Lib.hid (show w3.rangeAt p 0 (recC x) from rng_bel (rng_bel (rng_bel R0.out B1.out) B2.out) k3)
    clear k3 hF
    obtain ⟨N3, hN3⟩ : ∃ N3, w3.heap.size = N3 := ⟨_, rfl⟩
    rw [hN3] at L3
    have HN3 := Lib.hid hN3
    have UN := Lib.hid (show u < N3 by have := Below.size B3.out; have := SZ.out; omega)
    clear hN3
    go_wp2_with fail
    go_loopw [19] (fun u19 wr => ∃ k : Nat, u19 = .int .i64 k ∧ k ≤ 11 ∧ Bl N3 u (Lib.strCells (textB x k)) wr ∧ Kep (fun j => j = u ∨ N3 ≤ j) w3 wr) (fun u19 _ => 11 - (intOf u19).toNat)
    case atStart => exact ⟨0, rfl, by omega, L3.out, Kep.refl _ _⟩
    case round =>
      obtain ⟨k, rfl, hk, hbl, hkp⟩ := hrel
      have HB := Lib.hid hbl
      have KP := Lib.hid hkp
      have KQ := Lib.hid (show Kep (fun j => j = u) w3 wr from hkp.mono (fun j hj hS => hS.resolve_right (by have := HN3.out; omega)))
      clear hbl hkp
      by_cases hlt : k < 11
      · obtain ⟨c, h1, h2, h3⟩ := F3.out.all k hlt
        have CU := Lib.hid (show c ≠ u ∧ c < N3 by
          have q1 := World.block_lt_of_cell? w3 _ h2
          have q2 : c < w3.heap.size := q1
          have q3 := SZ.out
          have q4 := HN3.out
          omega)
        have h1 := rng_kep h1 KQ.out (by show ¬ b = u; have := F3.out.new; have := SZ.out; omega)
        have h2 := cell_kep h2 KQ.out CU.out.1
        have hY0 : ∃ Y, Y = fldC (nm k) (lo k) (hi k) (gf k) (sf k) c := ⟨_, rfl⟩
        obtain ⟨Y, hY⟩ := hY0
        rw [← hY] at h1
        have HYl := Lib.hid (show Y.length = 5 by rw [hY]; rfl)
        have YI := Lib.hid (show (Tryz.prog.info? 55).map (·.size) = some Y.length by rw [HYl.out]; exact info_fld)
        have YI2 := Lib.hid (show (Tryz.prog.info? 55).map (·.size) = some Y.toArray.size by rw [List.size_toArray]; exact YI.out)
        have YO := Lib.hid (all_oneCell_toArray (cs := Y) (by rw [hY]; exact fldC_cells _ _ _ _ _ _))
        have HY := Lib.hid hY
        have R2 := Lib.hid h1
        obtain ⟨p1, p2, p3⟩ := put5 wr Y HYl.out
        have P1 := Lib.hid p1
        have P2 := Lib.hid p2
        have P3 := Lib.hid p3
        have C2 := Lib.hid h2
        have C3 := Lib.hid h3
        clear h1 h2 h3 p1 p2 p3 hY
        go_upto_region 8 with (first | (refine wpList_load_mid rfl 55 (.tmp 21) rfl b (k * 5) rfl Y _ R2.out Tryz.underlying55 rfl YI.out ?_) | (refine wpList_store_mid rfl 55 (.tmp 8) (.tmp 22) rfl wr.heap.size 0 Y.toArray rfl rfl P1.out YI2.out YO.out ?_))
        have NF := Lib.hid (show N3 ≤ wr.heap.size by rw [← HN3.out]; exact KP.out.size)
        obtain ⟨f, hf⟩ : ∃ f, wr.heap.size = f := ⟨_, rfl⟩
        obtain ⟨V, hV⟩ : ∃ V, (wr.alloc ZF).setCells wr.heap.size 0 Y = V := ⟨_, rfl⟩
        have hV' := hV
        rw [hf] at hV' ⊢
        rw [hV] at P2 P3
        rw [hf] at P3 NF
        rw [hV']
        clear hV hV' hf
        have HBV := Lib.hid ((HB.out.bel P2.out).bel (Bel.refl V).drew)
        have S0d : Blk V.drew f Y.toArray 55 ∧ V.drew.rangeAt p 0 (recC x) ∧ V.drew.cell? ⟨c, 0, none⟩ = some (.pointer (some ⟨p, k, none⟩)) ∧ Kep (fun j => j = u ∨ N3 ≤ j) w3 V.drew := ⟨P3.out.bel (Bel.refl V).drew, rng_bel (rng_bel (rng_kep R3.out KQ.out PU.out.1) P2.out) (Bel.refl V).drew, cell_bel (cell_bel C2.out P2.out) (Bel.refl V).drew, KP.out.trans (Kep.of_bel (P2.out.drew))⟩
        have KEEP := Lib.hid (show ∀ V V' : World, (Blk V f Y.toArray 55 ∧ V.rangeAt p 0 (recC x) ∧ V.cell? ⟨c, 0, none⟩ = some (.pointer (some ⟨p, k, none⟩)) ∧ Kep (fun j => j = u ∨ N3 ≤ j) w3 V) → Bel V V' → (Blk V' f Y.toArray 55 ∧ V'.rangeAt p 0 (recC x) ∧ V'.cell? ⟨c, 0, none⟩ = some (.pointer (some ⟨p, k, none⟩)) ∧ Kep (fun j => j = u ∨ N3 ≤ j) w3 V') from
          fun V V' h hb => ⟨h.1.bel hb, rng_bel h.2.1 hb, cell_bel h.2.2.1 hb, h.2.2.2.trans (Kep.of_bel hb)⟩)
        have PN := Lib.hid (show p < N3 by have h1 := HPW.out; have h2 := Below.size B1.out; have h3 := Below.size B2.out; have h4 := Below.size B3.out; have h5 := HN3.out; omega)
        have FU := Lib.hid (show f ≠ u by have := UN.out; have := NF.out; omega)
        have KEEP2 := Lib.hid (show ∀ V V' : World, (Blk V f Y.toArray 55 ∧ V.rangeAt p 0 (recC x) ∧ V.cell? ⟨c, 0, none⟩ = some (.pointer (some ⟨p, k, none⟩)) ∧ Kep (fun j => j = u ∨ N3 ≤ j) w3 V) → Kep (fun j => j = u ∨ N3 ≤ j) V V' → (∀ f C t, t ≠ 5 → f ≠ u → Blk V f C t → Blk V' f C t) → (Blk V' f Y.toArray 55 ∧ V'.rangeAt p 0 (recC x) ∧ V'.cell? ⟨c, 0, none⟩ = some (.pointer (some ⟨p, k, none⟩)) ∧ Kep (fun j => j = u ∨ N3 ≤ j) w3 V') from
          fun V V' h hb ht => ⟨ht _ _ _ (by decide) FU.out h.1, rng_kep h.2.1 hb (fun hS => hS.elim PU.out.1 (fun h => by have := PN.out; omega)), cell_kep h.2.2.1 hb (fun hS => hS.elim CU.out.1 (fun h => by have := CU.out.2; omega)), h.2.2.2.trans hb⟩)
        have okx := C1.out.ok.1 k hlt
        have xb := okF_b HX.out k hlt okx
        have lh := lohi k hlt
        have TS := Lib.hid (text_size x (fun i hi => by have h1 := okF_b HX.out i hi (C1.out.ok.1 i hi); have h2 := lohi i hi; omega) k (by omega))
        have LS := Lib.hid (line_size k hlt (x k) (by omega))
        obtain ⟨un, hun⟩ : ∃ un : Nat, x k = (un : Int) := ⟨(x k).toNat, by omega⟩
        obtain ⟨sN, hsN⟩ : ∃ sN, nm k = sN := ⟨_, rfl⟩
        obtain ⟨dd, hdd⟩ : ∃ dd : ByteArray, (⟨(Lib.decDigits un).toArray⟩ : ByteArray) = dd := ⟨_, rfl⟩
        have hline : lineB k (x k) = sN ++ ⟨#[32]⟩ ++ dd ++ ⟨#[10]⟩ := by unfold lineB; rw [hsN, hun, Int.toNat_natCast, hdd]
        have hz0 : sN.size ≤ 10 := by rw [← hsN]; exact nm_size k hlt
        have hz4 : dd.size ≤ 20 := by
          rw [← hdd]
          show (Lib.decDigits un).toArray.size ≤ 20
          rw [List.size_toArray]
          exact dec_size un (by omega)
        have hz1 : sN.size ≤ 9223372036854775806 := by omega
        have hz2 : sN.size + 1 + dd.size ≤ 9223372036854775807 := by omega
        have hz3 : sN.size + 1 + dd.size ≤ 9223372036854775806 := by omega
        have HLN := Lib.hid hline
        have CS := Lib.hid (show ∀ V : World, Blk V f Y.toArray 55 → V.cell? ⟨f, 0, none⟩ = some (.string sN) from fun V h => h.cell 0 (by rw [HY.out, ← hsN]; rfl))
        have C4 := Lib.hid (show ∀ V : World, Blk V f Y.toArray 55 → V.cell? ⟨f, 3, none⟩ = some (.func (.func (gf k)) #[] #[.pointer (some ⟨c, 0, none⟩)]) from fun V h => h.cell 3 (by rw [HY.out]; rfl))
        have GA := Lib.hid (show ∀ V : World, (Blk V f Y.toArray 55 ∧ V.rangeAt p 0 (recC x) ∧ V.cell? ⟨c, 0, none⟩ = some (.pointer (some ⟨p, k, none⟩)) ∧ Kep (fun j => j = u ∨ N3 ≤ j) w3 V) → Calls Tryz.prog (gf k) #[.pointer (some ⟨c, 0, none⟩)] V fun e w' => e = .returned (.int .u64 (un : Int)) ∧ V = w' from fun V h => by
          have := getAt c p k x V hlt h.2.2.1 h.2.1
          rw [wv_ok HX.out k hlt okx, hun] at this
          exact this)
        have FM := Lib.hid (show ∀ V : World, (Blk V f Y.toArray 55 ∧ V.rangeAt p 0 (recC x) ∧ V.cell? ⟨c, 0, none⟩ = some (.pointer (some ⟨p, k, none⟩)) ∧ Kep (fun j => j = u ∨ N3 ≤ j) w3 V) → Calls Tryz.prog 21 #[.int .u64 (un : Int), .int .i64 10] V fun e w' => e = .returned (.string dd) ∧ Bel V w' from fun V h => by
          rw [← hdd]
          exact fmtU un (by omega) V (HT.out.bel (Kep.bel BW.out h.2.2.2 (fun j hj => hj.elim (fun e => by rw [e]; exact PU.out.2) (fun e => by have := Below.size BW.out; have := HN3.out; omega)))))
        have WS := Lib.hid (show ∀ V : World, (Blk V f Y.toArray 55 ∧ V.rangeAt p 0 (recC x) ∧ V.cell? ⟨c, 0, none⟩ = some (.pointer (some ⟨p, k, none⟩)) ∧ Kep (fun j => j = u ∨ N3 ≤ j) w3 V) → Bl N3 u (Lib.strCells (textB x k)) V → Calls Tryz.prog 20 #[.pointer (some ⟨u, 0, none⟩), .string (sN ++ ⟨#[32]⟩ ++ dd ++ ⟨#[10]⟩)] V fun e w' => (∃ n : Int, e = .returned (.tuple #[.int .i64 n, .nilIface])) ∧ Bl N3 u (Lib.strCells (textB x (k + 1))) w' ∧ Kep (fun j => j = u ∨ N3 ≤ j) V w' ∧ (∀ f C t, t ≠ 5 → f ≠ u → Blk V f C t → Blk w' f C t) from fun V h hb => by
          rw [← HLN.out]
          refine (writeS N3 u _ (lineB k (x k)) V hb (by rw [Lib.strCells_length]; have := TS.out; have := LS.out; omega) (by rw [← HN3.out]; exact h.2.2.2.size)).mono ?_
          rintro e w' ⟨h1, h2, h3, h4⟩
          refine ⟨⟨_, h1⟩, ?_, h3, h4⟩
          rw [← strCells_app] at h2
          exact h2)
        have CF := enter_gf k hlt
        obtain ⟨g, hg⟩ : ∃ g, gf k = g := ⟨_, rfl⟩
        rw [hg] at C4 GA CF
        clear hg okx xb lh hun hsN hdd hline hz0 hz4
        refine wp_region_held_drew (S := fun V => Blk V f Y.toArray 55 ∧ V.rangeAt p 0 (recC x) ∧ V.cell? ⟨c, 0, none⟩ = some (.pointer (some ⟨p, k, none⟩)) ∧ Kep (fun j => j = u ∨ N3 ≤ j) w3 V) (by kernel_rfl) S0d (fun hS0 => ?_)
        obtain ⟨w6, hw6⟩ : ∃ w6, V.drew = w6 := ⟨_, rfl⟩
        rw [hw6] at hS0 HBV ⊢
        clear hw6 S0d
        refine wpAnyH_take (i := 0) (oi := { dst := some 23, op := .fieldAddr 55 (.tmp 8) 0, type := 0, pos := "text.go:24", after := #[], guard := none }) (v := .pointer (some ⟨f, 0, none⟩)) rfl (by kernel_rfl) (by kernel_rfl) (by kernel_rfl) (fun _ _ _ h => h) (Or.inl ⟨by rfl, by intro w hSw; clear hSw; go_simp⟩) hS0 ?_
        try simp only [Act.put, List.setIfInBounds_toArray, List.set_cons_zero, List.set_cons_succ]
        refine wpAnyH_take (i := 1) (oi := { dst := some 24, op := .load 9 (.tmp 23), type := 9, pos := "text.go:24", after := #[{ on := 0, ground := .data }], guard := none }) (v := .string sN) rfl (by kernel_rfl) (by kernel_rfl) (by kernel_rfl) (fun _ _ _ h => h) (Or.inl ⟨by rfl, by intro w h; have hcell := (CS.out _ h.1); clear h; go_simp⟩) hS0 ?_
        try simp only [Act.put, List.setIfInBounds_toArray, List.set_cons_zero, List.set_cons_succ]
        refine wpAnyH_take (i := 2) (oi := { dst := some 25, op := .binOp .add 9 (.tmp 24) (.const (Value.string { data := #[32] })) 9, type := 9, pos := "text.go:24", after := #[{ on := 1, ground := .data }], guard := none }) (v := .string (sN ++ ⟨#[32]⟩)) rfl (by kernel_rfl) (by kernel_rfl) (by kernel_rfl) (fun _ _ _ h => h) (Or.inl ⟨by rfl, by intro w hSw; clear hSw; go_simp⟩) hS0 ?_
        try simp only [Act.put, List.setIfInBounds_toArray, List.set_cons_zero, List.set_cons_succ]
        refine wpAnyH_take (i := 3) (oi := { dst := some 26, op := .fieldAddr 55 (.tmp 8) 3, type := 0, pos := "text.go:24", after := #[], guard := none }) (v := .pointer (some ⟨f, 3, none⟩)) rfl (by kernel_rfl) (by kernel_rfl) (by kernel_rfl) (fun _ _ _ h => h) (Or.inl ⟨by rfl, by intro w hSw; clear hSw; go_simp⟩) hS0 ?_
        try simp only [Act.put, List.setIfInBounds_toArray, List.set_cons_zero, List.set_cons_succ]
        refine wpAnyH_take (i := 4) (oi := { dst := some 27, op := .load 52 (.tmp 26), type := 52, pos := "text.go:24", after := #[{ on := 3, ground := .data }], guard := none }) (v := .func (.func g) #[] #[.pointer (some ⟨c, 0, none⟩)]) rfl (by kernel_rfl) (by kernel_rfl) (by kernel_rfl) (fun _ _ _ h => h) (Or.inl ⟨by rfl, by intro w h; have hcell := (C4.out _ h.1); clear h; go_simp⟩) hS0 ?_
        try simp only [Act.put, List.setIfInBounds_toArray, List.set_cons_zero, List.set_cons_succ]
        refine wpAnyH_ready (rs := [5]) (by kernel_rfl) (by simp) ?_
        refine AllReadyH.cons (o := { dst := some 28, op := .call { callee := .value (.tmp 27), args := #[], argTypes := #[] }, type := 22, pos := "text.go:24", after := #[{ on := 4, ground := .data }], guard := none }) rfl (fun K hK => ?_) AllReadyH.nil
        go_simp
        refine (GA.out _ hS0).mono ?_
        rintro e v1 ⟨rfl, rfl⟩
        go_wp2_with fail
        refine hK.out _ _ (hS0) (fun hS1 => ?_)
        clear hK K
        try simp only [Act.put, List.setIfInBounds_toArray, List.set_cons_zero, List.set_cons_succ]
        refine wpAnyH_ready (rs := [6]) (by kernel_rfl) (by simp) ?_
        refine AllReadyH.cons (o := { dst := some 29, op := .call { callee := .value (.func 21), args := #[.tmp 28, .const (Value.int IntKind.i64 10)], argTypes := #[22, 3] }, type := 9, pos := "text.go:24", after := #[{ on := 5, ground := .data }, { on := 5, ground := .chain }], guard := none }) rfl (fun K hK => ?_) AllReadyH.nil
        go_simp
        refine (FM.out _ hS1).mono ?_
        rintro e v2 ⟨rfl, k2⟩
        go_wp2_with fail
        refine hK.out _ _ (KEEP.out _ _ hS1 k2) (fun hS2 => ?_)
        clear hK K
        try simp only [Act.put, List.setIfInBounds_toArray, List.set_cons_zero, List.set_cons_succ]
        refine wpAnyH_take (i := 7) (oi := { dst := some 30, op := .binOp .add 9 (.tmp 25) (.tmp 29) 9, type := 9, pos := "text.go:24", after := #[{ on := 2, ground := .data }, { on := 6, ground := .data }], guard := none }) (v := .string (sN ++ ⟨#[32]⟩ ++ dd)) rfl (by kernel_rfl) (by kernel_rfl) (by kernel_rfl) (fun _ _ _ h => h) (Or.inl ⟨by rfl, by intro w hSw; clear hSw; go_simp⟩) hS2 ?_
        try simp only [Act.put, List.setIfInBounds_toArray, List.set_cons_zero, List.set_cons_succ]
        refine wpAnyH_take (i := 8) (oi := { dst := some 31, op := .binOp .add 9 (.tmp 30) (.const (Value.string { data := #[10] })) 9, type := 9, pos := "text.go:24", after := #[{ on := 7, ground := .data }], guard := none }) (v := .string (sN ++ ⟨#[32]⟩ ++ dd ++ ⟨#[10]⟩)) rfl (by kernel_rfl) (by kernel_rfl) (by kernel_rfl) (fun _ _ _ h => h) (Or.inl ⟨by rfl, by intro w hSw; clear hSw; go_simp⟩) hS2 ?_
        try simp only [Act.put, List.setIfInBounds_toArray, List.set_cons_zero, List.set_cons_succ]
        refine wpAnyH_ready (rs := [9]) (by kernel_rfl) (by simp) ?_
        refine AllReadyH.cons (o := { dst := some 32, op := .call { callee := .value (.func 20), args := #[.tmp 6, .tmp 31], argTypes := #[48, 9] }, type := 58, pos := "text.go:24", after := #[{ on := 8, ground := .data }, { on := 6, ground := .chain }], guard := none }) rfl (fun K hK => ?_) AllReadyH.nil
        go_simp
        refine (WS.out _ hS2 (HBV.out.bel k2)).mono ?_
        rintro e v3 ⟨⟨n3, rfl⟩, l3, k3, t3⟩
        go_wp2_with fail
        refine hK.out _ _ (KEEP2.out _ _ hS2 k3 t3) (fun hS3 => ?_)
        clear hK K
        try simp only [Act.put, List.setIfInBounds_toArray, List.set_cons_zero, List.set_cons_succ]
        refine wpAnyH_done (by kernel_rfl) ?_ _
        have L9 := Lib.hid l3
        have K9 := Lib.hid hS3.2.2.2
        clear l3 k3 t3 hS0 hS1 hS2 hS3 k2 CF hz1 hz2 hz3
        go_wp2_with fail
        refine ⟨⟨k + 1, by go_num, by omega, L9.out, K9.out⟩, ?_⟩
        simp [intOf]; omega
      · obtain rfl : k = 11 := by omega
        have AW := Lib.hid (show w.heap.size ≤ wr.heap.size from Nat.le_trans (Below.size BW.out) KP.out.size)
        have SB := Lib.hid (stringB w.heap.size N3 u (textB x 11) wr HB.out (by rw [← HN3.out]; exact Below.size BW.out) PU.out.2 AW.out)
        go_wp2_with fail
        refine SB.out.mono ?_
        rintro e w5 ⟨rfl, k5⟩
        have K5 := Lib.hid k5
        clear k5
        go_wp2_with fail
        go_ret2
        exact ⟨_, 0, rfl, .inl ⟨rfl, C1.out, rfl⟩, Below.trans (show Below w.heap.size w wr from (Kep.bel BW.out KP.out (fun j hj => hj.elim (fun e => by rw [e]; exact PU.out.2) (fun e => by have := Below.size BW.out; have := HN3.out; omega)))) K5.out⟩
  · go_wp2_with fail
    go_ret2
    exact ⟨⟨#[]⟩, a, rfl, .inr ⟨ha, rfl, b, C1.out⟩, B0.out.trans B1.out⟩
end Pm
end Go.Proofs.YtpohcdfmkcfonaaGreatDoor
end
