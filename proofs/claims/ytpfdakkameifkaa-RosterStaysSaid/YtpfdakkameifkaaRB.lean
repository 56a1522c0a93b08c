/-
  Texts of this claim, put together: Ms, Ro1, Ro4, Ro5. What each one says, and under which conditions, stands ahead of it.
-/
import Derived.Maps.OwnOps
import Derived.Maps.Views
import Derived.Maps.OwnSet
import Derived.WideKeyEntry
import Derived.DeepKeys4
import Derived.Maps.Keyed
import Derived.Test.YtpfdakkameifkaaGPMem
import Derived.Test.YtpfdakkameifkaaRA

section
/-
  A map that the call has made and counts in (m[k]++): an entry is found or made, then stored into. No condition but that the key is one.
-/
namespace Go.Proofs.Ytpfdakkameifkaa
open Go.RowKit Go.Shelf
set_option linter.unusedVariables false
namespace Ms
open Go.Maps Go.WideElems Go.WideMaps Go.ChangeMaps Kk Pm

theorem arr_twice {α : Type} (a : Array α) (b : Nat) (x y : α) : (a.setIfInBounds b x).setIfInBounds b y = a.setIfInBounds b y := by
  apply Array.ext (by simp)
  intro i h1 h2
  rw [Array.getElem_setIfInBounds (by simpa using h1), Array.getElem_setIfInBounds (by simpa using h1)]
  rw [Array.getElem_setIfInBounds (by simpa using h1)]
  split <;> rfl
theorem setBlock_twice (w : World) (b : Nat) (x y : Obj) : setBlock (setBlock w b x) b y = setBlock w b y := by
  unfold setBlock
  rw [arr_twice]
section
variable {H : Type} {P : Program} {w : World} {t k e : TypeId} {R : Value → Option (DataW H × List MemPlace)} {b n : Nat} {D : DataW H}
theorem grown_set {es : Array MapEntry} {clock : Nat} (hb : w.heap[b]? = some (.map es clock)) (o : Obj) : w.grownBy (setBlock w b o) (some b) :=
  ⟨rfl, rfl, rfl, by simp [setBlock], fun i _ hi => heap_setBlock_other hb _ (fun e => hi (by rw [e]))⟩
/-- The two halves of m[k] op= v. -/
theorem own_entry (h : w.ownsMap P k R b n D) (K : KeyLaw P k) (ht : P.underlying t = some (.map k e)) {z : Value} (hz : ∀ u : World, (zeroValue e).run P u = .ok z u) {zd : DataW H} {zp : List MemPlace} (hR : R z = some (zd, zp)) (hn : n < maxLen) {key : Value} {kl : Lit} (hkey : keyOf P k key = some kl) :
    ∃ (v0 : Value) (st : Int) (W1 : World) (D1 : DataW H), (Instr.mapEntry t (.map (some b)) key).run P w = .ok (.tuple #[v0, .int .i64 st]) W1 ∧ w.grownBy W1 (some b) ∧ (W1.ownsMap P k R b (n + 1) D1 ∧ ∀ kl', D1.atKey kl' zd = D.atKey kl' zd) ∧
      ∀ (val : Value) (d : DataW H) (ps : List MemPlace), R val = some (d, ps) → ∃ W2, (Instr.entryStore t (.map (some b)) (.int .i64 st) val).run P W1 = .ok () W2 ∧ W2.ownsMap P k R b (n + 1) (D.put kl d) ∧ w.grownBy W2 (some b) := by
  have h0 := h
  obtain ⟨es, clock, hb, F, hs, rfl⟩ := h
  obtain ⟨v0, st, es1, clock1, h1, _, h2⟩ := entry_then_store K ht hz hb F hkey
  have hD1 : ∃ D1, (setBlock w b (.map es1 clock1)).ownsMap P k R b (n + 1) D1 ∧ ∀ kl', D1.atKey kl' zd = (DataW.map ((es.toList.map (rg P k R)).foldr DataW.insert [])).atKey kl' zd := by
    rcases K.find w hkey es.toList F.keys with ⟨f1, f2⟩ | ⟨j, e0, f1, f2, f3⟩
    · have h1' : (Instr.mapEntry t (.map (some b)) key).run P w = .ok (.tuple #[z, goInt clock]) (setBlock w b (.map (es.push ⟨key, z, clock⟩) (clock + 1))) := by
        simp [Instr.mapEntry, run_underlying ht, MapKept.run_getObj_map hb, K.check w false hkey, f1, hz, MapKept.run_setObj_map _ hb, Result.andThen, setBlock]
      have hu : (Instr.mapUpdate t (.map (some b)) key z).run P w = .ok () (setBlock w b (.map (es.push ⟨key, z, clock⟩) (clock + 1))) := by
        simp [Instr.mapUpdate, run_underlying ht, MapKept.run_getObj_map hb, K.check w false hkey, f1, MapKept.run_setObj_map _ hb, Result.andThen, setBlock]
      obtain ⟨w', h5, h6, h7⟩ := h0.update (Keyed.of_law K) ht hn hkey hR
      rw [hu] at h5
      injection h5 with _ h5
      rw [h1] at h1'
      injection h1' with _ h1'
      refine ⟨(DataW.map ((es.toList.map (rg P k R)).foldr DataW.insert [])).put kl zd, ?_, fun kl' => ?_⟩
      · rw [h1', h5]; exact h6
      · by_cases hk : kl' = kl
        · subst hk
          rw [atKey_put_same ⟨_, rfl⟩ ((Keyed.of_law K).key hkey)]
          rcases Maps.fit_look false (Keyed.of_law K) ht (hz w) hb F hkey with ⟨_, _, hat⟩ | ⟨e0, y, q1, q2, _⟩
          · exact (hat zd).symm
          · exact absurd q2 (f2 e0 q1)
        · rw [atKey_put_other hk]
    · have hj : es[j]? = some e0 := by simpa using f2
      have hsame : es.modify j (fun e => { e with key := key }) = es := by
        apply Array.ext'
        rw [Array.toList_modify, modify_eq_set _ _ _ _ f2]
        have : ({ e0 with key := key } : MapEntry) = e0 := by rw [← f3]
        rw [this]
        exact set_self _ _ _ f2
      have h1' : (Instr.mapEntry t (.map (some b)) key).run P w = .ok (.tuple #[e0.val, goInt e0.born]) (setBlock w b (.map es clock)) := by
        simp [Instr.mapEntry, run_underlying ht, MapKept.run_getObj_map hb, K.check w false hkey, f1, hj, f3, K.stays w hkey, hsame, MapKept.run_setObj_map _ hb, Result.andThen, setBlock]
      rw [h1] at h1'
      injection h1' with _ h1'
      rw [h1']
      exact ⟨DataW.map ((es.toList.map (rg P k R)).foldr DataW.insert []), ⟨es, clock, heap_setBlock_same hb _, F, by omega, rfl⟩, fun kl' => rfl⟩
  obtain ⟨D1, q1, q2⟩ := hD1
  refine ⟨v0, st, setBlock w b (.map es1 clock1), D1, h1, grown_set hb _, ⟨q1, q2⟩, fun val d ps hv => ?_⟩
  obtain ⟨es', clock', h3, h4⟩ := h2 (setBlock w b (.map es1 clock1)) val (heap_setBlock_same hb _)
  obtain ⟨w', h5, h6, h7⟩ := h0.update (Keyed.of_law K) ht hn hkey hv
  rw [h4] at h5
  injection h5 with _ h5
  subst h5
  refine ⟨_, h3, ?_, ?_⟩
  · rw [setBlock_twice]; exact h6
  · rw [setBlock_twice]; exact h7
end
theorem kep_grown {w w' : World} {b : Nat} (h : w.grownBy w' (some b)) : Kep (fun i => i = b) w w' :=
  ⟨h.os, h.tape, h.output, h.size, fun i hi hb => h.block i hi (fun e => hb (by injection e))⟩
end Ms
end Go.Proofs.Ytpfdakkameifkaa
end

section
/-
  What roster's small functions, permits and agrees answer, and the map of operators. Condition: operators are ints.
-/
namespace Go.Proofs.Ytpfdakkameifkaa
open Go.RowKit Go.Shelf
set_option linter.unusedVariables false
set_option linter.unusedSimpArgs false
namespace Ro
open Kk Pm Go.Maps Go.WideElems Go.WideMaps

def I64 (x : Int) : Prop := -9223372036854775808 ≤ x ∧ x ≤ 9223372036854775807
theorem wf64 {a : Int} (h : I64 a) : (Lit.int .i64 a).wf = true := WalkArith.wf_i64 h
theorem underI : Try.prog.underlying 3 = some (.int .i64) := by kernel_rfl
theorem underM : Try.prog.underlying 69 = some (.map 3 3) := by kernel_rfl
theorem zeroI (w : World) : (zeroValue 3).run Try.prog w = .ok (.int .i64 0) w := by kernel_rfl
theorem kI : Keyed Try.prog 3 := int_keyed Try.underlying3
/-- A map of numbers, whose numbers are a function's. -/
def Mo (w : World) (b n : Nat) (f : Int → Option Nat) : Prop :=
  ∃ D : DataW Unit, w.ownsMap Try.prog 3 (plainElem Try.prog 3) b n D ∧ IsMap D ∧ ∀ o, I64 o → Maps.has D (.int .i64 o) = (f o).isSome ∧ D.atKey (.int .i64 o) (.lit (.int .i64 0)) = .lit (.int .i64 ((f o).getD 0 : Nat))
theorem mo_made (w : World) : Mo (w.alloc (.map #[] 0)) w.heap.size 0 (fun _ => none) :=
  ⟨.map [], World.ownsMap_made _ _ _ _, isMap_empty, fun o _ => ⟨rfl, rfl⟩⟩
theorem Mo.bel {w w' : World} {b n : Nat} {f : Int → Option Nat} (h : Mo w b n f) (hb : Bel w w') : Mo w' b n f := by
  obtain ⟨D, h1, h2⟩ := h
  exact ⟨D, h1.kept (row := none) ⟨hb.os, hb.tape, hb.output, hb.size, fun k hk _ => hb.block k hk⟩ (by simp), h2⟩
theorem Mo.lt {w : World} {b n : Nat} {f : Int → Option Nat} (h : Mo w b n f) : b < w.heap.size := by
  obtain ⟨D, h1, _⟩ := h
  exact h1.lt
set_option maxRecDepth 100000 in
theorem mo_look {w : World} {b n : Nat} {f : Int → Option Nat} (h : Mo w b n f) {o : Int} (ho : I64 o) : (Instr.lookup 69 (.map (some b)) (.int .i64 o) false).run Try.prog w = .ok (.int .i64 ((f o).getD 0 : Nat)) w := by
  obtain ⟨D, h1, _, h2⟩ := h
  obtain ⟨c, h3, h4, _⟩ := h1.lookup_int kI underM underI (zeroI w) (keyOf_int_mk underI (wf64 ho))
  rw [(h2 o ho).2] at h4
  injection h4 with h4
  injection h4 with _ h4
  rw [h3, ← h4]
set_option maxRecDepth 100000 in
theorem mo_look_ok {w : World} {b n : Nat} {f : Int → Option Nat} (h : Mo w b n f) {o : Int} (ho : I64 o) : (Instr.lookup 69 (.map (some b)) (.int .i64 o) true).run Try.prog w = .ok (.tuple #[.int .i64 ((f o).getD 0 : Nat), .bool (f o).isSome]) w := by
  obtain ⟨D, h1, _, h2⟩ := h
  obtain ⟨v, ps, h3, h4⟩ := h1.look_ok kI underM (zeroI w) (plainElem_int underI (by decide)) (keyOf_int_mk underI (wf64 ho))
  rw [(h2 o ho).1] at h3
  rw [(h2 o ho).2] at h4
  obtain ⟨a, rfl, h5, _⟩ := plainElem_int_inv underI h4
  injection h5 with h5 _
  injection h5 with h5
  injection h5 with _ h5
  rw [h3, ← h5]
theorem mo_put {w : World} {b n : Nat} {f : Int → Option Nat} (h : Mo w b n f) (hn : n < 1000000001) {o : Int} (ho : I64 o) {i : Nat} (hi : i ≤ 1000000000) :
    ∃ w', (Instr.mapUpdate 69 (.map (some b)) (.int .i64 o) (.int .i64 (i : Int))).run Try.prog w = .ok () w' ∧ w.grownBy w' (some b) ∧ Mo w' b (n + 1) (fun x => if x = o then some i else f x) := by
  obtain ⟨D, h1, hm, h2⟩ := h
  obtain ⟨w', h3, h4, h5⟩ := h1.update kI underM (by unfold maxLen; omega) (keyOf_int_mk underI (wf64 ho)) (plainElem_int underI (wf64 (show I64 (i : Int) by unfold I64; omega)))
  refine ⟨w', h3, h5, _, h4, hm.put _ _, fun x hx => ?_⟩
  show Maps.has _ _ = (if x = o then some i else f x).isSome ∧ DataW.atKey _ _ _ = DataW.lit (.int .i64 (((if x = o then some i else f x).getD 0 : Nat) : Int))
  by_cases he : x = o
  · subst he
    rw [if_pos rfl]
    have hk : WideAt.IsKeyLit (.int .i64 x) := kI.key (keyOf_int_mk underI (wf64 hx))
    exact ⟨has_put_same hm hk _, atKey_put_same hm hk _ _⟩
  · rw [if_neg he]
    have hne : (Lit.int .i64 x) ≠ (Lit.int .i64 o) := fun e => he (by injection e)
    exact ⟨by rw [has_put_other hne]; exact (h2 x hx).1, by rw [atKey_put_other hne]; exact (h2 x hx).2⟩

theorem isAccount (x : Int) (w : World) : Calls Try.prog 52 #[.int .i64 x] w fun e w' => e = .returned (.bool (decide (0 ≤ x ∧ x < 64))) ∧ w = w' := by
  go_enter Try.func52, Try.ntmps52
  by_cases h : 0 ≤ x
  · by_cases h2 : x < 64
    · have hd : decide (0 ≤ x ∧ x < 64) = true := decide_eq_true ⟨h, h2⟩
      rw [hd]
      go_wp2
      go_ret
      exact ⟨rfl, rfl⟩
    · have hd : decide (0 ≤ x ∧ x < 64) = false := decide_eq_false (by omega)
      rw [hd]
      go_wp2
      go_ret
      exact ⟨rfl, rfl⟩
  · have hd : decide (0 ≤ x ∧ x < 64) = false := decide_eq_false (by omega)
    rw [hd]
    go_wp2
    go_ret
    exact ⟨rfl, rfl⟩
theorem isStatus (x : Int) (w : World) : Calls Try.prog 54 #[.int .i64 x] w fun e w' => e = .returned (.bool (decide (1 ≤ x ∧ x ≤ 4))) ∧ w = w' := by
  go_enter Try.func54, Try.ntmps54
  by_cases h : 1 ≤ x
  · by_cases h2 : x ≤ 4
    · have hd : decide (1 ≤ x ∧ x ≤ 4) = true := decide_eq_true ⟨h, h2⟩
      rw [hd]
      go_wp2
      go_ret
      exact ⟨rfl, rfl⟩
    · have hd : decide (1 ≤ x ∧ x ≤ 4) = false := decide_eq_false (by omega)
      rw [hd]
      go_wp2
      go_ret
      exact ⟨rfl, rfl⟩
  · have hd : decide (1 ≤ x ∧ x ≤ 4) = false := decide_eq_false (by omega)
    rw [hd]
    go_wp2
    go_ret
    exact ⟨rfl, rfl⟩
theorem isUntil (x : Int) (w : World) : Calls Try.prog 55 #[.int .i64 x] w fun e w' => e = .returned (.bool (untB x)) ∧ w = w' := by
  unfold untB
  go_enter Try.func55, Try.ntmps55
  by_cases h : 1 ≤ x
  · by_cases h2 : x ≤ 4296015872
    · have hd : decide (1 ≤ x ∧ x ≤ 4296015872) = true := decide_eq_true ⟨h, h2⟩
      rw [hd]
      go_wp2
      go_ret
      exact ⟨rfl, rfl⟩
    · have hd : decide (1 ≤ x ∧ x ≤ 4296015872) = false := decide_eq_false (by omega)
      rw [hd]
      go_wp2
      go_ret
      exact ⟨rfl, rfl⟩
  · have hd : decide (1 ≤ x ∧ x ≤ 4296015872) = false := decide_eq_false (by omega)
    rw [hd]
    go_wp2
    go_ret
    exact ⟨rfl, rfl⟩
theorem untilR (x : Int) (w : World) : Calls Try.prog 66 #[.int .i64 x] w fun e w' => e = .returned (.bool (untB x)) ∧ w = w' := by
  unfold untB
  go_enter Try.func66, Try.ntmps66
  by_cases h : 1 ≤ x
  · by_cases h2 : x ≤ 4296015872
    · have hd : decide (1 ≤ x ∧ x ≤ 4296015872) = true := decide_eq_true ⟨h, h2⟩
      rw [hd]
      go_wp2
      go_ret
      exact ⟨rfl, rfl⟩
    · have hd : decide (1 ≤ x ∧ x ≤ 4296015872) = false := decide_eq_false (by omega)
      rw [hd]
      go_wp2
      go_ret
      exact ⟨rfl, rfl⟩
  · have hd : decide (1 ≤ x ∧ x ≤ 4296015872) = false := decide_eq_false (by omega)
    rw [hd]
    go_wp2
    go_ret
    exact ⟨rfl, rfl⟩
theorem isClass (x : Int) (w : World) : Calls Try.prog 69 #[.int .i64 x] w fun e w' => e = .returned (.bool (decide (x = 1 ∨ x = 2))) ∧ w = w' := by
  go_enter Try.func69, Try.ntmps69
  by_cases h : x = 1
  · subst h
    go_wp2
    go_ret
    exact ⟨rfl, rfl⟩
  · have hb : (x == 1) = false := beq_eq_false_iff_ne.2 h
    by_cases h2 : x = 2
    · subst h2
      go_wp2
      go_ret
      exact ⟨rfl, rfl⟩
    · have hb2 : (x == 2) = false := beq_eq_false_iff_ne.2 h2
      have hd : decide (x = 1 ∨ x = 2) = false := decide_eq_false (by omega)
      rw [hd]
      clear hd h h2
      go_wp2
      go_ret
      exact ⟨rfl, rfl⟩

/-- What a status permits. -/
def rts (s : Int) : Value := .agg #[.bool (!decide (s = 4)), .bool (decide (s = 1) || decide (s = 2)), .bool (decide (s = 2))]
end Ro
end Go.Proofs.Ytpfdakkameifkaa
end

section
/-
  What roster.permits, agrees, operators, Find and Refuse answer of any list of validators. Conditions: at most a billion; operators are ints.
-/
namespace Go.Proofs.Ytpfdakkameifkaa
open Go.RowKit Go.Shelf
set_option linter.unusedVariables false
set_option linter.unusedSimpArgs false
namespace Ro
open Kk Pm Go.Maps Go.WideElems Go.WideMaps

theorem fnd_next1 {l : List V6} {k j : Nat} {r : V6} (hr : l[k]? = some r) (h : fnd (l.take k) (op r) = some j) : fnd (l.take (k + 1)) = fnd (l.take k) := funext fun o => by
  rw [fnd_take hr]
  by_cases ho : op r = o
  · subst ho; rw [h]; rfl
  · rw [if_neg ho]; cases fnd (l.take k) o <;> rfl
theorem fnd_next2 {l : List V6} {k : Nat} {r : V6} (hr : l[k]? = some r) (h : fnd (l.take k) (op r) = none) : (fun x => if x = op r then some k else fnd (l.take k) x) = fnd (l.take (k + 1)) := funext fun o => by
  rw [fnd_take hr]
  by_cases ho : op r = o
  · subst ho; rw [h, if_pos rfl]; simp
  · rw [if_neg ho, if_neg (fun e => ho e.symm)]; cases fnd (l.take k) o <;> rfl
theorem info_rts : (Try.prog.info? 75).map (·.size) = some 3 := by kernel_rfl
set_option maxRecDepth 10000 in
set_option maxHeartbeats 1000000 in
theorem permits (s : Int) (w : World) : Calls Try.prog 61 #[.int .i64 s] w fun e w' => e = .returned (rts s) ∧ Bel w w' := by
  go_enter Try.func61, Try.ntmps61
  by_cases h4 : s = 4
  · subst h4
    go_wp2_with fail
    exact bodyPost_ret (res_c Try.results61 _ _ ⟨w.heap.size, 0, none⟩ (.agg #[.bool false, .bool false, .bool false]) rfl (load_b (C := [.bool false, .bool false, .bool false]) ((Blk.new w _ _).alloc _) Try.underlying75 rfl info_rts)) rfl ⟨rfl, ((Bel.refl w).alloc _).alloc _⟩
  · have e4 : (s == 4) = false := beq_eq_false_iff_ne.2 h4
    by_cases h1 : s = 1
    · subst h1
      go_wp2_with fail
      exact bodyPost_ret (res_c Try.results61 _ _ ⟨w.heap.size, 0, none⟩ (.agg #[.bool true, .bool true, .bool false]) rfl (load_b (C := [.bool true, .bool true, .bool false]) ((Blk.new w _ _).alloc _) Try.underlying75 rfl info_rts)) rfl ⟨rfl, ((Bel.refl w).alloc _).alloc _⟩
    · have e1 : (s == 1) = false := beq_eq_false_iff_ne.2 h1
      by_cases h2 : s = 2
      · subst h2
        go_wp2_with fail
        exact bodyPost_ret (res_c Try.results61 _ _ ⟨w.heap.size, 0, none⟩ (.agg #[.bool true, .bool true, .bool true]) rfl (load_b (C := [.bool true, .bool true, .bool true]) ((Blk.new w _ _).alloc _) Try.underlying75 rfl info_rts)) rfl ⟨rfl, ((Bel.refl w).alloc _).alloc _⟩
      · have e2 : (s == 2) = false := beq_eq_false_iff_ne.2 h2
        have e : rts s = .agg #[.bool true, .bool false, .bool false] := by unfold rts; rw [decide_eq_false h4, decide_eq_false h1, decide_eq_false h2]; rfl
        rw [e]
        clear e h1 h2 h4
        go_wp2_with fail
        exact bodyPost_ret (res_c Try.results61 _ _ ⟨w.heap.size, 0, none⟩ (.agg #[.bool true, .bool false, .bool false]) rfl (load_b (C := [.bool true, .bool false, .bool false]) ((Blk.new w _ _).alloc _) Try.underlying75 rfl info_rts)) rfl ⟨rfl, ((Bel.refl w).alloc _).alloc _⟩
set_option maxRecDepth 10000 in
set_option maxHeartbeats 1000000 in
theorem agrees (x1 x2 x3 x4 : Int) (x5 x6 : Bool) (w : World) : Calls Try.prog 56 #[.agg #[.int .i64 x1, .int .u64 x2, .int .i64 x3, .int .i64 x4, .bool x5, .bool x6]] w fun e w' => e = .returned (.bool (agrB x3 x4 x5 x6)) ∧ Bel w w' := by
  have P0 := Lib.hid (Blk.new w #[.int .i64 x1, .int .u64 x2, .int .i64 x3, .int .i64 x4, .bool x5, .bool x6] 66)
  obtain ⟨V, hV⟩ : ∃ V, w.alloc (.cells #[.int .i64 x1, .int .u64 x2, .int .i64 x3, .int .i64 x4, .bool x5, .bool x6] 66) = V := ⟨_, rfl⟩
  have BV := Lib.hid (show Bel w V by rw [← hV]; exact (Bel.refl w).alloc _)
  rw [hV] at P0
  have c2 := P0.out.cell 2 rfl
  have c3 := P0.out.cell 3 rfl
  have c4 := P0.out.cell 4 rfl
  have c5 := P0.out.cell 5 rfl
  obtain ⟨R, hR⟩ : ∃ R, agrB x3 x4 x5 x6 = R := ⟨_, rfl⟩
  rw [hR]
  go_enter Try.func56, Try.ntmps56
  by_cases h4 : x3 = 4
  · subst h4
    by_cases h0 : x4 = 0
    · subst h0
      cases x5 <;> cases x6 <;> (simp [agrB] at hR; subst hR; clear hV; go_wp2_with fail; go_ret; exact ⟨rfl, (Bel.refl w).alloc _⟩)
    · have e0 : (x4 != 0) = true := by rw [bne_iff_ne]; exact h0
      cases x5 <;> cases x6 <;> (simp [agrB, h0] at hR; subst hR; clear h0 hV; go_wp2_with fail; go_ret; exact ⟨rfl, (Bel.refl w).alloc _⟩)
  · have e4 : (x3 == 4) = false := beq_eq_false_iff_ne.2 h4
    by_cases h3 : x3 = 3
    · subst h3
      by_cases h0 : x4 = 0
      · subst h0
        cases x5 <;> cases x6 <;> (simp [agrB] at hR; subst hR; clear h4 hV; go_wp2_with fail; go_ret; exact ⟨rfl, (Bel.refl w).alloc _⟩)
      · have e0 : (x4 != 0) = true := by rw [bne_iff_ne]; exact h0
        cases x5 <;> cases x6 <;> (simp [agrB, h0] at hR; subst hR; clear h0 h4 hV; go_wp2_with fail; go_ret; exact ⟨rfl, (Bel.refl w).alloc _⟩)
    · have e3 : (x3 == 3) = false := beq_eq_false_iff_ne.2 h3
      by_cases h0 : x4 = 0
      · subst h0
        cases x5 <;> cases x6 <;> (simp [agrB, h4, h3] at hR; subst hR; clear h4 h3 hV; go_wp2_with fail; go_ret; exact ⟨rfl, (Bel.refl w).alloc _⟩)
      · have e0 : (x4 != 0) = true := by rw [bne_iff_ne]; exact h0
        cases x5 <;> cases x6 <;> (simp [agrB, h4, h3, h0] at hR; subst hR; clear h4 h3 h0 hV; go_wp2_with fail; go_ret; exact ⟨rfl, (Bel.refl w).alloc _⟩)
set_option maxRecDepth 100000 in
set_option maxHeartbeats 4000000 in
theorem operators (A : Option Addr) (n c : Nat) (l : List V6) (w : World) (hi : Rw.RS vR w A n c l) (hn : n ≤ 1000000000) (hO : ∀ r ∈ l, I64 (op r)) :
    Calls Try.prog 53 #[.slice A n c] w fun e w' => ∃ m, e = .returned (.map (some m)) ∧ Mo w' m n (fnd l) ∧ Bel w w' := by
  have HR := Lib.hid hi
  have HO := Lib.hid hO
  have hmm := @run_makeMap Try.prog
  clear hi hO
  go_enter Try.func53, Try.ntmps53
  have HM := Lib.hid (mo_made w)
  have BM := Lib.hid ((Bel.refl w).alloc (.map #[] 0))
  have HGE := Lib.hid (Nat.le_refl w.heap.size)
  obtain ⟨m, hm⟩ : ∃ m, w.heap.size = m := ⟨_, rfl⟩
  have HMS := Lib.hid hm
  rw [hm] at HM
  clear hm
  go_wp2_with fail
  try rw [HMS.out]
  go_loopw [11] (fun s11 wr => ∃ k : Nat, k ≤ n ∧ s11 = .int .i64 k ∧ Hid (Mo wr m k (fnd (l.take k))) ∧ Hid (Bel w wr)) (fun s11 _ => n - (intOf s11).toNat)
  case atStart => exact ⟨0, Nat.zero_le _, rfl, HM, BM⟩
  case round =>
    obtain ⟨k, hk, rfl, hmp, hh⟩ := hrel
    by_cases hlt : k < n
    · obtain ⟨⟨r1, r2, r3, r4, r5, r6⟩, hr⟩ := HR.out.get hlt
      obtain ⟨b, q, rfl, hb, hrow⟩ := (HR.out.bel hh.out).at hlt hr
      have HW := Lib.hid (show I64 r1 from HO.out _ (List.mem_of_getElem? hr))
      have HN1 := Lib.hid (fun j => @fnd_next1 l k j _ hr)
      have HN2 := Lib.hid (@fnd_next2 l k _ hr)
      have hlt3 : (k : Int) < n := by omega
      have hlt0 : (0 : Int) ≤ k := by omega
      obtain ⟨c0, c1, c2, c3, c4, c5⟩ := rng6 (show wr.rangeAt b (q + k * 6) [.int .i64 r1, .int .u64 r2, .int .i64 r3, .int .i64 r4, .bool r5, .bool r6] from hrow)
      clear hr hrow
      go_upto_region 5 with fail
      have P0 := Lib.hid (Blk.new wr #[.int .i64 r1, .int .u64 r2, .int .i64 r3, .int .i64 r4, .bool r5, .bool r6] 66)
      obtain ⟨V, hV⟩ : ∃ V, wr.alloc (.cells #[.int .i64 r1, .int .u64 r2, .int .i64 r3, .int .i64 r4, .bool r5, .bool r6] 66) = V := ⟨_, rfl⟩
      have BV := Lib.hid (show Bel w V by rw [← hV]; exact hh.out.alloc _)
      have MV := Lib.hid (show Mo V m k _ by rw [← hV]; exact hmp.out.bel ((Bel.refl _).alloc _))
      rw [hV] at P0 ⊢
      obtain ⟨g, hg⟩ : ∃ g, wr.heap.size = g := ⟨_, rfl⟩
      rw [hg] at P0 ⊢
      clear hV hg c0 c1 c2 c3 c4 c5 hmp
      have c0 := P0.out.cell 0 rfl
      have hLK := mo_look_ok MV.out HW.out
      obtain ⟨w2, hUP, hg2, hM2⟩ := mo_put MV.out (by omega) HW.out (show k ≤ 1000000000 by omega)
      cases hf : fnd (l.take k) r1 with
      | some j =>
        rw [hf] at hLK
        have HNX := Lib.hid (HN1.out j hf)
        clear hUP hg2 hM2 HN1 HN2 hf
        simp only [Option.getD_some, Option.isSome_some] at hLK
        go_wp2_with fail
        go_roundw
        case rel => exact ⟨k + 1, by omega, by go_num, Lib.hid (by rw [HNX.out]; obtain ⟨D, q1, q2⟩ := MV.out; exact ⟨D, q1.mono (by omega), q2⟩), BV⟩
        case measure => simp [intOf]; omega
      | none =>
        rw [hf] at hLK
        have HNX := Lib.hid (HN2.out hf)
        have M2 := Lib.hid hM2
        have G2 := Lib.hid hg2
        clear hg2 hM2 HN1 HN2 hf
        simp only [Option.getD_none, Option.isSome_none] at hLK
        go_wp2_with fail
        go_roundw
        case rel => exact ⟨k + 1, by omega, by go_num, Lib.hid (by rw [← HNX.out]; exact M2.out), Lib.hid (BV.out.grown G2.out (fun x hx => by injection hx with hx; have := HMS.out; omega))⟩
        case measure => simp [intOf]; omega
    · obtain rfl : k = n := by omega
      have HL := Lib.hid (show l.take k = l from List.take_of_length_le (by rw [HR.out.len]; exact Nat.le_refl _))
      rw [HL.out] at hmp
      go_wp2_with fail
      go_ret
      exact ⟨_, rfl, hmp.out, hh.out⟩
set_option maxRecDepth 10000 in
set_option maxHeartbeats 1000000 in
theorem find (A : Option Addr) (n c : Nat) (l : List V6) (o : Int) (w : World) (hi : Rw.RS vR w A n c l) (hn : n ≤ 1000000000) (hO : ∀ r ∈ l, I64 (op r)) (ho : I64 o) :
    Calls Try.prog 17 #[.slice A n c, .int .i64 o] w fun e w' => e = .returned (.tuple #[.int .i64 ((fnd l o).getD 0 : Nat), .bool (fnd l o).isSome]) ∧ Bel w w' := by
  have OP := Lib.hid (operators A n c l w hi hn hO)
  clear hi hO
  go_enter Try.func17, Try.ntmps17
  go_wp2_with fail
  refine OP.out.mono ?_
  rintro e w1 ⟨m, rfl, hm, kb⟩
  have hLK := mo_look_ok hm ho
  have KB := Lib.hid kb
  clear kb hm OP
  go_wp2_with fail
  go_ret2
  exact ⟨rfl, KB.out⟩
set_option maxRecDepth 10000 in
set_option maxHeartbeats 1000000 in
theorem refuse (A : Option Addr) (n c : Nat) (l : List V6) (v : Int) (w : World) (hi : Rw.RS vR w A n c l) (hn : n ≤ 1000000000) :
    Calls Try.prog 24 #[.slice A n c, .int .i64 v] w fun e w' => e = .returned (.int .i64 (reE l v)) ∧ Bel w w' := by
  have HR := Lib.hid hi
  have HL := Lib.hid hi.len
  clear hi
  by_cases h0 : 0 ≤ v
  · obtain ⟨k, rfl⟩ : ∃ k : Nat, v = k := ⟨v.toNat, by omega⟩
    by_cases hlt : k < n
    · obtain ⟨⟨r1, r2, r3, r4, r5, r6⟩, hr⟩ := HR.out.get hlt
      obtain ⟨b, q, rfl, hb, hrow⟩ := HR.out.at hlt hr
      have e : reE l k = if r3 = 4 then 20 else 0 := by
        unfold reE nth
        rw [if_pos h0, Int.toNat_natCast, hr]; rfl
      rw [e]
      clear e
      have hlt3 : (k : Int) < n := by omega
      obtain ⟨c0, c1, c2, c3, c4, c5⟩ := rng6 (show w.rangeAt b (q + k * 6) [.int .i64 r1, .int .u64 r2, .int .i64 r3, .int .i64 r4, .bool r5, .bool r6] from hrow)
      have PE := Lib.hid (permits r3 w)
      clear hr hrow
      unfold rts at PE
      obtain ⟨y, hy⟩ : ∃ y, decide (r3 = 4) = y := ⟨_, rfl⟩
      rw [hy] at PE
      have HY := Lib.hid (show (if r3 = 4 then (20 : Int) else 0) = if y = true then 20 else 0 by rw [← hy]; by_cases h : r3 = 4 <;> simp [h])
      rw [HY.out]
      clear hy HY
      go_enter Try.func24, Try.ntmps24
      go_wp2_with fail
      refine PE.out.mono ?_
      rintro e w1 ⟨rfl, kb⟩
      have KB := Lib.hid kb
      clear kb PE
      cases y
      · have hfd : ∀ W, (Instr.field 75 (.agg #[.bool true, .bool (decide (r3 = 1) || decide (r3 = 2)), .bool (decide (r3 = 2))]) 0).run Try.prog W = .ok (.bool true) W := fun W => by kernel_rfl
        go_wp2_with fail
        go_ret
        exact ⟨rfl, KB.out⟩
      · have hfd : ∀ W, (Instr.field 75 (.agg #[.bool false, .bool (decide (r3 = 1) || decide (r3 = 2)), .bool (decide (r3 = 2))]) 0).run Try.prog W = .ok (.bool false) W := fun W => by kernel_rfl
        go_wp2_with fail
        go_ret
        exact ⟨rfl, KB.out⟩
    · have e : reE l k = 10 := by
        unfold reE nth
        rw [if_pos h0, Int.toNat_natCast, List.getElem?_eq_none (by rw [HL.out]; omega)]; rfl
      rw [e]
      clear e
      have hlt3 : ¬ (k : Int) < n := by omega
      go_enter Try.func24, Try.ntmps24
      go_wp2_with fail
      go_ret
      exact ⟨rfl, Bel.refl _⟩
  · have e : reE l v = 10 := by
      unfold reE nth
      rw [if_neg h0]; rfl
    rw [e]
    clear e
    go_enter Try.func24, Try.ntmps24
    go_wp2_with fail
    go_ret
    exact ⟨rfl, Bel.refl _⟩
end Ro
end Go.Proofs.Ytpfdakkameifkaa
end

section
/-
  What roster.Check answers of any list of validators. Conditions: at most a billion; operators are ints.
-/
namespace Go.Proofs.Ytpfdakkameifkaa
open Go.RowKit Go.Shelf
set_option linter.unusedVariables false
set_option linter.unusedSimpArgs false
namespace Ro
open Kk Pm Go.Maps Go.WideElems Go.WideMaps

theorem vE_3 {h : Bool} {o m s u : Int} {a p : Bool} (h1 : rngB o s u = false) : vE h (o, m, s, u, a, p) = 3 := if_pos h1
theorem vE_2 {h : Bool} {o m s u : Int} {a p : Bool} (h1 : rngB o s u = true) (h2 : m = 0) : vE h (o, m, s, u, a, p) = 2 := by
  show (if rngB o s u = false then (3 : Int) else if m = 0 then 2 else if h = true then 8 else if agrB s u a p = false then 11 else 0) = _
  rw [if_neg (by rw [h1]; decide), if_pos h2]
theorem vE_8 {h : Bool} {o m s u : Int} {a p : Bool} (h1 : rngB o s u = true) (h2 : m ≠ 0) (h3 : h = true) : vE h (o, m, s, u, a, p) = 8 := by
  show (if rngB o s u = false then (3 : Int) else if m = 0 then 2 else if h = true then 8 else if agrB s u a p = false then 11 else 0) = _
  rw [if_neg (by rw [h1]; decide), if_neg h2, if_pos h3]
theorem vE_11 {h : Bool} {o m s u : Int} {a p : Bool} (h1 : rngB o s u = true) (h2 : m ≠ 0) (h3 : h = false) (h4 : agrB s u a p = false) : vE h (o, m, s, u, a, p) = 11 := by
  show (if rngB o s u = false then (3 : Int) else if m = 0 then 2 else if h = true then 8 else if agrB s u a p = false then 11 else 0) = _
  rw [if_neg (by rw [h1]; decide), if_neg h2, if_neg (by rw [h3]; decide), if_pos h4]
theorem vE_0 {h : Bool} {o m s u : Int} {a p : Bool} (h1 : rngB o s u = true) (h2 : m ≠ 0) (h3 : h = false) (h4 : agrB s u a p = true) : vE h (o, m, s, u, a, p) = 0 := by
  show (if rngB o s u = false then (3 : Int) else if m = 0 then 2 else if h = true then 8 else if agrB s u a p = false then 11 else 0) = _
  rw [if_neg (by rw [h1]; decide), if_neg h2, if_neg (by rw [h3]; decide), if_neg (by rw [h4]; decide)]
theorem rng_no1 {o s u : Int} (h : ¬ (0 ≤ o ∧ o < 64)) : rngB o s u = false := decide_eq_false (fun h' => h ⟨h'.1, h'.2.1⟩)
theorem rng_no2 {o s u : Int} (h : ¬ (1 ≤ s ∧ s ≤ 4)) : rngB o s u = false := decide_eq_false (fun h' => h ⟨h'.2.2.1, h'.2.2.2.1⟩)
theorem rng_no3 {o s u : Int} (h0 : u ≠ 0) (h : untB u = false) : rngB o s u = false := decide_eq_false (fun h' => by
  have := of_decide_eq_false h
  omega)
theorem rng_yes0 {o s : Int} (h : 0 ≤ o ∧ o < 64) (h2 : 1 ≤ s ∧ s ≤ 4) : rngB o s 0 = true := decide_eq_true ⟨h.1, h.2, h2.1, h2.2, by omega, by omega⟩
theorem rng_yes {o s u : Int} (h : 0 ≤ o ∧ o < 64) (h2 : 1 ≤ s ∧ s ≤ 4) (h3 : untB u = true) : rngB o s u = true := by
  have := of_decide_eq_true h3
  exact decide_eq_true ⟨h.1, h.2, h2.1, h2.2, by omega, by omega⟩

set_option maxRecDepth 100000 in
set_option maxHeartbeats 8000000 in
theorem check (A : Option Addr) (n c : Nat) (l : List V6) (w : World) (hi : Rw.RS vR w A n c l) (hn : n ≤ 1000000000) (hO : ∀ r ∈ l, I64 (op r)) :
    Calls Try.prog 15 #[.slice A n c] w fun e w' => e = .returned (.tuple #[.int .i64 (chk l).1, .int .i64 (chk l).2]) ∧ Bel w w' := by
  have HR := Lib.hid hi
  have HL := Lib.hid hi.len
  have HO := Lib.hid hO
  have OPS := Lib.hid (operators A n c l w hi hn hO)
  clear hi hO
  by_cases hlong : 32 < n
  · have e : chk l = (4, 32) := chk_long (by rw [HL.out]; exact hlong)
    rw [e]
    clear e
    have hlong3 : (32 : Int) < n := by omega
    clear OPS
    go_enter Try.func15, Try.ntmps15
    go_wp2_with fail
    (try rw [Exit.noGoto_ret])
    go_ret2
    exact ⟨rfl, Bel.refl _⟩
  have HCA := Lib.hid (fun k (h1 : ∀ i, i < k → eA l i = 0) (hk : k < n) (h0 : eA l k ≠ 0) => chk_at (l := l) (k := k) (by rw [HL.out]; exact hlong) h1 (by rw [HL.out]; exact hk) h0)
  have HCE := Lib.hid (fun (h1 : ∀ i, i < n → eA l i = 0) => chk_end (l := l) (by rw [HL.out]; exact hlong) (by rw [HL.out]; exact h1))
  obtain ⟨R, hRR⟩ : ∃ R, chk l = R := ⟨_, rfl⟩
  rw [hRR] at HCA HCE ⊢
  clear hRR
  have hlong3 : ¬ (32 : Int) < n := by omega
  go_enter Try.func15, Try.ntmps15
  go_wp2_with fail
  refine OPS.out.mono ?_
  rintro e w1 ⟨m, rfl, hmo, kb1⟩
  have K1 := Lib.hid kb1
  have MO := Lib.hid hmo
  clear kb1 hmo OPS
  go_wp2_with fail
  go_loopw [2, 3, 14] (fun s2 s3 s14 wr => ∃ k : Nat, k ≤ n ∧ s14 = .int .i64 k ∧ s2 = .int .i64 0 ∧ s3 = .int .i64 0 ∧ Hid ((∀ j, j < k → eA l j = 0) ∧ Bel w1 wr)) (fun _ _ s14 _ => n - (intOf s14).toNat)
  case atStart => exact ⟨0, Nat.zero_le _, rfl, rfl, rfl, Lib.hid ⟨fun j hj => absurd hj (by omega), Bel.refl _⟩⟩
  case round =>
    obtain ⟨k, hk, rfl, rfl, rfl, hh⟩ := hrel
    by_cases hlt : k < n
    · obtain ⟨⟨r1, r2, r3, r4, r5, r6⟩, hr⟩ := HR.out.get hlt
      obtain ⟨b, o, rfl, hb, hrow⟩ := (HR.out.bel (K1.out.trans hh.out.2)).at hlt hr
      obtain ⟨j, hj1, hj2, hj3⟩ := fnd_at hr
      have hEA := eA_at hr
      rw [hj3] at hEA
      have AT := Lib.hid (fun x (hx : vE (decide (j < k)) (r1, r2, r3, r4, r5, r6) = x) (h0 : x ≠ 0) => show R = (x, k) from by
        have := HCA.out k hh.out.1 hlt (by rw [hEA, hx]; exact h0)
        rw [this, hEA, hx])
      have ZT := Lib.hid (fun (hx : vE (decide (j < k)) (r1, r2, r3, r4, r5, r6) = 0) => show eA l k = 0 from hEA.trans hx)
      have HW := Lib.hid (show I64 r1 from HO.out _ (List.mem_of_getElem? hr))
      have HJ := Lib.hid (show fnd l r1 = some j from hj1)
      have hlt3 : (k : Int) < n := by omega
      obtain ⟨c0, c1, c2, c3, c4, c5⟩ := rng6 (show wr.rangeAt b (o + k * 6) [.int .i64 r1, .int .u64 r2, .int .i64 r3, .int .i64 r4, .bool r5, .bool r6] from hrow)
      clear hr hrow hEA hj1 hj3
      go_upto_region 7 with fail
      have P0 := Lib.hid (Blk.new wr #[.int .i64 r1, .int .u64 r2, .int .i64 r3, .int .i64 r4, .bool r5, .bool r6] 66)
      obtain ⟨V, hV⟩ : ∃ V, wr.alloc (.cells #[.int .i64 r1, .int .u64 r2, .int .i64 r3, .int .i64 r4, .bool r5, .bool r6] 66) = V := ⟨_, rfl⟩
      have BV := Lib.hid (show Bel w1 V by rw [← hV]; exact hh.out.2.alloc _)
      rw [hV] at P0 ⊢
      obtain ⟨q, hq⟩ : ∃ q, wr.heap.size = q := ⟨_, rfl⟩
      rw [hq] at P0 ⊢
      clear hV hq c0 c1 c2 c3 c4 c5
      have c0 := P0.out.cell 0 rfl
      have c1 := P0.out.cell 1 rfl
      have c2 := P0.out.cell 2 rfl
      have c3 := P0.out.cell 3 rfl
      have c4 := P0.out.cell 4 rfl
      have c5 := P0.out.cell 5 rfl
      have hLV := load_v P0.out
      have hLK := mo_look (MO.out.bel BV.out) HW.out
      rw [HJ.out] at hLK
      simp only [Option.getD_some] at hLK
      have AG := Lib.hid (agrees r1 r2 r3 r4 r5 r6 V)
      have KV := Lib.hid (K1.out.trans BV.out)
      by_cases h1 : 0 ≤ r1 ∧ r1 < 64
      · skip
        have i1 := isAccount r1 V
        rw [decide_eq_true h1] at i1
        go_wp2_with fail
        refine i1.mono ?_
        rintro e wz ⟨rfl, rfl⟩
        clear i1
        by_cases h2 : 1 ≤ r3 ∧ r3 ≤ 4
        · skip
          have i1 := isStatus r3 V
          rw [decide_eq_true h2] at i1
          go_wp2_with fail
          refine i1.mono ?_
          rintro e wz ⟨rfl, rfl⟩
          clear i1
          by_cases h0 : r4 = 0
          · subst h0
            have HRG := rng_yes0 h1 h2
            clear h1 h2
            by_cases h4 : r2 = 0
            · have hR0 := AT.out _ (vE_2 HRG h4) (by decide)
              subst hR0 h4
              clear AT ZT
              go_wp2_with fail
              (try rw [Exit.noGoto_ret])
              go_ret2
              exact ⟨rfl, KV.out⟩
            · have e4 : (r2 == 0) = false := beq_eq_false_iff_ne.2 h4
              by_cases h5 : j < k
              · have hR0 := AT.out _ (vE_8 HRG h4 (decide_eq_true h5)) (by decide)
                have h53 : (j : Int) < k := by omega
                subst hR0
                clear AT ZT h4
                go_wp2_with fail
                (try rw [Exit.noGoto_ret])
                go_ret2
                exact ⟨rfl, KV.out⟩
              · have h53 : ¬ (j : Int) < k := by omega
                cases h6 : agrB r3 0 r5 r6
                · have hR0 := AT.out _ (vE_11 HRG h4 (decide_eq_false h5) h6) (by decide)
                  rw [h6] at AG
                  subst hR0
                  clear AT ZT h4 h6
                  go_wp2_with fail
                  refine AG.out.mono ?_
                  rintro e w2 ⟨rfl, kb2⟩
                  have K2 := Lib.hid (KV.out.trans kb2)
                  clear kb2 AG
                  go_wp2_with fail
                  (try rw [Exit.noGoto_ret])
                  go_ret2
                  exact ⟨rfl, K2.out⟩
                · have HZ := Lib.hid (ZT.out (vE_0 HRG h4 (decide_eq_false h5) h6))
                  rw [h6] at AG
                  clear AT ZT h4 h6
                  go_wp2_with fail
                  refine AG.out.mono ?_
                  rintro e w2 ⟨rfl, kb2⟩
                  have K2 := Lib.hid (BV.out.trans kb2)
                  clear kb2 AG
                  go_wp2_with fail
                  go_roundw
                  case rel =>
                    refine ⟨k + 1, by omega, by go_num, rfl, rfl, Lib.hid ⟨fun i hi => ?_, K2.out⟩⟩
                    rcases Nat.lt_or_ge i k with h' | h'
                    · exact hh.out.1 i h'
                    · obtain rfl : i = k := by omega
                      exact HZ.out
                  case measure => simp [intOf]; omega
          · have e0 : (r4 != 0) = true := by rw [bne_iff_ne]; exact h0
            cases h3 : untB r4
            · skip
              have hR0 := AT.out _ (vE_3 (rng_no3 h0 h3)) (by decide)
              subst hR0
              clear AT ZT h0
              have i1 := isUntil r4 V
              rw [h3] at i1
              go_wp2_with fail
              refine i1.mono ?_
              rintro e wz ⟨rfl, rfl⟩
              clear i1
              go_wp2_with fail
              (try rw [Exit.noGoto_ret])
              go_ret2
              exact ⟨rfl, KV.out⟩
            · have HRG := rng_yes h1 h2 h3
              clear h1 h2 h0
              have i1 := isUntil r4 V
              rw [h3] at i1
              go_wp2_with fail
              refine i1.mono ?_
              rintro e wz ⟨rfl, rfl⟩
              clear i1
              clear h3
              by_cases h4 : r2 = 0
              · have hR0 := AT.out _ (vE_2 HRG h4) (by decide)
                subst hR0 h4
                clear AT ZT
                go_wp2_with fail
                (try rw [Exit.noGoto_ret])
                go_ret2
                exact ⟨rfl, KV.out⟩
              · have e4 : (r2 == 0) = false := beq_eq_false_iff_ne.2 h4
                by_cases h5 : j < k
                · have hR0 := AT.out _ (vE_8 HRG h4 (decide_eq_true h5)) (by decide)
                  have h53 : (j : Int) < k := by omega
                  subst hR0
                  clear AT ZT h4
                  go_wp2_with fail
                  (try rw [Exit.noGoto_ret])
                  go_ret2
                  exact ⟨rfl, KV.out⟩
                · have h53 : ¬ (j : Int) < k := by omega
                  cases h6 : agrB r3 r4 r5 r6
                  · have hR0 := AT.out _ (vE_11 HRG h4 (decide_eq_false h5) h6) (by decide)
                    rw [h6] at AG
                    subst hR0
                    clear AT ZT h4 h6
                    go_wp2_with fail
                    refine AG.out.mono ?_
                    rintro e w2 ⟨rfl, kb2⟩
                    have K2 := Lib.hid (KV.out.trans kb2)
                    clear kb2 AG
                    go_wp2_with fail
                    (try rw [Exit.noGoto_ret])
                    go_ret2
                    exact ⟨rfl, K2.out⟩
                  · have HZ := Lib.hid (ZT.out (vE_0 HRG h4 (decide_eq_false h5) h6))
                    rw [h6] at AG
                    clear AT ZT h4 h6
                    go_wp2_with fail
                    refine AG.out.mono ?_
                    rintro e w2 ⟨rfl, kb2⟩
                    have K2 := Lib.hid (BV.out.trans kb2)
                    clear kb2 AG
                    go_wp2_with fail
                    go_roundw
                    case rel =>
                      refine ⟨k + 1, by omega, by go_num, rfl, rfl, Lib.hid ⟨fun i hi => ?_, K2.out⟩⟩
                      rcases Nat.lt_or_ge i k with h' | h'
                      · exact hh.out.1 i h'
                      · obtain rfl : i = k := by omega
                        exact HZ.out
                    case measure => simp [intOf]; omega
        · have hR0 := AT.out _ (vE_3 (rng_no2 h2)) (by decide)
          subst hR0
          clear AT ZT
          have i1 := isStatus r3 V
          rw [decide_eq_false h2] at i1
          go_wp2_with fail
          refine i1.mono ?_
          rintro e wz ⟨rfl, rfl⟩
          clear i1
          go_wp2_with fail
          (try rw [Exit.noGoto_ret])
          go_ret2
          exact ⟨rfl, KV.out⟩
      · have hR0 := AT.out _ (vE_3 (rng_no1 h1)) (by decide)
        subst hR0
        clear AT ZT
        have i1 := isAccount r1 V
        rw [decide_eq_false h1] at i1
        go_wp2_with fail
        refine i1.mono ?_
        rintro e wz ⟨rfl, rfl⟩
        clear i1
        go_wp2_with fail
        (try rw [Exit.noGoto_ret])
        go_ret2
        exact ⟨rfl, KV.out⟩
    · obtain rfl : k = n := by omega
      have h0 := HCE.out hh.out.1
      subst h0
      have KV := Lib.hid (K1.out.trans hh.out.2)
      go_wp2_with fail
      (try rw [Exit.noGoto_ret])
      go_ret2
      exact ⟨rfl, KV.out⟩
end Ro
end Go.Proofs.Ytpfdakkameifkaa
end
