/-
  What Hash of a reader answers in this program; distraintkit.Pick; whether a reader has a fault.
  Conditions: the reader is one that NewReader made of at most 10^6 bytes.
-/
import Derived.Test.YtejbhfcmhijfcaaHash3
namespace Go.Proofs.Ytejbhfcmhijfcaa
open Go.RowKit Go.Shelf
set_option linter.unusedVariables false
namespace Cd

def RH (zs : List Int) (k : Nat) (f : Option (Int × Int)) (hs : List Int) (k' : Nat) (f' : Option (Int × Int)) : Prop :=
  (∃ p, f = some p ∧ hs = List.replicate 32 0 ∧ k' = k ∧ f' = f) ∨ (f = none ∧ ((k + 32 ≤ zs.length ∧ hs = (zs.drop k).take 32 ∧ k' = k + 32 ∧ f' = none) ∨ (zs.length < k + 32 ∧ hs = List.replicate 32 0 ∧ k' = k ∧ f' = some (6, (k : Int)))))

theorem RSt.kep0 {S : Nat → Prop} {w w' : World} {b : Nat} {A : Option Addr} {n c : Nat} {zs : List Int} {k : Nat} {F : Option Addr} (h : RSt w b A n c zs k F) (hk : Kep S w w') (h1 : ¬ S b) (h2 : 0 < n → ∀ x : Addr, A = some x → ¬ S x.block) : RSt w' b A n c zs k F := by
  rcases Nat.eq_zero_or_pos n with h0 | h0
  · exact ⟨h.blk.kep hk h1, ⟨⟨h.sl.ints.1, fun hn => absurd hn (by omega)⟩, h.sl.cap, h.sl.nil⟩, h.len, h.bytes, h.le, h.apart⟩
  · exact h.kep hk h1 (h2 h0)
theorem Flt.kep {S : Nat → Prop} {w w' : World} {b : Nat} {F : Option Addr} {f : Option (Int × Int)} (h : Flt w b F f) (hk : Kep S w w') (h2 : ∀ x : Addr, F = some x → ¬ S x.block) : Flt w' b F f := by
  rcases h with h | ⟨e, p, fb, h1, h2', h3, h4, h5⟩
  · exact .inl h
  · exact .inr ⟨e, p, fb, h1, h2', h3, h4.kep hk (h2 _ h2'), h5⟩

theorem blk_there {w : World} {b : Nat} {C : Array Value} {t : TypeId} (h : Blk w b C t) (hn : 32 ≤ C.size) : w.there b 0 32 := fun j hj => by
  rw [Nat.zero_add]
  refine ⟨?_, h.frozen j⟩
  rw [h.cell j (Array.getElem?_eq_getElem (by omega))]
  rfl

set_option maxRecDepth 100000 in
set_option maxHeartbeats 1000000 in
theorem rH_ (b : Nat) (hs : List Int) (P : World → Prop) (w : World) (hl : hs.length = 32)
    (IT : Calls Try.prog 61 #[.pointer (some ⟨b, 0, none⟩), .func (.func 62) #[] #[]] (w.alloc ZO) fun r w1 => r = .returned (hash hs) ∧ P w1 ∧ Kep (fun i => i = b) (w.alloc ZO) w1) (hbl : b < w.heap.size) :
    Calls Try.prog 36 #[.pointer (some ⟨b, 0, none⟩)] w fun e w' => e = .returned (hash hs) ∧ ∃ w1, P w1 ∧ Kep (fun i => i = b) (w.alloc ZO) w1 ∧ w' = w1.setCells w.heap.size 0 (hs.map (Value.int .u8)) := by
  obtain ⟨Y, hY⟩ : ∃ Y, hs.map (Value.int .u8) = Y := ⟨_, rfl⟩
  have HYL := Lib.hid (show Y.length = 32 by rw [← hY]; simpa using hl)
  have HYO := Lib.hid (show ∀ v ∈ Y, v.oneCell' = true by rw [← hY]; exact ints_ok _)
  have e1 : hash hs = .agg Y.toArray := by rw [← hY]
  rw [e1] at IT ⊢
  rw [hY]
  have IT := Lib.hid IT
  clear hY e1
  go_enter Try.func36, Try.ntmps36
  go_wp2_with fail
  refine (IT.out).mono ?_
  rintro r w1 ⟨rfl, hP, hK⟩
  have hz : Y.toArray.size = 32 := by simp [HYL.out]
  have T1 := Lib.hid (show w1.there w.heap.size 0 Y.toArray.size from by
    rw [hz]
    exact blk_there ((Blk.new w Z32 44).kep hK (Nat.ne_of_gt hbl)) (Nat.le_refl _))
  have HI2 := Lib.hid (show (Try.prog.info? 44).map (·.size) = some Y.toArray.size by rw [hz]; exact info_hash)
  have HI := Lib.hid (show (Try.prog.info? 44).map (·.size) = some Y.length by rw [HYL.out]; exact info_hash)
  have HO := Lib.hid (all_oneCell_toArray HYO.out)
  have HP := Lib.hid hP
  have HK := Lib.hid hK
  clear hz hP hK
  go_wp2_with (refine wpList_store_mid rfl 44 (.tmp 2) (.tmp 4) rfl w.heap.size 0 Y.toArray rfl rfl T1.out HI2.out HO.out ?_)
  refine bodyPost_ret (results_c1 Try.results36 _ _ ⟨w.heap.size, 0, none⟩ (.agg Y.toArray) rfl (run_loadVar_mid (P := Try.prog) _ _ _ 44 Y _ (World.rangeAt_setCells_same _ _ _ _ (by have := T1.out; simpa using this)) Try.underlying44 rfl HI.out)) rfl ⟨rfl, w1, HP.out, HK.out, rfl⟩

theorem rH (b : Nat) (zs : List Int) (k : Nat) (f : Option (Int × Int)) (hs : List Int) (k' : Nat) (f' : Option (Int × Int)) (w : World) (h : RS w b zs k f) (hr : RH zs k f hs k' f') :
    Calls Try.prog 36 #[.pointer (some ⟨b, 0, none⟩)] w fun e w' => e = .returned (hash hs) ∧ RS w' b zs k' f' ∧ Kep (fun i => i = b) w w' := by
  have b0 : Bel w (w.alloc ZO) := (Bel.refl w).alloc _
  have hbl : b < w.heap.size := by obtain ⟨A, n, c, F, hs, _⟩ := h; exact hs.blk.lt
  rcases hr with ⟨p, rfl, rfl, rfl, rfl⟩ | ⟨rfl, hr⟩
  · obtain ⟨A, n, c, F, h1, h2⟩ := h.bel b0
    obtain ⟨_, _⟩ | ⟨e, q, fb, h3, rfl, _⟩ := h2
    · contradiction
    refine (rH_ b (List.replicate 32 0) (fun w1 => Bel (w.alloc ZO) w1) w (List.length_replicate) ((itemH_fault b A n c zs k' ⟨fb, 0, none⟩ _ _ h1).mono fun r w1 hr => ⟨hr.1, hr.2, Kep.of_bel hr.2⟩) hbl).mono ?_
    rintro r w' ⟨rfl, w1, hP, hK, rfl⟩
    have hb : Bel w (w1.setCells w.heap.size 0 ((List.replicate 32 (0 : Int)).map (Value.int .u8))) := bel_setCells (b0.trans hP) (Nat.le_refl _) _
    exact ⟨rfl, h.bel hb, Kep.of_bel hb⟩
  · obtain ⟨A, n, c, F, h1, h2⟩ := h
    obtain ⟨_, rfl⟩ | ⟨e, q, fb, h3, _⟩ := h2
    · have hA : 0 < n → ∀ x : Addr, A = some x → x.block ≠ w.heap.size := fun hn x hx => by
        obtain ⟨b', o', h1, h2, _⟩ := h1.sl.ints.2 hn
        rw [h1] at hx
        cases hx
        exact Nat.ne_of_lt h2
      have hlen := h1.sl.len
      have fin : ∀ (ys : List Int), (Calls Try.prog 61 #[.pointer (some ⟨b, 0, none⟩), .func (.func 62) #[] #[]] (w.alloc ZO) fun r w1 => r = .returned (hash ys) ∧ (∃ F', RSt w1 b A n c zs k' F' ∧ Flt w1 b F' f' ∧ ∀ x : Addr, F' = some x → (w.alloc ZO).heap.size ≤ x.block) ∧ Kep (fun i => i = b) (w.alloc ZO) w1) → ys.length = 32 → ys = hs →
          Calls Try.prog 36 #[.pointer (some ⟨b, 0, none⟩)] w fun e w' => e = .returned (hash hs) ∧ RS w' b zs k' f' ∧ Kep (fun i => i = b) w w' := by
        rintro ys hc hl rfl
        refine (rH_ b ys _ w hl hc hbl).mono ?_
        rintro r w' ⟨rfl, w1, ⟨F', h3, h4, h5⟩, hK, rfl⟩
        refine ⟨rfl, ⟨A, n, c, F', h3.kep0 (kep_setCells w.heap.size _ 0 w1) (Nat.ne_of_lt hbl) hA, h4.kep (kep_setCells w.heap.size _ 0 w1) (fun x hx => ?_)⟩, ?_⟩
        · have := h5 x hx
          rw [World.size_alloc] at this
          omega
        · exact kep_new ((Kep.of_bel b0).trans hK) (kep_setCells w.heap.size _ 0 w1)
      rcases hr with ⟨hk, rfl, rfl, rfl⟩ | ⟨hk, rfl, rfl, rfl⟩
      · have hl : ((zs.drop k).take 32).length = 32 := by simp; omega
        have := itemH b A n c zs k ((zs.drop k).take 32) ((k : Int) + 32) 0 0 (k + 32) none (w.alloc ZO) (h1.bel b0) (fun w' hb => hash1_ok A n c zs k w' (h1.sl.bel (b0.trans hb)) h1.len (by omega)) hl (.inl ⟨rfl, by omega, rfl⟩) (by omega) (fun _ => by omega)
        exact fin _ this hl (if_pos rfl)
      · have := itemH b A n c zs k' (List.replicate 32 0) 0 6 (k' : Int) k' (some (6, (k' : Int))) (w.alloc ZO) (h1.bel b0) (fun w' hb => hash1_short A n c k' w' h1.len h1.le (by omega)) List.length_replicate (.inr ⟨by decide, rfl, rfl⟩) h1.le (fun h => absurd h (by decide))
        exact fin _ this (by simp) (by simp)
    · cases h3
end Cd
end Go.Proofs.Ytejbhfcmhijfcaa
