/-
  What New, Copy and the methods of a Hash answer in this program, of one that was made: it holds bytes. Condition: the table of turns lies in its variable.
-/
import Derived.Test.YtaniijpppmipbaaDoorKObj
namespace Go.Proofs.YtaniijpppmipbaaDoor
open Go.RowKit Go.Shelf
set_option linter.unusedVariables false
namespace Kk

/-- A hash that was made, and holds data. -/
def Ob (w : World) (b : Nat) (data : List Int) : Prop := ∃ A r bs c, Sp w b 61 [.pointer (some ⟨b, 0, none⟩)] A r bs (c : Nat) (data.length : Nat) ∧ Hd data A bs c
theorem Ob.bel {w w' : World} {b : Nat} {data : List Int} (h : Ob w b data) (hb : Bel w w') : Ob w' b data := by
  obtain ⟨A, r, bs, c, h1, h2⟩ := h
  exact ⟨A, r, bs, c, h1.bel hb, h2⟩
theorem Ob.kep {S : Nat → Prop} {w w' : World} {b : Nat} {data : List Int} (h : Ob w b data) (hk : Kep S w w') (hs : ¬ S b) : Ob w' b data := by
  obtain ⟨A, r, bs, c, h1, h2⟩ := h
  exact ⟨A, r, bs, c, h1.kep hk hs, h2⟩
theorem Ob.lt {w : World} {b : Nat} {data : List Int} (h : Ob w b data) : b < w.heap.size := by
  obtain ⟨A, r, bs, c, h1, h2⟩ := h
  exact h1.blk.lt
theorem Ob.self {w : World} {b : Nat} {data : List Int} (h : Ob w b data) : w.cell? ⟨b, 0, none⟩ = some (.pointer (some ⟨b, 0, none⟩)) := by
  obtain ⟨A, r, bs, c, h1, h2⟩ := h
  exact h1.blk.cell 0 (by rw [List.getElem?_toArray]; rfl)

set_option maxRecDepth 100000 in
theorem valid1 (b : Nat) (w : World) (c0 : w.cell? ⟨b, 0, none⟩ = some (.pointer (some ⟨b, 0, none⟩))) : Calls Tryd.prog 49 #[.pointer (some ⟨b, 0, none⟩)] w fun e w' => e = .returned (.bool true) ∧ w = w' := by
  have hq := fun (w : World) => eql_self (w := w) 43 61 ⟨b, 0, none⟩ 189 Tryd.underlying43 (fun w => Tryd.sizeOf61 w) (by decide)
  go_enter Tryd.func49, Tryd.ntmps49
  go_wp2
  go_ret
  exact ⟨rfl, rfl⟩

theorem fold_put : ∀ (C : List Value) (k off : Nat) (cells : Array Value), (C.zipIdx k).foldl (fun cs x => cs.setIfInBounds (off + x.2) x.1) cells = putA cells (off + k) C
  | [], _, _, _ => rfl
  | v :: C, k, off, cells => by
    show (C.zipIdx (k + 1)).foldl _ (cells.setIfInBounds (off + k) v) = putA (cells.setIfInBounds (off + k) v) (off + k + 1) C
    rw [fold_put C (k + 1) off]
    rfl
theorem zero_hash : Tryd.zeroCells61 = ([Value.pointer none] ++ (Tryd.zeroCells59.toList ++ [])).toArray := by rfl
theorem build_hash (C : List Value) (hC : C.length = 188) (w : World) : (Instr.build 61 #[(1, .agg C.toArray)]).run Tryd.prog w = .ok (.agg (.pointer none :: C).toArray) w := by
  have hz : ∀ w, (zeroValue 61).run Tryd.prog w = .ok (.agg Tryd.zeroCells61) w := fun w => by kernel_rfl
  have hs : ∀ w, (sizeOf 59).run Tryd.prog w = .ok 188 w := fun w => Tryd.sizeOf59 w
  have hp : ∀ w, (sizeOf 43).run Tryd.prog w = .ok 1 w := fun w => Tryd.sizeOf43 w
  have hq : Tryd.zeroCells61.size = 189 := by rfl
  have hf := fold_put C 0 1 Tryd.zeroCells61
  have hm := putA_mid C Tryd.zeroCells59.toList [.pointer none] [] (by rw [hC]; rfl)
  rw [← zero_hash, List.append_nil] at hm
  simp [Instr.build, hz, run_underlying Tryd.underlying61, hs, hp, Instr.fill, Value.cells, hC, hq]
  exact hf.trans hm

set_option maxRecDepth 100000 in
set_option maxHeartbeats 2000000 in
theorem made (A : List Wd) (r : Int) (bs : List Int) (c : Nat) (data : List Int) (w : World) (hA : A.length = 25) (hd : Hd data A bs c) :
    Calls Tryd.prog 48 #[spV A r bs c (data.length : Nat)] w fun e w' => e = .returned (.pointer (some ⟨w.heap.size + 1, 0, none⟩)) ∧ Ob w' (w.heap.size + 1) data ∧ Bel w w' := by
  obtain ⟨C, hC⟩ : ∃ C, C = spCells A r bs c (data.length : Nat) := ⟨_, rfl⟩
  rw [show spV A r bs c (data.length : Nat) = .agg C.toArray by rw [hC]]
  have hCl : C.length = 188 := by rw [hC]; exact len_sp hA hd.len _ _ _
  have HCi := Lib.hid (show (Tryd.prog.info? 59).map (·.size) = some C.length by rw [hCl]; exact info_sp)
  have HCl := Lib.hid hCl
  have BH := Lib.hid (build_hash C hCl)
  have RC := Lib.hid (show (w.alloc (.cells C.toArray 59)).rangeAt w.heap.size 0 C from blk_range (Blk.new w _ _))
  have HC := Lib.hid hC
  obtain ⟨D, hD⟩ : ∃ D, D = (.pointer none :: C).toArray := ⟨_, rfl⟩
  rw [← hD] at BH
  have HDD := Lib.hid hD
  have BK := Blk.new (w.alloc (.cells C.toArray 59)) D 61
  rw [World.size_alloc] at BK
  have HBK := Lib.hid BK
  have c0 : ((w.alloc (.cells C.toArray 59)).alloc (.cells D 61)).cell? ⟨w.heap.size + 1, 0, none⟩ = some (.pointer none) := BK.cell 0 (by rw [hD]; rfl)
  have f0 := BK.frozen 0
  clear hC hCl hD BK
  go_enter Tryd.func48, Tryd.ntmps48
  go_wp2_with (first | (refine wpList_load_mid rfl 59 (.tmp 1) rfl w.heap.size 0 rfl C _ RC.out Tryd.underlying59 rfl HCi.out ?_) | (refine wpList_build rfl 61 1 (.tmp 4) rfl (.agg C.toArray) (.agg D) rfl BH.out ?_))
  go_ret
  refine ⟨rfl, ⟨A, r, bs, c, ⟨?_, hA, hd.len⟩, hd⟩, ((Bel.refl w).alloc _).alloc _⟩
  have h2 := Blk.new (w.alloc (.cells C.toArray 59)) (D.setIfInBounds 0 (.pointer (some ⟨w.heap.size + 1, 0, none⟩))) 61
  rw [World.size_alloc] at h2
  have e : D.setIfInBounds 0 (.pointer (some ⟨w.heap.size + 1, 0, none⟩)) = ([Value.pointer (some ⟨w.heap.size + 1, 0, none⟩)] ++ spCells A r bs c (data.length : Nat)).toArray := by
    rw [HDD.out, List.setIfInBounds_toArray, HC.out]
    rfl
  rw [← e]
  exact h2

set_option maxRecDepth 100000 in
set_option maxHeartbeats 2000000 in
theorem hNew (w : World) : Calls Tryd.prog 27 #[] w fun e w' => ∃ b, w.heap.size ≤ b ∧ e = .returned (.pointer (some ⟨b, 0, none⟩)) ∧ Ob w' b [] ∧ Bel w w' := by
  have MD := Lib.hid (fun w' => made zero 0 zero136 0 [] w' len_zero (Hd.nil (by simp) (fun z hz => by rw [List.eq_of_mem_replicate hz]; exact ⟨by decide, by decide⟩)))
  go_enter Tryd.func27, Tryd.ntmps27
  go_wp2_with fail
  refine (newSponge _).mono ?_
  rintro e w1 ⟨rfl, h1⟩
  have H1 : Bel w w1 := h1
  go_wp2_with fail
  refine (MD.out _).mono ?_
  rintro e w2 ⟨rfl, h2, k2⟩
  have HO := Lib.hid h2
  have HB := Lib.hid (H1.trans k2)
  have hsz : w.heap.size ≤ w1.heap.size + 1 := by have := Below.size H1; omega
  clear h2 k2 h1
  go_wp2
  go_ret
  exact ⟨_, hsz, rfl, HO.out, HB.out⟩

set_option maxRecDepth 100000 in
set_option maxHeartbeats 2000000 in
theorem hWriteS (b : Nat) (data : List Int) (P : Option Addr) (sn sc : Nat) (zs : List Int) (w : World) (h : Ob w b data) (hz : Ints .u8 w P sn zs) (hcap : sn ≤ sc) (hsc : sc ≤ maxLen) (hzb : By zs) (hne : 0 < sn → ∀ x, P = some x → x.block ≠ b) (hT : Tn w) (hb0 : b ≠ 0) (hl : data.length + sn ≤ 1000000000000) :
    Calls Tryd.prog 29 #[.pointer (some ⟨b, 0, none⟩), .slice P sn sc] w fun e w' => e = .returned (.int .i64 0) ∧ Ob w' b (data ++ zs) ∧ Kep (fun i => i = b) w w' := by
  have VL := Lib.hid (valid1 b w h.self)
  obtain ⟨A, r, bs, c, h1, h2⟩ := h
  have TK := Lib.hid (take b 61 [.pointer (some ⟨b, 0, none⟩)] A r bs c data P sn sc zs w h1 h2 hz hcap hsc hzb hne hT hb0 hl)
  clear h1 h2 hz hcap hsc hzb hne hT
  go_enter Tryd.func29, Tryd.ntmps29
  go_wp2_with fail
  refine (VL.out).mono ?_
  rintro e w' ⟨rfl, rfl⟩
  go_wp2_with fail
  refine (TK.out).mono ?_
  rintro e w2 ⟨rfl, h3, k3⟩
  have HO := Lib.hid (show Ob w2 b (data ++ zs) from h3)
  have HK := Lib.hid k3
  clear h3 k3
  go_wp2
  go_ret
  exact ⟨rfl, HO.out, HK.out⟩

theorem hWrite (b : Nat) (data : List Int) (P : Option Addr) (sn sc : Nat) (zs : List Int) (w : World) (h : Ob w b data) (hz : Ints .u8 w P sn zs) (hcap : sn ≤ sc) (hsc : sc ≤ maxLen) (hzb : By zs) (hne : ∀ x, P = some x → x.block ≠ b) (hT : Tn w) (hb0 : b ≠ 0) (hl : data.length + sn ≤ 1000000000000) :
    Calls Tryd.prog 29 #[.pointer (some ⟨b, 0, none⟩), .slice P sn sc] w fun e w' => e = .returned (.int .i64 0) ∧ Ob w' b (data ++ zs) ∧ Kep (fun i => i = b) w w' :=
  hWriteS b data P sn sc zs w h hz hcap hsc hzb (fun _ => hne) hT hb0 hl

set_option maxRecDepth 100000 in
theorem hLen (b : Nat) (data : List Int) (w : World) (h : Ob w b data) :
    Calls Tryd.prog 32 #[.pointer (some ⟨b, 0, none⟩)] w fun e w' => e = .returned (.int .i64 (data.length : Nat)) ∧ w = w' := by
  have VL := Lib.hid (valid1 b w h.self)
  obtain ⟨A, r, bs, c, h1, h2⟩ := h
  have c0 : w.cell? ⟨b, 188, none⟩ = some (.int .i64 ((data.length : Nat) : Int)) := h1.size
  clear h1 h2
  go_enter Tryd.func32, Tryd.ntmps32
  go_wp2_with fail
  refine (VL.out).mono ?_
  rintro e w' ⟨rfl, rfl⟩
  go_wp2
  go_ret
  exact ⟨rfl, rfl⟩

set_option maxRecDepth 100000 in
set_option maxHeartbeats 2000000 in
theorem hCopy (b : Nat) (data : List Int) (w : World) (h : Ob w b data) :
    Calls Tryd.prog 28 #[.pointer (some ⟨b, 0, none⟩)] w fun e w' => e = .returned (.pointer (some ⟨w.heap.size + 1, 0, none⟩)) ∧ Ob w' (w.heap.size + 1) data ∧ Bel w w' := by
  have VL := Lib.hid (valid1 b w h.self)
  obtain ⟨A, r, bs, c, h1, h2⟩ := h
  have hA := h1.la
  obtain ⟨D, hD⟩ : ∃ D, D = spCells A r bs (c : Nat) (data.length : Nat) := ⟨_, rfl⟩
  have HDi := Lib.hid (show (Tryd.prog.info? 59).map (·.size) = some D.length by rw [hD, len_sp h1.la h1.lb]; exact info_sp)
  have RD := Lib.hid (show w.rangeAt b 1 D by rw [hD]; exact h1.range)
  have MD := Lib.hid (show Calls Tryd.prog 48 #[.agg D.toArray] w fun e w' => e = .returned (.pointer (some ⟨w.heap.size + 1, 0, none⟩)) ∧ Ob w' (w.heap.size + 1) data ∧ Bel w w' by rw [hD]; exact made A r bs c data w hA h2)
  clear h1 h2 hD
  go_enter Tryd.func28, Tryd.ntmps28
  go_wp2_with fail
  refine (VL.out).mono ?_
  rintro e w' ⟨rfl, rfl⟩
  go_wp2_with (refine wpList_load_mid rfl 59 (.tmp 8) rfl b 1 rfl D _ RD.out Tryd.underlying59 rfl HDi.out ?_)
  refine (MD.out).mono ?_
  rintro e w2 ⟨rfl, h2, k2⟩
  have HO := Lib.hid h2
  have HB := Lib.hid k2
  clear h2 k2
  go_wp2
  go_ret
  exact ⟨rfl, HO.out, HB.out⟩

set_option maxRecDepth 100000 in
set_option maxHeartbeats 2000000 in
theorem hSum (b : Nat) (data : List Int) (w : World) (h : Ob w b data) (hT : Tn w) :
    Calls Tryd.prog 31 #[.pointer (some ⟨b, 0, none⟩)] w fun e w' => e = .returned (.tuple #[hsV (sumOf data), .int .i64 0]) ∧ Bel w w' := by
  have B1 := (Bel.refl w).alloc (.cells Z32l.toArray 31)
  obtain ⟨hh, hhh⟩ : ∃ hh, hh = w.heap.size := ⟨_, rfl⟩
  obtain ⟨W, hW⟩ : ∃ W, W = w.alloc (.cells Z32l.toArray 31) := ⟨_, rfl⟩
  rw [← hW] at B1
  have TH := Lib.hid (show W.there hh 0 32 by rw [hW, hhh]; exact there_newK (by decide))
  have h1 := h.bel B1
  have VL := Lib.hid (valid1 b W h1.self)
  obtain ⟨A, r, bs, c, h1, h2⟩ := h1
  have hA := h1.la
  obtain ⟨D, hD⟩ : ∃ D, D = spCells A r bs (c : Nat) (data.length : Nat) := ⟨_, rfl⟩
  have HDi := Lib.hid (show (Tryd.prog.info? 59).map (·.size) = some D.length by rw [hD, len_sp h1.la h1.lb]; exact info_sp)
  have RD := Lib.hid (show W.rangeAt b 1 D by rw [hD]; exact h1.range)
  have SM := Lib.hid (show Calls Tryd.prog 40 #[.agg D.toArray] W fun e w' => e = .returned (hsV (sumOf data)) ∧ Bel W w' by rw [hD]; exact sum A r bs c data (data.length : Nat) W hA h2 (hT.bel B1))
  have HW := Lib.hid hW
  have HB := Lib.hid B1
  have HH := Lib.hid hhh
  clear h1 h2 hD hW h hT hhh B1
  go_enter Tryd.func31, Tryd.ntmps31
  go_upto_region 1 with fail
  rw [← HW.out, ← HH.out]
  go_wp2_with fail
  refine (VL.out).mono ?_
  rintro e w' ⟨rfl, rfl⟩
  go_wp2_with (refine wpList_load_mid rfl 59 (.tmp 10) rfl b 1 rfl D _ RD.out Tryd.underlying59 rfl HDi.out ?_)
  refine (SM.out).mono ?_
  rintro e w2 ⟨rfl, k2⟩
  obtain ⟨Y, hY⟩ : ∃ Y, Y = (sumOf data).map B8 := ⟨_, rfl⟩
  rw [show hsV (sumOf data) = .agg Y.toArray by rw [hY]]
  have HYl := Lib.hid (show Y.length = 32 by rw [hY, List.length_map]; exact len_hashOf _)
  have HYs := Lib.hid (show Y.toArray.size = 32 by rw [List.size_toArray]; exact HYl.out)
  have HYo := Lib.hid (all_oneCell_toArray (cs := Y) (by rw [hY]; exact ints_b8 _))
  have HYi := Lib.hid (show (Tryd.prog.info? 31).map (·.size) = some Y.toArray.size by rw [HYs.out]; exact info_hash)
  have TH2 := Lib.hid (show w2.there hh 0 Y.toArray.size by rw [HYs.out]; exact there_bel TH.out k2)
  have HB2 := Lib.hid (HB.out.trans k2)
  have HY := Lib.hid hY
  clear hY k2
  go_wp2_with (refine wpList_store_mid rfl 31 (.tmp 2) (.tmp 12) rfl hh 0 Y.toArray rfl rfl TH2.out HYi.out HYo.out ?_)
  have RE : (w2.setCells hh 0 Y).rangeAt hh 0 Y := World.rangeAt_setCells_same _ _ _ _ (by have := TH2.out; rw [HYs.out] at this; rw [HYl.out]; exact this)
  refine bodyPost_ret (results_ct Tryd.results31 _ _ ⟨hh, 0, none⟩ (.agg Y.toArray) (.int .i64 0) rfl rfl (run_loadVar_mid (P := Tryd.prog) _ hh 0 31 Y _ RE Tryd.underlying31 rfl (by rw [HYl.out]; exact info_hash))) rfl ⟨by rw [HY.out], ?_⟩
  exact Kep.bel HB2.out (kep_setCellsK hh Y 0 w2) (fun i hi => by rw [hi, HH.out]; exact Nat.le_refl _)
end Kk
end Go.Proofs.YtaniijpppmipbaaDoor
