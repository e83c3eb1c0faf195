/- Proved: what the document's cut answers (stage 11). -/
import Derived.Test.YtoinaplmgffkpaaSplit
namespace Go.Proofs.Ytoinaplmgffkpaa
open Go.RowKit
open Sl (Cel Nod)
theorem res_cct {P : Program} {fn : Func} {p p2 u : Tmp} {ty : TypeId} (h : fn.results = #[.cell p ty, .cell p2 ty, .tmp u]) (tmps : Array Value) (w : World) (g g2 : Nat) (t : TypeId) (cs cs2 : List Value) (d : TypeDesc)
    (hp : tmps.getD p undef = .pointer (some ⟨g, 0, none⟩)) (hg : Brow w g cs t) (hp2 : tmps.getD p2 undef = .pointer (some ⟨g2, 0, none⟩)) (hg2 : Brow w g2 cs2 t) (hu : P.underlying ty = some d) (hd : (match d with | .struct _ | .array _ _ => true | _ => false) = true) (hi : (P.info? ty).map (·.size) = some cs.length) (hi2 : (P.info? ty).map (·.size) = some cs2.length) :
    (results fn tmps).run P w = .ok (.tuple #[.agg cs.toArray, .agg cs2.toArray, tmps.getD u undef]) w := by
  have hp' : tmps[p]?.getD undef = .pointer (some ⟨g, 0, none⟩) := by simpa using hp
  have hp2' : tmps[p2]?.getD undef = .pointer (some ⟨g2, 0, none⟩) := by simpa using hp2
  simp [results, h, hp', hp2', asAddr, run_loadVar_row w g t ty cs.toArray (0, 0) d hg.row hu hd (by simpa using hi), run_loadVar_row w g2 t ty cs2.toArray (0, 0) d hg2.row hu hd (by simpa using hi2)]
def ctL (n : Nod) (k : Nat) : Nod := if n.leaf then ⟨true, n.cells.take k, [], []⟩ else ⟨false, [], n.keys.take k, n.kids.take (k + 1)⟩
def ctR (n : Nod) (k : Nat) : Nod := if n.leaf then ⟨true, n.cells.drop k, [], []⟩ else ⟨false, [], n.keys.drop (k + 1), n.kids.drop (k + 1)⟩
def ctK (n : Nod) (k : Nat) : ByteArray := if n.leaf then (n.cells.getD k Sl.cel0).key else n.keys.getD k ByteArray.empty
structure CtPost (v w : World) (l r : Nod) (k : ByteArray) (e : Ending) (w' : World) : Prop where
  ex : ∃ p1 p2, e = .returned (.tuple #[nv l p1, nv r p2, .string k]) ∧ Lies v l p1 ∧ Lies v r p2 ∧ Below w.heap.size w w'
set_option maxHeartbeats 4000000 in
set_option maxRecDepth 20000 in
theorem rparts_leaf (n : Nod) (p : Pt) (k : Nat) (v w : World) (hV : Lies v n p) (hW : Below v.heap.size v w) (hf : n.leaf = true) (hk : k < n.cells.length) (hl : n.cells.length ≤ 1000) :
    Calls Try.prog 36 #[nv n p, .int .i64 (k : Int)] w (CtPost v w ⟨true, n.cells.take k, [], []⟩ ⟨true, n.cells.drop k, [], []⟩ (n.cells.getD k Sl.cel0).key) := by
  have HL : Hid (Lies w n p) := hV.below hW
  have HV : Hid (Lies v n p) := hV
  clear hV
  obtain ⟨lf, cs, ks, ds⟩ := n
  obtain ⟨a1, c1, a2, c2, a3, c3⟩ := p
  simp only at hf hk hl
  subst hf
  obtain ⟨b, off, hab, hb, hc⟩ := HL.out.r1.cell (Nat.lt_of_le_of_lt (Nat.zero_le _) hk)
  simp only at hab
  subst hab
  have hcx := (hc k hk).key
  have HRW := (show Hid (RowAt v (some ⟨b, off, none⟩) (cvals cs)) from HV.out.r1)
  have hlc : cs.length ≤ c1 := HL.out.l1
  have hcm : c1 ≤ 9223372036854775807 := HL.out.m1
  clear hc HL HV
  unfold nv
  simp only
  generalize (cs.getD k Sl.cel0).key = x at *
  have i0 : (0 : Int) ≤ (k : Int) := by omega
  have i1 : (k : Int) ≤ (c1 : Int) := by omega
  have i2 : (k : Int) ≤ (cs.length : Int) := by omega
  have i3 : ¬ c1 = k := by omega
  have i4 : (k : Int) < (cs.length : Int) := by omega
  have f1 : sliced (some ⟨b, off, none⟩) 0 k c1 4 = .slice (some ⟨b, off, none⟩) k c1 := by rw [sliced_sub, subA_zero]; rfl
  have HN0 := (show Hid (Brow (((w.alloc (.cells #[.bool true, .slice (some ⟨b, off, none⟩) cs.length c1, .slice a2 ks.length c2, .slice a3 ds.length c3] 26)).alloc (.cells #[.bool false, .slice none 0 0, .slice none 0 0, .slice none 0 0] 26)).alloc (.cells #[.bool false, .slice none 0 0, .slice none 0 0, .slice none 0 0] 26)) w.heap.size [.bool true, .slice (some ⟨b, off, none⟩) cs.length c1, .slice a2 ks.length c2, .slice a3 ds.length c3] 26) from ((Brow.new w [.bool true, .slice (some ⟨b, off, none⟩) cs.length c1, .slice a2 ks.length c2, .slice a3 ds.length c3] 26).alloc _).alloc _)
  have HX0 := (show Hid (Brow (((w.alloc (.cells #[.bool true, .slice (some ⟨b, off, none⟩) cs.length c1, .slice a2 ks.length c2, .slice a3 ds.length c3] 26)).alloc (.cells #[.bool false, .slice none 0 0, .slice none 0 0, .slice none 0 0] 26)).alloc (.cells #[.bool false, .slice none 0 0, .slice none 0 0, .slice none 0 0] 26)) (w.heap.size + 1) [.bool false, .slice none 0 0, .slice none 0 0, .slice none 0 0] 26) from by
    have := (Brow.new (w.alloc (.cells #[.bool true, .slice (some ⟨b, off, none⟩) cs.length c1, .slice a2 ks.length c2, .slice a3 ds.length c3] 26)) [.bool false, .slice none 0 0, .slice none 0 0, .slice none 0 0] 26).alloc (.cells #[.bool false, .slice none 0 0, .slice none 0 0, .slice none 0 0] 26)
    rwa [size_alloc1] at this)
  have HY0 := (show Hid (Brow (((w.alloc (.cells #[.bool true, .slice (some ⟨b, off, none⟩) cs.length c1, .slice a2 ks.length c2, .slice a3 ds.length c3] 26)).alloc (.cells #[.bool false, .slice none 0 0, .slice none 0 0, .slice none 0 0] 26)).alloc (.cells #[.bool false, .slice none 0 0, .slice none 0 0, .slice none 0 0] 26)) (w.heap.size + 2) [.bool false, .slice none 0 0, .slice none 0 0, .slice none 0 0] 26) from by
    have := Brow.new ((w.alloc (.cells #[.bool true, .slice (some ⟨b, off, none⟩) cs.length c1, .slice a2 ks.length c2, .slice a3 ds.length c3] 26)).alloc (.cells #[.bool false, .slice none 0 0, .slice none 0 0, .slice none 0 0] 26)) [.bool false, .slice none 0 0, .slice none 0 0, .slice none 0 0] 26
    rwa [size_alloc1, size_alloc1] at this)
  have HB0 := (show Hid (Below w.heap.size w (((w.alloc (.cells #[.bool true, .slice (some ⟨b, off, none⟩) cs.length c1, .slice a2 ks.length c2, .slice a3 ds.length c3] 26)).alloc (.cells #[.bool false, .slice none 0 0, .slice none 0 0, .slice none 0 0] 26)).alloc (.cells #[.bool false, .slice none 0 0, .slice none 0 0, .slice none 0 0] 26))) from ((below_alloc _ _).alloc (by rw [size_alloc1]; omega) _).alloc (by rw [size_alloc1, size_alloc1]; omega) _)
  have hs0 : w.heap.size + 3 ≤ (((w.alloc (.cells #[.bool true, .slice (some ⟨b, off, none⟩) cs.length c1, .slice a2 ks.length c2, .slice a3 ds.length c3] 26)).alloc (.cells #[.bool false, .slice none 0 0, .slice none 0 0, .slice none 0 0] 26)).alloc (.cells #[.bool false, .slice none 0 0, .slice none 0 0, .slice none 0 0] 26)).heap.size := by rw [size_alloc1, size_alloc1, size_alloc1]; omega
  go_enter Try.func36, Try.ntmps36
  go_upto_region 2 with fail
  generalize (((w.alloc (.cells #[.bool true, .slice (some ⟨b, off, none⟩) cs.length c1, .slice a2 ks.length c2, .slice a3 ds.length c3] 26)).alloc (.cells #[.bool false, .slice none 0 0, .slice none 0 0, .slice none 0 0] 26)).alloc (.cells #[.bool false, .slice none 0 0, .slice none 0 0, .slice none 0 0] 26)) = wI at *
  have HS0 := (show Hid ((fun W : World => Brow W w.heap.size [.bool true, .slice (some ⟨b, off, none⟩) cs.length c1, .slice a2 ks.length c2, .slice a3 ds.length c3] 26 ∧ W.cell? ⟨b, off + k * 4, none⟩ = some (.string x)) wI.drew) from ⟨HN0.out.drew, (HB0.out.drew.cell (p := ⟨b, off + k * 4, none⟩) hb).trans hcx⟩)
  have HX1 := HX0.out.drew
  have HY1 := HY0.out.drew
  have HB1 := HB0.out.drew
  have hs1 : w.heap.size + 3 ≤ wI.drew.heap.size := hs0
  clear HN0 HX0 HY0 HB0 hs0
  refine wp_region_held_drew (S := (fun W : World => Brow W w.heap.size [.bool true, .slice (some ⟨b, off, none⟩) cs.length c1, .slice a2 ks.length c2, .slice a3 ds.length c3] 26 ∧ W.cell? ⟨b, off + k * 4, none⟩ = some (.string x))) (by kernel_rfl) HS0.out (fun _ => ?_)
  generalize wI.drew = wd at *
  have HX0 : Hid (Brow wd (w.heap.size + 1) [.bool false, .slice none 0 0, .slice none 0 0, .slice none 0 0] 26) := HX1
  have HY0 : Hid (Brow wd (w.heap.size + 2) [.bool false, .slice none 0 0, .slice none 0 0, .slice none 0 0] 26) := HY1
  have HB0 : Hid (Below w.heap.size w wd) := HB1
  clear HX1 HY1 HB1
  refine heldTake 0 (some 9) (.pointer (some ⟨w.heap.size, 1, none⟩)) rfl rfl (by kernel_rfl) (by kernel_rfl) (by kernel_rfl) (fun _ _ _ h => h) (Or.inl ⟨by rfl, fun w hS => ?_⟩) HS0.out ?_
  · (go_simp)
  simp only [Act.put, List.setIfInBounds_toArray, List.set_cons_zero, List.set_cons_succ]
  refine heldTake 1 (some 10) (.slice (some ⟨b, off, none⟩) cs.length c1) rfl rfl (by kernel_rfl) (by kernel_rfl) (by kernel_rfl) (fun _ _ _ h => h) (Or.inl ⟨by rfl, fun w hS => ?_⟩) HS0.out ?_
  · (have q := hS.1.at 1 _ rfl; go_simp)
  simp only [Act.put, List.setIfInBounds_toArray, List.set_cons_zero, List.set_cons_succ]
  refine heldTake 2 (some 11) (.int .i64 (k : Int)) rfl rfl (by kernel_rfl) (by kernel_rfl) (by kernel_rfl) (fun _ _ _ h => h) (Or.inl ⟨by rfl, fun w hS => ?_⟩) HS0.out ?_
  · (go_simp)
  simp only [Act.put, List.setIfInBounds_toArray, List.set_cons_zero, List.set_cons_succ]
  refine heldTake 3 (some 12) (.slice (some ⟨b, off, none⟩) k c1) rfl rfl (by kernel_rfl) (by kernel_rfl) (by kernel_rfl) (fun _ _ _ h => h) (Or.inl ⟨by rfl, fun w hS => ?_⟩) HS0.out ?_
  · (go_simp)
  simp only [Act.put, List.setIfInBounds_toArray, List.set_cons_zero, List.set_cons_succ]
  refine heldTake 4 (some 13) (.agg #[.bool true, .slice (some ⟨b, off, none⟩) k c1, .slice none 0 0, .slice none 0 0]) rfl rfl (by kernel_rfl) (by kernel_rfl) (by kernel_rfl) (fun _ _ _ h => h) (Or.inl ⟨by rfl, fun w hS => ?_⟩) HS0.out ?_
  · (go_simp)
  simp only [Act.put, List.setIfInBounds_toArray, List.set_cons_zero, List.set_cons_succ]
  refine heldTake 5 (some 14) (.pointer (some ⟨w.heap.size, 1, none⟩)) rfl rfl (by kernel_rfl) (by kernel_rfl) (by kernel_rfl) (fun _ _ _ h => h) (Or.inl ⟨by rfl, fun w hS => ?_⟩) HS0.out ?_
  · (go_simp)
  simp only [Act.put, List.setIfInBounds_toArray, List.set_cons_zero, List.set_cons_succ]
  refine heldTake 6 (some 15) (.slice (some ⟨b, off, none⟩) cs.length c1) rfl rfl (by kernel_rfl) (by kernel_rfl) (by kernel_rfl) (fun _ _ _ h => h) (Or.inl ⟨by rfl, fun w hS => ?_⟩) HS0.out ?_
  · (have q := hS.1.at 1 _ rfl; go_simp)
  simp only [Act.put, List.setIfInBounds_toArray, List.set_cons_zero, List.set_cons_succ]
  refine heldTake 7 (some 16) (.int .i64 (k : Int)) rfl rfl (by kernel_rfl) (by kernel_rfl) (by kernel_rfl) (fun _ _ _ h => h) (Or.inl ⟨by rfl, fun w hS => ?_⟩) HS0.out ?_
  · (go_simp)
  simp only [Act.put, List.setIfInBounds_toArray, List.set_cons_zero, List.set_cons_succ]
  refine heldTake 8 (some 17) (.slice (some ⟨b, off + k * 4, none⟩) (cs.length - k) (c1 - k)) rfl rfl (by kernel_rfl) (by kernel_rfl) (by kernel_rfl) (fun _ _ _ h => h) (Or.inl ⟨by rfl, fun w hS => ?_⟩) HS0.out ?_
  · (go_simp)
  simp only [Act.put, List.setIfInBounds_toArray, List.set_cons_zero, List.set_cons_succ]
  refine heldTake 9 (some 18) (.agg #[.bool true, .slice (some ⟨b, off + k * 4, none⟩) (cs.length - k) (c1 - k), .slice none 0 0, .slice none 0 0]) rfl rfl (by kernel_rfl) (by kernel_rfl) (by kernel_rfl) (fun _ _ _ h => h) (Or.inl ⟨by rfl, fun w hS => ?_⟩) HS0.out ?_
  · (go_simp)
  simp only [Act.put, List.setIfInBounds_toArray, List.set_cons_zero, List.set_cons_succ]
  refine heldTake 10 (some 19) (.pointer (some ⟨w.heap.size, 1, none⟩)) rfl rfl (by kernel_rfl) (by kernel_rfl) (by kernel_rfl) (fun _ _ _ h => h) (Or.inl ⟨by rfl, fun w hS => ?_⟩) HS0.out ?_
  · (go_simp)
  simp only [Act.put, List.setIfInBounds_toArray, List.set_cons_zero, List.set_cons_succ]
  refine heldTake 11 (some 20) (.slice (some ⟨b, off, none⟩) cs.length c1) rfl rfl (by kernel_rfl) (by kernel_rfl) (by kernel_rfl) (fun _ _ _ h => h) (Or.inl ⟨by rfl, fun w hS => ?_⟩) HS0.out ?_
  · (have q := hS.1.at 1 _ rfl; go_simp)
  simp only [Act.put, List.setIfInBounds_toArray, List.set_cons_zero, List.set_cons_succ]
  refine heldTake 12 (some 21) (.int .i64 (k : Int)) rfl rfl (by kernel_rfl) (by kernel_rfl) (by kernel_rfl) (fun _ _ _ h => h) (Or.inl ⟨by rfl, fun w hS => ?_⟩) HS0.out ?_
  · (go_simp)
  simp only [Act.put, List.setIfInBounds_toArray, List.set_cons_zero, List.set_cons_succ]
  refine heldTake 13 (some 22) (.pointer (some ⟨b, off + k * 4, none⟩)) rfl rfl (by kernel_rfl) (by kernel_rfl) (by kernel_rfl) (fun _ _ _ h => h) (Or.inl ⟨by rfl, fun w hS => ?_⟩) HS0.out ?_
  · (go_simp)
  simp only [Act.put, List.setIfInBounds_toArray, List.set_cons_zero, List.set_cons_succ]
  refine heldTake 14 (some 23) (.pointer (some ⟨b, off + k * 4, none⟩)) rfl rfl (by kernel_rfl) (by kernel_rfl) (by kernel_rfl) (fun _ _ _ h => h) (Or.inl ⟨by rfl, fun w hS => ?_⟩) HS0.out ?_
  · (go_simp)
  simp only [Act.put, List.setIfInBounds_toArray, List.set_cons_zero, List.set_cons_succ]
  refine heldTake 15 (some 24) (.string x) rfl rfl (by kernel_rfl) (by kernel_rfl) (by kernel_rfl) (fun _ _ _ h => h) (Or.inl ⟨by rfl, fun w hS => ?_⟩) HS0.out ?_
  · (have q := hS.2; go_simp)
  simp only [Act.put, List.setIfInBounds_toArray, List.set_cons_zero, List.set_cons_succ]
  have HSA := (show Hid ((fun W : World => Brow W w.heap.size [.bool true, .slice (some ⟨b, off, none⟩) cs.length c1, .slice a2 ks.length c2, .slice a3 ds.length c3] 26 ∧ W.cell? ⟨b, off + k * 4, none⟩ = some (.string x)) (setN wd (w.heap.size + 1) (.bool true) (.slice (some ⟨b, off, none⟩) k c1) (.slice none 0 0) (.slice none 0 0))) from ⟨setN_far HS0.out.1 (by omega) _ _ _ _, ((setN_below (Below.refl (w.heap.size) wd) (by omega) _ _ _ _).cell (p := ⟨b, off + k * 4, none⟩) hb).trans HS0.out.2⟩)
  have HXA := (show Hid (Brow (setN wd (w.heap.size + 1) (.bool true) (.slice (some ⟨b, off, none⟩) k c1) (.slice none 0 0) (.slice none 0 0)) (w.heap.size + 1) [.bool true, .slice (some ⟨b, off, none⟩) k c1, .slice none 0 0, .slice none 0 0] 26) from setN_row HX0.out _ _ _ _)
  have HYA := (show Hid (Brow (setN wd (w.heap.size + 1) (.bool true) (.slice (some ⟨b, off, none⟩) k c1) (.slice none 0 0) (.slice none 0 0)) (w.heap.size + 2) [.bool false, .slice none 0 0, .slice none 0 0, .slice none 0 0] 26) from setN_far HY0.out (by omega) _ _ _ _)
  have HBA := (show Hid (Below w.heap.size w (setN wd (w.heap.size + 1) (.bool true) (.slice (some ⟨b, off, none⟩) k c1) (.slice none 0 0) (.slice none 0 0))) from setN_below HB0.out (by omega) _ _ _ _)
  have y_0 := HX0.out.at 0 _ rfl
  have y_1 := HX0.out.at 1 _ rfl
  have y_2 := HX0.out.at 2 _ rfl
  have y_3 := HX0.out.at 3 _ rfl
  have z_0 := HX0.out.fz 0
  have z_1 := HX0.out.fz 1
  have z_2 := HX0.out.fz 2
  have z_3 := HX0.out.fz 3
  unfold setN at HSA HXA HYA HBA
  refine heldOne 16 (by kernel_rfl) rfl (by rfl) (fun KK hK => ?_)
  go_simp
  refine hK.out _ _ HSA.out ?_
  clear hK KK
  try simp only [Act.put, List.setIfInBounds_toArray, List.set_cons_zero, List.set_cons_succ]
  clear y_0 y_1 y_2 y_3 z_0 z_1 z_2 z_3 HS0 HX0 HY0 HB0
  generalize ((((wd.setCell ⟨w.heap.size + 1, 0, none⟩ (.bool true)).setCell ⟨w.heap.size + 1, 1, none⟩ (.slice (some ⟨b, off, none⟩) k c1)).setCell ⟨w.heap.size + 1, 2, none⟩ (.slice none 0 0)).setCell ⟨w.heap.size + 1, 3, none⟩ (.slice none 0 0)) = wA at *
  have HSB := (show Hid ((fun W : World => Brow W w.heap.size [.bool true, .slice (some ⟨b, off, none⟩) cs.length c1, .slice a2 ks.length c2, .slice a3 ds.length c3] 26 ∧ W.cell? ⟨b, off + k * 4, none⟩ = some (.string x)) (setN wA (w.heap.size + 2) (.bool true) (.slice (some ⟨b, off + k * 4, none⟩) (cs.length - k) (c1 - k)) (.slice none 0 0) (.slice none 0 0))) from ⟨setN_far HSA.out.1 (by omega) _ _ _ _, ((setN_below (Below.refl (w.heap.size) wA) (by omega) _ _ _ _).cell (p := ⟨b, off + k * 4, none⟩) hb).trans HSA.out.2⟩)
  have HXB := (show Hid (Brow (setN wA (w.heap.size + 2) (.bool true) (.slice (some ⟨b, off + k * 4, none⟩) (cs.length - k) (c1 - k)) (.slice none 0 0) (.slice none 0 0)) (w.heap.size + 1) [.bool true, .slice (some ⟨b, off, none⟩) k c1, .slice none 0 0, .slice none 0 0] 26) from setN_far HXA.out (by omega) _ _ _ _)
  have HYB := (show Hid (Brow (setN wA (w.heap.size + 2) (.bool true) (.slice (some ⟨b, off + k * 4, none⟩) (cs.length - k) (c1 - k)) (.slice none 0 0) (.slice none 0 0)) (w.heap.size + 2) [.bool true, .slice (some ⟨b, off + k * 4, none⟩) (cs.length - k) (c1 - k), .slice none 0 0, .slice none 0 0] 26) from setN_row HYA.out _ _ _ _)
  have HBB := (show Hid (Below w.heap.size w (setN wA (w.heap.size + 2) (.bool true) (.slice (some ⟨b, off + k * 4, none⟩) (cs.length - k) (c1 - k)) (.slice none 0 0) (.slice none 0 0))) from setN_below HBA.out (by omega) _ _ _ _)
  have y_0 := HYA.out.at 0 _ rfl
  have y_1 := HYA.out.at 1 _ rfl
  have y_2 := HYA.out.at 2 _ rfl
  have y_3 := HYA.out.at 3 _ rfl
  have z_0 := HYA.out.fz 0
  have z_1 := HYA.out.fz 1
  have z_2 := HYA.out.fz 2
  have z_3 := HYA.out.fz 3
  unfold setN at HSB HXB HYB HBB
  refine heldOne 17 (by kernel_rfl) rfl (by rfl) (fun KK hK => ?_)
  go_simp
  refine hK.out _ _ HSB.out ?_
  clear hK KK
  try simp only [Act.put, List.setIfInBounds_toArray, List.set_cons_zero, List.set_cons_succ]
  clear y_0 y_1 y_2 y_3 z_0 z_1 z_2 z_3 HSA HXA HYA HBA
  generalize ((((wA.setCell ⟨w.heap.size + 2, 0, none⟩ (.bool true)).setCell ⟨w.heap.size + 2, 1, none⟩ (.slice (some ⟨b, off + k * 4, none⟩) (cs.length - k) (c1 - k))).setCell ⟨w.heap.size + 2, 2, none⟩ (.slice none 0 0)).setCell ⟨w.heap.size + 2, 3, none⟩ (.slice none 0 0)) = wB at *
  refine heldTake 18 (some 6) (.string x) rfl rfl (by kernel_rfl) (by kernel_rfl) (by kernel_rfl) (fun _ _ _ h => h) (Or.inl ⟨by rfl, fun w hS => ?_⟩) HSB.out ?_
  · (go_simp)
  simp only [Act.put, List.setIfInBounds_toArray, List.set_cons_zero, List.set_cons_succ]
  refine wpAnyH_done (by kernel_rfl) ?_ _
  go_wp2
  refine bodyPost_ret (res_cct rfl _ _ (w.heap.size + 1) (w.heap.size + 2) 26 _ _ _ rfl HXB.out rfl HYB.out Try.underlying26 rfl (by kernel_rfl) (by kernel_rfl)) rfl ?_
  have e1 : (cs.take k).length = k := by rw [List.length_take]; omega
  have e2 : (cs.drop k).length = cs.length - k := List.length_drop ..
  refine ⟨⟨⟨(some ⟨b, off, none⟩), c1, none, 0, none, 0⟩, ⟨some ⟨b, off + k * 4, none⟩, c1 - k, none, 0, none, 0⟩, by unfold nv; simp only [e1, e2, List.length_nil]; rfl, ?_, ?_, HBB.out⟩⟩
  · exact ⟨by rw [cvals_take]; exact HRW.out.take _, .inl rfl, .inl rfl, by show (cs.take k).length ≤ c1; omega, Nat.le_refl _, Nat.le_refl _, hcm, by show 0 ≤ 9223372036854775807; omega, by show 0 ≤ 9223372036854775807; omega⟩
  · exact ⟨by rw [cvals_drop]; exact HRW.out.drop _, .inl rfl, .inl rfl, by show (cs.drop k).length ≤ c1 - k; omega, Nat.le_refl _, Nat.le_refl _, by show c1 - k ≤ 9223372036854775807; omega, by show 0 ≤ 9223372036854775807; omega, by show 0 ≤ 9223372036854775807; omega⟩
set_option maxHeartbeats 4000000 in
set_option maxRecDepth 20000 in
theorem rparts_branch (n : Nod) (p : Pt) (k : Nat) (v w : World) (hV : Lies v n p) (hW : Below v.heap.size v w) (hf : n.leaf = false) (hk : k + 1 < n.keys.length) (hl : n.keys.length ≤ 900) (hkd : n.kids.length = n.keys.length + 1) :
    Calls Try.prog 36 #[nv n p, .int .i64 (k : Int)] w (CtPost v w ⟨false, [], n.keys.take k, n.kids.take (k + 1)⟩ ⟨false, [], n.keys.drop (k + 1), n.kids.drop (k + 1)⟩ (n.keys.getD k ByteArray.empty)) := by
  have HL : Hid (Lies w n p) := hV.below hW
  have HV : Hid (Lies v n p) := hV
  clear hV
  obtain ⟨lf, cs, ks, ds⟩ := n
  obtain ⟨a1, c1, a2, c2, a3, c3⟩ := p
  simp only at hf hk hl hkd
  subst hf
  obtain ⟨bk, fk, hab, hb, hc⟩ := HL.out.r2.keyAt (Nat.lt_of_le_of_lt (Nat.zero_le _) hk)
  simp only at hab
  subst hab
  obtain ⟨bd, fd, hab, hbd, _⟩ := HL.out.r3.intAt (show 0 < ds.length by omega)
  simp only at hab
  subst hab
  have hcx := hc k (by show k < ks.length; omega)
  have HRW := (show Hid (RowAt v (some ⟨bk, fk, none⟩) (kcells ks) ∧ RowAt v (some ⟨bd, fd, none⟩) (icells ds)) from ⟨HV.out.r2, HV.out.r3⟩)
  have hlc : ks.length ≤ c2 := HL.out.l2
  have hcm : c2 ≤ 9223372036854775807 := HL.out.m2
  have hlc3 : ds.length ≤ c3 := HL.out.l3
  have hcm3 : c3 ≤ 9223372036854775807 := HL.out.m3
  obtain ⟨M, HM⟩ : ∃ M, Is M (k + 1) := ⟨_, ⟨rfl⟩⟩
  rw [← HM.eq]
  have hMk : M < ks.length := by have := HM.eq; omega
  have hMd : M < ds.length := by omega
  have hd9 : ds.length ≤ 901 := by omega
  have hkM : k < M := by have := HM.eq; omega
  clear hc HL HV hkd
  unfold nv
  simp only
  generalize ks.getD k ByteArray.empty = x at *
  have i0 : (0 : Int) ≤ (k : Int) := by omega
  have i1 : (k : Int) ≤ (c2 : Int) := by omega
  have i2 : (M : Int) ≤ (c3 : Int) := by omega
  have i3 : (0 : Int) ≤ (M : Int) := by omega
  have i4 : (M : Int) ≤ (ks.length : Int) := by omega
  have i5 : (M : Int) ≤ (ds.length : Int) := by omega
  have i6 : ¬ c2 = M := by omega
  have i7 : ¬ c3 = M := by omega
  have i8 : (k : Int) < (ks.length : Int) := by omega
  have iM : (k : Int) + 1 = (M : Int) := by have := HM.eq; omega
  have iW : IntKind.i64.wrap (M : Int) = (M : Int) := by rw [IntKind.wrap_i64]; omega
  have f1 : sliced (some ⟨bk, fk, none⟩) 0 k c2 1 = .slice (some ⟨bk, fk, none⟩) k c2 := by rw [sliced_sub, subA_zero]; rfl
  have f2 : sliced (some ⟨bd, fd, none⟩) 0 M c3 1 = .slice (some ⟨bd, fd, none⟩) M c3 := by rw [sliced_sub, subA_zero]; rfl
  have HN0 := (show Hid (Brow (((w.alloc (.cells #[.bool false, .slice a1 cs.length c1, .slice (some ⟨bk, fk, none⟩) ks.length c2, .slice (some ⟨bd, fd, none⟩) ds.length c3] 26)).alloc (.cells #[.bool false, .slice none 0 0, .slice none 0 0, .slice none 0 0] 26)).alloc (.cells #[.bool false, .slice none 0 0, .slice none 0 0, .slice none 0 0] 26)) w.heap.size [.bool false, .slice a1 cs.length c1, .slice (some ⟨bk, fk, none⟩) ks.length c2, .slice (some ⟨bd, fd, none⟩) ds.length c3] 26) from ((Brow.new w [.bool false, .slice a1 cs.length c1, .slice (some ⟨bk, fk, none⟩) ks.length c2, .slice (some ⟨bd, fd, none⟩) ds.length c3] 26).alloc _).alloc _)
  have HX0 := (show Hid (Brow (((w.alloc (.cells #[.bool false, .slice a1 cs.length c1, .slice (some ⟨bk, fk, none⟩) ks.length c2, .slice (some ⟨bd, fd, none⟩) ds.length c3] 26)).alloc (.cells #[.bool false, .slice none 0 0, .slice none 0 0, .slice none 0 0] 26)).alloc (.cells #[.bool false, .slice none 0 0, .slice none 0 0, .slice none 0 0] 26)) (w.heap.size + 1) [.bool false, .slice none 0 0, .slice none 0 0, .slice none 0 0] 26) from by
    have := (Brow.new (w.alloc (.cells #[.bool false, .slice a1 cs.length c1, .slice (some ⟨bk, fk, none⟩) ks.length c2, .slice (some ⟨bd, fd, none⟩) ds.length c3] 26)) [.bool false, .slice none 0 0, .slice none 0 0, .slice none 0 0] 26).alloc (.cells #[.bool false, .slice none 0 0, .slice none 0 0, .slice none 0 0] 26)
    rwa [size_alloc1] at this)
  have HY0 := (show Hid (Brow (((w.alloc (.cells #[.bool false, .slice a1 cs.length c1, .slice (some ⟨bk, fk, none⟩) ks.length c2, .slice (some ⟨bd, fd, none⟩) ds.length c3] 26)).alloc (.cells #[.bool false, .slice none 0 0, .slice none 0 0, .slice none 0 0] 26)).alloc (.cells #[.bool false, .slice none 0 0, .slice none 0 0, .slice none 0 0] 26)) (w.heap.size + 2) [.bool false, .slice none 0 0, .slice none 0 0, .slice none 0 0] 26) from by
    have := Brow.new ((w.alloc (.cells #[.bool false, .slice a1 cs.length c1, .slice (some ⟨bk, fk, none⟩) ks.length c2, .slice (some ⟨bd, fd, none⟩) ds.length c3] 26)).alloc (.cells #[.bool false, .slice none 0 0, .slice none 0 0, .slice none 0 0] 26)) [.bool false, .slice none 0 0, .slice none 0 0, .slice none 0 0] 26
    rwa [size_alloc1, size_alloc1] at this)
  have HB0 := (show Hid (Below w.heap.size w (((w.alloc (.cells #[.bool false, .slice a1 cs.length c1, .slice (some ⟨bk, fk, none⟩) ks.length c2, .slice (some ⟨bd, fd, none⟩) ds.length c3] 26)).alloc (.cells #[.bool false, .slice none 0 0, .slice none 0 0, .slice none 0 0] 26)).alloc (.cells #[.bool false, .slice none 0 0, .slice none 0 0, .slice none 0 0] 26))) from ((below_alloc _ _).alloc (by rw [size_alloc1]; omega) _).alloc (by rw [size_alloc1, size_alloc1]; omega) _)
  have hs0 : w.heap.size + 3 ≤ (((w.alloc (.cells #[.bool false, .slice a1 cs.length c1, .slice (some ⟨bk, fk, none⟩) ks.length c2, .slice (some ⟨bd, fd, none⟩) ds.length c3] 26)).alloc (.cells #[.bool false, .slice none 0 0, .slice none 0 0, .slice none 0 0] 26)).alloc (.cells #[.bool false, .slice none 0 0, .slice none 0 0, .slice none 0 0] 26)).heap.size := by rw [size_alloc1, size_alloc1, size_alloc1]; omega
  go_enter Try.func36, Try.ntmps36
  go_upto_region 3 with fail
  generalize (((w.alloc (.cells #[.bool false, .slice a1 cs.length c1, .slice (some ⟨bk, fk, none⟩) ks.length c2, .slice (some ⟨bd, fd, none⟩) ds.length c3] 26)).alloc (.cells #[.bool false, .slice none 0 0, .slice none 0 0, .slice none 0 0] 26)).alloc (.cells #[.bool false, .slice none 0 0, .slice none 0 0, .slice none 0 0] 26)) = wI at *
  have HS0 := (show Hid ((fun W : World => Brow W w.heap.size [.bool false, .slice a1 cs.length c1, .slice (some ⟨bk, fk, none⟩) ks.length c2, .slice (some ⟨bd, fd, none⟩) ds.length c3] 26 ∧ W.cell? ⟨bk, fk + k, none⟩ = some (.string x)) wI.drew) from ⟨HN0.out.drew, (HB0.out.drew.cell (p := ⟨bk, fk + k, none⟩) hb).trans hcx⟩)
  have HX1 := HX0.out.drew
  have HY1 := HY0.out.drew
  have HB1 := HB0.out.drew
  have hs1 : w.heap.size + 3 ≤ wI.drew.heap.size := hs0
  clear HN0 HX0 HY0 HB0 hs0
  refine wp_region_held_drew (S := (fun W : World => Brow W w.heap.size [.bool false, .slice a1 cs.length c1, .slice (some ⟨bk, fk, none⟩) ks.length c2, .slice (some ⟨bd, fd, none⟩) ds.length c3] 26 ∧ W.cell? ⟨bk, fk + k, none⟩ = some (.string x))) (by kernel_rfl) HS0.out (fun _ => ?_)
  generalize wI.drew = wd at *
  have HX0 : Hid (Brow wd (w.heap.size + 1) [.bool false, .slice none 0 0, .slice none 0 0, .slice none 0 0] 26) := HX1
  have HY0 : Hid (Brow wd (w.heap.size + 2) [.bool false, .slice none 0 0, .slice none 0 0, .slice none 0 0] 26) := HY1
  have HB0 : Hid (Below w.heap.size w wd) := HB1
  clear HX1 HY1 HB1
  refine heldTake 0 (some 25) (.pointer (some ⟨w.heap.size, 2, none⟩)) rfl rfl (by kernel_rfl) (by kernel_rfl) (by kernel_rfl) (fun _ _ _ h => h) (Or.inl ⟨by rfl, fun w hS => ?_⟩) HS0.out ?_
  · (go_simp)
  simp only [Act.put, List.setIfInBounds_toArray, List.set_cons_zero, List.set_cons_succ]
  refine heldTake 1 (some 26) (.slice (some ⟨bk, fk, none⟩) ks.length c2) rfl rfl (by kernel_rfl) (by kernel_rfl) (by kernel_rfl) (fun _ _ _ h => h) (Or.inl ⟨by rfl, fun w hS => ?_⟩) HS0.out ?_
  · (have q := hS.1.at 2 _ rfl; go_simp)
  simp only [Act.put, List.setIfInBounds_toArray, List.set_cons_zero, List.set_cons_succ]
  refine heldTake 2 (some 27) (.int .i64 (k : Int)) rfl rfl (by kernel_rfl) (by kernel_rfl) (by kernel_rfl) (fun _ _ _ h => h) (Or.inl ⟨by rfl, fun w hS => ?_⟩) HS0.out ?_
  · (go_simp)
  simp only [Act.put, List.setIfInBounds_toArray, List.set_cons_zero, List.set_cons_succ]
  refine heldTake 3 (some 28) (.slice (some ⟨bk, fk, none⟩) k c2) rfl rfl (by kernel_rfl) (by kernel_rfl) (by kernel_rfl) (fun _ _ _ h => h) (Or.inl ⟨by rfl, fun w hS => ?_⟩) HS0.out ?_
  · (go_simp)
  simp only [Act.put, List.setIfInBounds_toArray, List.set_cons_zero, List.set_cons_succ]
  refine heldTake 4 (some 29) (.pointer (some ⟨w.heap.size, 3, none⟩)) rfl rfl (by kernel_rfl) (by kernel_rfl) (by kernel_rfl) (fun _ _ _ h => h) (Or.inl ⟨by rfl, fun w hS => ?_⟩) HS0.out ?_
  · (go_simp)
  simp only [Act.put, List.setIfInBounds_toArray, List.set_cons_zero, List.set_cons_succ]
  refine heldTake 5 (some 30) (.slice (some ⟨bd, fd, none⟩) ds.length c3) rfl rfl (by kernel_rfl) (by kernel_rfl) (by kernel_rfl) (fun _ _ _ h => h) (Or.inl ⟨by rfl, fun w hS => ?_⟩) HS0.out ?_
  · (have q := hS.1.at 3 _ rfl; go_simp)
  simp only [Act.put, List.setIfInBounds_toArray, List.set_cons_zero, List.set_cons_succ]
  refine heldTake 6 (some 31) (.int .i64 (k : Int)) rfl rfl (by kernel_rfl) (by kernel_rfl) (by kernel_rfl) (fun _ _ _ h => h) (Or.inl ⟨by rfl, fun w hS => ?_⟩) HS0.out ?_
  · (go_simp)
  simp only [Act.put, List.setIfInBounds_toArray, List.set_cons_zero, List.set_cons_succ]
  refine heldTake 7 (some 32) (.int .i64 (M : Int)) rfl rfl (by kernel_rfl) (by kernel_rfl) (by kernel_rfl) (fun _ _ _ h => h) (Or.inl ⟨by rfl, fun w hS => ?_⟩) HS0.out ?_
  · (go_simp)
  simp only [Act.put, List.setIfInBounds_toArray, List.set_cons_zero, List.set_cons_succ]
  refine heldTake 8 (some 33) (.slice (some ⟨bd, fd, none⟩) M c3) rfl rfl (by kernel_rfl) (by kernel_rfl) (by kernel_rfl) (fun _ _ _ h => h) (Or.inl ⟨by rfl, fun w hS => ?_⟩) HS0.out ?_
  · (go_simp)
  simp only [Act.put, List.setIfInBounds_toArray, List.set_cons_zero, List.set_cons_succ]
  refine heldTake 9 (some 34) (.agg #[.bool false, .slice none 0 0, .slice (some ⟨bk, fk, none⟩) k c2, .slice (some ⟨bd, fd, none⟩) M c3]) rfl rfl (by kernel_rfl) (by kernel_rfl) (by kernel_rfl) (fun _ _ _ h => h) (Or.inl ⟨by rfl, fun w hS => ?_⟩) HS0.out ?_
  · (go_simp)
  simp only [Act.put, List.setIfInBounds_toArray, List.set_cons_zero, List.set_cons_succ]
  refine heldTake 10 (some 35) (.pointer (some ⟨w.heap.size, 2, none⟩)) rfl rfl (by kernel_rfl) (by kernel_rfl) (by kernel_rfl) (fun _ _ _ h => h) (Or.inl ⟨by rfl, fun w hS => ?_⟩) HS0.out ?_
  · (go_simp)
  simp only [Act.put, List.setIfInBounds_toArray, List.set_cons_zero, List.set_cons_succ]
  refine heldTake 11 (some 36) (.slice (some ⟨bk, fk, none⟩) ks.length c2) rfl rfl (by kernel_rfl) (by kernel_rfl) (by kernel_rfl) (fun _ _ _ h => h) (Or.inl ⟨by rfl, fun w hS => ?_⟩) HS0.out ?_
  · (have q := hS.1.at 2 _ rfl; go_simp)
  simp only [Act.put, List.setIfInBounds_toArray, List.set_cons_zero, List.set_cons_succ]
  refine heldTake 12 (some 37) (.int .i64 (k : Int)) rfl rfl (by kernel_rfl) (by kernel_rfl) (by kernel_rfl) (fun _ _ _ h => h) (Or.inl ⟨by rfl, fun w hS => ?_⟩) HS0.out ?_
  · (go_simp)
  simp only [Act.put, List.setIfInBounds_toArray, List.set_cons_zero, List.set_cons_succ]
  refine heldTake 13 (some 38) (.int .i64 (M : Int)) rfl rfl (by kernel_rfl) (by kernel_rfl) (by kernel_rfl) (fun _ _ _ h => h) (Or.inl ⟨by rfl, fun w hS => ?_⟩) HS0.out ?_
  · (go_simp)
  simp only [Act.put, List.setIfInBounds_toArray, List.set_cons_zero, List.set_cons_succ]
  refine heldTake 14 (some 39) (.slice (some ⟨bk, fk + M, none⟩) (ks.length - M) (c2 - M)) rfl rfl (by kernel_rfl) (by kernel_rfl) (by kernel_rfl) (fun _ _ _ h => h) (Or.inl ⟨by rfl, fun w hS => ?_⟩) HS0.out ?_
  · (go_simp)
  simp only [Act.put, List.setIfInBounds_toArray, List.set_cons_zero, List.set_cons_succ]
  refine heldTake 15 (some 40) (.pointer (some ⟨w.heap.size, 3, none⟩)) rfl rfl (by kernel_rfl) (by kernel_rfl) (by kernel_rfl) (fun _ _ _ h => h) (Or.inl ⟨by rfl, fun w hS => ?_⟩) HS0.out ?_
  · (go_simp)
  simp only [Act.put, List.setIfInBounds_toArray, List.set_cons_zero, List.set_cons_succ]
  refine heldTake 16 (some 41) (.slice (some ⟨bd, fd, none⟩) ds.length c3) rfl rfl (by kernel_rfl) (by kernel_rfl) (by kernel_rfl) (fun _ _ _ h => h) (Or.inl ⟨by rfl, fun w hS => ?_⟩) HS0.out ?_
  · (have q := hS.1.at 3 _ rfl; go_simp)
  simp only [Act.put, List.setIfInBounds_toArray, List.set_cons_zero, List.set_cons_succ]
  refine heldTake 17 (some 42) (.int .i64 (k : Int)) rfl rfl (by kernel_rfl) (by kernel_rfl) (by kernel_rfl) (fun _ _ _ h => h) (Or.inl ⟨by rfl, fun w hS => ?_⟩) HS0.out ?_
  · (go_simp)
  simp only [Act.put, List.setIfInBounds_toArray, List.set_cons_zero, List.set_cons_succ]
  refine heldTake 18 (some 43) (.int .i64 (M : Int)) rfl rfl (by kernel_rfl) (by kernel_rfl) (by kernel_rfl) (fun _ _ _ h => h) (Or.inl ⟨by rfl, fun w hS => ?_⟩) HS0.out ?_
  · (go_simp)
  simp only [Act.put, List.setIfInBounds_toArray, List.set_cons_zero, List.set_cons_succ]
  refine heldTake 19 (some 44) (.slice (some ⟨bd, fd + M, none⟩) (ds.length - M) (c3 - M)) rfl rfl (by kernel_rfl) (by kernel_rfl) (by kernel_rfl) (fun _ _ _ h => h) (Or.inl ⟨by rfl, fun w hS => ?_⟩) HS0.out ?_
  · (go_simp)
  simp only [Act.put, List.setIfInBounds_toArray, List.set_cons_zero, List.set_cons_succ]
  refine heldTake 20 (some 45) (.agg #[.bool false, .slice none 0 0, .slice (some ⟨bk, fk + M, none⟩) (ks.length - M) (c2 - M), .slice (some ⟨bd, fd + M, none⟩) (ds.length - M) (c3 - M)]) rfl rfl (by kernel_rfl) (by kernel_rfl) (by kernel_rfl) (fun _ _ _ h => h) (Or.inl ⟨by rfl, fun w hS => ?_⟩) HS0.out ?_
  · (go_simp)
  simp only [Act.put, List.setIfInBounds_toArray, List.set_cons_zero, List.set_cons_succ]
  refine heldTake 21 (some 46) (.pointer (some ⟨w.heap.size, 2, none⟩)) rfl rfl (by kernel_rfl) (by kernel_rfl) (by kernel_rfl) (fun _ _ _ h => h) (Or.inl ⟨by rfl, fun w hS => ?_⟩) HS0.out ?_
  · (go_simp)
  simp only [Act.put, List.setIfInBounds_toArray, List.set_cons_zero, List.set_cons_succ]
  refine heldTake 22 (some 47) (.slice (some ⟨bk, fk, none⟩) ks.length c2) rfl rfl (by kernel_rfl) (by kernel_rfl) (by kernel_rfl) (fun _ _ _ h => h) (Or.inl ⟨by rfl, fun w hS => ?_⟩) HS0.out ?_
  · (have q := hS.1.at 2 _ rfl; go_simp)
  simp only [Act.put, List.setIfInBounds_toArray, List.set_cons_zero, List.set_cons_succ]
  refine heldTake 23 (some 48) (.int .i64 (k : Int)) rfl rfl (by kernel_rfl) (by kernel_rfl) (by kernel_rfl) (fun _ _ _ h => h) (Or.inl ⟨by rfl, fun w hS => ?_⟩) HS0.out ?_
  · (go_simp)
  simp only [Act.put, List.setIfInBounds_toArray, List.set_cons_zero, List.set_cons_succ]
  refine heldTake 24 (some 49) (.pointer (some ⟨bk, fk + k, none⟩)) rfl rfl (by kernel_rfl) (by kernel_rfl) (by kernel_rfl) (fun _ _ _ h => h) (Or.inl ⟨by rfl, fun w hS => ?_⟩) HS0.out ?_
  · (go_simp)
  simp only [Act.put, List.setIfInBounds_toArray, List.set_cons_zero, List.set_cons_succ]
  refine heldTake 25 (some 50) (.string x) rfl rfl (by kernel_rfl) (by kernel_rfl) (by kernel_rfl) (fun _ _ _ h => h) (Or.inl ⟨by rfl, fun w hS => ?_⟩) HS0.out ?_
  · (have q := hS.2; go_simp)
  simp only [Act.put, List.setIfInBounds_toArray, List.set_cons_zero, List.set_cons_succ]
  have HSA := (show Hid ((fun W : World => Brow W w.heap.size [.bool false, .slice a1 cs.length c1, .slice (some ⟨bk, fk, none⟩) ks.length c2, .slice (some ⟨bd, fd, none⟩) ds.length c3] 26 ∧ W.cell? ⟨bk, fk + k, none⟩ = some (.string x)) (setN wd (w.heap.size + 1) (.bool false) (.slice none 0 0) (.slice (some ⟨bk, fk, none⟩) k c2) (.slice (some ⟨bd, fd, none⟩) M c3))) from ⟨setN_far HS0.out.1 (by omega) _ _ _ _, ((setN_below (Below.refl (w.heap.size) wd) (by omega) _ _ _ _).cell (p := ⟨bk, fk + k, none⟩) hb).trans HS0.out.2⟩)
  have HXA := (show Hid (Brow (setN wd (w.heap.size + 1) (.bool false) (.slice none 0 0) (.slice (some ⟨bk, fk, none⟩) k c2) (.slice (some ⟨bd, fd, none⟩) M c3)) (w.heap.size + 1) [.bool false, .slice none 0 0, .slice (some ⟨bk, fk, none⟩) k c2, .slice (some ⟨bd, fd, none⟩) M c3] 26) from setN_row HX0.out _ _ _ _)
  have HYA := (show Hid (Brow (setN wd (w.heap.size + 1) (.bool false) (.slice none 0 0) (.slice (some ⟨bk, fk, none⟩) k c2) (.slice (some ⟨bd, fd, none⟩) M c3)) (w.heap.size + 2) [.bool false, .slice none 0 0, .slice none 0 0, .slice none 0 0] 26) from setN_far HY0.out (by omega) _ _ _ _)
  have HBA := (show Hid (Below w.heap.size w (setN wd (w.heap.size + 1) (.bool false) (.slice none 0 0) (.slice (some ⟨bk, fk, none⟩) k c2) (.slice (some ⟨bd, fd, none⟩) M c3))) from setN_below HB0.out (by omega) _ _ _ _)
  have y_0 := HX0.out.at 0 _ rfl
  have y_1 := HX0.out.at 1 _ rfl
  have y_2 := HX0.out.at 2 _ rfl
  have y_3 := HX0.out.at 3 _ rfl
  have z_0 := HX0.out.fz 0
  have z_1 := HX0.out.fz 1
  have z_2 := HX0.out.fz 2
  have z_3 := HX0.out.fz 3
  unfold setN at HSA HXA HYA HBA
  refine heldOne 26 (by kernel_rfl) rfl (by rfl) (fun KK hK => ?_)
  go_simp
  refine hK.out _ _ HSA.out ?_
  clear hK KK
  try simp only [Act.put, List.setIfInBounds_toArray, List.set_cons_zero, List.set_cons_succ]
  clear y_0 y_1 y_2 y_3 z_0 z_1 z_2 z_3 HS0 HX0 HY0 HB0
  generalize ((((wd.setCell ⟨w.heap.size + 1, 0, none⟩ (.bool false)).setCell ⟨w.heap.size + 1, 1, none⟩ (.slice none 0 0)).setCell ⟨w.heap.size + 1, 2, none⟩ (.slice (some ⟨bk, fk, none⟩) k c2)).setCell ⟨w.heap.size + 1, 3, none⟩ (.slice (some ⟨bd, fd, none⟩) M c3)) = wA at *
  have HSB := (show Hid ((fun W : World => Brow W w.heap.size [.bool false, .slice a1 cs.length c1, .slice (some ⟨bk, fk, none⟩) ks.length c2, .slice (some ⟨bd, fd, none⟩) ds.length c3] 26 ∧ W.cell? ⟨bk, fk + k, none⟩ = some (.string x)) (setN wA (w.heap.size + 2) (.bool false) (.slice none 0 0) (.slice (some ⟨bk, fk + M, none⟩) (ks.length - M) (c2 - M)) (.slice (some ⟨bd, fd + M, none⟩) (ds.length - M) (c3 - M)))) from ⟨setN_far HSA.out.1 (by omega) _ _ _ _, ((setN_below (Below.refl (w.heap.size) wA) (by omega) _ _ _ _).cell (p := ⟨bk, fk + k, none⟩) hb).trans HSA.out.2⟩)
  have HXB := (show Hid (Brow (setN wA (w.heap.size + 2) (.bool false) (.slice none 0 0) (.slice (some ⟨bk, fk + M, none⟩) (ks.length - M) (c2 - M)) (.slice (some ⟨bd, fd + M, none⟩) (ds.length - M) (c3 - M))) (w.heap.size + 1) [.bool false, .slice none 0 0, .slice (some ⟨bk, fk, none⟩) k c2, .slice (some ⟨bd, fd, none⟩) M c3] 26) from setN_far HXA.out (by omega) _ _ _ _)
  have HYB := (show Hid (Brow (setN wA (w.heap.size + 2) (.bool false) (.slice none 0 0) (.slice (some ⟨bk, fk + M, none⟩) (ks.length - M) (c2 - M)) (.slice (some ⟨bd, fd + M, none⟩) (ds.length - M) (c3 - M))) (w.heap.size + 2) [.bool false, .slice none 0 0, .slice (some ⟨bk, fk + M, none⟩) (ks.length - M) (c2 - M), .slice (some ⟨bd, fd + M, none⟩) (ds.length - M) (c3 - M)] 26) from setN_row HYA.out _ _ _ _)
  have HBB := (show Hid (Below w.heap.size w (setN wA (w.heap.size + 2) (.bool false) (.slice none 0 0) (.slice (some ⟨bk, fk + M, none⟩) (ks.length - M) (c2 - M)) (.slice (some ⟨bd, fd + M, none⟩) (ds.length - M) (c3 - M)))) from setN_below HBA.out (by omega) _ _ _ _)
  have y_0 := HYA.out.at 0 _ rfl
  have y_1 := HYA.out.at 1 _ rfl
  have y_2 := HYA.out.at 2 _ rfl
  have y_3 := HYA.out.at 3 _ rfl
  have z_0 := HYA.out.fz 0
  have z_1 := HYA.out.fz 1
  have z_2 := HYA.out.fz 2
  have z_3 := HYA.out.fz 3
  unfold setN at HSB HXB HYB HBB
  refine heldOne 27 (by kernel_rfl) rfl (by rfl) (fun KK hK => ?_)
  go_simp
  refine hK.out _ _ HSB.out ?_
  clear hK KK
  try simp only [Act.put, List.setIfInBounds_toArray, List.set_cons_zero, List.set_cons_succ]
  clear y_0 y_1 y_2 y_3 z_0 z_1 z_2 z_3 HSA HXA HYA HBA
  generalize ((((wA.setCell ⟨w.heap.size + 2, 0, none⟩ (.bool false)).setCell ⟨w.heap.size + 2, 1, none⟩ (.slice none 0 0)).setCell ⟨w.heap.size + 2, 2, none⟩ (.slice (some ⟨bk, fk + M, none⟩) (ks.length - M) (c2 - M))).setCell ⟨w.heap.size + 2, 3, none⟩ (.slice (some ⟨bd, fd + M, none⟩) (ds.length - M) (c3 - M))) = wB at *
  refine heldTake 28 (some 6) (.string x) rfl rfl (by kernel_rfl) (by kernel_rfl) (by kernel_rfl) (fun _ _ _ h => h) (Or.inl ⟨by rfl, fun w hS => ?_⟩) HSB.out ?_
  · (go_simp)
  simp only [Act.put, List.setIfInBounds_toArray, List.set_cons_zero, List.set_cons_succ]
  refine wpAnyH_done (by kernel_rfl) ?_ _
  go_wp2
  refine bodyPost_ret (res_cct rfl _ _ (w.heap.size + 1) (w.heap.size + 2) 26 _ _ _ rfl HXB.out rfl HYB.out Try.underlying26 rfl (by kernel_rfl) (by kernel_rfl)) rfl ?_
  have e1 : (ks.take k).length = k := by rw [List.length_take]; omega
  have e2 : (ks.drop M).length = ks.length - M := List.length_drop ..
  have e3 : (ds.take M).length = M := by rw [List.length_take]; omega
  have e4 : (ds.drop M).length = ds.length - M := List.length_drop ..
  refine ⟨⟨⟨none, 0, (some ⟨bk, fk, none⟩), c2, (some ⟨bd, fd, none⟩), c3⟩, ⟨none, 0, (some ⟨bk, fk + M, none⟩), c2 - M, (some ⟨bd, fd + M, none⟩), c3 - M⟩, by unfold nv; simp only [e1, e2, e3, e4, List.length_nil]; rfl, ?_, ?_, HBB.out⟩⟩
  · exact ⟨.inl rfl, by rw [kcells_take]; exact HRW.out.1.take _, by rw [icells_take]; exact HRW.out.2.take _, Nat.le_refl _, by show (ks.take k).length ≤ c2; omega, by show (ds.take M).length ≤ c3; omega, by show 0 ≤ 9223372036854775807; omega, hcm, hcm3⟩
  · exact ⟨.inl rfl, by rw [kcells_drop]; exact HRW.out.1.drop _, by rw [icells_drop]; exact HRW.out.2.drop _, Nat.le_refl _, by show (ks.drop M).length ≤ c2 - M; omega, by show (ds.drop M).length ≤ c3 - M; omega, by show 0 ≤ 9223372036854775807; omega, by show c2 - M ≤ 9223372036854775807; omega, by show c3 - M ≤ 9223372036854775807; omega⟩
end Go.Proofs.Ytoinaplmgffkpaa
