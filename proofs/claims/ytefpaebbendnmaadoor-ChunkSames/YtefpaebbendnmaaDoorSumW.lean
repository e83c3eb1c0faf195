/- Proved: what chunk's Sum and the document's answer for all texts. Condition: the two tables of blake. -/
import Derived.Test.YtefpaebbendnmaaDoorKROf
import Derived.Test.YtefpaebbendnmaaDoorKOf
import Derived.Test.YtefpaebbendnmaaDoorMem
namespace Go.Proofs.YtefpaebbendnmaaDoor
open Go.RowKit
def nb (s : ByteArray) : List Nat := (bl s).map UInt8.toNat
theorem nb_length (s : ByteArray) : (nb s).length = s.size := by rw [nb, List.length_map, bl_length]
theorem bytes_rd {w : World} {g : Nat} {s : ByteArray} (h : Rd w g (bl s)) (hs : s.size ≤ 9223372036854775807) : BK.Bytes w (some ⟨g, 0, none⟩) s.size (nb s) := by
  refine ⟨nb_length s, fun x hx => ?_, hs, .inr ⟨g, 0, rfl, fun i hi => ?_⟩⟩
  · obtain ⟨b, _, rfl⟩ := List.mem_map.1 hx
    exact b.toNat_lt
  · have hi' : i < (bl s).length := by rw [bl_length]; exact hi
    rw [Nat.zero_add, h.cell (List.getElem?_eq_getElem hi'), List.getD_eq_getElem?_getD, nb, List.getElem?_map, List.getElem?_eq_getElem hi']
    rfl
theorem bytes_of_cap (w : World) (x : ByteArray) (hx : x.size ≤ 100000) : ∃ cap w1, (convert 9 28 (.string x)).run Tryd.prog w = .ok (.slice (some ⟨w.heap.size, 0, none⟩) x.size cap) w1 ∧ x.size ≤ cap ∧ cap ≤ 9223372036854775807 ∧ Rd w1 w.heap.size (bl x) ∧ Below w.heap.size w w1 ∧ w1.heap.size = w.heap.size + 1 := by
  have hc := grownCap_le_maxLen w x.size 0 5 (by unfold maxLen; omega)
  unfold maxLen at hc
  refine ⟨_, _, run_bytes_of_string (P := Tryd.prog) w 9 28 5 x Tryd.underlying9 Tryd.underlying28 Tryd.underlying5, grownCap_ge _ _ _ _, by omega, fun j u hu => ?_, ((Below.refl _ w).drew.alloc (Nat.le_refl _) _), by simp⟩
  have hj : j < (bc (bl x)).length := (List.getElem?_eq_some_iff.1 hu).1
  rw [bc_length, bl_length] at hj
  show World.cell? _ ⟨w.drew.heap.size, 0 + j, none⟩ = _
  rw [cell_of_row _ _ _ _ _ _ (heap_alloc_new w.drew _), Nat.zero_add, ← hu]
  unfold bytesRow bc
  rw [Array.getElem?_append_left (by rw [Array.size_map]; exact hj), Array.getElem?_map, List.getElem?_map, ← Array.getElem?_toList]
set_option maxHeartbeats 1000000 in
set_option maxRecDepth 20000 in
theorem rsum_any (s : ByteArray) (w : World) (hs : s.size ≤ 100000) :
    Calls Tryd.prog 10 #[.string s] w fun e w' => ∃ g cap', e = .returned (.slice (some ⟨g, 0, none⟩) 32 cap') ∧ BK.Bytes w' (some ⟨g, 0, none⟩) 32 (Bl.digest (nb s)) ∧ Below w.heap.size w w' := by
  obtain ⟨cap, w1, hcv, hc1, hc2, hR, hB, hz⟩ := bytes_of_cap w s hs
  have HC := (show Hid _ from BK.rof_any (some ⟨w.heap.size, 0, none⟩) s.size cap (nb s) w1 (bytes_rd hR (by omega)) (.inr ⟨_, _, rfl⟩) hc1 hc2)
  have HB := (show Hid _ from hB)
  clear hR hB hz
  go_enter Tryd.func10, Tryd.ntmps10
  go_wp2_with fail
  refine (show Calls _ _ _ _ _ from HC.out).mono ?_
  rintro e w2 ⟨g, cap', rfl, hM, hB2⟩
  have HF := (show Hid _ from hM.bytes (by omega))
  have HBF := (show Hid _ from below_next HB.out hB2 HB.out.size)
  clear hM hB2
  go_wp2
  go_ret
  exact ⟨g, cap', rfl, HF.out, HBF.out⟩
set_option maxHeartbeats 1000000 in
set_option maxRecDepth 20000 in
theorem sum_any (s : ByteArray) (w : World) (hs : s.size ≤ 100000) (hT : BK.Tab w) (h0 : 3 < w.heap.size) :
    Calls Tryd.prog 6 #[.string s] w fun e w' => e = .returned (.agg (BK.arr8 (Bl.digest (nb s)))) ∧ Below w.heap.size w w' := by
  have HT : Hid (BK.Tab w) := hT
  obtain ⟨D, hD⟩ : ∃ D, D = Bl.digest (nb s) := ⟨_, rfl⟩
  have HD : Is D (Bl.digest (nb s)) := ⟨hD⟩
  have HD8 : Hid (Bl.Bytes8 32 D) := by rw [hD]; exact Bl.digest_bytes _
  rw [← hD]
  clear hT hD
  have HG1 : Hid ((w.alloc (.cells (BK.arr8 (Bl.zeros 32)) 23)).heap[w.heap.size]? = some (.cells (BK.arr8 (Bl.zeros 32)) 23 (0, 0))) := heap_alloc_new w _
  have HB1 : Hid (Below w.heap.size w (w.alloc (.cells (BK.arr8 (Bl.zeros 32)) 23))) := (Below.refl _ _).alloc (Nat.le_refl _) _
  have HZ1 : Hid ((w.alloc (.cells (BK.arr8 (Bl.zeros 32)) 23)).heap.size = w.heap.size + 1) := by show _ = _; simp
  have hi : Hid ((Tryd.prog.info? 23).map (·.size) = some (BK.arr8 D).size) := BK.hi24 HD8.out.1
  have H1 : Hid ((BK.arr8 D).all (·.oneCell') = true) := BK.arr8_one _
  have he : Hid ((BK.arr8 (Bl.zeros 32)).size = (BK.arr8 D).size) := by show _ = _; rw [BK.arr8_size, BK.arr8_size, HD8.out.1]; simp [Bl.zeros]
  have e32 : BK.arr8 (Bl.zeros 32) = #[.int .u8 0, .int .u8 0, .int .u8 0, .int .u8 0, .int .u8 0, .int .u8 0, .int .u8 0, .int .u8 0, .int .u8 0, .int .u8 0, .int .u8 0, .int .u8 0, .int .u8 0, .int .u8 0, .int .u8 0, .int .u8 0, .int .u8 0, .int .u8 0, .int .u8 0, .int .u8 0, .int .u8 0, .int .u8 0, .int .u8 0, .int .u8 0, .int .u8 0, .int .u8 0, .int .u8 0, .int .u8 0, .int .u8 0, .int .u8 0, .int .u8 0, .int .u8 0] := rfl
  obtain ⟨w1, hw1⟩ : ∃ w1, w1 = w.alloc (.cells (BK.arr8 (Bl.zeros 32)) 23) := ⟨_, rfl⟩
  rw [← hw1] at HG1 HB1 HZ1
  obtain ⟨cap, w2, hcv, hc1, hR, hB, hz⟩ := bytes_of w1 s
  have hz1 := HZ1.out
  have hs2 := hB.size
  have HT2 : Hid (BK.Tab w2) := (HT.out.below h0 HB1.out).below (by omega) hB
  rw [hz1] at hcv hR hB
  have BY2 := (show Hid _ from bytes_rd hR (by omega))
  have HB2 : Hid (Below (w.heap.size + 1) w1 w2) := hB
  have HO := (show Hid _ from BK.of_any (some ⟨w.heap.size + 1, 0, none⟩) s.size cap (nb s) w2 BY2.out hc1 HT2.out (by omega))
  rw [← HD.eq] at HO
  clear hR hB hz
  rw [e32] at hw1
  rw [hw1] at hcv
  clear e32 hw1
  go_enter Tryd.func6, Tryd.ntmps6
  go_wp2_with fail
  refine (show Calls _ _ _ _ _ from HO.out).mono ?_
  rintro e w4 ⟨rfl, hB4⟩
  have HG4 : Hid (w4.heap[w.heap.size]? = some (.cells (BK.arr8 (Bl.zeros 32)) 23 (0, 0))) := (hB4.block _ (by omega)).trans ((HB2.out.block _ (by omega)).trans HG1.out)
  have HB4 : Hid (Below w.heap.size w w4) := HB1.out.trans ((HB2.out.mono (by omega)).trans (hB4.mono (by omega)))
  clear hB4
  go_wp2_with (first | (refine BK.store_row rfl rfl 23 _ _ rfl w.heap.size (BK.arr8 D) rfl rfl 23 _ HG4.out hi.out he.out H1.out ?_))
  refine bodyPost_ret (v := .agg (BK.arr8 D)) ?_ rfl ⟨rfl, BK.below_setRow HB4.out (Nat.le_refl _) _⟩
  exact results_cell_row Tryd.results6 _ _ w.heap.size 23 _ (0, 0) _ rfl (setRow_heap _ _ (BK.arr8 (Bl.zeros 32)) _ _ _ HG4.out) Tryd.underlying23 rfl hi.out
end Go.Proofs.YtefpaebbendnmaaDoor
