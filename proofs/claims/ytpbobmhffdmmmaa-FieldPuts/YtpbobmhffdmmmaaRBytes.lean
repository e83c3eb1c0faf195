/- Proved: the document's bytes answers the bytes of a field. -/
import Derived.Test.YtpbobmhffdmmmaaAField
import Derived.Test.YtpbobmhffdmmmaaReg
import Derived.Deep.Cut
namespace Go.Proofs.Ytpbobmhffdmmmaa
open Go.RowKit
theorem own_low {w : World} {N M n : Nat} {v : Value} {vs : List Value} {e : TypeId} {k : Nat} (h : w.ownsRow M e k v n vs) (hN : N ≤ M) : w.ownsRow N e k v n vs := by
  obtain ⟨h0, h1⟩ := h
  refine ⟨h0, ?_⟩
  rcases h1 with h1 | ⟨g, cap', cur, hv, hM, r⟩
  · exact .inl h1
  · exact .inr ⟨g, cap', cur, hv, Nat.le_trans hN hM, r⟩
theorem one_own_at (W : World) (B : Nat) (hB : W.heap.size = B) (z : Int) (n : Nat) (hz : z = (n : Int)) : (W.alloc (.cells #[.int .u8 z] 5)).ownsRow B 5 1 (.slice (some ⟨B, 0, none⟩) 1 1) 1 ([n].map V8) := by
  subst hB
  exact one_own W z n hz
set_option maxHeartbeats 1000000 in
set_option maxRecDepth 20000 in
theorem rbytes_num (w : World) (t m : Nat) (x : ByteArray) (ht : t ≤ 127) (hm : m ≤ 9223372036854775807) :
    Calls Try.prog 27 #[.agg #[.int .i64 (t : Int), .int .i64 0, .int .i64 (m : Int), .string x]] w fun e w' => ∃ v, e = .returned v ∧ w'.ownsRow w.heap.size 5 1 v (1 + (Fi.varint m).length) (((2 * t) :: Fi.varint m).map V8) ∧ Below w.heap.size w w' := by
  have HO : Hid (((w.alloc (.cells #[.int .i64 (t : Int), .int .i64 0, .int .i64 (m : Int), .string x] 38)).alloc (.cells #[.int .u8 (2 * (t : Int))] 5)).ownsRow (w.heap.size + 1) 5 1 (.slice (some ⟨w.heap.size + 1, 0, none⟩) 1 1) 1 ([2 * t].map V8)) := one_own_at _ _ (size_alloc1 _ _) _ (2 * t) (by omega)
  have hvl := varint_room m hm
  have hvp : 0 < (Fi.varint m).length := List.length_pos_iff.2 (Fi.varint_ne _)
  go_enter Try.func27, Try.ntmps27
  go_wp2_with fail
  refine (number_any m hm _).mono ?_
  rintro e w2 ⟨v2, rfl, hO2, hB2⟩
  obtain ⟨g2, cap2, rfl, _, _, hl2, hn2⟩ := own_at hO2 hvp
  have HN : Hid (∀ j u, ((Fi.varint m).map V8)[j]? = some u → w2.cell? ((⟨g2, 0, none⟩ : Addr).add j) = some u) := hn2
  have HO3 : Hid (w2.ownsRow w.heap.size 5 1 (.slice (some ⟨w.heap.size + 1, 0, none⟩) 1 1) 1 ([2 * t].map V8)) := own_low (owns8_below HO.out hB2 rfl) (by omega)
  have HB2 : Hid (Below w.heap.size w w2) := (((Below.refl w.heap.size w).alloc (Nat.le_refl _) _).alloc (by simp) _).trans (hB2.mono (by simp; omega))
  have hs2 := HB2.out.size
  clear hO2 hB2 hl2 hn2 HO
  obtain ⟨lv, hlv⟩ : ∃ lv, lv = (Fi.varint m).length := ⟨_, rfl⟩
  rw [← hlv] at hvl hvp ⊢
  have HLV : Is (Fi.varint m).length lv := ⟨hlv.symm⟩
  clear hlv
  go_wp2_with (first | (refine app_bytes rfl (.tmp 15) (.tmp 18) rfl w2 w.heap.size _ 1 [2 * t] rfl HO3.out ⟨g2, 0, none⟩ lv cap2 (Fi.varint m) rfl HLV.eq HN.out (by omega) hs2 ?_; intro v' w' hO4 hG4; have HO4 := (show Hid (w'.ownsRow w.heap.size 5 1 v' (1 + lv) (([2 * t] ++ Fi.varint m).map V8)) from hO4); have HB4 : Hid (Below w.heap.size w w') := HB2.out.trans (hG4.below HO3.out hs2); clear hO4 hG4))
  go_ret
  exact ⟨_, rfl, by rw [HLV.eq]; exact HO4.out, HB4.out⟩
set_option maxHeartbeats 1000000 in
set_option maxRecDepth 20000 in
theorem rbytes_text (w : World) (t : Nat) (z : Int) (x : ByteArray) (ht : t ≤ 127) (hx : x.size ≤ 70000) :
    Calls Try.prog 27 #[.agg #[.int .i64 (t : Int), .int .i64 1, .int .i64 z, .string x]] w fun e w' => ∃ v, e = .returned v ∧ w'.ownsRow w.heap.size 5 1 v (1 + (Fi.varint x.size).length + x.size) (((2 * t + 1) :: (Fi.varint x.size ++ bl x)).map V8) ∧ Below w.heap.size w w' := by
  have HO : Hid (((w.alloc (.cells #[.int .i64 (t : Int), .int .i64 1, .int .i64 z, .string x] 38)).alloc (.cells #[.int .u8 (2 * (t : Int) + 1)] 5)).ownsRow (w.heap.size + 1) 5 1 (.slice (some ⟨w.heap.size + 1, 0, none⟩) 1 1) 1 ([2 * t + 1].map V8)) := one_own_at _ _ (size_alloc1 _ _) _ (2 * t + 1) (by omega)
  have HF : Hid (FieldAt ((w.alloc (.cells #[.int .i64 (t : Int), .int .i64 1, .int .i64 z, .string x] 38)).alloc (.cells #[.int .u8 (2 * (t : Int) + 1)] 5)) w.heap.size 0 ⟨(t : Int), 1, z, x⟩) := (box_at w ⟨(t : Int), 1, z, x⟩).alloc _
  have hvl := varint_room x.size (by omega)
  have hvp : 0 < (Fi.varint x.size).length := List.length_pos_iff.2 (Fi.varint_ne _)
  go_enter Try.func27, Try.ntmps27
  go_upto_region 4 with fail
  generalize hW : (w.alloc (.cells #[.int .i64 (t : Int), .int .i64 1, .int .i64 z, .string x] 38)).alloc (.cells #[.int .u8 (2 * (t : Int) + 1)] 5) = W at *
  have hzW : W.heap.size = w.heap.size + 2 := by rw [← hW]; simp
  have HBW : Hid (Below w.heap.size w W) := by rw [← hW]; exact ((Below.refl w.heap.size w).alloc (Nat.le_refl _) _).alloc (by simp) _
  clear hW
  have HS : Hid ((fun A : World => A.cell? ⟨w.heap.size, 3, none⟩ = some (.string x)) W.drew) := by have := HF.out.s; exact this
  refine wp_region_held_drew (S := fun A => A.cell? ⟨w.heap.size, 3, none⟩ = some (.string x)) (by kernel_rfl) HS.out (fun _ => ?_)
  refine heldTake 0 (some 20) (.slice (some ⟨w.heap.size + 1, 0, none⟩) 1 1) rfl rfl (by kernel_rfl) (by kernel_rfl) (by kernel_rfl) (fun _ _ _ h => h) (Or.inl ⟨by rfl, fun w hS => ?_⟩) HS.out ?_
  · (go_simp)
  simp only [Act.put, List.setIfInBounds_toArray, List.set_cons_zero, List.set_cons_succ]
  refine heldTake 1 (some 21) (.pointer (some ⟨w.heap.size, 3, none⟩)) rfl rfl (by kernel_rfl) (by kernel_rfl) (by kernel_rfl) (fun _ _ _ h => h) (Or.inl ⟨by rfl, fun w hS => ?_⟩) HS.out ?_
  · (go_simp)
  simp only [Act.put, List.setIfInBounds_toArray, List.set_cons_zero, List.set_cons_succ]
  refine heldTake 2 (some 22) (.string x) rfl rfl (by kernel_rfl) (by kernel_rfl) (by kernel_rfl) (fun _ _ _ h => h) (Or.inl ⟨by rfl, fun w hS => ?_⟩) HS.out ?_
  · (go_simp)
  simp only [Act.put, List.setIfInBounds_toArray, List.set_cons_zero, List.set_cons_succ]
  refine heldTake 3 (some 23) (.int .i64 x.size) rfl rfl (by kernel_rfl) (by kernel_rfl) (by kernel_rfl) (fun _ _ _ h => h) (Or.inl ⟨by rfl, fun w hS => ?_⟩) HS.out ?_
  · (go_simp)
  simp only [Act.put, List.setIfInBounds_toArray, List.set_cons_zero, List.set_cons_succ]
  refine heldTake 6 (some 26) (.pointer (some ⟨w.heap.size, 3, none⟩)) rfl rfl (by kernel_rfl) (by kernel_rfl) (by kernel_rfl) (fun _ _ _ h => h) (Or.inl ⟨by rfl, fun w hS => ?_⟩) HS.out ?_
  · (go_simp)
  simp only [Act.put, List.setIfInBounds_toArray, List.set_cons_zero, List.set_cons_succ]
  refine heldTake 7 (some 27) (.string x) rfl rfl (by kernel_rfl) (by kernel_rfl) (by kernel_rfl) (fun _ _ _ h => h) (Or.inl ⟨by rfl, fun w hS => ?_⟩) HS.out ?_
  · (go_simp)
  simp only [Act.put, List.setIfInBounds_toArray, List.set_cons_zero, List.set_cons_succ]
  refine heldOne 4 (by kernel_rfl) rfl (by rfl) (fun KK hK => ?_)
  go_simp
  go_at_call 32
  refine (number_any x.size (by omega) W.drew).mono ?_
  rintro e w2 ⟨v2, rfl, hO2, hB2⟩
  obtain ⟨g2, cap2, rfl, _, _, hl2, hn2⟩ := own_at hO2 hvp
  have HO3 : Hid (w2.ownsRow w.heap.size 5 1 (.slice (some ⟨w.heap.size + 1, 0, none⟩) 1 1) 1 ([2 * t + 1].map V8)) := own_low (owns8_below (owns8_below HO.out (Below.refl W.heap.size W).drew rfl) hB2 rfl) (by omega)
  have HB2 : Hid (Below w.heap.size w w2) := HBW.out.trans ((Below.refl _ W).drew.trans (hB2.mono (by show w.heap.size ≤ W.heap.size; omega)))
  have hs2 := HB2.out.size
  have HS2 : Hid ((fun A : World => A.cell? ⟨w.heap.size, 3, none⟩ = some (.string x)) w2) := (hB2.cell (p := ⟨w.heap.size, 3, none⟩) (by show w.heap.size < W.heap.size; omega)).trans HS.out
  refine hK.out _ _ HS2.out ?_
  clear hK KK
  try simp only [Act.put, List.setIfInBounds_toArray, List.set_cons_zero, List.set_cons_succ]
  refine heldOne 5 (by kernel_rfl) rfl (by rfl) (fun KK hK => ?_)
  refine step_bytes (some 25) rfl (.tmp 20) (.tmp 24) rfl w.heap.size _ 1 [2 * t + 1] rfl HO3.out ⟨g2, 0, none⟩ _ cap2 (Fi.varint x.size) rfl rfl hn2 (by omega) hs2 ?_
  intro v4 w4 hO4 hG4
  have HS4 : Hid ((fun A : World => A.cell? ⟨w.heap.size, 3, none⟩ = some (.string x)) w4) := hG4.cell HS2.out (fun e => by have := Option.some.inj e; simp at this)
  have hs4 := Nat.le_trans hs2 hG4.by_.size
  refine hK.out _ _ HS4.out ?_
  clear hK KK
  try simp only [Act.put, List.setIfInBounds_toArray, List.set_cons_zero, List.set_cons_succ]
  refine heldOne 8 (by kernel_rfl) rfl (by rfl) (fun KK hK => ?_)
  refine step_text (some 28) rfl (.tmp 25) (.tmp 27) rfl w.heap.size v4 _ _ rfl hO4 x rfl (by omega) hs4 ?_
  intro v5 w5 hO5 hG5
  have HS5 : Hid ((fun A : World => A.cell? ⟨w.heap.size, 3, none⟩ = some (.string x)) w5) := hG5.cell HS4.out (hG4.ne (fun e => by have := Option.some.inj e; simp at this) (block_lt_of_cell HS2.out))
  refine hK.out _ _ HS5.out ?_
  clear hK KK
  try simp only [Act.put, List.setIfInBounds_toArray, List.set_cons_zero, List.set_cons_succ]
  refine heldTake 9 (some 2) (v5) rfl rfl (by kernel_rfl) (by kernel_rfl) (by kernel_rfl) (fun _ _ _ h => h) (Or.inl ⟨by rfl, fun w hS => ?_⟩) HS5.out ?_
  · (go_simp)
  simp only [Act.put, List.setIfInBounds_toArray, List.set_cons_zero, List.set_cons_succ]
  refine wpAnyH_done (by kernel_rfl) ?_ _
  go_wp2_with fail
  go_ret
  refine ⟨_, rfl, ?_, HB2.out.trans ((hG4.below HO3.out hs2).trans (hG5.below hO4 hs4))⟩
  rw [List.append_assoc, List.map_append, List.map_append] at hO5
  exact hO5
end Go.Proofs.Ytpbobmhffdmmmaa
