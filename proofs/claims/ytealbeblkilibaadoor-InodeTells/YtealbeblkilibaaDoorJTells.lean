/- Proved: the law InodeTells returns true, whatever comes in. -/
import Derived.Test.YtealbeblkilibaaDoorJ12
namespace Go.Proofs.YtealbeblkilibaaDoor
open Go.RowKit
open Ino (Nd Ar)
open FI (heldTake heldOne)
set_option maxHeartbeats 4000000 in
set_option maxRecDepth 20000 in
theorem tells_walk (n : Nd) (a : Ar) (b : Bool) (w : World) (hn : n.sum.length = 32) (ha : a.sum.length = 32) (hT : Tab w) :
    Calls Tryd.prog 6 #[.agg (ndc n), .agg (arc a), .bool b] w fun e w' => e = .returned (.bool true) ∧ Below w.heap.size w w' := by
  have HH : Hid (∀ W : World, Calls Tryd.prog 27 #[.agg (ndc n)] W fun e w' => e = .returned (.bool (Ino.holl n)) ∧ Below W.heap.size W w') := fun W => hollow_any n W hn
  have HRH : Hid (∀ W : World, Calls Tryd.prog 28 #[.agg (ndc n)] W fun e w' => e = .returned (.bool (Ino.holl n)) ∧ Below W.heap.size W w') := fun W => rhollow_any n W hn
  have HD : Hid (∀ W : World, Calls Tryd.prog 29 #[.agg (ndc n), .agg (arc a), .bool b] W fun e w' => e = .returned (.bool (Ino.dirt n a b)) ∧ Below W.heap.size W w') := fun W => dirty_any n a b W hn
  have HRD : Hid (∀ W : World, Calls Tryd.prog 30 #[.agg (ndc n), .agg (arc a), .bool b] W fun e w' => e = .returned (.bool (Ino.dirt n a b)) ∧ Below W.heap.size W w') := fun W => rdirty_any n a b W hn
  have HL : Hid (∀ W : World, Calls Tryd.prog 31 #[.agg (ndc n), .int .i64 a.size, .agg (smc a.sum)] W fun e w' => e = .returned (.bool (Ino.like n a.size a.sum)) ∧ Below W.heap.size W w') := fun W => like_any n a.size a.sum W hn ha
  have HRL : Hid (∀ W : World, Calls Tryd.prog 32 #[.agg (ndc n), .int .i64 a.size, .agg (smc a.sum)] W fun e w' => e = .returned (.bool (Ino.like n a.size a.sum)) ∧ Below W.heap.size W w') := fun W => rlike_any n a.size a.sum W hn ha
  have HL2 : Hid (∀ W : World, Calls Tryd.prog 31 #[.agg (ndc n), .int .i64 n.size, .agg (smc n.sum)] W fun e w' => e = .returned (.bool (Ino.like n n.size n.sum)) ∧ Below W.heap.size W w') := fun W => like_any n n.size n.sum W hn hn
  have HRL2 : Hid (∀ W : World, Calls Tryd.prog 32 #[.agg (ndc n), .int .i64 n.size, .agg (smc n.sum)] W fun e w' => e = .returned (.bool (Ino.like n n.size n.sum)) ∧ Below W.heap.size W w') := fun W => rlike_any n n.size n.sum W hn hn
  have HW : Hid (∀ W : World, Tab W → Calls Tryd.prog 14 #[] W fun e w' => e = .returned (.bool true) ∧ Below W.heap.size W w') := works_any
  have hr0 : (w.alloc (.cells (ndc n) 39)).heap[w.heap.size]? = some (.cells (ndc n) 39 (0, 0)) := heap_alloc_new w _
  have hN2 : NdAt ((w.alloc (.cells (ndc n) 39)).alloc (.cells (arc a) 55)) w.heap.size n := (nd_at hn hr0).below ((Below.refl (w.heap.size + 1) _).alloc (by simp) _) (by omega)
  have hr1 : ((w.alloc (.cells (ndc n) 39)).alloc (.cells (arc a) 55)).heap[w.heap.size + 1]? = some (.cells (arc a) 55 (0, 0)) := by
    have h := heap_alloc_new (w.alloc (.cells (ndc n) 39)) (.cells (arc a) 55)
    rwa [FI.size_alloc1] at h
  have hA2 := ar_at hr1
  have HB2 : Hid (Below w.heap.size w ((w.alloc (.cells (ndc n) 39)).alloc (.cells (arc a) 55))) := ((Below.refl _ w).alloc (Nat.le_refl _) _).alloc (by simp) _
  have HT2 : Hid (Tab ((w.alloc (.cells (ndc n) 39)).alloc (.cells (arc a) 55))) := hT.below HB2.out
  have hz2 : w.heap.size + 2 ≤ ((w.alloc (.cells (ndc n) 39)).alloc (.cells (arc a) 55)).heap.size := by simp
  have HZ : Is (ndc n).size 37 := ⟨ndc_size hn⟩
  have HZa : Is (arc a).size 34 := ⟨arc_size ha⟩
  have HZs : Is (smc a.sum).size 32 := ⟨smc_size ha⟩
  have HZn : Is (smc n.sum).size 32 := ⟨smc_size hn⟩
  have HSA : Is (smc a.sum).toList (a.sum.map c8) := ⟨rfl⟩
  have HSN : Is (smc n.sum).toList (n.sum.map c8) := ⟨rfl⟩
  go_enter Tryd.func6, Tryd.ntmps6
  go_upto_region 1 with fail
  generalize (w.alloc (.cells (ndc n) 39)).alloc (.cells (arc a) 55) = w2 at *
  have HBb : Hid (∀ W : World, Below (w.heap.size + 2) w2 W → Below w.heap.size w W) := fun W h => HB2.out.trans (h.mono (by omega))
  have HTb : Hid (∀ W : World, Below (w.heap.size + 2) w2 W → Tab W) := fun W h => hT.below (HBb.out W h)
  generalize hg : w.heap.size = g at *
  have HG : Is w.heap.size g := ⟨hg⟩
  have HN : Hid (∀ W : World, Below (g + 2) w2 W → NdAt W g n) := fun W h => hN2.below h (by omega)
  have HA : Hid (∀ W : World, Below (g + 2) w2 W → ArAt W (g + 1) a) := fun W h => hA2.below h (by omega)
  have HRN : Hid (∀ W : World, Below (g + 2) w2 W → W.heap[g]? = some (.cells (ndc n) 39 (0, 0))) := fun W h => (HN.out W h).row
  have HRA : Hid (∀ W : World, Below (g + 2) w2 W → W.heap[g + 1]? = some (.cells (arc a) 55 (0, 0))) := fun W h => (HA.out W h).row
  clear hr0 hr1 hN2 hA2 hg
  generalize ndc n = C at *
  generalize arc a = A at *
  generalize smc a.sum = SA at *
  generalize smc n.sum = SN at *
  generalize Ino.holl n = bh at *
  generalize Ino.dirt n a b = bd at *
  generalize Ino.like n a.size a.sum = bl1 at *
  generalize Ino.like n n.size n.sum = bl2 at *
  have HS : Hid (Below (g + 2) w2 w2.drew) := (Below.refl _ _).drew
  refine wp_region_held_drew (S := fun W => Below (g + 2) w2 W) (by kernel_rfl) HS.out (fun _ => ?_)
  refine heldTake 0 (some 7) (.agg C) rfl rfl (by kernel_rfl) (by kernel_rfl) (by kernel_rfl) (fun _ _ _ h => h) (yields_mid (by rfl) 39 _ rfl g 0 rfl C _ (fun w hS => range_row (HRN.out w hS)) Tryd.underlying39 rfl (by rw [size39, HZ.eq])) HS.out ?_
  simp only [Act.put, List.setIfInBounds_toArray, List.set_cons_zero, List.set_cons_succ]
  refine heldTake 2 (some 9) (.agg C) rfl rfl (by kernel_rfl) (by kernel_rfl) (by kernel_rfl) (fun _ _ _ h => h) (yields_mid (by rfl) 39 _ rfl g 0 rfl C _ (fun w hS => range_row (HRN.out w hS)) Tryd.underlying39 rfl (by rw [size39, HZ.eq])) HS.out ?_
  simp only [Act.put, List.setIfInBounds_toArray, List.set_cons_zero, List.set_cons_succ]
  refine heldOne 1 (by kernel_rfl) rfl (by rfl) (fun KK hK => ?_)
  go_simp
  go_at_call 27
  refine (HH.out _).mono ?_
  rintro e w3 ⟨rfl, hb3⟩
  have HS3 : Hid (Below (g + 2) w2 w3) := hold_call HS.out hz2 hb3
  refine hK.out _ _ HS3.out ?_
  clear hK KK
  try simp only [Act.put, List.setIfInBounds_toArray, List.set_cons_zero, List.set_cons_succ]
  refine heldOne 3 (by kernel_rfl) rfl (by rfl) (fun KK hK => ?_)
  go_simp
  go_at_call 28
  refine (HRH.out _).mono ?_
  rintro e w4 ⟨rfl, hb4⟩
  have HS4 : Hid (Below (g + 2) w2 w4) := hold_call HS3.out hz2 hb4
  refine hK.out _ _ HS4.out ?_
  clear hK KK
  try simp only [Act.put, List.setIfInBounds_toArray, List.set_cons_zero, List.set_cons_succ]
  refine heldTake 4 (some 11) (.bool true) rfl rfl (by kernel_rfl) (by kernel_rfl) (by kernel_rfl) (fun _ _ _ h => h) (Or.inl ⟨by rfl, fun w hS => ?_⟩) HS4.out ?_
  · (go_simp)
  simp only [Act.put, List.setIfInBounds_toArray, List.set_cons_zero, List.set_cons_succ]
  refine heldTake 5 (some 12) (.bool true) rfl rfl (by kernel_rfl) (by kernel_rfl) (by kernel_rfl) (fun _ _ _ h => h) (Or.inl ⟨by rfl, fun w hS => ?_⟩) HS4.out ?_
  · (go_simp)
  simp only [Act.put, List.setIfInBounds_toArray, List.set_cons_zero, List.set_cons_succ]
  refine heldTake 6 (some 13) (.agg C) rfl rfl (by kernel_rfl) (by kernel_rfl) (by kernel_rfl) (fun _ _ _ h => h) (yields_mid (by rfl) 39 _ rfl g 0 rfl C _ (fun w hS => range_row (HRN.out w hS)) Tryd.underlying39 rfl (by rw [size39, HZ.eq])) HS4.out ?_
  simp only [Act.put, List.setIfInBounds_toArray, List.set_cons_zero, List.set_cons_succ]
  refine heldTake 7 (some 14) (.agg A) rfl rfl (by kernel_rfl) (by kernel_rfl) (by kernel_rfl) (fun _ _ _ h => h) (yields_mid (by rfl) 55 _ rfl (g + 1) 0 rfl A _ (fun w hS => range_row (HRA.out w hS)) Tryd.underlying55 rfl (by rw [size55, HZa.eq])) HS4.out ?_
  simp only [Act.put, List.setIfInBounds_toArray, List.set_cons_zero, List.set_cons_succ]
  refine heldTake 8 (some 15) (.bool b) rfl rfl (by kernel_rfl) (by kernel_rfl) (by kernel_rfl) (fun _ _ _ h => h) (Or.inl ⟨by rfl, fun w hS => ?_⟩) HS4.out ?_
  · (go_simp)
  simp only [Act.put, List.setIfInBounds_toArray, List.set_cons_zero, List.set_cons_succ]
  refine heldTake 10 (some 17) (.agg C) rfl rfl (by kernel_rfl) (by kernel_rfl) (by kernel_rfl) (fun _ _ _ h => h) (yields_mid (by rfl) 39 _ rfl g 0 rfl C _ (fun w hS => range_row (HRN.out w hS)) Tryd.underlying39 rfl (by rw [size39, HZ.eq])) HS4.out ?_
  simp only [Act.put, List.setIfInBounds_toArray, List.set_cons_zero, List.set_cons_succ]
  refine heldTake 11 (some 18) (.agg A) rfl rfl (by kernel_rfl) (by kernel_rfl) (by kernel_rfl) (fun _ _ _ h => h) (yields_mid (by rfl) 55 _ rfl (g + 1) 0 rfl A _ (fun w hS => range_row (HRA.out w hS)) Tryd.underlying55 rfl (by rw [size55, HZa.eq])) HS4.out ?_
  simp only [Act.put, List.setIfInBounds_toArray, List.set_cons_zero, List.set_cons_succ]
  refine heldTake 12 (some 19) (.bool b) rfl rfl (by kernel_rfl) (by kernel_rfl) (by kernel_rfl) (fun _ _ _ h => h) (Or.inl ⟨by rfl, fun w hS => ?_⟩) HS4.out ?_
  · (go_simp)
  simp only [Act.put, List.setIfInBounds_toArray, List.set_cons_zero, List.set_cons_succ]
  refine heldOne 9 (by kernel_rfl) rfl (by rfl) (fun KK hK => ?_)
  go_simp
  go_at_call 29
  refine (HD.out _).mono ?_
  rintro e w5 ⟨rfl, hb5⟩
  have HS5 : Hid (Below (g + 2) w2 w5) := hold_call HS4.out hz2 hb5
  refine hK.out _ _ HS5.out ?_
  clear hK KK
  try simp only [Act.put, List.setIfInBounds_toArray, List.set_cons_zero, List.set_cons_succ]
  refine heldOne 13 (by kernel_rfl) rfl (by rfl) (fun KK hK => ?_)
  go_simp
  go_at_call 30
  refine (HRD.out _).mono ?_
  rintro e w6 ⟨rfl, hb6⟩
  have HS6 : Hid (Below (g + 2) w2 w6) := hold_call HS5.out hz2 hb6
  refine hK.out _ _ HS6.out ?_
  clear hK KK
  try simp only [Act.put, List.setIfInBounds_toArray, List.set_cons_zero, List.set_cons_succ]
  refine heldTake 14 (some 21) (.bool true) rfl rfl (by kernel_rfl) (by kernel_rfl) (by kernel_rfl) (fun _ _ _ h => h) (Or.inl ⟨by rfl, fun w hS => ?_⟩) HS6.out ?_
  · (go_simp)
  simp only [Act.put, List.setIfInBounds_toArray, List.set_cons_zero, List.set_cons_succ]
  refine heldTake 15 (some 22) (.bool true) rfl rfl (by kernel_rfl) (by kernel_rfl) (by kernel_rfl) (fun _ _ _ h => h) (Or.inl ⟨by rfl, fun w hS => ?_⟩) HS6.out ?_
  · (go_simp)
  simp only [Act.put, List.setIfInBounds_toArray, List.set_cons_zero, List.set_cons_succ]
  refine heldTake 16 (some 23) (.bool true) rfl rfl (by kernel_rfl) (by kernel_rfl) (by kernel_rfl) (fun _ _ _ h => h) (Or.inl ⟨by rfl, fun w hS => ?_⟩) HS6.out ?_
  · (go_simp)
  simp only [Act.put, List.setIfInBounds_toArray, List.set_cons_zero, List.set_cons_succ]
  refine heldTake 17 (some 24) (.agg C) rfl rfl (by kernel_rfl) (by kernel_rfl) (by kernel_rfl) (fun _ _ _ h => h) (yields_mid (by rfl) 39 _ rfl g 0 rfl C _ (fun w hS => range_row (HRN.out w hS)) Tryd.underlying39 rfl (by rw [size39, HZ.eq])) HS6.out ?_
  simp only [Act.put, List.setIfInBounds_toArray, List.set_cons_zero, List.set_cons_succ]
  refine heldTake 18 (some 25) (.pointer (some ⟨g + 1, 1, none⟩)) rfl rfl (by kernel_rfl) (by kernel_rfl) (by kernel_rfl) (fun _ _ _ h => h) (Or.inl ⟨by rfl, fun w hS => ?_⟩) HS6.out ?_
  · (go_simp)
  simp only [Act.put, List.setIfInBounds_toArray, List.set_cons_zero, List.set_cons_succ]
  refine heldTake 19 (some 26) (.int .i64 a.size) rfl rfl (by kernel_rfl) (by kernel_rfl) (by kernel_rfl) (fun _ _ _ h => h) (Or.inl ⟨by rfl, fun w hS => ?_⟩) HS6.out ?_
  · (have c := (HA.out w hS).size; go_simp)
  simp only [Act.put, List.setIfInBounds_toArray, List.set_cons_zero, List.set_cons_succ]
  refine heldTake 20 (some 27) (.pointer (some ⟨g + 1, 2, none⟩)) rfl rfl (by kernel_rfl) (by kernel_rfl) (by kernel_rfl) (fun _ _ _ h => h) (Or.inl ⟨by rfl, fun w hS => ?_⟩) HS6.out ?_
  · (go_simp)
  simp only [Act.put, List.setIfInBounds_toArray, List.set_cons_zero, List.set_cons_succ]
  refine heldTake 21 (some 28) (.agg SA) rfl rfl (by kernel_rfl) (by kernel_rfl) (by kernel_rfl) (fun _ _ _ h => h) (yields_mid (by rfl) 37 _ rfl (g + 1) 2 rfl SA _ (fun w hS => HSA.eq ▸ (HA.out w hS).sum) Tryd.underlying37 rfl (by rw [size37, HZs.eq])) HS6.out ?_
  simp only [Act.put, List.setIfInBounds_toArray, List.set_cons_zero, List.set_cons_succ]
  refine heldTake 23 (some 30) (.agg C) rfl rfl (by kernel_rfl) (by kernel_rfl) (by kernel_rfl) (fun _ _ _ h => h) (yields_mid (by rfl) 39 _ rfl g 0 rfl C _ (fun w hS => range_row (HRN.out w hS)) Tryd.underlying39 rfl (by rw [size39, HZ.eq])) HS6.out ?_
  simp only [Act.put, List.setIfInBounds_toArray, List.set_cons_zero, List.set_cons_succ]
  refine heldTake 24 (some 31) (.pointer (some ⟨g + 1, 1, none⟩)) rfl rfl (by kernel_rfl) (by kernel_rfl) (by kernel_rfl) (fun _ _ _ h => h) (Or.inl ⟨by rfl, fun w hS => ?_⟩) HS6.out ?_
  · (go_simp)
  simp only [Act.put, List.setIfInBounds_toArray, List.set_cons_zero, List.set_cons_succ]
  refine heldTake 25 (some 32) (.int .i64 a.size) rfl rfl (by kernel_rfl) (by kernel_rfl) (by kernel_rfl) (fun _ _ _ h => h) (Or.inl ⟨by rfl, fun w hS => ?_⟩) HS6.out ?_
  · (have c := (HA.out w hS).size; go_simp)
  simp only [Act.put, List.setIfInBounds_toArray, List.set_cons_zero, List.set_cons_succ]
  refine heldTake 26 (some 33) (.pointer (some ⟨g + 1, 2, none⟩)) rfl rfl (by kernel_rfl) (by kernel_rfl) (by kernel_rfl) (fun _ _ _ h => h) (Or.inl ⟨by rfl, fun w hS => ?_⟩) HS6.out ?_
  · (go_simp)
  simp only [Act.put, List.setIfInBounds_toArray, List.set_cons_zero, List.set_cons_succ]
  refine heldTake 27 (some 34) (.agg SA) rfl rfl (by kernel_rfl) (by kernel_rfl) (by kernel_rfl) (fun _ _ _ h => h) (yields_mid (by rfl) 37 _ rfl (g + 1) 2 rfl SA _ (fun w hS => HSA.eq ▸ (HA.out w hS).sum) Tryd.underlying37 rfl (by rw [size37, HZs.eq])) HS6.out ?_
  simp only [Act.put, List.setIfInBounds_toArray, List.set_cons_zero, List.set_cons_succ]
  refine heldOne 22 (by kernel_rfl) rfl (by rfl) (fun KK hK => ?_)
  go_simp
  go_at_call 31
  refine (HL.out _).mono ?_
  rintro e w7 ⟨rfl, hb7⟩
  have HS7 : Hid (Below (g + 2) w2 w7) := hold_call HS6.out hz2 hb7
  refine hK.out _ _ HS7.out ?_
  clear hK KK
  try simp only [Act.put, List.setIfInBounds_toArray, List.set_cons_zero, List.set_cons_succ]
  refine heldOne 28 (by kernel_rfl) rfl (by rfl) (fun KK hK => ?_)
  go_simp
  go_at_call 32
  refine (HRL.out _).mono ?_
  rintro e w8 ⟨rfl, hb8⟩
  have HS8 : Hid (Below (g + 2) w2 w8) := hold_call HS7.out hz2 hb8
  refine hK.out _ _ HS8.out ?_
  clear hK KK
  try simp only [Act.put, List.setIfInBounds_toArray, List.set_cons_zero, List.set_cons_succ]
  refine heldTake 29 (some 36) (.bool true) rfl rfl (by kernel_rfl) (by kernel_rfl) (by kernel_rfl) (fun _ _ _ h => h) (Or.inl ⟨by rfl, fun w hS => ?_⟩) HS8.out ?_
  · (go_simp)
  simp only [Act.put, List.setIfInBounds_toArray, List.set_cons_zero, List.set_cons_succ]
  refine heldTake 30 (some 37) (.bool true) rfl rfl (by kernel_rfl) (by kernel_rfl) (by kernel_rfl) (fun _ _ _ h => h) (Or.inl ⟨by rfl, fun w hS => ?_⟩) HS8.out ?_
  · (go_simp)
  simp only [Act.put, List.setIfInBounds_toArray, List.set_cons_zero, List.set_cons_succ]
  refine heldTake 31 (some 38) (.bool true) rfl rfl (by kernel_rfl) (by kernel_rfl) (by kernel_rfl) (fun _ _ _ h => h) (Or.inl ⟨by rfl, fun w hS => ?_⟩) HS8.out ?_
  · (go_simp)
  simp only [Act.put, List.setIfInBounds_toArray, List.set_cons_zero, List.set_cons_succ]
  refine heldTake 32 (some 39) (.agg C) rfl rfl (by kernel_rfl) (by kernel_rfl) (by kernel_rfl) (fun _ _ _ h => h) (yields_mid (by rfl) 39 _ rfl g 0 rfl C _ (fun w hS => range_row (HRN.out w hS)) Tryd.underlying39 rfl (by rw [size39, HZ.eq])) HS8.out ?_
  simp only [Act.put, List.setIfInBounds_toArray, List.set_cons_zero, List.set_cons_succ]
  refine heldTake 33 (some 40) (.pointer (some ⟨g, 1, none⟩)) rfl rfl (by kernel_rfl) (by kernel_rfl) (by kernel_rfl) (fun _ _ _ h => h) (Or.inl ⟨by rfl, fun w hS => ?_⟩) HS8.out ?_
  · (go_simp)
  simp only [Act.put, List.setIfInBounds_toArray, List.set_cons_zero, List.set_cons_succ]
  refine heldTake 34 (some 41) (.int .i64 n.size) rfl rfl (by kernel_rfl) (by kernel_rfl) (by kernel_rfl) (fun _ _ _ h => h) (Or.inl ⟨by rfl, fun w hS => ?_⟩) HS8.out ?_
  · (have c := (HN.out w hS).size; go_simp)
  simp only [Act.put, List.setIfInBounds_toArray, List.set_cons_zero, List.set_cons_succ]
  refine heldTake 35 (some 42) (.pointer (some ⟨g, 2, none⟩)) rfl rfl (by kernel_rfl) (by kernel_rfl) (by kernel_rfl) (fun _ _ _ h => h) (Or.inl ⟨by rfl, fun w hS => ?_⟩) HS8.out ?_
  · (go_simp)
  simp only [Act.put, List.setIfInBounds_toArray, List.set_cons_zero, List.set_cons_succ]
  refine heldTake 36 (some 43) (.agg SN) rfl rfl (by kernel_rfl) (by kernel_rfl) (by kernel_rfl) (fun _ _ _ h => h) (yields_mid (by rfl) 37 _ rfl g 2 rfl SN _ (fun w hS => HSN.eq ▸ (HN.out w hS).sum) Tryd.underlying37 rfl (by rw [size37, HZn.eq])) HS8.out ?_
  simp only [Act.put, List.setIfInBounds_toArray, List.set_cons_zero, List.set_cons_succ]
  refine heldTake 38 (some 45) (.agg C) rfl rfl (by kernel_rfl) (by kernel_rfl) (by kernel_rfl) (fun _ _ _ h => h) (yields_mid (by rfl) 39 _ rfl g 0 rfl C _ (fun w hS => range_row (HRN.out w hS)) Tryd.underlying39 rfl (by rw [size39, HZ.eq])) HS8.out ?_
  simp only [Act.put, List.setIfInBounds_toArray, List.set_cons_zero, List.set_cons_succ]
  refine heldTake 39 (some 46) (.pointer (some ⟨g, 1, none⟩)) rfl rfl (by kernel_rfl) (by kernel_rfl) (by kernel_rfl) (fun _ _ _ h => h) (Or.inl ⟨by rfl, fun w hS => ?_⟩) HS8.out ?_
  · (go_simp)
  simp only [Act.put, List.setIfInBounds_toArray, List.set_cons_zero, List.set_cons_succ]
  refine heldTake 40 (some 47) (.int .i64 n.size) rfl rfl (by kernel_rfl) (by kernel_rfl) (by kernel_rfl) (fun _ _ _ h => h) (Or.inl ⟨by rfl, fun w hS => ?_⟩) HS8.out ?_
  · (have c := (HN.out w hS).size; go_simp)
  simp only [Act.put, List.setIfInBounds_toArray, List.set_cons_zero, List.set_cons_succ]
  refine heldTake 41 (some 48) (.pointer (some ⟨g, 2, none⟩)) rfl rfl (by kernel_rfl) (by kernel_rfl) (by kernel_rfl) (fun _ _ _ h => h) (Or.inl ⟨by rfl, fun w hS => ?_⟩) HS8.out ?_
  · (go_simp)
  simp only [Act.put, List.setIfInBounds_toArray, List.set_cons_zero, List.set_cons_succ]
  refine heldTake 42 (some 49) (.agg SN) rfl rfl (by kernel_rfl) (by kernel_rfl) (by kernel_rfl) (fun _ _ _ h => h) (yields_mid (by rfl) 37 _ rfl g 2 rfl SN _ (fun w hS => HSN.eq ▸ (HN.out w hS).sum) Tryd.underlying37 rfl (by rw [size37, HZn.eq])) HS8.out ?_
  simp only [Act.put, List.setIfInBounds_toArray, List.set_cons_zero, List.set_cons_succ]
  refine heldOne 37 (by kernel_rfl) rfl (by rfl) (fun KK hK => ?_)
  go_simp
  go_at_call 31
  refine (HL2.out _).mono ?_
  rintro e w9 ⟨rfl, hb9⟩
  have HS9 : Hid (Below (g + 2) w2 w9) := hold_call HS8.out hz2 hb9
  refine hK.out _ _ HS9.out ?_
  clear hK KK
  try simp only [Act.put, List.setIfInBounds_toArray, List.set_cons_zero, List.set_cons_succ]
  refine heldOne 43 (by kernel_rfl) rfl (by rfl) (fun KK hK => ?_)
  go_simp
  go_at_call 32
  refine (HRL2.out _).mono ?_
  rintro e w10 ⟨rfl, hb10⟩
  have HS10 : Hid (Below (g + 2) w2 w10) := hold_call HS9.out hz2 hb10
  refine hK.out _ _ HS10.out ?_
  clear hK KK
  try simp only [Act.put, List.setIfInBounds_toArray, List.set_cons_zero, List.set_cons_succ]
  refine heldTake 44 (some 51) (.bool true) rfl rfl (by kernel_rfl) (by kernel_rfl) (by kernel_rfl) (fun _ _ _ h => h) (Or.inl ⟨by rfl, fun w hS => ?_⟩) HS10.out ?_
  · (go_simp)
  simp only [Act.put, List.setIfInBounds_toArray, List.set_cons_zero, List.set_cons_succ]
  refine heldTake 45 (some 52) (.bool true) rfl rfl (by kernel_rfl) (by kernel_rfl) (by kernel_rfl) (fun _ _ _ h => h) (Or.inl ⟨by rfl, fun w hS => ?_⟩) HS10.out ?_
  · (go_simp)
  simp only [Act.put, List.setIfInBounds_toArray, List.set_cons_zero, List.set_cons_succ]
  refine heldTake 46 (some 53) (.bool true) rfl rfl (by kernel_rfl) (by kernel_rfl) (by kernel_rfl) (fun _ _ _ h => h) (Or.inl ⟨by rfl, fun w hS => ?_⟩) HS10.out ?_
  · (go_simp)
  simp only [Act.put, List.setIfInBounds_toArray, List.set_cons_zero, List.set_cons_succ]
  refine heldOne 47 (by kernel_rfl) rfl (by rfl) (fun KK hK => ?_)
  go_simp
  go_at_call 14
  refine (HW.out _ (HTb.out _ HS10.out)).mono ?_
  rintro e w11 ⟨rfl, hb11⟩
  have HS11 : Hid (Below (g + 2) w2 w11) := hold_call HS10.out hz2 hb11
  refine hK.out _ _ HS11.out ?_
  clear hK KK
  try simp only [Act.put, List.setIfInBounds_toArray, List.set_cons_zero, List.set_cons_succ]
  refine heldTake 48 (some 55) (.bool true) rfl rfl (by kernel_rfl) (by kernel_rfl) (by kernel_rfl) (fun _ _ _ h => h) (Or.inl ⟨by rfl, fun w hS => ?_⟩) HS11.out ?_
  · (go_simp)
  simp only [Act.put, List.setIfInBounds_toArray, List.set_cons_zero, List.set_cons_succ]
  refine heldTake 49 (some 6) (.bool true) rfl rfl (by kernel_rfl) (by kernel_rfl) (by kernel_rfl) (fun _ _ _ h => h) (Or.inl ⟨by rfl, fun w hS => ?_⟩) HS11.out ?_
  · (go_simp)
  simp only [Act.put, List.setIfInBounds_toArray, List.set_cons_zero, List.set_cons_succ]
  refine wpAnyH_done (by kernel_rfl) ?_ _
  go_wp2_with fail
  go_ret
  exact ⟨rfl, by rw [HG.eq]; exact HBb.out _ HS11.out⟩
end Go.Proofs.YtealbeblkilibaaDoor
