/- Proved: databases and transactions that no call made have nothing, and do nothing (stage 10). -/
import Derived.Test.YtcfninpokngmlaaGreatDoorDWorks
namespace Go.Proofs.YtcfninpokngmlaaGreatDoor
open Go.RowKit
def NoDb (w : World) (v : Value) : Prop := v = nilP ∨ ∃ x, v = ptr x ∧ w.cell? ⟨x, 0, none⟩ = some (.pointer none)
section
variable (w : World) (v : Value)
theorem dmade_no (h : NoDb w v) : Calls Tryz.prog 50 #[v] w fun e w' => e = .returned (.bool false) ∧ w' = w := by
  rcases h with rfl | ⟨x, rfl, c0⟩
  · unfold nilP
    go_enter Tryz.func50, Tryz.ntmps50
    go_wp2
    go_ret
    exact ⟨rfl, rfl⟩
  · unfold ptr
    go_enter Tryz.func50, Tryz.ntmps50
    go_wp2
    go_ret
    exact ⟨rfl, rfl⟩
theorem dcount_no (h : NoDb w v) : Calls Tryz.prog 11 #[v] w fun e w' => e = .returned (.int .i64 0) ∧ w' = w := by
  have HM := dmade_no w v h
  clear h
  go_enter Tryz.func11, Tryz.ntmps11
  go_wp2_with (go_at_call 50; refine HM.mono ?_; rintro e w' ⟨rfl, rfl⟩)
  go_ret
  exact ⟨rfl, rfl⟩
theorem dhigh_no (h : NoDb w v) : Calls Tryz.prog 12 #[v] w fun e w' => e = .returned (.int .i64 0) ∧ w' = w := by
  have HM := dmade_no w v h
  clear h
  go_enter Tryz.func12, Tryz.ntmps12
  go_wp2_with (go_at_call 50; refine HM.mono ?_; rintro e w' ⟨rfl, rfl⟩)
  go_ret
  exact ⟨rfl, rfl⟩
theorem dfree_no (h : NoDb w v) : Calls Tryz.prog 13 #[v] w fun e w' => e = .returned (.int .i64 0) ∧ w' = w := by
  have HM := dmade_no w v h
  clear h
  go_enter Tryz.func13, Tryz.ntmps13
  go_wp2_with (go_at_call 50; refine HM.mono ?_; rintro e w' ⟨rfl, rfl⟩)
  go_ret
  exact ⟨rfl, rfl⟩
theorem idle_no (h : NoDb w v) : Calls Tryz.prog 59 #[v] w fun e w' => e = .returned (.int .i64 1) ∧ w' = w := by
  have HM := dmade_no w v h
  clear h
  go_enter Tryz.func59, Tryz.ntmps59
  go_wp2_with (go_at_call 50; refine HM.mono ?_; rintro e w' ⟨rfl, rfl⟩)
  go_ret
  exact ⟨rfl, rfl⟩
theorem begin_no (h : NoDb w v) : Calls Tryz.prog 24 #[v] w fun e w' => e = .returned (.tuple #[nilP, .int .i64 1]) ∧ w' = w := by
  have HM := idle_no w v h
  clear h
  go_enter Tryz.func24, Tryz.ntmps24
  go_wp2_with (go_at_call 59; refine HM.mono ?_; rintro e w' ⟨rfl, rfl⟩)
  go_ret2
  exact ⟨rfl, rfl⟩
theorem ckpt_no (h : NoDb w v) : Calls Tryz.prog 25 #[v] w fun e w' => e = .returned (.int .i64 1) ∧ w' = w := by
  have HM := idle_no w v h
  clear h
  go_enter Tryz.func25, Tryz.ntmps25
  go_wp2_with (go_at_call 59; refine HM.mono ?_; rintro e w' ⟨rfl, rfl⟩)
  go_ret
  exact ⟨rfl, rfl⟩
theorem cell_bel {w w' : World} {x i : Nat} {u : Value} (hB : Below w.heap.size w w') (h : w.cell? ⟨x, i, none⟩ = some u) : w'.cell? ⟨x, i, none⟩ = some u := by
  by_cases hx : x < w.heap.size
  · rw [World.cell?_of_block (hB.block x hx)]; exact h
  · have : w.heap[x]? = none := Array.getElem?_eq_none (by omega)
    simp [World.cell?, this] at h
theorem Shut.below {w w' : World} {v : Value} (h : Shut w v) (hB : Below w.heap.size w w') : Shut w' v := by
  rcases h with h | ⟨t, h, c⟩
  · exact .inl h
  · exact .inr ⟨t, h, cell_bel hB c⟩
theorem NoDb.below {w w' : World} {v : Value} (h : NoDb w v) (hB : Below w.heap.size w w') : NoDb w' v := by
  rcases h with h | ⟨t, h, c⟩
  · exact .inl h
  · exact .inr ⟨t, h, cell_bel hB c⟩
theorem alloc_no (h : Shut w v) : Calls Tryz.prog 27 #[v] w fun e w' => e = .returned (.tuple #[.int .i64 0, .int .i64 1]) ∧ w' = w := by
  have HM := tready_no w v h
  clear h
  go_enter Tryz.func27, Tryz.ntmps27
  go_wp2_with (go_at_call 62; refine HM.mono ?_; rintro e w' ⟨rfl, rfl⟩)
  go_ret2
  exact ⟨rfl, rfl⟩
theorem setroot_no (i n : Int) (h : Shut w v) : Calls Tryz.prog 32 #[v, .int .i64 i, .int .i64 n] w fun e w' => e = .returned (.int .i64 1) ∧ w' = w := by
  have HM := tready_no w v h
  clear h
  go_enter Tryz.func32, Tryz.ntmps32
  go_wp2_with (go_at_call 62; refine HM.mono ?_; rintro e w' ⟨rfl, rfl⟩)
  go_ret
  exact ⟨rfl, rfl⟩
theorem commit_nob (h : Shut w v) : Calls Tryz.prog 33 #[v] w fun e w' => e = .returned (.int .i64 1) ∧ w' = w := by
  have HM := tready_no w v h
  clear h
  go_enter Tryz.func33, Tryz.ntmps33
  go_wp2_with (go_at_call 62; refine HM.mono ?_; rintro e w' ⟨rfl, rfl⟩)
  go_ret
  exact ⟨rfl, rfl⟩
set_option maxHeartbeats 4000000 in
set_option maxRecDepth 100000 in
theorem there_no (id : Int) (h : Shut w v) : Calls Tryz.prog 61 #[v, .int .i64 id] w fun e w' => e = .returned (.tuple #[.agg #[.int .i64 0, .string ⟨#[]⟩], .int .i64 1]) ∧ Below w.heap.size w w' := by
  have hz := zeroSh
  unfold shV sh00 Pd.none0 at hz
  have HR0 : Hid ((w.alloc (.cells #[.int .i64 0, .string ⟨#[]⟩] 102)).heap[w.heap.size]? = some (.cells #[.int .i64 0, .string ⟨#[]⟩] 102 (0, 0))) := heap_alloc_new w _
  have HB0 : Hid (Below w.heap.size w (w.alloc (.cells #[.int .i64 0, .string ⟨#[]⟩] 102))) := (Below.refl _ _).alloc (Nat.le_refl _) _
  have HM := tready_no (w.alloc (.cells #[.int .i64 0, .string ⟨#[]⟩] 102)) v (h.below HB0.out)
  clear h
  go_enter Tryz.func61, Tryz.ntmps61
  go_wp2_with (go_at_call 62; refine HM.mono ?_; rintro e wS ⟨rfl, hwS⟩; rw [hwS]; clear hwS wS)
  refine bodyPost_ret (results_she Tryz.results61 _ _ w.heap.size 102 _ _ _ rfl rfl HR0.out) rfl ⟨rfl, HB0.out⟩
set_option maxHeartbeats 4000000 in
set_option maxRecDepth 100000 in
theorem read_nob (id : Int) (h : Shut w v) : Calls Tryz.prog 26 #[v, .int .i64 id] w fun e w' => e = .returned (.tuple #[.int .i64 0, .string ⟨#[]⟩, .int .i64 1]) ∧ Below w.heap.size w w' := by
  have HT : Hid (Calls Tryz.prog 61 #[v, .int .i64 id] w fun e w' => e = .returned (.tuple #[.agg #[.int .i64 0, .string ⟨#[]⟩], .int .i64 1]) ∧ Below w.heap.size w w') := there_no w v id h
  have hz := zeroSh
  unfold shV sh00 Pd.none0 at hz
  clear h
  go_enter Tryz.func26, Tryz.ntmps26
  go_wp2_with fail
  refine HT.out.mono ?_
  rintro e w1 ⟨rfl, hB1⟩
  have HB2 : Hid (Below w.heap.size w (w1.alloc (.cells #[.int .i64 0, .string ⟨#[]⟩] 102))) := hB1.alloc hB1.size _
  have c0 : (w1.alloc (.cells #[.int .i64 0, .string ⟨#[]⟩] 102)).cell? ⟨w1.heap.size, 0, none⟩ = some (.int .i64 0) := cell_of_row _ _ _ _ _ (0, 0) (heap_alloc_new w1 _)
  have c1 : (w1.alloc (.cells #[.int .i64 0, .string ⟨#[]⟩] 102)).cell? ⟨w1.heap.size, 1, none⟩ = some (.string ⟨#[]⟩) := cell_of_row _ _ _ _ _ (0, 0) (heap_alloc_new w1 _)
  clear hB1 HT
  go_wp2_with fail
  generalize hw2 : World.alloc w1 _ = w2 at *
  clear hw2
  go_quiet (fail)
  have HB3 : Hid (Below w.heap.size w (w2.drewN nq)) := drewN_below HB2.out nq
  go_wp2
  go_ret3
  exact ⟨rfl, HB3.out⟩
set_option maxHeartbeats 4000000 in
set_option maxRecDepth 100000 in
theorem write_nob (id k : Int) (b : ByteArray) (h : Shut w v) : Calls Tryz.prog 30 #[v, .int .i64 id, .int .i64 k, .string b] w fun e w' => e = .returned (.int .i64 1) ∧ Below w.heap.size w w' := by
  have HT : Hid (Calls Tryz.prog 61 #[v, .int .i64 id] w fun e w' => e = .returned (.tuple #[.agg #[.int .i64 0, .string ⟨#[]⟩], .int .i64 1]) ∧ Below w.heap.size w w') := there_no w v id h
  have hz := zeroSh
  unfold shV sh00 Pd.none0 at hz
  clear h
  go_enter Tryz.func30, Tryz.ntmps30
  go_wp2_with fail
  refine HT.out.mono ?_
  rintro e w1 ⟨rfl, hB1⟩
  have HB2 : Hid (Below w.heap.size w (w1.alloc (.cells #[.int .i64 0, .string ⟨#[]⟩] 102))) := hB1.alloc hB1.size _
  clear hB1 HT
  go_wp2
  go_ret
  exact ⟨rfl, HB2.out⟩
set_option maxHeartbeats 4000000 in
set_option maxRecDepth 100000 in
theorem free_nob (id : Int) (h : Shut w v) : Calls Tryz.prog 31 #[v, .int .i64 id] w fun e w' => e = .returned (.int .i64 1) ∧ Below w.heap.size w w' := by
  have HT : Hid (Calls Tryz.prog 61 #[v, .int .i64 id] w fun e w' => e = .returned (.tuple #[.agg #[.int .i64 0, .string ⟨#[]⟩], .int .i64 1]) ∧ Below w.heap.size w w') := there_no w v id h
  have hz := zeroSh
  unfold shV sh00 Pd.none0 at hz
  clear h
  go_enter Tryz.func31, Tryz.ntmps31
  go_wp2_with fail
  refine HT.out.mono ?_
  rintro e w1 ⟨rfl, hB1⟩
  have HB2 : Hid (Below w.heap.size w (w1.alloc (.cells #[.int .i64 0, .string ⟨#[]⟩] 102))) := hB1.alloc hB1.size _
  have HB1 : Hid (Below w.heap.size w w1) := hB1
  clear hB1 HT
  go_wp2
  go_ret
  exact ⟨rfl, by first | exact HB2.out | exact HB1.out⟩
end
end Go.Proofs.YtcfninpokngmlaaGreatDoor
