/- Proved: what a state's sheet answers. -/
import Derived.Test.YtcfninpokngmlaaGreatDoorDStt
namespace Go.Proofs.YtcfninpokngmlaaGreatDoor
open Go.RowKit
theorem below_drew {w w' : World} (h : Below w.drew.heap.size w.drew w') : Below w.heap.size w w' := (show Below w.heap.size w w.drew from ⟨rfl, rfl, rfl, Nat.le_refl _, fun _ _ => rfl⟩).trans h
set_option maxHeartbeats 4000000 in
set_option maxRecDepth 20000 in
theorem sheet_any (t : Pd.Stt) (w : World) :
    Calls Tryz.prog 88 #[stV t] w fun e w' => e = .returned (shV t.sheet) ∧ Below w.heap.size w w' := by
  obtain ⟨a0, a1, a2, a3, a4, a5, a6⟩ := t
  have hz := zeroSh
  unfold shV sh00 Pd.none0 at hz
  show Calls Tryz.prog 88 #[.agg #[.int .i64 (a0 : Int), .int .i64 (a1 : Int), .int .i64 (a2 : Int), .int .i64 (a3 : Int), .int .i64 (a4 : Int), .int .i64 (a5 : Int), .int .i64 (a6 : Int)]] w fun e w' => e = .returned (.agg #[.int .i64 1, .string ((⟨#[65, 81, 68, 66]⟩ : ByteArray) ++ Wl.put a0 4 ++ Wl.put a1 4 ++ Wl.put a2 4 ++ Wl.put a3 4 ++ Wl.put a4 4 ++ Wl.put a5 4 ++ Wl.put a6 4)]) ∧ Below w.heap.size w w'
  have s0 : (⟨#[65, 81, 68, 66]⟩ : ByteArray).size = 4 := rfl
  have s1 := Wl.put_size a0 4
  have s2 := Wl.put_size a1 4
  have s3 := Wl.put_size a2 4
  have s4 := Wl.put_size a3 4
  have s5 := Wl.put_size a4 4
  have s6 := Wl.put_size a5 4
  have s7 := Wl.put_size a6 4
  have N0 : Hid (∀ W, Calls Tryz.prog 90 #[.int .i64 (a0 : Int)] W fun e w' => e = .returned (.string (Wl.put a0 4)) ∧ Below W.heap.size W w') := fun W => ntext_any a0 W
  have N1 : Hid (∀ W, Calls Tryz.prog 90 #[.int .i64 (a1 : Int)] W fun e w' => e = .returned (.string (Wl.put a1 4)) ∧ Below W.heap.size W w') := fun W => ntext_any a1 W
  have N2 : Hid (∀ W, Calls Tryz.prog 90 #[.int .i64 (a2 : Int)] W fun e w' => e = .returned (.string (Wl.put a2 4)) ∧ Below W.heap.size W w') := fun W => ntext_any a2 W
  have N3 : Hid (∀ W, Calls Tryz.prog 90 #[.int .i64 (a3 : Int)] W fun e w' => e = .returned (.string (Wl.put a3 4)) ∧ Below W.heap.size W w') := fun W => ntext_any a3 W
  have N4 : Hid (∀ W, Calls Tryz.prog 90 #[.int .i64 (a4 : Int)] W fun e w' => e = .returned (.string (Wl.put a4 4)) ∧ Below W.heap.size W w') := fun W => ntext_any a4 W
  have N5 : Hid (∀ W, Calls Tryz.prog 90 #[.int .i64 (a5 : Int)] W fun e w' => e = .returned (.string (Wl.put a5 4)) ∧ Below W.heap.size W w') := fun W => ntext_any a5 W
  have N6 : Hid (∀ W, Calls Tryz.prog 90 #[.int .i64 (a6 : Int)] W fun e w' => e = .returned (.string (Wl.put a6 4)) ∧ Below W.heap.size W w') := fun W => ntext_any a6 W
  generalize Wl.put a0 4 = p0 at *
  generalize Wl.put a1 4 = p1 at *
  generalize Wl.put a2 4 = p2 at *
  generalize Wl.put a3 4 = p3 at *
  generalize Wl.put a4 4 = p4 at *
  generalize Wl.put a5 4 = p5 at *
  generalize Wl.put a6 4 = p6 at *
  have A0 : ∀ W : World, (Op.stringOp .add (⟨#[65, 81, 68, 66]⟩ : ByteArray) p0).run Tryz.prog W = .ok (.string ((⟨#[65, 81, 68, 66]⟩ : ByteArray) ++ p0)) W := fun W => run_string_add_sum W _ _ (by omega)
  have A1 : ∀ W : World, (Op.stringOp .add ((⟨#[65, 81, 68, 66]⟩ : ByteArray) ++ p0) p1).run Tryz.prog W = .ok (.string ((⟨#[65, 81, 68, 66]⟩ : ByteArray) ++ p0 ++ p1)) W := fun W => run_string_add_sum W _ _ (by simp only [ByteArray.size_append]; omega)
  have A2 : ∀ W : World, (Op.stringOp .add ((⟨#[65, 81, 68, 66]⟩ : ByteArray) ++ p0 ++ p1) p2).run Tryz.prog W = .ok (.string ((⟨#[65, 81, 68, 66]⟩ : ByteArray) ++ p0 ++ p1 ++ p2)) W := fun W => run_string_add_sum W _ _ (by simp only [ByteArray.size_append]; omega)
  have A3 : ∀ W : World, (Op.stringOp .add ((⟨#[65, 81, 68, 66]⟩ : ByteArray) ++ p0 ++ p1 ++ p2) p3).run Tryz.prog W = .ok (.string ((⟨#[65, 81, 68, 66]⟩ : ByteArray) ++ p0 ++ p1 ++ p2 ++ p3)) W := fun W => run_string_add_sum W _ _ (by simp only [ByteArray.size_append]; omega)
  have A4 : ∀ W : World, (Op.stringOp .add ((⟨#[65, 81, 68, 66]⟩ : ByteArray) ++ p0 ++ p1 ++ p2 ++ p3) p4).run Tryz.prog W = .ok (.string ((⟨#[65, 81, 68, 66]⟩ : ByteArray) ++ p0 ++ p1 ++ p2 ++ p3 ++ p4)) W := fun W => run_string_add_sum W _ _ (by simp only [ByteArray.size_append]; omega)
  have A5 : ∀ W : World, (Op.stringOp .add ((⟨#[65, 81, 68, 66]⟩ : ByteArray) ++ p0 ++ p1 ++ p2 ++ p3 ++ p4) p5).run Tryz.prog W = .ok (.string ((⟨#[65, 81, 68, 66]⟩ : ByteArray) ++ p0 ++ p1 ++ p2 ++ p3 ++ p4 ++ p5)) W := fun W => run_string_add_sum W _ _ (by simp only [ByteArray.size_append]; omega)
  have A6 : ∀ W : World, (Op.stringOp .add ((⟨#[65, 81, 68, 66]⟩ : ByteArray) ++ p0 ++ p1 ++ p2 ++ p3 ++ p4 ++ p5) p6).run Tryz.prog W = .ok (.string ((⟨#[65, 81, 68, 66]⟩ : ByteArray) ++ p0 ++ p1 ++ p2 ++ p3 ++ p4 ++ p5 ++ p6)) W := fun W => run_string_add_sum W _ _ (by simp only [ByteArray.size_append]; omega)
  have i0 : ∀ W : World, (Instr.index 56 (.agg #[.int .i64 (a3 : Int), .int .i64 (a4 : Int), .int .i64 (a5 : Int), .int .i64 (a6 : Int)]) (.int .i64 0)).run Tryz.prog W = .ok (.int .i64 (a3 : Int)) W := fun W => by kernel_rfl
  have i1 : ∀ W : World, (Instr.index 56 (.agg #[.int .i64 (a3 : Int), .int .i64 (a4 : Int), .int .i64 (a5 : Int), .int .i64 (a6 : Int)]) (.int .i64 1)).run Tryz.prog W = .ok (.int .i64 (a4 : Int)) W := fun W => by kernel_rfl
  have i2 : ∀ W : World, (Instr.index 56 (.agg #[.int .i64 (a3 : Int), .int .i64 (a4 : Int), .int .i64 (a5 : Int), .int .i64 (a6 : Int)]) (.int .i64 2)).run Tryz.prog W = .ok (.int .i64 (a5 : Int)) W := fun W => by kernel_rfl
  have i3 : ∀ W : World, (Instr.index 56 (.agg #[.int .i64 (a3 : Int), .int .i64 (a4 : Int), .int .i64 (a5 : Int), .int .i64 (a6 : Int)]) (.int .i64 3)).run Tryz.prog W = .ok (.int .i64 (a6 : Int)) W := fun W => by kernel_rfl
  clear s0 s1 s2 s3 s4 s5 s6 s7
  have HRA : Hid ((w.alloc (.cells #[.int .i64 (a0 : Int), .int .i64 (a1 : Int), .int .i64 (a2 : Int), .int .i64 (a3 : Int), .int .i64 (a4 : Int), .int .i64 (a5 : Int), .int .i64 (a6 : Int)] 58)).heap[w.heap.size]? = some (.cells #[.int .i64 (a0 : Int), .int .i64 (a1 : Int), .int .i64 (a2 : Int), .int .i64 (a3 : Int), .int .i64 (a4 : Int), .int .i64 (a5 : Int), .int .i64 (a6 : Int)] 58 (0, 0))) := heap_alloc_new w _
  have HBA : Hid (Below w.heap.size w (w.alloc (.cells #[.int .i64 (a0 : Int), .int .i64 (a1 : Int), .int .i64 (a2 : Int), .int .i64 (a3 : Int), .int .i64 (a4 : Int), .int .i64 (a5 : Int), .int .i64 (a6 : Int)] 58))) := (Below.refl _ _).alloc (Nat.le_refl _) _
  have hsz : (w.alloc (.cells #[.int .i64 (a0 : Int), .int .i64 (a1 : Int), .int .i64 (a2 : Int), .int .i64 (a3 : Int), .int .i64 (a4 : Int), .int .i64 (a5 : Int), .int .i64 (a6 : Int)] 58)).heap.size = w.heap.size + 1 := by simp
  go_enter Tryz.func88, Tryz.ntmps88
  go_wp2_with fail
  generalize hwa : World.alloc w _ = wa at *
  clear hwa
  have HRB : Hid ((wa.alloc (.cells #[.int .i64 0, .string ⟨#[]⟩] 102)).heap[w.heap.size + 1]? = some (.cells #[.int .i64 0, .string ⟨#[]⟩] 102 (0, 0))) := by
    have := heap_alloc_new wa (.cells #[.int .i64 0, .string ⟨#[]⟩] 102)
    rw [hsz] at this
    exact this
  have HRA1 : Hid ((wa.alloc (.cells #[.int .i64 0, .string ⟨#[]⟩] 102)).heap[w.heap.size]? = some (.cells #[.int .i64 (a0 : Int), .int .i64 (a1 : Int), .int .i64 (a2 : Int), .int .i64 (a3 : Int), .int .i64 (a4 : Int), .int .i64 (a5 : Int), .int .i64 (a6 : Int)] 58 (0, 0))) := (heap_alloc_old wa _ (by rw [hsz]; omega)).trans HRA.out
  have HBB : Hid (Below w.heap.size w (wa.alloc (.cells #[.int .i64 0, .string ⟨#[]⟩] 102))) := HBA.out.alloc (by rw [hsz]; omega) _
  clear hsz HRA HBA
  generalize hwb : World.alloc wa _ = wb at *
  clear hwb hz
  have HC : Hid (∀ (U : World), U.heap[w.heap.size]? = some (.cells #[.int .i64 (a0 : Int), .int .i64 (a1 : Int), .int .i64 (a2 : Int), .int .i64 (a3 : Int), .int .i64 (a4 : Int), .int .i64 (a5 : Int), .int .i64 (a6 : Int)] 58 (0, 0)) → U.cell? ⟨w.heap.size, 0, none⟩ = some (.int .i64 (a0 : Int)) ∧ U.cell? ⟨w.heap.size, 1, none⟩ = some (.int .i64 (a1 : Int)) ∧ U.cell? ⟨w.heap.size, 2, none⟩ = some (.int .i64 (a2 : Int)) ∧ U.cell? ⟨w.heap.size, 3, none⟩ = some (.int .i64 (a3 : Int)) ∧ U.cell? ⟨w.heap.size, 4, none⟩ = some (.int .i64 (a4 : Int)) ∧ U.cell? ⟨w.heap.size, 5, none⟩ = some (.int .i64 (a5 : Int)) ∧ U.cell? ⟨w.heap.size, 6, none⟩ = some (.int .i64 (a6 : Int))) := fun U h => ⟨cell_of_row _ _ _ _ _ (0, 0) h, cell_of_row _ _ _ _ _ (0, 0) h, cell_of_row _ _ _ _ _ (0, 0) h, cell_of_row _ _ _ _ _ (0, 0) h, cell_of_row _ _ _ _ _ (0, 0) h, cell_of_row _ _ _ _ _ (0, 0) h, cell_of_row _ _ _ _ _ (0, 0) h⟩
  refine wp_region_held_drew (S := fun U => U.heap[w.heap.size]? = some (.cells #[.int .i64 (a0 : Int), .int .i64 (a1 : Int), .int .i64 (a2 : Int), .int .i64 (a3 : Int), .int .i64 (a4 : Int), .int .i64 (a5 : Int), .int .i64 (a6 : Int)] 58 (0, 0))) (by kernel_rfl) HRA1.out (fun _ => ?_)
  refine heldTake 0 (some 6) (.pointer (some ⟨w.heap.size, 0, none⟩)) rfl rfl (by kernel_rfl) (by kernel_rfl) (by kernel_rfl) (fun _ _ _ h => h) (Or.inl ⟨by rfl, fun w hS => ?_⟩) HRA1.out ?_
  · (go_simp)
  simp only [Act.put, List.setIfInBounds_toArray, List.set_cons_zero, List.set_cons_succ]
  refine heldTake 1 (some 7) (.int .i64 (a0 : Int)) rfl rfl (by kernel_rfl) (by kernel_rfl) (by kernel_rfl) (fun _ _ _ h => h) (Or.inl ⟨by rfl, fun w hS => ?_⟩) HRA1.out ?_
  · (obtain ⟨q0, q1, q2, _⟩ := HC.out _ hS; go_simp)
  simp only [Act.put, List.setIfInBounds_toArray, List.set_cons_zero, List.set_cons_succ]
  refine heldTake 4 (some 10) (.pointer (some ⟨w.heap.size, 1, none⟩)) rfl rfl (by kernel_rfl) (by kernel_rfl) (by kernel_rfl) (fun _ _ _ h => h) (Or.inl ⟨by rfl, fun w hS => ?_⟩) HRA1.out ?_
  · (go_simp)
  simp only [Act.put, List.setIfInBounds_toArray, List.set_cons_zero, List.set_cons_succ]
  refine heldTake 5 (some 11) (.int .i64 (a1 : Int)) rfl rfl (by kernel_rfl) (by kernel_rfl) (by kernel_rfl) (fun _ _ _ h => h) (Or.inl ⟨by rfl, fun w hS => ?_⟩) HRA1.out ?_
  · (obtain ⟨q0, q1, q2, _⟩ := HC.out _ hS; go_simp)
  simp only [Act.put, List.setIfInBounds_toArray, List.set_cons_zero, List.set_cons_succ]
  refine heldTake 8 (some 14) (.pointer (some ⟨w.heap.size, 2, none⟩)) rfl rfl (by kernel_rfl) (by kernel_rfl) (by kernel_rfl) (fun _ _ _ h => h) (Or.inl ⟨by rfl, fun w hS => ?_⟩) HRA1.out ?_
  · (go_simp)
  simp only [Act.put, List.setIfInBounds_toArray, List.set_cons_zero, List.set_cons_succ]
  refine heldTake 9 (some 15) (.int .i64 (a2 : Int)) rfl rfl (by kernel_rfl) (by kernel_rfl) (by kernel_rfl) (fun _ _ _ h => h) (Or.inl ⟨by rfl, fun w hS => ?_⟩) HRA1.out ?_
  · (obtain ⟨q0, q1, q2, _⟩ := HC.out _ hS; go_simp)
  simp only [Act.put, List.setIfInBounds_toArray, List.set_cons_zero, List.set_cons_succ]
  refine heldOne 2 (by kernel_rfl) rfl (by rfl) (fun KK hK => ?_)
  go_simp
  go_at_call 90
  refine (N0.out _).mono ?_
  rintro e w1 ⟨rfl, hB1⟩
  have HR1 : Hid (w1.heap[w.heap.size]? = some (.cells #[.int .i64 (a0 : Int), .int .i64 (a1 : Int), .int .i64 (a2 : Int), .int .i64 (a3 : Int), .int .i64 (a4 : Int), .int .i64 (a5 : Int), .int .i64 (a6 : Int)] 58 (0, 0))) := heap_next HRA1.out (below_drew hB1)
  have HQ1 : Hid (w1.heap[w.heap.size + 1]? = some (.cells #[.int .i64 0, .string ⟨#[]⟩] 102 (0, 0))) := heap_next HRB.out (below_drew hB1)
  have HB1 : Hid (Below w.heap.size w w1) := below_next HBB.out (below_drew hB1) HBB.out.size
  clear hB1 HRA1 HRB HBB
  refine hK.out _ _ HR1.out ?_
  clear hK KK
  refine heldTake 3 (some 9) (.string ((⟨#[65, 81, 68, 66]⟩ : ByteArray) ++ p0)) rfl rfl (by kernel_rfl) (by kernel_rfl) (by kernel_rfl) (fun _ _ _ h => h) (Or.inl ⟨by rfl, fun w hS => ?_⟩) HR1.out ?_
  · (go_simp)
  simp only [Act.put, List.setIfInBounds_toArray, List.set_cons_zero, List.set_cons_succ]
  refine heldOne 6 (by kernel_rfl) rfl (by rfl) (fun KK hK => ?_)
  go_simp
  go_at_call 90
  refine (N1.out _).mono ?_
  rintro e w2 ⟨rfl, hB2⟩
  have HR2 : Hid (w2.heap[w.heap.size]? = some (.cells #[.int .i64 (a0 : Int), .int .i64 (a1 : Int), .int .i64 (a2 : Int), .int .i64 (a3 : Int), .int .i64 (a4 : Int), .int .i64 (a5 : Int), .int .i64 (a6 : Int)] 58 (0, 0))) := heap_next HR1.out hB2
  have HQ2 : Hid (w2.heap[w.heap.size + 1]? = some (.cells #[.int .i64 0, .string ⟨#[]⟩] 102 (0, 0))) := heap_next HQ1.out hB2
  have HB2 : Hid (Below w.heap.size w w2) := below_next HB1.out hB2 HB1.out.size
  clear hB2 HR1 HQ1 HB1
  refine hK.out _ _ HR2.out ?_
  clear hK KK
  refine heldTake 7 (some 13) (.string ((⟨#[65, 81, 68, 66]⟩ : ByteArray) ++ p0 ++ p1)) rfl rfl (by kernel_rfl) (by kernel_rfl) (by kernel_rfl) (fun _ _ _ h => h) (Or.inl ⟨by rfl, fun w hS => ?_⟩) HR2.out ?_
  · (go_simp)
  simp only [Act.put, List.setIfInBounds_toArray, List.set_cons_zero, List.set_cons_succ]
  refine heldOne 10 (by kernel_rfl) rfl (by rfl) (fun KK hK => ?_)
  go_simp
  go_at_call 90
  refine (N2.out _).mono ?_
  rintro e w3 ⟨rfl, hB3⟩
  have HR3 : Hid (w3.heap[w.heap.size]? = some (.cells #[.int .i64 (a0 : Int), .int .i64 (a1 : Int), .int .i64 (a2 : Int), .int .i64 (a3 : Int), .int .i64 (a4 : Int), .int .i64 (a5 : Int), .int .i64 (a6 : Int)] 58 (0, 0))) := heap_next HR2.out hB3
  have HQ3 : Hid (w3.heap[w.heap.size + 1]? = some (.cells #[.int .i64 0, .string ⟨#[]⟩] 102 (0, 0))) := heap_next HQ2.out hB3
  have HB3 : Hid (Below w.heap.size w w3) := below_next HB2.out hB3 HB2.out.size
  clear hB3 HR2 HQ2 HB2
  refine hK.out _ _ HR3.out ?_
  clear hK KK
  refine heldTake 11 (some 17) (.string ((⟨#[65, 81, 68, 66]⟩ : ByteArray) ++ p0 ++ p1 ++ p2)) rfl rfl (by kernel_rfl) (by kernel_rfl) (by kernel_rfl) (fun _ _ _ h => h) (Or.inl ⟨by rfl, fun w hS => ?_⟩) HR3.out ?_
  · (go_simp)
  simp only [Act.put, List.setIfInBounds_toArray, List.set_cons_zero, List.set_cons_succ]
  refine heldTake 12 (some 3) (.string ((⟨#[65, 81, 68, 66]⟩ : ByteArray) ++ p0 ++ p1 ++ p2)) rfl rfl (by kernel_rfl) (by kernel_rfl) (by kernel_rfl) (fun _ _ _ h => h) (Or.inl ⟨by rfl, fun w hS => ?_⟩) HR3.out ?_
  · (go_simp)
  simp only [Act.put, List.setIfInBounds_toArray, List.set_cons_zero, List.set_cons_succ]
  refine wpAnyH_done (by kernel_rfl) ?_ _
  obtain ⟨_, _, _, c3, c4, c5, c6⟩ := HC.out _ HR3.out
  clear HC HR3
  go_wp2_with fail
  clear c3 c4 c5 c6
  refine wp_loop_rounds 5 ?_
  rw [rounds_succ]
  go_wp2_with fail
  refine (N3.out _).mono ?_
  rintro e w4 ⟨rfl, hB4⟩
  have HQ4 : Hid (w4.heap[w.heap.size + 1]? = some (.cells #[.int .i64 0, .string ⟨#[]⟩] 102 (0, 0))) := heap_next HQ3.out hB4
  have HB4 : Hid (Below w.heap.size w w4) := below_next HB3.out hB4 HB3.out.size
  clear hB4 HQ3 HB3
  go_wp2_with fail
  rw [rounds_succ]
  go_wp2_with fail
  refine (N4.out _).mono ?_
  rintro e w5 ⟨rfl, hB5⟩
  have HQ5 : Hid (w5.heap[w.heap.size + 1]? = some (.cells #[.int .i64 0, .string ⟨#[]⟩] 102 (0, 0))) := heap_next HQ4.out hB5
  have HB5 : Hid (Below w.heap.size w w5) := below_next HB4.out hB5 HB4.out.size
  clear hB5 HQ4 HB4
  go_wp2_with fail
  rw [rounds_succ]
  go_wp2_with fail
  refine (N5.out _).mono ?_
  rintro e w6 ⟨rfl, hB6⟩
  have HQ6 : Hid (w6.heap[w.heap.size + 1]? = some (.cells #[.int .i64 0, .string ⟨#[]⟩] 102 (0, 0))) := heap_next HQ5.out hB6
  have HB6 : Hid (Below w.heap.size w w6) := below_next HB5.out hB6 HB5.out.size
  clear hB6 HQ5 HB5
  go_wp2_with fail
  rw [rounds_succ]
  go_wp2_with fail
  refine (N6.out _).mono ?_
  rintro e w7 ⟨rfl, hB7⟩
  have HQ7 : Hid (w7.heap[w.heap.size + 1]? = some (.cells #[.int .i64 0, .string ⟨#[]⟩] 102 (0, 0))) := heap_next HQ6.out hB7
  have HB7 : Hid (Below w.heap.size w w7) := below_next HB6.out hB7 HB6.out.size
  clear hB7 HQ6 HB6
  have f0 := frozen_of_row w7 (w.heap.size + 1) 0 _ _ HQ7.out
  have f1 := frozen_of_row w7 (w.heap.size + 1) 1 _ _ HQ7.out
  have c0 : w7.cell? ⟨w.heap.size + 1, 0, none⟩ = some (.int .i64 0) := cell_of_row _ _ _ _ _ (0, 0) HQ7.out
  have c1 : w7.cell? ⟨w.heap.size + 1, 1, none⟩ = some (.string ⟨#[]⟩) := cell_of_row _ _ _ _ _ (0, 0) HQ7.out
  go_wp2_with fail
  rw [rounds_succ]
  go_wp2
  exact bodyPost_ret (results_sh Tryz.results88 _ _ (w.heap.size + 1) 102 _ _ rfl (row2 HQ7.out _ _)) rfl ⟨rfl, (HB7.out.setCell (by simp) _).setCell (by simp) _⟩
end Go.Proofs.YtcfninpokngmlaaGreatDoor
