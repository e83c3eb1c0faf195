/- Proved: what a state's sheet answers. -/
import Derived.Test.YtcfninpokngmlaaGreatDoorM08
import Derived.Laws.IdiomCopy
import Derived.Shelf.Sort.Plain
import Derived.Shelf.Strings.Builder1
import Derived.Test.YtcfninpokngmlaaGreatDoorRows
import Derived.Lib.Builder
import Derived.Lib.AppendStr
import Derived.Laws.Externs
import Derived.Sort.OwnSortedInts
namespace Go.Proofs.YtcfninpokngmlaaGreatDoor
open Go.RowKit
theorem below_drew {w w' : World} (h : Below w.drew.heap.size w.drew w') : Below w.heap.size w w' := (show Below w.heap.size w w.drew from ⟨rfl, rfl, rfl, Nat.le_refl _, fun _ _ => rfl⟩).trans h
set_option maxHeartbeats 4000000 in
set_option maxRecDepth 20000 in
theorem sheet_any (t : Pd.Stt) (w : World) :
    Calls Tryz.prog 88 #[stV t] w fun e w' => e = .returned (shV t.sheet) ∧ Below w.heap.size w w' := by
  obtain ⟨a0, a1, a2, a3, a4, a5, a6⟩ := t
  have hz := zeroSh
  unfold shV sh00 Pd.none0 at hz
  show Calls Tryz.prog 88 #[.agg #[.int .i64 (a0 : Int), .int .i64 (a1 : Int), .int .i64 (a2 : Int), .int .i64 (a3 : Int), .int .i64 (a4 : Int), .int .i64 (a5 : Int), .int .i64 (a6 : Int)]] w fun e w' => e = .returned (.agg #[.int .i64 1, .string ((⟨#[65, 81, 68, 66]⟩ : ByteArray) ++ Wl.put a0 4 ++ Wl.put a1 4 ++ Wl.put a2 4 ++ Wl.put a3 4 ++ Wl.put a4 4 ++ Wl.put a5 4 ++ Wl.put a6 4)]) ∧ Below w.heap.size w w'
  have s0 : (⟨#[65, 81, 68, 66]⟩ : ByteArray).size = 4 := rfl
  have s1 := Wl.put_size a0 4
  have s2 := Wl.put_size a1 4
  have s3 := Wl.put_size a2 4
  have s4 := Wl.put_size a3 4
  have s5 := Wl.put_size a4 4
  have s6 := Wl.put_size a5 4
  have s7 := Wl.put_size a6 4
  have N0 : Hid (∀ W, Calls Tryz.prog 90 #[.int .i64 (a0 : Int)] W fun e w' => e = .returned (.string (Wl.put a0 4)) ∧ Below W.heap.size W w') := fun W => ntext_any a0 W
  have N1 : Hid (∀ W, Calls Tryz.prog 90 #[.int .i64 (a1 : Int)] W fun e w' => e = .returned (.string (Wl.put a1 4)) ∧ Below W.heap.size W w') := fun W => ntext_any a1 W
  have N2 : Hid (∀ W, Calls Tryz.prog 90 #[.int .i64 (a2 : Int)] W fun e w' => e = .returned (.string (Wl.put a2 4)) ∧ Below W.heap.size W w') := fun W => ntext_any a2 W
  have N3 : Hid (∀ W, Calls Tryz.prog 90 #[.int .i64 (a3 : Int)] W fun e w' => e = .returned (.string (Wl.put a3 4)) ∧ Below W.heap.size W w') := fun W => ntext_any a3 W
  have N4 : Hid (∀ W, Calls Tryz.prog 90 #[.int .i64 (a4 : Int)] W fun e w' => e = .returned (.string (Wl.put a4 4)) ∧ Below W.heap.size W w') := fun W => ntext_any a4 W
  have N5 : Hid (∀ W, Calls Tryz.prog 90 #[.int .i64 (a5 : Int)] W fun e w' => e = .returned (.string (Wl.put a5 4)) ∧ Below W.heap.size W w') := fun W => ntext_any a5 W
  have N6 : Hid (∀ W, Calls Tryz.prog 90 #[.int .i64 (a6 : Int)] W fun e w' => e = .returned (.string (Wl.put a6 4)) ∧ Below W.heap.size W w') := fun W => ntext_any a6 W
  generalize Wl.put a0 4 = p0 at *
  generalize Wl.put a1 4 = p1 at *
  generalize Wl.put a2 4 = p2 at *
  generalize Wl.put a3 4 = p3 at *
  generalize Wl.put a4 4 = p4 at *
  generalize Wl.put a5 4 = p5 at *
  generalize Wl.put a6 4 = p6 at *
  have A0 : ∀ W : World, (Op.stringOp .add (⟨#[65, 81, 68, 66]⟩ : ByteArray) p0).run Tryz.prog W = .ok (.string ((⟨#[65, 81, 68, 66]⟩ : ByteArray) ++ p0)) W := fun W => run_string_add_sum W _ _ (by omega)
  have A1 : ∀ W : World, (Op.stringOp .add ((⟨#[65, 81, 68, 66]⟩ : ByteArray) ++ p0) p1).run Tryz.prog W = .ok (.string ((⟨#[65, 81, 68, 66]⟩ : ByteArray) ++ p0 ++ p1)) W := fun W => run_string_add_sum W _ _ (by simp only [ByteArray.size_append]; omega)
  have A2 : ∀ W : World, (Op.stringOp .add ((⟨#[65, 81, 68, 66]⟩ : ByteArray) ++ p0 ++ p1) p2).run Tryz.prog W = .ok (.string ((⟨#[65, 81, 68, 66]⟩ : ByteArray) ++ p0 ++ p1 ++ p2)) W := fun W => run_string_add_sum W _ _ (by simp only [ByteArray.size_append]; omega)
  have A3 : ∀ W : World, (Op.stringOp .add ((⟨#[65, 81, 68, 66]⟩ : ByteArray) ++ p0 ++ p1 ++ p2) p3).run Tryz.prog W = .ok (.string ((⟨#[65, 81, 68, 66]⟩ : ByteArray) ++ p0 ++ p1 ++ p2 ++ p3)) W := fun W => run_string_add_sum W _ _ (by simp only [ByteArray.size_append]; omega)
  have A4 : ∀ W : World, (Op.stringOp .add ((⟨#[65, 81, 68, 66]⟩ : ByteArray) ++ p0 ++ p1 ++ p2 ++ p3) p4).run Tryz.prog W = .ok (.string ((⟨#[65, 81, 68, 66]⟩ : ByteArray) ++ p0 ++ p1 ++ p2 ++ p3 ++ p4)) W := fun W => run_string_add_sum W _ _ (by simp only [ByteArray.size_append]; omega)
  have A5 : ∀ W : World, (Op.stringOp .add ((⟨#[65, 81, 68, 66]⟩ : ByteArray) ++ p0 ++ p1 ++ p2 ++ p3 ++ p4) p5).run Tryz.prog W = .ok (.string ((⟨#[65, 81, 68, 66]⟩ : ByteArray) ++ p0 ++ p1 ++ p2 ++ p3 ++ p4 ++ p5)) W := fun W => run_string_add_sum W _ _ (by simp only [ByteArray.size_append]; omega)
  have A6 : ∀ W : World, (Op.stringOp .add ((⟨#[65, 81, 68, 66]⟩ : ByteArray) ++ p0 ++ p1 ++ p2 ++ p3 ++ p4 ++ p5) p6).run Tryz.prog W = .ok (.string ((⟨#[65, 81, 68, 66]⟩ : ByteArray) ++ p0 ++ p1 ++ p2 ++ p3 ++ p4 ++ p5 ++ p6)) W := fun W => run_string_add_sum W _ _ (by simp only [ByteArray.size_append]; omega)
  have i0 : ∀ W : World, (Instr.index 56 (.agg #[.int .i64 (a3 : Int), .int .i64 (a4 : Int), .int .i64 (a5 : Int), .int .i64 (a6 : Int)]) (.int .i64 0)).run Tryz.prog W = .ok (.int .i64 (a3 : Int)) W := fun W => by kernel_rfl
  have i1 : ∀ W : World, (Instr.index 56 (.agg #[.int .i64 (a3 : Int), .int .i64 (a4 : Int), .int .i64 (a5 : Int), .int .i64 (a6 : Int)]) (.int .i64 1)).run Tryz.prog W = .ok (.int .i64 (a4 : Int)) W := fun W => by kernel_rfl
  have i2 : ∀ W : World, (Instr.index 56 (.agg #[.int .i64 (a3 : Int), .int .i64 (a4 : Int), .int .i64 (a5 : Int), .int .i64 (a6 : Int)]) (.int .i64 2)).run Tryz.prog W = .ok (.int .i64 (a5 : Int)) W := fun W => by kernel_rfl
  have i3 : ∀ W : World, (Instr.index 56 (.agg #[.int .i64 (a3 : Int), .int .i64 (a4 : Int), .int .i64 (a5 : Int), .int .i64 (a6 : Int)]) (.int .i64 3)).run Tryz.prog W = .ok (.int .i64 (a6 : Int)) W := fun W => by kernel_rfl
  clear s0 s1 s2 s3 s4 s5 s6 s7
  have HRA : Hid ((w.alloc (.cells #[.int .i64 (a0 : Int), .int .i64 (a1 : Int), .int .i64 (a2 : Int), .int .i64 (a3 : Int), .int .i64 (a4 : Int), .int .i64 (a5 : Int), .int .i64 (a6 : Int)] 58)).heap[w.heap.size]? = some (.cells #[.int .i64 (a0 : Int), .int .i64 (a1 : Int), .int .i64 (a2 : Int), .int .i64 (a3 : Int), .int .i64 (a4 : Int), .int .i64 (a5 : Int), .int .i64 (a6 : Int)] 58 (0, 0))) := heap_alloc_new w _
  have HBA : Hid (Below w.heap.size w (w.alloc (.cells #[.int .i64 (a0 : Int), .int .i64 (a1 : Int), .int .i64 (a2 : Int), .int .i64 (a3 : Int), .int .i64 (a4 : Int), .int .i64 (a5 : Int), .int .i64 (a6 : Int)] 58))) := (Below.refl _ _).alloc (Nat.le_refl _) _
  have hsz : (w.alloc (.cells #[.int .i64 (a0 : Int), .int .i64 (a1 : Int), .int .i64 (a2 : Int), .int .i64 (a3 : Int), .int .i64 (a4 : Int), .int .i64 (a5 : Int), .int .i64 (a6 : Int)] 58)).heap.size = w.heap.size + 1 := by simp
  go_enter Tryz.func88, Tryz.ntmps88
  go_wp2_with fail
  generalize hwa : World.alloc w _ = wa at *
  clear hwa
  have HRB : Hid ((wa.alloc (.cells #[.int .i64 0, .string ⟨#[]⟩] 102)).heap[w.heap.size + 1]? = some (.cells #[.int .i64 0, .string ⟨#[]⟩] 102 (0, 0))) := by
    have := heap_alloc_new wa (.cells #[.int .i64 0, .string ⟨#[]⟩] 102)
    rw [hsz] at this
    exact this
  have HRA1 : Hid ((wa.alloc (.cells #[.int .i64 0, .string ⟨#[]⟩] 102)).heap[w.heap.size]? = some (.cells #[.int .i64 (a0 : Int), .int .i64 (a1 : Int), .int .i64 (a2 : Int), .int .i64 (a3 : Int), .int .i64 (a4 : Int), .int .i64 (a5 : Int), .int .i64 (a6 : Int)] 58 (0, 0))) := (heap_alloc_old wa _ (by rw [hsz]; omega)).trans HRA.out
  have HBB : Hid (Below w.heap.size w (wa.alloc (.cells #[.int .i64 0, .string ⟨#[]⟩] 102))) := HBA.out.alloc (by rw [hsz]; omega) _
  clear hsz HRA HBA
  generalize hwb : World.alloc wa _ = wb at *
  clear hwb hz
  have HC : Hid (∀ (U : World), U.heap[w.heap.size]? = some (.cells #[.int .i64 (a0 : Int), .int .i64 (a1 : Int), .int .i64 (a2 : Int), .int .i64 (a3 : Int), .int .i64 (a4 : Int), .int .i64 (a5 : Int), .int .i64 (a6 : Int)] 58 (0, 0)) → U.cell? ⟨w.heap.size, 0, none⟩ = some (.int .i64 (a0 : Int)) ∧ U.cell? ⟨w.heap.size, 1, none⟩ = some (.int .i64 (a1 : Int)) ∧ U.cell? ⟨w.heap.size, 2, none⟩ = some (.int .i64 (a2 : Int)) ∧ U.cell? ⟨w.heap.size, 3, none⟩ = some (.int .i64 (a3 : Int)) ∧ U.cell? ⟨w.heap.size, 4, none⟩ = some (.int .i64 (a4 : Int)) ∧ U.cell? ⟨w.heap.size, 5, none⟩ = some (.int .i64 (a5 : Int)) ∧ U.cell? ⟨w.heap.size, 6, none⟩ = some (.int .i64 (a6 : Int))) := fun U h => ⟨cell_of_row _ _ _ _ _ (0, 0) h, cell_of_row _ _ _ _ _ (0, 0) h, cell_of_row _ _ _ _ _ (0, 0) h, cell_of_row _ _ _ _ _ (0, 0) h, cell_of_row _ _ _ _ _ (0, 0) h, cell_of_row _ _ _ _ _ (0, 0) h, cell_of_row _ _ _ _ _ (0, 0) h⟩
  refine wp_region_held_drew (S := fun U => U.heap[w.heap.size]? = some (.cells #[.int .i64 (a0 : Int), .int .i64 (a1 : Int), .int .i64 (a2 : Int), .int .i64 (a3 : Int), .int .i64 (a4 : Int), .int .i64 (a5 : Int), .int .i64 (a6 : Int)] 58 (0, 0))) (by kernel_rfl) HRA1.out (fun _ => ?_)
  refine heldTake 0 (some 6) (.pointer (some ⟨w.heap.size, 0, none⟩)) rfl rfl (by kernel_rfl) (by kernel_rfl) (by kernel_rfl) (fun _ _ _ h => h) (Or.inl ⟨by rfl, fun w hS => ?_⟩) HRA1.out ?_
  · (go_simp)
  simp only [Act.put, List.setIfInBounds_toArray, List.set_cons_zero, List.set_cons_succ]
  refine heldTake 1 (some 7) (.int .i64 (a0 : Int)) rfl rfl (by kernel_rfl) (by kernel_rfl) (by kernel_rfl) (fun _ _ _ h => h) (Or.inl ⟨by rfl, fun w hS => ?_⟩) HRA1.out ?_
  · (obtain ⟨q0, q1, q2, _⟩ := HC.out _ hS; go_simp)
  simp only [Act.put, List.setIfInBounds_toArray, List.set_cons_zero, List.set_cons_succ]
  refine heldTake 4 (some 10) (.pointer (some ⟨w.heap.size, 1, none⟩)) rfl rfl (by kernel_rfl) (by kernel_rfl) (by kernel_rfl) (fun _ _ _ h => h) (Or.inl ⟨by rfl, fun w hS => ?_⟩) HRA1.out ?_
  · (go_simp)
  simp only [Act.put, List.setIfInBounds_toArray, List.set_cons_zero, List.set_cons_succ]
  refine heldTake 5 (some 11) (.int .i64 (a1 : Int)) rfl rfl (by kernel_rfl) (by kernel_rfl) (by kernel_rfl) (fun _ _ _ h => h) (Or.inl ⟨by rfl, fun w hS => ?_⟩) HRA1.out ?_
  · (obtain ⟨q0, q1, q2, _⟩ := HC.out _ hS; go_simp)
  simp only [Act.put, List.setIfInBounds_toArray, List.set_cons_zero, List.set_cons_succ]
  refine heldTake 8 (some 14) (.pointer (some ⟨w.heap.size, 2, none⟩)) rfl rfl (by kernel_rfl) (by kernel_rfl) (by kernel_rfl) (fun _ _ _ h => h) (Or.inl ⟨by rfl, fun w hS => ?_⟩) HRA1.out ?_
  · (go_simp)
  simp only [Act.put, List.setIfInBounds_toArray, List.set_cons_zero, List.set_cons_succ]
  refine heldTake 9 (some 15) (.int .i64 (a2 : Int)) rfl rfl (by kernel_rfl) (by kernel_rfl) (by kernel_rfl) (fun _ _ _ h => h) (Or.inl ⟨by rfl, fun w hS => ?_⟩) HRA1.out ?_
  · (obtain ⟨q0, q1, q2, _⟩ := HC.out _ hS; go_simp)
  simp only [Act.put, List.setIfInBounds_toArray, List.set_cons_zero, List.set_cons_succ]
  refine heldOne 2 (by kernel_rfl) rfl (by rfl) (fun KK hK => ?_)
  go_simp
  go_at_call 90
  refine (N0.out _).mono ?_
  rintro e w1 ⟨rfl, hB1⟩
  have HR1 : Hid (w1.heap[w.heap.size]? = some (.cells #[.int .i64 (a0 : Int), .int .i64 (a1 : Int), .int .i64 (a2 : Int), .int .i64 (a3 : Int), .int .i64 (a4 : Int), .int .i64 (a5 : Int), .int .i64 (a6 : Int)] 58 (0, 0))) := heap_next HRA1.out (below_drew hB1)
  have HQ1 : Hid (w1.heap[w.heap.size + 1]? = some (.cells #[.int .i64 0, .string ⟨#[]⟩] 102 (0, 0))) := heap_next HRB.out (below_drew hB1)
  have HB1 : Hid (Below w.heap.size w w1) := below_next HBB.out (below_drew hB1) HBB.out.size
  clear hB1 HRA1 HRB HBB
  refine hK.out _ _ HR1.out ?_
  clear hK KK
  refine heldTake 3 (some 9) (.string ((⟨#[65, 81, 68, 66]⟩ : ByteArray) ++ p0)) rfl rfl (by kernel_rfl) (by kernel_rfl) (by kernel_rfl) (fun _ _ _ h => h) (Or.inl ⟨by rfl, fun w hS => ?_⟩) HR1.out ?_
  · (go_simp)
  simp only [Act.put, List.setIfInBounds_toArray, List.set_cons_zero, List.set_cons_succ]
  refine heldOne 6 (by kernel_rfl) rfl (by rfl) (fun KK hK => ?_)
  go_simp
  go_at_call 90
  refine (N1.out _).mono ?_
  rintro e w2 ⟨rfl, hB2⟩
  have HR2 : Hid (w2.heap[w.heap.size]? = some (.cells #[.int .i64 (a0 : Int), .int .i64 (a1 : Int), .int .i64 (a2 : Int), .int .i64 (a3 : Int), .int .i64 (a4 : Int), .int .i64 (a5 : Int), .int .i64 (a6 : Int)] 58 (0, 0))) := heap_next HR1.out hB2
  have HQ2 : Hid (w2.heap[w.heap.size + 1]? = some (.cells #[.int .i64 0, .string ⟨#[]⟩] 102 (0, 0))) := heap_next HQ1.out hB2
  have HB2 : Hid (Below w.heap.size w w2) := below_next HB1.out hB2 HB1.out.size
  clear hB2 HR1 HQ1 HB1
  refine hK.out _ _ HR2.out ?_
  clear hK KK
  refine heldTake 7 (some 13) (.string ((⟨#[65, 81, 68, 66]⟩ : ByteArray) ++ p0 ++ p1)) rfl rfl (by kernel_rfl) (by kernel_rfl) (by kernel_rfl) (fun _ _ _ h => h) (Or.inl ⟨by rfl, fun w hS => ?_⟩) HR2.out ?_
  · (go_simp)
  simp only [Act.put, List.setIfInBounds_toArray, List.set_cons_zero, List.set_cons_succ]
  refine heldOne 10 (by kernel_rfl) rfl (by rfl) (fun KK hK => ?_)
  go_simp
  go_at_call 90
  refine (N2.out _).mono ?_
  rintro e w3 ⟨rfl, hB3⟩
  have HR3 : Hid (w3.heap[w.heap.size]? = some (.cells #[.int .i64 (a0 : Int), .int .i64 (a1 : Int), .int .i64 (a2 : Int), .int .i64 (a3 : Int), .int .i64 (a4 : Int), .int .i64 (a5 : Int), .int .i64 (a6 : Int)] 58 (0, 0))) := heap_next HR2.out hB3
  have HQ3 : Hid (w3.heap[w.heap.size + 1]? = some (.cells #[.int .i64 0, .string ⟨#[]⟩] 102 (0, 0))) := heap_next HQ2.out hB3
  have HB3 : Hid (Below w.heap.size w w3) := below_next HB2.out hB3 HB2.out.size
  clear hB3 HR2 HQ2 HB2
  refine hK.out _ _ HR3.out ?_
  clear hK KK
  refine heldTake 11 (some 17) (.string ((⟨#[65, 81, 68, 66]⟩ : ByteArray) ++ p0 ++ p1 ++ p2)) rfl rfl (by kernel_rfl) (by kernel_rfl) (by kernel_rfl) (fun _ _ _ h => h) (Or.inl ⟨by rfl, fun w hS => ?_⟩) HR3.out ?_
  · (go_simp)
  simp only [Act.put, List.setIfInBounds_toArray, List.set_cons_zero, List.set_cons_succ]
  refine heldTake 12 (some 3) (.string ((⟨#[65, 81, 68, 66]⟩ : ByteArray) ++ p0 ++ p1 ++ p2)) rfl rfl (by kernel_rfl) (by kernel_rfl) (by kernel_rfl) (fun _ _ _ h => h) (Or.inl ⟨by rfl, fun w hS => ?_⟩) HR3.out ?_
  · (go_simp)
  simp only [Act.put, List.setIfInBounds_toArray, List.set_cons_zero, List.set_cons_succ]
  refine wpAnyH_done (by kernel_rfl) ?_ _
  obtain ⟨_, _, _, c3, c4, c5, c6⟩ := HC.out _ HR3.out
  clear HC HR3
  go_wp2_with fail
  clear c3 c4 c5 c6
  refine wp_loop_rounds 5 ?_
  rw [rounds_succ]
  go_wp2_with fail
  refine (N3.out _).mono ?_
  rintro e w4 ⟨rfl, hB4⟩
  have HQ4 : Hid (w4.heap[w.heap.size + 1]? = some (.cells #[.int .i64 0, .string ⟨#[]⟩] 102 (0, 0))) := heap_next HQ3.out hB4
  have HB4 : Hid (Below w.heap.size w w4) := below_next HB3.out hB4 HB3.out.size
  clear hB4 HQ3 HB3
  go_wp2_with fail
  rw [rounds_succ]
  go_wp2_with fail
  refine (N4.out _).mono ?_
  rintro e w5 ⟨rfl, hB5⟩
  have HQ5 : Hid (w5.heap[w.heap.size + 1]? = some (.cells #[.int .i64 0, .string ⟨#[]⟩] 102 (0, 0))) := heap_next HQ4.out hB5
  have HB5 : Hid (Below w.heap.size w w5) := below_next HB4.out hB5 HB4.out.size
  clear hB5 HQ4 HB4
  go_wp2_with fail
  rw [rounds_succ]
  go_wp2_with fail
  refine (N5.out _).mono ?_
  rintro e w6 ⟨rfl, hB6⟩
  have HQ6 : Hid (w6.heap[w.heap.size + 1]? = some (.cells #[.int .i64 0, .string ⟨#[]⟩] 102 (0, 0))) := heap_next HQ5.out hB6
  have HB6 : Hid (Below w.heap.size w w6) := below_next HB5.out hB6 HB5.out.size
  clear hB6 HQ5 HB5
  go_wp2_with fail
  rw [rounds_succ]
  go_wp2_with fail
  refine (N6.out _).mono ?_
  rintro e w7 ⟨rfl, hB7⟩
  have HQ7 : Hid (w7.heap[w.heap.size + 1]? = some (.cells #[.int .i64 0, .string ⟨#[]⟩] 102 (0, 0))) := heap_next HQ6.out hB7
  have HB7 : Hid (Below w.heap.size w w7) := below_next HB6.out hB7 HB6.out.size
  clear hB7 HQ6 HB6
  have f0 := frozen_of_row w7 (w.heap.size + 1) 0 _ _ HQ7.out
  have f1 := frozen_of_row w7 (w.heap.size + 1) 1 _ _ HQ7.out
  have c0 : w7.cell? ⟨w.heap.size + 1, 0, none⟩ = some (.int .i64 0) := cell_of_row _ _ _ _ _ (0, 0) HQ7.out
  have c1 : w7.cell? ⟨w.heap.size + 1, 1, none⟩ = some (.string ⟨#[]⟩) := cell_of_row _ _ _ _ _ (0, 0) HQ7.out
  go_wp2_with fail
  rw [rounds_succ]
  go_wp2
  exact bodyPost_ret (results_sh Tryz.results88 _ _ (w.heap.size + 1) 102 _ _ rfl (row2 HQ7.out _ _)) rfl ⟨rfl, (HB7.out.setCell (by simp) _).setCell (by simp) _⟩
end Go.Proofs.YtcfninpokngmlaaGreatDoor
/- Proved: what pagedb's readState answers of the sheet of a state. -/
namespace Go.Proofs.YtcfninpokngmlaaGreatDoor
open Go.RowKit
theorem zeroSt (w : World) : (zeroValue 58).run Tryz.prog w = .ok (.agg #[.int .i64 0, .int .i64 0, .int .i64 0, .int .i64 0, .int .i64 0, .int .i64 0, .int .i64 0]) w := by kernel_rfl
theorem zero7 (w : World) : (zeroValue 164).run Tryz.prog w = .ok (.agg #[.int .i64 0, .int .i64 0, .int .i64 0, .int .i64 0, .int .i64 0, .int .i64 0, .int .i64 0]) w := by kernel_rfl
theorem prefix_yes (s : ByteArray) (w : World) (h4 : 4 ≤ s.size) (hp : s.extract 0 4 = ⟨#[65, 81, 68, 66]⟩) :
    Calls Tryz.prog 118 #[.string s, .string ⟨#[65, 81, 68, 66]⟩] w fun e w' => e = .returned (.bool true) ∧ w' = w := by
  have h1 : (4 : Int) ≤ (s.size : Int) := by omega
  have hb : ((s.extract 0 4).toList == [65, 81, 68, 66]) = true := by
    have h2 := toList_beq hp
    rw [ByteArray.toList_eq ⟨#[65, 81, 68, 66]⟩] at h2
    exact h2
  clear hp
  go_enter Tryz.func118, Tryz.ntmps118
  go_wp2
  go_ret
  exact ⟨rfl, rfl⟩
theorem text_mark (t : Pd.Stt) : t.text.extract 0 4 = ⟨#[65, 81, 68, 66]⟩ := by
  unfold Pd.Stt.text
  simp only [Pd.app_assoc]
  exact Pd.ext_left rfl
theorem text_num (t : Pd.Stt) (i a : Nat) (hi : i < 7) (ha : [t.high, t.free, t.last, t.r0, t.r1, t.r2, t.r3].getD i 0 = a) (h : a < 4294967296) (W : World) : Calls Tryz.prog 102 #[.string (t.text.extract (4 + 4 * i) 32)] W fun e w' => e = .returned (.int .i64 (a : Int)) ∧ w' = W := by
  have h1 := dnumber_any (t.text.extract (4 + 4 * i) 32) W (by rw [Pg.ext_size _ _ _ (by rw [Pd.Stt.text_size]; exact Nat.le_refl _)]; omega)
  have h2 : Pd.numb (t.text.extract (4 + 4 * i) 32) = a := by
    unfold Pd.numb
    rw [Pd.sheet_numb t i hi, ha, Wl.getL_putL 4 a h]
  rw [h2] at h1
  exact h1
theorem row_set7 {w : World} {g t : Nat} {cs ds : Array Value} (h : w.heap[g]? = some (.cells cs t (0, 0))) (i : Nat) (v : Value) (e : cs.setIfInBounds i v = ds) : (w.setCell ⟨g, i, none⟩ v).heap[g]? = some (.cells ds t (0, 0)) := by
  rw [heap_setCell_same w g i _ _ _ h, e]
theorem chg7 (w : World) (g : Nat) (x0 x1 x2 x3 x4 x5 x6 : Value) : Chg [g] w (((((((w.setCell ⟨g, 0, none⟩ x0).setCell ⟨g, 1, none⟩ x1).setCell ⟨g, 2, none⟩ x2).setCell ⟨g, 3, none⟩ x3).setCell ⟨g, 4, none⟩ x4).setCell ⟨g, 5, none⟩ x5).setCell ⟨g, 6, none⟩ x6) := ((((((Chg.setCell _ g 0 _).trans (Chg.setCell _ g 1 _)).trans (Chg.setCell _ g 2 _)).trans (Chg.setCell _ g 3 _)).trans (Chg.setCell _ g 4 _)).trans (Chg.setCell _ g 5 _)).trans (Chg.setCell _ g 6 _)
theorem row7n {w : World} {g t : Nat} {a0 a1 a2 a3 a4 a5 a6 : Value} (h : w.heap[g]? = some (.cells #[a0, a1, a2, a3, a4, a5, a6] t (0, 0))) (x0 x1 x2 x3 x4 x5 x6 : Value) : (((((((w.setCell ⟨g, 0, none⟩ x0).setCell ⟨g, 1, none⟩ x1).setCell ⟨g, 2, none⟩ x2).setCell ⟨g, 3, none⟩ x3).setCell ⟨g, 4, none⟩ x4).setCell ⟨g, 5, none⟩ x5).setCell ⟨g, 6, none⟩ x6).heap[g]? = some (.cells #[x0, x1, x2, x3, x4, x5, x6] t (0, 0)) := by
  have := row7 h x0 x1 x2 x3 x4 x5 x6
  simpa only [World.setCells, Nat.zero_add, Nat.reduceAdd] using this
set_option maxHeartbeats 8000000 in
set_option maxRecDepth 20000 in
theorem rstate_any (t : Pd.Stt) (cnt : Nat) (w : World) (h : t.Small cnt) (hc : cnt ≤ 1000) :
    Calls Tryz.prog 84 #[shV t.sheet, .int .i64 (cnt : Int)] w fun e w' => e = .returned (.tuple #[stV t, .bool true]) ∧ Below w.heap.size w w' := by
  have HS : Hid (∀ W, Calls Tryz.prog 87 #[stV t, .int .i64 (cnt : Int)] W fun e w' => e = .returned (.bool true) ∧ Below W.heap.size W w') := fun W => sound_yes t cnt W h
  have hsz := t.text_size
  have HP : Hid (∀ W, Calls Tryz.prog 118 #[.string t.text, .string ⟨#[65, 81, 68, 66]⟩] W fun e w' => e = .returned (.bool true) ∧ w' = W) := fun W => prefix_yes t.text W (by omega) (text_mark t)
  have N0 : Hid (∀ W, Calls Tryz.prog 102 #[.string (t.text.extract 4 32)] W fun e w' => e = .returned (.int .i64 (t.high : Int)) ∧ w' = W) := fun W => text_num t 0 t.high (by omega) rfl (by have := h.high; have := h.free; have := h.last; have := h.r0; have := h.r1; have := h.r2; have := h.r3; omega) W
  have N1 : Hid (∀ W, Calls Tryz.prog 102 #[.string (t.text.extract 8 32)] W fun e w' => e = .returned (.int .i64 (t.free : Int)) ∧ w' = W) := fun W => text_num t 1 t.free (by omega) rfl (by have := h.high; have := h.free; have := h.last; have := h.r0; have := h.r1; have := h.r2; have := h.r3; omega) W
  have N2 : Hid (∀ W, Calls Tryz.prog 102 #[.string (t.text.extract 12 32)] W fun e w' => e = .returned (.int .i64 (t.last : Int)) ∧ w' = W) := fun W => text_num t 2 t.last (by omega) rfl (by have := h.high; have := h.free; have := h.last; have := h.r0; have := h.r1; have := h.r2; have := h.r3; omega) W
  have N3 : Hid (∀ W, Calls Tryz.prog 102 #[.string (t.text.extract 16 32)] W fun e w' => e = .returned (.int .i64 (t.r0 : Int)) ∧ w' = W) := fun W => text_num t 3 t.r0 (by omega) rfl (by have := h.high; have := h.free; have := h.last; have := h.r0; have := h.r1; have := h.r2; have := h.r3; omega) W
  have N4 : Hid (∀ W, Calls Tryz.prog 102 #[.string (t.text.extract 20 32)] W fun e w' => e = .returned (.int .i64 (t.r1 : Int)) ∧ w' = W) := fun W => text_num t 4 t.r1 (by omega) rfl (by have := h.high; have := h.free; have := h.last; have := h.r0; have := h.r1; have := h.r2; have := h.r3; omega) W
  have N5 : Hid (∀ W, Calls Tryz.prog 102 #[.string (t.text.extract 24 32)] W fun e w' => e = .returned (.int .i64 (t.r2 : Int)) ∧ w' = W) := fun W => text_num t 5 t.r2 (by omega) rfl (by have := h.high; have := h.free; have := h.last; have := h.r0; have := h.r1; have := h.r2; have := h.r3; omega) W
  have N6 : Hid (∀ W, Calls Tryz.prog 102 #[.string (t.text.extract 28 32)] W fun e w' => e = .returned (.int .i64 (t.r3 : Int)) ∧ w' = W) := fun W => text_num t 6 t.r3 (by omega) rfl (by have := h.high; have := h.free; have := h.last; have := h.r0; have := h.r1; have := h.r2; have := h.r3; omega) W
  have HE : Hid (stV t = .agg #[.int .i64 (t.high : Int), .int .i64 (t.free : Int), .int .i64 (t.last : Int), .int .i64 (t.r0 : Int), .int .i64 (t.r1 : Int), .int .i64 (t.r2 : Int), .int .i64 (t.r3 : Int)]) := rfl
  rw [HE.out] at HS ⊢
  show Calls Tryz.prog 84 #[.agg #[.int .i64 1, .string t.text], .int .i64 (cnt : Int)] w _
  clear h HE
  generalize t.text = x at *
  generalize t.high = a0 at *
  generalize t.free = a1 at *
  generalize t.last = a2 at *
  generalize t.r0 = a3 at *
  generalize t.r1 = a4 at *
  generalize t.r2 = a5 at *
  generalize t.r3 = a6 at *
  clear t
  have hz := zeroSt
  have hz7 := zero7
  have HRA : Hid ((w.alloc (.cells #[.int .i64 1, .string x] 102)).heap[w.heap.size]? = some (.cells #[.int .i64 1, .string x] 102 (0, 0))) := heap_alloc_new w _
  have HBA : Hid (Below w.heap.size w (w.alloc (.cells #[.int .i64 1, .string x] 102))) := (Below.refl _ _).alloc (Nat.le_refl _) _
  have hs1 : (w.alloc (.cells #[.int .i64 1, .string x] 102)).heap.size = w.heap.size + 1 := by simp
  have xs : (x.size : Int) = 32 := by omega
  go_enter Tryz.func84, Tryz.ntmps84
  go_wp2_with fail
  generalize hwa : World.alloc w _ = wa at *
  clear hwa
  have HRB : Hid ((wa.alloc (.cells #[.int .i64 0, .int .i64 0, .int .i64 0, .int .i64 0, .int .i64 0, .int .i64 0, .int .i64 0] 58)).heap[w.heap.size + 1]? = some (.cells #[.int .i64 0, .int .i64 0, .int .i64 0, .int .i64 0, .int .i64 0, .int .i64 0, .int .i64 0] 58 (0, 0))) := by
    have := heap_alloc_new wa (.cells #[.int .i64 0, .int .i64 0, .int .i64 0, .int .i64 0, .int .i64 0, .int .i64 0, .int .i64 0] 58)
    rw [hs1] at this
    exact this
  have HRA1 : Hid ((wa.alloc (.cells #[.int .i64 0, .int .i64 0, .int .i64 0, .int .i64 0, .int .i64 0, .int .i64 0, .int .i64 0] 58)).heap[w.heap.size]? = some (.cells #[.int .i64 1, .string x] 102 (0, 0))) := (heap_alloc_old wa _ (by rw [hs1]; omega)).trans HRA.out
  have HBB : Hid (Below w.heap.size w (wa.alloc (.cells #[.int .i64 0, .int .i64 0, .int .i64 0, .int .i64 0, .int .i64 0, .int .i64 0, .int .i64 0] 58))) := HBA.out.alloc (by rw [hs1]; omega) _
  have hs2 : (wa.alloc (.cells #[.int .i64 0, .int .i64 0, .int .i64 0, .int .i64 0, .int .i64 0, .int .i64 0, .int .i64 0] 58)).heap.size = w.heap.size + 2 := by simp [hs1]
  clear hs1 HRA HBA
  generalize hwb : World.alloc wa _ = wb at *
  clear hwb
  refine (HP.out _).mono ?_
  rintro e wS ⟨rfl, hwS⟩
  rw [hwS]
  clear hwS wS HP
  go_wp2_with fail
  have HRC : Hid ((wb.alloc (.cells #[.int .i64 0, .int .i64 0, .int .i64 0, .int .i64 0, .int .i64 0, .int .i64 0, .int .i64 0] 164)).heap[w.heap.size + 2]? = some (.cells #[.int .i64 0, .int .i64 0, .int .i64 0, .int .i64 0, .int .i64 0, .int .i64 0, .int .i64 0] 164 (0, 0))) := by
    have := heap_alloc_new wb (.cells #[.int .i64 0, .int .i64 0, .int .i64 0, .int .i64 0, .int .i64 0, .int .i64 0, .int .i64 0] 164)
    rw [hs2] at this
    exact this
  have HRA2 : Hid ((wb.alloc (.cells #[.int .i64 0, .int .i64 0, .int .i64 0, .int .i64 0, .int .i64 0, .int .i64 0, .int .i64 0] 164)).heap[w.heap.size]? = some (.cells #[.int .i64 1, .string x] 102 (0, 0))) := (heap_alloc_old wb _ (by rw [hs2]; omega)).trans HRA1.out
  have HRB2 : Hid ((wb.alloc (.cells #[.int .i64 0, .int .i64 0, .int .i64 0, .int .i64 0, .int .i64 0, .int .i64 0, .int .i64 0] 164)).heap[w.heap.size + 1]? = some (.cells #[.int .i64 0, .int .i64 0, .int .i64 0, .int .i64 0, .int .i64 0, .int .i64 0, .int .i64 0] 58 (0, 0))) := (heap_alloc_old wb _ (by rw [hs2]; omega)).trans HRB.out
  have HBC : Hid (Below w.heap.size w (wb.alloc (.cells #[.int .i64 0, .int .i64 0, .int .i64 0, .int .i64 0, .int .i64 0, .int .i64 0, .int .i64 0] 164))) := HBB.out.alloc (by rw [hs2]; omega) _
  have hs3 : (wb.alloc (.cells #[.int .i64 0, .int .i64 0, .int .i64 0, .int .i64 0, .int .i64 0, .int .i64 0, .int .i64 0] 164)).heap.size = w.heap.size + 3 := by simp [hs2]
  clear hs2 HRA1 HRB HBB hz7
  generalize hwc : World.alloc wb _ = wc0 at *
  clear hwc
  refine wp_loop_rounds 8 ?_
  rw [rounds_succ]
  have q0 : wc0.cell? ⟨w.heap.size, 1, none⟩ = some (.string x) := cell_of_row _ _ _ _ _ (0, 0) HRA2.out
  go_wp2_with fail
  refine (N0.out _).mono ?_
  rintro e wS ⟨rfl, hwS⟩
  rw [hwS]
  clear hwS wS q0 N0
  have f0 := frozen_of_row wc0 (w.heap.size + 2) 0 _ _ HRC.out
  have g0 : wc0.cell? ⟨w.heap.size + 2, 0, none⟩ = some (.int .i64 0) := cell_of_row _ _ _ _ _ (0, 0) HRC.out
  go_wp2_with fail
  have HRC1 : Hid ((wc0.setCell ⟨w.heap.size + 2, 0, none⟩ (.int .i64 (a0 : Int))).heap[w.heap.size + 2]? = some (.cells #[.int .i64 (a0 : Int), .int .i64 0, .int .i64 0, .int .i64 0, .int .i64 0, .int .i64 0, .int .i64 0] 164 (0, 0))) := row_set7 HRC.out 0 _ rfl
  have HRA3 : Hid ((wc0.setCell ⟨w.heap.size + 2, 0, none⟩ (.int .i64 (a0 : Int))).heap[w.heap.size]? = some (.cells #[.int .i64 1, .string x] 102 (0, 0))) := (heap_setCell_other _ _ _ _ (by simp)).trans HRA2.out
  have HRB3 : Hid ((wc0.setCell ⟨w.heap.size + 2, 0, none⟩ (.int .i64 (a0 : Int))).heap[w.heap.size + 1]? = some (.cells #[.int .i64 0, .int .i64 0, .int .i64 0, .int .i64 0, .int .i64 0, .int .i64 0, .int .i64 0] 58 (0, 0))) := (heap_setCell_other _ _ _ _ (by simp)).trans HRB2.out
  have HBC1 : Hid (Below w.heap.size w (wc0.setCell ⟨w.heap.size + 2, 0, none⟩ (.int .i64 (a0 : Int)))) := HBC.out.setCell (by simp) _
  have ht0 : (wc0.setCell ⟨w.heap.size + 2, 0, none⟩ (.int .i64 (a0 : Int))).heap.size = w.heap.size + 3 := by simp [World.setCell, hs3]
  clear f0 g0 HRC HRA2 HRB2 HBC hs3
  generalize hw : World.setCell _ _ _ = wc1 at *
  clear hw
  rw [rounds_succ]
  have q1 : wc1.cell? ⟨w.heap.size, 1, none⟩ = some (.string x) := cell_of_row _ _ _ _ _ (0, 0) HRA3.out
  go_wp2_with fail
  refine (N1.out _).mono ?_
  rintro e wS ⟨rfl, hwS⟩
  rw [hwS]
  clear hwS wS q1 N1
  have f1 := frozen_of_row wc1 (w.heap.size + 2) 1 _ _ HRC1.out
  have g1 : wc1.cell? ⟨w.heap.size + 2, 1, none⟩ = some (.int .i64 0) := cell_of_row _ _ _ _ _ (0, 0) HRC1.out
  go_wp2_with fail
  have HRC2 : Hid ((wc1.setCell ⟨w.heap.size + 2, 1, none⟩ (.int .i64 (a1 : Int))).heap[w.heap.size + 2]? = some (.cells #[.int .i64 (a0 : Int), .int .i64 (a1 : Int), .int .i64 0, .int .i64 0, .int .i64 0, .int .i64 0, .int .i64 0] 164 (0, 0))) := row_set7 HRC1.out 1 _ rfl
  have HRA4 : Hid ((wc1.setCell ⟨w.heap.size + 2, 1, none⟩ (.int .i64 (a1 : Int))).heap[w.heap.size]? = some (.cells #[.int .i64 1, .string x] 102 (0, 0))) := (heap_setCell_other _ _ _ _ (by simp)).trans HRA3.out
  have HRB4 : Hid ((wc1.setCell ⟨w.heap.size + 2, 1, none⟩ (.int .i64 (a1 : Int))).heap[w.heap.size + 1]? = some (.cells #[.int .i64 0, .int .i64 0, .int .i64 0, .int .i64 0, .int .i64 0, .int .i64 0, .int .i64 0] 58 (0, 0))) := (heap_setCell_other _ _ _ _ (by simp)).trans HRB3.out
  have HBC2 : Hid (Below w.heap.size w (wc1.setCell ⟨w.heap.size + 2, 1, none⟩ (.int .i64 (a1 : Int)))) := HBC1.out.setCell (by simp) _
  have ht1 : (wc1.setCell ⟨w.heap.size + 2, 1, none⟩ (.int .i64 (a1 : Int))).heap.size = w.heap.size + 3 := by simp [World.setCell, ht0]
  clear f1 g1 HRC1 HRA3 HRB3 HBC1 ht0
  generalize hw : World.setCell _ _ _ = wc2 at *
  clear hw
  rw [rounds_succ]
  have q2 : wc2.cell? ⟨w.heap.size, 1, none⟩ = some (.string x) := cell_of_row _ _ _ _ _ (0, 0) HRA4.out
  go_wp2_with fail
  refine (N2.out _).mono ?_
  rintro e wS ⟨rfl, hwS⟩
  rw [hwS]
  clear hwS wS q2 N2
  have f2 := frozen_of_row wc2 (w.heap.size + 2) 2 _ _ HRC2.out
  have g2 : wc2.cell? ⟨w.heap.size + 2, 2, none⟩ = some (.int .i64 0) := cell_of_row _ _ _ _ _ (0, 0) HRC2.out
  go_wp2_with fail
  have HRC3 : Hid ((wc2.setCell ⟨w.heap.size + 2, 2, none⟩ (.int .i64 (a2 : Int))).heap[w.heap.size + 2]? = some (.cells #[.int .i64 (a0 : Int), .int .i64 (a1 : Int), .int .i64 (a2 : Int), .int .i64 0, .int .i64 0, .int .i64 0, .int .i64 0] 164 (0, 0))) := row_set7 HRC2.out 2 _ rfl
  have HRA5 : Hid ((wc2.setCell ⟨w.heap.size + 2, 2, none⟩ (.int .i64 (a2 : Int))).heap[w.heap.size]? = some (.cells #[.int .i64 1, .string x] 102 (0, 0))) := (heap_setCell_other _ _ _ _ (by simp)).trans HRA4.out
  have HRB5 : Hid ((wc2.setCell ⟨w.heap.size + 2, 2, none⟩ (.int .i64 (a2 : Int))).heap[w.heap.size + 1]? = some (.cells #[.int .i64 0, .int .i64 0, .int .i64 0, .int .i64 0, .int .i64 0, .int .i64 0, .int .i64 0] 58 (0, 0))) := (heap_setCell_other _ _ _ _ (by simp)).trans HRB4.out
  have HBC3 : Hid (Below w.heap.size w (wc2.setCell ⟨w.heap.size + 2, 2, none⟩ (.int .i64 (a2 : Int)))) := HBC2.out.setCell (by simp) _
  have ht2 : (wc2.setCell ⟨w.heap.size + 2, 2, none⟩ (.int .i64 (a2 : Int))).heap.size = w.heap.size + 3 := by simp [World.setCell, ht1]
  clear f2 g2 HRC2 HRA4 HRB4 HBC2 ht1
  generalize hw : World.setCell _ _ _ = wc3 at *
  clear hw
  rw [rounds_succ]
  have q3 : wc3.cell? ⟨w.heap.size, 1, none⟩ = some (.string x) := cell_of_row _ _ _ _ _ (0, 0) HRA5.out
  go_wp2_with fail
  refine (N3.out _).mono ?_
  rintro e wS ⟨rfl, hwS⟩
  rw [hwS]
  clear hwS wS q3 N3
  have f3 := frozen_of_row wc3 (w.heap.size + 2) 3 _ _ HRC3.out
  have g3 : wc3.cell? ⟨w.heap.size + 2, 3, none⟩ = some (.int .i64 0) := cell_of_row _ _ _ _ _ (0, 0) HRC3.out
  go_wp2_with fail
  have HRC4 : Hid ((wc3.setCell ⟨w.heap.size + 2, 3, none⟩ (.int .i64 (a3 : Int))).heap[w.heap.size + 2]? = some (.cells #[.int .i64 (a0 : Int), .int .i64 (a1 : Int), .int .i64 (a2 : Int), .int .i64 (a3 : Int), .int .i64 0, .int .i64 0, .int .i64 0] 164 (0, 0))) := row_set7 HRC3.out 3 _ rfl
  have HRA6 : Hid ((wc3.setCell ⟨w.heap.size + 2, 3, none⟩ (.int .i64 (a3 : Int))).heap[w.heap.size]? = some (.cells #[.int .i64 1, .string x] 102 (0, 0))) := (heap_setCell_other _ _ _ _ (by simp)).trans HRA5.out
  have HRB6 : Hid ((wc3.setCell ⟨w.heap.size + 2, 3, none⟩ (.int .i64 (a3 : Int))).heap[w.heap.size + 1]? = some (.cells #[.int .i64 0, .int .i64 0, .int .i64 0, .int .i64 0, .int .i64 0, .int .i64 0, .int .i64 0] 58 (0, 0))) := (heap_setCell_other _ _ _ _ (by simp)).trans HRB5.out
  have HBC4 : Hid (Below w.heap.size w (wc3.setCell ⟨w.heap.size + 2, 3, none⟩ (.int .i64 (a3 : Int)))) := HBC3.out.setCell (by simp) _
  have ht3 : (wc3.setCell ⟨w.heap.size + 2, 3, none⟩ (.int .i64 (a3 : Int))).heap.size = w.heap.size + 3 := by simp [World.setCell, ht2]
  clear f3 g3 HRC3 HRA5 HRB5 HBC3 ht2
  generalize hw : World.setCell _ _ _ = wc4 at *
  clear hw
  rw [rounds_succ]
  have q4 : wc4.cell? ⟨w.heap.size, 1, none⟩ = some (.string x) := cell_of_row _ _ _ _ _ (0, 0) HRA6.out
  go_wp2_with fail
  refine (N4.out _).mono ?_
  rintro e wS ⟨rfl, hwS⟩
  rw [hwS]
  clear hwS wS q4 N4
  have f4 := frozen_of_row wc4 (w.heap.size + 2) 4 _ _ HRC4.out
  have g4 : wc4.cell? ⟨w.heap.size + 2, 4, none⟩ = some (.int .i64 0) := cell_of_row _ _ _ _ _ (0, 0) HRC4.out
  go_wp2_with fail
  have HRC5 : Hid ((wc4.setCell ⟨w.heap.size + 2, 4, none⟩ (.int .i64 (a4 : Int))).heap[w.heap.size + 2]? = some (.cells #[.int .i64 (a0 : Int), .int .i64 (a1 : Int), .int .i64 (a2 : Int), .int .i64 (a3 : Int), .int .i64 (a4 : Int), .int .i64 0, .int .i64 0] 164 (0, 0))) := row_set7 HRC4.out 4 _ rfl
  have HRA7 : Hid ((wc4.setCell ⟨w.heap.size + 2, 4, none⟩ (.int .i64 (a4 : Int))).heap[w.heap.size]? = some (.cells #[.int .i64 1, .string x] 102 (0, 0))) := (heap_setCell_other _ _ _ _ (by simp)).trans HRA6.out
  have HRB7 : Hid ((wc4.setCell ⟨w.heap.size + 2, 4, none⟩ (.int .i64 (a4 : Int))).heap[w.heap.size + 1]? = some (.cells #[.int .i64 0, .int .i64 0, .int .i64 0, .int .i64 0, .int .i64 0, .int .i64 0, .int .i64 0] 58 (0, 0))) := (heap_setCell_other _ _ _ _ (by simp)).trans HRB6.out
  have HBC5 : Hid (Below w.heap.size w (wc4.setCell ⟨w.heap.size + 2, 4, none⟩ (.int .i64 (a4 : Int)))) := HBC4.out.setCell (by simp) _
  have ht4 : (wc4.setCell ⟨w.heap.size + 2, 4, none⟩ (.int .i64 (a4 : Int))).heap.size = w.heap.size + 3 := by simp [World.setCell, ht3]
  clear f4 g4 HRC4 HRA6 HRB6 HBC4 ht3
  generalize hw : World.setCell _ _ _ = wc5 at *
  clear hw
  rw [rounds_succ]
  have q5 : wc5.cell? ⟨w.heap.size, 1, none⟩ = some (.string x) := cell_of_row _ _ _ _ _ (0, 0) HRA7.out
  go_wp2_with fail
  refine (N5.out _).mono ?_
  rintro e wS ⟨rfl, hwS⟩
  rw [hwS]
  clear hwS wS q5 N5
  have f5 := frozen_of_row wc5 (w.heap.size + 2) 5 _ _ HRC5.out
  have g5 : wc5.cell? ⟨w.heap.size + 2, 5, none⟩ = some (.int .i64 0) := cell_of_row _ _ _ _ _ (0, 0) HRC5.out
  go_wp2_with fail
  have HRC6 : Hid ((wc5.setCell ⟨w.heap.size + 2, 5, none⟩ (.int .i64 (a5 : Int))).heap[w.heap.size + 2]? = some (.cells #[.int .i64 (a0 : Int), .int .i64 (a1 : Int), .int .i64 (a2 : Int), .int .i64 (a3 : Int), .int .i64 (a4 : Int), .int .i64 (a5 : Int), .int .i64 0] 164 (0, 0))) := row_set7 HRC5.out 5 _ rfl
  have HRA8 : Hid ((wc5.setCell ⟨w.heap.size + 2, 5, none⟩ (.int .i64 (a5 : Int))).heap[w.heap.size]? = some (.cells #[.int .i64 1, .string x] 102 (0, 0))) := (heap_setCell_other _ _ _ _ (by simp)).trans HRA7.out
  have HRB8 : Hid ((wc5.setCell ⟨w.heap.size + 2, 5, none⟩ (.int .i64 (a5 : Int))).heap[w.heap.size + 1]? = some (.cells #[.int .i64 0, .int .i64 0, .int .i64 0, .int .i64 0, .int .i64 0, .int .i64 0, .int .i64 0] 58 (0, 0))) := (heap_setCell_other _ _ _ _ (by simp)).trans HRB7.out
  have HBC6 : Hid (Below w.heap.size w (wc5.setCell ⟨w.heap.size + 2, 5, none⟩ (.int .i64 (a5 : Int)))) := HBC5.out.setCell (by simp) _
  have ht5 : (wc5.setCell ⟨w.heap.size + 2, 5, none⟩ (.int .i64 (a5 : Int))).heap.size = w.heap.size + 3 := by simp [World.setCell, ht4]
  clear f5 g5 HRC5 HRA7 HRB7 HBC5 ht4
  generalize hw : World.setCell _ _ _ = wc6 at *
  clear hw
  rw [rounds_succ]
  have q6 : wc6.cell? ⟨w.heap.size, 1, none⟩ = some (.string x) := cell_of_row _ _ _ _ _ (0, 0) HRA8.out
  go_wp2_with fail
  refine (N6.out _).mono ?_
  rintro e wS ⟨rfl, hwS⟩
  rw [hwS]
  clear hwS wS q6 N6
  have f6 := frozen_of_row wc6 (w.heap.size + 2) 6 _ _ HRC6.out
  have g6 : wc6.cell? ⟨w.heap.size + 2, 6, none⟩ = some (.int .i64 0) := cell_of_row _ _ _ _ _ (0, 0) HRC6.out
  go_wp2_with fail
  have HRC7 : Hid ((wc6.setCell ⟨w.heap.size + 2, 6, none⟩ (.int .i64 (a6 : Int))).heap[w.heap.size + 2]? = some (.cells #[.int .i64 (a0 : Int), .int .i64 (a1 : Int), .int .i64 (a2 : Int), .int .i64 (a3 : Int), .int .i64 (a4 : Int), .int .i64 (a5 : Int), .int .i64 (a6 : Int)] 164 (0, 0))) := row_set7 HRC6.out 6 _ rfl
  have HRA9 : Hid ((wc6.setCell ⟨w.heap.size + 2, 6, none⟩ (.int .i64 (a6 : Int))).heap[w.heap.size]? = some (.cells #[.int .i64 1, .string x] 102 (0, 0))) := (heap_setCell_other _ _ _ _ (by simp)).trans HRA8.out
  have HRB9 : Hid ((wc6.setCell ⟨w.heap.size + 2, 6, none⟩ (.int .i64 (a6 : Int))).heap[w.heap.size + 1]? = some (.cells #[.int .i64 0, .int .i64 0, .int .i64 0, .int .i64 0, .int .i64 0, .int .i64 0, .int .i64 0] 58 (0, 0))) := (heap_setCell_other _ _ _ _ (by simp)).trans HRB8.out
  have HBC7 : Hid (Below w.heap.size w (wc6.setCell ⟨w.heap.size + 2, 6, none⟩ (.int .i64 (a6 : Int)))) := HBC6.out.setCell (by simp) _
  have ht6 : (wc6.setCell ⟨w.heap.size + 2, 6, none⟩ (.int .i64 (a6 : Int))).heap.size = w.heap.size + 3 := by simp [World.setCell, ht5]
  clear f6 g6 HRC6 HRA8 HRB8 HBC6 ht5
  generalize hw : World.setCell _ _ _ = wc7 at *
  clear hw
  rw [rounds_succ]
  have g0 : wc7.cell? ⟨w.heap.size + 2, 0, none⟩ = some (.int .i64 (a0 : Int)) := cell_of_row _ _ _ _ _ (0, 0) HRC7.out
  have g1 : wc7.cell? ⟨w.heap.size + 2, 1, none⟩ = some (.int .i64 (a1 : Int)) := cell_of_row _ _ _ _ _ (0, 0) HRC7.out
  have g2 : wc7.cell? ⟨w.heap.size + 2, 2, none⟩ = some (.int .i64 (a2 : Int)) := cell_of_row _ _ _ _ _ (0, 0) HRC7.out
  go_wp2_with fail
  clear g0 g1 g2
  have HRD : Hid ((wc7.alloc (.cells #[.int .i64 (a0 : Int), .int .i64 (a1 : Int), .int .i64 (a2 : Int), .int .i64 0, .int .i64 0, .int .i64 0, .int .i64 0] 58)).heap[w.heap.size + 3]? = some (.cells #[.int .i64 (a0 : Int), .int .i64 (a1 : Int), .int .i64 (a2 : Int), .int .i64 0, .int .i64 0, .int .i64 0, .int .i64 0] 58 (0, 0))) := by
    have := heap_alloc_new wc7 (.cells #[.int .i64 (a0 : Int), .int .i64 (a1 : Int), .int .i64 (a2 : Int), .int .i64 0, .int .i64 0, .int .i64 0, .int .i64 0] 58)
    rw [ht6] at this
    exact this
  have HRC8 : Hid ((wc7.alloc (.cells #[.int .i64 (a0 : Int), .int .i64 (a1 : Int), .int .i64 (a2 : Int), .int .i64 0, .int .i64 0, .int .i64 0, .int .i64 0] 58)).heap[w.heap.size + 2]? = some (.cells #[.int .i64 (a0 : Int), .int .i64 (a1 : Int), .int .i64 (a2 : Int), .int .i64 (a3 : Int), .int .i64 (a4 : Int), .int .i64 (a5 : Int), .int .i64 (a6 : Int)] 164 (0, 0))) := (heap_alloc_old wc7 _ (by rw [ht6]; omega)).trans HRC7.out
  have HRB10 : Hid ((wc7.alloc (.cells #[.int .i64 (a0 : Int), .int .i64 (a1 : Int), .int .i64 (a2 : Int), .int .i64 0, .int .i64 0, .int .i64 0, .int .i64 0] 58)).heap[w.heap.size + 1]? = some (.cells #[.int .i64 0, .int .i64 0, .int .i64 0, .int .i64 0, .int .i64 0, .int .i64 0, .int .i64 0] 58 (0, 0))) := (heap_alloc_old wc7 _ (by rw [ht6]; omega)).trans HRB9.out
  have HBD : Hid (Below w.heap.size w (wc7.alloc (.cells #[.int .i64 (a0 : Int), .int .i64 (a1 : Int), .int .i64 (a2 : Int), .int .i64 0, .int .i64 0, .int .i64 0, .int .i64 0] 58))) := HBC7.out.alloc (by rw [ht6]; omega) _
  clear ht6 HRC7 HRB9 HBC7 HRA9 hz
  generalize hwd : World.alloc wc7 _ = wd at *
  clear hwd
  have hcp := run_copy_cells (P := Tryz.prog) wd.drew 37 37 3 3 (w.heap.size + 3) 3 4 4 ⟨w.heap.size + 2, 3, none⟩ 4 4 [.int .i64 (a3 : Int), .int .i64 (a4 : Int), .int .i64 (a5 : Int), .int .i64 (a6 : Int)] Tryz.underlying37 (by kernel_rfl) rfl
    (fun j v hv => by
      rcases j with _ | _ | _ | _ | j
      · cases hv; exact cell_of_row wd _ _ _ _ (0, 0) HRC8.out
      · cases hv; exact cell_of_row wd _ _ _ _ (0, 0) HRC8.out
      · cases hv; exact cell_of_row wd _ _ _ _ (0, 0) HRC8.out
      · cases hv; exact cell_of_row wd _ _ _ _ (0, 0) HRC8.out
      · cases hv)
    (fun j hj => (there_row (o := 3) (n := 4) HRD.out (by simp) j hj).1) (fun j hj => (there_row (o := 3) (n := 4) HRD.out (by simp) j hj).2) (by intro v hv; simp at hv; rcases hv with rfl | rfl | rfl | rfl <;> rfl)
  have HRE : Hid ((wd.drew.setCells (w.heap.size + 3) 3 [.int .i64 (a3 : Int), .int .i64 (a4 : Int), .int .i64 (a5 : Int), .int .i64 (a6 : Int)]).heap[w.heap.size + 3]? = some (.cells #[.int .i64 (a0 : Int), .int .i64 (a1 : Int), .int .i64 (a2 : Int), .int .i64 (a3 : Int), .int .i64 (a4 : Int), .int .i64 (a5 : Int), .int .i64 (a6 : Int)] 58 (0, 0))) := setCells_splice (w.heap.size + 3) 58 _ 3 [.int .i64 (a0 : Int), .int .i64 (a1 : Int), .int .i64 (a2 : Int), .int .i64 0, .int .i64 0, .int .i64 0, .int .i64 0] wd.drew HRD.out (by simp)
  have HRB11 : Hid ((wd.drew.setCells (w.heap.size + 3) 3 [.int .i64 (a3 : Int), .int .i64 (a4 : Int), .int .i64 (a5 : Int), .int .i64 (a6 : Int)]).heap[w.heap.size + 1]? = some (.cells #[.int .i64 0, .int .i64 0, .int .i64 0, .int .i64 0, .int .i64 0, .int .i64 0, .int .i64 0] 58 (0, 0))) := (Chg.setCells (w.heap.size + 3) _ _ wd.drew).block (w.heap.size + 1) (by have := (Array.getElem?_eq_some_iff.1 HRB10.out).1; exact this) (by simp) |>.trans HRB10.out
  have HBE : Hid (Below w.heap.size w (wd.drew.setCells (w.heap.size + 3) 3 [.int .i64 (a3 : Int), .int .i64 (a4 : Int), .int .i64 (a5 : Int), .int .i64 (a6 : Int)])) := below_setCells (by simp) _ _ _ ⟨HBD.out.os, HBD.out.tape, HBD.out.output, HBD.out.size, HBD.out.block⟩
  clear HRD HRC8 HRB10 HBD
  generalize hwe : World.setCells _ _ _ _ = we at *
  clear hwe
  refine wp_region_held_drew (S := fun _ => True) (by kernel_rfl) trivial (fun _ => ?_)
  refine heldTake 0 (some 45) (.pointer (some ⟨w.heap.size + 3, 3, none⟩)) rfl rfl (by kernel_rfl) (by kernel_rfl) (by kernel_rfl) (fun _ _ _ h => h) (Or.inl ⟨by rfl, fun w hS => ?_⟩) trivial ?_
  · (go_simp)
  simp only [Act.put, List.setIfInBounds_toArray, List.set_cons_zero, List.set_cons_succ]
  refine heldTake 1 (some 46) (.slice (some ⟨w.heap.size + 3, 3, none⟩) 4 4) rfl rfl (by kernel_rfl) (by kernel_rfl) (by kernel_rfl) (fun _ _ _ h => h) (Or.inl ⟨by rfl, fun w hS => ?_⟩) trivial ?_
  · (go_simp)
  simp only [Act.put, List.setIfInBounds_toArray, List.set_cons_zero, List.set_cons_succ]
  refine heldTake 2 (some 47) (.slice (some ⟨w.heap.size + 2, 3, none⟩) 4 4) rfl rfl (by kernel_rfl) (by kernel_rfl) (by kernel_rfl) (fun _ _ _ h => h) (Or.inl ⟨by rfl, fun w hS => ?_⟩) trivial ?_
  · (go_simp)
  simp only [Act.put, List.setIfInBounds_toArray, List.set_cons_zero, List.set_cons_succ]
  refine heldOne 3 (by kernel_rfl) rfl (by rfl) (fun KK hK => ?_)
  go_simp
  refine hK.out _ _ trivial ?_
  clear hK KK hcp
  refine wpAnyH_done (by kernel_rfl) ?_ _
  go_wp2_with fail
  have HC : Hid (∀ (U : World), U.heap[w.heap.size + 3]? = some (.cells #[.int .i64 (a0 : Int), .int .i64 (a1 : Int), .int .i64 (a2 : Int), .int .i64 (a3 : Int), .int .i64 (a4 : Int), .int .i64 (a5 : Int), .int .i64 (a6 : Int)] 58 (0, 0)) → U.cell? ⟨w.heap.size + 3, 0, none⟩ = some (.int .i64 (a0 : Int)) ∧ U.cell? ⟨w.heap.size + 3, 1, none⟩ = some (.int .i64 (a1 : Int)) ∧ U.cell? ⟨w.heap.size + 3, 2, none⟩ = some (.int .i64 (a2 : Int)) ∧ U.cell? ⟨w.heap.size + 3, 3, none⟩ = some (.int .i64 (a3 : Int)) ∧ U.cell? ⟨w.heap.size + 3, 4, none⟩ = some (.int .i64 (a4 : Int)) ∧ U.cell? ⟨w.heap.size + 3, 5, none⟩ = some (.int .i64 (a5 : Int)) ∧ U.cell? ⟨w.heap.size + 3, 6, none⟩ = some (.int .i64 (a6 : Int))) := fun U h => ⟨cell_of_row _ _ _ _ _ (0, 0) h, cell_of_row _ _ _ _ _ (0, 0) h, cell_of_row _ _ _ _ _ (0, 0) h, cell_of_row _ _ _ _ _ (0, 0) h, cell_of_row _ _ _ _ _ (0, 0) h, cell_of_row _ _ _ _ _ (0, 0) h, cell_of_row _ _ _ _ _ (0, 0) h⟩
  refine wp_region_held_drew (S := fun U => U.heap[w.heap.size + 3]? = some (.cells #[.int .i64 (a0 : Int), .int .i64 (a1 : Int), .int .i64 (a2 : Int), .int .i64 (a3 : Int), .int .i64 (a4 : Int), .int .i64 (a5 : Int), .int .i64 (a6 : Int)] 58 (0, 0))) (by kernel_rfl) HRE.out (fun _ => ?_)
  refine heldTake 0 (some 49) (.agg #[.int .i64 (a0 : Int), .int .i64 (a1 : Int), .int .i64 (a2 : Int), .int .i64 (a3 : Int), .int .i64 (a4 : Int), .int .i64 (a5 : Int), .int .i64 (a6 : Int)]) rfl rfl (by kernel_rfl) (by kernel_rfl) (by kernel_rfl) (fun _ _ _ h => h) (Or.inl ⟨by rfl, fun w hS => ?_⟩) HRE.out ?_
  · (obtain ⟨q0, q1, q2, q3, q4, q5, q6⟩ := HC.out _ hS; go_simp)
  simp only [Act.put, List.setIfInBounds_toArray, List.set_cons_zero, List.set_cons_succ]
  refine heldTake 1 (some 50) (.agg #[.int .i64 (a0 : Int), .int .i64 (a1 : Int), .int .i64 (a2 : Int), .int .i64 (a3 : Int), .int .i64 (a4 : Int), .int .i64 (a5 : Int), .int .i64 (a6 : Int)]) rfl rfl (by kernel_rfl) (by kernel_rfl) (by kernel_rfl) (fun _ _ _ h => h) (Or.inl ⟨by rfl, fun w hS => ?_⟩) HRE.out ?_
  · (obtain ⟨q0, q1, q2, q3, q4, q5, q6⟩ := HC.out _ hS; go_simp)
  simp only [Act.put, List.setIfInBounds_toArray, List.set_cons_zero, List.set_cons_succ]
  refine heldTake 2 (some 51) (.int .i64 (cnt : Int)) rfl rfl (by kernel_rfl) (by kernel_rfl) (by kernel_rfl) (fun _ _ _ h => h) (Or.inl ⟨by rfl, fun w hS => ?_⟩) HRE.out ?_
  · (go_simp)
  simp only [Act.put, List.setIfInBounds_toArray, List.set_cons_zero, List.set_cons_succ]
  refine heldOne 3 (by kernel_rfl) rfl (by rfl) (fun KK hK => ?_)
  go_simp
  go_at_call 87
  refine (HS.out _).mono ?_
  rintro e wf ⟨rfl, hBf⟩
  have HRF : Hid (wf.heap[w.heap.size + 3]? = some (.cells #[.int .i64 (a0 : Int), .int .i64 (a1 : Int), .int .i64 (a2 : Int), .int .i64 (a3 : Int), .int .i64 (a4 : Int), .int .i64 (a5 : Int), .int .i64 (a6 : Int)] 58 (0, 0))) := heap_next HRE.out (below_drew hBf)
  have HRB12 : Hid (wf.heap[w.heap.size + 1]? = some (.cells #[.int .i64 0, .int .i64 0, .int .i64 0, .int .i64 0, .int .i64 0, .int .i64 0, .int .i64 0] 58 (0, 0))) := heap_next HRB11.out (below_drew hBf)
  have HBF : Hid (Below w.heap.size w wf) := below_next HBE.out (below_drew hBf) HBE.out.size
  clear hBf HRE HRB11 HBE HS
  refine hK.out _ _ HRF.out ?_
  clear hK KK
  have f0 := frozen_of_row wf (w.heap.size + 1) 0 _ _ HRB12.out
  have f1 := frozen_of_row wf (w.heap.size + 1) 1 _ _ HRB12.out
  have f2 := frozen_of_row wf (w.heap.size + 1) 2 _ _ HRB12.out
  have f3 := frozen_of_row wf (w.heap.size + 1) 3 _ _ HRB12.out
  have f4 := frozen_of_row wf (w.heap.size + 1) 4 _ _ HRB12.out
  have f5 := frozen_of_row wf (w.heap.size + 1) 5 _ _ HRB12.out
  have f6 := frozen_of_row wf (w.heap.size + 1) 6 _ _ HRB12.out
  have g0 : wf.cell? ⟨w.heap.size + 1, 0, none⟩ = some (.int .i64 0) := cell_of_row _ _ _ _ _ (0, 0) HRB12.out
  have g1 : wf.cell? ⟨w.heap.size + 1, 1, none⟩ = some (.int .i64 0) := cell_of_row _ _ _ _ _ (0, 0) HRB12.out
  have g2 : wf.cell? ⟨w.heap.size + 1, 2, none⟩ = some (.int .i64 0) := cell_of_row _ _ _ _ _ (0, 0) HRB12.out
  have g3 : wf.cell? ⟨w.heap.size + 1, 3, none⟩ = some (.int .i64 0) := cell_of_row _ _ _ _ _ (0, 0) HRB12.out
  have g4 : wf.cell? ⟨w.heap.size + 1, 4, none⟩ = some (.int .i64 0) := cell_of_row _ _ _ _ _ (0, 0) HRB12.out
  have g5 : wf.cell? ⟨w.heap.size + 1, 5, none⟩ = some (.int .i64 0) := cell_of_row _ _ _ _ _ (0, 0) HRB12.out
  have g6 : wf.cell? ⟨w.heap.size + 1, 6, none⟩ = some (.int .i64 0) := cell_of_row _ _ _ _ _ (0, 0) HRB12.out
  refine heldOne 4 (by kernel_rfl) rfl (by rfl) (fun KK hK => ?_)
  go_simp
  have HRG : Hid ((((((((wf.setCell ⟨w.heap.size + 1, 0, none⟩ (.int .i64 (a0 : Int))).setCell ⟨w.heap.size + 1, 1, none⟩ (.int .i64 (a1 : Int))).setCell ⟨w.heap.size + 1, 2, none⟩ (.int .i64 (a2 : Int))).setCell ⟨w.heap.size + 1, 3, none⟩ (.int .i64 (a3 : Int))).setCell ⟨w.heap.size + 1, 4, none⟩ (.int .i64 (a4 : Int))).setCell ⟨w.heap.size + 1, 5, none⟩ (.int .i64 (a5 : Int))).setCell ⟨w.heap.size + 1, 6, none⟩ (.int .i64 (a6 : Int))).heap[w.heap.size + 3]? = some (.cells #[.int .i64 (a0 : Int), .int .i64 (a1 : Int), .int .i64 (a2 : Int), .int .i64 (a3 : Int), .int .i64 (a4 : Int), .int .i64 (a5 : Int), .int .i64 (a6 : Int)] 58 (0, 0))) := (chg7 wf (w.heap.size + 1) _ _ _ _ _ _ _).block (w.heap.size + 3) (Array.getElem?_eq_some_iff.1 HRF.out).1 (by simp) |>.trans HRF.out
  have HRH : Hid ((((((((wf.setCell ⟨w.heap.size + 1, 0, none⟩ (.int .i64 (a0 : Int))).setCell ⟨w.heap.size + 1, 1, none⟩ (.int .i64 (a1 : Int))).setCell ⟨w.heap.size + 1, 2, none⟩ (.int .i64 (a2 : Int))).setCell ⟨w.heap.size + 1, 3, none⟩ (.int .i64 (a3 : Int))).setCell ⟨w.heap.size + 1, 4, none⟩ (.int .i64 (a4 : Int))).setCell ⟨w.heap.size + 1, 5, none⟩ (.int .i64 (a5 : Int))).setCell ⟨w.heap.size + 1, 6, none⟩ (.int .i64 (a6 : Int))).heap[w.heap.size + 1]? = some (.cells #[.int .i64 (a0 : Int), .int .i64 (a1 : Int), .int .i64 (a2 : Int), .int .i64 (a3 : Int), .int .i64 (a4 : Int), .int .i64 (a5 : Int), .int .i64 (a6 : Int)] 58 (0, 0))) := row7n HRB12.out _ _ _ _ _ _ _
  have HBH : Hid (Below w.heap.size w (((((((wf.setCell ⟨w.heap.size + 1, 0, none⟩ (.int .i64 (a0 : Int))).setCell ⟨w.heap.size + 1, 1, none⟩ (.int .i64 (a1 : Int))).setCell ⟨w.heap.size + 1, 2, none⟩ (.int .i64 (a2 : Int))).setCell ⟨w.heap.size + 1, 3, none⟩ (.int .i64 (a3 : Int))).setCell ⟨w.heap.size + 1, 4, none⟩ (.int .i64 (a4 : Int))).setCell ⟨w.heap.size + 1, 5, none⟩ (.int .i64 (a5 : Int))).setCell ⟨w.heap.size + 1, 6, none⟩ (.int .i64 (a6 : Int)))) := (((((((HBF.out.setCell (by simp) _).setCell (by simp) _).setCell (by simp) _).setCell (by simp) _).setCell (by simp) _).setCell (by simp) _).setCell (by simp) _)
  clear f0 f1 f2 f3 f4 f5 f6 g0 g1 g2 g3 g4 g5 g6 HRF HRB12 HBF
  generalize hwg : World.setCell _ _ _ = wg at *
  clear hwg
  refine hK.out _ _ HRG.out ?_
  clear hK KK
  refine heldTake 5 (some 5) (.bool true) rfl rfl (by kernel_rfl) (by kernel_rfl) (by kernel_rfl) (fun _ _ _ h => h) (Or.inl ⟨by rfl, fun w hS => ?_⟩) HRG.out ?_
  · (go_simp)
  simp only [Act.put, List.setIfInBounds_toArray, List.set_cons_zero, List.set_cons_succ]
  refine wpAnyH_done (by kernel_rfl) ?_ _
  go_wp2
  exact bodyPost_ret (results_stb Tryz.results84 _ _ (w.heap.size + 1) 58 ⟨a0, a1, a2, a3, a4, a5, a6⟩ _ rfl rfl HRH.out) rfl ⟨rfl, HBH.out⟩
end Go.Proofs.YtcfninpokngmlaaGreatDoor
/- Proved: what slices.Sort of numbers and a builder's String answer, in this translation's own numbers. -/
namespace Go.Proofs
open Go.Shelf
def Tryz.lays189_ren : Go.Shelf.Ren := ⟨fun | 189 => 103 | 125 => 129 | 257 => 128 | 128 => 150 | 129 => 151 | 294 => 141 | 295 => 142 | 296 => 143 | 297 => 144 | 298 => 145 | 299 => 146 | 216 => 147 | 300 => 148 | 301 => 149 | 328 => 157 | 329 => 158 | 330 => 159 | 331 => 160 | 332 => 161 | 215 => 162 | 343 => 165 | n => n, fun | 28 => 37 | 3 => 3 | 46 => 175 | 0 => 0 | 51 => 159 | 53 => 135 | 4 => 4 | 183 => 189 | 182 => 188 | 131 => 129 | 5 => 5 | 9 => 9 | 218 => 205 | 222 => 209 | 228 => 213 | 229 => 89 | n => n, fun | n => n⟩
theorem Tryz.lays189 : Go.Proofs.Lays.n189 Tryz.prog Tryz.lays189_ren := {
  mixed := by kernel_rfl
  f125 := Tryz.func129.trans (congrArg some (by kernel_rfl))
  f128 := Tryz.func150.trans (congrArg some (by kernel_rfl))
  f129 := Tryz.func151.trans (congrArg some (by kernel_rfl))
  f189 := Tryz.func103.trans (congrArg some (by kernel_rfl))
  f215 := Tryz.func162.trans (congrArg some (by kernel_rfl))
  f216 := Tryz.func147.trans (congrArg some (by kernel_rfl))
  f257 := Tryz.func128.trans (congrArg some (by kernel_rfl))
  f294 := Tryz.func141.trans (congrArg some (by kernel_rfl))
  f295 := Tryz.func142.trans (congrArg some (by kernel_rfl))
  f296 := Tryz.func143.trans (congrArg some (by kernel_rfl))
  f297 := Tryz.func144.trans (congrArg some (by kernel_rfl))
  f298 := Tryz.func145.trans (congrArg some (by kernel_rfl))
  f299 := Tryz.func146.trans (congrArg some (by kernel_rfl))
  f300 := Tryz.func148.trans (congrArg some (by kernel_rfl))
  f301 := Tryz.func149.trans (congrArg some (by kernel_rfl))
  f328 := Tryz.func157.trans (congrArg some (by kernel_rfl))
  f329 := Tryz.func158.trans (congrArg some (by kernel_rfl))
  f330 := Tryz.func159.trans (congrArg some (by kernel_rfl))
  f331 := Tryz.func160.trans (congrArg some (by kernel_rfl))
  f332 := Tryz.func161.trans (congrArg some (by kernel_rfl))
  f343 := Tryz.func165.trans (congrArg some (by kernel_rfl))
  t0 := Tryz.underlying0
  a0 := Tryz.isAgg0
  z0 := Tryz.sizeOf0
  v0 := Tryz.zeroValue0
  t3 := Tryz.underlying3
  a3 := Tryz.isAgg3
  z3 := Tryz.sizeOf3
  v3 := Tryz.zeroValue3
  t4 := Tryz.underlying4
  a4 := Tryz.isAgg4
  z4 := Tryz.sizeOf4
  v4 := Tryz.zeroValue4
  t5 := Tryz.underlying5
  a5 := Tryz.isAgg5
  z5 := Tryz.sizeOf5
  v5 := Tryz.zeroValue5
  t9 := Tryz.underlying9
  a9 := Tryz.isAgg9
  z9 := Tryz.sizeOf9
  v9 := Tryz.zeroValue9
  t28 := Tryz.underlying37
  a28 := Tryz.isAgg37
  z28 := Tryz.sizeOf37
  v28 := Tryz.zeroValue37
  t46 := Tryz.underlying175
  a46 := Tryz.isAgg175
  z46 := Tryz.sizeOf175
  v46 := Tryz.zeroValue175
  t51 := Tryz.underlying159
  a51 := Tryz.isAgg159
  z51 := Tryz.sizeOf159
  v51 := Tryz.zeroValue159
  t53 := Tryz.underlying135
  a53 := Tryz.isAgg135
  z53 := Tryz.sizeOf135
  v53 := Tryz.zeroValue135
  t131 := Tryz.underlying129
  a131 := Tryz.isAgg129
  z131 := Tryz.sizeOf129
  v131 := Tryz.zeroValue129
  t182 := Tryz.underlying188
  a182 := Tryz.isAgg188
  z182 := Tryz.sizeOf188
  v182 := Tryz.zeroValue188
  t183 := Tryz.underlying189
  a183 := Tryz.isAgg189
  z183 := Tryz.sizeOf189
  v183 := Tryz.zeroValue189
  t218 := Tryz.underlying205
  a218 := Tryz.isAgg205
  z218 := Tryz.sizeOf205
  v218 := Tryz.zeroValue205
  t222 := Tryz.underlying209
  a222 := Tryz.isAgg209
  z222 := Tryz.sizeOf209
  v222 := Tryz.zeroValue209
  t228 := Tryz.underlying213
  a228 := Tryz.isAgg213
  z228 := Tryz.sizeOf213
  v228 := Tryz.zeroValue213
  t229 := Tryz.underlying89
  a229 := Tryz.isAgg89
  z229 := Tryz.sizeOf89
  v229 := Tryz.zeroValue89 }
def Tryz.lays169_ren : Go.Shelf.Ren := ⟨fun | 169 => 113 | n => n, fun | 70 => 149 | 9 => 9 | 0 => 0 | 72 => 151 | 37 => 138 | 127 => 166 | 3 => 3 | 5 => 5 | n => n, fun | n => n⟩
theorem Tryz.lays169 : Go.Proofs.Lays.n169 Tryz.prog Tryz.lays169_ren := {
  mixed := by kernel_rfl
  f169 := Tryz.func113.trans (congrArg some (by kernel_rfl))
  t0 := Tryz.underlying0
  a0 := Tryz.isAgg0
  z0 := Tryz.sizeOf0
  v0 := Tryz.zeroValue0
  t3 := Tryz.underlying3
  a3 := Tryz.isAgg3
  z3 := Tryz.sizeOf3
  v3 := Tryz.zeroValue3
  t9 := Tryz.underlying9
  a9 := Tryz.isAgg9
  z9 := Tryz.sizeOf9
  v9 := Tryz.zeroValue9
  t37 := Tryz.underlying138
  a37 := Tryz.isAgg138
  z37 := Tryz.sizeOf138
  v37 := Tryz.zeroValue138
  t70 := Tryz.underlying149
  a70 := Tryz.isAgg149
  z70 := Tryz.sizeOf149
  v70 := Tryz.zeroValue149
  t72 := Tryz.underlying151
  a72 := Tryz.isAgg151
  z72 := Tryz.sizeOf151
  v72 := Tryz.zeroValue151
  t127 := Tryz.underlying166
  a127 := Tryz.isAgg166
  z127 := Tryz.sizeOf166
  v127 := Tryz.zeroValue166 }
theorem Tryz.Builder_Extra_169 : Builder.Extra Tryz.prog Tryz.lays169_ren := {
  sizeBuilder := by kernel_rfl
  liesBuilder := by kernel_rfl
  t5 := Tryz.underlying5
  a5 := Tryz.isAgg5
  z5 := Tryz.sizeOf5
  v5 := Tryz.zeroValue5
  infoByte := by kernel_rfl
  cellsByte := by kernel_rfl
  sizeByte := by kernel_rfl
  neB5 := by decide }
open Go.RowKit in
theorem Tryz.Builder_String_any (B b : Nat) (l : List UInt8) (w : World) (h : Lib.IsBuilder 151 5 B b (Lib.byteCells l) w) (hBw : B ≤ w.heap.size) :
    Calls Tryz.prog 113 #[.pointer (some ⟨b, 0, none⟩)] w fun e w' => e = .returned (.string ⟨l.toArray⟩) ∧ Below B w w' := Any.Builder_String_any Tryz.lays169 Tryz.Builder_Extra_169 B b l w h hBw
open Go.RowKit Go.Sort in
theorem Tryz.sort_int (blk off cap : Nat) (zs : List Int) (w : World) (hH : Holds (Value.int .i64) w blk off zs.toArray) (hblk : blk < w.heap.size) (hsz : zs.length < 4611686018427387904) :
    Calls Tryz.prog 103 #[.slice (some ⟨blk, off, none⟩) zs.length cap] w fun e w' =>
      e = .returned (.tuple #[]) ∧ ∃ n os, w' = grow (putRow (Value.int .i64) (Sort.ahead w n) blk off (zs.mergeSort fun x y => decide (x ≤ y)).toArray) os := Any.slices_Sort_int Tryz.lays189 blk off cap zs w hH hblk hsz
end Go.Proofs
/- Proved: what is written to a builder of texts is there, byte for byte. -/
namespace Go.Proofs.YtcfninpokngmlaaGreatDoor
open Go.RowKit
theorem info_b8 : Tryz.prog.info? 5 = some Tryz.t5 := by kernel_rfl
abbrev IsB (B b : Nat) (bs : List Value) (w : World) : Prop := Lib.IsBuilder 151 5 B b bs w
abbrev BAt (B b : Nat) (bs : List Value) (w : World) : Prop := Lib.BuilderAt 151 5 B b (.pointer (some ⟨b, 0, none⟩)) bs w
def renB : Go.Shelf.Ren := ⟨fun | 240 => 131 | 276 => 152 | n => n, fun | 0 => 0 | 4 => 4 | 5 => 5 | 9 => 9 | 20 => 20 | 37 => 138 | 70 => 149 | 72 => 151 | 164 => 197 | n => n, fun | n => n⟩
theorem layB : Go.Proofs.Lays.n240 Tryz.prog renB := {
  mixed := by kernel_rfl
  f240 := Tryz.func131.trans (congrArg some (by kernel_rfl))
  f276 := Tryz.func152.trans (congrArg some (by kernel_rfl))
  t0 := Tryz.underlying0
  a0 := Tryz.isAgg0
  z0 := Tryz.sizeOf0
  v0 := Tryz.zeroValue0
  t4 := Tryz.underlying4
  a4 := Tryz.isAgg4
  z4 := Tryz.sizeOf4
  v4 := Tryz.zeroValue4
  t9 := Tryz.underlying9
  a9 := Tryz.isAgg9
  z9 := Tryz.sizeOf9
  v9 := Tryz.zeroValue9
  t20 := Tryz.underlying20
  a20 := Tryz.isAgg20
  z20 := Tryz.sizeOf20
  v20 := Tryz.zeroValue20
  t70 := Tryz.underlying149
  a70 := Tryz.isAgg149
  z70 := Tryz.sizeOf149
  v70 := Tryz.zeroValue149
  t72 := Tryz.underlying151
  a72 := Tryz.isAgg151
  z72 := Tryz.sizeOf151
  v72 := Tryz.zeroValue151
  t164 := Tryz.underlying197
  a164 := Tryz.isAgg197
  z164 := Tryz.sizeOf197
  v164 := Tryz.zeroValue197 }
theorem alsoB : Builder.X72 Tryz.prog renB := {
  sizeBuilder := by kernel_rfl
  liesBuilder := by kernel_rfl }
end Go.Proofs.YtcfninpokngmlaaGreatDoor
/- Proved: what pagedb's rising answers: the numbers of a map's pages, the lowest first, whatever order the map gave. -/
namespace Go.Proofs.YtcfninpokngmlaaGreatDoor
open Go.RowKit Go.Maps Go.Sort
structure Coll (m : Pd.Mp) (left : Lit → Bool) (ss : List Nat) : Prop where
  nodup : ss.Nodup
  mem : ∀ i, i ∈ ss ↔ (Pd.get m i).isSome = true ∧ left (keyL i) = false
theorem Coll.start (m : Pd.Mp) : Coll m (Maps.has (dM m)) [] := ⟨List.nodup_nil, fun i => by
  rw [has_dM]
  constructor
  · intro h; cases h
  · rintro ⟨h1, h2⟩
    rw [h1] at h2
    cases h2⟩
theorem Coll.step {m : Pd.Mp} {left : Lit → Bool} {ss : List Nat} (h : Coll m left ss) {x : Nat} (hx : (Pd.get m x).isSome = true) (hl : left (keyL x) = true) : Coll m (fun z => left z && !z.sameKey (keyL x)) (ss ++ [x]) := by
  have hn : x ∉ ss := fun hm => by
    have := ((h.mem x).1 hm).2
    rw [hl] at this
    cases this
  refine ⟨List.nodup_append.2 ⟨h.nodup, by simp, fun a ha b hb e => ?_⟩, fun i => ?_⟩
  · rw [List.mem_singleton.1 hb] at e
    exact hn (e ▸ ha)
  · rw [List.mem_append, List.mem_singleton, h.mem i]
    show _ ↔ _ ∧ (left (keyL i) && !(keyL i).sameKey (keyL x)) = false
    rw [same_key]
    by_cases e : i = x
    · subst e
      rw [decide_eq_true rfl]
      simp [hx]
    · rw [decide_eq_false e]
      simp [e]
theorem Coll.perm {m : Pd.Mp} (hu : Pd.Up m) {left : Lit → Bool} {ss : List Nat} (h : Coll m left ss) (hl : ∀ kl, left kl = false) : ss.Perm (m.map Prod.fst) := by
  refine (List.perm_ext_iff_of_nodup h.nodup ?_).2 fun i => ?_
  · refine List.pairwise_map.2 (hu.imp fun {p q} h e => ?_)
    omega
  · rw [h.mem i]
    constructor
    · rintro ⟨h1, _⟩
      obtain ⟨x, hx⟩ := Option.isSome_iff_exists.1 h1
      exact List.mem_map.2 ⟨(i, x), Pd.get_mem hx, rfl⟩
    · intro h1
      obtain ⟨p, hp, rfl⟩ := List.mem_map.1 h1
      rw [Pd.mem_get hu hp]
      exact ⟨rfl, hl _⟩
theorem sorted_keys {m : Pd.Mp} (hu : Pd.Up m) {ss : List Nat} (h : ss.Perm (m.map Prod.fst)) : (ss.map fun i : Nat => (i : Int)).mergeSort (fun x y => decide (x ≤ y)) = m.map fun p => (p.1 : Int) := by
  have tr : ∀ a b c : Int, decide (a ≤ b) = true → decide (b ≤ c) = true → decide (a ≤ c) = true := fun a b c h1 h2 => by
    simp only [decide_eq_true_eq] at *
    omega
  have to : ∀ a b : Int, (decide (a ≤ b) || decide (b ≤ a)) = true := fun a b => by
    simp only [Bool.or_eq_true, decide_eq_true_eq]
    omega
  have hp : (ss.map fun i : Nat => (i : Int)).Perm (m.map fun p => (p.1 : Int)) := by
    have := h.map (fun i : Nat => (i : Int))
    rwa [List.map_map] at this
  refine List.Perm.eq_of_pairwise (le := fun a b => decide (a ≤ b) = true) (fun a b _ _ h1 h2 => ?_) (List.pairwise_mergeSort tr to _) ?_ ((List.mergeSort_perm _ _).trans hp)
  · simp only [decide_eq_true_eq] at h1 h2
    omega
  · refine List.pairwise_map.2 (hu.imp fun {p q} h => ?_)
    simp only [decide_eq_true_eq]
    omega
theorem infoInt : (Tryz.prog.info? 3).map (fun i => (i.zero, i.size, i.bytes)) = some (some (.int .i64 0), 1, 8) := by kernel_rfl
set_option maxHeartbeats 2000000 in
set_option maxRecDepth 100000 in
theorem rising_any (b : Nat) (m : Pd.Mp) (w : World) (hM : MpAt w b m) (hl : m.length ≤ 100000) :
    Calls Tryz.prog 77 #[.map (some b)] w fun e w' => ∃ g cap cur, e = .returned (.slice (some ⟨g, 0, none⟩) m.length cap) ∧ m.length ≤ cap ∧ cap ≤ maxLen ∧ w.heap.size ≤ g ∧ w'.heap[g]? = some (.cells cur 3 (0, 0)) ∧ (∀ (i : Nat) (p : Nat × Pd.Sheet), m[i]? = some p → cur[i]? = some (.int .i64 (p.1 : Int))) ∧ Below w.heap.size w w' := by
  obtain ⟨i0, hi, hz0, hz1, hz2⟩ := info_parts infoInt
  have hown := hM.own
  have hbl := hM.lt
  have HM : Hid (MpAt w b m) := hM
  have hsz := size_dM m
  clear hM
  go_enter Tryz.func77, Tryz.ntmps77
  go_wp2_with (first
    | (at_len; refine mp_len _ rfl _ rfl b m rfl HM.out ?_)
    | (at_make; refine wpList_make_own _ rfl _ _ 37 rfl w.heap.size 3 i0 (.int .i64 0) 1 Tryz.underlying37 hi hz0 hz1 _ _ _ m.length rfl rfl rfl (by rw [hz2]; omega) (by unfold maxLen; omega) (Nat.le_refl _) ?_; intro w1 hrow1 hg1)
    | (at_range; refine wpList_range_own _ rfl _ 59 rfl 3 102 lawI Tryz.underlying59 shR b m.length _ rfl (hown.kept hg1 (by simp)) ?_; intro w0 hrg0 hg0 hs0)
    | go_in)
  go_frame
  go_loopw [3] (fun v wr => ∃ (left : Lit → Bool) (cnt : Nat) (ss : List Nat), wr.ranges Tryz.prog 3 shR b w1.heap.size m.length (dM m) left cnt ∧ ss.length + cnt ≤ m.length ∧
      wr.ownsRow w.heap.size 3 1 v ss.length (ss.map fun i : Nat => Value.int .i64 (i : Int)) ∧ v ≠ .slice none 0 0 ∧ Coll m left ss ∧ Below w.heap.size w wr)
    (fun _ wr => wr.rangeLeft b w1.heap.size)
  case atStart =>
    exact ⟨_, _, [], hrg0, by simp [hsz], hrow1.kept hg0 (Or.inr (by simp [Value.ownBlock])), by simp, Coll.start m,
      ((Below.refl _ _).grown hg1 (Nat.le_refl _) (fun j hj => by cases hj)).grown hg0 hg1.size (fun j hj => by cases hj)⟩
  case round =>
    obtain ⟨left, cnt, ss, hrg, hcs, hrow, hnn, hC, hnx⟩ := hrel
    go_wp2_with (first
      | (at_next; refine wpList_next_ranges _ rfl _ rfl 3 lawI shR id id (fun key _ _ => ⟨key, rfl⟩) (fun v _ _ => ⟨v, rfl⟩) b w1.heap.size m.length _ _ _ rfl hrg ?_ ?_)
      | go_in)
    · intro hc0 hl0
      rcases hrow.2 with ⟨hnil, _⟩ | ⟨g, cap, cur, rfl, hbase, hb, h1, h2, h3, h4⟩
      · exact absurd hnil hnn
      have hP := hC.perm HM.out.up hl0
      have hlen : ss.length = m.length := by have := hP.length_eq; rwa [List.length_map] at this
      have hS := sorted_keys HM.out.up hP
      have hgl : g < wr.heap.size := (Array.getElem?_eq_some_iff.1 hb).1
      have hmap : (ss.map fun i : Nat => Value.int .i64 (i : Int)) = (ss.map fun i : Nat => (i : Int)).map (Value.int .i64) := by rw [List.map_map]; rfl
      have hH : Holds (Value.int .i64) wr g 0 (ss.map fun i : Nat => (i : Int)).toArray := holds_of_blockI hb (by rw [List.length_map, ← hmap]; simpa using h4)
      have hc := Tryz.sort_int g 0 cap (ss.map fun i : Nat => (i : Int)) wr hH hgl (by rw [List.length_map]; omega)
      rw [List.length_map, hS] at hc
      have HF : Hid (∀ n os, ∃ g' cap' cur', Value.slice (some ⟨g, 0, none⟩) ss.length cap = .slice (some ⟨g', 0, none⟩) m.length cap' ∧ m.length ≤ cap' ∧ cap' ≤ maxLen ∧ w.heap.size ≤ g' ∧ (grow (putRow (Value.int .i64) (Sort.ahead wr n) g 0 (m.map fun p => (p.1 : Int)).toArray) os).heap[g']? = some (.cells cur' 3 (0, 0)) ∧ (∀ (i : Nat) (p : Nat × Pd.Sheet), m[i]? = some p → cur'[i]? = some (.int .i64 (p.1 : Int))) ∧ Below w.heap.size w (grow (putRow (Value.int .i64) (Sort.ahead wr n) g 0 (m.map fun p => (p.1 : Int)).toArray) os)) := fun n os => by
        have hro := ownsRow_sortedI (n := n) (os := os) (ss := ss.map fun i : Nat => (i : Int)) (ts := m.map fun p => (p.1 : Int)) (by simp [hlen]) hbase hb (by rw [List.length_map]; exact h1) h2 h3
        rcases hro.2 with ⟨hnil, _⟩ | ⟨g2, cap2, cur2, hv, hbase2, hb2, e1, e2, e3, e4⟩
        · cases hnil
        · cases hv
          refine ⟨g, cap, cur2, by rw [hlen], by omega, h2, hbase, hb2, fun i p hp => ?_, hnx.grown (grownBy_sortedI _) hnx.size (fun j hj => by cases hj; exact hbase)⟩
          have hi : i < m.length := (List.getElem?_eq_some_iff.1 hp).1
          have h5 : (cur2.toList.take (ss.length * 1))[i]? = some (.int .i64 (p.1 : Int)) := by
            have e4' := e4
            rw [List.length_map] at e4'
            rw [e4', List.getElem?_map, List.getElem?_map, hp]
            rfl
          rw [List.getElem?_take_of_lt (by omega)] at h5
          rw [← Array.getElem?_toList]
          exact h5
      clear hS hlen hP hmap hH hb h1 h2 h3 h4 hbase hrow hrg hC hnx hnn
      go_wp2_with (go_at_call 103; refine hc.mono ?_; rintro e w' ⟨rfl, nn, os, rfl⟩)
      go_ret
      obtain ⟨g', cap', cur', e1, e2, e3, e4, e5, e6, e7⟩ := HF.out nn os
      exact ⟨g', cap', cur', congrArg Ending.returned e1, e2, e3, e4, e5, e6, e7⟩
    · intro x c kl yd yp w2 cnt2 hkey hlk hv hat hrg2 hlt hg2 hs2 hen
      obtain ⟨z, hz, hkl, _⟩ := Maps.keyOf_int_inv Tryz.underlying3 hkey
      obtain ⟨p, hp, hkp⟩ := has_key (has_true_of_atKey hat)
      rw [hkl] at hkp
      have hzp : z = (p.1 : Int) := by
        unfold keyL at hkp
        simpa using hkp
      rw [hzp] at hz hkl
      have hx : x = .int .i64 (p.1 : Int) := hz
      have hkl2 : kl = keyL p.1 := hkl
      clear hz hkl hkp hzp
      rw [hx] at hen
      rw [hkl2] at hlk hrg2
      have hsome : (Pd.get m p.1).isSome = true := by rw [Pd.mem_get HM.out.up hp]; rfl
      have hC2 := hC.step hsome hlk
      have hrow2 := hrow.kept hg2 (Or.inr (row_ne_iter hrow hrg).symm)
      have hbd : b < w.heap.size := hbl
      clear hs2 hx
      have HB2 : Hid (Below w.heap.size w w2) := hnx.grown hg2 hnx.size (fun j hj => by cases hj; exact hg1.size)
      have hsz2 := HB2.out.size
      go_wp2_with (first
        | (at_builtin; refine wpList_append_own _ rfl _ _ 37 rfl w.heap.size 3 i0 (.int .i64 0) 1 8 Tryz.underlying37 hi hz0 hz1 hz2 rfl (by decide) _ _ _ rfl (hrow2.alloc _) ⟨w2.heap.size, 0, none⟩ 1 1 [.int .i64 (p.1 : Int)] rfl rfl (cell_one_new _ _ _) (by simp [Value.oneCell']) (by unfold maxLen at *; omega) (by omega) (by simp; omega) ?_; intro v3 w3 hown3 hg3 hnil3)
        | go_in)
      have hrg3 := (hrg2.alloc _).kept hg3 (row_ne_low hrow2 hbd) (row_ne_iter hrow2 hrg2)
      go_roundw
      case rel =>
        refine ⟨_, cnt2, ss ++ [p.1], hrg3, by simp; omega, by simpa using hown3, fun hv' => by have := (hnil3.1 hv').2; omega, hC2, ?_⟩
        exact (HB2.out.alloc hsz2 _).grown hg3 (by simp; omega) (fun j hj => (hrow2.lt j hj).1)
      case measure => rw [hrg3.left_eq, hrg.left_eq]; exact hlt
end Go.Proofs.YtcfninpokngmlaaGreatDoor
