/- Proved: what pagedb's readFree, and its states' sound and sheet answer. -/
import Derived.Test.YtcfninpokngmlaaGreatDoorDSht
namespace Go.Proofs.YtcfninpokngmlaaGreatDoor
open Go.RowKit
set_option maxHeartbeats 1000000 in
theorem readFree_any (n : Nat) (w : World) (hn : n < 4294967296) :
    Calls Tryz.prog 86 #[shV (Pd.freeSheet n)] w fun e w' => e = .returned (.tuple #[.int .i64 (n : Int), .bool true]) ∧ Below w.heap.size w w' := by
  have HB0 : Hid (Below w.heap.size w (w.alloc (.cells #[.int .i64 255, .string (Wl.put n 4)] 102))) := (Below.refl _ _).alloc (Nat.le_refl _) _
  have hs := Wl.put_size n 4
  have HN : Hid (∀ W, Calls Tryz.prog 102 #[.string (Wl.put n 4)] W fun e w' => e = .returned (.int .i64 (n : Int)) ∧ w' = W) := fun W => by
    have := dnumber_any (Wl.put n 4) W (by rw [hs]; omega)
    rw [Pd.numb_put0 n hn] at this
    exact this
  show Calls Tryz.prog 86 #[.agg #[.int .i64 255, .string (Wl.put n 4)]] w _
  generalize Wl.put n 4 = p at *
  have c0 : (w.alloc (.cells #[.int .i64 255, .string p] 102)).cell? ⟨w.heap.size, 0, none⟩ = some (.int .i64 255) := cell_of_row _ _ _ _ _ (0, 0) (heap_alloc_new w _)
  have c1 : (w.alloc (.cells #[.int .i64 255, .string p] 102)).cell? ⟨w.heap.size, 1, none⟩ = some (.string p) := cell_of_row _ _ _ _ _ (0, 0) (heap_alloc_new w _)
  go_enter Tryz.func86, Tryz.ntmps86
  go_wp2_with fail
  refine (HN.out _).mono ?_
  rintro e w1 ⟨rfl, rfl⟩
  go_wp2
  go_ret2
  exact ⟨rfl, HB0.out⟩
set_option maxHeartbeats 2000000 in
set_option maxRecDepth 20000 in
theorem sound_yes (t : Pd.Stt) (cnt : Nat) (w : World) (h : t.Small cnt) :
    Calls Tryz.prog 87 #[stV t, .int .i64 (cnt : Int)] w fun e w' => e = .returned (.bool true) ∧ Below w.heap.size w w' := by
  have HB0 : Hid (Below w.heap.size w (w.alloc (.cells (stA t) 58))) := (Below.refl _ _).alloc (Nat.le_refl _) _
  have HR0 : Hid ((w.alloc (.cells (stA t) 58)).heap[w.heap.size]? = some (.cells (stA t) 58 (0, 0))) := heap_alloc_new w _
  show Calls Tryz.prog 87 #[.agg (stA t), .int .i64 (cnt : Int)] w _
  obtain ⟨a0, a1, a2, a3, a4, a5, a6⟩ := t
  obtain ⟨h1, h2, h3, h4, h5, h6, h7, h8⟩ := h
  simp only at h1 h2 h3 h4 h5 h6 h7 h8
  have d0 : decide ((2147483647 : Int) < (a3 : Int)) = false := decide_eq_false (by omega)
  have d1 : decide ((2147483647 : Int) < (a4 : Int)) = false := decide_eq_false (by omega)
  have d2 : decide ((2147483647 : Int) < (a5 : Int)) = false := decide_eq_false (by omega)
  have d3 : decide ((2147483647 : Int) < (a6 : Int)) = false := decide_eq_false (by omega)
  have e0 : decide ((a0 : Int) ≤ (cnt : Int)) = true := decide_eq_true (by omega)
  have e1 : decide ((a1 : Int) < (a0 : Int)) = true := decide_eq_true (by omega)
  have e2 : decide ((a2 : Int) < (a0 : Int)) = true := decide_eq_true (by omega)
  have e3 : (((a1 : Int) == 0) == ((a2 : Int) == 0)) = true := by
    by_cases z : a1 = 0
    · have z2 := h4.1 z
      rw [z, z2]; rfl
    · have z2 : ¬ a2 = 0 := fun e => z (h4.2 e)
      have y1 : ((a1 : Int) == 0) = false := beq_false_of_ne (by omega)
      have y2 : ((a2 : Int) == 0) = false := beq_false_of_ne (by omega)
      rw [y1, y2]; rfl
  clear h4 h5 h6 h7 h8
  unfold stA at *
  simp only at HB0 HR0 ⊢
  have c0 : (w.alloc (.cells #[.int .i64 (a0 : Int), .int .i64 (a1 : Int), .int .i64 (a2 : Int), .int .i64 (a3 : Int), .int .i64 (a4 : Int), .int .i64 (a5 : Int), .int .i64 (a6 : Int)] 58)).cell? ⟨w.heap.size, 0, none⟩ = some (.int .i64 (a0 : Int)) := cell_of_row _ _ _ _ _ (0, 0) HR0.out
  have c1 : (w.alloc (.cells #[.int .i64 (a0 : Int), .int .i64 (a1 : Int), .int .i64 (a2 : Int), .int .i64 (a3 : Int), .int .i64 (a4 : Int), .int .i64 (a5 : Int), .int .i64 (a6 : Int)] 58)).cell? ⟨w.heap.size, 1, none⟩ = some (.int .i64 (a1 : Int)) := cell_of_row _ _ _ _ _ (0, 0) HR0.out
  have c2 : (w.alloc (.cells #[.int .i64 (a0 : Int), .int .i64 (a1 : Int), .int .i64 (a2 : Int), .int .i64 (a3 : Int), .int .i64 (a4 : Int), .int .i64 (a5 : Int), .int .i64 (a6 : Int)] 58)).cell? ⟨w.heap.size, 2, none⟩ = some (.int .i64 (a2 : Int)) := cell_of_row _ _ _ _ _ (0, 0) HR0.out
  have c3 : (w.alloc (.cells #[.int .i64 (a0 : Int), .int .i64 (a1 : Int), .int .i64 (a2 : Int), .int .i64 (a3 : Int), .int .i64 (a4 : Int), .int .i64 (a5 : Int), .int .i64 (a6 : Int)] 58)).cell? ⟨w.heap.size, 3, none⟩ = some (.int .i64 (a3 : Int)) := cell_of_row _ _ _ _ _ (0, 0) HR0.out
  have c4 : (w.alloc (.cells #[.int .i64 (a0 : Int), .int .i64 (a1 : Int), .int .i64 (a2 : Int), .int .i64 (a3 : Int), .int .i64 (a4 : Int), .int .i64 (a5 : Int), .int .i64 (a6 : Int)] 58)).cell? ⟨w.heap.size, 4, none⟩ = some (.int .i64 (a4 : Int)) := cell_of_row _ _ _ _ _ (0, 0) HR0.out
  have c5 : (w.alloc (.cells #[.int .i64 (a0 : Int), .int .i64 (a1 : Int), .int .i64 (a2 : Int), .int .i64 (a3 : Int), .int .i64 (a4 : Int), .int .i64 (a5 : Int), .int .i64 (a6 : Int)] 58)).cell? ⟨w.heap.size, 5, none⟩ = some (.int .i64 (a5 : Int)) := cell_of_row _ _ _ _ _ (0, 0) HR0.out
  have c6 : (w.alloc (.cells #[.int .i64 (a0 : Int), .int .i64 (a1 : Int), .int .i64 (a2 : Int), .int .i64 (a3 : Int), .int .i64 (a4 : Int), .int .i64 (a5 : Int), .int .i64 (a6 : Int)] 58)).cell? ⟨w.heap.size, 6, none⟩ = some (.int .i64 (a6 : Int)) := cell_of_row _ _ _ _ _ (0, 0) HR0.out
  have i0 : ∀ W : World, (Instr.index 56 (.agg #[.int .i64 (a3 : Int), .int .i64 (a4 : Int), .int .i64 (a5 : Int), .int .i64 (a6 : Int)]) (.int .i64 0)).run Tryz.prog W = .ok (.int .i64 (a3 : Int)) W := fun W => by kernel_rfl
  have i1 : ∀ W : World, (Instr.index 56 (.agg #[.int .i64 (a3 : Int), .int .i64 (a4 : Int), .int .i64 (a5 : Int), .int .i64 (a6 : Int)]) (.int .i64 1)).run Tryz.prog W = .ok (.int .i64 (a4 : Int)) W := fun W => by kernel_rfl
  have i2 : ∀ W : World, (Instr.index 56 (.agg #[.int .i64 (a3 : Int), .int .i64 (a4 : Int), .int .i64 (a5 : Int), .int .i64 (a6 : Int)]) (.int .i64 2)).run Tryz.prog W = .ok (.int .i64 (a5 : Int)) W := fun W => by kernel_rfl
  have i3 : ∀ W : World, (Instr.index 56 (.agg #[.int .i64 (a3 : Int), .int .i64 (a4 : Int), .int .i64 (a5 : Int), .int .i64 (a6 : Int)]) (.int .i64 3)).run Tryz.prog W = .ok (.int .i64 (a6 : Int)) W := fun W => by kernel_rfl
  go_enter Tryz.func87, Tryz.ntmps87
  go_wp2_with fail
  generalize World.alloc w _ = w0 at *
  refine wp_loop_rounds 5 ?_
  iterate 5 (rw [rounds_succ]; go_wp2)
  go_ret
  exact ⟨rfl, HB0.out⟩
end Go.Proofs.YtcfninpokngmlaaGreatDoor
