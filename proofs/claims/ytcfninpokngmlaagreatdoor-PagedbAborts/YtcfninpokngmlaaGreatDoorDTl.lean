/- Proved: what a transaction's unlink and Alloc make of it. -/
import Derived.Test.YtcfninpokngmlaaGreatDoorDTa
namespace Go.Proofs.YtcfninpokngmlaaGreatDoor
open Go.RowKit
def unSt (s : Pd.Stt) (a : Nat) : Pd.Stt := { s with free := s.free - 1, last := a }
section
variable (A : Ad) (t bt : Nat) (d : Pd.Db) (u : Pd.Tx) (w : World)
set_option maxHeartbeats 8000000 in
set_option maxRecDepth 100000 in
theorem unlink_any (a : Nat) (H : Txw w A t bt d u) (hF : Fits d) (hlt : u.st.last < d.cnt) (hfr : 1 ≤ u.st.free) (hfr2 : u.st.free ≤ 1000) (hS : (unSt u.st a).Small d.cnt) (hx : Pd.TSees u d u.st.last (Pd.freeSheet a)) :
    Calls Tryz.prog 63 #[ptr t] w (TDoes w A t bt d { u with st := unSt u.st a } 0) := by
  have ha : a < 4294967296 := by have h1 := hS.last; have h2 := hS.high; have h3 := hF.cnt; have h4 : (unSt u.st a).last = a := rfl; omega
  have HLK : Hid (Calls Tryz.prog 85 #[.pointer (some ⟨t, 0, none⟩), .int .i64 (u.st.last : Int)] w fun e w' => e = .returned (.tuple #[.agg #[.int .i64 255, .string (Wl.put a 4)], .int .i64 0]) ∧ Below w.heap.size w w') := tlook_any A t bt d u w u.st.last (Pd.freeSheet a) H hF hlt hx
  have HRF : Hid (∀ U, Calls Tryz.prog 86 #[.agg #[.int .i64 255, .string (Wl.put a 4)]] U fun e w' => e = .returned (.tuple #[.int .i64 (a : Int), .bool true]) ∧ Below U.heap.size U w') := fun U => readFree_any a U ha
  have HSO : Hid (∀ U, Calls Tryz.prog 87 #[.agg #[.int .i64 (u.st.high : Int), .int .i64 ((u.st.free : Int) - 1), .int .i64 (a : Int), .int .i64 (u.st.r0 : Int), .int .i64 (u.st.r1 : Int), .int .i64 (u.st.r2 : Int), .int .i64 (u.st.r3 : Int)], .int .i64 (d.cnt : Int)] U fun e w' => e = .returned (.bool true) ∧ Below U.heap.size U w') := fun U => by
    have h := sound_yes (unSt u.st a) d.cnt U hS
    have e : stV (unSt u.st a) = .agg #[.int .i64 (u.st.high : Int), .int .i64 ((u.st.free : Int) - 1), .int .i64 (a : Int), .int .i64 (u.st.r0 : Int), .int .i64 (u.st.r1 : Int), .int .i64 (u.st.r2 : Int), .int .i64 (u.st.r3 : Int)] := by
      unfold stV stA unSt
      simp only
      rw [show ((u.st.free - 1 : Nat) : Int) = (u.st.free : Int) - 1 by omega]
    rw [e] at h
    exact h
  have HH : Hid (Txw w A t bt d u) := H
  have hz := zeroSh
  unfold shV sh00 Pd.none0 at hz
  have hzs := zeroSt
  have c3 := H.c3
  have hwr : IntKind.i64.wrap ((u.st.free : Int) - 1) = (u.st.free : Int) - 1 := by rw [IntKind.wrap_i64]; omega
  clear H hx hS
  generalize Wl.put a 4 = pa at *
  unfold ptr
  go_enter Tryz.func63, Tryz.ntmps63
  go_wp2_with fail
  refine HLK.out.mono ?_
  rintro e w1 ⟨rfl, hB1⟩
  have HB2 : Hid (Below w.heap.size w (w1.alloc (.cells #[.int .i64 255, .string pa] 102))) := hB1.alloc hB1.size _
  have HX2 : Hid (Txw (w1.alloc (.cells #[.int .i64 255, .string pa] 102)) A t bt d u) := HH.out.below HB2.out
  have q0 : (w1.alloc (.cells #[.int .i64 255, .string pa] 102)).heap[w1.heap.size]? = some (.cells #[.int .i64 255, .string pa] 102 (0, 0)) := heap_alloc_new w1 _
  have HQ2 : Hid ((w1.alloc (.cells #[.int .i64 255, .string pa] 102)).heap[w1.heap.size]? = some (.cells #[.int .i64 255, .string pa] 102 (0, 0))) := q0
  have HX1 : Hid (Txw w1 A t bt d u) := HH.out.below hB1
  have e1 := HX1.out.c1
  have e2 := HX1.out.c2
  have e3 := HX1.out.c3
  have e4 := HX1.out.c4
  have e5 := HX1.out.c5
  have e6 := HX1.out.c6
  have e7 := HX1.out.c7
  have htl := HX1.out.tlt
  have HB1 : Hid (Below w.heap.size w w1) := hB1
  clear hB1 HLK c3 q0
  go_wp2_with fail
  have hs2 : (w1.alloc (.cells #[.int .i64 255, .string pa] 102)).heap.size = w1.heap.size + 1 := by simp
  have HB3 : Hid (Below w.heap.size w ((w1.alloc (.cells #[.int .i64 255, .string pa] 102)).alloc (.cells #[.int .i64 (u.st.high : Int), .int .i64 ((u.st.free : Int) - 1), .int .i64 (u.st.last : Int), .int .i64 (u.st.r0 : Int), .int .i64 (u.st.r1 : Int), .int .i64 (u.st.r2 : Int), .int .i64 (u.st.r3 : Int)] 58))) := HB2.out.alloc HB2.out.size _
  have HZ3 : Hid (((w1.alloc (.cells #[.int .i64 255, .string pa] 102)).alloc (.cells #[.int .i64 (u.st.high : Int), .int .i64 ((u.st.free : Int) - 1), .int .i64 (u.st.last : Int), .int .i64 (u.st.r0 : Int), .int .i64 (u.st.r1 : Int), .int .i64 (u.st.r2 : Int), .int .i64 (u.st.r3 : Int)] 58)).heap[w1.heap.size + 1]? = some (.cells #[.int .i64 (u.st.high : Int), .int .i64 ((u.st.free : Int) - 1), .int .i64 (u.st.last : Int), .int .i64 (u.st.r0 : Int), .int .i64 (u.st.r1 : Int), .int .i64 (u.st.r2 : Int), .int .i64 (u.st.r3 : Int)] 58 (0, 0))) := by
    have := heap_alloc_new (w1.alloc (.cells #[.int .i64 255, .string pa] 102)) (.cells #[.int .i64 (u.st.high : Int), .int .i64 ((u.st.free : Int) - 1), .int .i64 (u.st.last : Int), .int .i64 (u.st.r0 : Int), .int .i64 (u.st.r1 : Int), .int .i64 (u.st.r2 : Int), .int .i64 (u.st.r3 : Int)] 58)
    rw [hs2] at this
    exact this
  have HLB : Hid (w.heap.size ≤ w1.heap.size + 1 ∧ t < w.heap.size ∧ A.x < w.heap.size) := ⟨by have := HB1.out.size; omega, HH.out.tlt, HH.out.db.xlt⟩
  generalize hw3 : World.alloc (World.alloc w1 _) _ = w3 at *
  clear hw3 hs2 HB2 HX2 HQ2 HX1 HB1 e1 e2 e3 e4 e5 e6 e7 htl hz hzs
  generalize hB1g : w1.heap.size + 1 = B1 at *
  clear hB1g
  refine (HRF.out w3).mono ?_
  rintro e w4 ⟨rfl, hB4⟩
  have HB4 : Hid (Below w.heap.size w w4) := below_next HB3.out hB4 HB3.out.size
  have HZ4 : Hid (w4.heap[B1]? = some (.cells #[.int .i64 (u.st.high : Int), .int .i64 ((u.st.free : Int) - 1), .int .i64 (u.st.last : Int), .int .i64 (u.st.r0 : Int), .int .i64 (u.st.r1 : Int), .int .i64 (u.st.r2 : Int), .int .i64 (u.st.r3 : Int)] 58 (0, 0))) := heap_next HZ3.out hB4
  clear hB4 HRF HB3 HZ3
  have g2 : w4.cell? ⟨B1, 2, none⟩ = some (.int .i64 (u.st.last : Int)) := cell_of_row _ _ _ _ _ (0, 0) HZ4.out
  have f2 := frozen_of_row w4 B1 2 _ _ HZ4.out
  have HZ5 : Hid ((w4.setCell ⟨B1, 2, none⟩ (.int .i64 (a : Int))).heap[B1]? = some (.cells #[.int .i64 (u.st.high : Int), .int .i64 ((u.st.free : Int) - 1), .int .i64 (a : Int), .int .i64 (u.st.r0 : Int), .int .i64 (u.st.r1 : Int), .int .i64 (u.st.r2 : Int), .int .i64 (u.st.r3 : Int)] 58 (0, 0))) := row_set7 HZ4.out 2 _ rfl
  have HB5 : Hid (Below w.heap.size w (w4.setCell ⟨B1, 2, none⟩ (.int .i64 (a : Int)))) := HB4.out.setCell HLB.out.1 _
  clear HZ4 HB4
  go_wp2_with fail
  generalize hw5 : World.setCell _ _ _ = w5 at *
  clear hw5 g2 f2
  have HX5 : Hid (Txw w5 A t bt d u) := HH.out.below HB5.out
  have HS : Hid ((fun U : World => U.heap[B1]? = some (.cells #[.int .i64 (u.st.high : Int), .int .i64 ((u.st.free : Int) - 1), .int .i64 (a : Int), .int .i64 (u.st.r0 : Int), .int .i64 (u.st.r1 : Int), .int .i64 (u.st.r2 : Int), .int .i64 (u.st.r3 : Int)] 58 (0, 0)) ∧ U.cell? ⟨t, 0, none⟩ = some (.pointer (some ⟨A.x, 0, none⟩)) ∧ U.cell? ⟨A.x, 3, none⟩ = some (.int .i64 (d.cnt : Int))) w5) := ⟨HZ5.out, HX5.out.c0, HX5.out.db.c3⟩
  refine wp_region_held_drew (S := (fun U : World => U.heap[B1]? = some (.cells #[.int .i64 (u.st.high : Int), .int .i64 ((u.st.free : Int) - 1), .int .i64 (a : Int), .int .i64 (u.st.r0 : Int), .int .i64 (u.st.r1 : Int), .int .i64 (u.st.r2 : Int), .int .i64 (u.st.r3 : Int)] 58 (0, 0)) ∧ U.cell? ⟨t, 0, none⟩ = some (.pointer (some ⟨A.x, 0, none⟩)) ∧ U.cell? ⟨A.x, 3, none⟩ = some (.int .i64 (d.cnt : Int)))) (by kernel_rfl) HS.out (fun _ => ?_)
  refine heldTake 0 (some 36) (.bool true) rfl rfl (by kernel_rfl) (by kernel_rfl) (by kernel_rfl) (fun _ _ _ h => h) (Or.inl ⟨by rfl, fun w hS => ?_⟩) HS.out ?_
  · (go_simp)
  simp only [Act.put, List.setIfInBounds_toArray, List.set_cons_zero, List.set_cons_succ]
  refine heldTake 1 (some 37) (.bool false) rfl rfl (by kernel_rfl) (by kernel_rfl) (by kernel_rfl) (fun _ _ _ h => h) (Or.inl ⟨by rfl, fun w hS => ?_⟩) HS.out ?_
  · (go_simp)
  simp only [Act.put, List.setIfInBounds_toArray, List.set_cons_zero, List.set_cons_succ]
  refine heldTake 2 (some 38) (.bool false) rfl rfl (by kernel_rfl) (by kernel_rfl) (by kernel_rfl) (fun _ _ _ h => h) (Or.inl ⟨by rfl, fun w hS => ?_⟩) HS.out ?_
  · (go_simp)
  simp only [Act.put, List.setIfInBounds_toArray, List.set_cons_zero, List.set_cons_succ]
  refine heldTake 3 (some 39) (.agg #[.int .i64 (u.st.high : Int), .int .i64 ((u.st.free : Int) - 1), .int .i64 (a : Int), .int .i64 (u.st.r0 : Int), .int .i64 (u.st.r1 : Int), .int .i64 (u.st.r2 : Int), .int .i64 (u.st.r3 : Int)]) rfl rfl (by kernel_rfl) (by kernel_rfl) (by kernel_rfl) (fun _ _ _ h => h) (Or.inl ⟨by rfl, fun w hS => ?_⟩) HS.out ?_
  · (obtain ⟨p0, p1, p2⟩ := hS; have z0 : _ = some (Value.int .i64 (u.st.high : Int)) := cell_of_row w B1 0 _ _ (0, 0) p0; have z1 : _ = some (Value.int .i64 ((u.st.free : Int) - 1)) := cell_of_row w B1 1 _ _ (0, 0) p0; have z2 : _ = some (Value.int .i64 (a : Int)) := cell_of_row w B1 2 _ _ (0, 0) p0; have z3 : _ = some (Value.int .i64 (u.st.r0 : Int)) := cell_of_row w B1 3 _ _ (0, 0) p0; have z4 : _ = some (Value.int .i64 (u.st.r1 : Int)) := cell_of_row w B1 4 _ _ (0, 0) p0; have z5 : _ = some (Value.int .i64 (u.st.r2 : Int)) := cell_of_row w B1 5 _ _ (0, 0) p0; have z6 : _ = some (Value.int .i64 (u.st.r3 : Int)) := cell_of_row w B1 6 _ _ (0, 0) p0; clear p0 p1 p2; go_simp)
  simp only [Act.put, List.setIfInBounds_toArray, List.set_cons_zero, List.set_cons_succ]
  refine heldTake 4 (some 40) (.pointer (some ⟨t, 0, none⟩)) rfl rfl (by kernel_rfl) (by kernel_rfl) (by kernel_rfl) (fun _ _ _ h => h) (Or.inl ⟨by rfl, fun w hS => ?_⟩) HS.out ?_
  · (go_simp)
  simp only [Act.put, List.setIfInBounds_toArray, List.set_cons_zero, List.set_cons_succ]
  refine heldTake 5 (some 41) (.pointer (some ⟨t, 0, none⟩)) rfl rfl (by kernel_rfl) (by kernel_rfl) (by kernel_rfl) (fun _ _ _ h => h) (Or.inl ⟨by rfl, fun w hS => ?_⟩) HS.out ?_
  · (go_simp)
  simp only [Act.put, List.setIfInBounds_toArray, List.set_cons_zero, List.set_cons_succ]
  refine heldTake 6 (some 42) (.pointer (some ⟨t, 0, none⟩)) rfl rfl (by kernel_rfl) (by kernel_rfl) (by kernel_rfl) (fun _ _ _ h => h) (Or.inl ⟨by rfl, fun w hS => ?_⟩) HS.out ?_
  · (go_simp)
  simp only [Act.put, List.setIfInBounds_toArray, List.set_cons_zero, List.set_cons_succ]
  refine heldTake 7 (some 43) (.pointer (some ⟨A.x, 0, none⟩)) rfl rfl (by kernel_rfl) (by kernel_rfl) (by kernel_rfl) (fun _ _ _ h => h) (Or.inl ⟨by rfl, fun w hS => ?_⟩) HS.out ?_
  · (obtain ⟨p0, p1, p2⟩ := hS; clear p0 p2; go_simp)
  simp only [Act.put, List.setIfInBounds_toArray, List.set_cons_zero, List.set_cons_succ]
  refine heldTake 8 (some 44) (.pointer (some ⟨A.x, 0, none⟩)) rfl rfl (by kernel_rfl) (by kernel_rfl) (by kernel_rfl) (fun _ _ _ h => h) (Or.inl ⟨by rfl, fun w hS => ?_⟩) HS.out ?_
  · (go_simp)
  simp only [Act.put, List.setIfInBounds_toArray, List.set_cons_zero, List.set_cons_succ]
  refine heldTake 9 (some 45) (.pointer (some ⟨A.x, 3, none⟩)) rfl rfl (by kernel_rfl) (by kernel_rfl) (by kernel_rfl) (fun _ _ _ h => h) (Or.inl ⟨by rfl, fun w hS => ?_⟩) HS.out ?_
  · (go_simp)
  simp only [Act.put, List.setIfInBounds_toArray, List.set_cons_zero, List.set_cons_succ]
  refine heldTake 10 (some 46) (.int .i64 (d.cnt : Int)) rfl rfl (by kernel_rfl) (by kernel_rfl) (by kernel_rfl) (fun _ _ _ h => h) (Or.inl ⟨by rfl, fun w hS => ?_⟩) HS.out ?_
  · (obtain ⟨p0, p1, p2⟩ := hS; clear p0 p1; go_simp)
  simp only [Act.put, List.setIfInBounds_toArray, List.set_cons_zero, List.set_cons_succ]
  refine heldOne 11 (by kernel_rfl) rfl (by rfl) (fun KK hK => ?_)
  go_simp
  go_at_call 87
  refine (HSO.out w5.drew).mono ?_
  rintro e w6 ⟨rfl, hB6⟩
  have hB6' := below_drew hB6
  have HB6 : Hid (Below w.heap.size w w6) := below_next HB5.out hB6' HB5.out.size
  have HX6 : Hid (Txw w6 A t bt d u) := HH.out.below HB6.out
  have HZ6 : Hid (w6.heap[B1]? = some (.cells #[.int .i64 (u.st.high : Int), .int .i64 ((u.st.free : Int) - 1), .int .i64 (a : Int), .int .i64 (u.st.r0 : Int), .int .i64 (u.st.r1 : Int), .int .i64 (u.st.r2 : Int), .int .i64 (u.st.r3 : Int)] 58 (0, 0))) := heap_next HZ5.out hB6'
  have HS6 : Hid ((fun U : World => U.heap[B1]? = some (.cells #[.int .i64 (u.st.high : Int), .int .i64 ((u.st.free : Int) - 1), .int .i64 (a : Int), .int .i64 (u.st.r0 : Int), .int .i64 (u.st.r1 : Int), .int .i64 (u.st.r2 : Int), .int .i64 (u.st.r3 : Int)] 58 (0, 0)) ∧ U.cell? ⟨t, 0, none⟩ = some (.pointer (some ⟨A.x, 0, none⟩)) ∧ U.cell? ⟨A.x, 3, none⟩ = some (.int .i64 (d.cnt : Int))) w6) := ⟨HZ6.out, HX6.out.c0, HX6.out.db.c3⟩
  clear hB6 hB6' HSO HX5 HS HZ5 HB5
  refine hK.out _ _ HS6.out ?_
  clear hK KK
  refine heldTake 12 (some 48) (.bool false) rfl rfl (by kernel_rfl) (by kernel_rfl) (by kernel_rfl) (fun _ _ _ h => h) (Or.inl ⟨by rfl, fun w hS => ?_⟩) HS6.out ?_
  · (go_simp)
  simp only [Act.put, List.setIfInBounds_toArray, List.set_cons_zero, List.set_cons_succ]
  refine heldTake 13 (some 49) (.bool false) rfl rfl (by kernel_rfl) (by kernel_rfl) (by kernel_rfl) (fun _ _ _ h => h) (Or.inl ⟨by rfl, fun w hS => ?_⟩) HS6.out ?_
  · (go_simp)
  simp only [Act.put, List.setIfInBounds_toArray, List.set_cons_zero, List.set_cons_succ]
  refine wpAnyH_done (by kernel_rfl) ?_ _
  have z0 : w6.cell? ⟨B1, 0, none⟩ = some (.int .i64 (u.st.high : Int)) := cell_of_row _ _ _ _ _ (0, 0) HZ6.out
  have z1 : w6.cell? ⟨B1, 1, none⟩ = some (.int .i64 ((u.st.free : Int) - 1)) := cell_of_row _ _ _ _ _ (0, 0) HZ6.out
  have z2 : w6.cell? ⟨B1, 2, none⟩ = some (.int .i64 (a : Int)) := cell_of_row _ _ _ _ _ (0, 0) HZ6.out
  have z3 : w6.cell? ⟨B1, 3, none⟩ = some (.int .i64 (u.st.r0 : Int)) := cell_of_row _ _ _ _ _ (0, 0) HZ6.out
  have z4 : w6.cell? ⟨B1, 4, none⟩ = some (.int .i64 (u.st.r1 : Int)) := cell_of_row _ _ _ _ _ (0, 0) HZ6.out
  have z5 : w6.cell? ⟨B1, 5, none⟩ = some (.int .i64 (u.st.r2 : Int)) := cell_of_row _ _ _ _ _ (0, 0) HZ6.out
  have z6 : w6.cell? ⟨B1, 6, none⟩ = some (.int .i64 (u.st.r3 : Int)) := cell_of_row _ _ _ _ _ (0, 0) HZ6.out
  have y1 := HX6.out.c1
  have f1 := HX6.out.fz 1
  have y2 := HX6.out.c2
  have f2 := HX6.out.fz 2
  have y3 := HX6.out.c3
  have f3 := HX6.out.fz 3
  have y4 := HX6.out.c4
  have f4 := HX6.out.fz 4
  have y5 := HX6.out.c5
  have f5 := HX6.out.fz 5
  have y6 := HX6.out.c6
  have f6 := HX6.out.fz 6
  have y7 := HX6.out.c7
  have f7 := HX6.out.fz 7
  obtain ⟨x1, x2⟩ := HX6.out.setSt (unSt u.st a)
  have e9 : st7 w6 t 1 (unSt u.st a) = ((((((w6.setCell ⟨t, 1, none⟩ (.int .i64 (u.st.high : Int))).setCell ⟨t, 2, none⟩ (.int .i64 ((u.st.free : Int) - 1))).setCell ⟨t, 3, none⟩ (.int .i64 (a : Int))).setCell ⟨t, 4, none⟩ (.int .i64 (u.st.r0 : Int))).setCell ⟨t, 5, none⟩ (.int .i64 (u.st.r1 : Int))).setCell ⟨t, 6, none⟩ (.int .i64 (u.st.r2 : Int))).setCell ⟨t, 7, none⟩ (.int .i64 (u.st.r3 : Int)) := by
    unfold st7 unSt
    simp only
    rw [show ((u.st.free - 1 : Nat) : Int) = (u.st.free : Int) - 1 by omega]
  rw [e9] at x1 x2
  have HFN : Hid (TDoes w A t bt d { u with st := unSt u.st a } 0 (.returned (.int .i64 0)) (((((((w6.setCell ⟨t, 1, none⟩ (.int .i64 (u.st.high : Int))).setCell ⟨t, 2, none⟩ (.int .i64 ((u.st.free : Int) - 1))).setCell ⟨t, 3, none⟩ (.int .i64 (a : Int))).setCell ⟨t, 4, none⟩ (.int .i64 (u.st.r0 : Int))).setCell ⟨t, 5, none⟩ (.int .i64 (u.st.r1 : Int))).setCell ⟨t, 6, none⟩ (.int .i64 (u.st.r2 : Int))).setCell ⟨t, 7, none⟩ (.int .i64 (u.st.r3 : Int)))) := ⟨rfl, x1, (Turn.of_below HB6.out).trans x2⟩
  clear x1 x2 e9 HZ6 HX6 HS6 HLB
  go_wp2
  go_ret
  exact HFN.out
end
end Go.Proofs.YtcfninpokngmlaaGreatDoor
