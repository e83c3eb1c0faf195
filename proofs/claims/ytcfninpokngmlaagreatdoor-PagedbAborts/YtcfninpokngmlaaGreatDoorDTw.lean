/- Proved: what a transaction's Read, Write and mark make of it. -/
import Derived.Test.YtcfninpokngmlaaGreatDoorDTh
namespace Go.Proofs.YtcfninpokngmlaaGreatDoor
open Go.RowKit
theorem mp_put_run {w : World} {b : Nat} {m : Pd.Mp} (hM : MpAt w b m) (hl : m.length ≤ 100000) (i : Nat) (hi : i ≤ 9223372036854775807) (y : Pd.Sheet) : ∃ w', (Instr.mapUpdate 59 (.map (some b)) (.int .i64 (i : Int)) (shV y)).run Tryz.prog w = .ok () w' ∧ MpAt w' b (Pd.set m i y) ∧ w.grownBy w' (some b) := by
  obtain ⟨w', hr, ho, hg⟩ := hM.own.update lawI Tryz.underlying59 (by unfold maxLen; omega) (keyI hi) (shR_mk y)
  rw [put_dM hM.up] at ho
  exact ⟨w', hr, ⟨hM.up.set y i, own_exact ho⟩, hg⟩
section
variable (A : Ad) (t bt : Nat) (d : Pd.Db) (u : Pd.Tx) (w : World)
set_option maxHeartbeats 4000000 in
set_option maxRecDepth 100000 in
theorem tread_any (id : Int) (x : Pd.Sheet) (H : Txw w A t bt d u) (hF : Fits d) (hh : u.st.high ≤ d.cnt) (hx : ∀ i : Nat, id = (i : Int) → 1 ≤ i → i < u.st.high → Pd.TSees u d i x) :
    Calls Tryz.prog 26 #[ptr t, .int .i64 id] w fun e w' => e = .returned (.tuple #[.int .i64 ((thereR u.st.high id x).1.kind : Int), .string (thereR u.st.high id x).1.body, .int .i64 (thereR u.st.high id x).2]) ∧ Below w.heap.size w w' := by
  have HT : Hid (Calls Tryz.prog 61 #[.pointer (some ⟨t, 0, none⟩), .int .i64 id] w fun e w' => e = .returned (.tuple #[.agg #[.int .i64 ((thereR u.st.high id x).1.kind : Int), .string (thereR u.st.high id x).1.body], .int .i64 (thereR u.st.high id x).2]) ∧ Below w.heap.size w w') := there_any A t bt d u w id x H hF hh hx
  have hz := zeroSh
  unfold shV sh00 Pd.none0 at hz
  clear H hx
  generalize (thereR u.st.high id x).1.kind = k at *
  generalize (thereR u.st.high id x).1.body = b at *
  generalize (thereR u.st.high id x).2 = e0 at *
  unfold ptr
  go_enter Tryz.func26, Tryz.ntmps26
  go_wp2_with fail
  refine HT.out.mono ?_
  rintro e w1 ⟨rfl, hB1⟩
  have HB2 : Hid (Below w.heap.size w (w1.alloc (.cells #[.int .i64 (k : Int), .string b] 102))) := hB1.alloc hB1.size _
  have c0 : (w1.alloc (.cells #[.int .i64 (k : Int), .string b] 102)).cell? ⟨w1.heap.size, 0, none⟩ = some (.int .i64 (k : Int)) := cell_of_row _ _ _ _ _ (0, 0) (heap_alloc_new w1 _)
  have c1 : (w1.alloc (.cells #[.int .i64 (k : Int), .string b] 102)).cell? ⟨w1.heap.size, 1, none⟩ = some (.string b) := cell_of_row _ _ _ _ _ (0, 0) (heap_alloc_new w1 _)
  clear hB1 HT
  go_wp2_with fail
  generalize hw2 : World.alloc w1 _ = w2 at *
  clear hw2
  go_quiet (fail)
  have HB3 : Hid (Below w.heap.size w (w2.drewN nq)) := drewN_below HB2.out nq
  go_wp2
  go_ret3
  exact ⟨rfl, HB3.out⟩
def SH (s : Pd.Stt) : Value := .agg #[.int .i64 (s.high : Int), .int .i64 (s.free : Int), .int .i64 (s.last : Int), .int .i64 (s.r0 : Int), .int .i64 (s.r1 : Int), .int .i64 (s.r2 : Int), .int .i64 (s.r3 : Int)]
set_option maxHeartbeats 4000000 in
set_option maxRecDepth 100000 in
theorem mark_any (H : Txw w A t bt d u) (hl : u.m.length ≤ 100000) :
    Calls Tryz.prog 64 #[ptr t] w fun e w' => e = .returned (.tuple #[]) ∧ Txw w' A t bt d { u with m := Pd.set u.m 0 u.st.sheet } ∧ Turn (tft A t bt) (tft A t bt) w w' := by
  have HH : Hid (Txw w A t bt d u) := H
  have HSH : Hid (∀ U, Calls Tryz.prog 88 #[.agg #[.int .i64 (u.st.high : Int), .int .i64 (u.st.free : Int), .int .i64 (u.st.last : Int), .int .i64 (u.st.r0 : Int), .int .i64 (u.st.r1 : Int), .int .i64 (u.st.r2 : Int), .int .i64 (u.st.r3 : Int)]] U fun e w' => e = .returned (shV u.st.sheet) ∧ Below U.heap.size U w') := fun U => sheet_any u.st U
  have HS : Hid ((fun U : World => U.heap[t]? = some (.cells (txA A.x bt u) 66 (0, 0))) w.drew) := H.row
  clear H
  unfold ptr
  go_enter Tryz.func64, Tryz.ntmps64
  refine wp_region_held_drew (S := fun U : World => U.heap[t]? = some (.cells (txA A.x bt u) 66 (0, 0))) (by kernel_rfl) HS.out (fun _ => ?_)
  refine heldTake 0 (some 2) (.pointer (some ⟨t, 0, none⟩)) rfl rfl (by kernel_rfl) (by kernel_rfl) (by kernel_rfl) (fun _ _ _ h => h) (Or.inl ⟨by rfl, fun w hS => ?_⟩) HS.out ?_
  · (go_simp)
  simp only [Act.put, List.setIfInBounds_toArray, List.set_cons_zero, List.set_cons_succ]
  refine heldTake 1 (some 3) (.pointer (some ⟨t, 0, none⟩)) rfl rfl (by kernel_rfl) (by kernel_rfl) (by kernel_rfl) (fun _ _ _ h => h) (Or.inl ⟨by rfl, fun w hS => ?_⟩) HS.out ?_
  · (go_simp)
  simp only [Act.put, List.setIfInBounds_toArray, List.set_cons_zero, List.set_cons_succ]
  refine heldTake 2 (some 4) (.pointer (some ⟨t, 8, none⟩)) rfl rfl (by kernel_rfl) (by kernel_rfl) (by kernel_rfl) (fun _ _ _ h => h) (Or.inl ⟨by rfl, fun w hS => ?_⟩) HS.out ?_
  · (go_simp)
  simp only [Act.put, List.setIfInBounds_toArray, List.set_cons_zero, List.set_cons_succ]
  refine heldTake 3 (some 5) (.map (some bt)) rfl rfl (by kernel_rfl) (by kernel_rfl) (by kernel_rfl) (fun _ _ _ h => h) (Or.inl ⟨by rfl, fun w hS => ?_⟩) HS.out ?_
  · (have p8 : _ = some (Value.map (some bt)) := cell_of_row w t 8 _ _ (0, 0) hS; clear hS; go_simp)
  simp only [Act.put, List.setIfInBounds_toArray, List.set_cons_zero, List.set_cons_succ]
  refine heldTake 4 (some 6) (.pointer (some ⟨t, 0, none⟩)) rfl rfl (by kernel_rfl) (by kernel_rfl) (by kernel_rfl) (fun _ _ _ h => h) (Or.inl ⟨by rfl, fun w hS => ?_⟩) HS.out ?_
  · (go_simp)
  simp only [Act.put, List.setIfInBounds_toArray, List.set_cons_zero, List.set_cons_succ]
  refine heldTake 5 (some 7) (.pointer (some ⟨t, 0, none⟩)) rfl rfl (by kernel_rfl) (by kernel_rfl) (by kernel_rfl) (fun _ _ _ h => h) (Or.inl ⟨by rfl, fun w hS => ?_⟩) HS.out ?_
  · (go_simp)
  simp only [Act.put, List.setIfInBounds_toArray, List.set_cons_zero, List.set_cons_succ]
  refine heldTake 6 (some 8) (.pointer (some ⟨t, 1, none⟩)) rfl rfl (by kernel_rfl) (by kernel_rfl) (by kernel_rfl) (fun _ _ _ h => h) (Or.inl ⟨by rfl, fun w hS => ?_⟩) HS.out ?_
  · (go_simp)
  simp only [Act.put, List.setIfInBounds_toArray, List.set_cons_zero, List.set_cons_succ]
  refine heldTake 7 (some 9) (.agg #[.int .i64 (u.st.high : Int), .int .i64 (u.st.free : Int), .int .i64 (u.st.last : Int), .int .i64 (u.st.r0 : Int), .int .i64 (u.st.r1 : Int), .int .i64 (u.st.r2 : Int), .int .i64 (u.st.r3 : Int)]) rfl rfl (by kernel_rfl) (by kernel_rfl) (by kernel_rfl) (fun _ _ _ h => h) (Or.inl ⟨by rfl, fun w hS => ?_⟩) HS.out ?_
  · (have p1 : _ = some (Value.int .i64 (u.st.high : Int)) := cell_of_row w t 1 _ _ (0, 0) hS; have p2 : _ = some (Value.int .i64 (u.st.free : Int)) := cell_of_row w t 2 _ _ (0, 0) hS; have p3 : _ = some (Value.int .i64 (u.st.last : Int)) := cell_of_row w t 3 _ _ (0, 0) hS; have p4 : _ = some (Value.int .i64 (u.st.r0 : Int)) := cell_of_row w t 4 _ _ (0, 0) hS; have p5 : _ = some (Value.int .i64 (u.st.r1 : Int)) := cell_of_row w t 5 _ _ (0, 0) hS; have p6 : _ = some (Value.int .i64 (u.st.r2 : Int)) := cell_of_row w t 6 _ _ (0, 0) hS; have p7 : _ = some (Value.int .i64 (u.st.r3 : Int)) := cell_of_row w t 7 _ _ (0, 0) hS; clear hS; go_simp)
  simp only [Act.put, List.setIfInBounds_toArray, List.set_cons_zero, List.set_cons_succ]
  refine heldOne 8 (by kernel_rfl) rfl (by rfl) (fun KK hK => ?_)
  go_simp
  go_at_call 88
  refine (HSH.out w.drew).mono ?_
  rintro e w1 ⟨rfl, hB1⟩
  have hB1' := below_drew hB1
  have HS1 : Hid ((fun U : World => U.heap[t]? = some (.cells (txA A.x bt u) 66 (0, 0))) w1) := (HH.out.below hB1').row
  have HB1 : Hid (Below w.heap.size w w1) := hB1'
  clear hB1 hB1' HSH HS
  refine hK.out _ _ HS1.out ?_
  clear hK KK
  have HTX : Hid (Txw w1 A t bt d u) := HH.out.below HB1.out
  obtain ⟨w2, hrun, hM2, hg2⟩ := mp_put_run HTX.out.mp hl 0 (by omega) u.st.sheet
  obtain ⟨hT2, hTT⟩ := HTX.out.map hM2 hg2
  have HFN : Hid (Txw w2 A t bt d { u with m := Pd.set u.m 0 u.st.sheet } ∧ Turn (tft A t bt) (tft A t bt) w w2) := ⟨hT2, (Turn.of_below HB1.out).trans hTT⟩
  have HS2 : Hid ((fun U : World => U.heap[t]? = some (.cells (txA A.x bt u) 66 (0, 0))) w2) := hT2.row
  have hrun0 : (Instr.mapUpdate 59 (.map (some bt)) (.int .i64 0) (shV u.st.sheet)).run Tryz.prog w1 = .ok () w2 := hrun
  clear hM2 hg2 hT2 hTT HTX hrun
  refine heldOne 9 (by kernel_rfl) rfl (by rfl) (fun KK hK => ?_)
  go_simp
  refine hK.out _ _ HS2.out ?_
  clear hK KK
  refine wpAnyH_done (by kernel_rfl) ?_ _
  go_end0
  exact ⟨rfl, HFN.out⟩
end
end Go.Proofs.YtcfninpokngmlaaGreatDoor
