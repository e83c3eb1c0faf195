/- Proved: what New, isMade, Len and Copy answer, and how a hash lies in memory. Condition: the table of the first words holds its eight numbers. -/
import Derived.Test.YtefpaebbendnmaaDoorKTaken
import Derived.Test.YtefpaebbendnmaaDoorKMathH
import Derived.Laws.Tables
namespace Go.Proofs.YtefpaebbendnmaaDoor.BK
open Go.RowKit
def hcells (h b : List Nat) (held len : Nat) : List Value := .bool true :: (h.map V32 ++ (b.map V8 ++ [.int .i64 (held : Nat), .int .i64 (len : Nat)]))
/- block g is a hash with these words, this block and these counts -/
structure Hash (w : World) (g : Nat) (h b : List Nat) (held len : Nat) : Prop where
  row : w.heap[g]? = some (.cells (hcells h b held len).toArray 69 (0, 0))
  wl : h.length = 8
  bl : b.length = 64
theorem Hash.cell {w : World} {g : Nat} {h b : List Nat} {held len : Nat} (H : Hash w g h b held len) (i : Nat) : w.cell? ⟨g, i, none⟩ = (hcells h b held len)[i]? := by
  rw [cell_of_row w g i _ 69 (0, 0) H.row, List.getElem?_toArray]
theorem Hash.frozen {w : World} {g : Nat} {h b : List Nat} {held len : Nat} (H : Hash w g h b held len) (i : Nat) : w.frozen? ⟨g, i, none⟩ = false := frozen_of_row w g i _ 69 H.row
theorem Hash.length {w : World} {g : Nat} {h b : List Nat} {held len : Nat} (H : Hash w g h b held len) : (hcells h b held len).length = 75 := by
  unfold hcells; simp [H.wl, H.bl]
theorem Hash.made {w : World} {g : Nat} {h b : List Nat} {held len : Nat} (H : Hash w g h b held len) : w.cell? ⟨g, 0, none⟩ = some (.bool true) := by
  rw [H.cell]; rfl
theorem Hash.heldAt {w : World} {g : Nat} {h b : List Nat} {held len : Nat} (H : Hash w g h b held len) : w.cell? ⟨g, 73, none⟩ = some (.int .i64 (held : Nat)) := by
  rw [H.cell]; unfold hcells
  rw [List.getElem?_cons_succ, List.getElem?_append_right (by simp [H.wl]), List.getElem?_append_right (by simp [H.wl, H.bl])]
  simp [H.wl, H.bl]
theorem Hash.lenAt {w : World} {g : Nat} {h b : List Nat} {held len : Nat} (H : Hash w g h b held len) : w.cell? ⟨g, 74, none⟩ = some (.int .i64 (len : Nat)) := by
  rw [H.cell]; unfold hcells
  rw [List.getElem?_cons_succ, List.getElem?_append_right (by simp [H.wl]), List.getElem?_append_right (by simp [H.wl, H.bl])]
  simp [H.wl, H.bl]
theorem Hash.words {w : World} {g : Nat} {h b : List Nat} {held len : Nat} (H : Hash w g h b held len) : w.rangeAt g 1 (h.map V32) := fun j v hv => by
  have hj : j < h.length := by simpa using (List.getElem?_eq_some_iff.1 hv).1
  rw [H.cell, Nat.add_comm]; unfold hcells
  rw [List.getElem?_cons_succ, List.getElem?_append_left (by simpa using hj)]; exact hv
theorem Hash.block {w : World} {g : Nat} {h b : List Nat} {held len : Nat} (H : Hash w g h b held len) : w.rangeAt g 9 (b.map V8) := fun j v hv => by
  have hj : j < b.length := by simpa using (List.getElem?_eq_some_iff.1 hv).1
  rw [H.cell, show 9 + j = (8 + j) + 1 by omega]; unfold hcells
  rw [List.getElem?_cons_succ, List.getElem?_append_right (by simp [H.wl]), List.length_map, H.wl, Nat.add_sub_cancel_left, List.getElem?_append_left (by simpa using hj)]; exact hv
theorem Hash.lt {w : World} {g : Nat} {h b : List Nat} {held len : Nat} (H : Hash w g h b held len) : g < w.heap.size := (Array.getElem?_eq_some_iff.1 H.row).1
theorem Hash.below {w w' : World} {g B : Nat} {h b : List Nat} {held len : Nat} (H : Hash w g h b held len) (hb : Below B w w') (hg : g < B) : Hash w' g h b held len := ⟨(hb.block g hg).trans H.row, H.wl, H.bl⟩
theorem Hash.setHeld {w : World} {g : Nat} {h b : List Nat} {held len : Nat} (H : Hash w g h b held len) (n : Nat) : Hash (w.setCell ⟨g, 73, none⟩ (.int .i64 (n : Nat))) g h b n len := by
  refine ⟨?_, H.wl, H.bl⟩
  rw [heap_setCell_same w g 73 _ 69 _ H.row, List.setIfInBounds_toArray]
  unfold hcells
  rw [List.set_cons_succ, List.set_append_right _ _ (by simp [H.wl]), List.set_append_right _ _ (by simp [H.wl, H.bl])]
  simp [H.wl, H.bl]
theorem Hash.setLen {w : World} {g : Nat} {h b : List Nat} {held len : Nat} (H : Hash w g h b held len) (n : Nat) : Hash (w.setCell ⟨g, 74, none⟩ (.int .i64 (n : Nat))) g h b held n := by
  refine ⟨?_, H.wl, H.bl⟩
  rw [heap_setCell_same w g 74 _ 69 _ H.row, List.setIfInBounds_toArray]
  unfold hcells
  rw [List.set_cons_succ, List.set_append_right _ _ (by simp [H.wl]), List.set_append_right _ _ (by simp [H.wl, H.bl])]
  simp [H.wl, H.bl]
theorem splice_words {h h' b : List Nat} (held len : Nat) (e : h'.length = h.length) : splice (hcells h b held len) 1 (h'.map V32) = hcells h' b held len := by
  unfold splice hcells
  rw [List.length_map, e, Nat.add_comm 1, List.drop_succ_cons, List.drop_left' (by simp)]
  simp
theorem splice_block {h b ds : List Nat} {o : Nat} (held len : Nat) (e : h.length = 8) (hb : b.length = 64) (ho : o + ds.length ≤ 64) : splice (hcells h b held len) (9 + o) (ds.map V8) = hcells h (Bl.over b o ds) held len := by
  unfold splice hcells Bl.over
  have e8 : (h.map V32).length = 8 := by simp [e]
  rw [show 9 + o = (8 + o) + 1 by omega, List.take_succ_cons, show 8 + o + 1 + (ds.map V8).length = (8 + (o + ds.length)) + 1 by simp; omega, List.drop_succ_cons, List.take_append, List.drop_append, e8, List.take_of_length_le (by omega), List.drop_eq_nil_of_le (by omega), Nat.add_sub_cancel_left, Nat.add_sub_cancel_left, List.nil_append, List.take_append_of_le_length (by simp; omega), List.drop_append_of_le_length (by simp; omega)]
  simp [List.map_take, List.map_drop]
theorem Hash.setWords {w : World} {g : Nat} {h h' b : List Nat} {held len : Nat} (H : Hash w g h b held len) (e : h'.length = 8) : Hash (w.setCells g 1 (h'.map V32)) g h' b held len := by
  refine ⟨?_, e, H.bl⟩
  rw [setCells_splice g 69 (h'.map V32) 1 _ w H.row (by rw [H.length]; simp [e]), splice_words held len (e.trans H.wl.symm)]
theorem Hash.setWord {w : World} {g : Nat} {h b : List Nat} {held len : Nat} (H : Hash w g h b held len) (i x : Nat) (hi : i < 8) : Hash (w.setCell ⟨g, 1 + i, none⟩ (.int .u32 (x : Nat))) g (h.set i x) b held len := by
  refine ⟨?_, by rw [List.length_set]; exact H.wl, H.bl⟩
  rw [heap_setCell_same w g (1 + i) _ 69 _ H.row, List.setIfInBounds_toArray]
  unfold hcells
  rw [Nat.add_comm 1, List.set_cons_succ, List.set_append_left _ _ (by simp [H.wl]; exact hi), List.map_set]; rfl
theorem Hash.word {w : World} {g : Nat} {h b : List Nat} {held len : Nat} (H : Hash w g h b held len) (i : Nat) (hi : i < 8) : w.cell? ⟨g, 1 + i, none⟩ = some (.int .u32 (h.getD i 0 : Nat)) := by
  refine H.words i _ ?_
  rw [List.getElem?_map, List.getElem?_eq_getElem (by rw [H.wl]; exact hi), List.getD_eq_getElem?_getD, List.getElem?_eq_getElem (by rw [H.wl]; exact hi)]; rfl
/- nothing that was there has turned but block g -/
structure Keep (g : Nat) (w w' : World) : Prop where
  os : w'.os = w.os
  tape : w'.tape = w.tape
  output : w'.output = w.output
  size : w.heap.size ≤ w'.heap.size
  block : ∀ k, k < w.heap.size → k ≠ g → w'.heap[k]? = w.heap[k]?
theorem Keep.refl (g : Nat) (w : World) : Keep g w w := ⟨rfl, rfl, rfl, Nat.le_refl _, fun _ _ _ => rfl⟩
theorem Keep.trans {g : Nat} {a b c : World} (h : Keep g a b) (k : Keep g b c) : Keep g a c := ⟨k.os.trans h.os, k.tape.trans h.tape, k.output.trans h.output, Nat.le_trans h.size k.size, fun i hi hne => (k.block i (Nat.lt_of_lt_of_le hi h.size) hne).trans (h.block i hi hne)⟩
theorem Only.keep {g : Nat} {a b : World} (h : Only g a b) : Keep g a b := ⟨h.os, h.tape, h.output, by rw [h.size]; exact Nat.le_refl _, fun k _ hne => h.block k hne⟩
theorem Keep.of_below {g : Nat} {a b : World} (h : Below a.heap.size a b) : Keep g a b := ⟨h.os, h.tape, h.output, h.size, fun k hk _ => h.block k hk⟩
theorem Keep.below {g : Nat} {a b : World} (h : Keep g a b) {B : Nat} (hB : B ≤ g) (hs : B ≤ a.heap.size) : Below B a b := ⟨h.os, h.tape, h.output, h.size, fun k hk => h.block k (by omega) (by omega)⟩
theorem Keep.drew {g : Nat} {a b : World} (h : Keep g a b) : Keep g a b.drew := ⟨h.os, h.tape, h.output, h.size, h.block⟩
set_option maxHeartbeats 400000 in
theorem made_yes (g : Nat) (w : World) (hm : w.cell? ⟨g, 0, none⟩ = some (.bool true)) :
    Calls Tryd.prog 39 #[.pointer (some ⟨g, 0, none⟩)] w fun e w' => e = .returned (.bool true) ∧ w' = w := by
  go_enter Tryd.func39, Tryd.ntmps39
  go_wp2
  go_ret
  exact ⟨rfl, rfl⟩
set_option maxHeartbeats 400000 in
theorem made_no (g : Nat) (w : World) (hm : w.cell? ⟨g, 0, none⟩ = some (.bool false)) :
    Calls Tryd.prog 39 #[.pointer (some ⟨g, 0, none⟩)] w fun e w' => e = .returned (.bool false) ∧ w' = w := by
  go_enter Tryd.func39, Tryd.ntmps39
  go_wp2
  go_ret
  exact ⟨rfl, rfl⟩
set_option maxHeartbeats 400000 in
theorem made_nil (w : World) :
    Calls Tryd.prog 39 #[.pointer none] w fun e w' => e = .returned (.bool false) ∧ w' = w := by
  go_enter Tryd.func39, Tryd.ntmps39
  go_wp2
  go_ret
  exact ⟨rfl, rfl⟩
theorem build2 {P : Program} {ops : Array Oper} {rest : List Oper} {o : Oper} {a : Act} {w : World} {Q : Exit → Act → World → Prop} (hgd : o.guard = none) (t : TypeId) (i j : Nat) (x y : Operand) (ho : o.op = .build t #[(i, x), (j, y)])
    (u v : Value) (hx : a.eval x = u) (hy : a.eval y = v) (cells : Array Value) (hb : P.built t [(i, u), (j, v)] = some cells) (h : wpList P ops Q rest (a.put o.dst (.agg cells)) w) : wpList P ops Q (o :: rest) a w := by
  have hr := run_build w t #[(i, u), (j, v)] cells hb
  refine wpList_plain hgd fun K hK => ?_
  unfold Oper.wp execOp
  simp only [ho, List.map_toArray, List.map_cons, List.map_nil, hx, hy, Sem.run_bind, hr, Result.andThen_ok, Sem.run_pure]
  exact hK _ _ h
theorem build0 {P : Program} {ops : Array Oper} {rest : List Oper} {o : Oper} {a : Act} {w : World} {Q : Exit → Act → World → Prop} (hgd : o.guard = none) (t : TypeId) (ho : o.op = .build t #[])
    (cells : Array Value) (hb : P.built t [] = some cells) (h : wpList P ops Q rest (a.put o.dst (.agg cells)) w) : wpList P ops Q (o :: rest) a w := by
  have hr := run_build w t #[] cells hb
  refine wpList_plain hgd fun K hK => ?_
  unfold Oper.wp execOp
  simp only [ho, List.map_toArray, List.map_nil, Sem.run_bind, hr, Result.andThen_ok, Sem.run_pure]
  exact hK _ _ h
theorem built_new : Tryd.prog.built 69 [(0, .bool true), (1, .agg (Bl.first.map V32).toArray)] = some (hcells Bl.first (Bl.zeros 64) 0 0).toArray := by kernel_rfl
def zhash : Array Value := (.bool false :: ((Bl.zeros 8).map V32 ++ ((Bl.zeros 64).map V8 ++ [.int .i64 0, .int .i64 0]))).toArray
theorem built_none : Tryd.prog.built 69 [] = some zhash := by kernel_rfl
theorem zero50 (W : World) : (zeroValue 69).run Tryd.prog W = .ok (.agg zhash) W := by kernel_rfl
theorem zhash_size : zhash.size = 75 := by kernel_rfl
set_option maxHeartbeats 1000000 in
set_option maxRecDepth 20000 in
theorem new_any (w : World) (hT : Tab w) :
    Calls Tryd.prog 28 #[] w fun e w' => e = .returned (.pointer (some ⟨w.heap.size, 0, none⟩)) ∧ Hash w' w.heap.size Bl.init (Bl.zeros 64) 0 0 ∧ w'.heap.size = w.heap.size + 1 ∧ Below w.heap.size w w' := by
  have HT : Hid (Tab w) := hT
  clear hT
  go_enter Tryd.func28, Tryd.ntmps28
  go_wp2_with (first | (refine wpList_load_mid rfl 66 _ rfl 0 0 rfl (Bl.first.map V32) _ HT.out.1 Tryd.underlying66 rfl (by rw [size47]; rfl) ?_) | (refine build2 rfl 69 0 1 _ _ rfl (.bool true) (.agg (Bl.first.map V32).toArray) rfl rfl _ built_new ?_))
  have H1 : Hash (w.alloc (.cells (hcells Bl.first (Bl.zeros 64) 0 0).toArray 69)) w.heap.size Bl.first (Bl.zeros 64) 0 0 := ⟨heap_alloc_new w _, rfl, by simp [Bl.zeros]⟩
  have B1 : Below w.heap.size w (w.alloc (.cells (hcells Bl.first (Bl.zeros 64) 0 0).toArray 69)) := (Below.refl _ _).alloc (Nat.le_refl _) _
  have Z1 : (w.alloc (.cells (hcells Bl.first (Bl.zeros 64) 0 0).toArray 69)).heap.size = w.heap.size + 1 := by simp
  generalize World.alloc w (.cells (hcells Bl.first (Bl.zeros 64) 0 0).toArray 69) = w1 at *
  have c1 := H1.word 0 (by omega)
  have f1 := H1.frozen 1
  have x1 : bits .xor .u32 1779033703 16842784 = 1795745351 := by kernel_rfl
  have HH1 : Hid (Hash w1 w.heap.size Bl.first (Bl.zeros 64) 0 0) := H1
  have HB1 : Hid (Below w.heap.size w w1) := B1
  have HZ1 : Hid (w1.heap.size = w.heap.size + 1) := Z1
  rw [show Bl.first.getD 0 0 = 1779033703 from rfl, show ((1779033703 : Nat) : Int) = 1779033703 from rfl, show 1 + 0 = 1 from rfl] at c1
  clear H1 B1 Z1 HT
  go_region
  go_wp2
  go_ret
  refine ⟨rfl, ?_, by simpa [World.setCell] using HZ1.out, (HB1.out.setCell (Nat.le_refl _) _).drew⟩
  have e := HH1.out.setWord 0 1795745351 (by omega)
  rw [show Bl.first.set 0 1795745351 = Bl.init from rfl] at e
  exact ⟨e.row, e.wl, e.bl⟩
theorem size50 : (Tryd.prog.info? 69).map (·.size) = some 75 := by kernel_rfl
set_option maxHeartbeats 400000 in
theorem write_nil (v : Value) (w : World) : Calls Tryd.prog 29 #[.pointer none, v] w fun e w' => e = .returned (.int .i64 1) ∧ w' = w := by
  go_enter Tryd.func29, Tryd.ntmps29
  go_wp2_with (go_at_call 39; refine (made_nil w).mono ?_; rintro e w' ⟨rfl, rfl⟩)
  go_ret
  exact ⟨rfl, rfl⟩
set_option maxHeartbeats 400000 in
theorem write_no (g : Nat) (v : Value) (w : World) (hm : w.cell? ⟨g, 0, none⟩ = some (.bool false)) : Calls Tryd.prog 29 #[.pointer (some ⟨g, 0, none⟩), v] w fun e w' => e = .returned (.int .i64 1) ∧ w' = w := by
  go_enter Tryd.func29, Tryd.ntmps29
  go_wp2_with (go_at_call 39; refine (made_no g w hm).mono ?_; rintro e w' ⟨rfl, rfl⟩)
  go_ret
  exact ⟨rfl, rfl⟩
end Go.Proofs.YtefpaebbendnmaaDoor.BK
