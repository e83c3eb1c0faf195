/- Proved: what pagedb's readState answers of the sheet of a state. -/
import Derived.Test.YtcfninpokngmlaaGreatDoorDShe
import Derived.Laws.IdiomCopy
namespace Go.Proofs.YtcfninpokngmlaaGreatDoor
open Go.RowKit
theorem zeroSt (w : World) : (zeroValue 58).run Tryz.prog w = .ok (.agg #[.int .i64 0, .int .i64 0, .int .i64 0, .int .i64 0, .int .i64 0, .int .i64 0, .int .i64 0]) w := by kernel_rfl
theorem zero7 (w : World) : (zeroValue 164).run Tryz.prog w = .ok (.agg #[.int .i64 0, .int .i64 0, .int .i64 0, .int .i64 0, .int .i64 0, .int .i64 0, .int .i64 0]) w := by kernel_rfl
theorem prefix_yes (s : ByteArray) (w : World) (h4 : 4 ≤ s.size) (hp : s.extract 0 4 = ⟨#[65, 81, 68, 66]⟩) :
    Calls Tryz.prog 118 #[.string s, .string ⟨#[65, 81, 68, 66]⟩] w fun e w' => e = .returned (.bool true) ∧ w' = w := by
  have h1 : (4 : Int) ≤ (s.size : Int) := by omega
  have hb : ((s.extract 0 4).toList == [65, 81, 68, 66]) = true := by
    have h2 := toList_beq hp
    rw [ByteArray.toList_eq ⟨#[65, 81, 68, 66]⟩] at h2
    exact h2
  clear hp
  go_enter Tryz.func118, Tryz.ntmps118
  go_wp2
  go_ret
  exact ⟨rfl, rfl⟩
theorem text_mark (t : Pd.Stt) : t.text.extract 0 4 = ⟨#[65, 81, 68, 66]⟩ := by
  unfold Pd.Stt.text
  simp only [Pd.app_assoc]
  exact Pd.ext_left rfl
theorem text_num (t : Pd.Stt) (i a : Nat) (hi : i < 7) (ha : [t.high, t.free, t.last, t.r0, t.r1, t.r2, t.r3].getD i 0 = a) (h : a < 4294967296) (W : World) : Calls Tryz.prog 102 #[.string (t.text.extract (4 + 4 * i) 32)] W fun e w' => e = .returned (.int .i64 (a : Int)) ∧ w' = W := by
  have h1 := dnumber_any (t.text.extract (4 + 4 * i) 32) W (by rw [Pg.ext_size _ _ _ (by rw [Pd.Stt.text_size]; exact Nat.le_refl _)]; omega)
  have h2 : Pd.numb (t.text.extract (4 + 4 * i) 32) = a := by
    unfold Pd.numb
    rw [Pd.sheet_numb t i hi, ha, Wl.getL_putL 4 a h]
  rw [h2] at h1
  exact h1
theorem row_set7 {w : World} {g t : Nat} {cs ds : Array Value} (h : w.heap[g]? = some (.cells cs t (0, 0))) (i : Nat) (v : Value) (e : cs.setIfInBounds i v = ds) : (w.setCell ⟨g, i, none⟩ v).heap[g]? = some (.cells ds t (0, 0)) := by
  rw [heap_setCell_same w g i _ _ _ h, e]
theorem chg7 (w : World) (g : Nat) (x0 x1 x2 x3 x4 x5 x6 : Value) : Chg [g] w (((((((w.setCell ⟨g, 0, none⟩ x0).setCell ⟨g, 1, none⟩ x1).setCell ⟨g, 2, none⟩ x2).setCell ⟨g, 3, none⟩ x3).setCell ⟨g, 4, none⟩ x4).setCell ⟨g, 5, none⟩ x5).setCell ⟨g, 6, none⟩ x6) := ((((((Chg.setCell _ g 0 _).trans (Chg.setCell _ g 1 _)).trans (Chg.setCell _ g 2 _)).trans (Chg.setCell _ g 3 _)).trans (Chg.setCell _ g 4 _)).trans (Chg.setCell _ g 5 _)).trans (Chg.setCell _ g 6 _)
theorem row7n {w : World} {g t : Nat} {a0 a1 a2 a3 a4 a5 a6 : Value} (h : w.heap[g]? = some (.cells #[a0, a1, a2, a3, a4, a5, a6] t (0, 0))) (x0 x1 x2 x3 x4 x5 x6 : Value) : (((((((w.setCell ⟨g, 0, none⟩ x0).setCell ⟨g, 1, none⟩ x1).setCell ⟨g, 2, none⟩ x2).setCell ⟨g, 3, none⟩ x3).setCell ⟨g, 4, none⟩ x4).setCell ⟨g, 5, none⟩ x5).setCell ⟨g, 6, none⟩ x6).heap[g]? = some (.cells #[x0, x1, x2, x3, x4, x5, x6] t (0, 0)) := by
  have := row7 h x0 x1 x2 x3 x4 x5 x6
  simpa only [World.setCells, Nat.zero_add, Nat.reduceAdd] using this
set_option maxHeartbeats 8000000 in
set_option maxRecDepth 20000 in
theorem rstate_any (t : Pd.Stt) (cnt : Nat) (w : World) (h : t.Small cnt) (hc : cnt ≤ 1000) :
    Calls Tryz.prog 84 #[shV t.sheet, .int .i64 (cnt : Int)] w fun e w' => e = .returned (.tuple #[stV t, .bool true]) ∧ Below w.heap.size w w' := by
  have HS : Hid (∀ W, Calls Tryz.prog 87 #[stV t, .int .i64 (cnt : Int)] W fun e w' => e = .returned (.bool true) ∧ Below W.heap.size W w') := fun W => sound_yes t cnt W h
  have hsz := t.text_size
  have HP : Hid (∀ W, Calls Tryz.prog 118 #[.string t.text, .string ⟨#[65, 81, 68, 66]⟩] W fun e w' => e = .returned (.bool true) ∧ w' = W) := fun W => prefix_yes t.text W (by omega) (text_mark t)
  have N0 : Hid (∀ W, Calls Tryz.prog 102 #[.string (t.text.extract 4 32)] W fun e w' => e = .returned (.int .i64 (t.high : Int)) ∧ w' = W) := fun W => text_num t 0 t.high (by omega) rfl (by have := h.high; have := h.free; have := h.last; have := h.r0; have := h.r1; have := h.r2; have := h.r3; omega) W
  have N1 : Hid (∀ W, Calls Tryz.prog 102 #[.string (t.text.extract 8 32)] W fun e w' => e = .returned (.int .i64 (t.free : Int)) ∧ w' = W) := fun W => text_num t 1 t.free (by omega) rfl (by have := h.high; have := h.free; have := h.last; have := h.r0; have := h.r1; have := h.r2; have := h.r3; omega) W
  have N2 : Hid (∀ W, Calls Tryz.prog 102 #[.string (t.text.extract 12 32)] W fun e w' => e = .returned (.int .i64 (t.last : Int)) ∧ w' = W) := fun W => text_num t 2 t.last (by omega) rfl (by have := h.high; have := h.free; have := h.last; have := h.r0; have := h.r1; have := h.r2; have := h.r3; omega) W
  have N3 : Hid (∀ W, Calls Tryz.prog 102 #[.string (t.text.extract 16 32)] W fun e w' => e = .returned (.int .i64 (t.r0 : Int)) ∧ w' = W) := fun W => text_num t 3 t.r0 (by omega) rfl (by have := h.high; have := h.free; have := h.last; have := h.r0; have := h.r1; have := h.r2; have := h.r3; omega) W
  have N4 : Hid (∀ W, Calls Tryz.prog 102 #[.string (t.text.extract 20 32)] W fun e w' => e = .returned (.int .i64 (t.r1 : Int)) ∧ w' = W) := fun W => text_num t 4 t.r1 (by omega) rfl (by have := h.high; have := h.free; have := h.last; have := h.r0; have := h.r1; have := h.r2; have := h.r3; omega) W
  have N5 : Hid (∀ W, Calls Tryz.prog 102 #[.string (t.text.extract 24 32)] W fun e w' => e = .returned (.int .i64 (t.r2 : Int)) ∧ w' = W) := fun W => text_num t 5 t.r2 (by omega) rfl (by have := h.high; have := h.free; have := h.last; have := h.r0; have := h.r1; have := h.r2; have := h.r3; omega) W
  have N6 : Hid (∀ W, Calls Tryz.prog 102 #[.string (t.text.extract 28 32)] W fun e w' => e = .returned (.int .i64 (t.r3 : Int)) ∧ w' = W) := fun W => text_num t 6 t.r3 (by omega) rfl (by have := h.high; have := h.free; have := h.last; have := h.r0; have := h.r1; have := h.r2; have := h.r3; omega) W
  have HE : Hid (stV t = .agg #[.int .i64 (t.high : Int), .int .i64 (t.free : Int), .int .i64 (t.last : Int), .int .i64 (t.r0 : Int), .int .i64 (t.r1 : Int), .int .i64 (t.r2 : Int), .int .i64 (t.r3 : Int)]) := rfl
  rw [HE.out] at HS ⊢
  show Calls Tryz.prog 84 #[.agg #[.int .i64 1, .string t.text], .int .i64 (cnt : Int)] w _
  clear h HE
  generalize t.text = x at *
  generalize t.high = a0 at *
  generalize t.free = a1 at *
  generalize t.last = a2 at *
  generalize t.r0 = a3 at *
  generalize t.r1 = a4 at *
  generalize t.r2 = a5 at *
  generalize t.r3 = a6 at *
  clear t
  have hz := zeroSt
  have hz7 := zero7
  have HRA : Hid ((w.alloc (.cells #[.int .i64 1, .string x] 102)).heap[w.heap.size]? = some (.cells #[.int .i64 1, .string x] 102 (0, 0))) := heap_alloc_new w _
  have HBA : Hid (Below w.heap.size w (w.alloc (.cells #[.int .i64 1, .string x] 102))) := (Below.refl _ _).alloc (Nat.le_refl _) _
  have hs1 : (w.alloc (.cells #[.int .i64 1, .string x] 102)).heap.size = w.heap.size + 1 := by simp
  have xs : (x.size : Int) = 32 := by omega
  go_enter Tryz.func84, Tryz.ntmps84
  go_wp2_with fail
  generalize hwa : World.alloc w _ = wa at *
  clear hwa
  have HRB : Hid ((wa.alloc (.cells #[.int .i64 0, .int .i64 0, .int .i64 0, .int .i64 0, .int .i64 0, .int .i64 0, .int .i64 0] 58)).heap[w.heap.size + 1]? = some (.cells #[.int .i64 0, .int .i64 0, .int .i64 0, .int .i64 0, .int .i64 0, .int .i64 0, .int .i64 0] 58 (0, 0))) := by
    have := heap_alloc_new wa (.cells #[.int .i64 0, .int .i64 0, .int .i64 0, .int .i64 0, .int .i64 0, .int .i64 0, .int .i64 0] 58)
    rw [hs1] at this
    exact this
  have HRA1 : Hid ((wa.alloc (.cells #[.int .i64 0, .int .i64 0, .int .i64 0, .int .i64 0, .int .i64 0, .int .i64 0, .int .i64 0] 58)).heap[w.heap.size]? = some (.cells #[.int .i64 1, .string x] 102 (0, 0))) := (heap_alloc_old wa _ (by rw [hs1]; omega)).trans HRA.out
  have HBB : Hid (Below w.heap.size w (wa.alloc (.cells #[.int .i64 0, .int .i64 0, .int .i64 0, .int .i64 0, .int .i64 0, .int .i64 0, .int .i64 0] 58))) := HBA.out.alloc (by rw [hs1]; omega) _
  have hs2 : (wa.alloc (.cells #[.int .i64 0, .int .i64 0, .int .i64 0, .int .i64 0, .int .i64 0, .int .i64 0, .int .i64 0] 58)).heap.size = w.heap.size + 2 := by simp [hs1]
  clear hs1 HRA HBA
  generalize hwb : World.alloc wa _ = wb at *
  clear hwb
  refine (HP.out _).mono ?_
  rintro e wS ⟨rfl, hwS⟩
  rw [hwS]
  clear hwS wS HP
  go_wp2_with fail
  have HRC : Hid ((wb.alloc (.cells #[.int .i64 0, .int .i64 0, .int .i64 0, .int .i64 0, .int .i64 0, .int .i64 0, .int .i64 0] 164)).heap[w.heap.size + 2]? = some (.cells #[.int .i64 0, .int .i64 0, .int .i64 0, .int .i64 0, .int .i64 0, .int .i64 0, .int .i64 0] 164 (0, 0))) := by
    have := heap_alloc_new wb (.cells #[.int .i64 0, .int .i64 0, .int .i64 0, .int .i64 0, .int .i64 0, .int .i64 0, .int .i64 0] 164)
    rw [hs2] at this
    exact this
  have HRA2 : Hid ((wb.alloc (.cells #[.int .i64 0, .int .i64 0, .int .i64 0, .int .i64 0, .int .i64 0, .int .i64 0, .int .i64 0] 164)).heap[w.heap.size]? = some (.cells #[.int .i64 1, .string x] 102 (0, 0))) := (heap_alloc_old wb _ (by rw [hs2]; omega)).trans HRA1.out
  have HRB2 : Hid ((wb.alloc (.cells #[.int .i64 0, .int .i64 0, .int .i64 0, .int .i64 0, .int .i64 0, .int .i64 0, .int .i64 0] 164)).heap[w.heap.size + 1]? = some (.cells #[.int .i64 0, .int .i64 0, .int .i64 0, .int .i64 0, .int .i64 0, .int .i64 0, .int .i64 0] 58 (0, 0))) := (heap_alloc_old wb _ (by rw [hs2]; omega)).trans HRB.out
  have HBC : Hid (Below w.heap.size w (wb.alloc (.cells #[.int .i64 0, .int .i64 0, .int .i64 0, .int .i64 0, .int .i64 0, .int .i64 0, .int .i64 0] 164))) := HBB.out.alloc (by rw [hs2]; omega) _
  have hs3 : (wb.alloc (.cells #[.int .i64 0, .int .i64 0, .int .i64 0, .int .i64 0, .int .i64 0, .int .i64 0, .int .i64 0] 164)).heap.size = w.heap.size + 3 := by simp [hs2]
  clear hs2 HRA1 HRB HBB hz7
  generalize hwc : World.alloc wb _ = wc0 at *
  clear hwc
  refine wp_loop_rounds 8 ?_
  rw [rounds_succ]
  have q0 : wc0.cell? ⟨w.heap.size, 1, none⟩ = some (.string x) := cell_of_row _ _ _ _ _ (0, 0) HRA2.out
  go_wp2_with fail
  refine (N0.out _).mono ?_
  rintro e wS ⟨rfl, hwS⟩
  rw [hwS]
  clear hwS wS q0 N0
  have f0 := frozen_of_row wc0 (w.heap.size + 2) 0 _ _ HRC.out
  have g0 : wc0.cell? ⟨w.heap.size + 2, 0, none⟩ = some (.int .i64 0) := cell_of_row _ _ _ _ _ (0, 0) HRC.out
  go_wp2_with fail
  have HRC1 : Hid ((wc0.setCell ⟨w.heap.size + 2, 0, none⟩ (.int .i64 (a0 : Int))).heap[w.heap.size + 2]? = some (.cells #[.int .i64 (a0 : Int), .int .i64 0, .int .i64 0, .int .i64 0, .int .i64 0, .int .i64 0, .int .i64 0] 164 (0, 0))) := row_set7 HRC.out 0 _ rfl
  have HRA3 : Hid ((wc0.setCell ⟨w.heap.size + 2, 0, none⟩ (.int .i64 (a0 : Int))).heap[w.heap.size]? = some (.cells #[.int .i64 1, .string x] 102 (0, 0))) := (heap_setCell_other _ _ _ _ (by simp)).trans HRA2.out
  have HRB3 : Hid ((wc0.setCell ⟨w.heap.size + 2, 0, none⟩ (.int .i64 (a0 : Int))).heap[w.heap.size + 1]? = some (.cells #[.int .i64 0, .int .i64 0, .int .i64 0, .int .i64 0, .int .i64 0, .int .i64 0, .int .i64 0] 58 (0, 0))) := (heap_setCell_other _ _ _ _ (by simp)).trans HRB2.out
  have HBC1 : Hid (Below w.heap.size w (wc0.setCell ⟨w.heap.size + 2, 0, none⟩ (.int .i64 (a0 : Int)))) := HBC.out.setCell (by simp) _
  have ht0 : (wc0.setCell ⟨w.heap.size + 2, 0, none⟩ (.int .i64 (a0 : Int))).heap.size = w.heap.size + 3 := by simp [World.setCell, hs3]
  clear f0 g0 HRC HRA2 HRB2 HBC hs3
  generalize hw : World.setCell _ _ _ = wc1 at *
  clear hw
  rw [rounds_succ]
  have q1 : wc1.cell? ⟨w.heap.size, 1, none⟩ = some (.string x) := cell_of_row _ _ _ _ _ (0, 0) HRA3.out
  go_wp2_with fail
  refine (N1.out _).mono ?_
  rintro e wS ⟨rfl, hwS⟩
  rw [hwS]
  clear hwS wS q1 N1
  have f1 := frozen_of_row wc1 (w.heap.size + 2) 1 _ _ HRC1.out
  have g1 : wc1.cell? ⟨w.heap.size + 2, 1, none⟩ = some (.int .i64 0) := cell_of_row _ _ _ _ _ (0, 0) HRC1.out
  go_wp2_with fail
  have HRC2 : Hid ((wc1.setCell ⟨w.heap.size + 2, 1, none⟩ (.int .i64 (a1 : Int))).heap[w.heap.size + 2]? = some (.cells #[.int .i64 (a0 : Int), .int .i64 (a1 : Int), .int .i64 0, .int .i64 0, .int .i64 0, .int .i64 0, .int .i64 0] 164 (0, 0))) := row_set7 HRC1.out 1 _ rfl
  have HRA4 : Hid ((wc1.setCell ⟨w.heap.size + 2, 1, none⟩ (.int .i64 (a1 : Int))).heap[w.heap.size]? = some (.cells #[.int .i64 1, .string x] 102 (0, 0))) := (heap_setCell_other _ _ _ _ (by simp)).trans HRA3.out
  have HRB4 : Hid ((wc1.setCell ⟨w.heap.size + 2, 1, none⟩ (.int .i64 (a1 : Int))).heap[w.heap.size + 1]? = some (.cells #[.int .i64 0, .int .i64 0, .int .i64 0, .int .i64 0, .int .i64 0, .int .i64 0, .int .i64 0] 58 (0, 0))) := (heap_setCell_other _ _ _ _ (by simp)).trans HRB3.out
  have HBC2 : Hid (Below w.heap.size w (wc1.setCell ⟨w.heap.size + 2, 1, none⟩ (.int .i64 (a1 : Int)))) := HBC1.out.setCell (by simp) _
  have ht1 : (wc1.setCell ⟨w.heap.size + 2, 1, none⟩ (.int .i64 (a1 : Int))).heap.size = w.heap.size + 3 := by simp [World.setCell, ht0]
  clear f1 g1 HRC1 HRA3 HRB3 HBC1 ht0
  generalize hw : World.setCell _ _ _ = wc2 at *
  clear hw
  rw [rounds_succ]
  have q2 : wc2.cell? ⟨w.heap.size, 1, none⟩ = some (.string x) := cell_of_row _ _ _ _ _ (0, 0) HRA4.out
  go_wp2_with fail
  refine (N2.out _).mono ?_
  rintro e wS ⟨rfl, hwS⟩
  rw [hwS]
  clear hwS wS q2 N2
  have f2 := frozen_of_row wc2 (w.heap.size + 2) 2 _ _ HRC2.out
  have g2 : wc2.cell? ⟨w.heap.size + 2, 2, none⟩ = some (.int .i64 0) := cell_of_row _ _ _ _ _ (0, 0) HRC2.out
  go_wp2_with fail
  have HRC3 : Hid ((wc2.setCell ⟨w.heap.size + 2, 2, none⟩ (.int .i64 (a2 : Int))).heap[w.heap.size + 2]? = some (.cells #[.int .i64 (a0 : Int), .int .i64 (a1 : Int), .int .i64 (a2 : Int), .int .i64 0, .int .i64 0, .int .i64 0, .int .i64 0] 164 (0, 0))) := row_set7 HRC2.out 2 _ rfl
  have HRA5 : Hid ((wc2.setCell ⟨w.heap.size + 2, 2, none⟩ (.int .i64 (a2 : Int))).heap[w.heap.size]? = some (.cells #[.int .i64 1, .string x] 102 (0, 0))) := (heap_setCell_other _ _ _ _ (by simp)).trans HRA4.out
  have HRB5 : Hid ((wc2.setCell ⟨w.heap.size + 2, 2, none⟩ (.int .i64 (a2 : Int))).heap[w.heap.size + 1]? = some (.cells #[.int .i64 0, .int .i64 0, .int .i64 0, .int .i64 0, .int .i64 0, .int .i64 0, .int .i64 0] 58 (0, 0))) := (heap_setCell_other _ _ _ _ (by simp)).trans HRB4.out
  have HBC3 : Hid (Below w.heap.size w (wc2.setCell ⟨w.heap.size + 2, 2, none⟩ (.int .i64 (a2 : Int)))) := HBC2.out.setCell (by simp) _
  have ht2 : (wc2.setCell ⟨w.heap.size + 2, 2, none⟩ (.int .i64 (a2 : Int))).heap.size = w.heap.size + 3 := by simp [World.setCell, ht1]
  clear f2 g2 HRC2 HRA4 HRB4 HBC2 ht1
  generalize hw : World.setCell _ _ _ = wc3 at *
  clear hw
  rw [rounds_succ]
  have q3 : wc3.cell? ⟨w.heap.size, 1, none⟩ = some (.string x) := cell_of_row _ _ _ _ _ (0, 0) HRA5.out
  go_wp2_with fail
  refine (N3.out _).mono ?_
  rintro e wS ⟨rfl, hwS⟩
  rw [hwS]
  clear hwS wS q3 N3
  have f3 := frozen_of_row wc3 (w.heap.size + 2) 3 _ _ HRC3.out
  have g3 : wc3.cell? ⟨w.heap.size + 2, 3, none⟩ = some (.int .i64 0) := cell_of_row _ _ _ _ _ (0, 0) HRC3.out
  go_wp2_with fail
  have HRC4 : Hid ((wc3.setCell ⟨w.heap.size + 2, 3, none⟩ (.int .i64 (a3 : Int))).heap[w.heap.size + 2]? = some (.cells #[.int .i64 (a0 : Int), .int .i64 (a1 : Int), .int .i64 (a2 : Int), .int .i64 (a3 : Int), .int .i64 0, .int .i64 0, .int .i64 0] 164 (0, 0))) := row_set7 HRC3.out 3 _ rfl
  have HRA6 : Hid ((wc3.setCell ⟨w.heap.size + 2, 3, none⟩ (.int .i64 (a3 : Int))).heap[w.heap.size]? = some (.cells #[.int .i64 1, .string x] 102 (0, 0))) := (heap_setCell_other _ _ _ _ (by simp)).trans HRA5.out
  have HRB6 : Hid ((wc3.setCell ⟨w.heap.size + 2, 3, none⟩ (.int .i64 (a3 : Int))).heap[w.heap.size + 1]? = some (.cells #[.int .i64 0, .int .i64 0, .int .i64 0, .int .i64 0, .int .i64 0, .int .i64 0, .int .i64 0] 58 (0, 0))) := (heap_setCell_other _ _ _ _ (by simp)).trans HRB5.out
  have HBC4 : Hid (Below w.heap.size w (wc3.setCell ⟨w.heap.size + 2, 3, none⟩ (.int .i64 (a3 : Int)))) := HBC3.out.setCell (by simp) _
  have ht3 : (wc3.setCell ⟨w.heap.size + 2, 3, none⟩ (.int .i64 (a3 : Int))).heap.size = w.heap.size + 3 := by simp [World.setCell, ht2]
  clear f3 g3 HRC3 HRA5 HRB5 HBC3 ht2
  generalize hw : World.setCell _ _ _ = wc4 at *
  clear hw
  rw [rounds_succ]
  have q4 : wc4.cell? ⟨w.heap.size, 1, none⟩ = some (.string x) := cell_of_row _ _ _ _ _ (0, 0) HRA6.out
  go_wp2_with fail
  refine (N4.out _).mono ?_
  rintro e wS ⟨rfl, hwS⟩
  rw [hwS]
  clear hwS wS q4 N4
  have f4 := frozen_of_row wc4 (w.heap.size + 2) 4 _ _ HRC4.out
  have g4 : wc4.cell? ⟨w.heap.size + 2, 4, none⟩ = some (.int .i64 0) := cell_of_row _ _ _ _ _ (0, 0) HRC4.out
  go_wp2_with fail
  have HRC5 : Hid ((wc4.setCell ⟨w.heap.size + 2, 4, none⟩ (.int .i64 (a4 : Int))).heap[w.heap.size + 2]? = some (.cells #[.int .i64 (a0 : Int), .int .i64 (a1 : Int), .int .i64 (a2 : Int), .int .i64 (a3 : Int), .int .i64 (a4 : Int), .int .i64 0, .int .i64 0] 164 (0, 0))) := row_set7 HRC4.out 4 _ rfl
  have HRA7 : Hid ((wc4.setCell ⟨w.heap.size + 2, 4, none⟩ (.int .i64 (a4 : Int))).heap[w.heap.size]? = some (.cells #[.int .i64 1, .string x] 102 (0, 0))) := (heap_setCell_other _ _ _ _ (by simp)).trans HRA6.out
  have HRB7 : Hid ((wc4.setCell ⟨w.heap.size + 2, 4, none⟩ (.int .i64 (a4 : Int))).heap[w.heap.size + 1]? = some (.cells #[.int .i64 0, .int .i64 0, .int .i64 0, .int .i64 0, .int .i64 0, .int .i64 0, .int .i64 0] 58 (0, 0))) := (heap_setCell_other _ _ _ _ (by simp)).trans HRB6.out
  have HBC5 : Hid (Below w.heap.size w (wc4.setCell ⟨w.heap.size + 2, 4, none⟩ (.int .i64 (a4 : Int)))) := HBC4.out.setCell (by simp) _
  have ht4 : (wc4.setCell ⟨w.heap.size + 2, 4, none⟩ (.int .i64 (a4 : Int))).heap.size = w.heap.size + 3 := by simp [World.setCell, ht3]
  clear f4 g4 HRC4 HRA6 HRB6 HBC4 ht3
  generalize hw : World.setCell _ _ _ = wc5 at *
  clear hw
  rw [rounds_succ]
  have q5 : wc5.cell? ⟨w.heap.size, 1, none⟩ = some (.string x) := cell_of_row _ _ _ _ _ (0, 0) HRA7.out
  go_wp2_with fail
  refine (N5.out _).mono ?_
  rintro e wS ⟨rfl, hwS⟩
  rw [hwS]
  clear hwS wS q5 N5
  have f5 := frozen_of_row wc5 (w.heap.size + 2) 5 _ _ HRC5.out
  have g5 : wc5.cell? ⟨w.heap.size + 2, 5, none⟩ = some (.int .i64 0) := cell_of_row _ _ _ _ _ (0, 0) HRC5.out
  go_wp2_with fail
  have HRC6 : Hid ((wc5.setCell ⟨w.heap.size + 2, 5, none⟩ (.int .i64 (a5 : Int))).heap[w.heap.size + 2]? = some (.cells #[.int .i64 (a0 : Int), .int .i64 (a1 : Int), .int .i64 (a2 : Int), .int .i64 (a3 : Int), .int .i64 (a4 : Int), .int .i64 (a5 : Int), .int .i64 0] 164 (0, 0))) := row_set7 HRC5.out 5 _ rfl
  have HRA8 : Hid ((wc5.setCell ⟨w.heap.size + 2, 5, none⟩ (.int .i64 (a5 : Int))).heap[w.heap.size]? = some (.cells #[.int .i64 1, .string x] 102 (0, 0))) := (heap_setCell_other _ _ _ _ (by simp)).trans HRA7.out
  have HRB8 : Hid ((wc5.setCell ⟨w.heap.size + 2, 5, none⟩ (.int .i64 (a5 : Int))).heap[w.heap.size + 1]? = some (.cells #[.int .i64 0, .int .i64 0, .int .i64 0, .int .i64 0, .int .i64 0, .int .i64 0, .int .i64 0] 58 (0, 0))) := (heap_setCell_other _ _ _ _ (by simp)).trans HRB7.out
  have HBC6 : Hid (Below w.heap.size w (wc5.setCell ⟨w.heap.size + 2, 5, none⟩ (.int .i64 (a5 : Int)))) := HBC5.out.setCell (by simp) _
  have ht5 : (wc5.setCell ⟨w.heap.size + 2, 5, none⟩ (.int .i64 (a5 : Int))).heap.size = w.heap.size + 3 := by simp [World.setCell, ht4]
  clear f5 g5 HRC5 HRA7 HRB7 HBC5 ht4
  generalize hw : World.setCell _ _ _ = wc6 at *
  clear hw
  rw [rounds_succ]
  have q6 : wc6.cell? ⟨w.heap.size, 1, none⟩ = some (.string x) := cell_of_row _ _ _ _ _ (0, 0) HRA8.out
  go_wp2_with fail
  refine (N6.out _).mono ?_
  rintro e wS ⟨rfl, hwS⟩
  rw [hwS]
  clear hwS wS q6 N6
  have f6 := frozen_of_row wc6 (w.heap.size + 2) 6 _ _ HRC6.out
  have g6 : wc6.cell? ⟨w.heap.size + 2, 6, none⟩ = some (.int .i64 0) := cell_of_row _ _ _ _ _ (0, 0) HRC6.out
  go_wp2_with fail
  have HRC7 : Hid ((wc6.setCell ⟨w.heap.size + 2, 6, none⟩ (.int .i64 (a6 : Int))).heap[w.heap.size + 2]? = some (.cells #[.int .i64 (a0 : Int), .int .i64 (a1 : Int), .int .i64 (a2 : Int), .int .i64 (a3 : Int), .int .i64 (a4 : Int), .int .i64 (a5 : Int), .int .i64 (a6 : Int)] 164 (0, 0))) := row_set7 HRC6.out 6 _ rfl
  have HRA9 : Hid ((wc6.setCell ⟨w.heap.size + 2, 6, none⟩ (.int .i64 (a6 : Int))).heap[w.heap.size]? = some (.cells #[.int .i64 1, .string x] 102 (0, 0))) := (heap_setCell_other _ _ _ _ (by simp)).trans HRA8.out
  have HRB9 : Hid ((wc6.setCell ⟨w.heap.size + 2, 6, none⟩ (.int .i64 (a6 : Int))).heap[w.heap.size + 1]? = some (.cells #[.int .i64 0, .int .i64 0, .int .i64 0, .int .i64 0, .int .i64 0, .int .i64 0, .int .i64 0] 58 (0, 0))) := (heap_setCell_other _ _ _ _ (by simp)).trans HRB8.out
  have HBC7 : Hid (Below w.heap.size w (wc6.setCell ⟨w.heap.size + 2, 6, none⟩ (.int .i64 (a6 : Int)))) := HBC6.out.setCell (by simp) _
  have ht6 : (wc6.setCell ⟨w.heap.size + 2, 6, none⟩ (.int .i64 (a6 : Int))).heap.size = w.heap.size + 3 := by simp [World.setCell, ht5]
  clear f6 g6 HRC6 HRA8 HRB8 HBC6 ht5
  generalize hw : World.setCell _ _ _ = wc7 at *
  clear hw
  rw [rounds_succ]
  have g0 : wc7.cell? ⟨w.heap.size + 2, 0, none⟩ = some (.int .i64 (a0 : Int)) := cell_of_row _ _ _ _ _ (0, 0) HRC7.out
  have g1 : wc7.cell? ⟨w.heap.size + 2, 1, none⟩ = some (.int .i64 (a1 : Int)) := cell_of_row _ _ _ _ _ (0, 0) HRC7.out
  have g2 : wc7.cell? ⟨w.heap.size + 2, 2, none⟩ = some (.int .i64 (a2 : Int)) := cell_of_row _ _ _ _ _ (0, 0) HRC7.out
  go_wp2_with fail
  clear g0 g1 g2
  have HRD : Hid ((wc7.alloc (.cells #[.int .i64 (a0 : Int), .int .i64 (a1 : Int), .int .i64 (a2 : Int), .int .i64 0, .int .i64 0, .int .i64 0, .int .i64 0] 58)).heap[w.heap.size + 3]? = some (.cells #[.int .i64 (a0 : Int), .int .i64 (a1 : Int), .int .i64 (a2 : Int), .int .i64 0, .int .i64 0, .int .i64 0, .int .i64 0] 58 (0, 0))) := by
    have := heap_alloc_new wc7 (.cells #[.int .i64 (a0 : Int), .int .i64 (a1 : Int), .int .i64 (a2 : Int), .int .i64 0, .int .i64 0, .int .i64 0, .int .i64 0] 58)
    rw [ht6] at this
    exact this
  have HRC8 : Hid ((wc7.alloc (.cells #[.int .i64 (a0 : Int), .int .i64 (a1 : Int), .int .i64 (a2 : Int), .int .i64 0, .int .i64 0, .int .i64 0, .int .i64 0] 58)).heap[w.heap.size + 2]? = some (.cells #[.int .i64 (a0 : Int), .int .i64 (a1 : Int), .int .i64 (a2 : Int), .int .i64 (a3 : Int), .int .i64 (a4 : Int), .int .i64 (a5 : Int), .int .i64 (a6 : Int)] 164 (0, 0))) := (heap_alloc_old wc7 _ (by rw [ht6]; omega)).trans HRC7.out
  have HRB10 : Hid ((wc7.alloc (.cells #[.int .i64 (a0 : Int), .int .i64 (a1 : Int), .int .i64 (a2 : Int), .int .i64 0, .int .i64 0, .int .i64 0, .int .i64 0] 58)).heap[w.heap.size + 1]? = some (.cells #[.int .i64 0, .int .i64 0, .int .i64 0, .int .i64 0, .int .i64 0, .int .i64 0, .int .i64 0] 58 (0, 0))) := (heap_alloc_old wc7 _ (by rw [ht6]; omega)).trans HRB9.out
  have HBD : Hid (Below w.heap.size w (wc7.alloc (.cells #[.int .i64 (a0 : Int), .int .i64 (a1 : Int), .int .i64 (a2 : Int), .int .i64 0, .int .i64 0, .int .i64 0, .int .i64 0] 58))) := HBC7.out.alloc (by rw [ht6]; omega) _
  clear ht6 HRC7 HRB9 HBC7 HRA9 hz
  generalize hwd : World.alloc wc7 _ = wd at *
  clear hwd
  have hcp := run_copy_cells (P := Tryz.prog) wd.drew 37 37 3 3 (w.heap.size + 3) 3 4 4 ⟨w.heap.size + 2, 3, none⟩ 4 4 [.int .i64 (a3 : Int), .int .i64 (a4 : Int), .int .i64 (a5 : Int), .int .i64 (a6 : Int)] Tryz.underlying37 (by kernel_rfl) rfl
    (fun j v hv => by
      rcases j with _ | _ | _ | _ | j
      · cases hv; exact cell_of_row wd _ _ _ _ (0, 0) HRC8.out
      · cases hv; exact cell_of_row wd _ _ _ _ (0, 0) HRC8.out
      · cases hv; exact cell_of_row wd _ _ _ _ (0, 0) HRC8.out
      · cases hv; exact cell_of_row wd _ _ _ _ (0, 0) HRC8.out
      · cases hv)
    (fun j hj => (there_row (o := 3) (n := 4) HRD.out (by simp) j hj).1) (fun j hj => (there_row (o := 3) (n := 4) HRD.out (by simp) j hj).2) (by intro v hv; simp at hv; rcases hv with rfl | rfl | rfl | rfl <;> rfl)
  have HRE : Hid ((wd.drew.setCells (w.heap.size + 3) 3 [.int .i64 (a3 : Int), .int .i64 (a4 : Int), .int .i64 (a5 : Int), .int .i64 (a6 : Int)]).heap[w.heap.size + 3]? = some (.cells #[.int .i64 (a0 : Int), .int .i64 (a1 : Int), .int .i64 (a2 : Int), .int .i64 (a3 : Int), .int .i64 (a4 : Int), .int .i64 (a5 : Int), .int .i64 (a6 : Int)] 58 (0, 0))) := setCells_splice (w.heap.size + 3) 58 _ 3 [.int .i64 (a0 : Int), .int .i64 (a1 : Int), .int .i64 (a2 : Int), .int .i64 0, .int .i64 0, .int .i64 0, .int .i64 0] wd.drew HRD.out (by simp)
  have HRB11 : Hid ((wd.drew.setCells (w.heap.size + 3) 3 [.int .i64 (a3 : Int), .int .i64 (a4 : Int), .int .i64 (a5 : Int), .int .i64 (a6 : Int)]).heap[w.heap.size + 1]? = some (.cells #[.int .i64 0, .int .i64 0, .int .i64 0, .int .i64 0, .int .i64 0, .int .i64 0, .int .i64 0] 58 (0, 0))) := (Chg.setCells (w.heap.size + 3) _ _ wd.drew).block (w.heap.size + 1) (by have := (Array.getElem?_eq_some_iff.1 HRB10.out).1; exact this) (by simp) |>.trans HRB10.out
  have HBE : Hid (Below w.heap.size w (wd.drew.setCells (w.heap.size + 3) 3 [.int .i64 (a3 : Int), .int .i64 (a4 : Int), .int .i64 (a5 : Int), .int .i64 (a6 : Int)])) := below_setCells (by simp) _ _ _ ⟨HBD.out.os, HBD.out.tape, HBD.out.output, HBD.out.size, HBD.out.block⟩
  clear HRD HRC8 HRB10 HBD
  generalize hwe : World.setCells _ _ _ _ = we at *
  clear hwe
  refine wp_region_held_drew (S := fun _ => True) (by kernel_rfl) trivial (fun _ => ?_)
  refine heldTake 0 (some 45) (.pointer (some ⟨w.heap.size + 3, 3, none⟩)) rfl rfl (by kernel_rfl) (by kernel_rfl) (by kernel_rfl) (fun _ _ _ h => h) (Or.inl ⟨by rfl, fun w hS => ?_⟩) trivial ?_
  · (go_simp)
  simp only [Act.put, List.setIfInBounds_toArray, List.set_cons_zero, List.set_cons_succ]
  refine heldTake 1 (some 46) (.slice (some ⟨w.heap.size + 3, 3, none⟩) 4 4) rfl rfl (by kernel_rfl) (by kernel_rfl) (by kernel_rfl) (fun _ _ _ h => h) (Or.inl ⟨by rfl, fun w hS => ?_⟩) trivial ?_
  · (go_simp)
  simp only [Act.put, List.setIfInBounds_toArray, List.set_cons_zero, List.set_cons_succ]
  refine heldTake 2 (some 47) (.slice (some ⟨w.heap.size + 2, 3, none⟩) 4 4) rfl rfl (by kernel_rfl) (by kernel_rfl) (by kernel_rfl) (fun _ _ _ h => h) (Or.inl ⟨by rfl, fun w hS => ?_⟩) trivial ?_
  · (go_simp)
  simp only [Act.put, List.setIfInBounds_toArray, List.set_cons_zero, List.set_cons_succ]
  refine heldOne 3 (by kernel_rfl) rfl (by rfl) (fun KK hK => ?_)
  go_simp
  refine hK.out _ _ trivial ?_
  clear hK KK hcp
  refine wpAnyH_done (by kernel_rfl) ?_ _
  go_wp2_with fail
  have HC : Hid (∀ (U : World), U.heap[w.heap.size + 3]? = some (.cells #[.int .i64 (a0 : Int), .int .i64 (a1 : Int), .int .i64 (a2 : Int), .int .i64 (a3 : Int), .int .i64 (a4 : Int), .int .i64 (a5 : Int), .int .i64 (a6 : Int)] 58 (0, 0)) → U.cell? ⟨w.heap.size + 3, 0, none⟩ = some (.int .i64 (a0 : Int)) ∧ U.cell? ⟨w.heap.size + 3, 1, none⟩ = some (.int .i64 (a1 : Int)) ∧ U.cell? ⟨w.heap.size + 3, 2, none⟩ = some (.int .i64 (a2 : Int)) ∧ U.cell? ⟨w.heap.size + 3, 3, none⟩ = some (.int .i64 (a3 : Int)) ∧ U.cell? ⟨w.heap.size + 3, 4, none⟩ = some (.int .i64 (a4 : Int)) ∧ U.cell? ⟨w.heap.size + 3, 5, none⟩ = some (.int .i64 (a5 : Int)) ∧ U.cell? ⟨w.heap.size + 3, 6, none⟩ = some (.int .i64 (a6 : Int))) := fun U h => ⟨cell_of_row _ _ _ _ _ (0, 0) h, cell_of_row _ _ _ _ _ (0, 0) h, cell_of_row _ _ _ _ _ (0, 0) h, cell_of_row _ _ _ _ _ (0, 0) h, cell_of_row _ _ _ _ _ (0, 0) h, cell_of_row _ _ _ _ _ (0, 0) h, cell_of_row _ _ _ _ _ (0, 0) h⟩
  refine wp_region_held_drew (S := fun U => U.heap[w.heap.size + 3]? = some (.cells #[.int .i64 (a0 : Int), .int .i64 (a1 : Int), .int .i64 (a2 : Int), .int .i64 (a3 : Int), .int .i64 (a4 : Int), .int .i64 (a5 : Int), .int .i64 (a6 : Int)] 58 (0, 0))) (by kernel_rfl) HRE.out (fun _ => ?_)
  refine heldTake 0 (some 49) (.agg #[.int .i64 (a0 : Int), .int .i64 (a1 : Int), .int .i64 (a2 : Int), .int .i64 (a3 : Int), .int .i64 (a4 : Int), .int .i64 (a5 : Int), .int .i64 (a6 : Int)]) rfl rfl (by kernel_rfl) (by kernel_rfl) (by kernel_rfl) (fun _ _ _ h => h) (Or.inl ⟨by rfl, fun w hS => ?_⟩) HRE.out ?_
  · (obtain ⟨q0, q1, q2, q3, q4, q5, q6⟩ := HC.out _ hS; go_simp)
  simp only [Act.put, List.setIfInBounds_toArray, List.set_cons_zero, List.set_cons_succ]
  refine heldTake 1 (some 50) (.agg #[.int .i64 (a0 : Int), .int .i64 (a1 : Int), .int .i64 (a2 : Int), .int .i64 (a3 : Int), .int .i64 (a4 : Int), .int .i64 (a5 : Int), .int .i64 (a6 : Int)]) rfl rfl (by kernel_rfl) (by kernel_rfl) (by kernel_rfl) (fun _ _ _ h => h) (Or.inl ⟨by rfl, fun w hS => ?_⟩) HRE.out ?_
  · (obtain ⟨q0, q1, q2, q3, q4, q5, q6⟩ := HC.out _ hS; go_simp)
  simp only [Act.put, List.setIfInBounds_toArray, List.set_cons_zero, List.set_cons_succ]
  refine heldTake 2 (some 51) (.int .i64 (cnt : Int)) rfl rfl (by kernel_rfl) (by kernel_rfl) (by kernel_rfl) (fun _ _ _ h => h) (Or.inl ⟨by rfl, fun w hS => ?_⟩) HRE.out ?_
  · (go_simp)
  simp only [Act.put, List.setIfInBounds_toArray, List.set_cons_zero, List.set_cons_succ]
  refine heldOne 3 (by kernel_rfl) rfl (by rfl) (fun KK hK => ?_)
  go_simp
  go_at_call 87
  refine (HS.out _).mono ?_
  rintro e wf ⟨rfl, hBf⟩
  have HRF : Hid (wf.heap[w.heap.size + 3]? = some (.cells #[.int .i64 (a0 : Int), .int .i64 (a1 : Int), .int .i64 (a2 : Int), .int .i64 (a3 : Int), .int .i64 (a4 : Int), .int .i64 (a5 : Int), .int .i64 (a6 : Int)] 58 (0, 0))) := heap_next HRE.out (below_drew hBf)
  have HRB12 : Hid (wf.heap[w.heap.size + 1]? = some (.cells #[.int .i64 0, .int .i64 0, .int .i64 0, .int .i64 0, .int .i64 0, .int .i64 0, .int .i64 0] 58 (0, 0))) := heap_next HRB11.out (below_drew hBf)
  have HBF : Hid (Below w.heap.size w wf) := below_next HBE.out (below_drew hBf) HBE.out.size
  clear hBf HRE HRB11 HBE HS
  refine hK.out _ _ HRF.out ?_
  clear hK KK
  have f0 := frozen_of_row wf (w.heap.size + 1) 0 _ _ HRB12.out
  have f1 := frozen_of_row wf (w.heap.size + 1) 1 _ _ HRB12.out
  have f2 := frozen_of_row wf (w.heap.size + 1) 2 _ _ HRB12.out
  have f3 := frozen_of_row wf (w.heap.size + 1) 3 _ _ HRB12.out
  have f4 := frozen_of_row wf (w.heap.size + 1) 4 _ _ HRB12.out
  have f5 := frozen_of_row wf (w.heap.size + 1) 5 _ _ HRB12.out
  have f6 := frozen_of_row wf (w.heap.size + 1) 6 _ _ HRB12.out
  have g0 : wf.cell? ⟨w.heap.size + 1, 0, none⟩ = some (.int .i64 0) := cell_of_row _ _ _ _ _ (0, 0) HRB12.out
  have g1 : wf.cell? ⟨w.heap.size + 1, 1, none⟩ = some (.int .i64 0) := cell_of_row _ _ _ _ _ (0, 0) HRB12.out
  have g2 : wf.cell? ⟨w.heap.size + 1, 2, none⟩ = some (.int .i64 0) := cell_of_row _ _ _ _ _ (0, 0) HRB12.out
  have g3 : wf.cell? ⟨w.heap.size + 1, 3, none⟩ = some (.int .i64 0) := cell_of_row _ _ _ _ _ (0, 0) HRB12.out
  have g4 : wf.cell? ⟨w.heap.size + 1, 4, none⟩ = some (.int .i64 0) := cell_of_row _ _ _ _ _ (0, 0) HRB12.out
  have g5 : wf.cell? ⟨w.heap.size + 1, 5, none⟩ = some (.int .i64 0) := cell_of_row _ _ _ _ _ (0, 0) HRB12.out
  have g6 : wf.cell? ⟨w.heap.size + 1, 6, none⟩ = some (.int .i64 0) := cell_of_row _ _ _ _ _ (0, 0) HRB12.out
  refine heldOne 4 (by kernel_rfl) rfl (by rfl) (fun KK hK => ?_)
  go_simp
  have HRG : Hid ((((((((wf.setCell ⟨w.heap.size + 1, 0, none⟩ (.int .i64 (a0 : Int))).setCell ⟨w.heap.size + 1, 1, none⟩ (.int .i64 (a1 : Int))).setCell ⟨w.heap.size + 1, 2, none⟩ (.int .i64 (a2 : Int))).setCell ⟨w.heap.size + 1, 3, none⟩ (.int .i64 (a3 : Int))).setCell ⟨w.heap.size + 1, 4, none⟩ (.int .i64 (a4 : Int))).setCell ⟨w.heap.size + 1, 5, none⟩ (.int .i64 (a5 : Int))).setCell ⟨w.heap.size + 1, 6, none⟩ (.int .i64 (a6 : Int))).heap[w.heap.size + 3]? = some (.cells #[.int .i64 (a0 : Int), .int .i64 (a1 : Int), .int .i64 (a2 : Int), .int .i64 (a3 : Int), .int .i64 (a4 : Int), .int .i64 (a5 : Int), .int .i64 (a6 : Int)] 58 (0, 0))) := (chg7 wf (w.heap.size + 1) _ _ _ _ _ _ _).block (w.heap.size + 3) (Array.getElem?_eq_some_iff.1 HRF.out).1 (by simp) |>.trans HRF.out
  have HRH : Hid ((((((((wf.setCell ⟨w.heap.size + 1, 0, none⟩ (.int .i64 (a0 : Int))).setCell ⟨w.heap.size + 1, 1, none⟩ (.int .i64 (a1 : Int))).setCell ⟨w.heap.size + 1, 2, none⟩ (.int .i64 (a2 : Int))).setCell ⟨w.heap.size + 1, 3, none⟩ (.int .i64 (a3 : Int))).setCell ⟨w.heap.size + 1, 4, none⟩ (.int .i64 (a4 : Int))).setCell ⟨w.heap.size + 1, 5, none⟩ (.int .i64 (a5 : Int))).setCell ⟨w.heap.size + 1, 6, none⟩ (.int .i64 (a6 : Int))).heap[w.heap.size + 1]? = some (.cells #[.int .i64 (a0 : Int), .int .i64 (a1 : Int), .int .i64 (a2 : Int), .int .i64 (a3 : Int), .int .i64 (a4 : Int), .int .i64 (a5 : Int), .int .i64 (a6 : Int)] 58 (0, 0))) := row7n HRB12.out _ _ _ _ _ _ _
  have HBH : Hid (Below w.heap.size w (((((((wf.setCell ⟨w.heap.size + 1, 0, none⟩ (.int .i64 (a0 : Int))).setCell ⟨w.heap.size + 1, 1, none⟩ (.int .i64 (a1 : Int))).setCell ⟨w.heap.size + 1, 2, none⟩ (.int .i64 (a2 : Int))).setCell ⟨w.heap.size + 1, 3, none⟩ (.int .i64 (a3 : Int))).setCell ⟨w.heap.size + 1, 4, none⟩ (.int .i64 (a4 : Int))).setCell ⟨w.heap.size + 1, 5, none⟩ (.int .i64 (a5 : Int))).setCell ⟨w.heap.size + 1, 6, none⟩ (.int .i64 (a6 : Int)))) := (((((((HBF.out.setCell (by simp) _).setCell (by simp) _).setCell (by simp) _).setCell (by simp) _).setCell (by simp) _).setCell (by simp) _).setCell (by simp) _)
  clear f0 f1 f2 f3 f4 f5 f6 g0 g1 g2 g3 g4 g5 g6 HRF HRB12 HBF
  generalize hwg : World.setCell _ _ _ = wg at *
  clear hwg
  refine hK.out _ _ HRG.out ?_
  clear hK KK
  refine heldTake 5 (some 5) (.bool true) rfl rfl (by kernel_rfl) (by kernel_rfl) (by kernel_rfl) (fun _ _ _ h => h) (Or.inl ⟨by rfl, fun w hS => ?_⟩) HRG.out ?_
  · (go_simp)
  simp only [Act.put, List.setIfInBounds_toArray, List.set_cons_zero, List.set_cons_succ]
  refine wpAnyH_done (by kernel_rfl) ?_ _
  go_wp2
  exact bodyPost_ret (results_stb Tryz.results84 _ _ (w.heap.size + 1) 58 ⟨a0, a1, a2, a3, a4, a5, a6⟩ _ rfl rfl HRH.out) rfl ⟨rfl, HBH.out⟩
end Go.Proofs.YtcfninpokngmlaaGreatDoor
