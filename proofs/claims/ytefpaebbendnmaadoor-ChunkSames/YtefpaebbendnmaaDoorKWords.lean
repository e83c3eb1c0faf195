/- Proved: wordsOf answers the sixteen words of a block of 64 bytes, bytesOf the 32 bytes of eight words. Conditions: bytes below 256, words below 2^32. -/
import Derived.Test.YtefpaebbendnmaaDoorKIdx
import Derived.Test.YtefpaebbendnmaaDoorKMathB
namespace Go.Proofs.YtefpaebbendnmaaDoor.BK
open Go.RowKit
theorem size64 : (Tryd.prog.info? 77).map (·.size) = some 16 := by kernel_rfl
theorem size65 : (Tryd.prog.info? 78).map (·.size) = some 16 := by kernel_rfl
theorem size47 : (Tryd.prog.info? 66).map (·.size) = some 8 := by kernel_rfl
theorem size48 : (Tryd.prog.info? 67).map (·.size) = some 64 := by kernel_rfl
theorem size24 : (Tryd.prog.info? 23).map (·.size) = some 32 := by kernel_rfl
theorem arr8_get (v : List Nat) (i : Nat) (hi : i < v.length) (hi' : i < (arr8 v).size) : (arr8 v)[i] = .int .u8 (v.getD i 0 : Nat) := Option.some.inj ((Array.getElem?_eq_getElem hi').symm.trans (arr8_at v i hi))
theorem arr_get (v : List Nat) (i : Nat) (hi : i < v.length) (hi' : i < (arr v).size) : (arr v)[i] = .int .u32 (v.getD i 0 : Nat) := Option.some.inj ((Array.getElem?_eq_getElem hi').symm.trans (arr_at v i hi))
/- block g holds just these bytes -/
def Row8 (w : World) (g t : Nat) (v : List Nat) : Prop := w.heap[g]? = some (.cells (arr8 v) t (0, 0))
theorem Row8.at {w : World} {g t : Nat} {v : List Nat} (h : Row8 w g t v) (i : Nat) (hi : i < v.length) : w.cell? ⟨g, i, none⟩ = some (.int .u8 (v.getD i 0 : Nat)) ∧ w.frozen? ⟨g, i, none⟩ = false := by
  refine ⟨?_, frozen_of_row w g i _ t h⟩
  rw [cell_of_row w g i _ t (0, 0) h, arr8_at v i hi]
theorem Row8.set {w : World} {g t : Nat} {v : List Nat} (h : Row8 w g t v) (i x : Nat) : Row8 (w.setCell ⟨g, i, none⟩ (.int .u8 (x : Nat))) g t (v.set i x) := by
  unfold Row8
  rw [heap_setCell_same w g i _ t _ h, arr8_set]
theorem store_row {P : Program} {ops : Array Oper} {rest : List Oper} {o : Oper} {a : Act} {w : World} {Q : Exit → Act → World → Prop} (hgd : o.guard = none) (hd : o.dst = none) (ty : TypeId) (x y : Operand) (ho : o.op = .store ty x y)
    (g : Nat) (cells : Array Value) (hx : a.eval x = .pointer (some ⟨g, 0, none⟩)) (hy : a.eval y = .agg cells)
    (t : TypeId) (old : Array Value) (hg : w.heap[g]? = some (.cells old t (0, 0))) (hi : (P.info? ty).map (·.size) = some cells.size)
    (hold : old.size = cells.size) (h1 : cells.all (·.oneCell') = true)
    (h : wpList P ops Q rest a (w.setRow g cells)) : wpList P ops Q (o :: rest) a w :=
  wpList_store_row hgd ty x y ho g cells hx hy t old hg hi hold h1 (by rw [hd]; exact h)
theorem below_setRow {B : Nat} {a w : World} (h : Below B a w) {g : Nat} (hg : B ≤ g) (cs : Array Value) : Below B a (w.setRow g cs) :=
  h.trans ⟨rfl, rfl, rfl, by simp, fun k hk => setRow_other w g k cs (by omega)⟩
theorem alloc3 (w : World) (o0 o1 o2 : Obj) : (((w.alloc o0).alloc o1).alloc o2).heap[w.heap.size]? = some o0 ∧ (((w.alloc o0).alloc o1).alloc o2).heap[w.heap.size + 1]? = some o1 ∧ (((w.alloc o0).alloc o1).alloc o2).heap[w.heap.size + 2]? = some o2 ∧ (((w.alloc o0).alloc o1).alloc o2).heap.size = w.heap.size + 3 ∧ Below w.heap.size w (((w.alloc o0).alloc o1).alloc o2) := by
  have e1 : (w.alloc o0).heap.size = w.heap.size + 1 := by simp
  have e2 : ((w.alloc o0).alloc o1).heap.size = w.heap.size + 2 := by simp
  refine ⟨?_, ?_, ?_, by simp, (((Below.refl _ _).alloc (Nat.le_refl _) _).alloc (by simp) _).alloc (by simp; omega) _⟩
  · rw [Below.heap_alloc _ _ _ (by omega), Below.heap_alloc _ _ _ (by omega)]; exact heap_alloc_new w _
  · rw [Below.heap_alloc _ _ _ (by omega), ← e1]; exact heap_alloc_new _ _
  · rw [← e2]; exact heap_alloc_new _ _
theorem or_shift (m x k : Nat) (hm : m < 4294967296) (hx : x < 256) : bits .or .u32 (m : Int) ((x : Int) * 2 ^ (k % 4 * 8) % 4294967296) = ((m ||| x * 2 ^ (k % 4 * 8) : Nat) : Int) := by
  have h4 : k % 4 = 0 ∨ k % 4 = 1 ∨ k % 4 = 2 ∨ k % 4 = 3 := by omega
  have hlt : x * 2 ^ (k % 4 * 8) < 4294967296 := by rcases h4 with h | h | h | h <;> rw [h] <;> simp <;> omega
  rw [show ((x : Int) * 2 ^ (k % 4 * 8) % 4294967296) = ((x * 2 ^ (k % 4 * 8) : Nat) : Int) by
    have : ((x * 2 ^ (k % 4 * 8) : Nat) : Int) = (x : Int) * 2 ^ (k % 4 * 8) := by simp
    rw [← this]; omega]
  exact u32_or_nat _ _ hm hlt
set_option maxHeartbeats 1000000 in
set_option maxRecDepth 20000 in
theorem wordsOf_any (b : List Nat) (w : World) (hb : Bl.Bytes8 64 b) :
    Calls Tryd.prog 49 #[.agg (arr8 b)] w fun e w' => e = .returned (.agg (arr (Bl.words b))) ∧ Below w.heap.size w w' := by
  have hi8 : Hid ((Tryd.prog.info? 67).map (·.size) = some (arr8 b).size) := by show _ = _; rw [size48, arr8_size, hb.1]
  have HB : Hid (Bl.Bytes8 64 b) := hb
  have hl : (arr8 b).size = 64 := by rw [arr8_size, hb.1]
  clear hb
  go_enter Tryd.func49, Tryd.ntmps49
  go_wp2_with (first | (refine wpList_load_row rfl 67 _ rfl w.heap.size rfl 67 (arr8 b) (0, 0) _ (alloc3 w _ _ _).1 Tryd.underlying67 rfl hi8.out ?_))
  go_loopw [4, 5, 7] (fun _ _ i wr => ∃ k : Nat, k ≤ 64 ∧ i = .int .i64 k ∧ Row wr (w.heap.size + 2) 77 (Bl.words (b.take k)) [] ∧ (∃ cs : Array Value, wr.heap[w.heap.size + 1]? = some (.cells cs 77 (0, 0)) ∧ cs.size = 16) ∧ Below w.heap.size w wr) (fun _ _ i _ => 64 - (intOf i).toNat)
  case atStart =>
    obtain ⟨_, h1, h2, _, hB⟩ := alloc3 w (.cells (arr8 b) 67) (.cells (arr (Bl.zeros 16)) 77) (.cells (arr (Bl.zeros 16)) 77)
    exact ⟨0, by omega, rfl, by rw [List.take_zero, Bl.words_none]; exact row_arr.2 h2, ⟨_, h1, by rw [arr_size]; rfl⟩, hB⟩
  case round =>
    obtain ⟨k, hk, rfl, hr, hres, hB⟩ := hrel
    by_cases hlt : k < 64
    · have hs : Hid (Bl.words (b.take (k + 1)) = (Bl.words (b.take k)).set (k / 4) ((Bl.words (b.take k)).getD (k / 4) 0 ||| b.getD k 0 * 2 ^ (k % 4 * 8))) := Bl.words_step HB.out k hlt
      have hW := Bl.words_words (b := b.take k) (n := (b.take k).length) ⟨rfl, fun x hx => HB.out.2 x (List.mem_of_mem_take hx)⟩
      obtain ⟨hc, hf⟩ := hr.at (k / 4) (by rw [hW.1]; omega)
      have hml := hW.at (k / 4)
      have hg := fun W : World => run_idx (P := Tryd.prog) Tryd.underlying67 Tryd.underlying5 rfl (by kernel_rfl) (arr8 b) k hlt _ (arr8_at b k (by rw [HB.out.1]; exact hlt)) W
      have hx := HB.out.at k
      have HR : Hid (Row wr (w.heap.size + 2) 77 (Bl.words (b.take k)) []) := hr
      have HL : Hid (k / 4 < (Bl.words (b.take k)).length) := by show _ < _; rw [hW.1]; omega
      clear hr hW
      generalize Bl.words (b.take k) = v at *
      generalize v.getD (k / 4) 0 = m at *
      generalize b.getD k 0 = x at *
      have ho := or_shift m x k hml hx
      have hk4 : (k : Int) / 4 < 16 := by omega
      go_wp2_with fail
      go_region
      go_wp2
      go_roundw
      case rel => exact ⟨k + 1, by omega, by go_num, by rw [hs.out]; exact (HR.out.set _ _ HL.out), ⟨_, (heap_setCell_other _ _ _ _ (by simp)).trans hres.choose_spec.1, hres.choose_spec.2⟩, (hB.setCell (by simp; omega) _).drew⟩
      case measure => (simp [intOf]) <;> omega
    · have hk8 : k = 64 := by omega
      subst hk8
      obtain ⟨cs0, hg0, hsz0⟩ := hres
      rw [List.take_of_length_le (by rw [HB.out.1]; omega)] at hr
      have hW := Bl.words_words HB.out
      have hi : Hid ((Tryd.prog.info? 77).map (·.size) = some (arr (Bl.words b)).size) := by show _ = _; rw [size64, arr_size, hW.1]
      have he : Hid (cs0.size = (arr (Bl.words b)).size) := by show _ = _; rw [hsz0, arr_size, hW.1]
      have H1 : Hid ((arr (Bl.words b)).all (·.oneCell') = true) := arr_one _
      have HG0 : Hid (wr.heap[w.heap.size + 1]? = some (.cells cs0 77 (0, 0))) := hg0
      have HG : Hid (wr.heap[w.heap.size + 2]? = some (.cells (arr (Bl.words b)) 77 (0, 0))) := row_arr.1 hr
      clear hr hW hg0 hsz0
      go_wp2_with (first | (refine wpList_load_row rfl 77 _ rfl (w.heap.size + 2) rfl 77 (arr (Bl.words b)) (0, 0) _ HG.out Tryd.underlying77 rfl hi.out ?_) | (refine store_row rfl rfl 77 _ _ rfl (w.heap.size + 1) (arr (Bl.words b)) rfl rfl 77 cs0 HG0.out hi.out he.out H1.out ?_))
      refine bodyPost_ret (v := .agg (arr (Bl.words b))) ?_ rfl ⟨rfl, below_setRow hB (by omega) _⟩
      exact results_cell_row Tryd.results49 _ _ (w.heap.size + 1) 77 _ (0, 0) _ rfl (setRow_heap _ _ cs0 _ _ _ HG0.out) Tryd.underlying77 rfl hi.out
theorem shr_byte (x i : Nat) : (x : Int) / 2 ^ (i % 4 * 8) % 256 = ((x / 2 ^ (i % 4 * 8) % 256 : Nat) : Int) := by simp
set_option maxHeartbeats 1000000 in
set_option maxRecDepth 20000 in
theorem bytesOf_any (h : List Nat) (w : World) (hh : Bl.Words 8 h) :
    Calls Tryd.prog 41 #[.agg (arr h)] w fun e w' => e = .returned (.agg (arr8 (Bl.bytes h))) ∧ Below w.heap.size w w' := by
  have HB : Hid (Bl.Words 8 h) := hh
  clear hh
  go_enter Tryd.func41, Tryd.ntmps41
  go_wp2_with fail
  go_loopw [4, 5] (fun _ i wr => ∃ k : Nat, k ≤ 32 ∧ i = .int .i64 k ∧ Row8 wr (w.heap.size + 2) 23 (Bl.part (Bl.bytes h) (Bl.zeros 32) k) ∧ Row wr w.heap.size 66 h [] ∧ (∃ cs : Array Value, wr.heap[w.heap.size + 1]? = some (.cells cs 23 (0, 0)) ∧ cs.size = 32) ∧ Below w.heap.size w wr) (fun _ i _ => 32 - (intOf i).toNat)
  case atStart =>
    obtain ⟨h0, h1, h2, _, hB⟩ := alloc3 w (.cells (arr h) 66) (.cells (arr8 (Bl.zeros 32)) 23) (.cells (arr8 (Bl.zeros 32)) 23)
    exact ⟨0, by omega, rfl, by rw [Bl.part_zero]; exact h2, row_arr.2 h0, ⟨_, h1, by rw [arr8_size]; rfl⟩, hB⟩
  case round =>
    obtain ⟨k, hk, rfl, hr, hw, hres, hB⟩ := hrel
    by_cases hlt : k < 32
    · have hs := Bl.part_set (Bl.bytes_bytes h).1 (Bl.zeros_bytes 32).1 hlt
      rw [Bl.bytes_at h k hlt] at hs
      unfold Bl.byteAt at hs
      obtain ⟨hc, hf⟩ := hr.at k (by rw [Bl.part_length (Bl.bytes_bytes h).1 (Bl.zeros_bytes 32).1 hk]; exact hlt)
      obtain ⟨hc2, _⟩ := hw.at (k / 4) (by rw [HB.out.1]; omega)
      have hx := HB.out.at (k / 4)
      have HS : Hid ((Bl.part (Bl.bytes h) (Bl.zeros 32) k).set k (h.getD (k / 4) 0 / 2 ^ (k % 4 * 8) % 256) = Bl.part (Bl.bytes h) (Bl.zeros 32) (k + 1)) := hs
      have HR : Hid (Row8 wr (w.heap.size + 2) 23 (Bl.part (Bl.bytes h) (Bl.zeros 32) k)) := hr
      have HW : Hid (Row wr w.heap.size 66 h []) := hw
      clear hs hr hw
      generalize h.getD (k / 4) 0 = x at *
      have hk4 : (k : Int) / 4 < 8 := by omega
      go_wp2
      go_roundw
      case rel =>
        rw [shr_byte x k]
        exact ⟨k + 1, by omega, by go_num, by rw [← HS.out]; exact (HR.out.set _ _), (heap_setCell_other _ _ _ _ (by simp; omega)).trans HW.out, ⟨_, (heap_setCell_other _ _ _ _ (by simp)).trans hres.choose_spec.1, hres.choose_spec.2⟩, (hB.setCell (by simp; omega) _)⟩
      case measure => (simp [intOf]) <;> omega
    · have hk8 : k = 32 := by omega
      subst hk8
      obtain ⟨cs0, hg0, hsz0⟩ := hres
      rw [Bl.part_all (Bl.bytes_bytes h).1 (Bl.zeros_bytes 32).1] at hr
      have hW := Bl.bytes_bytes h
      have hi : Hid ((Tryd.prog.info? 23).map (·.size) = some (arr8 (Bl.bytes h)).size) := by show _ = _; rw [size24, arr8_size, hW.1]
      have he : Hid (cs0.size = (arr8 (Bl.bytes h)).size) := by show _ = _; rw [hsz0, arr8_size, hW.1]
      have H1 : Hid ((arr8 (Bl.bytes h)).all (·.oneCell') = true) := arr8_one _
      have HG0 : Hid (wr.heap[w.heap.size + 1]? = some (.cells cs0 23 (0, 0))) := hg0
      have HG : Hid (wr.heap[w.heap.size + 2]? = some (.cells (arr8 (Bl.bytes h)) 23 (0, 0))) := hr
      clear hr hW hg0 hsz0
      go_wp2_with (first | (refine wpList_load_row rfl 23 _ rfl (w.heap.size + 2) rfl 23 (arr8 (Bl.bytes h)) (0, 0) _ HG.out Tryd.underlying23 rfl hi.out ?_) | (refine store_row rfl rfl 23 _ _ rfl (w.heap.size + 1) (arr8 (Bl.bytes h)) rfl rfl 23 cs0 HG0.out hi.out he.out H1.out ?_))
      refine bodyPost_ret (v := .agg (arr8 (Bl.bytes h))) ?_ rfl ⟨rfl, below_setRow hB (by omega) _⟩
      exact results_cell_row Tryd.results41 _ _ (w.heap.size + 1) 23 _ (0, 0) _ rfl (setRow_heap _ _ cs0 _ _ _ HG0.out) Tryd.underlying23 rfl hi.out
end Go.Proofs.YtefpaebbendnmaaDoor.BK
