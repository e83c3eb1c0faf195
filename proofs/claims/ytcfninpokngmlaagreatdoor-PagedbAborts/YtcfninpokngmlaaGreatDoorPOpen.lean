/- Proved: what Open tells of a disk that has a log. -/
import Derived.Test.YtcfninpokngmlaaGreatDoorPSync
namespace Go.Proofs.YtcfninpokngmlaaGreatDoor
open Go.RowKit
abbrev nil0 : Value := .slice none 0 0
def bare (l : Wl.Lg) : Wl.Lg := { l with epoch := 0, bytes := Wl.ob [], recs := [], wait := [], lost := false }
theorem Rest.of_own {w : World} {N : Nat} {v : Value} {rs : List ByteArray} (h : OwnB w N v (Wl.frames rs)) : Rest w.heap.size w v rs := by
  obtain ⟨a, c, h1, h2, h3, h4⟩ := own_range h
  rw [Wl.frames_size] at h1 h2 h4
  refine ⟨a, c, h1, h2, h3, fun h0 => ?_⟩
  obtain ⟨g, hg1, _, hg3, hg4⟩ := h4 h0
  exact ⟨g, 0, hg1, hg3, hg4⟩
theorem headOf {ks : List ByteArray} {base e n : Nat} (h : Wl.HeadIs ks base e n) (w : World) (hT : Tab w) (he : e < 18446744073709551616) (hn : n < 4294967296) :
    Calls Tryz.prog 97 #[.string (ks.getD base Sc.zero64)] w fun r w' => r = .returned (.tuple #[.int .u64 (e : Int), .int .u64 (n : Int), .bool true]) ∧ Below w.heap.size w w' := by
  rcases h with h | ⟨h, rfl, rfl⟩
  · rw [h]
    exact readHead_any e n w hT he hn
  · rw [h]
    refine (readHead_zero w).mono ?_
    rintro r w' ⟨rfl, rfl⟩
    exact ⟨rfl, Below.refl _ _⟩
set_option maxHeartbeats 8000000 in
set_option maxRecDepth 20000 in
theorem load_any (q g kg : Nat) (vp : Value) (s : Sc.St) (l : Wl.Lg) (w : World) (hrow : w.heap[q]? = some (.cells (pcells (bare l) g nil0 nil0) 116 (0, 0))) (hD : Dk w g kg vp s) (hd : s.down = false) (hT : Tab w) (h0 : q ≠ 0) (hqf : q ∉ foot g kg vp) (hok : l.Ok) (hw : l.wait = []) (hll : l.lost = false) (hfits : l.base + l.n ≤ s.kept.length) (hon : Wl.On (Wl.flat s) l.base l.n l.epoch l.bytes) :
    Calls Tryz.prog 73 #[ptr q] w fun e w' => ∃ vr, e = .returned (.int .i64 0) ∧ Pk w' q g vr nil0 l ∧ Turn [q] (pfoot q vr nil0) w w' := by
  have h2 := hok.two
  have hmost := hok.most
  have hroom := hok.room
  have hep := hok.epoch
  have HD : Hid (Dk w g kg vp s) := hD
  have HTB : Hid (Tab w) := hT
  have hpos := hT.pos
  have HON : Hid (Wl.On (Wl.flat s) l.base l.n l.epoch l.bytes) := hon
  have HOK : Hid l.Ok := hok
  have HROW : Hid (w.heap[q]? = some (.cells (pcells (bare l) g nil0 nil0) 116 (0, 0))) := hrow
  have hq : q < w.heap.size := (Array.getElem?_eq_some_iff.1 hrow).1
  have HQF : Hid (q ∉ foot g kg vp) := hqf
  have HW : Hid (l.wait = []) := hw
  have HLL : Hid (l.lost = false) := hll
  have HIS : Hid (l.bytes = Wl.frames l.recs) := hok.is.1
  have HFT : Hid (Wl.Fit l.recs) := hok.is.2
  have hbz : l.bytes.size ≤ 4194304 := by omega
  have c0 : w.cell? ⟨q, 0, none⟩ = some (ptr g) := by rw [cell_of_row _ q 0 _ _ (0, 0) hrow]; rfl
  have c1 : w.cell? ⟨q, 1, none⟩ = some (.int .i64 (l.base : Int)) := by rw [cell_of_row _ q 1 _ _ (0, 0) hrow]; rfl
  obtain ⟨e1, e2⟩ := read_up (s := s) (i := l.base) hd (by omega)
  have HR := read_any g kg vp s (l.base : Int) w.drew hD.drew
  rw [e1, e2, Wl.now_flat (by omega)] at HR
  clear hD hT hon hok hrow hqf hw hll e1 e2
  have HS : Hid ((fun U : World => U.cell? ⟨q, 0, none⟩ = some (ptr g) ∧ U.cell? ⟨q, 1, none⟩ = some (.int .i64 (l.base : Int))) w.drew) := ⟨c0, c1⟩
  go_enter Tryz.func73, Tryz.ntmps73
  go_wp2_with fail
  refine wp_region_held_drew (S := fun U => U.cell? ⟨q, 0, none⟩ = some (ptr g) ∧ U.cell? ⟨q, 1, none⟩ = some (.int .i64 (l.base : Int))) (by kernel_rfl) HS.out (fun _ => ?_)
  refine heldTake 0 (some 12) (ptr q) rfl rfl (by kernel_rfl) (by kernel_rfl) (by kernel_rfl) (fun _ _ _ h => h) (Or.inl ⟨by rfl, fun w hS => ?_⟩) HS.out ?_
  · (go_simp)
  simp only [Act.put, List.setIfInBounds_toArray, List.set_cons_zero, List.set_cons_succ]
  refine heldTake 1 (some 13) (ptr q) rfl rfl (by kernel_rfl) (by kernel_rfl) (by kernel_rfl) (fun _ _ _ h => h) (Or.inl ⟨by rfl, fun w hS => ?_⟩) HS.out ?_
  · (go_simp)
  simp only [Act.put, List.setIfInBounds_toArray, List.set_cons_zero, List.set_cons_succ]
  refine heldTake 2 (some 14) (ptr q) rfl rfl (by kernel_rfl) (by kernel_rfl) (by kernel_rfl) (fun _ _ _ h => h) (Or.inl ⟨by rfl, fun w hS => ?_⟩) HS.out ?_
  · (go_simp)
  simp only [Act.put, List.setIfInBounds_toArray, List.set_cons_zero, List.set_cons_succ]
  refine heldTake 3 (some 15) (ptr g) rfl rfl (by kernel_rfl) (by kernel_rfl) (by kernel_rfl) (fun _ _ _ h => h) (Or.inl ⟨by rfl, fun w hS => ?_⟩) HS.out ?_
  · (obtain ⟨p0, p1⟩ := hS; go_simp)
  simp only [Act.put, List.setIfInBounds_toArray, List.set_cons_zero, List.set_cons_succ]
  refine heldTake 4 (some 16) (ptr q) rfl rfl (by kernel_rfl) (by kernel_rfl) (by kernel_rfl) (fun _ _ _ h => h) (Or.inl ⟨by rfl, fun w hS => ?_⟩) HS.out ?_
  · (go_simp)
  simp only [Act.put, List.setIfInBounds_toArray, List.set_cons_zero, List.set_cons_succ]
  refine heldTake 5 (some 17) (ptr q) rfl rfl (by kernel_rfl) (by kernel_rfl) (by kernel_rfl) (fun _ _ _ h => h) (Or.inl ⟨by rfl, fun w hS => ?_⟩) HS.out ?_
  · (go_simp)
  simp only [Act.put, List.setIfInBounds_toArray, List.set_cons_zero, List.set_cons_succ]
  refine heldTake 6 (some 18) (.pointer (some ⟨q, 1, none⟩)) rfl rfl (by kernel_rfl) (by kernel_rfl) (by kernel_rfl) (fun _ _ _ h => h) (Or.inl ⟨by rfl, fun w hS => ?_⟩) HS.out ?_
  · (go_simp)
  simp only [Act.put, List.setIfInBounds_toArray, List.set_cons_zero, List.set_cons_succ]
  refine heldTake 7 (some 19) (.int .i64 (l.base : Int)) rfl rfl (by kernel_rfl) (by kernel_rfl) (by kernel_rfl) (fun _ _ _ h => h) (Or.inl ⟨by rfl, fun w hS => ?_⟩) HS.out ?_
  · (obtain ⟨p0, p1⟩ := hS; go_simp)
  simp only [Act.put, List.setIfInBounds_toArray, List.set_cons_zero, List.set_cons_succ]
  refine heldOne 8 (by kernel_rfl) rfl (by rfl) (fun KK hK => ?_)
  go_simp
  go_at_call 96
  refine HR.mono ?_
  rintro r w1 ⟨rfl, hB1⟩
  have HB1 : Hid (Below w.heap.size w w1) := (Below.refl _ w).drew.trans hB1
  have hs1 := HB1.out.size
  have HS1 : Hid ((fun U : World => U.cell? ⟨q, 0, none⟩ = some (ptr g) ∧ U.cell? ⟨q, 1, none⟩ = some (.int .i64 (l.base : Int))) w1) := ⟨(HB1.out.cell (p := ⟨q, 0, none⟩) hq).trans c0, (HB1.out.cell (p := ⟨q, 1, none⟩) hq).trans c1⟩
  have HHD := headOf HON.out.head w1 (HTB.out.below HB1.out hpos) (by omega) (by omega)
  clear hB1 HR
  refine hK.out _ _ HS1.out ?_
  clear hK KK
  generalize (Wl.flat s).getD l.base Sc.zero64 = x at *
  refine heldTake 9 (some 11) (.tuple #[.string x, .int .i64 0]) rfl rfl (by kernel_rfl) (by kernel_rfl) (by kernel_rfl) (fun _ _ _ h => h) (Or.inl ⟨by rfl, fun w hS => ?_⟩) HS1.out ?_
  · (go_simp)
  simp only [Act.put, List.setIfInBounds_toArray, List.set_cons_zero, List.set_cons_succ]
  refine heldTake 10 (some 21) (.string x) rfl rfl (by kernel_rfl) (by kernel_rfl) (by kernel_rfl) (fun _ _ _ h => h) (Or.inl ⟨by rfl, fun w hS => ?_⟩) HS1.out ?_
  · (go_simp)
  simp only [Act.put, List.setIfInBounds_toArray, List.set_cons_zero, List.set_cons_succ]
  refine heldTake 11 (some 22) (.int .i64 0) rfl rfl (by kernel_rfl) (by kernel_rfl) (by kernel_rfl) (fun _ _ _ h => h) (Or.inl ⟨by rfl, fun w hS => ?_⟩) HS1.out ?_
  · (go_simp)
  simp only [Act.put, List.setIfInBounds_toArray, List.set_cons_zero, List.set_cons_succ]
  refine heldTake 12 (some 3) (.string x) rfl rfl (by kernel_rfl) (by kernel_rfl) (by kernel_rfl) (fun _ _ _ h => h) (Or.inl ⟨by rfl, fun w hS => ?_⟩) HS1.out ?_
  · (go_simp)
  simp only [Act.put, List.setIfInBounds_toArray, List.set_cons_zero, List.set_cons_succ]
  refine heldTake 13 (some 4) (.int .i64 0) rfl rfl (by kernel_rfl) (by kernel_rfl) (by kernel_rfl) (fun _ _ _ h => h) (Or.inl ⟨by rfl, fun w hS => ?_⟩) HS1.out ?_
  · (go_simp)
  simp only [Act.put, List.setIfInBounds_toArray, List.set_cons_zero, List.set_cons_succ]
  refine wpAnyH_done (by kernel_rfl) ?_ _
  clear HS HS1 c0 c1
  go_wp2_with fail
  refine HHD.mono ?_
  rintro r w2 ⟨rfl, hB2⟩
  have HB2 : Hid (Below w.heap.size w w2) := HB1.out.trans (hB2.mono hs1)
  have hs2 := HB2.out.size
  have HROW2 : Hid (w2.heap[q]? = some (.cells (pcells (bare l) g nil0 nil0) 116 (0, 0))) := (HB2.out.block q hq).trans HROW.out
  have c2 : w2.cell? ⟨q, 2, none⟩ = some (.int .i64 (64 * ((l.n : Int) - 1))) := by rw [cell_of_row _ q 2 _ _ (0, 0) HROW2.out]; rfl
  have c3 : w2.cell? ⟨q, 3, none⟩ = some (.int .i64 0) := by rw [cell_of_row _ q 3 _ _ (0, 0) HROW2.out]; rfl
  have c4 : w2.cell? ⟨q, 4, none⟩ = some (.int .i64 0) := by rw [cell_of_row _ q 4 _ _ (0, 0) HROW2.out]; rfl
  have f3 := frozen_of_row _ q 3 _ _ HROW2.out
  have f4 := frozen_of_row _ q 4 _ _ HROW2.out
  clear hB2 HHD HB1
  have hwn : IntKind.u64.wrap (64 * ((l.n : Int) - 1)) = 64 * ((l.n : Int) - 1) := by rw [IntKind.wrap_u64]; omega
  have hg1 : decide ((4611686018427387904 : Int) < (l.epoch : Int)) = false := decide_eq_false (by omega)
  have hg2 : decide (64 * ((l.n : Int) - 1) < (l.bytes.size : Int)) = false := decide_eq_false (by omega)
  have hg1' : ¬ (4611686018427387904 : Int) < (l.epoch : Int) := by omega
  have hg2' : ¬ 64 * ((l.n : Int) - 1) < (l.bytes.size : Int) := by omega
  have he0 : (0 : Int) ≤ (l.epoch : Int) := by omega
  have hwe : IntKind.i64.wrap (l.epoch : Int) = (l.epoch : Int) := by rw [IntKind.wrap_i64]; omega
  have hwb : IntKind.i64.wrap (l.bytes.size : Int) = (l.bytes.size : Int) := by rw [IntKind.wrap_i64]; omega
  go_wp2_with fail
  have HROW3 : Hid (((w2.setCell ⟨q, 3, none⟩ (.int .i64 (l.epoch : Int))).setCell ⟨q, 4, none⟩ (.int .i64 (l.bytes.size : Int))).heap[q]? = some (.cells (pcells l g nil0 nil0) 116 (0, 0))) := by
    show _ = _
    rw [heap_setCell_same _ q 4 _ _ _ (heap_setCell_same w2 q 3 _ _ _ HROW2.out)]
    unfold pcells bare
    rw [HW.out, HLL.out]
    rfl
  have HC3 : Hid (Chg [q] w ((w2.setCell ⟨q, 3, none⟩ (.int .i64 (l.epoch : Int))).setCell ⟨q, 4, none⟩ (.int .i64 (l.bytes.size : Int)))) := ((Chg.of_below HB2.out).trans (Chg.setCell _ q 3 _)).trans (Chg.setCell _ q 4 _)
  generalize (w2.setCell ⟨q, 3, none⟩ (.int .i64 (l.epoch : Int))).setCell ⟨q, 4, none⟩ (.int .i64 (l.bytes.size : Int)) = w3 at *
  clear c2 c3 c4 f3 f4 hwn hg1 hg2 hg1' hg2' hwe hwb he0 HB2 HROW2 hs2 hs1
  have hs3 := HC3.out.size
  have HD3 : Hid (Dk w3 g kg vp s) := HD.out.keep HC3.out (fun k hk hm => HQF.out (by rw [← List.mem_singleton.1 hm]; exact hk))
  have HT3 : Hid (Tab w3) := HTB.out.of_block (HC3.out.block 0 hpos (fun hm => h0 (List.mem_singleton.1 hm).symm))
  have HSA : Hid ((fun U : World => U.cell? ⟨q, 1, none⟩ = some (.int .i64 (l.base : Int)) ∧ U.cell? ⟨q, 4, none⟩ = some (.int .i64 (l.bytes.size : Int))) w3.drew) := ⟨by show w3.cell? _ = _; rw [cell_of_row _ q 1 _ _ (0, 0) HROW3.out]; rfl, by show w3.cell? _ = _; rw [cell_of_row _ q 4 _ _ (0, 0) HROW3.out]; rfl⟩
  have HRD := lread_any q g kg vp s (l.base + 1) l.bytes.size l.bytes w3.drew (by show w3.cell? _ = _; rw [cell_of_row _ q 0 _ _ (0, 0) HROW3.out]; rfl) HD3.out.drew hd rfl (by omega) (by omega) (fun i hi => by omega) (fun i j hj hij => HON.out.tail hj hij)
  rw [show ((l.base + 1 : Nat) : Int) = (l.base : Int) + 1 by omega] at HRD
  have hb1 : l.base ≤ 65536 := by omega
  refine wp_region_held_drew (S := fun U => U.cell? ⟨q, 1, none⟩ = some (.int .i64 (l.base : Int)) ∧ U.cell? ⟨q, 4, none⟩ = some (.int .i64 (l.bytes.size : Int))) (by kernel_rfl) HSA.out (fun _ => ?_)
  refine heldTake 0 (some 58) (ptr q) rfl rfl (by kernel_rfl) (by kernel_rfl) (by kernel_rfl) (fun _ _ _ h => h) (Or.inl ⟨by rfl, fun w hS => ?_⟩) HSA.out ?_
  · (go_simp)
  simp only [Act.put, List.setIfInBounds_toArray, List.set_cons_zero, List.set_cons_succ]
  refine heldTake 1 (some 59) (ptr q) rfl rfl (by kernel_rfl) (by kernel_rfl) (by kernel_rfl) (fun _ _ _ h => h) (Or.inl ⟨by rfl, fun w hS => ?_⟩) HSA.out ?_
  · (go_simp)
  simp only [Act.put, List.setIfInBounds_toArray, List.set_cons_zero, List.set_cons_succ]
  refine heldTake 2 (some 60) (ptr q) rfl rfl (by kernel_rfl) (by kernel_rfl) (by kernel_rfl) (fun _ _ _ h => h) (Or.inl ⟨by rfl, fun w hS => ?_⟩) HSA.out ?_
  · (go_simp)
  simp only [Act.put, List.setIfInBounds_toArray, List.set_cons_zero, List.set_cons_succ]
  refine heldTake 3 (some 61) (.pointer (some ⟨q, 1, none⟩)) rfl rfl (by kernel_rfl) (by kernel_rfl) (by kernel_rfl) (fun _ _ _ h => h) (Or.inl ⟨by rfl, fun w hS => ?_⟩) HSA.out ?_
  · (go_simp)
  simp only [Act.put, List.setIfInBounds_toArray, List.set_cons_zero, List.set_cons_succ]
  refine heldTake 4 (some 62) (.int .i64 (l.base : Int)) rfl rfl (by kernel_rfl) (by kernel_rfl) (by kernel_rfl) (fun _ _ _ h => h) (Or.inl ⟨by rfl, fun w hS => ?_⟩) HSA.out ?_
  · (obtain ⟨p0, p1⟩ := hS; go_simp)
  simp only [Act.put, List.setIfInBounds_toArray, List.set_cons_zero, List.set_cons_succ]
  refine heldTake 5 (some 63) (.int .i64 ((l.base : Int) + 1)) rfl rfl (by kernel_rfl) (by kernel_rfl) (by kernel_rfl) (fun _ _ _ h => h) (Or.inl ⟨by rfl, fun w hS => ?_⟩) HSA.out ?_
  · (go_simp; rw [IntKind.wrap_i64]; omega)
  simp only [Act.put, List.setIfInBounds_toArray, List.set_cons_zero, List.set_cons_succ]
  refine heldTake 6 (some 64) (ptr q) rfl rfl (by kernel_rfl) (by kernel_rfl) (by kernel_rfl) (fun _ _ _ h => h) (Or.inl ⟨by rfl, fun w hS => ?_⟩) HSA.out ?_
  · (go_simp)
  simp only [Act.put, List.setIfInBounds_toArray, List.set_cons_zero, List.set_cons_succ]
  refine heldTake 7 (some 65) (ptr q) rfl rfl (by kernel_rfl) (by kernel_rfl) (by kernel_rfl) (fun _ _ _ h => h) (Or.inl ⟨by rfl, fun w hS => ?_⟩) HSA.out ?_
  · (go_simp)
  simp only [Act.put, List.setIfInBounds_toArray, List.set_cons_zero, List.set_cons_succ]
  refine heldTake 8 (some 66) (.pointer (some ⟨q, 4, none⟩)) rfl rfl (by kernel_rfl) (by kernel_rfl) (by kernel_rfl) (fun _ _ _ h => h) (Or.inl ⟨by rfl, fun w hS => ?_⟩) HSA.out ?_
  · (go_simp)
  simp only [Act.put, List.setIfInBounds_toArray, List.set_cons_zero, List.set_cons_succ]
  refine heldTake 9 (some 67) (.int .i64 (l.bytes.size : Int)) rfl rfl (by kernel_rfl) (by kernel_rfl) (by kernel_rfl) (fun _ _ _ h => h) (Or.inl ⟨by rfl, fun w hS => ?_⟩) HSA.out ?_
  · (obtain ⟨p0, p1⟩ := hS; go_simp)
  simp only [Act.put, List.setIfInBounds_toArray, List.set_cons_zero, List.set_cons_succ]
  refine heldOne 10 (by kernel_rfl) rfl (by rfl) (fun KK hK => ?_)
  go_simp
  go_at_call 98
  refine HRD.mono ?_
  rintro r w4 ⟨v4, rfl, hO4, hB4⟩
  have HB4 : Hid (Below w3.heap.size w3 w4) := (Below.refl _ w3).drew.trans hB4
  have hq3 : q < w3.heap.size := Nat.lt_of_lt_of_le hq hs3
  have HSB : Hid ((fun U : World => U.cell? ⟨q, 1, none⟩ = some (.int .i64 (l.base : Int)) ∧ U.cell? ⟨q, 4, none⟩ = some (.int .i64 (l.bytes.size : Int))) w4) := ⟨(HB4.out.cell (p := ⟨q, 1, none⟩) hq3).trans HSA.out.1, (HB4.out.cell (p := ⟨q, 4, none⟩) hq3).trans HSA.out.2⟩
  have HO4 : Hid (OwnB w4 w3.heap.size v4 l.bytes) := hO4
  clear hB4 hO4 HRD
  refine hK.out _ _ HSB.out ?_
  clear hK KK
  refine heldTake 11 (some 57) (.tuple #[v4, .int .i64 0]) rfl rfl (by kernel_rfl) (by kernel_rfl) (by kernel_rfl) (fun _ _ _ h => h) (Or.inl ⟨by rfl, fun w hS => ?_⟩) HSB.out ?_
  · (go_simp)
  simp only [Act.put, List.setIfInBounds_toArray, List.set_cons_zero, List.set_cons_succ]
  refine heldTake 12 (some 69) (v4) rfl rfl (by kernel_rfl) (by kernel_rfl) (by kernel_rfl) (fun _ _ _ h => h) (Or.inl ⟨by rfl, fun w hS => ?_⟩) HSB.out ?_
  · (go_simp)
  simp only [Act.put, List.setIfInBounds_toArray, List.set_cons_zero, List.set_cons_succ]
  refine heldTake 13 (some 70) (.int .i64 0) rfl rfl (by kernel_rfl) (by kernel_rfl) (by kernel_rfl) (fun _ _ _ h => h) (Or.inl ⟨by rfl, fun w hS => ?_⟩) HSB.out ?_
  · (go_simp)
  simp only [Act.put, List.setIfInBounds_toArray, List.set_cons_zero, List.set_cons_succ]
  refine heldTake 14 (some 8) (v4) rfl rfl (by kernel_rfl) (by kernel_rfl) (by kernel_rfl) (fun _ _ _ h => h) (Or.inl ⟨by rfl, fun w hS => ?_⟩) HSB.out ?_
  · (go_simp)
  simp only [Act.put, List.setIfInBounds_toArray, List.set_cons_zero, List.set_cons_succ]
  refine heldTake 15 (some 4) (.int .i64 0) rfl rfl (by kernel_rfl) (by kernel_rfl) (by kernel_rfl) (fun _ _ _ h => h) (Or.inl ⟨by rfl, fun w hS => ?_⟩) HSB.out ?_
  · (go_simp)
  simp only [Act.put, List.setIfInBounds_toArray, List.set_cons_zero, List.set_cons_succ]
  refine wpAnyH_done (by kernel_rfl) ?_ _
  clear HSA HSB
  have hs4 := HB4.out.size
  have HRF := readFrames_any v4 l.recs w4 (Rest.of_own (by rw [← HIS.out]; exact HO4.out)) (HT3.out.below HB4.out (by omega)) HFT.out (by have := congrArg ByteArray.size HIS.out; rw [Wl.frames_size] at this; omega)
  go_wp2_with fail
  refine HRF.mono ?_
  rintro r w5 ⟨u, rfl, hO5, hB5⟩
  have HB5 : Hid (Below w3.heap.size w3 w5) := HB4.out.trans (hB5.mono hs4)
  have HO5 : Hid (OwnS w5 w4.heap.size u l.recs) := hO5
  have HROW5 : Hid (w5.heap[q]? = some (.cells (pcells l g nil0 nil0) 116 (0, 0))) := (HB5.out.block q hq3).trans HROW3.out
  have c5 : w5.cell? ⟨q, 5, none⟩ = some nil0 := by rw [cell_of_row _ q 5 _ _ (0, 0) HROW5.out]; rfl
  have f5 := frozen_of_row _ q 5 _ _ HROW5.out
  have hqn : u.ownBlock ≠ some q := fun e => by have := (hO5.lt q e).1; omega
  have HFN : Hid (Pk (w5.setCell ⟨q, 5, none⟩ u) q g u nil0 l ∧ Turn [q] (pfoot q u nil0) w (w5.setCell ⟨q, 5, none⟩ u)) := by
    refine ⟨⟨?_, own_keep (own_zero HO5.out) (fun k hk => heap_setCell_other _ _ _ _ (fun e => hqn (by rw [hk, e]))), ?_, hqn, (by intro e; cases e), (by intro k _ e; cases e), HOK.out⟩, ⟨(HC3.out.trans (Chg.of_below HB5.out)).trans (Chg.setCell _ q 5 _), fun k hk => ?_⟩⟩
    · rw [heap_setCell_same _ q 5 _ _ _ HROW5.out]
      rfl
    · rw [HW.out]; exact own_nil _
    · simp only [pfoot, List.mem_cons, List.mem_append, Option.mem_toList] at hk ⊢
      rcases hk with h1 | h1 | h1
      · exact .inl (.inl h1)
      · exact .inr (by have := (HO5.out.lt k h1).1; omega)
      · cases h1
  obtain ⟨ua, uc, hu⟩ := own_slice hO5
  have HU : Hid (u = .slice ua l.recs.length uc) := hu
  clear hO5 hB5 HRF hu hqn
  rw [HU.out] at HFN
  rw [HU.out]
  go_wp2
  go_ret
  exact ⟨_, rfl, HFN.out⟩
/- the log that a disk has -/
def opened (base n e : Nat) (rs : List ByteArray) : Wl.Lg := ⟨base, n, e, Wl.frames rs, rs, [], false⟩
theorem opened_ok {ks : List ByteArray} {base n e : Nat} {rs : List ByteArray} (h : Wl.On ks base n e (Wl.frames rs)) (hf : Wl.Fit rs) (hk : ks.length ≤ 65536) : (opened base n e rs).Ok :=
  ⟨h.two, by have := h.fits; show base + n ≤ _; omega, h.most, ⟨rfl, hf⟩, (by intro r hr; cases hr), by have := h.room; show (Wl.frames rs).size + Wl.total [] ≤ 64 * (n - 1); rw [Wl.total]; omega⟩
set_option maxHeartbeats 8000000 in
set_option maxRecDepth 20000 in
theorem open_any (g kg : Nat) (vp : Value) (s : Sc.St) (base n e : Nat) (rs : List ByteArray) (w : World) (hD : Dk w g kg vp s) (hd : s.down = false) (hT : Tab w) (hf : Wl.Fit rs) (hon : Wl.On (Wl.flat s) base n e (Wl.frames rs)) :
    Calls Tryz.prog 54 #[ptr g, .int .i64 (base : Int), .int .i64 (n : Int)] w fun r w' => ∃ q vr, r = .returned (.tuple #[ptr q, .int .i64 0]) ∧ LP w' q g vr nil0 (opened base n e rs) kg vp s ∧ Below w.heap.size w w' ∧ ∀ k ∈ pfoot q vr nil0, w.heap.size ≤ k := by
  have HSZ := size_any g kg vp s w hD
  have HDN := down_any g kg vp s w hD
  rw [hd] at HDN
  have h2 := hon.two
  have hfits := hon.fits
  rw [Wl.flat_length] at hfits
  have hkl := hD.ok.most
  have HOK : Hid ((opened base n e rs).Ok) := opened_ok hon hf (by rw [Wl.flat_length]; exact hkl)
  have hpos := hT.pos
  have HD : Hid (Dk w g kg vp s) := hD
  have HTB : Hid (Tab w) := hT
  have HON : Hid (Wl.On (Wl.flat s) base n e (Wl.frames rs)) := hon
  clear hD hT hon hf
  have d0 : ((s.kept.length : Int) == 0) = false := by rw [beq_eq_false_iff_ne]; omega
  have d1 : decide ((n : Int) < 2) = false := decide_eq_false (by omega)
  have d2 : decide ((s.kept.length : Int) < (n : Int)) = false := decide_eq_false (by omega)
  have d3 : decide ((base : Int) < 0) = false := decide_eq_false (by omega)
  have d4 : decide ((s.kept.length : Int) - (n : Int) < (base : Int)) = false := decide_eq_false (by omega)
  have d1' : ¬ (n : Int) < 2 := by omega
  have d2' : ¬ (s.kept.length : Int) < (n : Int) := by omega
  have d4' : ¬ (s.kept.length : Int) - (n : Int) < (base : Int) := by omega
  have hk1 : s.kept.length ≤ 65536 := hkl
  generalize hK : s.kept.length = K at *
  go_enter Tryz.func54, Tryz.ntmps54
  go_wp2_with fail
  refine HSZ.mono ?_
  rintro r w' ⟨rfl, hw⟩
  rw [hw]
  clear hw w'
  go_wp2_with fail
  refine HDN.mono ?_
  rintro r w' ⟨rfl, hw⟩
  rw [hw]
  clear hw w'
  go_wp2_with fail
  have HROW : Hid ((w.alloc (.cells #[ptr g, .int .i64 (base : Int), .int .i64 (((n : Int) - 1) * 64), .int .i64 0, .int .i64 0, .slice none 0 0, .slice none 0 0, .int .i64 0, .bool false] 116)).heap[w.heap.size]? = some (.cells (pcells (bare (opened base n e rs)) g nil0 nil0) 116 (0, 0))) := by
    show _ = _
    rw [heap_alloc_new, Int.mul_comm]
    rfl
  have HB0 : Hid (Below w.heap.size w (w.alloc (.cells #[ptr g, .int .i64 (base : Int), .int .i64 (((n : Int) - 1) * 64), .int .i64 0, .int .i64 0, .slice none 0 0, .slice none 0 0, .int .i64 0, .bool false] 116))) := (Below.refl _ _).alloc (Nat.le_refl _) _
  generalize World.alloc w _ = w1 at *
  have HD1 : Hid (Dk w1 g kg vp s) := HD.out.below HB0.out
  have HLD := load_any w.heap.size g kg vp s (opened base n e rs) w1 HROW.out HD1.out hd (HTB.out.below HB0.out hpos) (by omega) (fun hm => by have := HD.out.lt _ hm; omega) HOK.out rfl rfl (by rw [hK]; exact hfits) HON.out
  refine HLD.mono ?_
  rintro r w2 ⟨vr, rfl, hP2, hT2⟩
  have HFN : Hid (LP w2 w.heap.size g vr nil0 (opened base n e rs) kg vp s ∧ Below w.heap.size w w2 ∧ ∀ k ∈ pfoot w.heap.size vr nil0, w.heap.size ≤ k) := by
    have hab : ∀ k ∈ pfoot w.heap.size vr nil0, w.heap.size ≤ k := hT2.above (fun k hk => by rw [List.mem_singleton.1 hk]; exact Nat.le_refl _) HB0.out.size
    refine ⟨⟨hP2, HD1.out.keep hT2.chg (fun k hk hm => by have := HD.out.lt k hk; rw [List.mem_singleton.1 hm] at this; omega), fun k hk hm => by have := hab k hk; have := HD.out.lt k hm; omega, by rw [hK]; exact hfits⟩, HB0.out.trans (hT2.below (fun k hk => by rw [List.mem_singleton.1 hk]; exact Nat.le_refl _) HB0.out.size), hab⟩
  clear hP2 hT2 HLD
  go_wp2
  go_ret2
  exact ⟨_, _, rfl, HFN.out⟩
end Go.Proofs.YtcfninpokngmlaaGreatDoor
