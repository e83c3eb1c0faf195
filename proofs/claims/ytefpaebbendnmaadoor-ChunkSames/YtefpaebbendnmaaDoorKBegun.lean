/- Proved: begun answers the sixteen words that the rounds begin with. Conditions: eight words below 2^32, a number below 2^64, and the table of the first words holds its eight numbers. -/
import Derived.Test.YtefpaebbendnmaaDoorKWords
import Derived.Deep.RegionLaw
import Derived.Laws.CopyOwn
import Derived.Deep.Cut
import Derived.Deep.CutBlock
namespace Go.Proofs.YtefpaebbendnmaaDoor.BK
open Go.RowKit
/- the two tables that the program's text lays: the first words, and the ten orders -/
def flat : List Nat := Bl.order.flatten
def Tab (w : World) : Prop := w.rangeAt 0 0 (Bl.first.map V32) ∧ w.rangeAt 3 0 (flat.map V8)
theorem Tab.below {w w' : World} (hT : Tab w) {B : Nat} (h0 : 3 < B) (hb : Below B w w') : Tab w' :=
  ⟨fun j v hv => (hb.cell (p := ⟨0, 0 + j, none⟩) (show 0 < B by omega)).trans (hT.1 j v hv), fun j v hv => (hb.cell (p := ⟨3, 0 + j, none⟩) (show 3 < B by omega)).trans (hT.2 j v hv)⟩
theorem splice_begin (h : List Nat) (hh : h.length = 8) : splice ((Bl.zeros 16).map V32) 0 (h.map V32) = (Bl.part (h ++ Bl.first) (h ++ Bl.zeros 8) (8 + 0)).map V32 := by
  have e1 : (h ++ Bl.first).take (8 + 0) = h := List.take_left' hh
  have e2 : (h ++ Bl.zeros 8).drop (8 + 0) = Bl.zeros 8 := List.drop_left' hh
  unfold splice Bl.part
  rw [e1, e2, List.length_map, hh, List.map_append]
  rfl
theorem hf_words {h : List Nat} (hh : Bl.Words 8 h) : Bl.Words 16 (h ++ Bl.first) := ⟨by rw [List.length_append, hh.1, Bl.first_words.1], fun x hx => by
    rcases List.mem_append.1 hx with h' | h'
    · exact hh.2 x h'
    · exact Bl.first_words.2 x h'⟩
theorem hz_words {h : List Nat} (hh : Bl.Words 8 h) : Bl.Words 16 (h ++ Bl.zeros 8) := ⟨by rw [List.length_append, hh.1, (Bl.zeros_words 8).1], fun x hx => by
    rcases List.mem_append.1 hx with h' | h'
    · exact hh.2 x h'
    · exact (Bl.zeros_words 8).2 x h'⟩
theorem hf_at {h : List Nat} (hh : h.length = 8) (k : Nat) : (h ++ Bl.first).getD (8 + k) 0 = Bl.first.getD k 0 := by
  rw [List.getD_eq_getElem?_getD, List.getElem?_append_right (by omega), hh, Nat.add_sub_cancel_left, ← List.getD_eq_getElem?_getD]
theorem xor_low (p n : Nat) (hp : p < 4294967296) : bits .xor .u32 (p : Int) ((n : Int) % 4294967296) = ((p ^^^ n % 4294967296 : Nat) : Int) := by
  rw [show ((n : Int) % 4294967296) = ((n % 4294967296 : Nat) : Int) by omega]
  exact u32_xor_nat _ _ hp (Nat.mod_lt _ (by omega))
theorem xor_high (p n : Nat) (hp : p < 4294967296) (hn : n < 18446744073709551616) : bits .xor .u32 (p : Int) ((n : Int) / 4294967296) = ((p ^^^ n / 4294967296 : Nat) : Int) := by
  rw [show ((n : Int) / 4294967296) = ((n / 4294967296 : Nat) : Int) by omega]
  exact u32_xor_nat _ _ hp (by omega)
theorem xor_all (p : Nat) (hp : p < 4294967296) : bits .xor .u32 (p : Int) 4294967295 = ((p ^^^ 4294967295 : Nat) : Int) := by
  rw [show (4294967295 : Int) = ((4294967295 : Nat) : Int) from rfl, u32_xor_nat p _ hp (by omega)]
theorem xor_all' (p : Nat) (hp : p < 4294967296) : bits .xor .u32 IntKind.u32.max (p : Int) = ((p ^^^ 4294967295 : Nat) : Int) := by
  rw [show IntKind.u32.max = ((4294967295 : Nat) : Int) from rfl, u32_xor_nat _ p (by omega) hp, Nat.xor_comm]
theorem hi65 {v : List Nat} (h : v.length = 16) : (Tryd.prog.info? 78).map (·.size) = some (arr v).size := by rw [size65, arr_size, h]
theorem one46 : (Tryd.prog.info? 59).map (·.size) = some 1 := by kernel_rfl
theorem v32_one (l : List Nat) : ∀ v ∈ l.map V32, v.oneCell' = true := fun v hv => by
  obtain ⟨n, _, rfl⟩ := List.mem_map.1 hv
  rfl
set_option maxHeartbeats 1000000 in
set_option maxRecDepth 20000 in
theorem begun_any (h : List Nat) (n : Nat) (last : Bool) (w : World) (hh : Bl.Words 8 h) (hn : n < 18446744073709551616) (hT : Tab w) (h0 : 3 < w.heap.size) :
    Calls Tryd.prog 47 #[.agg (arr h), .int .u64 (n : Int), .bool last] w fun e w' => e = .returned (.agg (arr (Bl.begin h n last))) ∧ Below w.heap.size w w' := by
  have HH : Hid (Bl.Words 8 h) := hh
  have HT : Hid (Tab w) := hT
  obtain ⟨V, hV⟩ : ∃ V, V = Bl.begin h n last := ⟨_, rfl⟩
  have HV : Hid (V = Bl.begin h n last) := hV
  rw [← hV]
  clear hV
  clear hh hT
  go_enter Tryd.func47, Tryd.ntmps47
  go_upto_region 2 with fail
  obtain ⟨g0, g1, g2, gz, gB⟩ := alloc3 w (.cells (arr h) 66) (.cells (arr (Bl.zeros 16)) 78) (.cells (arr (Bl.zeros 16)) 78)
  have e16 : arr (Bl.zeros 16) = #[.int .u32 0, .int .u32 0, .int .u32 0, .int .u32 0, .int .u32 0, .int .u32 0, .int .u32 0, .int .u32 0, .int .u32 0, .int .u32 0, .int .u32 0, .int .u32 0, .int .u32 0, .int .u32 0, .int .u32 0, .int .u32 0] := rfl
  rw [← e16]
  clear e16
  generalize World.alloc (World.alloc (World.alloc w (.cells (arr h) 66)) (.cells (arr (Bl.zeros 16)) 78)) (.cells (arr (Bl.zeros 16)) 78) = w1 at *
  have G0 : Hid (w1.heap[w.heap.size]? = some (.cells (arr h) 66 (0, 0))) := g0
  have G1 : Hid (w1.heap[w.heap.size + 1]? = some (.cells (arr (Bl.zeros 16)) 78 (0, 0))) := g1
  have G2 : Hid (w1.heap[w.heap.size + 2]? = some (.cells (arr (Bl.zeros 16)) 78 (0, 0))) := g2
  have GZ : Hid (w1.heap.size = w.heap.size + 3) := gz
  have GB : Hid (Below w.heap.size w w1) := gB
  clear g0 g1 g2 gz gB
  go_region_law (refine step_copy_splice rfl (.tmp 10) (.tmp 11) 57 57 rfl 59 Tryd.underlying57 one46 _ _ 8 16 8 8 rfl rfl (w.heap.size + 2) 0 ((Bl.zeros 16).map V32) 78 G2.out (h.map V32) (by rw [List.length_map, HH.out.1]; rfl) (fun _ => ⟨rfl, _, rfl, fun j v hv => by rw [Addr.add_mid]; exact (cell_of_row w1 w.heap.size (0 + j) _ 66 (0, 0) G0.out).trans (by rw [Nat.zero_add]; simpa [arr] using hv)⟩) (by rw [List.length_map, List.length_map, HH.out.1]; decide) (v32_one h) (w.heap.size + 2) w1 (Below.refl _ _).drew (Nat.le_refl _) ?_; intro w2 g2 b2)
  have R2 : Hid (Row w2 (w.heap.size + 2) 78 (Bl.part (h ++ Bl.first) (h ++ Bl.zeros 8) (8 + 0)) []) := by
    have e := g2.out
    rw [splice_begin h HH.out.1] at e
    exact row_arr.2 e
  have hB2 : Hid (Below w.heap.size w w2) := GB.out.trans (b2.mono (by omega))
  have R1 : Hid (w2.heap[w.heap.size + 1]? = some (.cells (arr (Bl.zeros 16)) 78 (0, 0))) := (b2.block _ (by omega)).trans G1.out
  have HT2 : Hid (Tab w2) := HT.out.below h0 hB2.out
  clear g2 b2 G0 G1 G2 GZ GB HT
  go_wp2_with (first | (refine wpList_load_mid rfl 66 _ rfl 0 0 rfl (Bl.first.map V32) _ HT2.out.1 Tryd.underlying66 rfl (by rw [size47]; rfl) ?_))
  go_loopw [8, 9, 14] (fun _ _ i wr => ∃ k : Nat, k ≤ 8 ∧ i = .int .i64 k ∧ Row wr (w.heap.size + 2) 78 (Bl.part (h ++ Bl.first) (h ++ Bl.zeros 8) (8 + k)) [] ∧ wr.heap[w.heap.size + 1]? = some (.cells (arr (Bl.zeros 16)) 78 (0, 0)) ∧ Below w.heap.size w wr) (fun _ _ i _ => 8 - (intOf i).toNat)
  case atStart => exact ⟨0, by omega, rfl, R2.out, R1.out, hB2.out⟩
  case round =>
    obtain ⟨k, hk, rfl, hr, hres, hB⟩ := hrel
    by_cases hlt : k < 8
    · have hs := Bl.part_set (hf_words HH.out).1 (hz_words HH.out).1 (show 8 + k < 16 by omega)
      rw [hf_at HH.out.1] at hs
      obtain ⟨hc, hf⟩ := hr.at (8 + k) (by rw [Bl.part_length (hf_words HH.out).1 (hz_words HH.out).1 (by omega)]; omega)
      have hidx : ∀ W : World, (Instr.index 66 (.agg (Bl.first.map V32).toArray) (.int .i64 (k : Int))).run Tryd.prog W = .ok (.int .u32 (Bl.first.getD k 0 : Nat)) W := fun W : World => run_idx (P := Tryd.prog) Tryd.underlying66 Tryd.underlying59 rfl (by kernel_rfl) (arr Bl.first) k hlt _ (arr_at Bl.first k (by exact hlt)) W
      have HS : Hid ((Bl.part (h ++ Bl.first) (h ++ Bl.zeros 8) (8 + k)).set (8 + k) (Bl.first.getD k 0) = Bl.part (h ++ Bl.first) (h ++ Bl.zeros 8) (8 + (k + 1))) := hs
      have HL : Hid (8 + k < (Bl.part (h ++ Bl.first) (h ++ Bl.zeros 8) (8 + k)).length) := by show _ < _; rw [Bl.part_length (hf_words HH.out).1 (hz_words HH.out).1 (by omega)]; omega
      have HR : Hid (Row wr (w.heap.size + 2) 78 (Bl.part (h ++ Bl.first) (h ++ Bl.zeros 8) (8 + k)) []) := hr
      have HRES : Hid (wr.heap[w.heap.size + 1]? = some (.cells (arr (Bl.zeros 16)) 78 (0, 0))) := hres
      clear hs hr hres
      generalize Bl.first.getD k 0 = x at *
      generalize Bl.part (h ++ Bl.first) (h ++ Bl.zeros 8) (8 + k) = v at *
      generalize v.getD (8 + k) 0 = y at *
      go_wp2
      go_roundw
      case rel => exact ⟨k + 1, by omega, by go_num, by rw [← HS.out]; exact (HR.out.set _ _ HL.out), (heap_setCell_other _ _ _ _ (by simp)).trans HRES.out, hB.setCell (by simp; omega) _⟩
      case measure => (simp [intOf]) <;> omega
    · have hk8 : k = 8 := by omega
      subst hk8
      rw [show 8 + 8 = 16 from rfl, Bl.part_all (hf_words HH.out).1 (hz_words HH.out).1] at hr
      have hW := hf_words HH.out
      obtain ⟨c12, f12⟩ := hr.at 12 (by rw [hW.1]; omega)
      obtain ⟨c13, f13⟩ := hr.at 13 (by rw [hW.1]; omega)
      obtain ⟨c14, f14⟩ := hr.at 14 (by rw [hW.1]; omega)
      have l12 := hW.at 12
      have l13 := hW.at 13
      have l14 := hW.at 14
      have HR : Hid (Row wr (w.heap.size + 2) 78 (h ++ Bl.first) []) := hr
      have HL : Hid ((h ++ Bl.first).length = 16) := hW.1
      have HRES : Hid (wr.heap[w.heap.size + 1]? = some (.cells (arr (Bl.zeros 16)) 78 (0, 0))) := hres
      clear hr hres hW
      have hVn : Hid (Bl.begin h n false = ((h ++ Bl.first).set 12 ((h ++ Bl.first).getD 12 0 ^^^ n % 4294967296)).set 13 ((h ++ Bl.first).getD 13 0 ^^^ n / 4294967296)) := rfl
      have e14 : (Bl.begin0 h n).getD 14 0 = (h ++ Bl.first).getD 14 0 := by
        unfold Bl.begin0
        rw [List.getD_eq_getElem?_getD, List.getElem?_set_ne (by omega), List.getElem?_set_ne (by omega), ← List.getD_eq_getElem?_getD]
      have hVy : Hid (Bl.begin h n true = (((h ++ Bl.first).set 12 ((h ++ Bl.first).getD 12 0 ^^^ n % 4294967296)).set 13 ((h ++ Bl.first).getD 13 0 ^^^ n / 4294967296)).set 14 ((h ++ Bl.first).getD 14 0 ^^^ 4294967295)) := by
        show Bl.begin h n true = _
        rw [← e14]; rfl
      have HVW : Hid (∀ last, Bl.Words 16 (Bl.begin h n last)) := fun last => Bl.begin_words HH.out hn last
      clear e14
      generalize h ++ Bl.first = v at *
      generalize hp : v.getD 12 0 = p at *
      generalize hq : v.getD 13 0 = q at *
      generalize hs : v.getD 14 0 = s at *
      have x12 := xor_low p n l12
      have x13 := xor_high q n l13 hn
      have x14 := xor_all s l14
      have x14' := xor_all' s l14
      clear hp hq hs
      have HVL : Hid (V.length = 16) := by show _ = _; rw [HV.out]; exact (HVW.out last).1
      have hi : Hid ((Tryd.prog.info? 78).map (·.size) = some (arr V).size) := hi65 HVL.out
      have he : Hid ((arr (Bl.zeros 16)).size = (arr V).size) := by show _ = _; rw [arr_size, arr_size, HVL.out]; rfl
      have H1 : Hid ((arr V).all (·.oneCell') = true) := arr_one _
      have hsg : IntKind.u32.signed = false := rfl
      cases last
      · have RV : Hid (Row ((wr.setCell ⟨w.heap.size + 1 + 1, 12, none⟩ (.int .u32 ((p ^^^ n % 4294967296 : Nat) : Int))).setCell ⟨w.heap.size + 1 + 1, 13, none⟩ (.int .u32 ((q ^^^ n / 4294967296 : Nat) : Int))) (w.heap.size + 1 + 1) 78 V []) := by
          show Row _ _ _ _ _
          rw [HV.out, hVn.out]
          exact (HR.out.set 12 _ (by rw [HL.out]; omega)).set 13 _ (by rw [List.length_set, HL.out]; omega)
        have RR : Hid (((wr.setCell ⟨w.heap.size + 1 + 1, 12, none⟩ (.int .u32 ((p ^^^ n % 4294967296 : Nat) : Int))).setCell ⟨w.heap.size + 1 + 1, 13, none⟩ (.int .u32 ((q ^^^ n / 4294967296 : Nat) : Int))).heap[w.heap.size + 1]? = some (.cells (arr (Bl.zeros 16)) 78 (0, 0))) := by
          show _ = _
          rw [heap_setCell_other _ _ _ _ (by simp), heap_setCell_other _ _ _ _ (by simp)]; exact HRES.out
        have BB : Hid (Below w.heap.size w ((wr.setCell ⟨w.heap.size + 1 + 1, 12, none⟩ (.int .u32 ((p ^^^ n % 4294967296 : Nat) : Int))).setCell ⟨w.heap.size + 1 + 1, 13, none⟩ (.int .u32 ((q ^^^ n / 4294967296 : Nat) : Int)))) := (hB.setCell (by show w.heap.size ≤ w.heap.size + 1 + 1; omega) _).setCell (by show w.heap.size ≤ w.heap.size + 1 + 1; omega) _
        go_upto_region 12 with fail
        generalize World.setCell (World.setCell wr _ _) _ _ = wz at *
        go_wp2_with (first | (refine wpList_load_row rfl 78 _ rfl (w.heap.size + 1 + 1) rfl 78 (arr V) (0, 0) _ (row_arr.1 RV.out) Tryd.underlying78 rfl hi.out ?_) | (refine store_row rfl rfl 78 _ _ rfl (w.heap.size + 1) (arr V) rfl rfl 78 (arr (Bl.zeros 16)) RR.out hi.out he.out H1.out ?_))
        refine bodyPost_ret (v := .agg (arr V)) ?_ rfl ⟨rfl, below_setRow BB.out (by omega) _⟩
        exact results_cell_row Tryd.results47 _ _ (w.heap.size + 1) 78 _ (0, 0) _ rfl (setRow_heap _ _ (arr (Bl.zeros 16)) _ _ _ RR.out) Tryd.underlying78 rfl hi.out
      · have RV : Hid (Row (((wr.setCell ⟨w.heap.size + 1 + 1, 12, none⟩ (.int .u32 ((p ^^^ n % 4294967296 : Nat) : Int))).setCell ⟨w.heap.size + 1 + 1, 13, none⟩ (.int .u32 ((q ^^^ n / 4294967296 : Nat) : Int))).setCell ⟨w.heap.size + 1 + 1, 14, none⟩ (.int .u32 ((s ^^^ 4294967295 : Nat) : Int))) (w.heap.size + 1 + 1) 78 V []) := by
          show Row _ _ _ _ _
          rw [HV.out, hVy.out]
          exact ((HR.out.set 12 _ (by rw [HL.out]; omega)).set 13 _ (by rw [List.length_set, HL.out]; omega)).set 14 _ (by rw [List.length_set, List.length_set, HL.out]; omega)
        have RR : Hid ((((wr.setCell ⟨w.heap.size + 1 + 1, 12, none⟩ (.int .u32 ((p ^^^ n % 4294967296 : Nat) : Int))).setCell ⟨w.heap.size + 1 + 1, 13, none⟩ (.int .u32 ((q ^^^ n / 4294967296 : Nat) : Int))).setCell ⟨w.heap.size + 1 + 1, 14, none⟩ (.int .u32 ((s ^^^ 4294967295 : Nat) : Int))).heap[w.heap.size + 1]? = some (.cells (arr (Bl.zeros 16)) 78 (0, 0))) := by
          show _ = _
          rw [heap_setCell_other _ _ _ _ (by simp), heap_setCell_other _ _ _ _ (by simp), heap_setCell_other _ _ _ _ (by simp)]; exact HRES.out
        have BB : Hid (Below w.heap.size w (((wr.setCell ⟨w.heap.size + 1 + 1, 12, none⟩ (.int .u32 ((p ^^^ n % 4294967296 : Nat) : Int))).setCell ⟨w.heap.size + 1 + 1, 13, none⟩ (.int .u32 ((q ^^^ n / 4294967296 : Nat) : Int))).setCell ⟨w.heap.size + 1 + 1, 14, none⟩ (.int .u32 ((s ^^^ 4294967295 : Nat) : Int)))) := ((hB.setCell (by show w.heap.size ≤ w.heap.size + 1 + 1; omega) _).setCell (by show w.heap.size ≤ w.heap.size + 1 + 1; omega) _).setCell (by show w.heap.size ≤ w.heap.size + 1 + 1; omega) _
        go_upto_region 12 with fail
        generalize World.setCell (World.setCell (World.setCell wr _ _) _ _) _ _ = wz at *
        go_wp2_with (first | (refine wpList_load_row rfl 78 _ rfl (w.heap.size + 1 + 1) rfl 78 (arr V) (0, 0) _ (row_arr.1 RV.out) Tryd.underlying78 rfl hi.out ?_) | (refine store_row rfl rfl 78 _ _ rfl (w.heap.size + 1) (arr V) rfl rfl 78 (arr (Bl.zeros 16)) RR.out hi.out he.out H1.out ?_))
        refine bodyPost_ret (v := .agg (arr V)) ?_ rfl ⟨rfl, below_setRow BB.out (by omega) _⟩
        exact results_cell_row Tryd.results47 _ _ (w.heap.size + 1) 78 _ (0, 0) _ rfl (setRow_heap _ _ (arr (Bl.zeros 16)) _ _ _ RR.out) Tryd.underlying78 rfl hi.out
end Go.Proofs.YtefpaebbendnmaaDoor.BK
