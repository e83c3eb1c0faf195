/- Proved: what wal's sumOf and headText answer. -/
import Derived.Test.YtcfninpokngmlaaGreatDoorPNum
import Derived.Test.YtcfninpokngmlaaGreatDoorReg
import Derived.Test.YtcfninpokngmlaaGreatDoorMathV
namespace Go.Proofs.YtcfninpokngmlaaGreatDoor
open Go.RowKit
theorem Tab.of_block {w w' : World} (h : Tab w) (hb : w'.heap[0]? = w.heap[0]?) : Tab w' := fun i hi => by rw [← h i hi]; exact World.cell?_of_block hb
theorem Tab.below {w w' : World} {B : Nat} (h : Tab w) (hb : Below B w w') (hB : 0 < B) : Tab w' := h.of_block (hb.block 0 hB)
theorem Tab.pos {w : World} (h : Tab w) : 0 < w.heap.size := block_lt_of_cell (h 0 (by omega))
theorem Tab.drew {w : World} (h : Tab w) : Tab w.drew := h
theorem sum_lt (bs : List Nat) (h : ∀ x ∈ bs, x < 256) : Crc.sum bs < 4294967296 := by
  unfold Crc.sum Crc.upd
  exact Crc.turn_lt (Crc.fold_lt _ (Crc.turn_lt (by omega)) h)
set_option maxHeartbeats 400000 in
theorem sumof_any (a b : Option Addr) (la ca lb cb : Nat) (xa bs : List Nat) (w : World) (hA : Bytes w a la xa) (hB : Bytes w b lb bs) (hT : Tab w) :
    Calls Tryz.prog 127 #[.slice a la ca, .slice b lb cb] w fun e w' => e = .returned (.int .u32 (Crc.sum (xa ++ bs) : Nat)) ∧ w' = w := by
  have h1 := sum_any a la ca xa w hA hT
  have h2 := upd_any (Crc.sum xa) b lb cb bs w (sum_lt xa hA.2.1) hB hT
  rw [Crc.upd_sum] at h2
  go_enter Tryz.func127, Tryz.ntmps127
  go_wp2_with fail
  refine h1.mono ?_
  rintro e wS ⟨rfl, hwS⟩
  rw [hwS]
  clear hwS wS
  go_wp2_with fail
  refine h2.mono ?_
  rintro e wS ⟨rfl, hwS⟩
  rw [hwS]
  clear hwS wS
  go_wp2
  go_ret
  exact ⟨rfl, rfl⟩
/- bytes that lie in a row -/
theorem bytes_row {w : World} {g off k t : Nat} {x : ByteArray} (h : w.heap[g]? = some (.cells (bc x).toArray t (0, 0))) (hl : off + k ≤ x.size) (hx : x.size ≤ 9223372036854775807) : Bytes w (some ⟨g, off, none⟩) k (((x.data.toList.drop off).take k).map UInt8.toNat) := by
  have hs := Sc.size_eq x
  refine ⟨by rw [List.length_map, List.length_take, List.length_drop]; omega, fun n hn => ?_, by omega, .inr ⟨g, off, rfl, fun i hi => ?_⟩⟩
  · obtain ⟨b, _, rfl⟩ := List.mem_map.1 hn
    exact b.toNat_lt
  · have hj : off + i < x.data.toList.length := by omega
    rw [cell_of_row w g _ _ _ (0, 0) h, List.getElem?_toArray, bc, List.getElem?_map, List.getElem?_eq_getElem hj, List.getD_eq_getElem?_getD, List.getElem?_map, List.getElem?_take_of_lt hi, List.getElem?_drop, List.getElem?_eq_getElem hj]
    rfl
theorem fill_splice (p q : ByteArray) (h : p.size + q.size ≤ 64) : splice (bc (Sc.fill p)) p.size (bc q) = bc (Sc.fill (p ++ q)) := by
  have hp := Sc.size_eq p
  have hq := Sc.size_eq q
  unfold splice bc
  rw [Sc.fill_list, Sc.fill_list, Wl.app_list, ByteArray.size_append, List.map_append, List.map_append, List.map_append, List.take_left' (by rw [List.length_map, hp]), List.length_map, ← hq, List.drop_append, List.drop_eq_nil_of_le (by rw [List.length_map]; omega), List.length_map, ← hp, List.nil_append, List.map_replicate, List.map_replicate, List.drop_replicate, show 64 - p.size - (p.size + q.size - p.size) = 64 - (p.size + q.size) by omega]
theorem fill_row {w : World} {g t : Nat} {p q : ByteArray} (h : w.heap[g]? = some (.cells (bc (Sc.fill p)).toArray t (0, 0))) (hl : p.size + q.size ≤ 64) : (w.setCells g p.size (bc q)).heap[g]? = some (.cells (bc (Sc.fill (p ++ q))).toArray t (0, 0)) := by
  have hp := Sc.fill_size (x := p) (by omega)
  rw [← fill_splice p q hl]
  exact setCells_splice g t _ _ _ w h (by rw [bc_length, bc_length, hp]; exact hl)
theorem fill_none : Sc.fill (Wl.ob []) = Sc.zero64 := by
  apply Wl.ext_list
  rw [Sc.fill_list, Wl.ob_list, zero64_list, Wl.ob_size]
  rfl
theorem zeroArr (W : World) : (zeroValue 108).run Tryz.prog W = .ok (.agg zsec) W := by kernel_rfl
set_option maxHeartbeats 2000000 in
set_option maxRecDepth 20000 in
theorem head_any (e l : Nat) (w : World) (hT : Tab w) (_he : e < 18446744073709551616) (_hl : l < 18446744073709551616) :
    Calls Tryz.prog 126 #[.int .u64 (e : Int), .int .u64 (l : Int)] w fun r w' => r = .returned (.string (Wl.head e l)) ∧ Below w.heap.size w w' := by
  have hz := zeroArr
  have HT : Hid (Tab w) := hT
  have hpos := hT.pos
  have HR0 : Hid ((w.alloc (.cells zsec 108)).heap[w.heap.size]? = some (.cells (bc (Sc.fill (Wl.ob []))).toArray 108 (0, 0))) := by
    show _ = _
    rw [heap_alloc_new, fill_none]
    rfl
  have HB0 : Hid (Below w.heap.size w (w.alloc (.cells zsec 108))) := (Below.refl _ _).alloc (Nat.le_refl _) _
  have ms : Wl.magic.size = 4 := rfl
  have hcp := Go.run_copy_string (P := Tryz.prog) (w.alloc (.cells zsec 108)) 138 9 3 5 w.heap.size 0 64 64 Wl.magic Tryz.underlying138 size_u8 (by rw [ms]; omega) (fun j hj => (there_row HR0.out (o := 0) (n := 4) (by rw [List.size_toArray, bc_length, Sc.fill_size (by rw [Wl.ob_size]; simp)]; decide) j hj).1) (fun j hj => (there_row HR0.out (o := 0) (n := 4) (by rw [List.size_toArray, bc_length, Sc.fill_size (by rw [Wl.ob_size]; simp)]; decide) j hj).2)
  have HR1 : Hid (((w.alloc (.cells zsec 108)).setCells w.heap.size 0 (bc Wl.magic)).heap[w.heap.size]? = some (.cells (bc (Sc.fill (Wl.ob [] ++ Wl.magic))).toArray 108 (0, 0))) := fill_row (p := Wl.ob []) HR0.out (by decide)
  have HB1 : Hid (Below w.heap.size w ((w.alloc (.cells zsec 108)).setCells w.heap.size 0 (bc Wl.magic))) := below_setCells (Nat.le_refl _) _ _ _ HB0.out
  change Sem.run Tryz.prog (Builtin.copy_ #[138, 9] 3 #[.slice (some ⟨w.heap.size, 0, none⟩) 64 64, .string ⟨#[65, 81, 87, 76]⟩]) (w.alloc (.cells zsec 108)) = .ok _ ((w.alloc (.cells zsec 108)).setCells w.heap.size 0 (bc Wl.magic)) at hcp
  generalize World.setCells _ _ _ (bc Wl.magic) = w1 at *
  clear hT HR0 HB0
  have e1 : Wl.ob [] ++ Wl.magic = Wl.magic := Wl.ext_list (by rw [Wl.app_list, Wl.ob_list, List.nil_append])
  rw [e1] at HR1
  have hf1 : (bc (Sc.fill Wl.magic)).length = 64 := by rw [bc_length, Sc.fill_size (by decide)]
  have HP1 : Hid (Calls Tryz.prog 140 #[.slice (some ⟨w.heap.size, 4, none⟩) 8 8, .int .u64 (e : Int)] w1 fun r w' => r = .returned (.tuple #[]) ∧ w' = w1.setCells w.heap.size 4 (nc e 8)) := putn_any w.heap.size 4 8 8 e 108 _ w1 HR1.out (by rw [hf1]; omega) (by omega)
  have HR2 : Hid ((w1.setCells w.heap.size 4 (nc e 8)).heap[w.heap.size]? = some (.cells (bc (Sc.fill (Wl.magic ++ Wl.put e 8))).toArray 108 (0, 0))) := by
    rw [nc_bc]
    exact fill_row (p := Wl.magic) HR1.out (by rw [Wl.put_size]; decide)
  have HB2 : Hid (Below w.heap.size w (w1.setCells w.heap.size 4 (nc e 8))) := below_setCells (Nat.le_refl _) _ _ _ HB1.out
  generalize w1.setCells w.heap.size 4 (nc e 8) = w2 at *
  have hs2 : (Wl.magic ++ Wl.put e 8).size = 12 := by rw [ByteArray.size_append, Wl.put_size]; rfl
  have hf2 : (bc (Sc.fill (Wl.magic ++ Wl.put e 8))).length = 64 := by rw [bc_length, Sc.fill_size (by omega)]
  have HP2 : Hid (Calls Tryz.prog 140 #[.slice (some ⟨w.heap.size, 12, none⟩) 4 4, .int .u64 (l : Int)] w2 fun r w' => r = .returned (.tuple #[]) ∧ w' = w2.setCells w.heap.size 12 (nc l 4)) := putn_any w.heap.size 12 4 4 l 108 _ w2 HR2.out (by rw [hf2]; omega) (by omega)
  have HR3 : Hid ((w2.setCells w.heap.size 12 (nc l 4)).heap[w.heap.size]? = some (.cells (bc (Sc.fill (Wl.head16 e l))).toArray 108 (0, 0))) := by
    rw [nc_bc]
    have := fill_row (q := Wl.put l 4) HR2.out (by rw [hs2, Wl.put_size]; decide)
    rw [hs2] at this
    exact this
  have HB3 : Hid (Below w.heap.size w (w2.setCells w.heap.size 12 (nc l 4))) := below_setCells (Nat.le_refl _) _ _ _ HB2.out
  generalize w2.setCells w.heap.size 12 (nc l 4) = w3 at *
  have hs3 := Wl.head16_size e l
  have hf3 : (Sc.fill (Wl.head16 e l)).size = 64 := Sc.fill_size (by omega)
  have hbl : (((Sc.fill (Wl.head16 e l)).data.toList.drop 0).take 16).map UInt8.toNat = Wl.nb (Wl.head16 e l) := by
    rw [List.drop_zero, Sc.fill_list, List.take_left' (by rw [← Sc.size_eq]; exact hs3)]
    rfl
  have HSM : Hid (Calls Tryz.prog 116 #[.slice (some ⟨w.heap.size, 0, none⟩) 16 64] w3.drew fun r w' => r = .returned (.int .u32 (Crc.sum (Wl.nb (Wl.head16 e l)) : Nat)) ∧ w' = w3.drew) := by
    have hB := bytes_row (w := w3.drew) (off := 0) (k := 16) HR3.out (by omega) (by omega)
    rw [hbl] at hB
    exact sum_any _ 16 64 _ w3.drew hB (HT.out.below HB3.out hpos).drew
  have hlt := sum_lt _ (Wl.nb_lt (Wl.head16 e l))
  have HP3 : Hid (Calls Tryz.prog 140 #[.slice (some ⟨w.heap.size, 16, none⟩) 4 4, .int .u64 (Crc.sum (Wl.nb (Wl.head16 e l)) : Nat)] w3.drew fun r w' => r = .returned (.tuple #[]) ∧ w' = w3.drew.setCells w.heap.size 16 (nc (Crc.sum (Wl.nb (Wl.head16 e l))) 4)) := putn_any w.heap.size 16 4 4 _ 108 _ w3.drew HR3.out (by rw [bc_length, hf3]; omega) (by omega)
  have HR4 : Hid ((w3.drew.setCells w.heap.size 16 (nc (Crc.sum (Wl.nb (Wl.head16 e l))) 4)).heap[w.heap.size]? = some (.cells (bA (Wl.head e l)) 108 (0, 0))) := by
    rw [nc_bc]
    have := fill_row (w := w3.drew) (q := Wl.sum4 (Wl.head16 e l)) HR3.out (by rw [hs3, Wl.sum4_size]; decide)
    rw [hs3] at this
    exact this
  have HB4 : Hid (Below w.heap.size w (w3.drew.setCells w.heap.size 16 (nc (Crc.sum (Wl.nb (Wl.head16 e l))) 4))) := below_setCells (Nat.le_refl _) _ _ _ HB3.out.drew
  generalize w3.drew.setCells w.heap.size 16 (nc (Crc.sum (Wl.nb (Wl.head16 e l))) 4) = w4 at *
  have hcv := str_of (x := Wl.head e l) (range_row HR4.out) 64
  rw [Wl.head_size] at hcv
  generalize Crc.sum (Wl.nb (Wl.head16 e l)) = sm at *
  generalize Wl.head e l = hd at *
  clear hs2 hf2 hf1 hbl hs3 hf3 HR1 HR2 HR3 HR4 e1 ms
  go_enter Tryz.func126, Tryz.ntmps126
  go_wp2_with fail
  refine HP1.out.mono ?_
  rintro r w' ⟨rfl, hw⟩
  rw [hw]
  clear hw w'
  go_wp2_with fail
  refine HP2.out.mono ?_
  rintro r w' ⟨rfl, hw⟩
  rw [hw]
  clear hw w'
  go_wp2_with fail
  have HS : Hid ((fun _ : World => True) w3.drew) := trivial
  refine wp_region_held_drew (S := fun _ => True) (by kernel_rfl) HS.out (fun _ => ?_)
  refine heldTake 0 (some 14) (.slice (some ⟨w.heap.size, 16, none⟩) 4 4) rfl rfl (by kernel_rfl) (by kernel_rfl) (by kernel_rfl) (fun _ _ _ h => h) (Or.inl ⟨by rfl, fun w hS => ?_⟩) HS.out ?_
  · (go_simp)
  simp only [Act.put, List.setIfInBounds_toArray, List.set_cons_zero, List.set_cons_succ]
  refine heldTake 1 (some 15) (.slice (some ⟨w.heap.size, 0, none⟩) 16 64) rfl rfl (by kernel_rfl) (by kernel_rfl) (by kernel_rfl) (fun _ _ _ h => h) (Or.inl ⟨by rfl, fun w hS => ?_⟩) HS.out ?_
  · (go_simp)
  simp only [Act.put, List.setIfInBounds_toArray, List.set_cons_zero, List.set_cons_succ]
  refine heldOne 2 (by kernel_rfl) rfl (by rfl) (fun KK hK => ?_)
  go_simp
  go_at_call 116
  refine HSM.out.mono ?_
  rintro r w' ⟨rfl, hw⟩
  rw [hw]
  clear hw w'
  refine hK.out _ _ trivial ?_
  clear hK KK
  refine heldTake 3 (some 17) (.int .u64 (sm : Int)) rfl rfl (by kernel_rfl) (by kernel_rfl) (by kernel_rfl) (fun _ _ _ h => h) (Or.inl ⟨by rfl, fun w hS => ?_⟩) HS.out ?_
  · (go_simp; rw [IntKind.wrap_u64]; omega)
  simp only [Act.put, List.setIfInBounds_toArray, List.set_cons_zero, List.set_cons_succ]
  refine heldOne 4 (by kernel_rfl) rfl (by rfl) (fun KK hK => ?_)
  go_simp
  go_at_call 140
  refine HP3.out.mono ?_
  rintro r w' ⟨rfl, hw⟩
  rw [hw]
  clear hw w'
  refine hK.out _ _ trivial ?_
  clear hK KK
  refine wpAnyH_done (by kernel_rfl) ?_ _
  go_wp2
  go_ret
  exact ⟨rfl, HB4.out⟩
end Go.Proofs.YtcfninpokngmlaaGreatDoor
