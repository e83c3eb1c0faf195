/- Proved: how a statement whose order is drawn is walked by hand: an operation is taken first, or one or two are carried out. -/
import Derived.Deep.RegionHeld3
import Derived.Test.YtcfninpokngmlaaGreatDoorJ05
import Derived.Test.YtcfninpokngmlaaGreatDoorJ04
import Derived.Test.YtcfninpokngmlaaGreatDoorJ01
import Derived.Laws.BytesString
import Derived.Test.YtcfninpokngmlaaGreatDoorJ03
import Derived.Lib.AppendStr
import Derived.Deep.AppendSrc
namespace Go.Proofs.YtcfninpokngmlaaGreatDoor
section
variable {P : Program} {ops : Array Oper} {Q : Exit → Act → World → Prop} {md : Region.Mode} {S : World → Prop}
theorem heldTake (i : Nat) (d : Option Tmp) {oi : Oper} (v : Value) {fuel : Nat} {listed : Array Bool} {a : Act} {w : World} (hi : ops[i]? = some oi) (hd : oi.dst = d)
    (hs : Region.noSelect ops = true) (hf : Region.free md ops listed i = true) (hr : (Region.ready md ops listed).contains i = true)
    (hQ : ∀ c a w, Q (.panic c) (a.put d v) w → Q (.panic c) a w) (hy : YieldsIf P ops S oi v a) (hS : S w)
    (h : wpAnyH P md ops Q S fuel (listed.setIfInBounds i true) (a.put d v) w) : wpAnyH P md ops Q S (fuel + 1) listed a w := by
  subst hd
  exact wpAnyH_take hi hs hf hr hQ hy hS h
theorem heldOne (i : Nat) {o : Oper} {fuel : Nat} {listed : Array Bool} {a : Act} {w : World} (hr : Region.ready md ops listed = [i]) (ho : ops[i]? = some o) (hw : Region.wanted o (yielded ops a.tmps) = true)
    (h : ∀ K : Act → World → Prop, Shut (∀ a' w', S w' → wpAnyH P md ops Q S fuel (listed.setIfInBounds i true) a' w' → K a' w') → Oper.wp P o a w K Q) : wpAnyH P md ops Q S (fuel + 1) listed a w := by
  refine wpAnyH_ready hr (by simp) (AllReadyH.cons ho (fun K hK => ?_) AllReadyH.nil)
  rw [if_pos hw]
  exact h K (fun a' w' h1 h2 => hK.out a' w' h1 (fun _ => h2))
theorem heldTwo (i j : Nat) {o o' : Oper} {fuel : Nat} {listed : Array Bool} {a : Act} {w : World} (hr : Region.ready md ops listed = [i, j]) (ho : ops[i]? = some o) (ho' : ops[j]? = some o') (hw : Region.wanted o (yielded ops a.tmps) = true) (hw' : Region.wanted o' (yielded ops a.tmps) = true)
    (h : ∀ K : Act → World → Prop, Shut (∀ a' w', S w' → wpAnyH P md ops Q S fuel (listed.setIfInBounds i true) a' w' → K a' w') → Oper.wp P o a w K Q)
    (h' : ∀ K : Act → World → Prop, Shut (∀ a' w', S w' → wpAnyH P md ops Q S fuel (listed.setIfInBounds j true) a' w' → K a' w') → Oper.wp P o' a w K Q) : wpAnyH P md ops Q S (fuel + 1) listed a w := by
  refine wpAnyH_ready hr (by simp) (AllReadyH.cons ho (fun K hK => ?_) (AllReadyH.cons ho' (fun K hK => ?_) AllReadyH.nil))
  · rw [if_pos hw]
    exact h K (fun a' w' h1 h2 => hK.out a' w' h1 (fun _ => h2))
  · rw [if_pos hw']
    exact h' K (fun a' w' h1 h2 => hK.out a' w' h1 (fun _ => h2))
theorem heldMono {S' : World → Prop} (hS : ∀ w, S' w → S w) : ∀ (n : Nat) (listed : Array Bool) (a : Act) (w : World), wpAnyH P md ops Q S' n listed a w → wpAnyH P md ops Q S n listed a w
  | 0, _, _, _, h => h
  | n + 1, _, _, _, h => ⟨h.1, fun i hi => wpOp_mono (fun a' w' h' => ⟨hS w' h'.1, heldMono hS n _ a' w' h'.2⟩) (h.2 i hi)⟩
end
end Go.Proofs.YtcfninpokngmlaaGreatDoor
/- Proved: what wal's putNumber and number do: a number as bytes, the lowest first, and back. -/
namespace Go.Proofs.YtcfninpokngmlaaGreatDoor
open Go.RowKit
theorem setCells_snoc (g : Nat) (v : Value) : ∀ (l : List Value) (o : Nat) (w : World), (w.setCells g o l).setCell ⟨g, o + l.length, none⟩ v = w.setCells g o (l ++ [v])
  | [], o, w => rfl
  | x :: l, o, w => by
    have := setCells_snoc g v l (o + 1) (w.setCell ⟨g, o, none⟩ x)
    rw [List.length_cons, show o + (l.length + 1) = o + 1 + l.length by omega]
    exact this
/- the cells of a number's bytes -/
def nc (n k : Nat) : List Value := (Wl.putL n k).map fun b => Value.int .u8 (b.toNat : Int)
theorem nc_length (n k : Nat) : (nc n k).length = k := by rw [nc, List.length_map, Wl.putL_length]
theorem nc_succ (n j : Nat) : nc n (j + 1) = nc n j ++ [.int .u8 ((n / 256 ^ j % 256 : Nat) : Int)] := by
  unfold nc
  rw [Wl.putL_snoc, List.map_append]
  simp [UInt8.toNat_ofNat']
theorem nc_bc (n k : Nat) : nc n k = bc (Wl.put n k) := by unfold nc bc; rw [Wl.put_list]
theorem pow256 (j : Nat) : (256 : Nat) ^ j = 2 ^ (8 * j) := by rw [Nat.pow_mul]
theorem shr_num (n j : Nat) : (n : Int) / 2 ^ (8 * j) % 256 = ((n / 256 ^ j % 256 : Nat) : Int) := by
  rw [pow256]
  rw [show ((2 : Int) ^ (8 * j)) = ((2 ^ (8 * j) : Nat) : Int) by push_cast; rfl]
  omega
set_option maxHeartbeats 1000000 in
theorem putn_any (g off k cap n t : Nat) (cur : List Value) (w : World) (hg : w.heap[g]? = some (.cells cur.toArray t (0, 0))) (hl : off + k ≤ cur.length) (hk : k ≤ 8) :
    Calls Tryz.prog 140 #[.slice (some ⟨g, off, none⟩) k cap, .int .u64 (n : Int)] w fun e w' => e = .returned (.tuple #[]) ∧ w' = w.setCells g off (nc n k) := by
  have HG : Hid (w.heap[g]? = some (.cells cur.toArray t (0, 0))) := hg
  clear hg
  go_enter Tryz.func140, Tryz.ntmps140
  go_wp2_with fail
  go_loopw [4, 7] (fun _ s7 wr => ∃ j : Nat, j ≤ k ∧ s7 = .int .i64 (j : Int) ∧ wr = w.setCells g off (nc n j)) (fun _ s7 _ => k - (intOf s7).toNat)
  case atStart => exact ⟨0, by omega, rfl, rfl⟩
  case round =>
    obtain ⟨j, hj, rfl, hwr⟩ := hrel
    by_cases hjk : j < k
    · have HR : Hid ((w.setCells g off (nc n j)).heap[g]? = some (.cells (splice cur off (nc n j)).toArray t (0, 0))) := setCells_splice g t _ off cur w HG.out (by rw [nc_length]; omega)
      have hsl : (splice cur off (nc n j)).length = cur.length := by unfold splice; rw [List.length_append, List.length_append, List.length_take, List.length_drop, nc_length]; omega
      rw [← hwr] at HR
      have HFN : Hid (∃ j' : Nat, j' ≤ k ∧ Value.int .i64 ((j : Int) + 1) = .int .i64 (j' : Int) ∧ wr.setCell ⟨g, off + j, none⟩ (.int .u8 ((n : Int) / 2 ^ (8 * j) % 256)) = w.setCells g off (nc n j')) := ⟨j + 1, by omega, by go_num, by
        rw [hwr, nc_succ, shr_num]
        have := setCells_snoc g (.int .u8 ((n / 256 ^ j % 256 : Nat) : Int)) (nc n j) off w
        rw [nc_length] at this
        exact this⟩
      obtain ⟨u, hu⟩ : ∃ u, wr.cell? ⟨g, off + j, none⟩ = some u := ⟨_, by rw [cell_of_row wr g _ _ _ (0, 0) HR.out, Array.getElem?_eq_getElem (by rw [List.size_toArray]; omega)]⟩
      have hf : wr.frozen? ⟨g, off + j, none⟩ = false := frozen_of_row wr g _ _ _ HR.out
      have dj : decide ((j : Int) < (k : Int)) = true := decide_eq_true (by omega)
      have j0 : (0 : Int) ≤ (j : Int) := by omega
      have j1 : (j : Int) < (k : Int) := by omega
      have hw8 : IntKind.i64.wrap (8 * (j : Int)) = 8 * (j : Int) := by rw [IntKind.wrap_i64]; omega
      clear hwr HR hsl
      go_wp2
      go_roundw
      case rel => first | exact HFN.out | ((repeat apply Exists.intro); exact ⟨HFN.out, rfl⟩)
      case measure => (simp [intOf]) <;> omega
    · obtain rfl : j = k := by omega
      have dj : decide ((j : Int) < (j : Int)) = false := decide_eq_false (by omega)
      go_wp2
      go_end0
      exact ⟨rfl, by first | rfl | exact hwr⟩
theorem or_num (a x j : Nat) (ha : a < 256 ^ j) (hx : x < 256) (hj : j < 8) : bits .or .u64 (a : Int) (IntKind.u64.wrap ((x : Int) * 2 ^ (8 * j))) = ((a + 256 ^ j * x : Nat) : Int) := by
  rw [pow256] at ha ⊢
  have hp : 2 ^ (8 * j) * 256 ≤ 18446744073709551616 := by
    have h1 : 2 ^ (8 * j) * 256 = 2 ^ (8 * j + 8) := by rw [Nat.pow_add]
    have h2 : 2 ^ (8 * j + 8) ≤ 2 ^ 64 := Nat.pow_le_pow_right (by omega) (by omega)
    rw [h1]
    exact h2
  have hx2 : 2 ^ (8 * j) * x < 18446744073709551616 := by
    have h1 : 2 ^ (8 * j) * (x + 1) ≤ 2 ^ (8 * j) * 256 := Nat.mul_le_mul_left _ (by omega)
    have h2 := Nat.two_pow_pos (8 * j)
    rw [Nat.mul_add] at h1
    omega
  have e1 : (x : Int) * 2 ^ (8 * j) = ((2 ^ (8 * j) * x : Nat) : Int) := by push_cast; rw [Int.mul_comm]
  have e2 : IntKind.u64.wrap ((2 ^ (8 * j) * x : Nat) : Int) = ((2 ^ (8 * j) * x : Nat) : Int) := by rw [IntKind.wrap_u64]; omega
  have h3 : 2 ^ (8 * j) ≤ 18446744073709551616 := by omega
  rw [e1, e2, u64_or_nat _ _ (by omega) hx2, Nat.or_comm, ← Nat.two_pow_add_eq_or_of_lt ha, Nat.add_comm]
set_option maxHeartbeats 1000000 in
theorem number_any (a : Option Addr) (k cap : Nat) (l : List UInt8) (w : World) (hB : Bytes w a k (l.map UInt8.toNat)) (hk : k ≤ 8) :
    Calls Tryz.prog 125 #[.slice a k cap] w fun e w' => e = .returned (.int .u64 (Wl.getL l : Nat)) ∧ w' = w := by
  obtain ⟨hl, hlt, hmax, hc⟩ := hB
  rw [List.length_map] at hl
  go_enter Tryz.func125, Tryz.ntmps125
  go_wp2_with fail
  go_loopw [3, 4, 5, 8] (fun s3 _ _ s8 wr => ∃ j : Nat, j ≤ k ∧ s8 = .int .i64 (j : Int) ∧ s3 = .int .u64 ((Wl.getL (l.take j) : Nat) : Int) ∧ wr = w) (fun _ _ _ s8 _ => k - (intOf s8).toNat)
  case atStart => exact ⟨0, by omega, rfl, rfl, rfl⟩
  case round =>
    obtain ⟨j, hj, rfl, rfl, hwr⟩ := hrel
    subst hwr
    by_cases hjk : j < k
    · rcases hc with h0 | ⟨b, off, rfl, hc⟩
      · omega
      have hcell := hc j hjk
      have dj : decide ((j : Int) < (k : Int)) = true := decide_eq_true (by omega)
      have j0 : (0 : Int) ≤ (j : Int) := by omega
      have j1 : (j : Int) < (k : Int) := by omega
      have hx := getD_lt hlt j (by rw [List.length_map]; omega)
      have hg := Wl.getL_lt (l.take j)
      rw [List.length_take, Nat.min_eq_left (by omega)] at hg
      have hsn : Wl.getL (l.take (j + 1)) = Wl.getL (l.take j) + 256 ^ j * (l.map UInt8.toNat).getD j 0 := by
        have hjl : j < l.length := by omega
        have e := Wl.getL_split (l.take (j + 1)) j (by rw [List.length_take]; omega)
        rw [List.take_take, Nat.min_eq_left (by omega), List.take_succ_eq_append_getElem hjl, List.drop_left' (by rw [List.length_take]; omega)] at e
        rw [List.take_succ_eq_append_getElem hjl, e, List.getD_eq_getElem?_getD, List.getElem?_map, List.getElem?_eq_getElem hjl]
        simp [Wl.getL]
      have hor := or_num (Wl.getL (l.take j)) ((l.map UInt8.toNat).getD j 0) j hg hx (by omega)
      rw [← hsn] at hor
      have HFN : Hid (∃ j' : Nat, j' ≤ k ∧ Value.int .i64 ((j : Int) + 1) = .int .i64 (j' : Int) ∧ Value.int .u64 ((Wl.getL (l.take (j + 1)) : Nat) : Int) = .int .u64 ((Wl.getL (l.take j') : Nat) : Int)) := ⟨j + 1, by omega, by go_num, rfl⟩
      clear hc hlt hl hsn
      generalize Wl.getL (l.take (j + 1)) = z at *
      generalize Wl.getL (l.take j) = y at *
      generalize (l.map UInt8.toNat).getD j 0 = x at *
      go_wp2
      go_roundw
      case rel =>
        obtain ⟨j', h1, h2, h3⟩ := HFN.out
        exact ⟨j', h1, h2, h3, trivial⟩
      case measure => (simp [intOf]) <;> omega
    · obtain rfl : j = k := by omega
      have dj : decide ((j : Int) < (j : Int)) = false := decide_eq_false (by omega)
      have HE : Hid (Wl.getL (l.take j) = Wl.getL l) := by rw [List.take_of_length_le (by omega)]; trivial
      generalize Wl.getL (l.take j) = z at *
      go_wp2
      go_ret
      exact ⟨by rw [HE.out]; rfl, rfl⟩
end Go.Proofs.YtcfninpokngmlaaGreatDoor
/- Proved: what wal's sumOf and headText answer. -/
namespace Go.Proofs.YtcfninpokngmlaaGreatDoor
open Go.RowKit
theorem Tab.of_block {w w' : World} (h : Tab w) (hb : w'.heap[0]? = w.heap[0]?) : Tab w' := fun i hi => by rw [← h i hi]; exact World.cell?_of_block hb
theorem Tab.below {w w' : World} {B : Nat} (h : Tab w) (hb : Below B w w') (hB : 0 < B) : Tab w' := h.of_block (hb.block 0 hB)
theorem Tab.pos {w : World} (h : Tab w) : 0 < w.heap.size := block_lt_of_cell (h 0 (by omega))
theorem Tab.drew {w : World} (h : Tab w) : Tab w.drew := h
theorem sum_lt (bs : List Nat) (h : ∀ x ∈ bs, x < 256) : Crc.sum bs < 4294967296 := by
  unfold Crc.sum Crc.upd
  exact Crc.turn_lt (Crc.fold_lt _ (Crc.turn_lt (by omega)) h)
set_option maxHeartbeats 400000 in
theorem sumof_any (a b : Option Addr) (la ca lb cb : Nat) (xa bs : List Nat) (w : World) (hA : Bytes w a la xa) (hB : Bytes w b lb bs) (hT : Tab w) :
    Calls Tryz.prog 127 #[.slice a la ca, .slice b lb cb] w fun e w' => e = .returned (.int .u32 (Crc.sum (xa ++ bs) : Nat)) ∧ w' = w := by
  have h1 := sum_any a la ca xa w hA hT
  have h2 := upd_any (Crc.sum xa) b lb cb bs w (sum_lt xa hA.2.1) hB hT
  rw [Crc.upd_sum] at h2
  go_enter Tryz.func127, Tryz.ntmps127
  go_wp2_with fail
  refine h1.mono ?_
  rintro e wS ⟨rfl, hwS⟩
  rw [hwS]
  clear hwS wS
  go_wp2_with fail
  refine h2.mono ?_
  rintro e wS ⟨rfl, hwS⟩
  rw [hwS]
  clear hwS wS
  go_wp2
  go_ret
  exact ⟨rfl, rfl⟩
/- bytes that lie in a row -/
theorem bytes_row {w : World} {g off k t : Nat} {x : ByteArray} (h : w.heap[g]? = some (.cells (bc x).toArray t (0, 0))) (hl : off + k ≤ x.size) (hx : x.size ≤ 9223372036854775807) : Bytes w (some ⟨g, off, none⟩) k (((x.data.toList.drop off).take k).map UInt8.toNat) := by
  have hs := Sc.size_eq x
  refine ⟨by rw [List.length_map, List.length_take, List.length_drop]; omega, fun n hn => ?_, by omega, .inr ⟨g, off, rfl, fun i hi => ?_⟩⟩
  · obtain ⟨b, _, rfl⟩ := List.mem_map.1 hn
    exact b.toNat_lt
  · have hj : off + i < x.data.toList.length := by omega
    rw [cell_of_row w g _ _ _ (0, 0) h, List.getElem?_toArray, bc, List.getElem?_map, List.getElem?_eq_getElem hj, List.getD_eq_getElem?_getD, List.getElem?_map, List.getElem?_take_of_lt hi, List.getElem?_drop, List.getElem?_eq_getElem hj]
    rfl
theorem fill_splice (p q : ByteArray) (h : p.size + q.size ≤ 64) : splice (bc (Sc.fill p)) p.size (bc q) = bc (Sc.fill (p ++ q)) := by
  have hp := Sc.size_eq p
  have hq := Sc.size_eq q
  unfold splice bc
  rw [Sc.fill_list, Sc.fill_list, Wl.app_list, ByteArray.size_append, List.map_append, List.map_append, List.map_append, List.take_left' (by rw [List.length_map, hp]), List.length_map, ← hq, List.drop_append, List.drop_eq_nil_of_le (by rw [List.length_map]; omega), List.length_map, ← hp, List.nil_append, List.map_replicate, List.map_replicate, List.drop_replicate, show 64 - p.size - (p.size + q.size - p.size) = 64 - (p.size + q.size) by omega]
theorem fill_row {w : World} {g t : Nat} {p q : ByteArray} (h : w.heap[g]? = some (.cells (bc (Sc.fill p)).toArray t (0, 0))) (hl : p.size + q.size ≤ 64) : (w.setCells g p.size (bc q)).heap[g]? = some (.cells (bc (Sc.fill (p ++ q))).toArray t (0, 0)) := by
  have hp := Sc.fill_size (x := p) (by omega)
  rw [← fill_splice p q hl]
  exact setCells_splice g t _ _ _ w h (by rw [bc_length, bc_length, hp]; exact hl)
theorem fill_none : Sc.fill (Wl.ob []) = Sc.zero64 := by
  apply Wl.ext_list
  rw [Sc.fill_list, Wl.ob_list, zero64_list, Wl.ob_size]
  rfl
theorem zeroArr (W : World) : (zeroValue 108).run Tryz.prog W = .ok (.agg zsec) W := by kernel_rfl
set_option maxHeartbeats 2000000 in
set_option maxRecDepth 20000 in
theorem head_any (e l : Nat) (w : World) (hT : Tab w) (_he : e < 18446744073709551616) (_hl : l < 18446744073709551616) :
    Calls Tryz.prog 126 #[.int .u64 (e : Int), .int .u64 (l : Int)] w fun r w' => r = .returned (.string (Wl.head e l)) ∧ Below w.heap.size w w' := by
  have hz := zeroArr
  have HT : Hid (Tab w) := hT
  have hpos := hT.pos
  have HR0 : Hid ((w.alloc (.cells zsec 108)).heap[w.heap.size]? = some (.cells (bc (Sc.fill (Wl.ob []))).toArray 108 (0, 0))) := by
    show _ = _
    rw [heap_alloc_new, fill_none]
    rfl
  have HB0 : Hid (Below w.heap.size w (w.alloc (.cells zsec 108))) := (Below.refl _ _).alloc (Nat.le_refl _) _
  have ms : Wl.magic.size = 4 := rfl
  have hcp := Go.run_copy_string (P := Tryz.prog) (w.alloc (.cells zsec 108)) 138 9 3 5 w.heap.size 0 64 64 Wl.magic Tryz.underlying138 size_u8 (by rw [ms]; omega) (fun j hj => (there_row HR0.out (o := 0) (n := 4) (by rw [List.size_toArray, bc_length, Sc.fill_size (by rw [Wl.ob_size]; simp)]; decide) j hj).1) (fun j hj => (there_row HR0.out (o := 0) (n := 4) (by rw [List.size_toArray, bc_length, Sc.fill_size (by rw [Wl.ob_size]; simp)]; decide) j hj).2)
  have HR1 : Hid (((w.alloc (.cells zsec 108)).setCells w.heap.size 0 (bc Wl.magic)).heap[w.heap.size]? = some (.cells (bc (Sc.fill (Wl.ob [] ++ Wl.magic))).toArray 108 (0, 0))) := fill_row (p := Wl.ob []) HR0.out (by decide)
  have HB1 : Hid (Below w.heap.size w ((w.alloc (.cells zsec 108)).setCells w.heap.size 0 (bc Wl.magic))) := below_setCells (Nat.le_refl _) _ _ _ HB0.out
  change Sem.run Tryz.prog (Builtin.copy_ #[138, 9] 3 #[.slice (some ⟨w.heap.size, 0, none⟩) 64 64, .string ⟨#[65, 81, 87, 76]⟩]) (w.alloc (.cells zsec 108)) = .ok _ ((w.alloc (.cells zsec 108)).setCells w.heap.size 0 (bc Wl.magic)) at hcp
  generalize World.setCells _ _ _ (bc Wl.magic) = w1 at *
  clear hT HR0 HB0
  have e1 : Wl.ob [] ++ Wl.magic = Wl.magic := Wl.ext_list (by rw [Wl.app_list, Wl.ob_list, List.nil_append])
  rw [e1] at HR1
  have hf1 : (bc (Sc.fill Wl.magic)).length = 64 := by rw [bc_length, Sc.fill_size (by decide)]
  have HP1 : Hid (Calls Tryz.prog 140 #[.slice (some ⟨w.heap.size, 4, none⟩) 8 8, .int .u64 (e : Int)] w1 fun r w' => r = .returned (.tuple #[]) ∧ w' = w1.setCells w.heap.size 4 (nc e 8)) := putn_any w.heap.size 4 8 8 e 108 _ w1 HR1.out (by rw [hf1]; omega) (by omega)
  have HR2 : Hid ((w1.setCells w.heap.size 4 (nc e 8)).heap[w.heap.size]? = some (.cells (bc (Sc.fill (Wl.magic ++ Wl.put e 8))).toArray 108 (0, 0))) := by
    rw [nc_bc]
    exact fill_row (p := Wl.magic) HR1.out (by rw [Wl.put_size]; decide)
  have HB2 : Hid (Below w.heap.size w (w1.setCells w.heap.size 4 (nc e 8))) := below_setCells (Nat.le_refl _) _ _ _ HB1.out
  generalize w1.setCells w.heap.size 4 (nc e 8) = w2 at *
  have hs2 : (Wl.magic ++ Wl.put e 8).size = 12 := by rw [ByteArray.size_append, Wl.put_size]; rfl
  have hf2 : (bc (Sc.fill (Wl.magic ++ Wl.put e 8))).length = 64 := by rw [bc_length, Sc.fill_size (by omega)]
  have HP2 : Hid (Calls Tryz.prog 140 #[.slice (some ⟨w.heap.size, 12, none⟩) 4 4, .int .u64 (l : Int)] w2 fun r w' => r = .returned (.tuple #[]) ∧ w' = w2.setCells w.heap.size 12 (nc l 4)) := putn_any w.heap.size 12 4 4 l 108 _ w2 HR2.out (by rw [hf2]; omega) (by omega)
  have HR3 : Hid ((w2.setCells w.heap.size 12 (nc l 4)).heap[w.heap.size]? = some (.cells (bc (Sc.fill (Wl.head16 e l))).toArray 108 (0, 0))) := by
    rw [nc_bc]
    have := fill_row (q := Wl.put l 4) HR2.out (by rw [hs2, Wl.put_size]; decide)
    rw [hs2] at this
    exact this
  have HB3 : Hid (Below w.heap.size w (w2.setCells w.heap.size 12 (nc l 4))) := below_setCells (Nat.le_refl _) _ _ _ HB2.out
  generalize w2.setCells w.heap.size 12 (nc l 4) = w3 at *
  have hs3 := Wl.head16_size e l
  have hf3 : (Sc.fill (Wl.head16 e l)).size = 64 := Sc.fill_size (by omega)
  have hbl : (((Sc.fill (Wl.head16 e l)).data.toList.drop 0).take 16).map UInt8.toNat = Wl.nb (Wl.head16 e l) := by
    rw [List.drop_zero, Sc.fill_list, List.take_left' (by rw [← Sc.size_eq]; exact hs3)]
    rfl
  have HSM : Hid (Calls Tryz.prog 116 #[.slice (some ⟨w.heap.size, 0, none⟩) 16 64] w3.drew fun r w' => r = .returned (.int .u32 (Crc.sum (Wl.nb (Wl.head16 e l)) : Nat)) ∧ w' = w3.drew) := by
    have hB := bytes_row (w := w3.drew) (off := 0) (k := 16) HR3.out (by omega) (by omega)
    rw [hbl] at hB
    exact sum_any _ 16 64 _ w3.drew hB (HT.out.below HB3.out hpos).drew
  have hlt := sum_lt _ (Wl.nb_lt (Wl.head16 e l))
  have HP3 : Hid (Calls Tryz.prog 140 #[.slice (some ⟨w.heap.size, 16, none⟩) 4 4, .int .u64 (Crc.sum (Wl.nb (Wl.head16 e l)) : Nat)] w3.drew fun r w' => r = .returned (.tuple #[]) ∧ w' = w3.drew.setCells w.heap.size 16 (nc (Crc.sum (Wl.nb (Wl.head16 e l))) 4)) := putn_any w.heap.size 16 4 4 _ 108 _ w3.drew HR3.out (by rw [bc_length, hf3]; omega) (by omega)
  have HR4 : Hid ((w3.drew.setCells w.heap.size 16 (nc (Crc.sum (Wl.nb (Wl.head16 e l))) 4)).heap[w.heap.size]? = some (.cells (bA (Wl.head e l)) 108 (0, 0))) := by
    rw [nc_bc]
    have := fill_row (w := w3.drew) (q := Wl.sum4 (Wl.head16 e l)) HR3.out (by rw [hs3, Wl.sum4_size]; decide)
    rw [hs3] at this
    exact this
  have HB4 : Hid (Below w.heap.size w (w3.drew.setCells w.heap.size 16 (nc (Crc.sum (Wl.nb (Wl.head16 e l))) 4))) := below_setCells (Nat.le_refl _) _ _ _ HB3.out.drew
  generalize w3.drew.setCells w.heap.size 16 (nc (Crc.sum (Wl.nb (Wl.head16 e l))) 4) = w4 at *
  have hcv := str_of (x := Wl.head e l) (range_row HR4.out) 64
  rw [Wl.head_size] at hcv
  generalize Crc.sum (Wl.nb (Wl.head16 e l)) = sm at *
  generalize Wl.head e l = hd at *
  clear hs2 hf2 hf1 hbl hs3 hf3 HR1 HR2 HR3 HR4 e1 ms
  go_enter Tryz.func126, Tryz.ntmps126
  go_wp2_with fail
  refine HP1.out.mono ?_
  rintro r w' ⟨rfl, hw⟩
  rw [hw]
  clear hw w'
  go_wp2_with fail
  refine HP2.out.mono ?_
  rintro r w' ⟨rfl, hw⟩
  rw [hw]
  clear hw w'
  go_wp2_with fail
  have HS : Hid ((fun _ : World => True) w3.drew) := trivial
  refine wp_region_held_drew (S := fun _ => True) (by kernel_rfl) HS.out (fun _ => ?_)
  refine heldTake 0 (some 14) (.slice (some ⟨w.heap.size, 16, none⟩) 4 4) rfl rfl (by kernel_rfl) (by kernel_rfl) (by kernel_rfl) (fun _ _ _ h => h) (Or.inl ⟨by rfl, fun w hS => ?_⟩) HS.out ?_
  · (go_simp)
  simp only [Act.put, List.setIfInBounds_toArray, List.set_cons_zero, List.set_cons_succ]
  refine heldTake 1 (some 15) (.slice (some ⟨w.heap.size, 0, none⟩) 16 64) rfl rfl (by kernel_rfl) (by kernel_rfl) (by kernel_rfl) (fun _ _ _ h => h) (Or.inl ⟨by rfl, fun w hS => ?_⟩) HS.out ?_
  · (go_simp)
  simp only [Act.put, List.setIfInBounds_toArray, List.set_cons_zero, List.set_cons_succ]
  refine heldOne 2 (by kernel_rfl) rfl (by rfl) (fun KK hK => ?_)
  go_simp
  go_at_call 116
  refine HSM.out.mono ?_
  rintro r w' ⟨rfl, hw⟩
  rw [hw]
  clear hw w'
  refine hK.out _ _ trivial ?_
  clear hK KK
  refine heldTake 3 (some 17) (.int .u64 (sm : Int)) rfl rfl (by kernel_rfl) (by kernel_rfl) (by kernel_rfl) (fun _ _ _ h => h) (Or.inl ⟨by rfl, fun w hS => ?_⟩) HS.out ?_
  · (go_simp; rw [IntKind.wrap_u64]; omega)
  simp only [Act.put, List.setIfInBounds_toArray, List.set_cons_zero, List.set_cons_succ]
  refine heldOne 4 (by kernel_rfl) rfl (by rfl) (fun KK hK => ?_)
  go_simp
  go_at_call 140
  refine HP3.out.mono ?_
  rintro r w' ⟨rfl, hw⟩
  rw [hw]
  clear hw w'
  refine hK.out _ _ trivial ?_
  clear hK KK
  refine wpAnyH_done (by kernel_rfl) ?_ _
  go_wp2
  go_ret
  exact ⟨rfl, HB4.out⟩
end Go.Proofs.YtcfninpokngmlaaGreatDoor
/- Proved: what strings.TrimLeft of noughts answers, and what wal's readHead tells of a head. -/
namespace Go.Proofs.YtcfninpokngmlaaGreatDoor
open Go.RowKit
theorem byte_at (x : ByteArray) (m : Nat) (c : UInt8) (h : x.data.toList[m]? = some c) (hm : m < x.size) : x[m]'hm = c := by
  rw [Array.getElem?_toList] at h
  exact (Array.getElem?_eq_some_iff.1 h).2
set_option maxHeartbeats 1000000 in
theorem trimB_zero (y : ByteArray) (m : Nat) (w : World) (hy : y.data.toList = List.replicate m 0) :
    Calls Tryz.prog 136 #[.string y, .int .u8 0] w fun e w' => (∃ z : ByteArray, e = .returned (.string z) ∧ z.size = 0) ∧ w' = w := by
  go_enter Tryz.func136, Tryz.ntmps136
  go_wp2_with fail
  go_loopw [0] (fun s0 wr => ∃ (j : Nat) (z : ByteArray), j ≤ m ∧ s0 = .string z ∧ z.data.toList = List.replicate j 0 ∧ wr = w) (fun s0 _ => match s0 with | .string z => z.size | _ => 0)
  case atStart => exact ⟨m, y, by omega, rfl, hy, rfl⟩
  case round =>
    obtain ⟨j, z, hj, rfl, hz, hwr⟩ := hrel
    subst hwr
    have hs : z.size = j := by rw [Sc.size_eq, hz, List.length_replicate]
    by_cases h0 : 0 < j
    · have dj : decide ((0 : Int) < (z.size : Int)) = true := decide_eq_true (by omega)
      have hb : ∀ h, (z[0]'h) = 0 := fun h => byte_at z 0 0 (by rw [hz, List.getElem?_replicate, if_pos h0]) h
      have hx : (z.extract 1 z.size).data.toList = List.replicate (j - 1) 0 := by
        rw [Wl.ext_ext, Sc.size_eq, List.take_length, hz, List.drop_replicate]
      have hxs : (z.extract 1 z.size).size = z.size - 1 := by rw [Sc.size_eq, hx, List.length_replicate]; omega
      have HFN : Hid (∃ (j' : Nat) (z' : ByteArray), j' ≤ m ∧ Value.string (z.extract 1 z.size) = .string z' ∧ z'.data.toList = List.replicate j' 0) := ⟨j - 1, _, by omega, rfl, hx⟩
      have hz1 : 1 ≤ z.size := by omega
      clear hx hz hs
      go_wp2
      go_roundw
      case rel =>
        obtain ⟨j', z', h1, h2, h3⟩ := HFN.out
        exact ⟨j', z', h1, h2, h3, trivial⟩
      case measure =>
        simp only [hxs]
        omega
    · have dj : ¬ 0 < z.size := by omega
      have HZ : Hid (z.size = 0) := by show z.size = 0; omega
      clear hz hs h0
      go_wp2
      go_ret
      exact ⟨⟨_, rfl, HZ.out⟩, rfl⟩
set_option maxHeartbeats 1000000 in
theorem trimB_head (y : ByteArray) (b : UInt8) (w : World) (hy : y.data.toList[0]? = some b) (hb : b ≠ 0) :
    Calls Tryz.prog 136 #[.string y, .int .u8 0] w fun e w' => e = .returned (.string y) ∧ w' = w := by
  have hs : 0 < y.size := by rw [Sc.size_eq]; exact (List.getElem?_eq_some_iff.1 hy).1
  have h0 : ∀ h, (y[0]'h) = b := fun h => byte_at y 0 b hy h
  have hbn : b.toNat ≠ 0 := fun e => hb (by rw [← UInt8.toNat_inj, e]; rfl)
  have hbb : ((b.toNat : Int) == 0) = false := by rw [beq_eq_false_iff_ne]; omega
  have dj : decide ((0 : Int) < (y.size : Int)) = true := decide_eq_true (by omega)
  go_enter Tryz.func136, Tryz.ntmps136
  go_wp2_with fail
  go_loopw [0] (fun s0 wr => s0 = .string y ∧ wr = w) (fun _ _ => 0)
  case atStart => exact ⟨rfl, rfl⟩
  case round =>
    obtain ⟨rfl, hwr⟩ := hrel
    subst hwr
    clear hb hbn hy
    go_wp2
    go_ret
    exact ⟨rfl, rfl⟩
set_option maxHeartbeats 1000000 in
set_option maxRecDepth 20000 in
theorem trim_zero (y : ByteArray) (m : Nat) (w : World) (hy : y.data.toList = List.replicate m 0) (h0 : 0 < m) :
    Calls Tryz.prog 124 #[.string y, .string ⟨#[0]⟩] w fun e w' => (∃ z : ByteArray, e = .returned (.string z) ∧ z.size = 0) ∧ w' = w := by
  have HT := trimB_zero y m w hy
  have hs : y.size = m := by rw [Sc.size_eq, hy, List.length_replicate]
  have he : y.toList.isEmpty = false := by rw [ByteArray.toList_eq, hy]; cases m with | zero => omega | succ m => rfl
  clear hy
  go_enter Tryz.func124, Tryz.ntmps124
  go_wp2_with fail
  refine HT.mono ?_
  rintro e w' ⟨⟨z, rfl, hz⟩, hw⟩
  rw [hw]
  go_wp2
  go_ret
  exact ⟨⟨_, rfl, hz⟩, rfl⟩
set_option maxHeartbeats 1000000 in
set_option maxRecDepth 20000 in
theorem trim_head (y : ByteArray) (b : UInt8) (w : World) (hy : y.data.toList[0]? = some b) (hb : b ≠ 0) :
    Calls Tryz.prog 124 #[.string y, .string ⟨#[0]⟩] w fun e w' => e = .returned (.string y) ∧ w' = w := by
  have HT := trimB_head y b w hy hb
  have he : y.toList.isEmpty = false := by
    rw [ByteArray.toList_eq]
    cases h : y.data.toList with
    | nil => rw [h] at hy; simp at hy
    | cons c l => rfl
  clear hy
  go_enter Tryz.func124, Tryz.ntmps124
  go_wp2_with fail
  refine HT.mono ?_
  rintro e w' ⟨rfl, hw⟩
  rw [hw]
  go_wp2
  go_ret
  exact ⟨rfl, rfl⟩
/- a head's sector, read -/
theorem u8_eq {a b : ByteArray} (h : a = b) : (a.toList == b.toList) = true := by rw [h]; simp
set_option maxHeartbeats 2000000 in
set_option maxRecDepth 20000 in
theorem readHead_zero (w : World) :
    Calls Tryz.prog 97 #[.string Sc.zero64] w fun r w' => r = .returned (.tuple #[.int .u64 0, .int .u64 0, .bool true]) ∧ w' = w := by
  have HT := trim_zero Sc.zero64 64 w zero64_list (by omega)
  generalize Sc.zero64 = y at *
  go_enter Tryz.func97, Tryz.ntmps97
  go_wp2_with fail
  refine HT.mono ?_
  rintro e w' ⟨⟨z, rfl, hz⟩, hw⟩
  rw [hw]
  have he : z.toList.isEmpty = true := by rw [ByteArray.toList_eq, List.isEmpty_iff, ← List.length_eq_zero_iff, ← Sc.size_eq]; exact hz
  clear hz hw
  go_wp2
  go_ret3
  exact ⟨rfl, rfl⟩
/- '[]byte(s)': a row of the call's own with its bytes -/
theorem bytes_of (w : World) (x : ByteArray) (hx : x.size ≤ 9223372036854775807) : ∃ cap w1, (convert 9 138 (.string x)).run Tryz.prog w = .ok (.slice (some ⟨w.heap.size, 0, none⟩) x.size cap) w1 ∧ x.size ≤ cap ∧ (∀ off k, off + k ≤ x.size → Bytes w1 (some ⟨w.heap.size, off, none⟩) k (((x.data.toList.drop off).take k).map UInt8.toNat)) ∧ Below w.heap.size w w1 ∧ w1.heap.size = w.heap.size + 1 := by
  have hs := Sc.size_eq x
  refine ⟨_, _, run_bytes_of_string (P := Tryz.prog) w 9 138 5 x Tryz.underlying9 Tryz.underlying138 Tryz.underlying5, grownCap_ge _ _ _ _, fun off k hk => ⟨by rw [List.length_map, List.length_take, List.length_drop]; omega, fun n hn => ?_, by omega, .inr ⟨w.heap.size, off, rfl, fun i hi => ?_⟩⟩, ((Below.refl _ w).drew.alloc (Nat.le_refl _) _), by simp⟩
  · obtain ⟨b, _, rfl⟩ := List.mem_map.1 hn
    exact b.toNat_lt
  · have hj : off + i < x.data.toList.length := by omega
    have hj2 : off + i < x.size := by omega
    show World.cell? _ ⟨w.drew.heap.size, off + i, none⟩ = _
    rw [cell_of_row _ _ _ _ _ _ (heap_alloc_new w.drew _)]
    unfold bytesRow
    rw [Array.getElem?_append_left (by rw [Array.size_map]; exact hj2), Array.getElem?_map, ← Array.getElem?_toList, List.getElem?_eq_getElem hj, List.getD_eq_getElem?_getD, List.getElem?_map, List.getElem?_take_of_lt hi, List.getElem?_drop, List.getElem?_eq_getElem hj]
    rfl
set_option maxHeartbeats 2000000 in
set_option maxRecDepth 20000 in
theorem readHead_any (e l : Nat) (w : World) (hT : Tab w) (he : e < 18446744073709551616) (hl : l < 4294967296) :
    Calls Tryz.prog 97 #[.string (Wl.head e l)] w fun r w' => r = .returned (.tuple #[.int .u64 (e : Int), .int .u64 (l : Int), .bool true]) ∧ Below w.heap.size w w' := by
  have hpos := hT.pos
  have HT := trim_head (Wl.head e l) 65 w (by rw [Wl.head_list]; rfl) (by decide)
  have hsz := Wl.head_size e l
  obtain ⟨cap, w1, hcv, hcap, hby, hB1, hsz1⟩ := bytes_of w (Wl.head e l) (by omega)
  have ml : Wl.magic.data.toList.length = 4 := rfl
  have e1 : ((Wl.head e l).data.toList.drop 4).take 8 = Wl.putL e 8 := by
    rw [Wl.head_list, List.drop_left' ml, List.take_left' (Wl.putL_length 8 e)]
  have e2 : ((Wl.head e l).data.toList.drop 12).take 4 = Wl.putL l 4 := by
    rw [Wl.head_list, ← List.append_assoc, List.drop_left' (by rw [List.length_append, Wl.putL_length, ml]), List.take_left' (Wl.putL_length 4 l)]
  have hb1 := hby 4 8 (by omega)
  have hb2 := hby 12 4 (by omega)
  rw [e1] at hb1
  rw [e2] at hb2
  have HN1 := number_any _ 8 (cap - 4) _ w1 hb1 (by omega)
  have HN2 := number_any _ 4 (cap - 12) _ w1 hb2 (by omega)
  rw [Wl.getL_putL 8 e (by omega)] at HN1
  rw [Wl.getL_putL 4 l (by omega)] at HN2
  have HHD : Hid (Calls Tryz.prog 126 #[.int .u64 (e : Int), .int .u64 (l : Int)] w1 fun r w' => r = .returned (.string (Wl.head e l)) ∧ Below w1.heap.size w1 w') := head_any e l w1 (hT.below hB1 hpos) he (by omega)
  have HB1 : Hid (Below w.heap.size w w1) := hB1
  have hne : (Wl.head e l).toList.isEmpty = false := by
    rw [ByteArray.toList_eq]
    cases h : (Wl.head e l).data.toList with
    | nil => have := congrArg List.length h; rw [← Sc.size_eq, hsz] at this; simp at this
    | cons c t => rfl
  clear hT hby hb1 hb2 e1 e2 ml hB1 hsz1
  rw [hsz] at hcv
  generalize Wl.head e l = hd at *
  have c1 : (12 : Int) ≤ (cap : Int) := by omega
  have c2 : (16 : Int) ≤ (cap : Int) := by omega
  go_enter Tryz.func97, Tryz.ntmps97
  go_wp2_with fail
  refine HT.mono ?_
  rintro r w' ⟨rfl, hw⟩
  rw [hw]
  clear hw w'
  go_wp2_with fail
  refine HN1.mono ?_
  rintro r w' ⟨rfl, hw⟩
  rw [hw]
  clear hw w'
  go_wp2_with fail
  refine HN2.mono ?_
  rintro r w' ⟨rfl, hw⟩
  rw [hw]
  clear hw w'
  go_wp2_with fail
  refine HHD.out.mono ?_
  rintro r w2 ⟨rfl, hB2⟩
  go_wp2
  go_ret3
  exact ⟨by simp, HB1.out.trans (hB2.mono HB1.out.size)⟩
end Go.Proofs.YtcfninpokngmlaaGreatDoor
/- Proved: laws for bytes and texts that are appended to bytes of the call's own, and what wal's appendFrame makes. -/
namespace Go.Proofs.YtcfninpokngmlaaGreatDoor
open Go.RowKit
theorem bc_append (a b : ByteArray) : bc (a ++ b) = bc a ++ bc b := by unfold bc; rw [Wl.app_list, List.map_append]
theorem info_u8 : Tryz.prog.info? 5 = some Tryz.t5 := by kernel_rfl
/- bytes of the call's own -/
abbrev OwnB (w : World) (N : Nat) (v : Value) (y : ByteArray) : Prop := w.ownsRow N 5 1 v y.size (bc y)
theorem opw_bytes {o : Oper} {a : Act} {W : World} {K : Act → World → Prop} {Q : Exit → Act → World → Prop} (sl x : Operand)
    (ho : o.op = .call { callee := .builtin .append, args := #[sl, x], argTypes := #[138, 138] }) (N : Nat) (v : Value) (y : ByteArray) (hs : a.eval sl = v) (hown : OwnB W N v y)
    (ad : Addr) (c : Nat) (z : ByteArray) (hx : a.eval x = .slice (some ad) z.size c) (hnews : ∀ j u, (bc z)[j]? = some u → W.cell? (ad.add j) = some u) (hb : y.size + z.size ≤ 1000000000) (hN : N ≤ W.heap.size)
    (h : ∀ v' w', OwnB w' N v' (y ++ z) → Below N W w' → K (a.put o.dst v') w') : Oper.wp Tryz.prog o a W K Q := by
  obtain ⟨v', w', hr, h2, h3, h4, h5⟩ := run_append_own_at (P := Tryz.prog) W N 138 o.type 5 Tryz.t5 (.int .u8 0) 1 1 Tryz.underlying138 info_u8 rfl rfl rfl rfl (by omega) v y.size (bc y) hown ad z.size c (bc z) (by rw [bc_length, Nat.mul_one]) hnews (bc_one z) (by unfold maxLen; omega) (by omega) hN
  unfold Oper.wp execOp
  simp only [ho, resolve, invoke, builtin, Sem.run_bind, Sem.run_pure, Result.andThen_ok, List.map_toArray, List.map_cons, List.map_nil, hs, hx, hr]
  refine h v' w' ?_ ((Below.refl _ _).grown h3 hN (fun k hk => (hown.lt k hk).1))
  show w'.ownsRow N 5 1 v' (y ++ z).size (bc (y ++ z))
  rw [ByteArray.size_append, bc_append]
  exact h2
theorem app_bytes {ops : Array Oper} {rest : List Oper} {o : Oper} {a : Act} {Q : Exit → Act → World → Prop} (hgd : o.guard = none) (sl x : Operand)
    (ho : o.op = .call { callee := .builtin .append, args := #[sl, x], argTypes := #[138, 138] }) (W : World) (N : Nat) (v : Value) (y : ByteArray) (hs : a.eval sl = v) (hown : OwnB W N v y)
    (ad : Addr) (c : Nat) (z : ByteArray) (hx : a.eval x = .slice (some ad) z.size c) (hnews : ∀ j u, (bc z)[j]? = some u → W.cell? (ad.add j) = some u) (hb : y.size + z.size ≤ 1000000000) (hN : N ≤ W.heap.size)
    (h : ∀ v' w', OwnB w' N v' (y ++ z) → Below N W w' → wpList Tryz.prog ops Q rest (a.put o.dst v') w') : wpList Tryz.prog ops Q (o :: rest) a W :=
  wpList_plain hgd fun _ hK => opw_bytes sl x ho N v y hs hown ad c z hx hnews hb hN (fun v' w' h1 h2 => hK _ _ (h v' w' h1 h2))
theorem opw_text {o : Oper} {a : Act} {W : World} {K : Act → World → Prop} {Q : Exit → Act → World → Prop} (sl x : Operand)
    (ho : o.op = .call { callee := .builtin .append, args := #[sl, x], argTypes := #[138, 9] }) (N : Nat) (v : Value) (y : ByteArray) (hs : a.eval sl = v) (hown : OwnB W N v y)
    (z : ByteArray) (hx : a.eval x = .string z) (hb : y.size + z.size ≤ 1000000000) (hN : N ≤ W.heap.size)
    (h : ∀ v' w', OwnB w' N v' (y ++ z) → Below N W w' → K (a.put o.dst v') w') : Oper.wp Tryz.prog o a W K Q := by
  obtain ⟨v', w', hr, h2, h3, h4⟩ := Lib.run_append_own_string (P := Tryz.prog) W N 138 9 o.type 5 Tryz.t5 Tryz.underlying138 Tryz.underlying9 info_u8 rfl rfl rfl v y.size (bc y) hown z (by unfold maxLen; omega) (by omega) hN
  unfold Oper.wp execOp
  simp only [ho, resolve, invoke, builtin, Sem.run_bind, Sem.run_pure, Result.andThen_ok, List.map_toArray, List.map_cons, List.map_nil, hs, hx, hr]
  refine h v' w' ?_ ((Below.refl _ _).grown h3 hN (fun k hk => (hown.lt k hk).1))
  show w'.ownsRow N 5 1 v' (y ++ z).size (bc (y ++ z))
  rw [ByteArray.size_append, bc_append]
  exact h2
theorem app_text {ops : Array Oper} {rest : List Oper} {o : Oper} {a : Act} {Q : Exit → Act → World → Prop} (hgd : o.guard = none) (sl x : Operand)
    (ho : o.op = .call { callee := .builtin .append, args := #[sl, x], argTypes := #[138, 9] }) (W : World) (N : Nat) (v : Value) (y : ByteArray) (hs : a.eval sl = v) (hown : OwnB W N v y)
    (z : ByteArray) (hx : a.eval x = .string z) (hb : y.size + z.size ≤ 1000000000) (hN : N ≤ W.heap.size)
    (h : ∀ v' w', OwnB w' N v' (y ++ z) → Below N W w' → wpList Tryz.prog ops Q rest (a.put o.dst v') w') : wpList Tryz.prog ops Q (o :: rest) a W :=
  wpList_plain hgd fun _ hK => opw_text sl x ho N v y hs hown z hx hb hN (fun v' w' h1 h2 => hK _ _ (h v' w' h1 h2))
theorem splice_mid {α : Type} (a b c d : List α) (h : d.length = b.length) : splice (a ++ (b ++ c)) a.length d = a ++ (d ++ c) := by
  unfold splice
  rw [List.take_left' rfl, List.drop_append, List.drop_eq_nil_of_le (by omega), List.nil_append, show a.length + d.length - a.length = d.length by omega, h, List.drop_left' rfl, List.append_assoc]
theorem own_keepB {w w' : World} {N B : Nat} {v : Value} {y : ByteArray} (h : OwnB w N v y) (hb : Below B w w') (hB : w.heap.size ≤ B) : OwnB w' N v y := own_keep h (fun k hk => hb.block k (by have := (h.lt k hk).2; omega))
def z4 : List Value := List.replicate 4 (.int .u8 0)
set_option maxHeartbeats 2000000 in
set_option maxRecDepth 20000 in
theorem appf_any (v : Value) (y r : ByteArray) (N : Nat) (w : World) (hown : OwnB w N v y) (hN0 : 0 < N) (hN : N ≤ w.heap.size) (hT : Tab w) (hr : r.size ≤ 65536) (hy : y.size ≤ 100000000) :
    Calls Tryz.prog 135 #[v, .string r] w fun e w' => ∃ v', e = .returned v' ∧ OwnB w' N v' (y ++ Wl.frame r) ∧ Below N w w' := by
  have HO : Hid (OwnB w N v y) := hown
  have HT : Hid (Tab w) := hT
  have HR0 : Hid ((w.alloc (.cells #[.int .u8 0, .int .u8 0, .int .u8 0, .int .u8 0, .int .u8 0, .int .u8 0, .int .u8 0, .int .u8 0] 200)).heap[w.heap.size]? = some (.cells ([] ++ (z4 ++ z4)).toArray 200 (0, 0))) := heap_alloc_new w _
  have HB0 : Hid (Below w.heap.size w (w.alloc (.cells #[.int .u8 0, .int .u8 0, .int .u8 0, .int .u8 0, .int .u8 0, .int .u8 0, .int .u8 0, .int .u8 0] 200))) := (Below.refl _ _).alloc (Nat.le_refl _) _
  clear hown hT
  go_enter Tryz.func135, Tryz.ntmps135
  go_wp2_with fail
  generalize World.alloc w _ = w0 at *
  have hw0 := HB0.out.size
  have HP1 := putn_any w.heap.size 0 4 4 r.size 200 _ w0 HR0.out (by simp [z4]) (by omega)
  refine HP1.mono ?_
  rintro e w' ⟨rfl, hw⟩
  rw [hw]
  clear hw w' HP1
  have HR1 : Hid ((w0.setCells w.heap.size 0 (nc r.size 4)).heap[w.heap.size]? = some (.cells (nc r.size 4 ++ (z4 ++ [])).toArray 200 (0, 0))) := by
    have := setCells_splice w.heap.size 200 (nc r.size 4) 0 _ w0 HR0.out (by rw [nc_length]; simp [z4])
    rw [show (0 : Nat) = ([] : List Value).length from rfl, splice_mid [] z4 z4 (nc r.size 4) (by rw [nc_length]; rfl)] at this
    rw [List.append_nil]
    exact this
  have HB1 : Hid (Below w.heap.size w (w0.setCells w.heap.size 0 (nc r.size 4))) := below_setCells (Nat.le_refl _) _ _ _ HB0.out
  generalize w0.setCells w.heap.size 0 (nc r.size 4) = w1 at *
  clear HR0 HB0 hw0 w0
  go_wp2_with fail
  obtain ⟨cap, w2, hcv, hcap, hby, hB2, _⟩ := bytes_of w1.drew r (by omega)
  have hbr := hby 0 r.size (by omega)
  rw [List.drop_zero, Sc.size_eq, List.take_length, ← Sc.size_eq] at hbr
  change Bytes w2 _ r.size (Wl.nb r) at hbr
  have HB2 : Hid (Below w.heap.size w w2) := HB1.out.drew.trans (hB2.mono HB1.out.size)
  have hlt1 : w.heap.size < w1.heap.size := (Array.getElem?_eq_some_iff.1 HR1.out).1
  have HR2 : Hid (w2.heap[w.heap.size]? = some (.cells (nc r.size 4 ++ (z4 ++ [])).toArray 200 (0, 0))) := (hB2.block _ hlt1).trans HR1.out
  have hbs : Bytes w2 (some ⟨w.heap.size, 0, none⟩) 4 (Wl.nb (Wl.put r.size 4)) := by
    refine ⟨by rw [Wl.nb, List.length_map, ← Sc.size_eq, Wl.put_size], Wl.nb_lt _, by omega, .inr ⟨w.heap.size, 0, rfl, fun i hi => ?_⟩⟩
    have hil : i < (Wl.put r.size 4).data.toList.length := by rw [← Sc.size_eq, Wl.put_size]; exact hi
    rw [cell_of_row w2 _ _ _ _ (0, 0) HR2.out, List.getElem?_toArray, Nat.zero_add, List.getElem?_append_left (by rw [nc_length]; exact hi), nc_bc, bc, List.getElem?_map, List.getElem?_eq_getElem hil, Wl.nb, List.getD_eq_getElem?_getD, List.getElem?_map, List.getElem?_eq_getElem hil]
    rfl
  have HSM : Hid (Calls Tryz.prog 127 #[.slice (some ⟨w.heap.size, 0, none⟩) 4 4, .slice (some ⟨w1.drew.heap.size, 0, none⟩) r.size cap] w2 fun e w' => e = .returned (.int .u32 (Crc.sum (Wl.nb (Wl.put r.size 4 ++ r)) : Nat)) ∧ w' = w2) := by
    rw [Wl.nb_append]
    exact sumof_any _ _ 4 4 r.size cap _ _ w2 hbs hbr (HT.out.below HB2.out (by omega))
  have hsl := sum_lt _ (Wl.nb_lt (Wl.put r.size 4 ++ r))
  have HP2 := putn_any w.heap.size 4 4 4 (Crc.sum (Wl.nb (Wl.put r.size 4 ++ r))) 200 _ w2 HR2.out (by rw [List.length_append, nc_length]; simp [z4]) (by omega)
  have HR3 : Hid ((w2.setCells w.heap.size 4 (nc (Crc.sum (Wl.nb (Wl.put r.size 4 ++ r))) 4)).heap[w.heap.size]? = some (.cells (bc (Wl.put r.size 4 ++ Wl.sum4 (Wl.put r.size 4 ++ r))).toArray 200 (0, 0))) := by
    have := setCells_splice w.heap.size 200 (nc (Crc.sum (Wl.nb (Wl.put r.size 4 ++ r))) 4) 4 _ w2 HR2.out (by rw [nc_length, List.length_append, nc_length]; simp [z4])
    have e := splice_mid (nc r.size 4) z4 [] (nc (Crc.sum (Wl.nb (Wl.put r.size 4 ++ r))) 4) (by rw [nc_length]; rfl)
    rw [nc_length] at e
    rw [e, List.append_nil, nc_bc, nc_bc, ← bc_append] at this
    rw [nc_bc]
    exact this
  have HB3 : Hid (Below w.heap.size w (w2.setCells w.heap.size 4 (nc (Crc.sum (Wl.nb (Wl.put r.size 4 ++ r))) 4))) := below_setCells (Nat.le_refl _) _ _ _ HB2.out
  have hs8 : (Wl.put r.size 4 ++ Wl.sum4 (Wl.put r.size 4 ++ r)).size = 8 := by rw [ByteArray.size_append, Wl.put_size, Wl.sum4_size]
  have HFR : Hid (y ++ (Wl.put r.size 4 ++ Wl.sum4 (Wl.put r.size 4 ++ r)) ++ r = y ++ Wl.frame r) := by
    unfold Wl.frame
    exact Wl.app_assoc _ _ _
  clear hbs hbr hby hB2 HR2 HR1
  generalize Wl.put r.size 4 ++ Wl.sum4 (Wl.put r.size 4 ++ r) = f8 at *
  generalize Crc.sum (Wl.nb (Wl.put r.size 4 ++ r)) = sm at *
  have HS : Hid ((fun _ : World => True) w1.drew) := trivial
  refine wp_region_held_drew (S := fun _ => True) (by kernel_rfl) HS.out (fun _ => ?_)
  refine heldTake 0 (some 13) (.slice (some ⟨w.heap.size, 4, none⟩) 4 4) rfl rfl (by kernel_rfl) (by kernel_rfl) (by kernel_rfl) (fun _ _ _ h => h) (Or.inl ⟨by rfl, fun w hS => ?_⟩) HS.out ?_
  · (go_simp)
  simp only [Act.put, List.setIfInBounds_toArray, List.set_cons_zero, List.set_cons_succ]
  refine heldTake 1 (some 14) (.slice (some ⟨w.heap.size, 0, none⟩) 4 4) rfl rfl (by kernel_rfl) (by kernel_rfl) (by kernel_rfl) (fun _ _ _ h => h) (Or.inl ⟨by rfl, fun w hS => ?_⟩) HS.out ?_
  · (go_simp)
  simp only [Act.put, List.setIfInBounds_toArray, List.set_cons_zero, List.set_cons_succ]
  refine heldTake 2 (some 15) (.string r) rfl rfl (by kernel_rfl) (by kernel_rfl) (by kernel_rfl) (fun _ _ _ h => h) (Or.inl ⟨by rfl, fun w hS => ?_⟩) HS.out ?_
  · (go_simp)
  simp only [Act.put, List.setIfInBounds_toArray, List.set_cons_zero, List.set_cons_succ]
  refine heldOne 3 (by kernel_rfl) rfl (by rfl) (fun KK hK => ?_)
  go_simp
  refine hK.out _ _ trivial ?_
  clear hK KK
  refine heldOne 4 (by kernel_rfl) rfl (by rfl) (fun KK hK => ?_)
  go_simp
  go_at_call 127
  refine HSM.out.mono ?_
  rintro e w' ⟨rfl, hw⟩
  rw [hw]
  clear hw w'
  refine hK.out _ _ trivial ?_
  clear hK KK
  refine heldTake 5 (some 18) (.int .u64 (sm : Int)) rfl rfl (by kernel_rfl) (by kernel_rfl) (by kernel_rfl) (fun _ _ _ h => h) (Or.inl ⟨by rfl, fun w hS => ?_⟩) HS.out ?_
  · (go_simp; rw [IntKind.wrap_u64]; omega)
  simp only [Act.put, List.setIfInBounds_toArray, List.set_cons_zero, List.set_cons_succ]
  refine heldOne 6 (by kernel_rfl) rfl (by rfl) (fun KK hK => ?_)
  go_simp
  go_at_call 140
  refine HP2.mono ?_
  rintro e w' ⟨rfl, hw⟩
  rw [hw]
  clear hw w'
  refine hK.out _ _ trivial ?_
  clear hK KK
  refine wpAnyH_done (by kernel_rfl) ?_ _
  generalize w2.setCells w.heap.size 4 (nc sm 4) = w3 at *
  have HO3 : Hid (OwnB w3 N v y) := own_keepB HO.out HB3.out (Nat.le_refl _)
  have hw3 := HB3.out.size
  clear HP2 HSM HB2 HB1 hcv
  go_wp2_with (first | (refine app_bytes rfl (.tmp 20) (.tmp 21) rfl _ N v y rfl HO3.out ⟨w.heap.size, 0, none⟩ 8 f8 (by rw [hs8]; rfl) (fun j u hj => by rw [Addr.add_mid]; exact range_all HR3.out j u hj) (by omega) (by omega) ?_; intro v4 w4 hO4 hB4; have HO4 := (show Hid (OwnB w4 N v4 (y ++ f8)) from hO4); have HB4 : Hid (Below N w w4) := (HB3.out.mono hN).trans hB4; have hw4 := HB4.out.size; clear hO4 hB4) | (refine app_text rfl (.tmp 23) (.tmp 24) rfl _ N v4 (y ++ f8) rfl HO4.out r rfl (by rw [ByteArray.size_append]; omega) (by omega) ?_; intro v5 w5 hO5 hB5; have HFN : Hid (OwnB w5 N v5 (y ++ Wl.frame r) ∧ Below N w w5) := ⟨(by rw [← HFR.out]; exact hO5), HB4.out.trans hB5⟩; clear hO5 hB5))
  go_ret
  exact ⟨_, rfl, HFN.out⟩
end Go.Proofs.YtcfninpokngmlaaGreatDoor
/- Proved: laws for texts that are appended to lists of texts. -/
namespace Go.Proofs.YtcfninpokngmlaaGreatDoor
open Go.RowKit
theorem info_str : Tryz.prog.info? 9 = some Tryz.t9 := by kernel_rfl
/- a list of texts that lies in a block of its own, from N on -/
abbrev OwnS (w : World) (N : Nat) (v : Value) (rs : List ByteArray) : Prop := w.ownsRow N 9 1 v rs.length (rs.map Value.string)
theorem grown_refl (W : World) (row : Option Nat) : W.grownBy W row := ⟨rfl, rfl, rfl, Nat.le_refl _, fun _ _ _ => rfl⟩
theorem run_many (W : World) (N : Nat) (ty : TypeId) (v u : Value) (rs gs : List ByteArray) (hown : OwnS W N v rs) (hsrc : OwnS W 0 u gs) (hb : rs.length + gs.length ≤ 10000000) (hN : N ≤ W.heap.size) :
    ∃ v' w', (Builtin.append_ #[114, 114] ty #[v, u]).run Tryz.prog W = .ok v' w' ∧ OwnS w' N v' (rs ++ gs) ∧ W.grownBy w' v.ownBlock ∧ (v'.ownBlock = v.ownBlock ∨ v'.ownBlock = some W.heap.size) := by
  rcases hsrc.2 with ⟨hu, hl⟩ | ⟨pg, pcap, cur, hu, _, hh, _, _, _, ht⟩
  · obtain rfl : gs = [] := List.length_eq_zero_iff.1 hl
    subst hu
    rw [List.append_nil]
    rcases hown.2 with ⟨hv, hl2⟩ | ⟨g', cap', cur', hv, hNg, hg, hc, hm, hcs, htk⟩
    · subst hv
      refine ⟨.slice none 0 0, W, ?_, hown, grown_refl _ _, .inl rfl⟩
      have hf := run_firstCells_none (P := Tryz.prog) W 1 0 0 0
      have hu := Tryz.underlying114
      have hs1 : Tryz.t9.size = 1 := rfl
      simp [Builtin.append_, run_underlying hu, sizeOf, typeInfo, info_str, hs1, Builtin.lenOf, hf]
    · have hr := run_append_room_src (P := Tryz.prog) W 114 114 ty 9 Tryz.t9 Tryz.underlying114 info_str g' 0 rs.length cap' (.slice none 0 0) 0 [] (Src.ofNil W Tryz.underlying114 0) hc (fun j hj => by cases hj) (fun j hj => by cases hj)
      have e0 : W.setCells g' (0 + rs.length * Tryz.t9.size) [] = W := rfl
      rw [e0, Nat.add_zero, ← hv] at hr
      exact ⟨_, _, hr, hown, grown_refl _ _, .inl rfl⟩
  · subst hu
    obtain ⟨v', w', hr, h2, h3, h4, h5⟩ := run_append_own_at (P := Tryz.prog) W N 114 ty 9 Tryz.t9 (.string ByteArray.empty) 1 16 Tryz.underlying114 info_str rfl rfl rfl rfl (by omega) v rs.length (rs.map Value.string) hown ⟨pg, 0, none⟩ gs.length pcap (gs.map Value.string) (by simp) (fun j z hj => by
      have hjl := (List.getElem?_eq_some_iff.1 hj).1
      rw [Addr.add_mid, Nat.zero_add, cell_of_row W pg j cur _ (0, 0) hh, ← Array.getElem?_toList]
      rw [← ht] at hj
      rwa [List.getElem?_take_of_lt (by simpa using hjl)] at hj) (fun z hz => by obtain ⟨r, _, rfl⟩ := List.mem_map.1 hz; rfl) (by unfold maxLen; omega) (by omega) hN
    rw [← List.map_append, ← List.length_append] at h2
    exact ⟨v', w', hr, h2, h3, h5⟩
theorem opw_many {o : Oper} {a : Act} {W : World} {K : Act → World → Prop} {Q : Exit → Act → World → Prop} (sl x : Operand) (d : Option Tmp) (hd : o.dst = d)
    (ho : o.op = .call { callee := .builtin .append, args := #[sl, x], argTypes := #[114, 114] }) (N : Nat) (v u : Value) (rs gs : List ByteArray) (hs : a.eval sl = v) (hown : OwnS W N v rs) (hx : a.eval x = u) (hsrc : OwnS W 0 u gs) (hb : rs.length + gs.length ≤ 10000000) (hN : N ≤ W.heap.size)
    (h : ∀ v' w', OwnS w' N v' (rs ++ gs) → W.grownBy w' v.ownBlock → (v'.ownBlock = v.ownBlock ∨ v'.ownBlock = some W.heap.size) → K (a.put d v') w') : Oper.wp Tryz.prog o a W K Q := by
  subst hd
  obtain ⟨v', w', hr, h2, h3, h4⟩ := run_many W N o.type v u rs gs hown hsrc hb hN
  unfold Oper.wp execOp
  simp only [ho, resolve, invoke, builtin, Sem.run_bind, Sem.run_pure, Result.andThen_ok, List.map_toArray, List.map_cons, List.map_nil, hs, hx, hr]
  exact h v' w' h2 h3 h4
theorem app_many {ops : Array Oper} {rest : List Oper} {o : Oper} {a : Act} {Q : Exit → Act → World → Prop} (hgd : o.guard = none) (sl x : Operand)
    (ho : o.op = .call { callee := .builtin .append, args := #[sl, x], argTypes := #[114, 114] }) (W : World) (N : Nat) (v u : Value) (rs gs : List ByteArray) (hs : a.eval sl = v) (hown : OwnS W N v rs) (hx : a.eval x = u) (hsrc : OwnS W 0 u gs) (hb : rs.length + gs.length ≤ 10000000) (hN : N ≤ W.heap.size)
    (h : ∀ v' w', OwnS w' N v' (rs ++ gs) → W.grownBy w' v.ownBlock → (v'.ownBlock = v.ownBlock ∨ v'.ownBlock = some W.heap.size) → wpList Tryz.prog ops Q rest (a.put o.dst v') w') : wpList Tryz.prog ops Q (o :: rest) a W :=
  wpList_plain hgd fun _ hK => opw_many sl x o.dst rfl ho N v u rs gs hs hown hx hsrc hb hN (fun v' w' h1 h2 h3 => hK _ _ (h v' w' h1 h2 h3))
/- one text that lies in a new block -/
theorem own_new (W : World) (t : ByteArray) : OwnS (W.alloc (.cells #[.string t] 9)) 0 (.slice (some ⟨W.heap.size, 0, none⟩) 1 1) [t] := ⟨rfl, .inr ⟨W.heap.size, 1, _, rfl, Nat.zero_le _, heap_alloc_new W _, Nat.le_refl _, by unfold maxLen; omega, rfl, rfl⟩⟩
theorem own_alloc {w : World} {N e k n : Nat} {v : Value} {vs : List Value} (h : w.ownsRow N e k v n vs) (o : Obj) : (w.alloc o).ownsRow N e k v n vs := own_keep h (fun k hk => Below.heap_alloc w o k (h.lt k hk).2)
theorem own_below {w w' : World} {N e k n : Nat} {v : Value} {vs : List Value} (h : w.ownsRow N e k v n vs) (hb : Below w.heap.size w w') : w'.ownsRow N e k v n vs := own_keep h (fun k hk => hb.block k (h.lt k hk).2)
theorem own_zero {w : World} {N n : Nat} {v : Value} {vs : List Value} {e : TypeId} {k : Nat} (h : w.ownsRow N e k v n vs) : w.ownsRow 0 e k v n vs := by
  obtain ⟨h0, h1⟩ := h
  refine ⟨h0, ?_⟩
  rcases h1 with h1 | ⟨g, cap', cur, hv, _, r⟩
  · exact .inl h1
  · exact .inr ⟨g, cap', cur, hv, Nat.zero_le _, r⟩
theorem below_grown {N : Nat} {W w' : World} {e k n : Nat} {v : Value} {vs : List Value} (h : W.grownBy w' v.ownBlock) (hown : W.ownsRow N e k v n vs) (hN : N ≤ W.heap.size) : Below N W w' := (Below.refl _ _).grown h hN (fun k hk => (hown.lt k hk).1)
/- a list of texts, cell by cell -/
theorem own_strs {w : World} {N n : Nat} {v : Value} {rs : List ByteArray} (h : w.ownsRow N 9 1 v n (rs.map Value.string)) : ∃ a cap, v = .slice a n cap ∧ n ≤ cap ∧ cap ≤ 9223372036854775807 ∧ (0 < n → ∃ g, a = some ⟨g, 0, none⟩ ∧ v.ownBlock = some g ∧ ∀ i r, rs[i]? = some r → w.cell? ⟨g, i, none⟩ = some (.string r)) := by
  have hl : rs.length = n := by have := h.1; simpa using this
  rcases h.2 with ⟨h1, h2⟩ | ⟨g, cap, cur, hv, _, hh, hc, hm, hs, ht⟩
  · exact ⟨none, 0, by rw [h2]; exact h1, by omega, by omega, fun h => by omega⟩
  · unfold maxLen at hm
    refine ⟨_, cap, hv, hc, by omega, fun _ => ⟨g, rfl, by rw [hv]; rfl, fun i r hr => ?_⟩⟩
    have hi := (List.getElem?_eq_some_iff.1 hr).1
    rw [cell_of_row w g i cur _ (0, 0) hh, ← Array.getElem?_toList]
    have e : (cur.toList.take (n * 1))[i]? = (rs.map Value.string)[i]? := by rw [ht]
    rw [List.getElem?_take_of_lt (by omega)] at e
    rw [e, List.getElem?_map, hr]
    rfl
end Go.Proofs.YtcfninpokngmlaaGreatDoor
