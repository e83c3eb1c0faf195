/- Proved: what strings.TrimLeft of noughts answers, and what wal's readHead tells of a head. -/
import Derived.Test.YtcfninpokngmlaaGreatDoorPHead
namespace Go.Proofs.YtcfninpokngmlaaGreatDoor
open Go.RowKit
theorem byte_at (x : ByteArray) (m : Nat) (c : UInt8) (h : x.data.toList[m]? = some c) (hm : m < x.size) : x[m]'hm = c := by
  rw [Array.getElem?_toList] at h
  exact (Array.getElem?_eq_some_iff.1 h).2
set_option maxHeartbeats 1000000 in
theorem trimB_zero (y : ByteArray) (m : Nat) (w : World) (hy : y.data.toList = List.replicate m 0) :
    Calls Tryz.prog 136 #[.string y, .int .u8 0] w fun e w' => (∃ z : ByteArray, e = .returned (.string z) ∧ z.size = 0) ∧ w' = w := by
  go_enter Tryz.func136, Tryz.ntmps136
  go_wp2_with fail
  go_loopw [0] (fun s0 wr => ∃ (j : Nat) (z : ByteArray), j ≤ m ∧ s0 = .string z ∧ z.data.toList = List.replicate j 0 ∧ wr = w) (fun s0 _ => match s0 with | .string z => z.size | _ => 0)
  case atStart => exact ⟨m, y, by omega, rfl, hy, rfl⟩
  case round =>
    obtain ⟨j, z, hj, rfl, hz, hwr⟩ := hrel
    subst hwr
    have hs : z.size = j := by rw [Sc.size_eq, hz, List.length_replicate]
    by_cases h0 : 0 < j
    · have dj : decide ((0 : Int) < (z.size : Int)) = true := decide_eq_true (by omega)
      have hb : ∀ h, (z[0]'h) = 0 := fun h => byte_at z 0 0 (by rw [hz, List.getElem?_replicate, if_pos h0]) h
      have hx : (z.extract 1 z.size).data.toList = List.replicate (j - 1) 0 := by
        rw [Wl.ext_ext, Sc.size_eq, List.take_length, hz, List.drop_replicate]
      have hxs : (z.extract 1 z.size).size = z.size - 1 := by rw [Sc.size_eq, hx, List.length_replicate]; omega
      have HFN : Hid (∃ (j' : Nat) (z' : ByteArray), j' ≤ m ∧ Value.string (z.extract 1 z.size) = .string z' ∧ z'.data.toList = List.replicate j' 0) := ⟨j - 1, _, by omega, rfl, hx⟩
      have hz1 : 1 ≤ z.size := by omega
      clear hx hz hs
      go_wp2
      go_roundw
      case rel =>
        obtain ⟨j', z', h1, h2, h3⟩ := HFN.out
        exact ⟨j', z', h1, h2, h3, trivial⟩
      case measure =>
        simp only [hxs]
        omega
    · have dj : ¬ 0 < z.size := by omega
      have HZ : Hid (z.size = 0) := by show z.size = 0; omega
      clear hz hs h0
      go_wp2
      go_ret
      exact ⟨⟨_, rfl, HZ.out⟩, rfl⟩
set_option maxHeartbeats 1000000 in
theorem trimB_head (y : ByteArray) (b : UInt8) (w : World) (hy : y.data.toList[0]? = some b) (hb : b ≠ 0) :
    Calls Tryz.prog 136 #[.string y, .int .u8 0] w fun e w' => e = .returned (.string y) ∧ w' = w := by
  have hs : 0 < y.size := by rw [Sc.size_eq]; exact (List.getElem?_eq_some_iff.1 hy).1
  have h0 : ∀ h, (y[0]'h) = b := fun h => byte_at y 0 b hy h
  have hbn : b.toNat ≠ 0 := fun e => hb (by rw [← UInt8.toNat_inj, e]; rfl)
  have hbb : ((b.toNat : Int) == 0) = false := by rw [beq_eq_false_iff_ne]; omega
  have dj : decide ((0 : Int) < (y.size : Int)) = true := decide_eq_true (by omega)
  go_enter Tryz.func136, Tryz.ntmps136
  go_wp2_with fail
  go_loopw [0] (fun s0 wr => s0 = .string y ∧ wr = w) (fun _ _ => 0)
  case atStart => exact ⟨rfl, rfl⟩
  case round =>
    obtain ⟨rfl, hwr⟩ := hrel
    subst hwr
    clear hb hbn hy
    go_wp2
    go_ret
    exact ⟨rfl, rfl⟩
set_option maxHeartbeats 1000000 in
set_option maxRecDepth 20000 in
theorem trim_zero (y : ByteArray) (m : Nat) (w : World) (hy : y.data.toList = List.replicate m 0) (h0 : 0 < m) :
    Calls Tryz.prog 124 #[.string y, .string ⟨#[0]⟩] w fun e w' => (∃ z : ByteArray, e = .returned (.string z) ∧ z.size = 0) ∧ w' = w := by
  have HT := trimB_zero y m w hy
  have hs : y.size = m := by rw [Sc.size_eq, hy, List.length_replicate]
  have he : y.toList.isEmpty = false := by rw [ByteArray.toList_eq, hy]; cases m with | zero => omega | succ m => rfl
  clear hy
  go_enter Tryz.func124, Tryz.ntmps124
  go_wp2_with fail
  refine HT.mono ?_
  rintro e w' ⟨⟨z, rfl, hz⟩, hw⟩
  rw [hw]
  go_wp2
  go_ret
  exact ⟨⟨_, rfl, hz⟩, rfl⟩
set_option maxHeartbeats 1000000 in
set_option maxRecDepth 20000 in
theorem trim_head (y : ByteArray) (b : UInt8) (w : World) (hy : y.data.toList[0]? = some b) (hb : b ≠ 0) :
    Calls Tryz.prog 124 #[.string y, .string ⟨#[0]⟩] w fun e w' => e = .returned (.string y) ∧ w' = w := by
  have HT := trimB_head y b w hy hb
  have he : y.toList.isEmpty = false := by
    rw [ByteArray.toList_eq]
    cases h : y.data.toList with
    | nil => rw [h] at hy; simp at hy
    | cons c l => rfl
  clear hy
  go_enter Tryz.func124, Tryz.ntmps124
  go_wp2_with fail
  refine HT.mono ?_
  rintro e w' ⟨rfl, hw⟩
  rw [hw]
  go_wp2
  go_ret
  exact ⟨rfl, rfl⟩
/- a head's sector, read -/
theorem u8_eq {a b : ByteArray} (h : a = b) : (a.toList == b.toList) = true := by rw [h]; simp
set_option maxHeartbeats 2000000 in
set_option maxRecDepth 20000 in
theorem readHead_zero (w : World) :
    Calls Tryz.prog 97 #[.string Sc.zero64] w fun r w' => r = .returned (.tuple #[.int .u64 0, .int .u64 0, .bool true]) ∧ w' = w := by
  have HT := trim_zero Sc.zero64 64 w zero64_list (by omega)
  generalize Sc.zero64 = y at *
  go_enter Tryz.func97, Tryz.ntmps97
  go_wp2_with fail
  refine HT.mono ?_
  rintro e w' ⟨⟨z, rfl, hz⟩, hw⟩
  rw [hw]
  have he : z.toList.isEmpty = true := by rw [ByteArray.toList_eq, List.isEmpty_iff, ← List.length_eq_zero_iff, ← Sc.size_eq]; exact hz
  clear hz hw
  go_wp2
  go_ret3
  exact ⟨rfl, rfl⟩
/- '[]byte(s)': a row of the call's own with its bytes -/
theorem bytes_of (w : World) (x : ByteArray) (hx : x.size ≤ 9223372036854775807) : ∃ cap w1, (convert 9 138 (.string x)).run Tryz.prog w = .ok (.slice (some ⟨w.heap.size, 0, none⟩) x.size cap) w1 ∧ x.size ≤ cap ∧ (∀ off k, off + k ≤ x.size → Bytes w1 (some ⟨w.heap.size, off, none⟩) k (((x.data.toList.drop off).take k).map UInt8.toNat)) ∧ Below w.heap.size w w1 ∧ w1.heap.size = w.heap.size + 1 := by
  have hs := Sc.size_eq x
  refine ⟨_, _, run_bytes_of_string (P := Tryz.prog) w 9 138 5 x Tryz.underlying9 Tryz.underlying138 Tryz.underlying5, grownCap_ge _ _ _ _, fun off k hk => ⟨by rw [List.length_map, List.length_take, List.length_drop]; omega, fun n hn => ?_, by omega, .inr ⟨w.heap.size, off, rfl, fun i hi => ?_⟩⟩, ((Below.refl _ w).drew.alloc (Nat.le_refl _) _), by simp⟩
  · obtain ⟨b, _, rfl⟩ := List.mem_map.1 hn
    exact b.toNat_lt
  · have hj : off + i < x.data.toList.length := by omega
    have hj2 : off + i < x.size := by omega
    show World.cell? _ ⟨w.drew.heap.size, off + i, none⟩ = _
    rw [cell_of_row _ _ _ _ _ _ (heap_alloc_new w.drew _)]
    unfold bytesRow
    rw [Array.getElem?_append_left (by rw [Array.size_map]; exact hj2), Array.getElem?_map, ← Array.getElem?_toList, List.getElem?_eq_getElem hj, List.getD_eq_getElem?_getD, List.getElem?_map, List.getElem?_take_of_lt hi, List.getElem?_drop, List.getElem?_eq_getElem hj]
    rfl
set_option maxHeartbeats 2000000 in
set_option maxRecDepth 20000 in
theorem readHead_any (e l : Nat) (w : World) (hT : Tab w) (he : e < 18446744073709551616) (hl : l < 4294967296) :
    Calls Tryz.prog 97 #[.string (Wl.head e l)] w fun r w' => r = .returned (.tuple #[.int .u64 (e : Int), .int .u64 (l : Int), .bool true]) ∧ Below w.heap.size w w' := by
  have hpos := hT.pos
  have HT := trim_head (Wl.head e l) 65 w (by rw [Wl.head_list]; rfl) (by decide)
  have hsz := Wl.head_size e l
  obtain ⟨cap, w1, hcv, hcap, hby, hB1, hsz1⟩ := bytes_of w (Wl.head e l) (by omega)
  have ml : Wl.magic.data.toList.length = 4 := rfl
  have e1 : ((Wl.head e l).data.toList.drop 4).take 8 = Wl.putL e 8 := by
    rw [Wl.head_list, List.drop_left' ml, List.take_left' (Wl.putL_length 8 e)]
  have e2 : ((Wl.head e l).data.toList.drop 12).take 4 = Wl.putL l 4 := by
    rw [Wl.head_list, ← List.append_assoc, List.drop_left' (by rw [List.length_append, Wl.putL_length, ml]), List.take_left' (Wl.putL_length 4 l)]
  have hb1 := hby 4 8 (by omega)
  have hb2 := hby 12 4 (by omega)
  rw [e1] at hb1
  rw [e2] at hb2
  have HN1 := number_any _ 8 (cap - 4) _ w1 hb1 (by omega)
  have HN2 := number_any _ 4 (cap - 12) _ w1 hb2 (by omega)
  rw [Wl.getL_putL 8 e (by omega)] at HN1
  rw [Wl.getL_putL 4 l (by omega)] at HN2
  have HHD : Hid (Calls Tryz.prog 126 #[.int .u64 (e : Int), .int .u64 (l : Int)] w1 fun r w' => r = .returned (.string (Wl.head e l)) ∧ Below w1.heap.size w1 w') := head_any e l w1 (hT.below hB1 hpos) he (by omega)
  have HB1 : Hid (Below w.heap.size w w1) := hB1
  have hne : (Wl.head e l).toList.isEmpty = false := by
    rw [ByteArray.toList_eq]
    cases h : (Wl.head e l).data.toList with
    | nil => have := congrArg List.length h; rw [← Sc.size_eq, hsz] at this; simp at this
    | cons c t => rfl
  clear hT hby hb1 hb2 e1 e2 ml hB1 hsz1
  rw [hsz] at hcv
  generalize Wl.head e l = hd at *
  have c1 : (12 : Int) ≤ (cap : Int) := by omega
  have c2 : (16 : Int) ≤ (cap : Int) := by omega
  go_enter Tryz.func97, Tryz.ntmps97
  go_wp2_with fail
  refine HT.mono ?_
  rintro r w' ⟨rfl, hw⟩
  rw [hw]
  clear hw w'
  go_wp2_with fail
  refine HN1.mono ?_
  rintro r w' ⟨rfl, hw⟩
  rw [hw]
  clear hw w'
  go_wp2_with fail
  refine HN2.mono ?_
  rintro r w' ⟨rfl, hw⟩
  rw [hw]
  clear hw w'
  go_wp2_with fail
  refine HHD.out.mono ?_
  rintro r w2 ⟨rfl, hB2⟩
  go_wp2
  go_ret3
  exact ⟨by simp, HB1.out.trans (hB2.mono HB1.out.size)⟩
end Go.Proofs.YtcfninpokngmlaaGreatDoor
