/- Proved: the walk of the law PageTurned answers true. Condition: the table of the sums holds its sixteen numbers. -/
import Derived.Test.YtlcbkockmhfllaaDoorBack
namespace Go.Proofs.YtlcbkockmhfllaaDoor
open Go.RowKit
theorem bit_at (r k : Nat) (h : r < 4294967296) : bits .and .u32 ((r : Int) / 2 ^ k) 1 = ((r / 2 ^ k % 2 : Nat) : Int) := by
  rw [show ((r : Int) / 2 ^ k) = ((r / 2 ^ k : Nat) : Int) by simp]
  exact and1 _ (Nat.lt_of_le_of_lt (Nat.div_le_self _ _) h)
theorem bit_test {x : Int} {n : Nat} (h : x = (n : Int)) : (x == 1) = decide (n = 1) := by
  subst h
  by_cases e : n = 1
  · subst e; rfl
  · rw [decide_eq_false e, beq_eq_false_iff_ne]; omega
theorem xor_bit (x p : Nat) (hx : x < 256) : bits .xor .u8 (x : Int) ((2 : Int) ^ (p % 8) % 256) = ((x ^^^ 2 ^ (p % 8) : Nat) : Int) := by
  have h := Crc.bit8 p
  have e : (2 : Int) ^ (p % 8) % 256 = ((2 ^ (p % 8) : Nat) : Int) := by
    have : ((2 ^ (p % 8) : Nat) : Int) = (2 : Int) ^ (p % 8) := by simp
    rw [← this]
    generalize 2 ^ (p % 8) = q at *
    omega
  rw [e, u8_xor_nat _ _ hx h]
def V8 (n : Nat) : Value := .int .u8 (n : Int)
/- 512 bytes that may be written -/
structure Buf (w : World) (N g : Nat) (bs : List Nat) : Prop where
  row : ∃ (cur : Array Value) (fr : Nat × Nat), w.heap[g]? = some (.cells cur 5 fr) ∧ cur.toList.take 512 = bs.map V8 ∧ 512 ≤ fr.1
  len : bs.length = 512
  lt : ∀ x ∈ bs, x < 256
  above : N ≤ g
theorem Buf.at {w : World} {N g : Nat} {bs : List Nat} (h : Buf w N g bs) (i : Nat) (hi : i < 512) : w.cell? ⟨g, i, none⟩ = some (.int .u8 (bs.getD i 0 : Nat)) ∧ w.frozen? ⟨g, i, none⟩ = false := by
  obtain ⟨cur, ⟨lo, hi'⟩, hh, ht, hf⟩ := h.row
  have hl := h.len
  refine ⟨?_, ?_⟩
  · rw [cell_of_row w g i cur _ _ hh]
    have e : (cur.toList.take 512)[i]? = (bs.map V8)[i]? := by rw [ht]
    rw [List.getElem?_take_of_lt hi, List.getElem?_map, Array.getElem?_toList] at e
    rw [e, List.getElem?_eq_getElem (by omega), List.getD_eq_getElem?_getD, List.getElem?_eq_getElem (by omega)]; rfl
  · simp only [World.frozen?, hh]
    simp only at hf
    simp
    omega
theorem Buf.set {w : World} {N g : Nat} {bs : List Nat} (h : Buf w N g bs) (i y : Nat) (hy : y < 256) : Buf (w.setCell ⟨g, i, none⟩ (.int .u8 (y : Nat))) N g (bs.set i y) := by
  obtain ⟨cur, fr, hh, ht, hf⟩ := h.row
  refine ⟨⟨cur.setIfInBounds i (.int .u8 (y : Nat)), fr, ?_, ?_, hf⟩, by rw [List.length_set]; exact h.len, fun x hx => ?_, h.above⟩
  · rw [setCell_eq_setRow w g i cur _ fr _ hh]
    exact setRow_heap w g cur _ _ _ hh
  · rw [Array.toList_setIfInBounds, List.take_set, ht, List.map_set]; rfl
  · rcases List.mem_or_eq_of_mem_set hx with h' | h'
    · exact h.lt x h'
    · rw [h']; exact hy
theorem Buf.new (w : World) (N : Nat) (x : ByteArray) (hx : x.size = 512) (hN : N ≤ w.heap.size) : ∃ cap w1, (convert 9 38 (.string x)).run Tryd.prog w = .ok (.slice (some ⟨w.heap.size, 0, none⟩) 512 cap) w1 ∧ 512 ≤ cap ∧ Buf w1 N w.heap.size (Wl.nb x) ∧ Below w.heap.size w w1 := by
  have hr := run_bytes_of_string (P := Tryd.prog) w 9 38 5 x Tryd.underlying9 Tryd.underlying38 Tryd.underlying5
  have hc := grownCap_ge w x.size 0 5
  have hxs := Sc.size_eq x
  have hbz : 512 ≤ (bytesRow x (grownCap w x.size 0 5)).size := by
    unfold bytesRow
    rw [Array.size_append, Array.size_map, ← Array.length_toList, ← hxs]
    omega
  have ht : (bytesRow x (grownCap w x.size 0 5)).toList.take 512 = (Wl.nb x).map V8 := by
    unfold bytesRow Wl.nb
    rw [Array.toList_append, Array.toList_map, List.take_left' (by rw [List.length_map, ← hxs, hx]), List.map_map]
    rfl
  generalize bytesRow x (grownCap w x.size 0 5) = row at *
  refine ⟨grownCap w x.size 0 5, _, by rw [hr, hx], by omega, ⟨⟨row, _, heap_alloc_new w.drew _, ht, hbz⟩, by rw [Pg.nb_length, hx], Wl.nb_lt x, hN⟩, (Below.refl _ w).drew.alloc (Nat.le_refl _) _⟩
/- what is read back as a text -/
theorem Buf.text {w : World} {N g : Nat} {bs : List Nat} (h : Buf w N g bs) (cap : Nat) : ∃ x : ByteArray, Wl.nb x = bs ∧ (convert 38 9 (.slice (some ⟨g, 0, none⟩) 512 cap)).run Tryd.prog w = .ok (.string x) w := by
  have hl := h.len
  have e : Wl.nb (Wl.ob (bs.map UInt8.ofNat)) = bs := by
    unfold Wl.nb
    rw [Wl.ob_list, List.map_map]
    conv => rhs; rw [← List.map_id bs]
    apply List.map_congr_left
    intro x hx
    have := h.lt x hx
    simp [UInt8.toNat_ofNat']
    omega
  have hz : (Wl.ob (bs.map UInt8.ofNat)).size = 512 := by rw [Wl.ob_size, List.length_map, hl]
  refine ⟨Wl.ob (bs.map UInt8.ofNat), e, ?_⟩
  have hr := str_of (w := w) (b := g) (x := Wl.ob (bs.map UInt8.ofNat)) (fun j u hu => by
    have hj : j < 512 := by
      have := (List.getElem?_eq_some_iff.1 hu).1
      rwa [bc_length, hz] at this
    have h1 := (h.at j hj).1
    rw [Nat.zero_add, h1, ← hu, bc_ob, List.map_map, List.getElem?_map, List.getElem?_eq_getElem (by omega), List.getD_eq_getElem?_getD, List.getElem?_eq_getElem (by omega)]
    have hx := h.lt (bs[j]) (List.getElem_mem _)
    simp [UInt8.toNat_ofNat']
    omega) cap
  rwa [hz] at hr
set_option maxHeartbeats 4000000 in
set_option maxRecDepth 20000 in
theorem turned_walk (s : ByteArray) (z : Int) (c : Nat) (w : World) (_hs : s.size ≤ 9223372036854775807) (_hz : In64 z) (hcc : c < 4294967296) (hT : Tab w) :
    Calls Tryd.prog 7 #[.string s, .int .i64 z, .int .u32 (c : Int)] w fun e w' => e = .returned (.bool true) ∧ Below w.heap.size w w' := by
  have hpos := hT.pos
  have HT : Hid (Tab w) := hT
  have hmin : min (s.size : Int) 500 = ((min s.size 500 : Nat) : Int) := by omega
  have hn1 : min s.size 500 ≤ s.size := by omega
  have hn5 : min s.size 500 ≤ 500 := by omega
  generalize min s.size 500 = n at *
  have n0 : (0 : Int) ≤ (n : Int) := by omega
  have n1 : (n : Int) ≤ (s.size : Int) := by omega
  have hbs : (s.extract 0 n).size ≤ 500 := by rw [Pg.ext_size s 0 n hn1]; omega
  generalize hb : s.extract 0 n = b at *
  obtain ⟨t, k, ht, hta, htb, hk1, hk2, hkd⟩ := place_in z 4096 (by omega)
  rw [show ((4096 : Nat) : Int) = 4096 from rfl] at ht hta htb hk1 hk2
  obtain ⟨hS, hE⟩ := seal_good (i := 3) (k := 2) (b := b) (by omega) (by omega) (by omega) hbs
  rw [show (((3 : Nat) : Int)) = (3 : Int) from rfl, show (((2 : Nat) : Int)) = (2 : Int) from rfl] at hS hE
  have H1 := seal_any 3 2 b w hT
  rw [hS, hE] at H1
  have hsz := Pg.page_size (id := 3) (kind := 2) (b := b) hbs
  have HO0 : Hid (Pg.openE 3 (Pg.page 3 2 b) = 0) := (open_own (i := 3) (k := 2) (by omega) (by omega) (by omega) hbs).1
  have HOT : Hid (∀ (x : ByteArray) (i : Nat), Wl.nb x = Crc.burst (Wl.nb (Pg.page 3 2 b)) k c i → k + i ≤ 4096 → Crc.chg c i = true → Pg.openE 3 x = 6) := fun x i hx hki hch => Pg.turned hbs x k c i hki hcc hx 3 hch
  have HOU : Hid (∀ (x : ByteArray) (i : Nat), Wl.nb x = Crc.burst (Wl.nb (Pg.page 3 2 b)) k c i → Crc.chg c i = false → x = Pg.page 3 2 b) := fun x i hx hch => Pg.unturned x k c i hx hch
  clear hS hE hT hbs
  generalize Pg.page 3 2 b = pg at *
  have hpz : (pg.size : Int) = 512 := by omega
  go_enter Tryd.func7, Tryd.ntmps7
  go_wp2_with fail
  refine H1.mono ?_
  rintro e w1 ⟨rfl, hB1⟩
  have HB1 : Hid (Below w.heap.size w w1) := hB1
  clear hB1 H1
  obtain ⟨cap, w2, hcv, hcap, hBf, hB2⟩ := Buf.new w1 w.heap.size pg hsz HB1.out.size
  have HBf : Hid (Buf w2 w.heap.size w1.heap.size (Wl.nb pg)) := hBf
  have HB2 : Hid (Below w.heap.size w w2) := below_next HB1.out hB2 HB1.out.size
  clear hBf hB2 HB1 hsz
  go_wp2_with fail
  clear hcv
  generalize w1.heap.size = g at *
  go_loopw [12, 13] (fun s12 s13 wr => ∃ i : Nat, i ≤ 32 ∧ k + i ≤ 4096 ∧ s13 = .int .i64 (i : Int) ∧ s12 = .bool (Crc.chg c i) ∧ Buf wr w.heap.size g (Crc.burst (Wl.nb pg) k c i) ∧ Below w.heap.size w wr) (fun _ s13 _ => 33 - (intOf s13).toNat)
  case atStart => exact ⟨0, by omega, by omega, rfl, by simp [Crc.chg, Nat.mod_one], HBf.out, HB2.out⟩
  case round =>
    obtain ⟨i, hi, hki, rfl, rfl, hMr, hbr⟩ := hrel
    have HM : Hid (Buf wr w.heap.size g (Crc.burst (Wl.nb pg) k c i)) := hMr
    have HBr : Hid (Below w.heap.size w wr) := hbr
    clear hMr hbr HBf HB2
    by_cases hlt : i < 32 ∧ k + i < 4096
    · obtain ⟨hl1, hl2⟩ := hlt
      have hd1 : decide ((i : Int) < 32) = true := decide_eq_true (by omega)
      have hd2 : decide ((k : Int) + (i : Int) < 4096) = true := decide_eq_true (by omega)
      obtain ⟨hcell, hfz⟩ := HM.out.at ((k + i) / 8) (by omega)
      have hx := Crc.getD_lt8 HM.out.lt ((k + i) / 8)
      have htst := bit_test (bit_at c i hcc)
      have hB : Hid (Crc.burst (Wl.nb pg) k c (i + 1) = if c / 2 ^ i % 2 = 1 then Crc.flip (Crc.burst (Wl.nb pg) k c i) (k + i) else Crc.burst (Wl.nb pg) k c i) := rfl
      have hC : Hid (Crc.chg c (i + 1) = if c / 2 ^ i % 2 = 1 then true else Crc.chg c i) := Crc.chg_succ c i
      have hF : Hid (Crc.flip (Crc.burst (Wl.nb pg) k c i) (k + i) = (Crc.burst (Wl.nb pg) k c i).set ((k + i) / 8) ((Crc.burst (Wl.nb pg) k c i).getD ((k + i) / 8) 0 ^^^ 2 ^ ((k + i) % 8))) := rfl
      by_cases hp : c / 2 ^ i % 2 = 1
      · rw [decide_eq_true hp] at htst
        have hB' : Hid (Crc.burst (Wl.nb pg) k c (i + 1) = Crc.flip (Crc.burst (Wl.nb pg) k c i) (k + i)) := hB.out.trans (if_pos hp)
        have hC' : Hid (Crc.chg c (i + 1) = true) := hC.out.trans (if_pos hp)
        clear hB hC hp
        go_wp2
        go_roundw
        case rel =>
          rw [← List.getD_eq_getElem?_getD, xor_bit _ _ hx]
          exact ⟨i + 1, by omega, by omega, by go_num, by rw [hC'.out], by rw [hB'.out, hF.out]; exact HM.out.set _ _ (Crc.xor_lt8 hx (Crc.bit8 _)), HBr.out.setCell HM.out.above _⟩
        case measure => (simp [intOf]) <;> omega
      · rw [decide_eq_false hp] at htst
        have hB' : Hid (Crc.burst (Wl.nb pg) k c (i + 1) = Crc.burst (Wl.nb pg) k c i) := hB.out.trans (if_neg hp)
        have hC' : Hid (Crc.chg c (i + 1) = Crc.chg c i) := hC.out.trans (if_neg hp)
        clear hB hC hp
        go_wp2
        go_roundw
        case rel => exact ⟨i + 1, by omega, by omega, by go_num, by rw [hC'.out], by rw [hB'.out]; exact HM.out, HBr.out⟩
        case measure => (simp [intOf]) <;> omega
    · obtain ⟨x, hxb, hcx⟩ := HM.out.text cap
      have H2 : Hid (Calls Tryd.prog 12 #[.int .i64 3, .string x] wr fun e w' => e = .returned (.tuple #[.int .i64 (Pg.openK 3 x), .string (Pg.openB 3 x), .int .i64 (Pg.openE 3 x)]) ∧ Below wr.heap.size wr w') := open_any 3 x wr (HT.out.below HBr.out hpos)
      cases hch : Crc.chg c i with
      | true =>
        by_cases h32 : i = 32
        · have hd1 : decide ((i : Int) < 32) = false := decide_eq_false (by omega)
          have e3 := HOT.out x i hxb hki hch
          have e4 : Pg.openB 3 x = ⟨#[]⟩ := by unfold Pg.openB; rw [e3]; rfl
          rw [e3, e4] at H2
          generalize Pg.openK 3 x = ko at *
          clear h32
          clear hlt hki hxb hch HM HOT HOU HO0
          go_wp2_with fail
          refine H2.out.mono ?_
          rintro e w3 ⟨rfl, hB3⟩
          have HB3 : Hid (Below w.heap.size w w3) := below_next HBr.out hB3 HBr.out.size
          clear hB3 H2 HBr
          have HW := works_any w3 (HT.out.below HB3.out hpos)
          go_wp2_with fail
          refine HW.mono ?_
          rintro e w7 ⟨rfl, hB7⟩
          have HB7 : Hid (Below w.heap.size w w7) := below_next HB3.out hB7 HB3.out.size
          clear hB7 HB3 HW
          go_wp2
          go_ret
          exact ⟨rfl, HB7.out⟩
        · have hd1 : decide ((i : Int) < 32) = true := decide_eq_true (by omega)
          have hd2 : decide ((k : Int) + (i : Int) < 4096) = false := decide_eq_false (by omega)
          have e3 := HOT.out x i hxb hki hch
          have e4 : Pg.openB 3 x = ⟨#[]⟩ := by unfold Pg.openB; rw [e3]; rfl
          rw [e3, e4] at H2
          generalize Pg.openK 3 x = ko at *
          clear h32
          clear hlt hki hxb hch HM HOT HOU HO0
          go_wp2_with fail
          refine H2.out.mono ?_
          rintro e w3 ⟨rfl, hB3⟩
          have HB3 : Hid (Below w.heap.size w w3) := below_next HBr.out hB3 HBr.out.size
          clear hB3 H2 HBr
          have HW := works_any w3 (HT.out.below HB3.out hpos)
          go_wp2_with fail
          refine HW.mono ?_
          rintro e w7 ⟨rfl, hB7⟩
          have HB7 : Hid (Below w.heap.size w w7) := below_next HB3.out hB7 HB3.out.size
          clear hB7 HB3 HW
          go_wp2
          go_ret
          exact ⟨rfl, HB7.out⟩
      | false =>
        by_cases h32 : i = 32
        · have hd1 : decide ((i : Int) < 32) = false := decide_eq_false (by omega)
          have e3 : Pg.openE 3 x = 0 := by rw [HOU.out x i hxb hch]; exact HO0.out
          rw [e3] at H2
          generalize Pg.openB 3 x = bo at *
          generalize Pg.openK 3 x = ko at *
          clear h32
          clear hlt hki hxb hch HM HOT HOU HO0
          go_wp2_with fail
          refine H2.out.mono ?_
          rintro e w3 ⟨rfl, hB3⟩
          have HB3 : Hid (Below w.heap.size w w3) := below_next HBr.out hB3 HBr.out.size
          clear hB3 H2 HBr
          have HW := works_any w3 (HT.out.below HB3.out hpos)
          go_wp2_with fail
          refine HW.mono ?_
          rintro e w7 ⟨rfl, hB7⟩
          have HB7 : Hid (Below w.heap.size w w7) := below_next HB3.out hB7 HB3.out.size
          clear hB7 HB3 HW
          go_wp2
          go_ret
          exact ⟨rfl, HB7.out⟩
        · have hd1 : decide ((i : Int) < 32) = true := decide_eq_true (by omega)
          have hd2 : decide ((k : Int) + (i : Int) < 4096) = false := decide_eq_false (by omega)
          have e3 : Pg.openE 3 x = 0 := by rw [HOU.out x i hxb hch]; exact HO0.out
          rw [e3] at H2
          generalize Pg.openB 3 x = bo at *
          generalize Pg.openK 3 x = ko at *
          clear h32
          clear hlt hki hxb hch HM HOT HOU HO0
          go_wp2_with fail
          refine H2.out.mono ?_
          rintro e w3 ⟨rfl, hB3⟩
          have HB3 : Hid (Below w.heap.size w w3) := below_next HBr.out hB3 HBr.out.size
          clear hB3 H2 HBr
          have HW := works_any w3 (HT.out.below HB3.out hpos)
          go_wp2_with fail
          refine HW.mono ?_
          rintro e w7 ⟨rfl, hB7⟩
          have HB7 : Hid (Below w.heap.size w w7) := below_next HB3.out hB7 HB3.out.size
          clear hB7 HB3 HW
          go_wp2
          go_ret
          exact ⟨rfl, HB7.out⟩
end Go.Proofs.YtlcbkockmhfllaaDoor
