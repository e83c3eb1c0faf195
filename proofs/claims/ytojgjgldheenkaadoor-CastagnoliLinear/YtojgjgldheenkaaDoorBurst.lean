/- Proved: the walk of the law CastagnoliBurst answers true for any bytes, any place and any 32 bits. Condition: the table holds its sixteen numbers. -/
import Derived.Test.YtojgjgldheenkaaDoorFew
import Derived.Test.YtojgjgldheenkaaDoorMathB
namespace Go.Proofs.YtojgjgldheenkaaDoor
open Go.RowKit
/- how a place is brought into its range -/
theorem place_in (z : Int) (d : Nat) (hd : 0 < d) : ∃ (t : Int) (n : Nat), z.tmod (d : Int) = t ∧ -(d : Int) < t ∧ t < d ∧ (t + d).tmod (d : Int) = (n : Int) ∧ (t + d) % (d : Int) = (n : Int) ∧ n < d := by
  have h1 := Int.tmod_lt_of_pos z (show (0 : Int) < (d : Int) by omega)
  have h2 := Int.lt_tmod_of_pos z (show (0 : Int) < (d : Int) by omega)
  have e : (z.tmod (d : Int) + d).tmod (d : Int) = (z.tmod (d : Int) + d) % (d : Int) := Int.tmod_eq_emod_of_nonneg (by omega)
  have h3 := Int.emod_nonneg (z.tmod (d : Int) + d) (show (d : Int) ≠ 0 by omega)
  have h4 := Int.emod_lt_of_pos (z.tmod (d : Int) + d) (show (0 : Int) < (d : Int) by omega)
  obtain ⟨n, hn⟩ := Int.eq_ofNat_of_zero_le h3
  exact ⟨_, n, rfl, by omega, by omega, e.trans hn, hn, by omega⟩
theorem Mine.at {w : World} {N g len cap : Nat} {bs : List Nat} (h : Mine w N (some ⟨g, 0, none⟩) len cap bs) (i : Nat) (hi : i < len) : w.cell? ⟨g, i, none⟩ = some (.int .u8 (bs.getD i 0 : Nat)) ∧ w.frozen? ⟨g, i, none⟩ = false ∧ N ≤ g := by
  have hl := h.length
  obtain ⟨⟨_, h1⟩, h2, _⟩ := h
  rcases h1 with ⟨hv, h0⟩ | ⟨g', cap', cur, hv, hN, hh, hc, _, hsz, ht⟩
  · cases hv
  · cases hv
    refine ⟨?_, frozen_of_row w g i cur 5 hh, hN⟩
    rw [cell_of_row w g i cur 5 (0, 0) hh]
    have e : (cur.toList.take (len * 1))[i]? = (bs.map V8)[i]? := by rw [ht]
    rw [Nat.mul_one, List.getElem?_take_of_lt hi, List.getElem?_map, Array.getElem?_toList] at e
    rw [e, List.getElem?_eq_getElem (by omega), List.getD_eq_getElem?_getD, List.getElem?_eq_getElem (by omega)]; rfl
theorem Mine.set {w : World} {N g len cap : Nat} {bs : List Nat} (h : Mine w N (some ⟨g, 0, none⟩) len cap bs) (i y : Nat) (hy : y < 256) : Mine (w.setCell ⟨g, i, none⟩ (.int .u8 (y : Nat))) N (some ⟨g, 0, none⟩) len cap (bs.set i y) := by
  have hl := h.length
  obtain ⟨⟨h0, h1⟩, h2, h3⟩ := h
  refine ⟨⟨by simpa using h0, ?_⟩, fun x hx => ?_, h3⟩
  · rcases h1 with ⟨hv, h0⟩ | ⟨g', cap', cur, hv, hN, hh, hc, hcm, hsz, ht⟩
    · cases hv
    · cases hv
      refine .inr ⟨g, cap, _, rfl, hN, heap_setCell_same w g i cur 5 _ hh, hc, hcm, by simpa using hsz, ?_⟩
      rw [Array.toList_setIfInBounds, List.take_set, ht, List.map_set]; rfl
  · rcases List.mem_or_eq_of_mem_set hx with h' | h'
    · exact h2 x h'
    · rw [h']; exact hy
theorem xor_bit (x p : Nat) (hx : x < 256) : bits .xor .u8 (x : Int) ((2 : Int) ^ (p % 8) % 256) = ((x ^^^ 2 ^ (p % 8) : Nat) : Int) := by
  have h := Crc.bit8 p
  have e : (2 : Int) ^ (p % 8) % 256 = ((2 ^ (p % 8) : Nat) : Int) := by
    have : ((2 ^ (p % 8) : Nat) : Int) = (2 : Int) ^ (p % 8) := by simp
    rw [← this]
    generalize 2 ^ (p % 8) = q at *
    omega
  rw [e, u8_xor_nat _ _ hx h]
theorem bne_cast (a b : Nat) : ((a : Int) != (b : Int)) = (a != b) := by
  by_cases h : a = b
  · subst h; simp
  · have h1 : ((a : Int) != (b : Int)) = true := by rw [bne_iff_ne]; omega
    have h2 : (a != b) = true := by rw [bne_iff_ne]; exact h
    rw [h1, h2]
set_option maxHeartbeats 800000 in
theorem burst_walk (a : Option Addr) (len cap : Nat) (bs : List Nat) (z : Int) (c : Nat) (w : World) (hB : Bytes w a len bs) (hc : len ≤ cap) (hc' : cap ≤ 9223372036854775807) (_hz : -9223372036854775808 ≤ z ∧ z ≤ 9223372036854775807)
    (hcc : c < 4294967296) (hT : Tab w) (h0 : 0 < w.heap.size) :
    Calls Tryd.prog 6 #[.slice a len cap, .int .i64 z, .int .u32 (c : Int)] w fun e w' => e = .returned (.bool true) ∧ Below w.heap.size w w' := by
  go_enter Tryd.func6, Tryd.ntmps6
  go_wp2_with fail
  refine (few_any a len cap bs w hB hc hc').mono ?_
  rintro e w1 ⟨g, cap', rfl, hM, hb⟩
  have hT1 := hT.below h0 hb
  have h01 : 0 < w1.heap.size := by have := hb.size; omega
  have hm : min len 2000 ≤ 2000 := by omega
  clear hB
  generalize min len 2000 = m at *
  generalize bs.take 2000 = cs at *
  by_cases hm0 : m = 0
  · subst hm0
    go_wp2_with fail
    refine (works_any w1 hT1 h01).mono ?_
    rintro e w6 ⟨rfl, hb6⟩
    go_wp2
    go_ret
    exact ⟨rfl, hb.trans (hb6.mono hb.size)⟩
  have hmz : ((m : Int) == 0) = false := by rw [beq_eq_false_iff_ne]; omega
  by_cases hc0 : c = 0
  · subst hc0
    go_wp2_with fail
    refine (works_any w1 hT1 h01).mono ?_
    rintro e w6 ⟨rfl, hb6⟩
    go_wp2
    go_ret
    exact ⟨rfl, hb.trans (hb6.mono hb.size)⟩
  have hcz : ((c : Int) == 0) = false := by rw [beq_eq_false_iff_ne]; omega
  obtain ⟨t, k, ht, hta, htb, hn1, hn2, hkd⟩ := place_in z (8 * m) (by omega)
  rw [show ((8 * m : Nat) : Int) = 8 * (m : Int) by omega] at ht hta htb hn1 hn2
  have HB1 : Hid (Bytes (w1.alloc (.cells #[] 5)) (some ⟨g, 0, none⟩) m cs) := (hM.bytes (by omega)).below ((Below.refl _ _).alloc (Nat.le_refl _) _) rfl
  go_wp2_with (first | (at_builtin; refine append_copy rfl _ _ rfl (w1.alloc (.cells #[] 5)) w1.heap.size w1.heap.size (by simp) (Nat.le_refl _) (heap_alloc_new w1 _) rfl _ m cap' cs rfl HB1.out hm ?_; intro g2 cap2 w2 hM2 hb2))
  have hg : g < w1.heap.size := block_lt_of_cell (hM.at 0 (by omega)).1
  have hcl : Hid (cs.length = m) := hM.length
  go_loopw [10, 11] (fun s10 s11 wr => ∃ i : Nat, i ≤ 32 ∧ k + i ≤ 8 * m ∧ s11 = .int .i64 i ∧ s10 = .bool (Crc.chg c i) ∧ Mine wr w1.heap.size (some ⟨g2, 0, none⟩) m cap2 (Crc.burst cs k c i) ∧ Below w1.heap.size w1 wr) (fun _ s11 _ => 33 - (intOf s11).toNat)
  case atStart => exact ⟨0, by omega, by omega, rfl, by simp [Crc.chg, Nat.mod_one], hM2, ((Below.refl _ _).alloc (Nat.le_refl _) _).trans hb2⟩
  case round =>
    obtain ⟨i, hi, hki, rfl, rfl, hMr, hbr⟩ := hrel
    by_cases hlt : i < 32 ∧ k + i < 8 * m
    · obtain ⟨hl1, hl2⟩ := hlt
      have hd1 : decide ((i : Int) < 32) = true := by simp; omega
      have hd2 : decide ((k : Int) + (i : Int) < 8 * (m : Int)) = true := by simp; omega
      obtain ⟨hcell, hfz, hgn⟩ := hMr.at ((k + i) / 8) (by omega)
      have hx := Crc.getD_lt8 hMr.2.1 ((k + i) / 8)
      have htst := bit_test (bit_at c i hcc)
      have hB : Hid (Crc.burst cs k c (i + 1) = if c / 2 ^ i % 2 = 1 then Crc.flip (Crc.burst cs k c i) (k + i) else Crc.burst cs k c i) := rfl
      have hC : Hid (Crc.chg c (i + 1) = if c / 2 ^ i % 2 = 1 then true else Crc.chg c i) := Crc.chg_succ c i
      have hF : Hid (Crc.flip (Crc.burst cs k c i) (k + i) = (Crc.burst cs k c i).set ((k + i) / 8) ((Crc.burst cs k c i).getD ((k + i) / 8) 0 ^^^ 2 ^ ((k + i) % 8))) := rfl
      by_cases hp : c / 2 ^ i % 2 = 1
      · rw [decide_eq_true hp] at htst
        have hB' : Hid (Crc.burst cs k c (i + 1) = Crc.flip (Crc.burst cs k c i) (k + i)) := hB.out.trans (if_pos hp)
        have hC' : Hid (Crc.chg c (i + 1) = true) := hC.out.trans (if_pos hp)
        clear hB hC hp
        go_wp2
        go_roundw
        case rel =>
          rw [← List.getD_eq_getElem?_getD, xor_bit _ _ hx]
          exact ⟨i + 1, by omega, by omega, by go_num, by rw [hC'.out], by rw [hB'.out, hF.out]; exact hMr.set _ _ (Crc.xor_lt8 hx (Crc.bit8 _)), hbr.setCell hgn _⟩
        case measure => (simp [intOf]) <;> omega
      · rw [decide_eq_false hp] at htst
        have hB' : Hid (Crc.burst cs k c (i + 1) = Crc.burst cs k c i) := hB.out.trans (if_neg hp)
        have hC' : Hid (Crc.chg c (i + 1) = Crc.chg c i) := hC.out.trans (if_neg hp)
        clear hB hC hp
        go_wp2
        go_roundw
        case rel => exact ⟨i + 1, by omega, by omega, by go_num, by rw [hC'.out], by rw [hB'.out]; exact hMr, hbr⟩
        case measure => (simp [intOf]) <;> omega
    · have hbw := hb.trans (hbr.mono hb.size)
      have hTr := hT.below h0 hbw
      have hr0 : 0 < wr.heap.size := by have := hbw.size; omega
      have hB2 := hMr.bytes (by omega)
      have hBb := (hM.bytes (by omega)).below hbr rfl
      have hq := Crc.sum_burst cs k c i (by rw [hcl.out]; exact hki) hcc
      rw [← bne_cast] at hq
      by_cases hi32 : i = 32
      · subst hi32
        clear hlt hki
        go_wp2_with fail
        refine (sum_any _ m cap2 _ wr hB2 hTr).mono ?_
        rintro e w3 ⟨rfl, rfl⟩
        go_wp2_with fail
        refine (sum_any _ m cap' cs w3 hBb hTr).mono ?_
        rintro e w4 ⟨rfl, rfl⟩
        generalize Crc.sum (Crc.burst cs k c 32) = x at *
        generalize Crc.sum cs = y at *
        generalize Crc.chg c 32 = q at *
        cases q
        all_goals
          go_wp2_with fail
          refine (works_any w4 hTr hr0).mono ?_
          rintro e w6 ⟨rfl, hb6⟩
          go_wp2
          go_ret
          exact ⟨rfl, hbw.trans (hb6.mono hbw.size)⟩
      · have hd1 : decide ((i : Int) < 32) = true := by simp; omega
        have hd2 : decide ((k : Int) + (i : Int) < 8 * (m : Int)) = false := by simp; omega
        clear hlt
        go_wp2_with fail
        refine (sum_any _ m cap2 _ wr hB2 hTr).mono ?_
        rintro e w3 ⟨rfl, rfl⟩
        go_wp2_with fail
        refine (sum_any _ m cap' cs w3 hBb hTr).mono ?_
        rintro e w4 ⟨rfl, rfl⟩
        generalize Crc.sum (Crc.burst cs k c i) = x at *
        generalize Crc.sum cs = y at *
        generalize Crc.chg c i = q at *
        cases q
        all_goals
          go_wp2_with fail
          refine (works_any w4 hTr hr0).mono ?_
          rintro e w6 ⟨rfl, hb6⟩
          go_wp2
          go_ret
          exact ⟨rfl, hbw.trans (hb6.mono hbw.size)⟩
end Go.Proofs.YtojgjgldheenkaaDoor
