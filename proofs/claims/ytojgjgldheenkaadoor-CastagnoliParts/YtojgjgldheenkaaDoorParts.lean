/- Proved: the walk of the law CastagnoliParts answers true for any bytes and any cuts. Condition: the table holds its sixteen numbers. -/
import Derived.Test.YtojgjgldheenkaaDoorFew
namespace Go.Proofs.YtojgjgldheenkaaDoor
open Go.RowKit
/- What a walk knows of a slice of ints. -/
def Ints (w : World) (a : Option Addr) (len : Nat) (zs : List Int) : Prop :=
  zs.length = len ∧ (∀ z ∈ zs, -9223372036854775808 ≤ z ∧ z ≤ 9223372036854775807) ∧ len ≤ 9223372036854775807 ∧ (len = 0 ∨ ∃ b off, a = some ⟨b, off, none⟩ ∧ ∀ i, i < len → w.cell? ⟨b, off + i, none⟩ = some (.int .i64 (zs.getD i 0)))
theorem Mine.part {w : World} {N g len cap : Nat} {bs : List Nat} (h : Mine w N (some ⟨g, 0, none⟩) len cap bs) (hm : len ≤ 9223372036854775807) (i n : Nat) (hi : i + n ≤ len) : Bytes w (some ⟨g, i, none⟩) n ((bs.drop i).take n) := by
  have hl := h.length
  obtain ⟨h0, h1, h2, h3⟩ := h.bytes hm
  refine ⟨by simp; omega, fun x hx => h1 x (List.mem_of_mem_drop (List.mem_of_mem_take hx)), by omega, ?_⟩
  rcases h3 with h3 | ⟨b, off, ha, hc⟩
  · exact .inl (by omega)
  · cases ha
    refine .inr ⟨g, i, rfl, fun j hj => ?_⟩
    have := hc (i + j) (by omega)
    rw [Nat.zero_add] at this
    rw [this, List.getD_eq_getElem?_getD, List.getD_eq_getElem?_getD, List.getElem?_take_of_lt hj, List.getElem?_drop]
/- how a cut is brought into its range -/
theorem cut_in (z : Int) (d : Nat) : ∃ (t : Int) (n : Nat), z.tmod ((d : Int) + 1) = t ∧ -(d : Int) ≤ t ∧ t ≤ d ∧ (t + d + 1).tmod ((d : Int) + 1) = (n : Int) ∧ (t + d + 1) % ((d : Int) + 1) = (n : Int) ∧ n ≤ d := by
  have h1 := Int.tmod_lt_of_pos z (show (0 : Int) < (d : Int) + 1 by omega)
  have h2 : -((d : Int) + 1) < z.tmod ((d : Int) + 1) := by
    have := Int.lt_tmod_of_pos z (show (0 : Int) < (d : Int) + 1 by omega)
    omega
  have e : (z.tmod ((d : Int) + 1) + d + 1).tmod ((d : Int) + 1) = (z.tmod ((d : Int) + 1) + d + 1) % ((d : Int) + 1) := Int.tmod_eq_emod_of_nonneg (by omega)
  have h3 := Int.emod_nonneg (z.tmod ((d : Int) + 1) + d + 1) (show (d : Int) + 1 ≠ 0 by omega)
  have h4 := Int.emod_lt_of_pos (z.tmod ((d : Int) + 1) + d + 1) (show (0 : Int) < (d : Int) + 1 by omega)
  obtain ⟨n, hn⟩ := Int.eq_ofNat_of_zero_le h3
  exact ⟨_, n, rfl, by omega, by omega, e.trans hn, hn, by omega⟩
set_option maxHeartbeats 800000 in
theorem parts_walk (a : Option Addr) (len cap : Nat) (bs : List Nat) (a2 : Option Addr) (len2 cap2 : Nat) (zs : List Int) (w : World) (hB : Bytes w a len bs) (hc : len ≤ cap) (hc' : cap ≤ 9223372036854775807)
    (hI : Ints w a2 len2 zs) (_hd : len2 ≤ cap2) (_hd' : cap2 ≤ 9223372036854775807) (hT : Tab w) (h0 : 0 < w.heap.size) :
    Calls Tryd.prog 5 #[.slice a len cap, .slice a2 len2 cap2] w fun e w' => e = .returned (.bool true) ∧ Below w.heap.size w w' := by
  go_enter Tryd.func5, Tryd.ntmps5
  go_wp2_with fail
  refine (few_any a len cap bs w hB hc hc').mono ?_
  rintro e w1 ⟨g, cap', rfl, hM, hb⟩
  have hm : min len 2000 ≤ 2000 := by omega
  have hcap := hM.2.2
  clear hB
  generalize min len 2000 = m at *
  generalize bs.take 2000 = cs at *
  have hI2 := hI.2.2.1
  go_wp2_with fail
  go_loopw [5, 6, 7, 8] (fun s5 s6 s7 s8 wr => ∃ k at' : Nat, k ≤ min len2 12 + 1 ∧ s8 = .int .i64 k ∧ at' ≤ m ∧ s5 = .int .i64 at' ∧ s6 = .int .u32 (Crc.sum (cs.take at') : Nat) ∧ s7 = .int .u32 (Crc.sum (cs.take at') : Nat) ∧ (k = min len2 12 + 1 → at' = m) ∧ Below w1.heap.size w1 wr) (fun _ _ _ s8 _ => 14 - (intOf s8).toNat)
  case atStart => exact ⟨0, 0, by omega, rfl, by omega, rfl, by rw [List.take_zero, ex3]; rfl, by rw [List.take_zero, ex3]; rfl, by omega, Below.refl _ _⟩
  case round =>
    obtain ⟨k, at', hk, rfl, hat, rfl, rfl, rfl, hend, hbr⟩ := hrel
    have hbw := hb.trans (hbr.mono hb.size)
    have hTr := hT.below h0 hbw
    have hr0 : 0 < wr.heap.size := by have := hbw.size; omega
    have hMr := hM.below hbr rfl
    by_cases hlt : k ≤ min len2 12
    · have ht1 : (k : Int) ≤ (len2 : Int) := by omega
      have ht2 : (k : Int) ≤ 12 := by omega
      have hs : Hid (Crc.sum (cs.take at') < 4294967296) := sum_lt (fun x hx => hM.2.1 x (List.mem_of_mem_take hx))
      by_cases hcut : k < len2 ∧ k < 12
      · obtain ⟨hc1, hc2⟩ := hcut
        obtain ⟨i0, i1, i2, i3⟩ := hI
        rcases i3 with i3 | ⟨b2, off2, rfl, i3⟩
        · omega
        have hb2 : b2 < w.heap.size := block_lt_of_cell (i3 k hc1)
        have hcell : wr.cell? ⟨b2, off2 + k, none⟩ = some (.int .i64 (zs.getD k 0)) := by
          rw [hbw.cell (p := ⟨b2, off2 + k, none⟩) hb2]; exact i3 k hc1
        have hz : -9223372036854775808 ≤ zs.getD k 0 ∧ zs.getD k 0 ≤ 9223372036854775807 := by
          rw [List.getD_eq_getElem?_getD, List.getElem?_eq_getElem (by omega)]; exact i1 _ (List.getElem_mem _)
        clear i0 i1 i2 i3
        generalize zs.getD k 0 = z at *
        obtain ⟨t, n, ht, hta, htb, hn1, hn2, hnd⟩ := cut_in z (m - at')
        rw [show ((m - at' : Nat) : Int) = (m : Int) - (at' : Int) by omega] at ht hta htb hn1 hn2
        have hsum : at' + n ≤ m := by omega
        obtain ⟨part, hpart⟩ : ∃ part, part = (cs.drop at').take n := ⟨_, rfl⟩
        have hpb : Bytes wr (some ⟨g, at', none⟩) n part := by rw [hpart]; exact hMr.part (by omega) at' n (by omega)
        have hpn := hpb.1
        have hpl := hpb.2.1
        have htk : cs.take (at' + n) = cs.take at' ++ part := by rw [hpart, List.take_add]
        have hU : Hid (Crc.turn (Crc.fold (Crc.turn (Crc.sum (cs.take at'))) part) = Crc.sum (cs.take (at' + n))) := by rw [htk]; exact Crc.upd_sum _ _
        have hC : Hid (Crc.pw n (Crc.sum (cs.take at')) ^^^ Crc.sum part = Crc.sum (cs.take (at' + n))) := by rw [htk, ← Crc.comb_sum, hpn]; rfl
        clear hpart htk
        have HPN : Hid (part.length = n) := hpn
        have HPB : Hid (Bytes wr (some ⟨g, at', none⟩) n part) := hpb
        clear hpn hpb
        by_cases he : at' = cap'
        · have hn0 : n = 0 := by omega
          subst hn0
          have hp0 : part = [] := List.eq_nil_of_length_eq_zero HPN.out
          subst he
          subst hp0
          go_wp2_with fail
          refine (upd_any _ (some ⟨g, 0, none⟩) 0 0 [] wr hs.out (Bytes.nil _ _) hTr).mono ?_
          rintro e w2 ⟨rfl, rfl⟩
          rw [hU.out]
          go_wp2_with fail
          refine (sum_any (some ⟨g, 0, none⟩) 0 0 [] w2 (Bytes.nil _ _) hTr).mono ?_
          rintro e w3 ⟨rfl, rfl⟩
          go_wp2_with fail
          refine (combine_yes _ _ 0 w3 hs.out (sum_lt hpl) (by omega) hTr hr0).mono ?_
          rintro e w4 ⟨rfl, hb4⟩
          rw [hC.out]
          go_wp2
          go_roundw
          case rel => exact ⟨k + 1, at' + 0, by omega, by go_num, by omega, by go_num, rfl, rfl, by omega, hbr.trans (hb4.mono hbr.size)⟩
          case measure => (simp [intOf]) <;> omega
        · have he' : at' < cap' := by omega
          go_wp2_with fail
          refine (upd_any _ (some ⟨g, at', none⟩) n (cap' - at') part wr hs.out HPB.out hTr).mono ?_
          rintro e w2 ⟨rfl, rfl⟩
          rw [hU.out]
          go_wp2_with fail
          refine (sum_any (some ⟨g, at', none⟩) n (cap' - at') part w2 HPB.out hTr).mono ?_
          rintro e w3 ⟨rfl, rfl⟩
          go_wp2_with fail
          refine (combine_yes _ _ n w3 hs.out (sum_lt hpl) (by omega) hTr hr0).mono ?_
          rintro e w4 ⟨rfl, hb4⟩
          rw [hC.out]
          go_wp2
          go_roundw
          case rel => exact ⟨k + 1, at' + n, by omega, by go_num, by omega, by go_num, rfl, rfl, by omega, hbr.trans (hb4.mono hbr.size)⟩
          case measure => (simp [intOf]) <;> omega
      · obtain ⟨n, hn⟩ : ∃ n : Nat, n = m - at' := ⟨_, rfl⟩
        have hni : (m : Int) - (at' : Int) = (n : Int) := by omega
        have hsum : at' + n = m := by omega
        have HSUM : Hid (at' + n = m) := hsum
        have hn2 : n ≤ 2000 := by omega
        obtain ⟨part, hpart⟩ : ∃ part, part = (cs.drop at').take n := ⟨_, rfl⟩
        have hpb : Bytes wr (some ⟨g, at', none⟩) n part := by rw [hpart]; exact hMr.part (by omega) at' n (by omega)
        have hpn := hpb.1
        have hpl := hpb.2.1
        have htk : cs.take (at' + n) = cs.take at' ++ part := by rw [hpart, List.take_add]
        have hU : Hid (Crc.turn (Crc.fold (Crc.turn (Crc.sum (cs.take at'))) part) = Crc.sum (cs.take (at' + n))) := by rw [htk]; exact Crc.upd_sum _ _
        have hC : Hid (Crc.pw n (Crc.sum (cs.take at')) ^^^ Crc.sum part = Crc.sum (cs.take (at' + n))) := by rw [htk, ← Crc.comb_sum, hpn]; rfl
        clear hpart htk
        have HPN : Hid (part.length = n) := hpn
        have HPB : Hid (Bytes wr (some ⟨g, at', none⟩) n part) := hpb
        clear hpn hpb
        clear hn hsum
        have hsum : at' + n ≤ m := Nat.le_of_eq HSUM.out
        by_cases hl2 : k < len2
        · have hk12 : k = 12 := by omega
          subst hk12
          have hd1 : decide (((12 : Nat) : Int) < (len2 : Int)) = true := by simp; omega
          by_cases he : at' = cap'
          · have hn0 : n = 0 := by omega
            subst hn0
            have hp0 : part = [] := List.eq_nil_of_length_eq_zero HPN.out
            subst he
            subst hp0
            go_wp2_with fail
            refine (upd_any _ (some ⟨g, 0, none⟩) 0 0 [] wr hs.out (Bytes.nil _ _) hTr).mono ?_
            rintro e w2 ⟨rfl, rfl⟩
            rw [hU.out]
            go_wp2_with fail
            refine (sum_any (some ⟨g, 0, none⟩) 0 0 [] w2 (Bytes.nil _ _) hTr).mono ?_
            rintro e w3 ⟨rfl, rfl⟩
            go_wp2_with fail
            refine (combine_yes _ _ 0 w3 hs.out (sum_lt hpl) (by omega) hTr hr0).mono ?_
            rintro e w4 ⟨rfl, hb4⟩
            rw [hC.out]
            go_wp2
            go_roundw
            case rel => exact ⟨12 + 1, at' + 0, by omega, by go_num, by omega, by go_num, rfl, rfl, fun _ => HSUM.out, hbr.trans (hb4.mono hbr.size)⟩
            case measure => (simp [intOf]) <;> omega
          · have he' : at' < cap' := by omega
            go_wp2_with fail
            refine (upd_any _ (some ⟨g, at', none⟩) n (cap' - at') part wr hs.out HPB.out hTr).mono ?_
            rintro e w2 ⟨rfl, rfl⟩
            rw [hU.out]
            go_wp2_with fail
            refine (sum_any (some ⟨g, at', none⟩) n (cap' - at') part w2 HPB.out hTr).mono ?_
            rintro e w3 ⟨rfl, rfl⟩
            go_wp2_with fail
            refine (combine_yes _ _ n w3 hs.out (sum_lt hpl) (by omega) hTr hr0).mono ?_
            rintro e w4 ⟨rfl, hb4⟩
            rw [hC.out]
            go_wp2
            go_roundw
            case rel => exact ⟨12 + 1, at' + n, by omega, by go_num, by omega, by go_num, rfl, rfl, fun _ => HSUM.out, hbr.trans (hb4.mono hbr.size)⟩
            case measure => (simp [intOf]) <;> omega
        · have hd1 : decide ((k : Int) < (len2 : Int)) = false := by simp; omega
          by_cases he : at' = cap'
          · have hn0 : n = 0 := by omega
            subst hn0
            have hp0 : part = [] := List.eq_nil_of_length_eq_zero HPN.out
            subst he
            subst hp0
            go_wp2_with fail
            refine (upd_any _ (some ⟨g, 0, none⟩) 0 0 [] wr hs.out (Bytes.nil _ _) hTr).mono ?_
            rintro e w2 ⟨rfl, rfl⟩
            rw [hU.out]
            go_wp2_with fail
            refine (sum_any (some ⟨g, 0, none⟩) 0 0 [] w2 (Bytes.nil _ _) hTr).mono ?_
            rintro e w3 ⟨rfl, rfl⟩
            go_wp2_with fail
            refine (combine_yes _ _ 0 w3 hs.out (sum_lt hpl) (by omega) hTr hr0).mono ?_
            rintro e w4 ⟨rfl, hb4⟩
            rw [hC.out]
            go_wp2
            go_roundw
            case rel => exact ⟨k + 1, at' + 0, by omega, by go_num, by omega, by go_num, rfl, rfl, fun _ => HSUM.out, hbr.trans (hb4.mono hbr.size)⟩
            case measure => (simp [intOf]) <;> omega
          · have he' : at' < cap' := by omega
            go_wp2_with fail
            refine (upd_any _ (some ⟨g, at', none⟩) n (cap' - at') part wr hs.out HPB.out hTr).mono ?_
            rintro e w2 ⟨rfl, rfl⟩
            rw [hU.out]
            go_wp2_with fail
            refine (sum_any (some ⟨g, at', none⟩) n (cap' - at') part w2 HPB.out hTr).mono ?_
            rintro e w3 ⟨rfl, rfl⟩
            go_wp2_with fail
            refine (combine_yes _ _ n w3 hs.out (sum_lt hpl) (by omega) hTr hr0).mono ?_
            rintro e w4 ⟨rfl, hb4⟩
            rw [hC.out]
            go_wp2
            go_roundw
            case rel => exact ⟨k + 1, at' + n, by omega, by go_num, by omega, by go_num, rfl, rfl, fun _ => HSUM.out, hbr.trans (hb4.mono hbr.size)⟩
            case measure => (simp [intOf]) <;> omega
    · have hke : k = min len2 12 + 1 := by omega
      have hatm := hend hke
      subst hatm
      have hfull : cs.take at' = cs := List.take_of_length_le (by have := hM.length; omega)
      rw [hfull]
      have hBr := hMr.bytes (by omega)
      clear hend hfull
      by_cases hl2 : len2 ≤ 12
      · have hd1 : decide ((k : Int) ≤ (len2 : Int)) = false := by simp; omega
        clear hke
        go_wp2_with fail
        refine (sum_any _ _ cap' cs wr hBr hTr).mono ?_
        rintro e w2 ⟨rfl, rfl⟩
        go_wp2_with fail
        refine (works_any w2 hTr hr0).mono ?_
        rintro e w6 ⟨rfl, hb6⟩
        go_wp2
        go_ret
        exact ⟨rfl, hbw.trans (hb6.mono hbw.size)⟩
      · have hk13 : k = 13 := by omega
        subst hk13
        clear hke hk hlt
        have hd1 : decide (((13 : Nat) : Int) ≤ (len2 : Int)) = true := by simp; omega
        go_wp2_with fail
        refine (sum_any _ _ cap' cs wr hBr hTr).mono ?_
        rintro e w2 ⟨rfl, rfl⟩
        go_wp2_with fail
        refine (works_any w2 hTr hr0).mono ?_
        rintro e w6 ⟨rfl, hb6⟩
        go_wp2
        go_ret
        exact ⟨rfl, hbw.trans (hb6.mono hbw.size)⟩
end Go.Proofs.YtojgjgldheenkaaDoor
