/- Proved: the walk of the law BlakePieces answers true for any bytes and any cuts. Condition: the two tables. -/
import Derived.Test.YtaeeibllmpaebaaDoorSame
namespace Go.Proofs.YtaeeibllmpaebaaDoor
open Go.RowKit
/- What a walk knows of a slice of ints. -/
def Ints (w : World) (a : Option Addr) (len : Nat) (zs : List Int) : Prop :=
  zs.length = len ∧ (∀ z ∈ zs, -9223372036854775808 ≤ z ∧ z ≤ 9223372036854775807) ∧ len ≤ 9223372036854775807 ∧ (len = 0 ∨ ∃ b off, a = some ⟨b, off, none⟩ ∧ ∀ i, i < len → w.cell? ⟨b, off + i, none⟩ = some (.int .i64 (zs.getD i 0)))
theorem Mine.part {w : World} {N g len cap : Nat} {bs : List Nat} (h : Mine w N (some ⟨g, 0, none⟩) len cap bs) (hm : len ≤ 9223372036854775807) (i n : Nat) (hi : i + n ≤ len) : Bytes w (some ⟨g, i, none⟩) n ((bs.drop i).take n) := by
  have hl := h.length
  obtain ⟨h0, h1, h2, h3⟩ := h.bytes hm
  refine ⟨by simp; omega, fun x hx => h1 x (List.mem_of_mem_drop (List.mem_of_mem_take hx)), by omega, ?_⟩
  rcases h3 with h3 | ⟨b, off, ha, hc⟩
  · exact .inl (by omega)
  · cases ha
    refine .inr ⟨g, i, rfl, fun j hj => ?_⟩
    have := hc (i + j) (by omega)
    rw [Nat.zero_add] at this
    rw [this, List.getD_eq_getElem?_getD, List.getD_eq_getElem?_getD, List.getElem?_take_of_lt hj, List.getElem?_drop]
/- how a cut is brought into its range -/
theorem cut_in (z : Int) (d : Nat) : ∃ (t : Int) (n : Nat), z.tmod ((d : Int) + 1) = t ∧ -(d : Int) ≤ t ∧ t ≤ d ∧ (t + d + 1).tmod ((d : Int) + 1) = (n : Int) ∧ (t + d + 1) % ((d : Int) + 1) = (n : Int) ∧ n ≤ d := by
  have h1 := Int.tmod_lt_of_pos z (show (0 : Int) < (d : Int) + 1 by omega)
  have h2 : -((d : Int) + 1) < z.tmod ((d : Int) + 1) := by
    have := Int.lt_tmod_of_pos z (show (0 : Int) < (d : Int) + 1 by omega)
    omega
  have e : (z.tmod ((d : Int) + 1) + d + 1).tmod ((d : Int) + 1) = (z.tmod ((d : Int) + 1) + d + 1) % ((d : Int) + 1) := Int.tmod_eq_emod_of_nonneg (by omega)
  have h3 := Int.emod_nonneg (z.tmod ((d : Int) + 1) + d + 1) (show (d : Int) + 1 ≠ 0 by omega)
  have h4 := Int.emod_lt_of_pos (z.tmod ((d : Int) + 1) + d + 1) (show (0 : Int) < (d : Int) + 1 by omega)
  obtain ⟨n, hn⟩ := Int.eq_ofNat_of_zero_le h3
  exact ⟨_, n, rfl, by omega, by omega, e.trans hn, hn, by omega⟩
/- how a place is brought into its range -/
theorem place_in (z : Int) (d : Nat) (hd : 0 < d) : ∃ (t : Int) (n : Nat), z.tmod (d : Int) = t ∧ -(d : Int) < t ∧ t < d ∧ (t + d).tmod (d : Int) = (n : Int) ∧ (t + d) % (d : Int) = (n : Int) ∧ n < d := by
  have h1 := Int.tmod_lt_of_pos z (show (0 : Int) < (d : Int) by omega)
  have h2 := Int.lt_tmod_of_pos z (show (0 : Int) < (d : Int) by omega)
  have e : (z.tmod (d : Int) + d).tmod (d : Int) = (z.tmod (d : Int) + d) % (d : Int) := Int.tmod_eq_emod_of_nonneg (by omega)
  have h3 := Int.emod_nonneg (z.tmod (d : Int) + d) (show (d : Int) ≠ 0 by omega)
  have h4 := Int.emod_lt_of_pos (z.tmod (d : Int) + d) (show (0 : Int) < (d : Int) by omega)
  obtain ⟨n, hn⟩ := Int.eq_ofNat_of_zero_le h3
  exact ⟨_, n, rfl, by omega, by omega, e.trans hn, hn, by omega⟩
theorem Mine.at {w : World} {N g len cap : Nat} {bs : List Nat} (h : Mine w N (some ⟨g, 0, none⟩) len cap bs) (i : Nat) (hi : i < len) : w.cell? ⟨g, i, none⟩ = some (.int .u8 (bs.getD i 0 : Nat)) ∧ w.frozen? ⟨g, i, none⟩ = false ∧ N ≤ g := by
  have hl := h.length
  obtain ⟨⟨_, h1⟩, h2, _⟩ := h
  rcases h1 with ⟨hv, h0⟩ | ⟨g', cap', cur, hv, hN, hh, hc, _, hsz, ht⟩
  · cases hv
  · cases hv
    refine ⟨?_, frozen_of_row w g i cur 5 hh, hN⟩
    rw [cell_of_row w g i cur 5 (0, 0) hh]
    have e : (cur.toList.take (len * 1))[i]? = (bs.map V8)[i]? := by rw [ht]
    rw [Nat.mul_one, List.getElem?_take_of_lt hi, List.getElem?_map, Array.getElem?_toList] at e
    rw [e, List.getElem?_eq_getElem (by omega), List.getD_eq_getElem?_getD, List.getElem?_eq_getElem (by omega)]; rfl
theorem Mine.keep {w w' : World} {N g g' len cap : Nat} {bs : List Nat} (h : Mine w N (some ⟨g', 0, none⟩) len cap bs) (hK : Keep g w w') (hne : g' ≠ g) : Mine w' N (some ⟨g', 0, none⟩) len cap bs := by
  obtain ⟨⟨h0, h1⟩, h2, h3⟩ := h
  refine ⟨⟨h0, ?_⟩, h2, h3⟩
  rcases h1 with h1 | ⟨x, cap', cur, hv, hN, hh, r⟩
  · exact .inl h1
  · cases hv
    exact .inr ⟨g', cap, cur, rfl, hN, (hK.block g' (Array.getElem?_eq_some_iff.1 hh).1 hne).trans hh, r⟩
theorem Mine.lt {w : World} {N g' len cap : Nat} {bs : List Nat} (h : Mine w N (some ⟨g', 0, none⟩) len cap bs) : g' < w.heap.size := by
  obtain ⟨⟨h0, h1⟩, h2, h3⟩ := h
  rcases h1 with ⟨hv, _⟩ | ⟨x, cap', cur, hv, hN, hh, r⟩
  · cases hv
  · cases hv
    exact (Array.getElem?_eq_some_iff.1 hh).1
set_option maxHeartbeats 1000000 in
set_option maxRecDepth 20000 in
theorem pieces_walk (a : Option Addr) (len cap : Nat) (bs : List Nat) (a2 : Option Addr) (len2 cap2 : Nat) (zs : List Int) (w : World) (hB : Bytes w a len bs) (hc : len ≤ cap) (hc' : cap ≤ 9223372036854775807)
    (hI : Ints w a2 len2 zs) (_hd : len2 ≤ cap2) (_hd' : cap2 ≤ 9223372036854775807) (hT : Tab w) (h0 : 1 < w.heap.size) :
    Calls Tryd.prog 7 #[.slice a len cap, .slice a2 len2 cap2] w fun e w' => e = .returned (.bool true) ∧ Below w.heap.size w w' := by
  have HT : Hid (Tab w) := hT
  have HI : Hid (Ints w a2 len2 zs) := hI
  clear hT
  go_enter Tryd.func7, Tryd.ntmps7
  go_wp2_with fail
  refine (few_any a len cap bs w hB hc hc').mono ?_
  rintro e w1 ⟨g', cap', rfl, hM, hb⟩
  have hm : min len 1500 ≤ 1500 := by omega
  have hcap := hM.2.2
  have hI2 := hI.2.2.1
  clear hB hI
  generalize min len 1500 = m at *
  generalize bs.take 1500 = cs at *
  have hcl : Hid (cs.length = m) := hM.length
  have HT1 : Hid (Tab w1) := HT.out.below h0 hb
  have hz1 := hb.size
  go_wp2_with fail
  refine (new_any w1 HT1.out).mono ?_
  rintro e w2 ⟨rfl, hH2, hZ2, hB2⟩
  have HT2 : Hid (Tab w2) := HT1.out.below (by omega) hB2
  have HM2 : Hid (Mine w2 w.heap.size (some ⟨g', 0, none⟩) m cap' cs) := hM.below hB2 rfl
  have HH2 : Hid (HashOf w2 w1.heap.size []) := HashOf.new hH2
  have hgl : g' < w1.heap.size := hM.lt
  have HB2 : Hid (Below w1.heap.size w1 w2) := hB2
  have HB1 : Hid (Below w.heap.size w w1) := hb
  clear hH2 hB2 hM hb
  obtain ⟨g, hg⟩ : ∃ g, g = w1.heap.size := ⟨_, rfl⟩
  rw [← hg]
  rw [← hg] at HH2 hgl HB2 hZ2 hz1
  have HGW : Hid (g = w1.heap.size) := hg
  clear hg
  go_wp2_with fail
  go_loopw [6, 7] (fun s6 s7 wr => ∃ i at' : Nat, i ≤ len2 ∧ i ≤ 20 ∧ s7 = .int .i64 i ∧ at' ≤ m ∧ s6 = .int .i64 at' ∧ HashOf wr g (cs.take at') ∧ Keep g w2 wr) (fun _ s7 _ => 21 - (intOf s7).toNat)
  case atStart => exact ⟨0, 0, by omega, by omega, rfl, by omega, rfl, by rw [List.take_zero]; exact HH2.out, Keep.refl _ _⟩
  case round =>
    obtain ⟨i, at', hi1, hi2, rfl, hat, rfl, hH, hK⟩ := hrel
    have HMr : Hid (Mine wr w.heap.size (some ⟨g', 0, none⟩) m cap' cs) := HM2.out.keep hK (by omega)
    have hszr := hK.size
    have HTr : Hid (Tab wr) := HT2.out.below (B := g) (by omega) (hK.below (Nat.le_refl _) (by omega))
    have HH : Hid (HashOf wr g (cs.take at')) := hH
    have HK : Hid (Keep g w2 wr) := hK
    have hgr := hH.lt
    clear hH hK
    by_cases hlt : i < len2 ∧ i < 20
    · obtain ⟨hl1, hl2⟩ := hlt
      have hd1 : decide ((i : Int) < (len2 : Int)) = true := by simp; omega
      have hd2 : decide ((i : Int) < 20) = true := by simp; omega
      obtain ⟨i0, i1, i2, i3⟩ := HI.out
      obtain ⟨b2, off2, ha2, j3⟩ : ∃ b off, a2 = some ⟨b, off, none⟩ ∧ ∀ i, i < len2 → w.cell? ⟨b, off + i, none⟩ = some (.int .i64 (zs.getD i 0)) := by
        rcases i3 with i3 | i3
        · omega
        · exact i3
      subst ha2
      have hb2 : b2 < w.heap.size := block_lt_of_cell (j3 i hl1)
      have hcell : wr.cell? ⟨b2, off2 + i, none⟩ = some (.int .i64 (zs.getD i 0)) := by
        rw [HK.out.cell (p := ⟨b2, off2 + i, none⟩) (show b2 ≠ g by omega) (show b2 < w2.heap.size by omega), HB2.out.cell (p := ⟨b2, off2 + i, none⟩) (show b2 < g by omega), HB1.out.cell (p := ⟨b2, off2 + i, none⟩) hb2]; exact j3 i hl1
      have hz : -9223372036854775808 ≤ zs.getD i 0 ∧ zs.getD i 0 ≤ 9223372036854775807 := by
        rw [List.getD_eq_getElem?_getD, List.getElem?_eq_getElem (by omega)]; exact i1 _ (List.getElem_mem _)
      clear i0 i1 i2 i3 j3
      generalize zs.getD i 0 = z at *
      obtain ⟨d1, hd1'⟩ : ∃ d1 : Nat, d1 = m - at' + 1 := ⟨_, rfl⟩
      obtain ⟨t, n, ht, hta, htb, hn1, hn2, hnd⟩ := place_in z d1 (by omega)
      have ed1 : (m : Int) - (at' : Int) + 1 = (d1 : Int) := by omega
      have ed0 : ((d1 : Int) == 0) = false := by rw [beq_eq_false_iff_ne]; omega
      have wd1 := wrap64 d1 (by omega)
      have hsum : at' + n ≤ m := by omega
      clear hd1'
      obtain ⟨part, hpart⟩ : ∃ part, part = (cs.drop at').take n := ⟨_, rfl⟩
      have hpb : Bytes wr (some ⟨g', at', none⟩) n part := by rw [hpart]; exact HMr.out.part (by omega) at' n (by omega)
      have HTK : Is (cs.take at' ++ part) (cs.take (at' + n)) := ⟨by rw [hpart, List.take_add]⟩
      have HPB : Hid (Bytes wr (some ⟨g', at', none⟩) n part) := hpb
      have HPN : Hid (part.length = n) := hpb.1
      have HLEN : Hid ((cs.take at').length + part.length < 9223372036854775808) := by show _ < _; rw [hpb.1, List.length_take]; omega
      clear hpart hpb
      by_cases he : at' = cap'
      · have hn0 : n = 0 := by omega
        subst hn0
        have hp0 : part = [] := List.eq_nil_of_length_eq_zero HPN.out
        subst he
        subst hp0
        go_wp2_with fail
        refine (write_yes g (cs.take at') (some ⟨g', 0, none⟩) 0 0 [] wr HH.out (Bytes.nil _ _) (by omega) (.inl rfl) HLEN.out HTr.out (by omega)).mono ?_
        rintro e w3 ⟨rfl, hH3, hK3⟩
        rw [HTK.eq] at hH3
        have HH3 : Hid (HashOf w3 g (cs.take (at' + 0))) := hH3
        have HT3 : Tab w3 := HTr.out.below (B := g) (by omega) (hK3.below (Nat.le_refl _) (by omega))
        have hs3 := hH3.lt
        clear hH3
        go_wp2_with fail
        refine (sum_of g _ w3 HH3.out HT3 (by omega)).mono ?_
        rintro e w4 ⟨rfl, hb4⟩
        generalize Bl.digest (cs.take (at' + 0)) = D4
        go_wp2
        go_roundw
        case rel => exact ⟨i + 1, at' + 0, by omega, by omega, by go_num, by omega, by go_num, HH3.out.below hb4 hs3, (HK.out.trans hK3).trans (Keep.of_below hb4)⟩
        case measure => (simp [intOf]) <;> omega
      · have he' : at' < cap' := by omega
        go_wp2_with fail
        refine (write_yes g (cs.take at') (some ⟨g', at', none⟩) n (cap' - at') part wr HH.out HPB.out (by omega) (.inr fun x hx => by cases hx; show g' ≠ g; omega) HLEN.out HTr.out (by omega)).mono ?_
        rintro e w3 ⟨rfl, hH3, hK3⟩
        rw [HTK.eq] at hH3
        have HH3 : Hid (HashOf w3 g (cs.take (at' + n))) := hH3
        have HT3 : Tab w3 := HTr.out.below (B := g) (by omega) (hK3.below (Nat.le_refl _) (by omega))
        have hs3 := hH3.lt
        clear hH3
        go_wp2_with fail
        refine (sum_of g _ w3 HH3.out HT3 (by omega)).mono ?_
        rintro e w4 ⟨rfl, hb4⟩
        generalize Bl.digest (cs.take (at' + n)) = D4
        go_wp2
        go_roundw
        case rel => exact ⟨i + 1, at' + n, by omega, by omega, by go_num, by omega, by go_num, HH3.out.below hb4 hs3, (HK.out.trans hK3).trans (Keep.of_below hb4)⟩
        case measure => (simp [intOf]) <;> omega
    · obtain ⟨n, hn⟩ : ∃ n : Nat, n = m - at' := ⟨_, rfl⟩
      obtain ⟨part, hpart⟩ : ∃ part, part = (cs.drop at').take n := ⟨_, rfl⟩
      have hpb : Bytes wr (some ⟨g', at', none⟩) n part := by rw [hpart]; exact HMr.out.part (by omega) at' n (by omega)
      have HTK : Is (cs.take at' ++ part) cs := ⟨by rw [hpart, ← List.take_add, List.take_of_length_le (by rw [hcl.out]; omega)]⟩
      have HPB : Hid (Bytes wr (some ⟨g', at', none⟩) n part) := hpb
      have HPN : Hid (part.length = n) := hpb.1
      have HLEN : Hid ((cs.take at').length + part.length < 9223372036854775808) := by show _ < _; rw [hpb.1, List.length_take]; omega
      have hni : m - at' = n := hn.symm
      have hD8 := (Bl.digest_bytes cs).1
      have hsame := same32 (Bl.digest cs) hD8
      clear hpart hpb hn
      have key : Hid (∀ w3, HashOf w3 g cs → Keep g wr w3 → ∃ D : List Nat, (∀ W : World, (Op.equalIn 10000 24 (.agg (arr8 D)) (.agg (arr8 D))).run Tryd.prog W = .ok true W) ∧ Tab w3 ∧ g < w3.heap.size ∧ Mine w3 w.heap.size (some ⟨g', 0, none⟩) m cap' cs ∧ Below w.heap.size w w3 ∧
          (∀ W, HashOf W g cs → Tab W → 1 < W.heap.size → Calls Tryd.prog 19 #[.pointer (some ⟨g, 0, none⟩)] W fun e w' => e = .returned (.agg (arr8 D)) ∧ Below W.heap.size W w') ∧
          (∀ W, Bytes W (some ⟨g', 0, none⟩) m cs → Tab W → 1 < W.heap.size → Calls Tryd.prog 10 #[.slice (some ⟨g', 0, none⟩) m cap'] W fun e w' => e = .returned (.agg (arr8 D)) ∧ Below W.heap.size W w')) := fun w3 hH3 hK3 =>
        ⟨Bl.digest cs, hsame, HTr.out.below (B := g) (by omega) (hK3.below (Nat.le_refl _) (by omega)), hH3.lt, HMr.out.keep hK3 (by omega), HB1.out.trans ((HB2.out.mono (by omega)).trans ((HK.out.trans hK3).below (by omega) (by omega))), fun W h1 h2 h3 => sum_of g cs W h1 h2 h3, fun W h1 h2 h3 => of_any _ m cap' cs W h1 hcap h2 h3⟩
      clear hsame hD8
      have LNH : Hid (∀ W, HashOf W g cs → Calls Tryd.prog 18 #[.pointer (some ⟨g, 0, none⟩)] W fun e w' => e = .returned (.int .i64 (m : Nat)) ∧ w' = W) := fun W h => by
        have := len_of g cs W h
        rw [hcl.out] at this
        exact this
      by_cases he : at' = cap'
      · have hn0 : n = 0 := by omega
        subst hn0
        have hp0 : part = [] := List.eq_nil_of_length_eq_zero HPN.out
        subst he
        subst hp0
        by_cases hl2 : i < len2
        · have hi20 : i = 20 := by omega
          subst hi20
          clear hlt
          have hd1 : decide (((20 : Nat) : Int) < (len2 : Int)) = true := by simp; omega
          go_wp2_with fail
          refine (write_yes g (cs.take at') (some ⟨g', 0, none⟩) 0 0 [] wr HH.out (Bytes.nil _ _) (by omega) (.inl rfl) HLEN.out HTr.out (by omega)).mono ?_
          rintro e w3 ⟨rfl, hH3, hK3⟩
          rw [HTK.eq] at hH3
          obtain ⟨D, hsame, HT3, hs3, HM3, HB3, SMH, OFH⟩ := key.out w3 hH3 hK3
          have HH3 : Hid (HashOf w3 g cs) := hH3
          have SM : Hid (∀ W, HashOf W g cs → Tab W → 1 < W.heap.size → Calls Tryd.prog 19 #[.pointer (some ⟨g, 0, none⟩)] W fun e w' => e = .returned (.agg (arr8 D)) ∧ Below W.heap.size W w') := SMH
          have OF : Hid (∀ W, Bytes W (some ⟨g', 0, none⟩) m cs → Tab W → 1 < W.heap.size → Calls Tryd.prog 10 #[.slice (some ⟨g', 0, none⟩) m at'] W fun e w' => e = .returned (.agg (arr8 D)) ∧ Below W.heap.size W w') := OFH
          have hw3 := HB3.size
          clear hH3 SMH OFH key
          go_wp2_with fail
          refine (SM.out w3 HH3.out HT3 (by omega)).mono ?_
          rintro e w4 ⟨rfl, hb4⟩
          have b4 : Below w.heap.size w w4 := HB3.trans (hb4.mono hw3)
          have HT4 := HT.out.below h0 b4
          have hw4 := b4.size
          have by4 : Bytes w4 (some ⟨g', 0, none⟩) m cs := (HM3.bytes (by omega)).below hb4 rfl
          have HH4 : Hid (HashOf w4 g cs) := HH3.out.below hb4 hs3
          have hg4 := HH4.out.lt
          clear hb4
          go_wp2_with fail
          refine (OF.out w4 by4 HT4 (by omega)).mono ?_
          rintro e w5 ⟨rfl, hb5⟩
          have b5 : Below w.heap.size w w5 := b4.trans (hb5.mono hw4)
          have HT5 := HT.out.below h0 b5
          have hw5 := b5.size
          have HH5 : Hid (HashOf w5 g cs) := HH4.out.below hb5 hg4
          clear hb5
          go_wp2_with fail
          refine (LNH.out w5 HH5.out).mono ?_
          rintro e w6 ⟨rfl, rfl⟩
          go_wp2_with fail
          refine (works_any w6 HT5 (by omega)).mono ?_
          rintro e w7 ⟨rfl, hb7⟩
          go_wp2
          go_ret
          exact ⟨rfl, b5.trans (hb7.mono b5.size)⟩
        · clear hlt
          have hd1 : decide ((i : Int) < (len2 : Int)) = false := by simp; omega
          go_wp2_with fail
          refine (write_yes g (cs.take at') (some ⟨g', 0, none⟩) 0 0 [] wr HH.out (Bytes.nil _ _) (by omega) (.inl rfl) HLEN.out HTr.out (by omega)).mono ?_
          rintro e w3 ⟨rfl, hH3, hK3⟩
          rw [HTK.eq] at hH3
          obtain ⟨D, hsame, HT3, hs3, HM3, HB3, SMH, OFH⟩ := key.out w3 hH3 hK3
          have HH3 : Hid (HashOf w3 g cs) := hH3
          have SM : Hid (∀ W, HashOf W g cs → Tab W → 1 < W.heap.size → Calls Tryd.prog 19 #[.pointer (some ⟨g, 0, none⟩)] W fun e w' => e = .returned (.agg (arr8 D)) ∧ Below W.heap.size W w') := SMH
          have OF : Hid (∀ W, Bytes W (some ⟨g', 0, none⟩) m cs → Tab W → 1 < W.heap.size → Calls Tryd.prog 10 #[.slice (some ⟨g', 0, none⟩) m at'] W fun e w' => e = .returned (.agg (arr8 D)) ∧ Below W.heap.size W w') := OFH
          have hw3 := HB3.size
          clear hH3 SMH OFH key
          go_wp2_with fail
          refine (SM.out w3 HH3.out HT3 (by omega)).mono ?_
          rintro e w4 ⟨rfl, hb4⟩
          have b4 : Below w.heap.size w w4 := HB3.trans (hb4.mono hw3)
          have HT4 := HT.out.below h0 b4
          have hw4 := b4.size
          have by4 : Bytes w4 (some ⟨g', 0, none⟩) m cs := (HM3.bytes (by omega)).below hb4 rfl
          have HH4 : Hid (HashOf w4 g cs) := HH3.out.below hb4 hs3
          have hg4 := HH4.out.lt
          clear hb4
          go_wp2_with fail
          refine (OF.out w4 by4 HT4 (by omega)).mono ?_
          rintro e w5 ⟨rfl, hb5⟩
          have b5 : Below w.heap.size w w5 := b4.trans (hb5.mono hw4)
          have HT5 := HT.out.below h0 b5
          have hw5 := b5.size
          have HH5 : Hid (HashOf w5 g cs) := HH4.out.below hb5 hg4
          clear hb5
          go_wp2_with fail
          refine (LNH.out w5 HH5.out).mono ?_
          rintro e w6 ⟨rfl, rfl⟩
          go_wp2_with fail
          refine (works_any w6 HT5 (by omega)).mono ?_
          rintro e w7 ⟨rfl, hb7⟩
          go_wp2
          go_ret
          exact ⟨rfl, b5.trans (hb7.mono b5.size)⟩
      · have he' : at' < cap' := by omega
        by_cases hl2 : i < len2
        · have hi20 : i = 20 := by omega
          subst hi20
          clear hlt
          have hd1 : decide (((20 : Nat) : Int) < (len2 : Int)) = true := by simp; omega
          go_wp2_with fail
          refine (write_yes g (cs.take at') (some ⟨g', at', none⟩) n (cap' - at') part wr HH.out HPB.out (by omega) (.inr fun x hx => by cases hx; show g' ≠ g; omega) HLEN.out HTr.out (by omega)).mono ?_
          rintro e w3 ⟨rfl, hH3, hK3⟩
          rw [HTK.eq] at hH3
          obtain ⟨D, hsame, HT3, hs3, HM3, HB3, SMH, OFH⟩ := key.out w3 hH3 hK3
          have HH3 : Hid (HashOf w3 g cs) := hH3
          have SM : Hid (∀ W, HashOf W g cs → Tab W → 1 < W.heap.size → Calls Tryd.prog 19 #[.pointer (some ⟨g, 0, none⟩)] W fun e w' => e = .returned (.agg (arr8 D)) ∧ Below W.heap.size W w') := SMH
          have OF : Hid (∀ W, Bytes W (some ⟨g', 0, none⟩) m cs → Tab W → 1 < W.heap.size → Calls Tryd.prog 10 #[.slice (some ⟨g', 0, none⟩) m cap'] W fun e w' => e = .returned (.agg (arr8 D)) ∧ Below W.heap.size W w') := OFH
          have hw3 := HB3.size
          clear hH3 SMH OFH key
          go_wp2_with fail
          refine (SM.out w3 HH3.out HT3 (by omega)).mono ?_
          rintro e w4 ⟨rfl, hb4⟩
          have b4 : Below w.heap.size w w4 := HB3.trans (hb4.mono hw3)
          have HT4 := HT.out.below h0 b4
          have hw4 := b4.size
          have by4 : Bytes w4 (some ⟨g', 0, none⟩) m cs := (HM3.bytes (by omega)).below hb4 rfl
          have HH4 : Hid (HashOf w4 g cs) := HH3.out.below hb4 hs3
          have hg4 := HH4.out.lt
          clear hb4
          go_wp2_with fail
          refine (OF.out w4 by4 HT4 (by omega)).mono ?_
          rintro e w5 ⟨rfl, hb5⟩
          have b5 : Below w.heap.size w w5 := b4.trans (hb5.mono hw4)
          have HT5 := HT.out.below h0 b5
          have hw5 := b5.size
          have HH5 : Hid (HashOf w5 g cs) := HH4.out.below hb5 hg4
          clear hb5
          go_wp2_with fail
          refine (LNH.out w5 HH5.out).mono ?_
          rintro e w6 ⟨rfl, rfl⟩
          go_wp2_with fail
          refine (works_any w6 HT5 (by omega)).mono ?_
          rintro e w7 ⟨rfl, hb7⟩
          go_wp2
          go_ret
          exact ⟨rfl, b5.trans (hb7.mono b5.size)⟩
        · clear hlt
          have hd1 : decide ((i : Int) < (len2 : Int)) = false := by simp; omega
          go_wp2_with fail
          refine (write_yes g (cs.take at') (some ⟨g', at', none⟩) n (cap' - at') part wr HH.out HPB.out (by omega) (.inr fun x hx => by cases hx; show g' ≠ g; omega) HLEN.out HTr.out (by omega)).mono ?_
          rintro e w3 ⟨rfl, hH3, hK3⟩
          rw [HTK.eq] at hH3
          obtain ⟨D, hsame, HT3, hs3, HM3, HB3, SMH, OFH⟩ := key.out w3 hH3 hK3
          have HH3 : Hid (HashOf w3 g cs) := hH3
          have SM : Hid (∀ W, HashOf W g cs → Tab W → 1 < W.heap.size → Calls Tryd.prog 19 #[.pointer (some ⟨g, 0, none⟩)] W fun e w' => e = .returned (.agg (arr8 D)) ∧ Below W.heap.size W w') := SMH
          have OF : Hid (∀ W, Bytes W (some ⟨g', 0, none⟩) m cs → Tab W → 1 < W.heap.size → Calls Tryd.prog 10 #[.slice (some ⟨g', 0, none⟩) m cap'] W fun e w' => e = .returned (.agg (arr8 D)) ∧ Below W.heap.size W w') := OFH
          have hw3 := HB3.size
          clear hH3 SMH OFH key
          go_wp2_with fail
          refine (SM.out w3 HH3.out HT3 (by omega)).mono ?_
          rintro e w4 ⟨rfl, hb4⟩
          have b4 : Below w.heap.size w w4 := HB3.trans (hb4.mono hw3)
          have HT4 := HT.out.below h0 b4
          have hw4 := b4.size
          have by4 : Bytes w4 (some ⟨g', 0, none⟩) m cs := (HM3.bytes (by omega)).below hb4 rfl
          have HH4 : Hid (HashOf w4 g cs) := HH3.out.below hb4 hs3
          have hg4 := HH4.out.lt
          clear hb4
          go_wp2_with fail
          refine (OF.out w4 by4 HT4 (by omega)).mono ?_
          rintro e w5 ⟨rfl, hb5⟩
          have b5 : Below w.heap.size w w5 := b4.trans (hb5.mono hw4)
          have HT5 := HT.out.below h0 b5
          have hw5 := b5.size
          have HH5 : Hid (HashOf w5 g cs) := HH4.out.below hb5 hg4
          clear hb5
          go_wp2_with fail
          refine (LNH.out w5 HH5.out).mono ?_
          rintro e w6 ⟨rfl, rfl⟩
          go_wp2_with fail
          refine (works_any w6 HT5 (by omega)).mono ?_
          rintro e w7 ⟨rfl, hb7⟩
          go_wp2
          go_ret
          exact ⟨rfl, b5.trans (hb7.mono b5.size)⟩
end Go.Proofs.YtaeeibllmpaebaaDoor
