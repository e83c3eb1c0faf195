/- Proved: the walk of the law BlakeTexts answers true for any digest and any text. Condition: the two tables. -/
import Derived.Test.YtaeeibllmpaebaaDoorRUnhex
import Derived.Deep.OwnRows
namespace Go.Proofs.YtaeeibllmpaebaaDoor
open Go.RowKit
theorem dval_dig (k : Nat) (hk : k < 16) : dval (Bl.dig k) = k := (dig_dval (Bl.dig k) (Bl.dig_lt k hk) k hk).1 rfl
theorem good_hex {d : List Nat} (h : Bl.Bytes8 32 d) : Good (Bl.hex d) := by
  refine ⟨(Bl.hex_bytes h).1, fun i hi => ?_⟩
  rw [Bl.hex_at d i hi]
  have h1 := h.at (i / 2)
  unfold Bl.hexAt
  split
  · rw [dval_dig _ (by omega)]; omega
  · rw [dval_dig _ (by omega)]; omega
theorem unhex_hex {d : List Nat} (h : Bl.Bytes8 32 d) : unhex (Bl.hex d) = d := by
  refine List.ext_getElem? fun k => ?_
  by_cases hk : k < 32
  · have h1 := h.at k
    have e : (unhex (Bl.hex d))[k]? = some (pair (Bl.hex d) k) := by unfold unhex; rw [List.getElem?_map, List.getElem?_range hk]; rfl
    have e2 : d.getD k 0 = d[k]'(by rw [h.1]; exact hk) := by rw [List.getD_eq_getElem?_getD, List.getElem?_eq_getElem (by rw [h.1]; exact hk)]; rfl
    rw [e, List.getElem?_eq_getElem (by rw [h.1]; exact hk)]
    unfold pair
    rw [Bl.hex_even d k hk, Bl.hex_odd d k hk, dval_dig _ (by omega), dval_dig _ (by omega), ← e2]
    congr 1
    omega
  · rw [List.getElem?_eq_none (by rw [unhex_length]; omega), List.getElem?_eq_none (by rw [h.1]; omega)]
theorem not_good {l : List Nat} (h : ¬ Good l) : l.length ≠ 64 ∨ (l.length = 64 ∧ ∃ j, j < 64 ∧ dval (l.getD j 0) = 16) := by
  by_cases hl : l.length = 64
  · refine .inr ⟨hl, ?_⟩
    by_cases hd : ∀ i, i < 64 → dval (l.getD i 0) < 16
    · exact absurd ⟨hl, hd⟩ h
    · have ⟨j, hj⟩ := Classical.not_forall.1 hd
      have ⟨hj1, hj2⟩ := Classical.not_imp.1 hj
      exact ⟨j, hj1, by have := dval_le (l.getD j 0); omega⟩
  · exact .inl hl
theorem unhex_no (l : List Nat) (w : World) (h8 : ∀ x ∈ l, x < 256) (h : ¬ Good l) :
    Calls Tryd.prog 20 #[.string (Bl.toBytes l)] w fun e w' => e = .returned (.tuple #[.agg (arr8 (Bl.zeros 32)), .int .i64 5]) ∧ Below w.heap.size w w' := by
  rcases not_good h with h1 | ⟨h1, j, hj, hb⟩
  · exact unhex_short l w h1
  · exact unhex_bad l w h8 h1 j hj hb
theorem runhex_yes (l : List Nat) (w : World) (h8 : ∀ x ∈ l, x < 256) (h : Good l) :
    Calls Tryd.prog 21 #[.string (Bl.toBytes l)] w fun e w' => ∃ g cap, e = .returned (.tuple #[.slice (some ⟨g, 0, none⟩) 32 cap, .int .i64 0]) ∧ Mine w' w.heap.size (some ⟨g, 0, none⟩) 32 cap (unhex l) ∧ Below w.heap.size w w' := by
  refine (runhex_any l w h8 h.len).mono ?_
  rintro e w' ⟨hb, ⟨g, cap, he, hM, _⟩ | ⟨_, j, hj, hd⟩⟩
  · exact ⟨g, cap, he, hM, hb⟩
  · have := h.dig j hj; omega
theorem runhex_no (l : List Nat) (w : World) (h8 : ∀ x ∈ l, x < 256) (h : ¬ Good l) :
    Calls Tryd.prog 21 #[.string (Bl.toBytes l)] w fun e w' => e = .returned (.tuple #[.slice none 0 0, .int .i64 5]) ∧ Below w.heap.size w w' := by
  by_cases hl : l.length = 64
  · refine (runhex_any l w h8 hl).mono ?_
    rintro e w' ⟨hb, ⟨g, cap, he, hM, hG⟩ | ⟨he, _⟩⟩
    · exact absurd hG h
    · exact ⟨he, hb⟩
  · exact runhex_short l w hl
theorem toBytes_cut (l : List Nat) (n : Nat) : (Bl.toBytes l).extract 0 n = Bl.toBytes (l.take n) := by
  apply ByteArray.ext
  rw [ByteArray.data_extract]
  simp [Bl.toBytes, List.map_take]
theorem made_arr8 (k : Nat) : madeCells #[.int .u8 0] k = arr8 (Bl.zeros k) := by
  unfold arr8 Bl.zeros
  refine Array.ext (by simp [madeCells]) fun i h1 h2 => ?_
  simp [madeCells, Nat.mod_one, V8]
/- what the last statement reads -/
def Held3 (A B C : Nat) (d X : List Nat) (w7 w' : World) : Prop := w'.rangeAt A 0 (d.map V8) ∧ w'.rangeAt B 0 (X.map V8) ∧ w'.rangeAt C 0 (d.map V8) ∧ Below w7.heap.size w7 w'
theorem Held3.call {A B C : Nat} {d X : List Nat} {w7 w' w'' : World} (h : Held3 A B C d X w7 w') (hA : A < w7.heap.size) (hB : B < w7.heap.size) (hC : C < w7.heap.size) (hb : Below w'.heap.size w' w'') : Held3 A B C d X w7 w'' := by
  have hs := h.2.2.2.size
  exact ⟨range_below h.1 hb (by omega), range_below h.2.1 hb (by omega), range_below h.2.2.1 hb (by omega), h.2.2.2.trans (hb.mono hs)⟩
set_option maxHeartbeats 4000000 in
set_option maxRecDepth 20000 in
/- the law's end, in whatever way the text was read -/
theorem texts_walk (d l0 : List Nat) (w : World) (hd : Bl.Bytes8 32 d) (h80 : ∀ x ∈ l0, x < 256) (hl0 : l0.length ≤ 9223372036854775807) (hT : Tab w) (h0 : 1 < w.heap.size) :
    Calls Tryd.prog 6 #[.agg (arr8 d), .string (Bl.toBytes l0)] w fun e w' => e = .returned (.bool true) ∧ Below w.heap.size w w' := by
  have HT : Hid (Tab w) := hT
  have HD : Hid (Bl.Bytes8 32 d) := hd
  obtain ⟨m, hm, hmin⟩ : ∃ m : Nat, m ≤ l0.length ∧ ((200 < l0.length ∧ m = 200) ∨ (l0.length ≤ 200 ∧ m = l0.length)) := by
    by_cases h : 200 < l0.length
    · exact ⟨200, by omega, .inl ⟨h, rfl⟩⟩
    · exact ⟨l0.length, by omega, .inr ⟨by omega, rfl⟩⟩
  have hcut := toBytes_cut l0 m
  have hsz := bytes_size l0
  have H8 : Hid (∀ x ∈ l0.take m, x < 256) := fun x hx => h80 x (List.mem_of_mem_take hx)
  clear hT hd h80
  go_enter Tryd.func6, Tryd.ntmps6
  go_upto_region 1 with fail
  have R1 : Row8 (w.alloc (.cells (arr8 d) 24)) w.heap.size 24 d := heap_alloc_new w _
  have B1 : Below w.heap.size w (w.alloc (.cells (arr8 d) 24)) := (Below.refl _ _).alloc (Nat.le_refl _) _
  generalize w.alloc (.cells (arr8 d) 24) = w1 at *
  have HR1 : Hid (Row8 w1 w.heap.size 24 d) := R1
  have HB1 : Hid (Below w.heap.size w w1) := B1
  have hz1 : w.heap.size < w1.heap.size := (Array.getElem?_eq_some_iff.1 R1).1
  clear R1 B1
  go_cut [1] from 11 (fun s wx => s = .string (Bl.toBytes (l0.take m)) ∧ wx = w1)
  case first =>
    rcases hmin with ⟨h1, rfl⟩ | ⟨h1, rfl⟩
    · have h2 : (200 : Int) < (l0.length : Int) := by omega
      have h3 : ¬ (l0.length : Int) < 200 := by omega
      have h4 : ¬ l0.length < 200 := by omega
      go_wp2_with fail
      go_meet
      case rel => exact ⟨rfl, rfl⟩
    · have h2 : (l0.length : Int) ≤ 200 := by omega
      have h3 : ¬ (200 : Int) < (l0.length : Int) := by omega
      have h4 : ¬ 200 < l0.length := by omega
      go_wp2_with fail
      go_meet
      case rel => exact ⟨by rw [List.take_of_length_le (Nat.le_refl _)], rfl⟩
  case rest =>
    obtain ⟨rfl, hw⟩ := hcut
    rw [hw]
    clear hw hmin hm hsz
    generalize l0.take m = l at *
    have HHX : Hid (∀ W, Calls Tryd.prog 12 #[.agg (arr8 d)] W fun e w' => e = .returned (.string (Bl.toBytes (Bl.hex d))) ∧ Below W.heap.size W w') := fun W => hex_any d W HD.out
    have HHX2 : Hid (∀ W, Calls Tryd.prog 12 #[.agg (d.map V8).toArray] W fun e w' => e = .returned (.string (Bl.toBytes (Bl.hex d))) ∧ Below W.heap.size W w') := fun W => hex_any d W HD.out
    have RHX : Hid (∀ W ad cc, Bytes W ad 32 d → Calls Tryd.prog 13 #[.slice ad 32 cc] W fun e w' => e = .returned (.string (Bl.toBytes (Bl.hex d))) ∧ Below W.heap.size W w') := fun W ad cc h => rhex_of d ad cc W HD.out h
    have UHX : Hid (∀ W, Calls Tryd.prog 20 #[.string (Bl.toBytes (Bl.hex d))] W fun e w' => e = .returned (.tuple #[.agg (arr8 d), .int .i64 0]) ∧ Below W.heap.size W w') := fun W => by
      have e := unhex_yes (Bl.hex d) W (Bl.hex_bytes HD.out).2 (good_hex HD.out)
      rw [unhex_hex HD.out] at e
      exact e
    generalize Bl.toBytes (Bl.hex d) = HX at *
    have hid : Hid ((Tryd.prog.info? 24).map (·.size) = some (arr8 d).size) := hi24 HD.out.1
    have hed : Hid (32 = (arr8 d).size) := by show _ = _; rw [arr8_size, HD.out.1]
    have H1d : Hid ((arr8 d).all (·.oneCell') = true) := arr8_one _
    have hsame := same32 d HD.out.1
    have hsame2 : ∀ W : World, (Op.equalIn 10000 24 (.agg (d.map V8).toArray) (.agg (d.map V8).toArray)).run Tryd.prog W = .ok true W := hsame
    clear hsame
    by_cases hG : Good l
    · have HX8 : Hid (Bl.Bytes8 32 (unhex l)) := ⟨unhex_length l, fun x hx => by
          obtain ⟨k, hk, rfl⟩ := List.mem_map.1 hx
          have h1 := hG.dig (2 * k) (by have := List.mem_range.1 hk; omega)
          have h2 := hG.dig (2 * k + 1) (by have := List.mem_range.1 hk; omega)
          unfold pair; omega⟩
      have U1 : Hid (∀ W, Calls Tryd.prog 20 #[.string (Bl.toBytes l)] W fun e w' => e = .returned (.tuple #[.agg (arr8 (unhex l)), .int .i64 0]) ∧ Below W.heap.size W w') := fun W => unhex_yes l W H8.out hG
      have U2 : Hid (∀ W, Calls Tryd.prog 21 #[.string (Bl.toBytes l)] W fun e w' => ∃ g cap, e = .returned (.tuple #[.slice (some ⟨g, 0, none⟩) 32 cap, .int .i64 0]) ∧ Mine w' W.heap.size (some ⟨g, 0, none⟩) 32 cap (unhex l) ∧ Below W.heap.size W w') := fun W => runhex_yes l W H8.out hG
      have hix : Hid ((Tryd.prog.info? 24).map (·.size) = some (arr8 (unhex l)).size) := hi24 HX8.out.1
      have hex : Hid (32 = (arr8 (unhex l)).size) := by show _ = _; rw [arr8_size, HX8.out.1]
      have H1x : Hid ((arr8 (unhex l)).all (·.oneCell') = true) := arr8_one _
      obtain ⟨X, hX⟩ : ∃ X, X = (unhex l) := ⟨_, rfl⟩
      rw [← hX] at HX8 U1 hix hex H1x U2
      clear hX hG
      go_upto_region 6 with (first
        | (go_at_call 20; refine (U1.out _).mono ?_; rintro e w2 ⟨rfl, hb2⟩)
        | (refine store_row rfl rfl 24 _ _ rfl w2.heap.size (arr8 X) rfl rfl 24 _ (heap_alloc_new w2 _) hix.out (by exact hex.out) H1x.out ?_; generalize hw3 : World.setRow (World.alloc w2 _) w2.heap.size (arr8 X) = w3)
        | (go_at_call 21; refine (U2.out _).mono ?_; rintro e w4 ⟨gy, cy, rfl, hMy, hb4⟩))
      have R3 : Row8 w3 w2.heap.size 24 X := by rw [← hw3]; exact setRow_heap _ _ _ _ _ _ (heap_alloc_new w2 _)
      have b3 : Below w2.heap.size w2 w3 := by rw [← hw3]; exact below_setRow ((Below.refl _ _).alloc (Nat.le_refl _) _) (Nat.le_refl _) _
      have hz2 : w1.heap.size ≤ w2.heap.size := hb2.size
      have hz3 : w2.heap.size < w3.heap.size := (Array.getElem?_eq_some_iff.1 R3).1
      have hz4 : w3.heap.size ≤ w4.heap.size := hb4.size
      have RA4 : Row8 w4 w.heap.size 24 d := ((HR1.out.below hb2 hz1).below b3 (by omega)).below hb4 (by omega)
      have RX4 : Row8 w4 w2.heap.size 24 X := R3.below hb4 hz3
      have B4 : Below w.heap.size w w4 := HB1.out.trans ((hb2.mono (by omega)).trans ((b3.mono (by omega)).trans (hb4.mono (by omega))))
      have HBY : Hid (Bytes w4 (some ⟨gy, 0, none⟩) 32 X) := hMy.bytes (by omega)
      have HRA : Hid (Row8 w4 w.heap.size 24 d) := RA4
      have HRX : Hid (Row8 w4 w2.heap.size 24 X) := RX4
      have HB5 : Hid (Below w.heap.size w w4) := B4
      have hz5 : w2.heap.size < w4.heap.size := by omega
      clear hMy
      have hzw5 : w.heap.size < w2.heap.size := by omega
      clear R3 b3 hw3 hb2 hb4 RA4 RX4 B4 HR1 HB1 U1 U2 hix hex H1x
      go_upto_region 7 with (first
        | (refine wpList_load_row rfl 24 _ rfl w.heap.size rfl 24 (arr8 d) (0, 0) _ HRA.out Tryd.underlying24 rfl hid.out ?_)
        | (go_at_call 12; refine (HHX.out _).mono ?_; rintro e w6 ⟨rfl, hb6⟩)
        | (go_at_call 20; refine (UHX.out _).mono ?_; rintro e w7 ⟨rfl, hb7⟩)
        | (refine store_row rfl rfl 24 _ _ rfl w7.heap.size (arr8 d) rfl rfl 24 _ (heap_alloc_new w7 _) hid.out (by exact hed.out) H1d.out ?_; generalize hw8 : World.setRow (World.alloc w7 _) w7.heap.size (arr8 d) = w8))
      have R8 : Row8 w8 w7.heap.size 24 d := by rw [← hw8]; exact setRow_heap _ _ _ _ _ _ (heap_alloc_new w7 _)
      have b8 : Below w7.heap.size w7 w8 := by rw [← hw8]; exact below_setRow ((Below.refl _ _).alloc (Nat.le_refl _) _) (Nat.le_refl _) _
      have hz6 := hb6.size
      have hz7 := hb7.size
      have hz8 : w7.heap.size < w8.heap.size := (Array.getElem?_eq_some_iff.1 R8).1
      have b58 : Below w4.heap.size w4 w8 := hb6.trans ((hb7.mono hz6).trans (b8.mono (by omega)))
      have RA8 : w8.rangeAt w.heap.size 0 (d.map V8) := range_of_row8 (HRA.out.below b58 (by omega))
      have RX8 : w8.rangeAt w2.heap.size 0 (X.map V8) := range_of_row8 (HRX.out.below b58 hz5)
      have RC8 : w8.rangeAt w7.heap.size 0 (d.map V8) := range_of_row8 R8
      have BY8 : Hid (Bytes w8 (some ⟨gy, 0, none⟩) 32 X) := HBY.out.below b58 rfl
      have HB8 : Hid (Below w.heap.size w w8) := HB5.out.trans (b58.mono (by omega))
      have HT8 : Hid (Tab w8) := HT.out.below h0 HB8.out
      have hA8 : w.heap.size < w8.heap.size := by omega
      have hX8 : w2.heap.size < w8.heap.size := by omega
      have hcvx : ∀ W : World, Held3 w.heap.size w2.heap.size w7.heap.size d X w8 W → (convert 22 9 (.slice (some ⟨w2.heap.size, 0, none⟩) 32 32)).run Tryd.prog W = .ok (.string (Bl.toBytes X)) W := fun W h => str_of_bytes (range_bytes h.2.1 HX8.out) (by omega) 32
      have hcvy : ∀ W : World, Held3 w.heap.size w2.heap.size w7.heap.size d X w8 W → (convert 22 9 (.slice (some ⟨gy, 0, none⟩) 32 cy)).run Tryd.prog W = .ok (.string (Bl.toBytes X)) W := fun W h => str_of_bytes (BY8.out.below h.2.2.2 rfl) (by omega) cy
      have i24 : (Tryd.prog.info? 24).map (·.size) = some (d.map V8).length := by rw [size24, List.length_map, HD.out.1]
      have HS : Hid (Held3 w.heap.size w2.heap.size w7.heap.size d X w8 w8.drew) := ⟨RA8, RX8, RC8, (Below.refl _ _).drew⟩
      clear R8 b8 hw8 hb6 hb7 b58 RA8 RX8 RC8 HRA HRX HBY HB5
      refine wp_region_held_drew (S := Held3 w.heap.size w2.heap.size w7.heap.size d X w8) (by kernel_rfl) HS.out (fun _ => ?_)
      refine heldTake 0 (some 35) (.agg (d.map V8).toArray) rfl rfl (by kernel_rfl) (by kernel_rfl) (by kernel_rfl) (fun _ _ _ h => h) (yieldsIf_load_mid (by rfl) _ _ rfl _ _ rfl (d.map V8) _ (fun w hS => hS.1) Tryd.underlying24 rfl i24) HS.out ?_
      simp only [Act.put, List.setIfInBounds_toArray, List.set_cons_zero, List.set_cons_succ]
      refine heldTake 2 (some 37) (.slice (some ⟨w.heap.size, 0, none⟩) 32 32) rfl rfl (by kernel_rfl) (by kernel_rfl) (by kernel_rfl) (fun _ _ _ h => h) (Or.inl ⟨by rfl, fun w hS => ?_⟩) HS.out ?_
      · (go_simp)
      simp only [Act.put, List.setIfInBounds_toArray, List.set_cons_zero, List.set_cons_succ]
      refine heldOne 1 (by kernel_rfl) rfl (by rfl) (fun KK hK => ?_)
      go_simp
      go_at_call 12
      refine (HHX2.out _).mono ?_
      rintro e v1 ⟨rfl, hbv1⟩
      have HSv1 : Hid (Held3 w.heap.size w2.heap.size w7.heap.size d X w8 v1) := HS.out.call hA8 hX8 hz8 hbv1
      refine hK.out _ _ HSv1.out ?_
      clear hK KK
      try simp only [Act.put, List.setIfInBounds_toArray, List.set_cons_zero, List.set_cons_succ]
      refine heldOne 3 (by kernel_rfl) rfl (by rfl) (fun KK hK => ?_)
      go_simp
      go_at_call 13
      refine (RHX.out _ _ _ (range_bytes HSv1.out.1 HD.out)).mono ?_
      rintro e v2 ⟨rfl, hbv2⟩
      have HSv2 : Hid (Held3 w.heap.size w2.heap.size w7.heap.size d X w8 v2) := HSv1.out.call hA8 hX8 hz8 hbv2
      refine hK.out _ _ HSv2.out ?_
      clear hK KK
      try simp only [Act.put, List.setIfInBounds_toArray, List.set_cons_zero, List.set_cons_succ]
      refine heldTake 4 (some 39) (.bool true) rfl rfl (by kernel_rfl) (by kernel_rfl) (by kernel_rfl) (fun _ _ _ h => h) (Or.inl ⟨by rfl, fun w hS => ?_⟩) HSv2.out ?_
      · (go_simp)
      simp only [Act.put, List.setIfInBounds_toArray, List.set_cons_zero, List.set_cons_succ]
      refine heldTake 5 (some 40) (.bool true) rfl rfl (by kernel_rfl) (by kernel_rfl) (by kernel_rfl) (fun _ _ _ h => h) (Or.inl ⟨by rfl, fun w hS => ?_⟩) HSv2.out ?_
      · (go_simp)
      simp only [Act.put, List.setIfInBounds_toArray, List.set_cons_zero, List.set_cons_succ]
      refine heldTake 6 (some 41) (.slice (some ⟨w2.heap.size, 0, none⟩) 32 32) rfl rfl (by kernel_rfl) (by kernel_rfl) (by kernel_rfl) (fun _ _ _ h => h) (Or.inl ⟨by rfl, fun w hS => ?_⟩) HSv2.out ?_
      · (go_simp)
      simp only [Act.put, List.setIfInBounds_toArray, List.set_cons_zero, List.set_cons_succ]
      refine heldTake 7 (some 42) (.string (Bl.toBytes X)) rfl rfl (by kernel_rfl) (by kernel_rfl) (by kernel_rfl) (fun _ _ _ h => h) (Or.inl ⟨by rfl, fun w hS => ?_⟩) HSv2.out ?_
      · (have e := hcvx w hS; go_simp)
      simp only [Act.put, List.setIfInBounds_toArray, List.set_cons_zero, List.set_cons_succ]
      refine heldTake 8 (some 43) (.slice (some ⟨gy, 0, none⟩) 32 cy) rfl rfl (by kernel_rfl) (by kernel_rfl) (by kernel_rfl) (fun _ _ _ h => h) (Or.inl ⟨by rfl, fun w hS => ?_⟩) HSv2.out ?_
      · (go_simp)
      simp only [Act.put, List.setIfInBounds_toArray, List.set_cons_zero, List.set_cons_succ]
      refine heldTake 9 (some 44) (.string (Bl.toBytes X)) rfl rfl (by kernel_rfl) (by kernel_rfl) (by kernel_rfl) (fun _ _ _ h => h) (Or.inl ⟨by rfl, fun w hS => ?_⟩) HSv2.out ?_
      · (have e := hcvy w hS; go_simp)
      simp only [Act.put, List.setIfInBounds_toArray, List.set_cons_zero, List.set_cons_succ]
      refine heldTake 10 (some 45) (.bool true) rfl rfl (by kernel_rfl) (by kernel_rfl) (by kernel_rfl) (fun _ _ _ h => h) (Or.inl ⟨by rfl, fun w hS => ?_⟩) HSv2.out ?_
      · (go_simp)
      simp only [Act.put, List.setIfInBounds_toArray, List.set_cons_zero, List.set_cons_succ]
      refine heldTake 11 (some 46) (.bool true) rfl rfl (by kernel_rfl) (by kernel_rfl) (by kernel_rfl) (fun _ _ _ h => h) (Or.inl ⟨by rfl, fun w hS => ?_⟩) HSv2.out ?_
      · (go_simp)
      simp only [Act.put, List.setIfInBounds_toArray, List.set_cons_zero, List.set_cons_succ]
      refine heldTake 12 (some 47) (.bool true) rfl rfl (by kernel_rfl) (by kernel_rfl) (by kernel_rfl) (fun _ _ _ h => h) (Or.inl ⟨by rfl, fun w hS => ?_⟩) HSv2.out ?_
      · (go_simp)
      simp only [Act.put, List.setIfInBounds_toArray, List.set_cons_zero, List.set_cons_succ]
      refine heldTake 13 (some 48) (.int .i64 0) rfl rfl (by kernel_rfl) (by kernel_rfl) (by kernel_rfl) (fun _ _ _ h => h) (Or.inl ⟨by rfl, fun w hS => ?_⟩) HSv2.out ?_
      · (go_simp)
      simp only [Act.put, List.setIfInBounds_toArray, List.set_cons_zero, List.set_cons_succ]
      refine heldTake 14 (some 49) (.int .i64 0) rfl rfl (by kernel_rfl) (by kernel_rfl) (by kernel_rfl) (fun _ _ _ h => h) (Or.inl ⟨by rfl, fun w hS => ?_⟩) HSv2.out ?_
      · (go_simp)
      simp only [Act.put, List.setIfInBounds_toArray, List.set_cons_zero, List.set_cons_succ]
      refine heldTake 15 (some 50) (.bool true) rfl rfl (by kernel_rfl) (by kernel_rfl) (by kernel_rfl) (fun _ _ _ h => h) (Or.inl ⟨by rfl, fun w hS => ?_⟩) HSv2.out ?_
      · (go_simp)
      simp only [Act.put, List.setIfInBounds_toArray, List.set_cons_zero, List.set_cons_succ]
      refine heldTake 16 (some 51) (.bool true) rfl rfl (by kernel_rfl) (by kernel_rfl) (by kernel_rfl) (fun _ _ _ h => h) (Or.inl ⟨by rfl, fun w hS => ?_⟩) HSv2.out ?_
      · (go_simp)
      simp only [Act.put, List.setIfInBounds_toArray, List.set_cons_zero, List.set_cons_succ]
      refine heldTake 17 (some 52) (.bool true) rfl rfl (by kernel_rfl) (by kernel_rfl) (by kernel_rfl) (fun _ _ _ h => h) (Or.inl ⟨by rfl, fun w hS => ?_⟩) HSv2.out ?_
      · (go_simp)
      simp only [Act.put, List.setIfInBounds_toArray, List.set_cons_zero, List.set_cons_succ]
      refine heldTake 18 (some 53) (.agg (d.map V8).toArray) rfl rfl (by kernel_rfl) (by kernel_rfl) (by kernel_rfl) (fun _ _ _ h => h) (yieldsIf_load_mid (by rfl) _ _ rfl _ _ rfl (d.map V8) _ (fun w hS => hS.2.2.1) Tryd.underlying24 rfl i24) HSv2.out ?_
      simp only [Act.put, List.setIfInBounds_toArray, List.set_cons_zero, List.set_cons_succ]
      refine heldTake 19 (some 54) (.agg (d.map V8).toArray) rfl rfl (by kernel_rfl) (by kernel_rfl) (by kernel_rfl) (fun _ _ _ h => h) (yieldsIf_load_mid (by rfl) _ _ rfl _ _ rfl (d.map V8) _ (fun w hS => hS.1) Tryd.underlying24 rfl i24) HSv2.out ?_
      simp only [Act.put, List.setIfInBounds_toArray, List.set_cons_zero, List.set_cons_succ]
      refine heldTake 20 (some 55) (.bool true) rfl rfl (by kernel_rfl) (by kernel_rfl) (by kernel_rfl) (fun _ _ _ h => h) (Or.inl ⟨by rfl, fun w hS => ?_⟩) HSv2.out ?_
      · (go_simp)
      simp only [Act.put, List.setIfInBounds_toArray, List.set_cons_zero, List.set_cons_succ]
      refine heldTake 21 (some 56) (.bool true) rfl rfl (by kernel_rfl) (by kernel_rfl) (by kernel_rfl) (fun _ _ _ h => h) (Or.inl ⟨by rfl, fun w hS => ?_⟩) HSv2.out ?_
      · (go_simp)
      simp only [Act.put, List.setIfInBounds_toArray, List.set_cons_zero, List.set_cons_succ]
      refine heldTake 22 (some 57) (.bool true) rfl rfl (by kernel_rfl) (by kernel_rfl) (by kernel_rfl) (fun _ _ _ h => h) (Or.inl ⟨by rfl, fun w hS => ?_⟩) HSv2.out ?_
      · (go_simp)
      simp only [Act.put, List.setIfInBounds_toArray, List.set_cons_zero, List.set_cons_succ]
      refine heldTake 23 (some 58) (.int .i64 0) rfl rfl (by kernel_rfl) (by kernel_rfl) (by kernel_rfl) (fun _ _ _ h => h) (Or.inl ⟨by rfl, fun w hS => ?_⟩) HSv2.out ?_
      · (go_simp)
      simp only [Act.put, List.setIfInBounds_toArray, List.set_cons_zero, List.set_cons_succ]
      refine heldTake 24 (some 59) (.bool true) rfl rfl (by kernel_rfl) (by kernel_rfl) (by kernel_rfl) (fun _ _ _ h => h) (Or.inl ⟨by rfl, fun w hS => ?_⟩) HSv2.out ?_
      · (go_simp)
      simp only [Act.put, List.setIfInBounds_toArray, List.set_cons_zero, List.set_cons_succ]
      refine heldTake 25 (some 60) (.bool true) rfl rfl (by kernel_rfl) (by kernel_rfl) (by kernel_rfl) (fun _ _ _ h => h) (Or.inl ⟨by rfl, fun w hS => ?_⟩) HSv2.out ?_
      · (go_simp)
      simp only [Act.put, List.setIfInBounds_toArray, List.set_cons_zero, List.set_cons_succ]
      refine heldTake 26 (some 61) (.bool true) rfl rfl (by kernel_rfl) (by kernel_rfl) (by kernel_rfl) (fun _ _ _ h => h) (Or.inl ⟨by rfl, fun w hS => ?_⟩) HSv2.out ?_
      · (go_simp)
      simp only [Act.put, List.setIfInBounds_toArray, List.set_cons_zero, List.set_cons_succ]
      refine heldOne 27 (by kernel_rfl) rfl (by rfl) (fun KK hK => ?_)
      go_simp
      go_at_call 14
      refine (works_any _ (HT8.out.below (by omega) HSv2.out.2.2.2) (by have := HSv2.out.2.2.2.size; omega)).mono ?_
      rintro e v3 ⟨rfl, hbv3⟩
      have HSv3 : Hid (Held3 w.heap.size w2.heap.size w7.heap.size d X w8 v3) := HSv2.out.call hA8 hX8 hz8 hbv3
      refine hK.out _ _ HSv3.out ?_
      clear hK KK
      try simp only [Act.put, List.setIfInBounds_toArray, List.set_cons_zero, List.set_cons_succ]
      refine heldTake 28 (some 63) (.bool true) rfl rfl (by kernel_rfl) (by kernel_rfl) (by kernel_rfl) (fun _ _ _ h => h) (Or.inl ⟨by rfl, fun w hS => ?_⟩) HSv3.out ?_
      · (go_simp)
      simp only [Act.put, List.setIfInBounds_toArray, List.set_cons_zero, List.set_cons_succ]
      refine heldTake 29 (some 4) (.bool true) rfl rfl (by kernel_rfl) (by kernel_rfl) (by kernel_rfl) (fun _ _ _ h => h) (Or.inl ⟨by rfl, fun w hS => ?_⟩) HSv3.out ?_
      · (go_simp)
      simp only [Act.put, List.setIfInBounds_toArray, List.set_cons_zero, List.set_cons_succ]
      refine wpAnyH_done (by kernel_rfl) ?_ _
      go_wp2
      go_ret
      exact ⟨rfl, HB8.out.trans (Below.mono HSv3.out.2.2.2 (by omega))⟩
    · have HX8 : Hid (Bl.Bytes8 32 (Bl.zeros 32)) := Bl.zeros_bytes 32
      have U1 : Hid (∀ W, Calls Tryd.prog 20 #[.string (Bl.toBytes l)] W fun e w' => e = .returned (.tuple #[.agg (arr8 (Bl.zeros 32)), .int .i64 5]) ∧ Below W.heap.size W w') := fun W => unhex_no l W H8.out hG
      have U2 : Hid (∀ W, Calls Tryd.prog 21 #[.string (Bl.toBytes l)] W fun e w' => e = .returned (.tuple #[.slice none 0 0, .int .i64 5]) ∧ Below W.heap.size W w') := fun W => runhex_no l W H8.out hG
      have hmk : ∀ W : World, (Instr.makeSlice 22 (.int .i64 32) (.int .i64 32)).run Tryd.prog W = .ok (.slice (some ⟨W.heap.size, 0, none⟩) 32 32) (W.alloc (.cells (madeCells #[.int .u8 0] 32) 5)) :=
        fun W => run_make_row' 22 5 (.int .u8 0) 1 Tryd.underlying22 (by kernel_rfl) rfl .i64 .i64 32 (by omega) (by omega) W
      rw [made_arr8] at hmk
      have hix : Hid ((Tryd.prog.info? 24).map (·.size) = some (arr8 (Bl.zeros 32)).size) := hi24 HX8.out.1
      have hex : Hid (32 = (arr8 (Bl.zeros 32)).size) := by show _ = _; rw [arr8_size, HX8.out.1]
      have H1x : Hid ((arr8 (Bl.zeros 32)).all (·.oneCell') = true) := arr8_one _
      obtain ⟨X, hX⟩ : ∃ X, X = (Bl.zeros 32) := ⟨_, rfl⟩
      rw [← hX] at HX8 U1 hix hex H1x
      have HXZ : Is X (Bl.zeros 32) := ⟨hX⟩
      clear hX hG
      go_upto_region 6 with (first
        | (go_at_call 20; refine (U1.out _).mono ?_; rintro e w2 ⟨rfl, hb2⟩)
        | (refine store_row rfl rfl 24 _ _ rfl w2.heap.size (arr8 X) rfl rfl 24 _ (heap_alloc_new w2 _) hix.out (by exact hex.out) H1x.out ?_; generalize hw3 : World.setRow (World.alloc w2 _) w2.heap.size (arr8 X) = w3)
        | (go_at_call 21; refine (U2.out _).mono ?_; rintro e w4 ⟨rfl, hb4⟩))
      have R3 : Row8 w3 w2.heap.size 24 X := by rw [← hw3]; exact setRow_heap _ _ _ _ _ _ (heap_alloc_new w2 _)
      have b3 : Below w2.heap.size w2 w3 := by rw [← hw3]; exact below_setRow ((Below.refl _ _).alloc (Nat.le_refl _) _) (Nat.le_refl _) _
      have hz2 : w1.heap.size ≤ w2.heap.size := hb2.size
      have hz3 : w2.heap.size < w3.heap.size := (Array.getElem?_eq_some_iff.1 R3).1
      have hz4 : w3.heap.size ≤ w4.heap.size := hb4.size
      have RA4 : Row8 w4 w.heap.size 24 d := ((HR1.out.below hb2 hz1).below b3 (by omega)).below hb4 (by omega)
      have RX4 : Row8 w4 w2.heap.size 24 X := R3.below hb4 hz3
      have B4 : Below w.heap.size w w4 := HB1.out.trans ((hb2.mono (by omega)).trans ((b3.mono (by omega)).trans (hb4.mono (by omega))))
      generalize hw5 : w4.alloc (.cells (arr8 (Bl.zeros 32)) 5) = w5
      have b5 : Below w4.heap.size w4 w5 := by rw [← hw5]; exact (Below.refl _ _).alloc (Nat.le_refl _) _
      have R5 : Row8 w5 w4.heap.size 5 X := by rw [← hw5, HXZ.eq]; exact heap_alloc_new w4 _
      have HBY : Hid (Bytes w5 (some ⟨w4.heap.size, 0, none⟩) 32 X) := ⟨HX8.out.1, HX8.out.2, by omega, .inr ⟨_, 0, rfl, fun i hi => by rw [Nat.zero_add]; exact (R5.at i (by rw [HX8.out.1]; exact hi)).1⟩⟩
      have HRA : Hid (Row8 w5 w.heap.size 24 d) := RA4.below b5 (by omega)
      have HRX : Hid (Row8 w5 w2.heap.size 24 X) := RX4.below b5 (by omega)
      have HB5 : Hid (Below w.heap.size w w5) := B4.trans (b5.mono (by omega))
      have hz5 : w2.heap.size < w5.heap.size := by have := b5.size; omega
      clear hw5 b5 R5 hmk HXZ
      have hzw5 : w.heap.size < w2.heap.size := by omega
      clear R3 b3 hw3 hb2 hb4 RA4 RX4 B4 HR1 HB1 U1 U2 hix hex H1x
      go_upto_region 7 with (first
        | (refine wpList_load_row rfl 24 _ rfl w.heap.size rfl 24 (arr8 d) (0, 0) _ HRA.out Tryd.underlying24 rfl hid.out ?_)
        | (go_at_call 12; refine (HHX.out _).mono ?_; rintro e w6 ⟨rfl, hb6⟩)
        | (go_at_call 20; refine (UHX.out _).mono ?_; rintro e w7 ⟨rfl, hb7⟩)
        | (refine store_row rfl rfl 24 _ _ rfl w7.heap.size (arr8 d) rfl rfl 24 _ (heap_alloc_new w7 _) hid.out (by exact hed.out) H1d.out ?_; generalize hw8 : World.setRow (World.alloc w7 _) w7.heap.size (arr8 d) = w8))
      have R8 : Row8 w8 w7.heap.size 24 d := by rw [← hw8]; exact setRow_heap _ _ _ _ _ _ (heap_alloc_new w7 _)
      have b8 : Below w7.heap.size w7 w8 := by rw [← hw8]; exact below_setRow ((Below.refl _ _).alloc (Nat.le_refl _) _) (Nat.le_refl _) _
      have hz6 := hb6.size
      have hz7 := hb7.size
      have hz8 : w7.heap.size < w8.heap.size := (Array.getElem?_eq_some_iff.1 R8).1
      have b58 : Below w5.heap.size w5 w8 := hb6.trans ((hb7.mono hz6).trans (b8.mono (by omega)))
      have RA8 : w8.rangeAt w.heap.size 0 (d.map V8) := range_of_row8 (HRA.out.below b58 (by omega))
      have RX8 : w8.rangeAt w2.heap.size 0 (X.map V8) := range_of_row8 (HRX.out.below b58 hz5)
      have RC8 : w8.rangeAt w7.heap.size 0 (d.map V8) := range_of_row8 R8
      have BY8 : Hid (Bytes w8 (some ⟨w4.heap.size, 0, none⟩) 32 X) := HBY.out.below b58 rfl
      have HB8 : Hid (Below w.heap.size w w8) := HB5.out.trans (b58.mono (by omega))
      have HT8 : Hid (Tab w8) := HT.out.below h0 HB8.out
      have hA8 : w.heap.size < w8.heap.size := by omega
      have hX8 : w2.heap.size < w8.heap.size := by omega
      have hcvx : ∀ W : World, Held3 w.heap.size w2.heap.size w7.heap.size d X w8 W → (convert 22 9 (.slice (some ⟨w2.heap.size, 0, none⟩) 32 32)).run Tryd.prog W = .ok (.string (Bl.toBytes X)) W := fun W h => str_of_bytes (range_bytes h.2.1 HX8.out) (by omega) 32
      have hcvy : ∀ W : World, Held3 w.heap.size w2.heap.size w7.heap.size d X w8 W → (convert 22 9 (.slice (some ⟨w4.heap.size, 0, none⟩) 32 32)).run Tryd.prog W = .ok (.string (Bl.toBytes X)) W := fun W h => str_of_bytes (BY8.out.below h.2.2.2 rfl) (by omega) 32
      have i24 : (Tryd.prog.info? 24).map (·.size) = some (d.map V8).length := by rw [size24, List.length_map, HD.out.1]
      have HS : Hid (Held3 w.heap.size w2.heap.size w7.heap.size d X w8 w8.drew) := ⟨RA8, RX8, RC8, (Below.refl _ _).drew⟩
      clear R8 b8 hw8 hb6 hb7 b58 RA8 RX8 RC8 HRA HRX HBY HB5
      refine wp_region_held_drew (S := Held3 w.heap.size w2.heap.size w7.heap.size d X w8) (by kernel_rfl) HS.out (fun _ => ?_)
      refine heldTake 0 (some 35) (.agg (d.map V8).toArray) rfl rfl (by kernel_rfl) (by kernel_rfl) (by kernel_rfl) (fun _ _ _ h => h) (yieldsIf_load_mid (by rfl) _ _ rfl _ _ rfl (d.map V8) _ (fun w hS => hS.1) Tryd.underlying24 rfl i24) HS.out ?_
      simp only [Act.put, List.setIfInBounds_toArray, List.set_cons_zero, List.set_cons_succ]
      refine heldTake 2 (some 37) (.slice (some ⟨w.heap.size, 0, none⟩) 32 32) rfl rfl (by kernel_rfl) (by kernel_rfl) (by kernel_rfl) (fun _ _ _ h => h) (Or.inl ⟨by rfl, fun w hS => ?_⟩) HS.out ?_
      · (go_simp)
      simp only [Act.put, List.setIfInBounds_toArray, List.set_cons_zero, List.set_cons_succ]
      refine heldOne 1 (by kernel_rfl) rfl (by rfl) (fun KK hK => ?_)
      go_simp
      go_at_call 12
      refine (HHX2.out _).mono ?_
      rintro e v1 ⟨rfl, hbv1⟩
      have HSv1 : Hid (Held3 w.heap.size w2.heap.size w7.heap.size d X w8 v1) := HS.out.call hA8 hX8 hz8 hbv1
      refine hK.out _ _ HSv1.out ?_
      clear hK KK
      try simp only [Act.put, List.setIfInBounds_toArray, List.set_cons_zero, List.set_cons_succ]
      refine heldOne 3 (by kernel_rfl) rfl (by rfl) (fun KK hK => ?_)
      go_simp
      go_at_call 13
      refine (RHX.out _ _ _ (range_bytes HSv1.out.1 HD.out)).mono ?_
      rintro e v2 ⟨rfl, hbv2⟩
      have HSv2 : Hid (Held3 w.heap.size w2.heap.size w7.heap.size d X w8 v2) := HSv1.out.call hA8 hX8 hz8 hbv2
      refine hK.out _ _ HSv2.out ?_
      clear hK KK
      try simp only [Act.put, List.setIfInBounds_toArray, List.set_cons_zero, List.set_cons_succ]
      refine heldTake 4 (some 39) (.bool true) rfl rfl (by kernel_rfl) (by kernel_rfl) (by kernel_rfl) (fun _ _ _ h => h) (Or.inl ⟨by rfl, fun w hS => ?_⟩) HSv2.out ?_
      · (go_simp)
      simp only [Act.put, List.setIfInBounds_toArray, List.set_cons_zero, List.set_cons_succ]
      refine heldTake 5 (some 40) (.bool true) rfl rfl (by kernel_rfl) (by kernel_rfl) (by kernel_rfl) (fun _ _ _ h => h) (Or.inl ⟨by rfl, fun w hS => ?_⟩) HSv2.out ?_
      · (go_simp)
      simp only [Act.put, List.setIfInBounds_toArray, List.set_cons_zero, List.set_cons_succ]
      refine heldTake 6 (some 41) (.slice (some ⟨w2.heap.size, 0, none⟩) 32 32) rfl rfl (by kernel_rfl) (by kernel_rfl) (by kernel_rfl) (fun _ _ _ h => h) (Or.inl ⟨by rfl, fun w hS => ?_⟩) HSv2.out ?_
      · (go_simp)
      simp only [Act.put, List.setIfInBounds_toArray, List.set_cons_zero, List.set_cons_succ]
      refine heldTake 7 (some 42) (.string (Bl.toBytes X)) rfl rfl (by kernel_rfl) (by kernel_rfl) (by kernel_rfl) (fun _ _ _ h => h) (Or.inl ⟨by rfl, fun w hS => ?_⟩) HSv2.out ?_
      · (have e := hcvx w hS; go_simp)
      simp only [Act.put, List.setIfInBounds_toArray, List.set_cons_zero, List.set_cons_succ]
      refine heldTake 8 (some 43) (.slice (some ⟨w4.heap.size, 0, none⟩) 32 32) rfl rfl (by kernel_rfl) (by kernel_rfl) (by kernel_rfl) (fun _ _ _ h => h) (Or.inl ⟨by rfl, fun w hS => ?_⟩) HSv2.out ?_
      · (go_simp)
      simp only [Act.put, List.setIfInBounds_toArray, List.set_cons_zero, List.set_cons_succ]
      refine heldTake 9 (some 44) (.string (Bl.toBytes X)) rfl rfl (by kernel_rfl) (by kernel_rfl) (by kernel_rfl) (fun _ _ _ h => h) (Or.inl ⟨by rfl, fun w hS => ?_⟩) HSv2.out ?_
      · (have e := hcvy w hS; go_simp)
      simp only [Act.put, List.setIfInBounds_toArray, List.set_cons_zero, List.set_cons_succ]
      refine heldTake 10 (some 45) (.bool true) rfl rfl (by kernel_rfl) (by kernel_rfl) (by kernel_rfl) (fun _ _ _ h => h) (Or.inl ⟨by rfl, fun w hS => ?_⟩) HSv2.out ?_
      · (go_simp)
      simp only [Act.put, List.setIfInBounds_toArray, List.set_cons_zero, List.set_cons_succ]
      refine heldTake 11 (some 46) (.bool true) rfl rfl (by kernel_rfl) (by kernel_rfl) (by kernel_rfl) (fun _ _ _ h => h) (Or.inl ⟨by rfl, fun w hS => ?_⟩) HSv2.out ?_
      · (go_simp)
      simp only [Act.put, List.setIfInBounds_toArray, List.set_cons_zero, List.set_cons_succ]
      refine heldTake 12 (some 47) (.bool true) rfl rfl (by kernel_rfl) (by kernel_rfl) (by kernel_rfl) (fun _ _ _ h => h) (Or.inl ⟨by rfl, fun w hS => ?_⟩) HSv2.out ?_
      · (go_simp)
      simp only [Act.put, List.setIfInBounds_toArray, List.set_cons_zero, List.set_cons_succ]
      refine heldTake 13 (some 48) (.int .i64 5) rfl rfl (by kernel_rfl) (by kernel_rfl) (by kernel_rfl) (fun _ _ _ h => h) (Or.inl ⟨by rfl, fun w hS => ?_⟩) HSv2.out ?_
      · (go_simp)
      simp only [Act.put, List.setIfInBounds_toArray, List.set_cons_zero, List.set_cons_succ]
      refine heldTake 14 (some 49) (.int .i64 5) rfl rfl (by kernel_rfl) (by kernel_rfl) (by kernel_rfl) (fun _ _ _ h => h) (Or.inl ⟨by rfl, fun w hS => ?_⟩) HSv2.out ?_
      · (go_simp)
      simp only [Act.put, List.setIfInBounds_toArray, List.set_cons_zero, List.set_cons_succ]
      refine heldTake 15 (some 50) (.bool true) rfl rfl (by kernel_rfl) (by kernel_rfl) (by kernel_rfl) (fun _ _ _ h => h) (Or.inl ⟨by rfl, fun w hS => ?_⟩) HSv2.out ?_
      · (go_simp)
      simp only [Act.put, List.setIfInBounds_toArray, List.set_cons_zero, List.set_cons_succ]
      refine heldTake 16 (some 51) (.bool true) rfl rfl (by kernel_rfl) (by kernel_rfl) (by kernel_rfl) (fun _ _ _ h => h) (Or.inl ⟨by rfl, fun w hS => ?_⟩) HSv2.out ?_
      · (go_simp)
      simp only [Act.put, List.setIfInBounds_toArray, List.set_cons_zero, List.set_cons_succ]
      refine heldTake 17 (some 52) (.bool true) rfl rfl (by kernel_rfl) (by kernel_rfl) (by kernel_rfl) (fun _ _ _ h => h) (Or.inl ⟨by rfl, fun w hS => ?_⟩) HSv2.out ?_
      · (go_simp)
      simp only [Act.put, List.setIfInBounds_toArray, List.set_cons_zero, List.set_cons_succ]
      refine heldTake 18 (some 53) (.agg (d.map V8).toArray) rfl rfl (by kernel_rfl) (by kernel_rfl) (by kernel_rfl) (fun _ _ _ h => h) (yieldsIf_load_mid (by rfl) _ _ rfl _ _ rfl (d.map V8) _ (fun w hS => hS.2.2.1) Tryd.underlying24 rfl i24) HSv2.out ?_
      simp only [Act.put, List.setIfInBounds_toArray, List.set_cons_zero, List.set_cons_succ]
      refine heldTake 19 (some 54) (.agg (d.map V8).toArray) rfl rfl (by kernel_rfl) (by kernel_rfl) (by kernel_rfl) (fun _ _ _ h => h) (yieldsIf_load_mid (by rfl) _ _ rfl _ _ rfl (d.map V8) _ (fun w hS => hS.1) Tryd.underlying24 rfl i24) HSv2.out ?_
      simp only [Act.put, List.setIfInBounds_toArray, List.set_cons_zero, List.set_cons_succ]
      refine heldTake 20 (some 55) (.bool true) rfl rfl (by kernel_rfl) (by kernel_rfl) (by kernel_rfl) (fun _ _ _ h => h) (Or.inl ⟨by rfl, fun w hS => ?_⟩) HSv2.out ?_
      · (go_simp)
      simp only [Act.put, List.setIfInBounds_toArray, List.set_cons_zero, List.set_cons_succ]
      refine heldTake 21 (some 56) (.bool true) rfl rfl (by kernel_rfl) (by kernel_rfl) (by kernel_rfl) (fun _ _ _ h => h) (Or.inl ⟨by rfl, fun w hS => ?_⟩) HSv2.out ?_
      · (go_simp)
      simp only [Act.put, List.setIfInBounds_toArray, List.set_cons_zero, List.set_cons_succ]
      refine heldTake 22 (some 57) (.bool true) rfl rfl (by kernel_rfl) (by kernel_rfl) (by kernel_rfl) (fun _ _ _ h => h) (Or.inl ⟨by rfl, fun w hS => ?_⟩) HSv2.out ?_
      · (go_simp)
      simp only [Act.put, List.setIfInBounds_toArray, List.set_cons_zero, List.set_cons_succ]
      refine heldTake 23 (some 58) (.int .i64 0) rfl rfl (by kernel_rfl) (by kernel_rfl) (by kernel_rfl) (fun _ _ _ h => h) (Or.inl ⟨by rfl, fun w hS => ?_⟩) HSv2.out ?_
      · (go_simp)
      simp only [Act.put, List.setIfInBounds_toArray, List.set_cons_zero, List.set_cons_succ]
      refine heldTake 24 (some 59) (.bool true) rfl rfl (by kernel_rfl) (by kernel_rfl) (by kernel_rfl) (fun _ _ _ h => h) (Or.inl ⟨by rfl, fun w hS => ?_⟩) HSv2.out ?_
      · (go_simp)
      simp only [Act.put, List.setIfInBounds_toArray, List.set_cons_zero, List.set_cons_succ]
      refine heldTake 25 (some 60) (.bool true) rfl rfl (by kernel_rfl) (by kernel_rfl) (by kernel_rfl) (fun _ _ _ h => h) (Or.inl ⟨by rfl, fun w hS => ?_⟩) HSv2.out ?_
      · (go_simp)
      simp only [Act.put, List.setIfInBounds_toArray, List.set_cons_zero, List.set_cons_succ]
      refine heldTake 26 (some 61) (.bool true) rfl rfl (by kernel_rfl) (by kernel_rfl) (by kernel_rfl) (fun _ _ _ h => h) (Or.inl ⟨by rfl, fun w hS => ?_⟩) HSv2.out ?_
      · (go_simp)
      simp only [Act.put, List.setIfInBounds_toArray, List.set_cons_zero, List.set_cons_succ]
      refine heldOne 27 (by kernel_rfl) rfl (by rfl) (fun KK hK => ?_)
      go_simp
      go_at_call 14
      refine (works_any _ (HT8.out.below (by omega) HSv2.out.2.2.2) (by have := HSv2.out.2.2.2.size; omega)).mono ?_
      rintro e v3 ⟨rfl, hbv3⟩
      have HSv3 : Hid (Held3 w.heap.size w2.heap.size w7.heap.size d X w8 v3) := HSv2.out.call hA8 hX8 hz8 hbv3
      refine hK.out _ _ HSv3.out ?_
      clear hK KK
      try simp only [Act.put, List.setIfInBounds_toArray, List.set_cons_zero, List.set_cons_succ]
      refine heldTake 28 (some 63) (.bool true) rfl rfl (by kernel_rfl) (by kernel_rfl) (by kernel_rfl) (fun _ _ _ h => h) (Or.inl ⟨by rfl, fun w hS => ?_⟩) HSv3.out ?_
      · (go_simp)
      simp only [Act.put, List.setIfInBounds_toArray, List.set_cons_zero, List.set_cons_succ]
      refine heldTake 29 (some 4) (.bool true) rfl rfl (by kernel_rfl) (by kernel_rfl) (by kernel_rfl) (fun _ _ _ h => h) (Or.inl ⟨by rfl, fun w hS => ?_⟩) HSv3.out ?_
      · (go_simp)
      simp only [Act.put, List.setIfInBounds_toArray, List.set_cons_zero, List.set_cons_succ]
      refine wpAnyH_done (by kernel_rfl) ?_ _
      go_wp2
      go_ret
      exact ⟨rfl, HB8.out.trans (Below.mono HSv3.out.2.2.2 (by omega))⟩
end Go.Proofs.YtaeeibllmpaebaaDoor
