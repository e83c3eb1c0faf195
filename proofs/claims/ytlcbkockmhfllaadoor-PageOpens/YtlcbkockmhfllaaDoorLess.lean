/- Proved: the walk of the law PageLess answers true. Condition: the table of the sums holds its sixteen numbers. -/
import Derived.Test.YtlcbkockmhfllaaDoorWorks
namespace Go.Proofs.YtlcbkockmhfllaaDoor
open Go.RowKit
/- how a number is brought into its range -/
theorem place_in (z : Int) (d : Nat) (hd : 0 < d) : ∃ (t : Int) (n : Nat), z.tmod (d : Int) = t ∧ -(d : Int) < t ∧ t < d ∧ (t + d).tmod (d : Int) = (n : Int) ∧ (t + d) % (d : Int) = (n : Int) ∧ n < d := by
  have h1 := Int.tmod_lt_of_pos z (show (0 : Int) < (d : Int) by omega)
  have h2 := Int.lt_tmod_of_pos z (show (0 : Int) < (d : Int) by omega)
  have e : (z.tmod (d : Int) + d).tmod (d : Int) = (z.tmod (d : Int) + d) % (d : Int) := Int.tmod_eq_emod_of_nonneg (by omega)
  have h3 := Int.emod_nonneg (z.tmod (d : Int) + d) (show (d : Int) ≠ 0 by omega)
  have h4 := Int.emod_lt_of_pos (z.tmod (d : Int) + d) (show (0 : Int) < (d : Int) by omega)
  obtain ⟨n, hn⟩ := Int.eq_ofNat_of_zero_le h3
  exact ⟨_, n, rfl, by omega, by omega, e.trans hn, hn, by omega⟩
theorem seal_good {i k : Nat} {b : ByteArray} (hi : i ≤ 2147483647) (h0 : 1 ≤ k) (hk : k ≤ 255) (hb : b.size ≤ 500) : Pg.sealS i k b = Pg.page i k b ∧ Pg.sealE i k b = 0 := by
  have hbad : Pg.bad i k = false := Pg.bad_of ⟨by omega, by omega, by omega, by omega⟩
  unfold Pg.sealS Pg.sealE
  rw [hbad]
  simp only [Bool.false_eq_true, if_false, show ¬ 500 < b.size by omega, Int.toNat_natCast, and_self]
set_option maxHeartbeats 2000000 in
set_option maxRecDepth 20000 in
theorem less_walk (z : Int) (s : ByteArray) (z2 : Int) (w : World) (_hz : In64 z) (hs : s.size ≤ 9223372036854775807) (_hz2 : In64 z2) (hT : Tab w) :
    Calls Tryd.prog 8 #[.int .i64 z, .string s, .int .i64 z2] w fun e w' => e = .returned (.bool true) ∧ Below w.heap.size w w' := by
  have hpos := hT.pos
  have HT : Hid (Tab w) := hT
  have hmin : min (s.size : Int) 500 = ((min s.size 500 : Nat) : Int) := by omega
  have hn1 : min s.size 500 ≤ s.size := by omega
  have hn5 : min s.size 500 ≤ 500 := by omega
  generalize min s.size 500 = n at *
  have n0 : (0 : Int) ≤ (n : Int) := by omega
  have n1 : (n : Int) ≤ (s.size : Int) := by omega
  have hbs : (s.extract 0 n).size ≤ 500 := by rw [Pg.ext_size s 0 n hn1]; omega
  obtain ⟨t, k, ht, hta, htb, hk1, hk2, hkd⟩ := place_in z 1000 (by omega)
  obtain ⟨t2, m, ht2, hta2, htb2, hm1, hm2, hmd⟩ := place_in z2 512 (by omega)
  generalize hb : s.extract 0 n = b at *
  obtain ⟨hS, hE⟩ := seal_good (i := k) (k := 1) (b := b) (by omega) (by omega) (by omega) hbs
  rw [show (((1 : Nat) : Int)) = (1 : Int) from rfl] at hS hE
  have H1 := seal_any k 1 b w hT
  rw [hS, hE] at H1
  have hsz := Pg.page_size (id := k) (kind := 1) (b := b) hbs
  have hnb := Pg.page_not_blank (id := k) (kind := 1) (b := b) (by omega) (by omega)
  clear hS hE hT hbs
  generalize Pg.page k 1 b = pg at *
  have H2 : Hid (∀ W, Tab W → Calls Tryd.prog 12 #[.int .i64 (k : Int), .string (pg.extract 0 m)] W fun e w' => e = .returned (.tuple #[.int .i64 (Pg.openK k (pg.extract 0 m)), .string (Pg.openB k (pg.extract 0 m)), .int .i64 5]) ∧ Below W.heap.size W w') := fun W hW => by
    have := open_any k (pg.extract 0 m) W hW
    rw [Pg.open_size (by rw [Pg.ext_size _ _ _ (by omega)]; omega)] at this
    exact this
  have H3 : Hid (∀ W, Tab W → Calls Tryd.prog 12 #[.int .i64 (k : Int), .string (pg ++ ⟨#[120]⟩)] W fun e w' => e = .returned (.tuple #[.int .i64 (Pg.openK k (pg ++ ⟨#[120]⟩)), .string (Pg.openB k (pg ++ ⟨#[120]⟩)), .int .i64 5]) ∧ Below W.heap.size W w') := fun W hW => by
    have := open_any k (pg ++ ⟨#[120]⟩) W hW
    rw [Pg.open_size (by rw [ByteArray.size_append, hsz]; decide)] at this
    exact this
  have H4 : Hid (∀ W, Tab W → Calls Tryd.prog 12 #[.int .i64 0, .string Pg.blank] W fun e w' => e = .returned (.tuple #[.int .i64 (Pg.openK 0 Pg.blank), .string (Pg.openB 0 Pg.blank), .int .i64 (Pg.openE 0 Pg.blank)]) ∧ Below W.heap.size W w') := fun W hW => open_any 0 Pg.blank W hW
  have h4 : (Pg.openE 0 Pg.blank != 0) = true := bne_iff_ne.2 (Pg.open_zero Pg.blank_kd)
  have H5 : Hid (∀ W, Calls Tryd.prog 17 #[.string pg] W fun e w' => e = .returned (.bool false) ∧ Below W.heap.size W w') := fun W => by
    have := blank_any pg W
    rw [decide_eq_false hnb] at this
    exact this
  have A1 : ∀ W : World, (Op.stringOp .add pg ⟨#[120]⟩).run Tryd.prog W = .ok (.string (pg ++ ⟨#[120]⟩)) W := fun W => run_string_add_sum W _ _ (by rw [hsz]; decide)
  have HML : Hid (madeCells #[zv] 512 = (bc Pg.blank).toArray) := by
    show _ = _
    rw [made_list]
    unfold Pg.blank
    rw [bc_ob]
    unfold Pg.zs
    rw [List.map_replicate]
    rfl
  have hpn : ((pg.size : Int) != 512) = false := by rw [hsz]; rfl
  have m0 : (0 : Int) ≤ (m : Int) := by omega
  have m1 : (m : Int) ≤ (pg.size : Int) := by omega
  clear hnb
  generalize Pg.openK k (pg.extract 0 m) = k2 at *
  generalize Pg.openB k (pg.extract 0 m) = b2 at *
  generalize Pg.openK k (pg ++ ⟨#[120]⟩) = k3 at *
  generalize Pg.openB k (pg ++ ⟨#[120]⟩) = b3 at *
  generalize Pg.openK 0 Pg.blank = k4 at *
  generalize Pg.openB 0 Pg.blank = b4 at *
  generalize Pg.openE 0 Pg.blank = e4 at *
  rw [show ((1000 : Nat) : Int) = 1000 from rfl] at ht hta htb hk1 hk2
  rw [show ((512 : Nat) : Int) = 512 from rfl] at ht2 hta2 htb2 hm1 hm2
  go_enter Tryd.func8, Tryd.ntmps8
  go_wp2_with fail
  refine H1.mono ?_
  rintro e w1 ⟨rfl, hB1⟩
  have HB1 : Hid (Below w.heap.size w w1) := hB1
  clear hB1 H1
  go_wp2_with fail
  refine (H2.out w1 (HT.out.below HB1.out hpos)).mono ?_
  rintro e w2 ⟨rfl, hB2⟩
  have HB2 : Hid (Below w.heap.size w w2) := below_next HB1.out hB2 HB1.out.size
  clear hB2 HB1 H2
  go_wp2_with fail
  refine (H3.out w2 (HT.out.below HB2.out hpos)).mono ?_
  rintro e w3 ⟨rfl, hB3⟩
  have HB3 : Hid (Below w.heap.size w w3) := below_next HB2.out hB3 HB2.out.size
  clear hB3 HB2 H3
  have HR4 : Hid ((w3.alloc (.cells (madeCells #[zv] 512) 5)).heap[w3.heap.size]? = some (.cells (bc Pg.blank).toArray 5 (0, 0))) := by
    rw [← HML.out]; exact heap_alloc_new w3 _
  have HB4 : Hid (Below w.heap.size w (w3.alloc (.cells (madeCells #[zv] 512) 5))) := HB3.out.alloc HB3.out.size _
  have hcv := str_of (x := Pg.blank) (range_all HR4.out) 512
  rw [Pg.blank_size] at hcv
  generalize Pg.blank = bl at *
  go_wp2_with (at_make; refine wpList_make_row _ rfl _ _ 38 rfl 5 Tryd.t5 zv Tryd.underlying38 info_u8 rfl rfl rfl .i64 .i64 512 rfl rfl (by decide) (by omega) ?_; generalize World.alloc w3 _ = w4 at *)
  refine (H4.out w4 (HT.out.below HB4.out hpos)).mono ?_
  rintro e w5 ⟨rfl, hB5⟩
  have HB5 : Hid (Below w.heap.size w w5) := below_next HB4.out hB5 HB4.out.size
  clear hB5 HB4 H4 hcv
  go_wp2_with fail
  refine (H5.out w5).mono ?_
  rintro e w6 ⟨rfl, hB6⟩
  have HB6 : Hid (Below w.heap.size w w6) := below_next HB5.out hB6 HB5.out.size
  clear hB6 HB5 H5
  have HW := works_any w6 (HT.out.below HB6.out hpos)
  go_wp2_with fail
  refine HW.mono ?_
  rintro e w7 ⟨rfl, hB7⟩
  have HB7 : Hid (Below w.heap.size w w7) := below_next HB6.out hB7 HB6.out.size
  clear hB7 HB6 HW
  go_wp2
  go_ret
  exact ⟨rfl, HB7.out⟩
end Go.Proofs.YtlcbkockmhfllaaDoor
