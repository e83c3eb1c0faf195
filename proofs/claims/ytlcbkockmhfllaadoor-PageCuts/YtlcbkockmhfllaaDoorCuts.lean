/- Proved: the walk of the law PageCuts answers true. Condition: the table of the sums holds its sixteen numbers. -/
import Derived.Test.YtlcbkockmhfllaaDoorRSec
namespace Go.Proofs.YtlcbkockmhfllaaDoor
open Go.RowKit
theorem make512 (W : World) : (Instr.makeSlice 38 (.int .i64 512) (.int .i64 512)).run Tryd.prog W = .ok (.slice (some ⟨W.heap.size, 0, none⟩) 512 512) (W.alloc (.cells (bc Pg.blank).toArray 5)) := by
  have h := run_make_row (P := Tryd.prog) 38 5 Tryd.t5 zv Tryd.underlying38 info_u8 rfl rfl rfl .i64 .i64 512 (by decide) (by omega) W
  rw [show madeCells #[zv] 512 = (bc Pg.blank).toArray by
    rw [made_list]
    unfold Pg.blank
    rw [bc_ob]
    unfold Pg.zs
    rw [List.map_replicate]
    rfl] at h
  exact h
theorem joined_step {rs : List ByteArray} {j : Nat} {r : ByteArray} (h : rs[j]? = some r) : Pg.joined (rs.take (j + 1)) = Pg.joined (rs.take j) ++ r := by
  obtain ⟨h1, h2⟩ := List.getElem?_eq_some_iff.1 h
  rw [List.take_succ_eq_append_getElem h1, Pg.joined_append, h2]
  congr 1
  apply Wl.ext_list
  show (r ++ (⟨#[]⟩ : ByteArray)).data.toList = _
  rw [Wl.app_list]
  simp
theorem joined_take (rs : List ByteArray) (j : Nat) : (Pg.joined (rs.take j)).size ≤ (Pg.joined rs).size := by
  conv => rhs; rw [← List.take_append_drop j rs, Pg.joined_append]
  rw [ByteArray.size_append]
  omega
set_option maxHeartbeats 4000000 in
set_option maxRecDepth 20000 in
theorem cuts_walk (s : ByteArray) (w : World) (_hs : s.size ≤ 9223372036854775807) (hT : Tab w) :
    Calls Tryd.prog 5 #[.string s] w fun e w' => e = .returned (.bool true) ∧ Below w.heap.size w w' := by
  have hpos := hT.pos
  have HT : Hid (Tab w) := hT
  have hmin : min (s.size : Int) 700 = ((min s.size 700 : Nat) : Int) := by omega
  have hn1 : min s.size 700 ≤ s.size := by omega
  have hn7 : min s.size 700 ≤ 700 := by omega
  generalize min s.size 700 = n at *
  have n0 : (0 : Int) ≤ (n : Int) := by omega
  have n1 : (n : Int) ≤ (s.size : Int) := by omega
  have hbs : (s.extract 0 n).size ≤ 700 := by rw [Pg.ext_size s 0 n hn1]; omega
  generalize hb : s.extract 0 n = b at *
  have H1 := sectors_any b w (by omega)
  have H2 : Hid (∀ W, Calls Tryd.prog 16 #[.string b] W fun e w' => ∃ v, e = .returned v ∧ OwnS w' W.heap.size v (Pg.cut b 64 []) ∧ Below W.heap.size W w') := fun W => rsectors_any b W (by omega)
  have HJ : Hid (Pg.joined (Pg.cut b 64 []) = b) := Pg.sectors_joined b
  have H3 : Hid (∀ W, Calls Tryd.prog 17 #[.string b] W fun e w' => e = .returned (.bool (decide (b = Pg.blank))) ∧ Below W.heap.size W w') := fun W => blank_any b W
  have H4 : Hid (∀ W, Calls Tryd.prog 18 #[.string b] W fun e w' => e = .returned (.bool (decide (b = Pg.blank))) ∧ w' = W) := fun W => rblank_any b W (by omega)
  generalize decide (b = Pg.blank) = rb at *
  generalize Pg.cut b 64 [] = rs at *
  clear hT
  go_enter Tryd.func5, Tryd.ntmps5
  go_wp2_with fail
  refine H1.mono ?_
  rintro e w1 ⟨v, rfl, hO1, hB1⟩
  have HB1 : Hid (Below w.heap.size w w1) := hB1
  have HO1 : Hid (OwnS w1 w.heap.size v rs) := hO1
  obtain ⟨va, vc, hv, hv1, hv2, hv3⟩ := own_strs hO1
  have HV : Hid (0 < rs.length → ∃ g, va = some ⟨g, 0, none⟩ ∧ v.ownBlock = some g ∧ ∀ i r, rs[i]? = some r → w1.cell? ⟨g, i, none⟩ = some (.string r)) := hv3
  have HVV : Hid (v = .slice va rs.length vc) := hv
  clear hB1 H1 hO1 hv3 hv
  rw [HVV.out]
  go_wp2_with fail
  go_loopw [4, 6, 16] (fun s4 _ s16 wr => ∃ j : Nat, j ≤ rs.length ∧ s16 = .int .i64 (j : Int) ∧ s4 = .string (Pg.joined (rs.take j)) ∧ wr = w1) (fun _ _ s16 _ => rs.length - (intOf s16).toNat)
  case atStart => exact ⟨0, by omega, rfl, rfl, rfl⟩
  case round =>
    obtain ⟨j, hj, rfl, rfl, hwr⟩ := hrel
    subst hwr
    by_cases hjk : j < rs.length
    · obtain ⟨g, rfl, _, hc⟩ := HV.out (by omega)
      obtain ⟨r, hr⟩ : ∃ r, rs[j]? = some r := ⟨_, List.getElem?_eq_getElem hjk⟩
      have hcell := hc j r hr
      have dj : decide ((j : Int) < (rs.length : Int)) = true := decide_eq_true (by omega)
      have j0 : (0 : Int) ≤ (j : Int) := by omega
      have j1 : (j : Int) < (rs.length : Int) := by omega
      have hst := joined_step hr
      have hsz := joined_take rs (j + 1)
      rw [hst, HJ.out] at hsz
      have A1 : ∀ W : World, (Op.stringOp .add (Pg.joined (rs.take j)) r).run Tryd.prog W = .ok (.string (Pg.joined (rs.take (j + 1)))) W := fun W => by
        rw [hst]; exact run_string_add_sum W _ _ (by rw [ByteArray.size_append] at hsz; omega)
      have HFN : Hid (∃ j' : Nat, j' ≤ rs.length ∧ Value.int .i64 ((j : Int) + 1) = .int .i64 (j' : Int) ∧ Value.string (Pg.joined (rs.take (j + 1))) = .string (Pg.joined (rs.take j'))) := ⟨j + 1, by omega, by go_num, rfl⟩
      clear hst hsz hc hr
      generalize Pg.joined (rs.take (j + 1)) = y1 at *
      generalize Pg.joined (rs.take j) = y0 at *
      go_wp2
      go_roundw
      case rel =>
        obtain ⟨j', h1, h2, h3⟩ := HFN.out
        exact ⟨j', h1, h2, h3, trivial⟩
      case measure => (simp [intOf]) <;> omega
    · obtain rfl : j = rs.length := by omega
      have dj : decide ((rs.length : Int) < (rs.length : Int)) = false := decide_eq_false (by omega)
      rw [List.take_length, HJ.out]
      go_wp2_with fail
      refine (H2.out wr).mono ?_
      rintro e w2 ⟨v2, rfl, hO2, hB2⟩
      have HB2 : Hid (Below w.heap.size w w2) := below_next HB1.out hB2 HB1.out.size
      have HOA : Hid (OwnS w2 0 v rs) := own_zero (own_below HO1.out hB2)
      have HOB : Hid (OwnS w2 0 v2 rs) := own_zero hO2
      clear hO2 hB2 HB1 HO1 H2
      have HSM := same_any v v2 rs rs w2 HOA.out HOB.out
      rw [decide_eq_true rfl, HVV.out] at HSM
      clear HOA HOB HV HVV
      go_wp2_with fail
      refine HSM.mono ?_
      rintro e w3 ⟨rfl, hB3, _⟩
      have HB3 : Hid (Below w.heap.size w w3) := below_next HB2.out hB3 HB2.out.size
      clear hB3 HB2 HSM
      have hsame := toList_beq (rfl : b = b)
      go_wp2_with fail
      refine (H3.out w3).mono ?_
      rintro e w4 ⟨rfl, hB4⟩
      have HB4 : Hid (Below w.heap.size w w4) := below_next HB3.out hB4 HB3.out.size
      clear hB4 HB3 H3
      go_wp2_with fail
      refine (H4.out w4).mono ?_
      rintro e wS ⟨rfl, hwS⟩
      rw [hwS]
      clear hwS wS H4
      have hmk := make512 w4
      have HR5 : Hid ((w4.alloc (.cells (bc Pg.blank).toArray 5)).heap[w4.heap.size]? = some (.cells (bc Pg.blank).toArray 5 (0, 0))) := heap_alloc_new w4 _
      have HB5 : Hid (Below w.heap.size w (w4.alloc (.cells (bc Pg.blank).toArray 5))) := HB4.out.alloc HB4.out.size _
      have hcv := str_of (x := Pg.blank) (range_all HR5.out) 512
      rw [Pg.blank_size] at hcv
      generalize w4.alloc (.cells (bc Pg.blank).toArray 5) = w5 at *
      have H5 := blank_any Pg.blank w5
      rw [decide_eq_true rfl] at H5
      generalize Pg.blank = bl at *
      have hrb : (rb == rb) = true := beq_self_eq_true rb
      go_wp2_with fail
      refine H5.mono ?_
      rintro e w6 ⟨rfl, hB6⟩
      have HB6 : Hid (Below w.heap.size w w6) := below_next HB5.out hB6 HB5.out.size
      clear hB6 HB5 H5 hcv hmk
      have HW := works_any w6 (HT.out.below HB6.out hpos)
      go_wp2_with fail
      refine HW.mono ?_
      rintro e w7 ⟨rfl, hB7⟩
      have HB7 : Hid (Below w.heap.size w w7) := below_next HB6.out hB7 HB6.out.size
      clear hB7 HB6 HW
      go_wp2
      go_ret
      exact ⟨rfl, HB7.out⟩
end Go.Proofs.YtlcbkockmhfllaaDoor
