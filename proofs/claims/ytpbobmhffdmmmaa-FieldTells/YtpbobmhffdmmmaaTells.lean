/- Proved: FieldTells answers true. -/
import Derived.Test.YtpbobmhffdmmmaaRPut
import Derived.Test.YtpbobmhffdmmmaaRNumT
import Derived.Test.YtpbobmhffdmmmaaCodes
import Derived.Test.YtpbobmhffdmmmaaWorks
import Derived.Test.YtpbobmhffdmmmaaSame
namespace Go.Proofs.Ytpbobmhffdmmmaa
open Go.RowKit
theorem cut_cut (f : Fv) : cut (cut f) = cut f := cut_small (cut_len f)
theorem few_few (fs : List Fv) (n : Nat) : ((((fs.take n).map cut).take n).map cut) = (fs.take n).map cut := by
  rw [List.take_of_length_le (by rw [List.length_map, List.length_take]; omega), List.map_map]
  exact List.map_congr_left (fun f _ => cut_cut f)
theorem putV_fits {fs : List Fv} {f : Fv} (h : ∀ g ∈ fs, g.Fits) (hf : f.Fits) : ∀ g ∈ putV fs f, g.Fits := by
  induction fs with
  | nil => intro g hg; rw [show putV [] f = [f] from rfl] at hg; rw [List.mem_singleton.1 hg]; exact hf
  | cons x l ih =>
    intro g hg
    unfold putV at hg
    split at hg
    · rcases List.mem_cons.1 hg with rfl | hg
      · exact hf
      · exact h g hg
    · rcases List.mem_cons.1 hg with rfl | hg
      · exact h _ (by simp)
      · exact ih (fun y hy => h y (by simp [hy])) g hg
def numA (fs : List Fv) (tag : Int) : Int × Bool := match (fs.filter (hit tag 0)).head? with | some f => (f.n, true) | none => (0, false)
def textA (fs : List Fv) (tag : Int) : ByteArray × Bool := match (fs.filter (hit tag 1)).head? with | some f => (f.s, true) | none => (⟨#[]⟩, false)
theorem numPost.one {fs : List Fv} {tag : Int} {w w' : World} {e : Ending} (h : numPost fs tag w e w') : e = .returned (.tuple #[.int .i64 (numA fs tag).1, .bool (numA fs tag).2]) ∧ Below w.heap.size w w' := by
  refine ⟨?_, h.2⟩
  rcases h.1 with ⟨f, h1, h2⟩ | ⟨h1, h2⟩ <;> (unfold numA; rw [h1]; exact h2)
theorem textPost.one {fs : List Fv} {tag : Int} {w w' : World} {e : Ending} (h : textPost fs tag w e w') : e = .returned (.tuple #[.string (textA fs tag).1, .bool (textA fs tag).2]) ∧ Below w.heap.size w w' := by
  refine ⟨?_, h.2⟩
  rcases h.1 with ⟨f, h1, h2⟩ | ⟨h1, h2⟩ <;> (unfold textA; rw [h1]; exact h2)
set_option maxHeartbeats 4000000 in
set_option maxRecDepth 20000 in
theorem tells_walk (a : Option Addr) (len cap : Nat) (f : Fv) (tag : Int) (w : World) (hF0 : Fields w a len) (hlc : len ≤ cap) (hcm : cap ≤ 9223372036854775807) (hff : f.Fits) (_hi : -9223372036854775808 ≤ tag ∧ tag ≤ 9223372036854775807) :
    Calls Try.prog 5 #[.slice a len cap, .agg #[.int .i64 f.tag, .int .i64 f.kind, .int .i64 f.n, .string f.s], .int .i64 tag] w fun e w' => e = .returned (.bool true) ∧ Below w.heap.size w w' := by
  obtain ⟨fs, hF⟩ := hF0.list
  have HF : Hid (FieldsL (boxed w f) a len fs) := hF.below ((Below.refl _ w).alloc (Nat.le_refl _) _)
  have HFF : Hid f.Fits := hff
  clear hF hF0 _hi hff
  go_enter Try.func5, Try.ntmps5
  go_wp2_with fail
  refine (few_any a len cap fs (boxed w f) HF.out (by omega)).mono ?_
  rintro e w1 ⟨v1, n, rfl, hn, hO1, hB1⟩
  have HFI := few_fits HF.out n
  obtain ⟨a1, cap1, rfl, hc1, hF1⟩ := own_fields hO1 HFI
  have hn25 : n ≤ 25 := by omega
  have HFE : Is ((((fs.take n).map cut).take n).map cut) ((fs.take n).map cut) := ⟨few_few fs n⟩
  have HX1 : Hid (FieldAt w1 w.heap.size 0 f) := (box_at w f).below hB1 (by rw [size_alloc1]; omega)
  have HB1 : Hid (Below w.heap.size w w1) := ((Below.refl _ w).alloc (Nat.le_refl _) _).trans (hB1.mono (by rw [size_alloc1]; omega))
  have hs1 := HB1.out.size
  have hs1' : w.heap.size + 1 ≤ w1.heap.size := by have h := hB1.size; rwa [size_alloc1] at h
  generalize (fs.take n).map cut = gs at *
  have HF1 : Hid (FieldsL w1 a1 n gs) := hF1
  have HFT : Hid (∀ g ∈ gs, g.Fits) := HFI
  clear HF hn hO1 hB1 hF1 hlc hcm HFI
  go_wp2_with fail
  refine (few_any a1 n cap1 gs w1 HF1.out (by omega)).mono ?_
  rintro e w2 ⟨v2, n2, rfl, hn2, hO2, hB2⟩
  obtain rfl : n2 = n := by omega
  rw [HFE.eq] at hO2
  obtain ⟨a2, cap2, rfl, hc2, hF2⟩ := own_fields hO2 HFT.out
  have HF2 : Hid (FieldsL w2 a2 n2 gs) := hF2
  have HG2 : Hid (FieldsL w2 a1 n2 gs) := HF1.out.below hB2
  have HX2 : Hid (FieldAt w2 w.heap.size 0 f) := HX1.out.below hB2 (by omega)
  have HB2 : Hid (Below w.heap.size w w2) := HB1.out.trans (hB2.mono hs1)
  have hs2 := HB2.out.size
  have hs2' : w.heap.size + 1 ≤ w2.heap.size := Nat.le_trans hs1' hB2.size
  clear hn2 hO2 hB2 hF2 HFE HF1 HX1 HB1 hs1 hs1'

  go_wp2_with fail
  refine (num_any a1 n2 cap1 tag gs w2 HG2.out (by omega)).mono ?_
  intro e w3 h3
  obtain ⟨rfl, hB3⟩ := h3.one
  have HC3 : Hid (Below w2.heap.size w2 w3) := hB3
  have hz3 := hB3.size
  have HG3 : Hid (FieldsL w3 a1 n2 gs) := HG2.out.below HC3.out
  clear h3 hB3
  generalize hnn : (numA gs tag).1 = nn at *
  generalize hbb : (numA gs tag).2 = bb at *
  go_wp2_with fail
  refine (rnumt_any a1 n2 cap1 tag gs w3 HG3.out (by omega)).mono ?_
  intro e w4 h4
  obtain ⟨rfl, hB4⟩ := h4.one
  rw [hnn, hbb]
  have HC4 : Hid (Below w2.heap.size w2 w4) := HC3.out.trans (hB4.mono hz3)
  have hz4 := HC4.out.size
  have HG4 : Hid (FieldsL w4 a1 n2 gs) := HG2.out.below HC4.out
  clear h4 hB4 HC3 hz3 HG3 hnn hbb
  go_wp2_with fail
  refine (text_any a1 n2 cap1 tag gs w4 HG4.out (by omega)).mono ?_
  intro e w5 h5
  obtain ⟨rfl, hB5⟩ := h5.one
  have HC5 : Hid (Below w2.heap.size w2 w5) := HC4.out.trans (hB5.mono hz4)
  have hz5 := HC5.out.size
  have HG5 : Hid (FieldsL w5 a1 n2 gs) := HG2.out.below HC5.out
  clear h5 hB5 HC4 hz4 HG4
  generalize htt : (textA gs tag).1 = tt at *
  generalize hcc : (textA gs tag).2 = cc at *
  go_wp2_with fail
  refine (rtextt_any a1 n2 cap1 tag gs w5 HG5.out (by omega)).mono ?_
  intro e w6 h6
  obtain ⟨rfl, hB6⟩ := h6.one
  rw [htt, hcc]
  have HC6 : Hid (Below w2.heap.size w2 w6) := HC5.out.trans (hB6.mono hz5)
  have hz6 := HC6.out.size
  clear h6 hB6 HC5 hz5 HG5 htt hcc
  have HS : Hid ((fun W : World => Below w2.heap.size w2 W) w6.drew) := HC6.out.drew
  clear HC6 hz6
  go_upto_region 7 with fail
  refine wp_region_held_drew (S := (fun W : World => Below w2.heap.size w2 W)) (by kernel_rfl) HS.out (fun _ => ?_)
  generalize w6.drew = w7 at *
  refine heldTake 0 (some 44) (.int .i64 nn) rfl rfl (by kernel_rfl) (by kernel_rfl) (by kernel_rfl) (fun _ _ _ h => h) (Or.inl ⟨by rfl, fun w hS => ?_⟩) HS.out ?_
  · (go_simp)
  simp only [Act.put, List.setIfInBounds_toArray, List.set_cons_zero, List.set_cons_succ]
  refine heldTake 1 (some 45) (.int .i64 nn) rfl rfl (by kernel_rfl) (by kernel_rfl) (by kernel_rfl) (fun _ _ _ h => h) (Or.inl ⟨by rfl, fun w hS => ?_⟩) HS.out ?_
  · (go_simp)
  simp only [Act.put, List.setIfInBounds_toArray, List.set_cons_zero, List.set_cons_succ]
  refine heldTake 2 (some 46) (.bool true) rfl rfl (by kernel_rfl) (by kernel_rfl) (by kernel_rfl) (fun _ _ _ h => h) (Or.inl ⟨by rfl, fun w hS => ?_⟩) HS.out ?_
  · (go_simp)
  simp only [Act.put, List.setIfInBounds_toArray, List.set_cons_zero, List.set_cons_succ]
  refine heldTake 3 (some 47) (.bool true) rfl rfl (by kernel_rfl) (by kernel_rfl) (by kernel_rfl) (fun _ _ _ h => h) (Or.inl ⟨by rfl, fun w hS => ?_⟩) HS.out ?_
  · (go_simp)
  simp only [Act.put, List.setIfInBounds_toArray, List.set_cons_zero, List.set_cons_succ]
  refine heldTake 4 (some 48) (.bool bb) rfl rfl (by kernel_rfl) (by kernel_rfl) (by kernel_rfl) (fun _ _ _ h => h) (Or.inl ⟨by rfl, fun w hS => ?_⟩) HS.out ?_
  · (go_simp)
  simp only [Act.put, List.setIfInBounds_toArray, List.set_cons_zero, List.set_cons_succ]
  refine heldTake 5 (some 49) (.bool bb) rfl rfl (by kernel_rfl) (by kernel_rfl) (by kernel_rfl) (fun _ _ _ h => h) (Or.inl ⟨by rfl, fun w hS => ?_⟩) HS.out ?_
  · (go_simp)
  simp only [Act.put, List.setIfInBounds_toArray, List.set_cons_zero, List.set_cons_succ]
  refine heldTake 6 (some 50) (.bool true) rfl rfl (by kernel_rfl) (by kernel_rfl) (by kernel_rfl) (fun _ _ _ h => h) (Or.inl ⟨by rfl, fun w hS => ?_⟩) HS.out ?_
  · (go_simp)
  simp only [Act.put, List.setIfInBounds_toArray, List.set_cons_zero, List.set_cons_succ]
  refine heldTake 7 (some 51) (.bool true) rfl rfl (by kernel_rfl) (by kernel_rfl) (by kernel_rfl) (fun _ _ _ h => h) (Or.inl ⟨by rfl, fun w hS => ?_⟩) HS.out ?_
  · (go_simp)
  simp only [Act.put, List.setIfInBounds_toArray, List.set_cons_zero, List.set_cons_succ]
  refine heldTake 8 (some 52) (.bool true) rfl rfl (by kernel_rfl) (by kernel_rfl) (by kernel_rfl) (fun _ _ _ h => h) (Or.inl ⟨by rfl, fun w hS => ?_⟩) HS.out ?_
  · (go_simp)
  simp only [Act.put, List.setIfInBounds_toArray, List.set_cons_zero, List.set_cons_succ]
  refine heldTake 9 (some 53) (.string tt) rfl rfl (by kernel_rfl) (by kernel_rfl) (by kernel_rfl) (fun _ _ _ h => h) (Or.inl ⟨by rfl, fun w hS => ?_⟩) HS.out ?_
  · (go_simp)
  simp only [Act.put, List.setIfInBounds_toArray, List.set_cons_zero, List.set_cons_succ]
  refine heldTake 10 (some 54) (.string tt) rfl rfl (by kernel_rfl) (by kernel_rfl) (by kernel_rfl) (fun _ _ _ h => h) (Or.inl ⟨by rfl, fun w hS => ?_⟩) HS.out ?_
  · (go_simp)
  simp only [Act.put, List.setIfInBounds_toArray, List.set_cons_zero, List.set_cons_succ]
  refine heldTake 11 (some 55) (.bool true) rfl rfl (by kernel_rfl) (by kernel_rfl) (by kernel_rfl) (fun _ _ _ h => h) (Or.inl ⟨by rfl, fun w hS => ?_⟩) HS.out ?_
  · (go_simp)
  simp only [Act.put, List.setIfInBounds_toArray, List.set_cons_zero, List.set_cons_succ]
  refine heldTake 12 (some 56) (.bool true) rfl rfl (by kernel_rfl) (by kernel_rfl) (by kernel_rfl) (fun _ _ _ h => h) (Or.inl ⟨by rfl, fun w hS => ?_⟩) HS.out ?_
  · (go_simp)
  simp only [Act.put, List.setIfInBounds_toArray, List.set_cons_zero, List.set_cons_succ]
  refine heldTake 13 (some 57) (.bool true) rfl rfl (by kernel_rfl) (by kernel_rfl) (by kernel_rfl) (fun _ _ _ h => h) (Or.inl ⟨by rfl, fun w hS => ?_⟩) HS.out ?_
  · (go_simp)
  simp only [Act.put, List.setIfInBounds_toArray, List.set_cons_zero, List.set_cons_succ]
  refine heldTake 14 (some 58) (.bool cc) rfl rfl (by kernel_rfl) (by kernel_rfl) (by kernel_rfl) (fun _ _ _ h => h) (Or.inl ⟨by rfl, fun w hS => ?_⟩) HS.out ?_
  · (go_simp)
  simp only [Act.put, List.setIfInBounds_toArray, List.set_cons_zero, List.set_cons_succ]
  refine heldTake 15 (some 59) (.bool cc) rfl rfl (by kernel_rfl) (by kernel_rfl) (by kernel_rfl) (fun _ _ _ h => h) (Or.inl ⟨by rfl, fun w hS => ?_⟩) HS.out ?_
  · (go_simp)
  simp only [Act.put, List.setIfInBounds_toArray, List.set_cons_zero, List.set_cons_succ]
  refine heldTake 16 (some 60) (.bool true) rfl rfl (by kernel_rfl) (by kernel_rfl) (by kernel_rfl) (fun _ _ _ h => h) (Or.inl ⟨by rfl, fun w hS => ?_⟩) HS.out ?_
  · (go_simp)
  simp only [Act.put, List.setIfInBounds_toArray, List.set_cons_zero, List.set_cons_succ]
  refine heldTake 17 (some 61) (.bool true) rfl rfl (by kernel_rfl) (by kernel_rfl) (by kernel_rfl) (fun _ _ _ h => h) (Or.inl ⟨by rfl, fun w hS => ?_⟩) HS.out ?_
  · (go_simp)
  simp only [Act.put, List.setIfInBounds_toArray, List.set_cons_zero, List.set_cons_succ]
  refine heldTake 18 (some 62) (.bool true) rfl rfl (by kernel_rfl) (by kernel_rfl) (by kernel_rfl) (fun _ _ _ h => h) (Or.inl ⟨by rfl, fun w hS => ?_⟩) HS.out ?_
  · (go_simp)
  simp only [Act.put, List.setIfInBounds_toArray, List.set_cons_zero, List.set_cons_succ]
  refine heldTake 19 (some 63) (.slice a1 n2 cap1) rfl rfl (by kernel_rfl) (by kernel_rfl) (by kernel_rfl) (fun _ _ _ h => h) (Or.inl ⟨by rfl, fun w hS => ?_⟩) HS.out ?_
  · (go_simp)
  simp only [Act.put, List.setIfInBounds_toArray, List.set_cons_zero, List.set_cons_succ]
  refine heldTake 20 (some 64) (.int .i64 tag) rfl rfl (by kernel_rfl) (by kernel_rfl) (by kernel_rfl) (fun _ _ _ h => h) (Or.inl ⟨by rfl, fun w hS => ?_⟩) HS.out ?_
  · (go_simp)
  simp only [Act.put, List.setIfInBounds_toArray, List.set_cons_zero, List.set_cons_succ]
  refine heldTake 22 (some 66) (.slice a1 n2 cap1) rfl rfl (by kernel_rfl) (by kernel_rfl) (by kernel_rfl) (fun _ _ _ h => h) (Or.inl ⟨by rfl, fun w hS => ?_⟩) HS.out ?_
  · (go_simp)
  simp only [Act.put, List.setIfInBounds_toArray, List.set_cons_zero, List.set_cons_succ]
  refine heldTake 23 (some 67) (.int .i64 tag) rfl rfl (by kernel_rfl) (by kernel_rfl) (by kernel_rfl) (fun _ _ _ h => h) (Or.inl ⟨by rfl, fun w hS => ?_⟩) HS.out ?_
  · (go_simp)
  simp only [Act.put, List.setIfInBounds_toArray, List.set_cons_zero, List.set_cons_succ]
  refine heldOne 21 (by kernel_rfl) rfl (by rfl) (fun KK hK => ?_)
  go_simp
  go_at_call 21
  refine (texts_any a1 n2 cap1 tag gs w7 (HG2.out.below HS.out) (by omega)).mono ?_
  rintro e w8 ⟨v8, rfl, hO, hB⟩
  have HSw8 : Hid ((fun W : World => Below w2.heap.size w2 W) w8) := HS.out.trans (hB.mono (Below.size HS.out))
  have HLw8 : Hid (Below w7.heap.size w7 w8) := hB
  clear hB
  have HO8 := (show Hid (w8.ownsRow w7.heap.size 9 1 v8 (gs.filter (hit tag 1)).length (tcells (gs.filter (hit tag 1)))) from hO)
  clear hO
  refine hK.out _ _ HSw8.out ?_
  clear hK KK
  try simp only [Act.put, List.setIfInBounds_toArray, List.set_cons_zero, List.set_cons_succ]
  refine heldOne 24 (by kernel_rfl) rfl (by rfl) (fun KK hK => ?_)
  go_simp
  go_at_call 22
  refine (rtexts_any a1 n2 cap1 tag gs w8 (HG2.out.below HSw8.out) (by omega)).mono ?_
  rintro e w9 ⟨v9, rfl, hO, hB⟩
  have HSw9 : Hid ((fun W : World => Below w2.heap.size w2 W) w9) := HSw8.out.trans (hB.mono (Below.size HSw8.out))
  have HLw9 : Hid (Below w8.heap.size w8 w9) := hB
  clear hB
  have HO9 := (show Hid (w9.ownsRow w8.heap.size 9 1 v9 (gs.filter (hit tag 1)).length (tcells (gs.filter (hit tag 1)))) from hO)
  clear hO
  obtain ⟨a8, c8, rfl, hS8⟩ := own_strs (owns_below38 HO8.out HLw9.out)
  obtain ⟨a9, c9, rfl, hS9⟩ := own_strs HO9.out
  have HT8 : Hid (StrL w9 a8 (gs.filter (hit tag 1)).length (gs.filter (hit tag 1))) := hS8
  have HT9 : Hid (StrL w9 a9 (gs.filter (hit tag 1)).length (gs.filter (hit tag 1))) := hS9
  have hfl : (gs.filter (hit tag 1)).length ≤ 25 := Nat.le_trans (List.length_filter_le _ _) (by rw [HG2.out.1]; exact hn25)
  clear hS8 hS9 HO8 HO9
  generalize gs.filter (hit tag 1) = ts at *
  generalize hm : ts.length = m at *
  clear hm
  refine hK.out _ _ HSw9.out ?_
  clear hK KK
  try simp only [Act.put, List.setIfInBounds_toArray, List.set_cons_zero, List.set_cons_succ]
  refine heldOne 25 (by kernel_rfl) rfl (by rfl) (fun KK hK => ?_)
  go_simp
  go_at_call 20
  refine (sametexts_yes a8 m c8 a9 c9 ts ts rfl w9 HT8.out HT9.out (by omega)).mono ?_
  rintro e w10 ⟨rfl, hB⟩
  have HSw10 : Hid ((fun W : World => Below w2.heap.size w2 W) w10) := HSw9.out.trans (hB.mono (Below.size HSw9.out))
  have HLw10 : Hid (Below w9.heap.size w9 w10) := hB
  clear hB
  clear HT8 HT9
  refine hK.out _ _ HSw10.out ?_
  clear hK KK
  try simp only [Act.put, List.setIfInBounds_toArray, List.set_cons_zero, List.set_cons_succ]
  refine heldTake 26 (some 70) (.bool true) rfl rfl (by kernel_rfl) (by kernel_rfl) (by kernel_rfl) (fun _ _ _ h => h) (Or.inl ⟨by rfl, fun w hS => ?_⟩) HSw10.out ?_
  · (go_simp)
  simp only [Act.put, List.setIfInBounds_toArray, List.set_cons_zero, List.set_cons_succ]
  refine heldTake 27 (some 71) (.bool true) rfl rfl (by kernel_rfl) (by kernel_rfl) (by kernel_rfl) (fun _ _ _ h => h) (Or.inl ⟨by rfl, fun w hS => ?_⟩) HSw10.out ?_
  · (go_simp)
  simp only [Act.put, List.setIfInBounds_toArray, List.set_cons_zero, List.set_cons_succ]
  refine heldTake 28 (some 72) (.slice a1 n2 cap1) rfl rfl (by kernel_rfl) (by kernel_rfl) (by kernel_rfl) (fun _ _ _ h => h) (Or.inl ⟨by rfl, fun w hS => ?_⟩) HSw10.out ?_
  · (go_simp)
  simp only [Act.put, List.setIfInBounds_toArray, List.set_cons_zero, List.set_cons_succ]
  refine heldTake 29 (some 73) (.agg #[.int .i64 f.tag, .int .i64 f.kind, .int .i64 f.n, .string f.s]) rfl rfl (by kernel_rfl) (by kernel_rfl) (by kernel_rfl) (fun _ _ _ h => h) (Or.inl ⟨by rfl, fun w hS => ?_⟩) HSw10.out ?_
  · (obtain ⟨c0, c1, c2, c3⟩ := HX2.out.below hS (by omega); simp only [Nat.zero_add] at c0 c1 c2 c3; go_simp)
  simp only [Act.put, List.setIfInBounds_toArray, List.set_cons_zero, List.set_cons_succ]
  refine heldTake 31 (some 75) (.slice a1 n2 cap1) rfl rfl (by kernel_rfl) (by kernel_rfl) (by kernel_rfl) (fun _ _ _ h => h) (Or.inl ⟨by rfl, fun w hS => ?_⟩) HSw10.out ?_
  · (go_simp)
  simp only [Act.put, List.setIfInBounds_toArray, List.set_cons_zero, List.set_cons_succ]
  refine heldTake 32 (some 76) (.agg #[.int .i64 f.tag, .int .i64 f.kind, .int .i64 f.n, .string f.s]) rfl rfl (by kernel_rfl) (by kernel_rfl) (by kernel_rfl) (fun _ _ _ h => h) (Or.inl ⟨by rfl, fun w hS => ?_⟩) HSw10.out ?_
  · (obtain ⟨c0, c1, c2, c3⟩ := HX2.out.below hS (by omega); simp only [Nat.zero_add] at c0 c1 c2 c3; go_simp)
  simp only [Act.put, List.setIfInBounds_toArray, List.set_cons_zero, List.set_cons_succ]
  refine heldOne 30 (by kernel_rfl) rfl (by rfl) (fun KK hK => ?_)
  go_simp
  go_at_call 23
  refine (put_any a1 n2 cap1 f gs w10 (HG2.out.below HSw10.out) (by omega) hc1).mono ?_
  rintro e w11 ⟨v11, rfl, hO, hB⟩
  have HSw11 : Hid ((fun W : World => Below w2.heap.size w2 W) w11) := HSw10.out.trans (hB.mono (Below.size HSw10.out))
  have HLw11 : Hid (Below w10.heap.size w10 w11) := hB
  clear hB
  have HO11 := (show Hid (w11.ownsRow w10.heap.size 38 4 v11 (n2 + 1) ((putV gs f).flatMap fcells)) from hO)
  clear hO
  refine hK.out _ _ HSw11.out ?_
  clear hK KK
  try simp only [Act.put, List.setIfInBounds_toArray, List.set_cons_zero, List.set_cons_succ]
  refine heldOne 33 (by kernel_rfl) rfl (by rfl) (fun KK hK => ?_)
  go_simp
  go_at_call 24
  refine (rput_any a1 n2 cap1 f gs w11 (HG2.out.below HSw11.out) (by omega)).mono ?_
  rintro e w12 ⟨v12, rfl, hO, hB⟩
  have HSw12 : Hid ((fun W : World => Below w2.heap.size w2 W) w12) := HSw11.out.trans (hB.mono (Below.size HSw11.out))
  have HLw12 : Hid (Below w11.heap.size w11 w12) := hB
  clear hB
  have HO12 := (show Hid (w12.ownsRow w11.heap.size 38 4 v12 (n2 + 1) ((putV gs f).flatMap fcells)) from hO)
  clear hO
  obtain ⟨a11, c11, rfl, _, hP11⟩ := own_fields (owns_below38 HO11.out HLw12.out) (putV_fits HFT.out HFF.out)
  obtain ⟨a12, c12, rfl, _, hP12⟩ := own_fields HO12.out (putV_fits HFT.out HFF.out)
  have HP11 : Hid (FieldsL w12 a11 (n2 + 1) (putV gs f)) := hP11
  have HP12 : Hid (FieldsL w12 a12 (n2 + 1) (putV gs f)) := hP12
  clear hP11 hP12 HO11 HO12
  refine hK.out _ _ HSw12.out ?_
  clear hK KK
  try simp only [Act.put, List.setIfInBounds_toArray, List.set_cons_zero, List.set_cons_succ]
  refine heldOne 34 (by kernel_rfl) rfl (by rfl) (fun KK hK => ?_)
  go_simp
  go_at_call 15
  refine (same_yes a11 (n2 + 1) c11 a12 c12 (putV gs f) w12 HP11.out HP12.out (by omega)).mono ?_
  rintro e w13 ⟨rfl, hB⟩
  have HSw13 : Hid ((fun W : World => Below w2.heap.size w2 W) w13) := HSw12.out.trans (hB.mono (Below.size HSw12.out))
  have HLw13 : Hid (Below w12.heap.size w12 w13) := hB
  clear hB
  clear HP11 HP12
  refine hK.out _ _ HSw13.out ?_
  clear hK KK
  try simp only [Act.put, List.setIfInBounds_toArray, List.set_cons_zero, List.set_cons_succ]
  refine heldTake 35 (some 79) (.bool true) rfl rfl (by kernel_rfl) (by kernel_rfl) (by kernel_rfl) (fun _ _ _ h => h) (Or.inl ⟨by rfl, fun w hS => ?_⟩) HSw13.out ?_
  · (go_simp)
  simp only [Act.put, List.setIfInBounds_toArray, List.set_cons_zero, List.set_cons_succ]
  refine heldTake 36 (some 80) (.bool true) rfl rfl (by kernel_rfl) (by kernel_rfl) (by kernel_rfl) (fun _ _ _ h => h) (Or.inl ⟨by rfl, fun w hS => ?_⟩) HSw13.out ?_
  · (go_simp)
  simp only [Act.put, List.setIfInBounds_toArray, List.set_cons_zero, List.set_cons_succ]
  refine heldTake 37 (some 81) (.slice a1 n2 cap1) rfl rfl (by kernel_rfl) (by kernel_rfl) (by kernel_rfl) (fun _ _ _ h => h) (Or.inl ⟨by rfl, fun w hS => ?_⟩) HSw13.out ?_
  · (go_simp)
  simp only [Act.put, List.setIfInBounds_toArray, List.set_cons_zero, List.set_cons_succ]
  refine heldTake 38 (some 82) (.slice a2 n2 cap2) rfl rfl (by kernel_rfl) (by kernel_rfl) (by kernel_rfl) (fun _ _ _ h => h) (Or.inl ⟨by rfl, fun w hS => ?_⟩) HSw13.out ?_
  · (go_simp)
  simp only [Act.put, List.setIfInBounds_toArray, List.set_cons_zero, List.set_cons_succ]
  refine heldOne 39 (by kernel_rfl) rfl (by rfl) (fun KK hK => ?_)
  go_simp
  go_at_call 15
  refine (same_yes a1 n2 cap1 a2 cap2 gs w13 (HG2.out.below HSw13.out) (HF2.out.below HSw13.out) (by omega)).mono ?_
  rintro e w14 ⟨rfl, hB⟩
  have HSw14 : Hid ((fun W : World => Below w2.heap.size w2 W) w14) := HSw13.out.trans (hB.mono (Below.size HSw13.out))
  have HLw14 : Hid (Below w13.heap.size w13 w14) := hB
  clear hB
  refine hK.out _ _ HSw14.out ?_
  clear hK KK
  try simp only [Act.put, List.setIfInBounds_toArray, List.set_cons_zero, List.set_cons_succ]
  refine heldTake 40 (some 84) (.bool true) rfl rfl (by kernel_rfl) (by kernel_rfl) (by kernel_rfl) (fun _ _ _ h => h) (Or.inl ⟨by rfl, fun w hS => ?_⟩) HSw14.out ?_
  · (go_simp)
  simp only [Act.put, List.setIfInBounds_toArray, List.set_cons_zero, List.set_cons_succ]
  refine heldTake 41 (some 85) (.bool true) rfl rfl (by kernel_rfl) (by kernel_rfl) (by kernel_rfl) (fun _ _ _ h => h) (Or.inl ⟨by rfl, fun w hS => ?_⟩) HSw14.out ?_
  · (go_simp)
  simp only [Act.put, List.setIfInBounds_toArray, List.set_cons_zero, List.set_cons_succ]
  refine heldOne 42 (by kernel_rfl) rfl (by rfl) (fun KK hK => ?_)
  go_simp
  go_at_call 12
  refine (works_any w14).mono ?_
  rintro e w15 ⟨rfl, hB⟩
  have HSw15 : Hid ((fun W : World => Below w2.heap.size w2 W) w15) := HSw14.out.trans (hB.mono (Below.size HSw14.out))
  have HLw15 : Hid (Below w14.heap.size w14 w15) := hB
  clear hB
  refine hK.out _ _ HSw15.out ?_
  clear hK KK
  try simp only [Act.put, List.setIfInBounds_toArray, List.set_cons_zero, List.set_cons_succ]
  refine heldTake 43 (some 87) (.bool true) rfl rfl (by kernel_rfl) (by kernel_rfl) (by kernel_rfl) (fun _ _ _ h => h) (Or.inl ⟨by rfl, fun w hS => ?_⟩) HSw15.out ?_
  · (go_simp)
  simp only [Act.put, List.setIfInBounds_toArray, List.set_cons_zero, List.set_cons_succ]
  refine heldTake 44 (some 6) (.bool true) rfl rfl (by kernel_rfl) (by kernel_rfl) (by kernel_rfl) (fun _ _ _ h => h) (Or.inl ⟨by rfl, fun w hS => ?_⟩) HSw15.out ?_
  · (go_simp)
  simp only [Act.put, List.setIfInBounds_toArray, List.set_cons_zero, List.set_cons_succ]
  refine wpAnyH_done (by kernel_rfl) ?_ _
  have HFN : Below w.heap.size w w15 := HB2.out.trans (HSw15.out.mono hs2)
  go_wp2_with fail
  go_ret
  exact ⟨rfl, HFN⟩
end Go.Proofs.Ytpbobmhffdmmmaa
