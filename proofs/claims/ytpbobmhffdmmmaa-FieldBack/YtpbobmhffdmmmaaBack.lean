/- Proved: FieldBack's walk: what is encoded is decoded as it was; what is decoded has just those bytes. -/
import Derived.Test.YtpbobmhffdmmmaaMathE
import Derived.Test.YtpbobmhffdmmmaaSame
import Derived.Test.YtpbobmhffdmmmaaReg
namespace Go.Proofs.Ytpbobmhffdmmmaa
open Go.RowKit
/- a text cut to 6000 bytes -/
structure Cut6 (s s' : ByteArray) (m : Nat) : Prop where
  is : (s.size ≤ 6000 ∧ m = s.size ∧ s' = s) ∨ (6000 < s.size ∧ m = 6000 ∧ s' = s.extract 0 6000)
theorem cut6 (s : ByteArray) : ∃ s' m, Cut6 s s' m ∧ s'.size ≤ 6000 := by
  by_cases h : s.size ≤ 6000
  · exact ⟨s, s.size, ⟨.inl ⟨h, rfl, rfl⟩⟩, h⟩
  · refine ⟨s.extract 0 6000, 6000, ⟨.inr ⟨by omega, rfl, rfl⟩⟩, ?_⟩
    rw [ByteArray.size_extract]; omega
set_option maxHeartbeats 2000000 in
set_option maxRecDepth 20000 in
theorem back_walk (a : Option Addr) (len cap : Nat) (s : ByteArray) (w : World) (hF0 : Fields w a len) (hlc : len ≤ cap) (hcm : cap ≤ 9223372036854775807) (hs : s.size ≤ 9223372036854775807) :
    Calls Try.prog 6 #[.slice a len cap, .string s] w fun e w' => e = .returned (.bool true) ∧ Below w.heap.size w w' := by
  obtain ⟨fs, hF⟩ := hF0.list
  have HF : Hid (FieldsL w a len fs) := hF
  clear hF hF0
  obtain ⟨s', m, hcut, hs'⟩ := cut6 s
  have HCUT : Hid (Cut6 s s' m) := hcut
  clear hcut
  go_enter Try.func6, Try.ntmps6
  go_upto_region 1 with fail
  have HS : Hid ((fun _ : World => True) w.drew) := trivial
  refine wp_region_held_drew (S := fun _ => True) (by kernel_rfl) HS.out (fun _ => ?_)
  refine heldTake 0 (some 13) (.slice a len cap) rfl rfl (by kernel_rfl) (by kernel_rfl) (by kernel_rfl) (fun _ _ _ h => h) (Or.inl ⟨by rfl, fun w hS => ?_⟩) HS.out ?_
  · (go_simp)
  simp only [Act.put, List.setIfInBounds_toArray, List.set_cons_zero, List.set_cons_succ]
  refine heldTake 2 (some 15) (.string s) rfl rfl (by kernel_rfl) (by kernel_rfl) (by kernel_rfl) (fun _ _ _ h => h) (Or.inl ⟨by rfl, fun w hS => ?_⟩) HS.out ?_
  · (go_simp)
  simp only [Act.put, List.setIfInBounds_toArray, List.set_cons_zero, List.set_cons_succ]
  refine heldTake 3 (some 16) (.string s) rfl rfl (by kernel_rfl) (by kernel_rfl) (by kernel_rfl) (fun _ _ _ h => h) (Or.inl ⟨by rfl, fun w hS => ?_⟩) HS.out ?_
  · (go_simp)
  simp only [Act.put, List.setIfInBounds_toArray, List.set_cons_zero, List.set_cons_succ]
  refine heldTake 4 (some 17) (.int .i64 s.size) rfl rfl (by kernel_rfl) (by kernel_rfl) (by kernel_rfl) (fun _ _ _ h => h) (Or.inl ⟨by rfl, fun w hS => ?_⟩) HS.out ?_
  · (go_simp)
  simp only [Act.put, List.setIfInBounds_toArray, List.set_cons_zero, List.set_cons_succ]
  refine heldTake 5 (some 18) (.int .i64 (m : Int)) rfl rfl (by kernel_rfl) (by kernel_rfl) (by kernel_rfl) (fun _ _ _ h => h) (Or.inl ⟨by rfl, fun w hS => ?_⟩) HS.out ?_
  · (rcases HCUT.out.is with ⟨h1, h2, _⟩ | ⟨h1, h2, _⟩ <;> rw [h2] <;> (go_simp) <;> (intros; omega))
  simp only [Act.put, List.setIfInBounds_toArray, List.set_cons_zero, List.set_cons_succ]
  refine heldTake 6 (some 19) (.string s') rfl rfl (by kernel_rfl) (by kernel_rfl) (by kernel_rfl) (fun _ _ _ h => h) (Or.inl ⟨by rfl, fun w hS => ?_⟩) HS.out ?_
  · (rcases HCUT.out.is with ⟨h1, h2, h3⟩ | ⟨h1, h2, h3⟩ <;> rw [h2, h3] <;> (go_simp) <;> (intros; omega))
  simp only [Act.put, List.setIfInBounds_toArray, List.set_cons_zero, List.set_cons_succ]
  refine heldOne 1 (by kernel_rfl) rfl (by rfl) (fun KK hK => ?_)
  go_simp
  go_at_call 9
  refine (few_any a len cap fs w.drew (HF.out.below (Below.refl _ _).drew) (by omega)).mono ?_
  rintro e w1 ⟨v0, n, rfl, hn, hO1, hB1⟩
  refine hK.out _ _ trivial ?_
  clear hK KK
  try simp only [Act.put, List.setIfInBounds_toArray, List.set_cons_zero, List.set_cons_succ]
  refine heldTake 7 (some 0) (v0) rfl rfl (by kernel_rfl) (by kernel_rfl) (by kernel_rfl) (fun _ _ _ h => h) (Or.inl ⟨by rfl, fun w hS => ?_⟩) trivial ?_
  · (go_simp)
  simp only [Act.put, List.setIfInBounds_toArray, List.set_cons_zero]
  refine heldTake 8 (some 1) (.string s') rfl rfl (by kernel_rfl) (by kernel_rfl) (by kernel_rfl) (fun _ _ _ h => h) (Or.inl ⟨by rfl, fun w hS => ?_⟩) trivial ?_
  · (go_simp)
  simp only [Act.put, List.setIfInBounds_toArray, List.set_cons_zero, List.set_cons_succ]
  refine wpAnyH_done (by kernel_rfl) ?_ _
  obtain ⟨a1, cap1, rfl, hc1, hF1⟩ := own_fields hO1 (few_fits HF.out n)
  have HB1 : Hid (Below w.heap.size w w1) := (Below.refl w.heap.size w).drew.trans hB1
  have hs1 := HB1.out.size
  have hn25 : n ≤ 25 := by omega
  generalize (fs.take n).map cut = gs at *
  have HF1 : Hid (FieldsL w1 a1 n gs) := hF1
  clear HF HCUT HS hn hO1 hB1 hF1 hs hlc hcm
  go_wp2_with fail
  refine (enc_any a1 n cap1 gs w1 HF1.out (by omega)).mono ?_
  rintro e w2 ⟨rfl, hB2⟩
  have HB2 : Hid (Below w1.heap.size w1 w2) := hB2
  have hs2 := hB2.size
  clear hB2
  by_cases h0 : encE gs = 0
  · rw [h0]
    have HD : Hid (Dec (bl (encS gs)) gs) := by rw [encS_bl h0]; exact enc_dec h0
    have hsz := encS_size gs
    generalize encS gs = t at *
    go_wp2_with fail
    refine (dec_any t w2 (by omega)).mono ?_
    rintro e w3 (⟨l, v, hd, rfl, hO3, hB3⟩ | ⟨hX, _⟩)
    case inr => exact absurd HD.out (hX gs)
    obtain rfl : l = gs := hd.one HD.out
    obtain ⟨a3, cap3, rfl, hc3, hF3⟩ := own_fields hO3 (fun f hf => (hd.good f hf).fits)
    have hln : l.length = n := HF1.out.1
    rw [hln] at hF3 ⊢
    have HF3 : Hid (FieldsL w3 a3 n l) := hF3
    have HF13 : Hid (FieldsL w3 a1 n l) := HF1.out.below (HB2.out.trans (hB3.mono hs2))
    have HB3 : Hid (Below w.heap.size w w3) := HB1.out.trans ((HB2.out.trans (hB3.mono hs2)).mono hs1)
    have hs3 := HB3.out.size
    clear hd hO3 hB3 hF3 HF1 HB2 HB1 HD h0 hs2 hs1
    go_wp2_with fail
    refine (same_yes a1 n cap1 a3 cap3 l w3 HF13.out HF3.out (by omega)).mono ?_
    rintro e w4 ⟨rfl, hB4⟩
    have HB4 : Hid (Below w.heap.size w w4) := HB3.out.trans (hB4.mono hs3)
    have hs4 := HB4.out.size
    clear hB4 HF13 HF3 HB3 hs3 hln
    go_wp2_with fail
    refine (dec_any s' w4 (by omega)).mono ?_
    rintro e w5 (⟨l5, v5, hd5, rfl, hO5, hB5⟩ | ⟨hX, rfl, hB5⟩)
    · obtain ⟨a5, cap5, rfl, hc5, hF5⟩ := own_fields hO5 (fun f hf => (hd5.good f hf).fits)
      have HF5 : Hid (FieldsL w5 a5 l5.length l5) := hF5
      have hl5 : l5.length ≤ 65536 := by
        have h1 := enc_len l5
        have h2 := hd5.len
        rw [← hd5.eq] at h2
        omega
      have HB5 : Hid (Below w.heap.size w w5) := HB4.out.trans (hB5.mono hs4)
      have hs5 := HB5.out.size
      have HEN := enc_any a5 l5.length cap5 l5 w5 hF5 (by omega)
      rw [dec_enc hd5, encS_back hd5] at HEN
      clear hB5 hO5 hF5 HB4 hs4
      generalize l5.length = n5 at *
      go_wp2_with fail
      refine HEN.mono ?_
      clear HEN
      rintro e w6 ⟨rfl, hB6⟩
      have HB6 : Hid (Below w.heap.size w w6) := HB5.out.trans (hB6.mono hs5)
      have hs6 := HB6.out.size
      clear hB6
      go_wp2_with fail
      refine (works_any w6).mono ?_
      rintro e w7 ⟨rfl, hB7⟩
      have HB7 : Hid (Below w.heap.size w w7) := HB6.out.trans (hB7.mono hs6)
      clear hB7
      go_wp2_with fail
      go_ret
      exact ⟨rfl, HB7.out⟩
    · have HB5 : Hid (Below w.heap.size w w5) := HB4.out.trans (hB5.mono hs4)
      have hs5 := HB5.out.size
      clear hB5
      go_wp2_with fail
      refine (works_any w5).mono ?_
      rintro e w7 ⟨rfl, hB7⟩
      have HB7 : Hid (Below w.heap.size w w7) := HB5.out.trans (hB7.mono hs5)
      clear hB7
      go_wp2_with fail
      go_ret
      exact ⟨rfl, HB7.out⟩
  · have h0' : ¬ ((encE gs : Nat) : Int) = 0 := by omega
    have HB4 : Hid (Below w.heap.size w w2) := HB1.out.trans (HB2.out.mono hs1)
    have hs4 := HB4.out.size
    generalize encE gs = c at *
    generalize encS gs = t at *
    go_wp2_with fail
    refine (dec_any s' w2 (by omega)).mono ?_
    rintro e w5 (⟨l5, v5, hd5, rfl, hO5, hB5⟩ | ⟨hX, rfl, hB5⟩)
    · obtain ⟨a5, cap5, rfl, hc5, hF5⟩ := own_fields hO5 (fun f hf => (hd5.good f hf).fits)
      have HF5 : Hid (FieldsL w5 a5 l5.length l5) := hF5
      have hl5 : l5.length ≤ 65536 := by
        have h1 := enc_len l5
        have h2 := hd5.len
        rw [← hd5.eq] at h2
        omega
      have HB5 : Hid (Below w.heap.size w w5) := HB4.out.trans (hB5.mono hs4)
      have hs5 := HB5.out.size
      have HEN := enc_any a5 l5.length cap5 l5 w5 hF5 (by omega)
      rw [dec_enc hd5, encS_back hd5] at HEN
      clear hB5 hO5 hF5 HB4 hs4
      generalize l5.length = n5 at *
      go_wp2_with fail
      refine HEN.mono ?_
      clear HEN
      rintro e w6 ⟨rfl, hB6⟩
      have HB6 : Hid (Below w.heap.size w w6) := HB5.out.trans (hB6.mono hs5)
      have hs6 := HB6.out.size
      clear hB6
      go_wp2_with fail
      refine (works_any w6).mono ?_
      rintro e w7 ⟨rfl, hB7⟩
      have HB7 : Hid (Below w.heap.size w w7) := HB6.out.trans (hB7.mono hs6)
      clear hB7
      go_wp2_with fail
      go_ret
      exact ⟨rfl, HB7.out⟩
    · have HB5 : Hid (Below w.heap.size w w5) := HB4.out.trans (hB5.mono hs4)
      have hs5 := HB5.out.size
      clear hB5
      go_wp2_with fail
      refine (works_any w5).mono ?_
      rintro e w7 ⟨rfl, hB7⟩
      have HB7 : Hid (Below w.heap.size w w7) := HB5.out.trans (hB7.mono hs5)
      clear hB7
      go_wp2_with fail
      go_ret
      exact ⟨rfl, HB7.out⟩
end Go.Proofs.Ytpbobmhffdmmmaa
