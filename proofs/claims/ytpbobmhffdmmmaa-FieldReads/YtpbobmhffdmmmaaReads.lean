/- Proved: FieldReads' walk: any bytes are those of the document's record, or of none. -/
import Derived.Test.YtpbobmhffdmmmaaRDec
import Derived.Test.YtpbobmhffdmmmaaSame
namespace Go.Proofs.Ytpbobmhffdmmmaa
open Go.RowKit
set_option maxHeartbeats 1000000 in
set_option maxRecDepth 20000 in
theorem reads_walk (s : ByteArray) (w : World) (hs : s.size ≤ 9223372036854775807) :
    Calls Try.prog 4 #[.string s] w fun e w' => e = .returned (.bool true) ∧ Below w.heap.size w w' := by
  by_cases h6 : s.size ≤ 6000
  · have h6' : ¬ (6000 : Int) < (s.size : Int) := by omega
    have h6'' : ¬ 6000 < s.size := by omega
    have D1 := fun W : World => dec_any s W (by omega)
    have D2 := fun W : World => rdec_any s W (by omega)
    go_enter Try.func4, Try.ntmps4
    go_wp2_with fail
    refine (D1 w).mono ?_
    rintro e w1 (⟨l, v1, hd1, rfl, hO1, hB1⟩ | ⟨hX1, rfl, hB1⟩)
    · obtain ⟨a1, c1, rfl, _, hF1⟩ := own_fields hO1 (fun f hf => (hd1.good f hf).fits)
      have HF1 : Hid (FieldsL w1 a1 l.length l) := hF1
      have HB1 : Hid (Below w.heap.size w w1) := hB1
      have hs1 := hB1.size
      have hll : l.length ≤ 65536 := by
        have h1 := enc_len l
        have h2 := hd1.len
        rw [← hd1.eq] at h2
        omega
      have HD1 : Hid (Dec _ l) := hd1
      clear hF1 hB1 hO1 hd1 D1
      go_wp2_with fail
      refine (D2 w1).mono ?_
      clear D2
      rintro e w2 (⟨l2, v2, hd2, rfl, hO2, hB2⟩ | ⟨hX2, _⟩)
      case inr => exact absurd HD1.out (hX2 l)
      obtain rfl : l2 = l := hd2.one HD1.out
      obtain ⟨a2, c2, rfl, _, hF2⟩ := own_fields hO2 (fun f hf => (hd2.good f hf).fits)
      have HF2 : Hid (FieldsL w2 a2 l2.length l2) := hF2
      have HF12 : Hid (FieldsL w2 a1 l2.length l2) := HF1.out.below hB2
      have HB2 : Hid (Below w.heap.size w w2) := HB1.out.trans (hB2.mono hs1)
      have hs2 := HB2.out.size
      clear hF2 hB2 hO2 hd2 HF1 HB1 hs1 HD1
      have SM := same_yes a1 l2.length c1 a2 c2 l2 w2 HF12.out HF2.out (by omega)
      clear HF12 HF2
      generalize l2.length = n at *
      go_wp2_with fail
      refine SM.mono ?_
      clear SM
      rintro e w3 ⟨rfl, hB3⟩
      have HB3 : Hid (Below w.heap.size w w3) := HB2.out.trans (hB3.mono hs2)
      have hs3 := HB3.out.size
      clear hB3 HB2 hs2
      go_wp2_with fail
      refine (works_any w3).mono ?_
      rintro e w4 ⟨rfl, hB4⟩
      have HB4 : Hid (Below w.heap.size w w4) := HB3.out.trans (hB4.mono hs3)
      clear hB4
      go_wp2_with fail
      go_ret
      exact ⟨rfl, HB4.out⟩
    · have HB1 : Hid (Below w.heap.size w w1) := hB1
      have hs1 := hB1.size
      clear hB1 D1
      go_wp2_with fail
      refine (D2 w1).mono ?_
      clear D2
      rintro e w2 (⟨l2, v2, hd2, _⟩ | ⟨_, rfl, hB2⟩)
      case inl => exact absurd hd2 (hX1 l2)
      have HB2 : Hid (Below w.heap.size w w2) := HB1.out.trans (hB2.mono hs1)
      have hs2 := HB2.out.size
      clear hB2 HB1 hs1 hX1
      have SM := same_yes none 0 0 none 0 [] w2 ⟨rfl, (fun f hf => by cases hf), .inl rfl⟩ ⟨rfl, (fun f hf => by cases hf), .inl rfl⟩ (by omega)
      go_wp2_with fail
      refine SM.mono ?_
      clear SM
      rintro e w3 ⟨rfl, hB3⟩
      have HB3 : Hid (Below w.heap.size w w3) := HB2.out.trans (hB3.mono hs2)
      have hs3 := HB3.out.size
      clear hB3 HB2 hs2
      go_wp2_with fail
      refine (works_any w3).mono ?_
      rintro e w4 ⟨rfl, hB4⟩
      have HB4 : Hid (Below w.heap.size w w4) := HB3.out.trans (hB4.mono hs3)
      clear hB4
      go_wp2_with fail
      go_ret
      exact ⟨rfl, HB4.out⟩
  · have h6' : (6000 : Int) < (s.size : Int) := by omega
    have h6'' : 6000 < s.size := by omega
    have hex : (s.extract 0 6000).size ≤ 6000 := by rw [ByteArray.size_extract]; omega
    have D1 := fun W : World => dec_any (s.extract 0 6000) W (by omega)
    have D2 := fun W : World => rdec_any (s.extract 0 6000) W (by omega)
    go_enter Try.func4, Try.ntmps4
    go_wp2_with fail
    generalize s.extract 0 6000 = s' at *
    refine (D1 w).mono ?_
    rintro e w1 (⟨l, v1, hd1, rfl, hO1, hB1⟩ | ⟨hX1, rfl, hB1⟩)
    · obtain ⟨a1, c1, rfl, _, hF1⟩ := own_fields hO1 (fun f hf => (hd1.good f hf).fits)
      have HF1 : Hid (FieldsL w1 a1 l.length l) := hF1
      have HB1 : Hid (Below w.heap.size w w1) := hB1
      have hs1 := hB1.size
      have hll : l.length ≤ 65536 := by
        have h1 := enc_len l
        have h2 := hd1.len
        rw [← hd1.eq] at h2
        omega
      have HD1 : Hid (Dec _ l) := hd1
      clear hF1 hB1 hO1 hd1 D1
      go_wp2_with fail
      refine (D2 w1).mono ?_
      clear D2
      rintro e w2 (⟨l2, v2, hd2, rfl, hO2, hB2⟩ | ⟨hX2, _⟩)
      case inr => exact absurd HD1.out (hX2 l)
      obtain rfl : l2 = l := hd2.one HD1.out
      obtain ⟨a2, c2, rfl, _, hF2⟩ := own_fields hO2 (fun f hf => (hd2.good f hf).fits)
      have HF2 : Hid (FieldsL w2 a2 l2.length l2) := hF2
      have HF12 : Hid (FieldsL w2 a1 l2.length l2) := HF1.out.below hB2
      have HB2 : Hid (Below w.heap.size w w2) := HB1.out.trans (hB2.mono hs1)
      have hs2 := HB2.out.size
      clear hF2 hB2 hO2 hd2 HF1 HB1 hs1 HD1
      have SM := same_yes a1 l2.length c1 a2 c2 l2 w2 HF12.out HF2.out (by omega)
      clear HF12 HF2
      generalize l2.length = n at *
      go_wp2_with fail
      refine SM.mono ?_
      clear SM
      rintro e w3 ⟨rfl, hB3⟩
      have HB3 : Hid (Below w.heap.size w w3) := HB2.out.trans (hB3.mono hs2)
      have hs3 := HB3.out.size
      clear hB3 HB2 hs2
      go_wp2_with fail
      refine (works_any w3).mono ?_
      rintro e w4 ⟨rfl, hB4⟩
      have HB4 : Hid (Below w.heap.size w w4) := HB3.out.trans (hB4.mono hs3)
      clear hB4
      go_wp2_with fail
      go_ret
      exact ⟨rfl, HB4.out⟩
    · have HB1 : Hid (Below w.heap.size w w1) := hB1
      have hs1 := hB1.size
      clear hB1 D1
      go_wp2_with fail
      refine (D2 w1).mono ?_
      clear D2
      rintro e w2 (⟨l2, v2, hd2, _⟩ | ⟨_, rfl, hB2⟩)
      case inl => exact absurd hd2 (hX1 l2)
      have HB2 : Hid (Below w.heap.size w w2) := HB1.out.trans (hB2.mono hs1)
      have hs2 := HB2.out.size
      clear hB2 HB1 hs1 hX1
      have SM := same_yes none 0 0 none 0 [] w2 ⟨rfl, (fun f hf => by cases hf), .inl rfl⟩ ⟨rfl, (fun f hf => by cases hf), .inl rfl⟩ (by omega)
      go_wp2_with fail
      refine SM.mono ?_
      clear SM
      rintro e w3 ⟨rfl, hB3⟩
      have HB3 : Hid (Below w.heap.size w w3) := HB2.out.trans (hB3.mono hs2)
      have hs3 := HB3.out.size
      clear hB3 HB2 hs2
      go_wp2_with fail
      refine (works_any w3).mono ?_
      rintro e w4 ⟨rfl, hB4⟩
      have HB4 : Hid (Below w.heap.size w w4) := HB3.out.trans (hB4.mono hs3)
      clear hB4
      go_wp2_with fail
      go_ret
      exact ⟨rfl, HB4.out⟩
end Go.Proofs.Ytpbobmhffdmmmaa
