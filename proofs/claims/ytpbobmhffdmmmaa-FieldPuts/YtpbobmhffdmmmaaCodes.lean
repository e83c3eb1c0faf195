/- Proved: FieldCodes' walk: any fields have the document's bytes, or are refused for their first fault. -/
import Derived.Test.YtpbobmhffdmmmaaMathE
import Derived.Test.YtpbobmhffdmmmaaREnc
namespace Go.Proofs.Ytpbobmhffdmmmaa
open Go.RowKit
theorem fb_len {f : Fv} (h : f.Fits) (hs : f.s.size ≤ 4100) : (Fi.fb (fd f)).length ≤ 4110 := by
  have hn : f.n.toNat ≤ 9223372036854775807 := by have := h.n.2; omega
  have h1 := varint_room f.n.toNat hn
  have h2 := varint_room (bl f.s).length (by rw [bl_length]; omega)
  have h3 := bl_length f.s
  unfold Fi.fb fd
  rw [List.length_cons]
  split
  · show (Fi.varint f.n.toNat).length + 1 ≤ 4110
    omega
  · show (Fi.varint (bl f.s).length ++ bl f.s).length + 1 ≤ 4110
    rw [List.length_append]
    omega
theorem cut_len (f : Fv) : (cut f).s.size ≤ 4100 := by
  unfold cut
  split
  · assumption
  · show (f.s.extract 0 4100).size ≤ 4100
    rw [ByteArray.size_extract]; omega
theorem enc_bound : ∀ (l : List Fv), (∀ f ∈ l, f.Fits ∧ f.s.size ≤ 4100) → (enc l).length ≤ 4110 * l.length
  | [], _ => by simp [enc, Fi.enc]
  | f :: l, h => by
    have e : enc (f :: l) = Fi.fb (fd f) ++ enc l := by simp [enc, Fi.enc]
    have h1 := h f List.mem_cons_self
    have h2 := fb_len h1.1 h1.2
    have h3 := enc_bound l (fun x hx => h x (List.mem_cons_of_mem _ hx))
    rw [e, List.length_append, List.length_cons]
    omega
theorem few_bound {w : World} {a : Option Addr} {len : Nat} {fs : List Fv} (h : FieldsL w a len fs) (n : Nat) (hn : n ≤ 25) : (enc ((fs.take n).map cut)).length ≤ 300000 := by
  have h1 := enc_bound ((fs.take n).map cut) (fun f hf => by
    obtain ⟨g, hg, rfl⟩ := List.mem_map.1 hf
    exact ⟨cut_fits (h.2.1 g (List.mem_of_mem_take hg)), cut_len g⟩)
  rw [List.length_map, List.length_take] at h1
  omega
set_option maxHeartbeats 1000000 in
set_option maxRecDepth 20000 in
theorem codes_walk (a : Option Addr) (len cap : Nat) (w : World) (hF0 : Fields w a len) (hlc : len ≤ cap) (hcm : cap ≤ 9223372036854775807) :
    Calls Try.prog 3 #[.slice a len cap] w fun e w' => e = .returned (.bool true) ∧ Below w.heap.size w w' := by
  obtain ⟨fs, hF⟩ := hF0.list
  have HF : Hid (FieldsL w a len fs) := hF
  clear hF hF0
  go_enter Try.func3, Try.ntmps3
  go_wp2_with fail
  refine (few_any a len cap fs w HF.out (by omega)).mono ?_
  rintro e w1 ⟨v1, n, rfl, hn, hO1, hB1⟩
  obtain ⟨a1, cap1, rfl, hc1, hF1⟩ := own_fields hO1 (few_fits HF.out n)
  have hn25 : n ≤ 25 := by omega
  have hbd := few_bound HF.out n hn25
  have HB1 : Hid (Below w.heap.size w w1) := hB1
  have hs1 := hB1.size
  generalize (fs.take n).map cut = gs at *
  have HF1 : Hid (FieldsL w1 a1 n gs) := hF1
  clear HF hn hO1 hB1 hF1 hlc hcm
  go_wp2_with fail
  refine (enc_any a1 n cap1 gs w1 HF1.out (by omega)).mono ?_
  rintro e w2 ⟨rfl, hB2⟩
  have HB2 : Hid (Below w.heap.size w w2) := HB1.out.trans (hB2.mono hs1)
  have HF2 : Hid (FieldsL w2 a1 n gs) := HF1.out.below hB2
  have hs2 := HB2.out.size
  clear hB2 HF1 HB1 hs1
  go_wp2_with fail
  refine (renc_any a1 n cap1 gs w2 HF2.out (by omega) hbd).mono ?_
  rintro e w3 ⟨rfl, hB3⟩
  have HB3 : Hid (Below w.heap.size w w3) := HB2.out.trans (hB3.mono hs2)
  have hs3 := HB3.out.size
  clear hB3 HF2 HB2 hs2 hbd
  generalize encS gs = t at *
  generalize encE gs = c at *
  go_wp2_with fail
  refine (works_any w3).mono ?_
  rintro e w4 ⟨rfl, hB4⟩
  have HB4 : Hid (Below w.heap.size w w4) := HB3.out.trans (hB4.mono hs3)
  clear hB4
  go_wp2_with fail
  go_ret
  exact ⟨rfl, HB4.out⟩
end Go.Proofs.Ytpbobmhffdmmmaa
