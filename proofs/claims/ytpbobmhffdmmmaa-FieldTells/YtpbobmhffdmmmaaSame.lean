/- Proved: the document's Same answers true for two slices with the same fields. -/
import Derived.Test.YtpbobmhffdmmmaaFew
namespace Go.Proofs.Ytpbobmhffdmmmaa
open Go.RowKit
set_option maxHeartbeats 1000000 in
set_option maxRecDepth 20000 in
theorem same_yes (a : Option Addr) (len cap : Nat) (a2 : Option Addr) (cap2 : Nat) (fs : List Fv) (w : World) (hF : FieldsL w a len fs) (hG : FieldsL w a2 len fs) (hlen : len ≤ 9223372036854775807) :
    Calls Try.prog 15 #[.slice a len cap, .slice a2 len cap2] w fun e w' => e = .returned (.bool true) ∧ Below w.heap.size w w' := by
  have HF : Hid (FieldsL w a len fs) := hF
  have HG : Hid (FieldsL w a2 len fs) := hG
  clear hF hG
  go_enter Try.func15, Try.ntmps15
  go_wp2_with fail
  go_loopw [5] (fun s3 wr => ∃ k : Nat, k ≤ len ∧ s3 = .int .i64 k ∧ Below w.heap.size w wr) (fun s3 _ => len - (intOf s3).toNat)
  case atStart => exact ⟨0, by omega, rfl, Below.refl _ _⟩
  case round =>
    obtain ⟨k, hk, rfl, hB⟩ := hrel
    have HB : Hid (Below w.heap.size w wr) := hB
    by_cases hlt : k < len
    · obtain ⟨b, off, rfl, hc⟩ : ∃ b off, a = some ⟨b, off, none⟩ ∧ ∀ i, i < len → FieldAt w b (off + i * 4) (fs.getD i fv0) := by
        rcases HF.out.2.2 with h | h
        · omega
        · exact h
      obtain ⟨b2, off2, rfl, hc2⟩ : ∃ b off, a2 = some ⟨b, off, none⟩ ∧ ∀ i, i < len → FieldAt w b (off + i * 4) (fs.getD i fv0) := by
        rcases HG.out.2.2 with h | h
        · omega
        · exact h
      have hbl : b < w.heap.size := block_lt_of_cell (hc k hlt).tag
      have hbl2 : b2 < w.heap.size := block_lt_of_cell (hc2 k hlt).tag
      obtain ⟨c0, c1, c2, c3⟩ := (hc k hlt).below HB.out hbl
      obtain ⟨d0, d1, d2, d3⟩ := (hc2 k hlt).below HB.out hbl2
      generalize fs.getD k fv0 = f at *
      clear hc hc2 hB
      obtain ⟨ft, fk, fn, fx⟩ := f
      simp only at c0 c1 c2 c3 d0 d1 d2 d3
      have i0 : (k : Int) < (len : Int) := by omega
      have j0 : (0 : Int) ≤ (k : Int) := Int.natCast_nonneg _
      go_wp2_with fail
      go_region
      go_wp2_with fail
      go_roundw
      case rel => exact ⟨k + 1, by omega, by go_num, HB.out.drew⟩
      case measure => (simp [intOf]) <;> omega
    · have hkl : ¬ (k : Int) < (len : Int) := by omega
      go_wp2
      go_ret
      exact ⟨rfl, HB.out⟩
end Go.Proofs.Ytpbobmhffdmmmaa
