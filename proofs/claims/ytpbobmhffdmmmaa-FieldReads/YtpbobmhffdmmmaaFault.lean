/- Proved: firstFault answers the first fault of fields. -/
import Derived.Test.YtpbobmhffdmmmaaMay
namespace Go.Proofs.Ytpbobmhffdmmmaa
open Go.RowKit
abbrev decMay (f : Fv) : Decidable (May f) := by unfold May; infer_instance
def fault1 (p : Int) (f : Fv) : Nat := @ite Nat (¬ May f) (@instDecidableNot _ (decMay f)) 2 <| if 4096 < f.s.size then 3 else if f.tag < p then 9 else 0
def fault (p : Int) : List Fv → Nat
  | [] => 0
  | f :: l => if fault1 p f = 0 then fault f.tag l else fault1 p f
theorem fault_arg {p : Int} {f : Fv} {l : List Fv} (h : ¬ May f) : fault p (f :: l) = 2 := by simp [fault, fault1, h]
theorem fault_long {p : Int} {f : Fv} {l : List Fv} (h : May f) (h2 : 4096 < f.s.size) : fault p (f :: l) = 3 := by simp [fault, fault1, h, h2]
theorem fault_state {p : Int} {f : Fv} {l : List Fv} (h : May f) (h2 : ¬ 4096 < f.s.size) (h3 : f.tag < p) : fault p (f :: l) = 9 := by simp [fault, fault1, h, h2, h3]
theorem fault_next {p : Int} {f : Fv} {l : List Fv} (h : May f) (h2 : ¬ 4096 < f.s.size) (h3 : ¬ f.tag < p) : fault p (f :: l) = fault f.tag l := by simp [fault, fault1, h, h2, h3]
theorem drop_getD (fs : List Fv) (k : Nat) (hk : k < fs.length) : fs.drop k = fs.getD k fv0 :: fs.drop (k + 1) := by
  rw [List.getD_eq_getElem?_getD, List.getElem?_eq_getElem hk, Option.getD_some, List.getElem_cons_drop]
set_option maxHeartbeats 1000000 in
set_option maxRecDepth 20000 in
theorem ffault_any (a : Option Addr) (len cap : Nat) (fs : List Fv) (w : World) (hF : FieldsL w a len fs) (hlen : len ≤ 9223372036854775807) :
    Calls Try.prog 25 #[.slice a len cap] w fun e w' => e = .returned (.int .i64 (fault 0 fs : Nat)) ∧ Below w.heap.size w w' := by
  have HF : Hid (FieldsL w a len fs) := hF
  clear hF
  go_enter Try.func25, Try.ntmps25
  go_wp2_with fail
  go_loopw [3, 8] (fun s3 s8 wr => ∃ (k : Nat) (p : Int), k ≤ len ∧ s8 = .int .i64 k ∧ s3 = .int .i64 p ∧ fault 0 fs = fault p (fs.drop k) ∧ Below w.heap.size w wr) (fun _ s8 _ => len - (intOf s8).toNat)
  case atStart => exact ⟨0, 0, by omega, rfl, rfl, rfl, Below.refl _ _⟩
  case round =>
    obtain ⟨k, p, hk, rfl, rfl, hfa, hB⟩ := hrel
    have HB : Hid (Below w.heap.size w wr) := hB
    have HFA : Is (fault 0 fs) (fault p (fs.drop k)) := ⟨hfa⟩
    have hsz := hB.size
    clear hB hfa
    by_cases hlt : k < len
    · obtain ⟨b, off, rfl, hc⟩ : ∃ b off, a = some ⟨b, off, none⟩ ∧ ∀ i, i < len → FieldAt w b (off + i * 4) (fs.getD i fv0) := by
        rcases HF.out.2.2 with h | h
        · omega
        · exact h
      have hbl : b < w.heap.size := block_lt_of_cell (hc k hlt).tag
      obtain ⟨c0, c1, c2, c3⟩ := (hc k hlt).below HB.out hbl
      have HNX : Is (fs.drop k) (fs.getD k fv0 :: fs.drop (k + 1)) := ⟨drop_getD fs k (by rw [HF.out.1]; exact hlt)⟩
      rw [HNX.eq] at HFA
      clear hc HNX
      generalize fs.getD k fv0 = f at *
      have i0 : (k : Int) < (len : Int) := by omega
      have j0 : (0 : Int) ≤ (k : Int) := Int.natCast_nonneg _
      have HBX : Hid (Below w.heap.size w (boxed wr f)) := HB.out.trans (((Below.refl _ wr).alloc (Nat.le_refl _) _).mono hsz)
      by_cases hm : May f
      · by_cases h2 : 4096 < f.s.size
        · rw [fault_long hm h2] at HFA
          have h2' : (4096 : Int) < (f.s.size : Int) := by omega
          go_wp2_with (first | (go_at_call 30; refine (may_yes f hm _).mono ?_; rintro e w1 ⟨rfl, hB1⟩; obtain ⟨d0, d1, d2, d3⟩ := (box_at wr f).below hB1 (by simp); simp only [Nat.zero_add] at d0 d1 d2 d3))
          go_ret
          exact ⟨by rw [HFA.eq]; rfl, HBX.out.trans (hB1.mono (by simp; omega))⟩
        · have h2' : ¬ (4096 : Int) < (f.s.size : Int) := by omega
          by_cases h3 : f.tag < p
          · rw [fault_state hm h2 h3] at HFA
            go_wp2_with (first | (go_at_call 30; refine (may_yes f hm _).mono ?_; rintro e w1 ⟨rfl, hB1⟩; obtain ⟨d0, d1, d2, d3⟩ := (box_at wr f).below hB1 (by simp); simp only [Nat.zero_add] at d0 d1 d2 d3))
            go_ret
            exact ⟨by rw [HFA.eq]; rfl, HBX.out.trans (hB1.mono (by simp; omega))⟩
          · rw [fault_next hm h2 h3] at HFA
            go_wp2_with (first | (go_at_call 30; refine (may_yes f hm _).mono ?_; rintro e w1 ⟨rfl, hB1⟩; obtain ⟨d0, d1, d2, d3⟩ := (box_at wr f).below hB1 (by simp); simp only [Nat.zero_add] at d0 d1 d2 d3))
            go_roundw
            case rel => exact ⟨k + 1, f.tag, by omega, by go_num, rfl, HFA.eq, HBX.out.trans (hB1.mono (by simp; omega))⟩
            case measure => (simp [intOf]) <;> omega
      · rw [fault_arg hm] at HFA
        go_wp2_with (first | (go_at_call 30; refine (may_no f hm _).mono ?_; rintro e w1 ⟨rfl, hB1⟩))
        go_ret
        exact ⟨by rw [HFA.eq]; rfl, HBX.out.trans (hB1.mono (by simp; omega))⟩
    · have i0 : ¬ (k : Int) < (len : Int) := by omega
      have HE : Is (fs.drop k) [] := ⟨List.drop_eq_nil_of_le (by rw [HF.out.1]; omega)⟩
      rw [HE.eq] at HFA
      go_wp2
      go_ret
      exact ⟨by rw [HFA.eq]; rfl, HB.out⟩
end Go.Proofs.Ytpbobmhffdmmmaa
