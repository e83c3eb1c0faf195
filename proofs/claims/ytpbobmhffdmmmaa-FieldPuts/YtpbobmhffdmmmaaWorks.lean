/- Proved: the laws' example (the chapter's) comes out as it says. -/
import Derived.Test.YtpbobmhffdmmmaaDec
import Derived.Test.YtpbobmhffdmmmaaOwn
namespace Go.Proofs.Ytpbobmhffdmmmaa
open Go.RowKit
theorem Good.fits {f : Fv} (h : Good f) : f.Fits := by
  have h1 := h.tag1; have h2 := h.tag63; have h3 := h.kind; have h4 := h.len
  refine ⟨?_, ?_, ?_, ?_⟩
  · unfold In64; omega
  · unfold In64; omega
  · unfold In64; omega
  · omega
def ex1 : Fv := ⟨1, 0, 300, ByteArray.empty⟩
def ex2 : Fv := ⟨2, 1, 0, ⟨#[97, 98]⟩⟩
theorem ex1_good : Good ex1 := ⟨by decide, by decide, by decide, .inl ⟨rfl, by decide, by decide, rfl⟩⟩
theorem ex2_good : Good ex2 := ⟨by decide, by decide, by decide, .inr ⟨rfl, rfl⟩⟩
theorem ex_fault : fault 0 [ex1, ex2] = 0 := by
  rw [fault_next ex1_good.may (by decide) (by decide), fault_next ex2_good.may (by decide) (by decide)]
  rfl
theorem ex_enc : enc [ex1, ex2] = [2, 172, 2, 5, 2, 97, 98] := by
  have h1 : Fi.varint 300 = [172, 2] := by rw [Fi.varint_large (by omega), Fi.varint_small (by omega)]
  have h2 : Fi.varint 2 = [2] := Fi.varint_small (by omega)
  have e1 : Fi.fb (fd ex1) = 2 :: Fi.varint 300 := fb_num 1 300
  have e2 : Fi.fb (fd ex2) = 5 :: (Fi.varint 2 ++ [97, 98]) := fb_text 2 ⟨#[97, 98]⟩
  rw [enc_cons, enc_cons, e1, e2, h1, h2]
  rfl
theorem ex_encE : encE [ex1, ex2] = 0 := by
  unfold encE
  rw [if_neg (by rw [ex_fault]; simp), if_neg (by rw [ex_enc]; decide)]
theorem ex_encS : encS [ex1, ex2] = ⟨#[2, 172, 2, 5, 2, 97, 98]⟩ := by
  unfold encS
  rw [if_pos ex_encE, ex_enc]
  rfl
def ex3 : Fv := ⟨2, 0, 1, ByteArray.empty⟩
def ex4 : Fv := ⟨1, 0, 1, ByteArray.empty⟩
theorem ex_dec : ∀ l, ¬ Dec (bl ⟨#[4, 1, 2, 1]⟩) l := by
  have h1 : Fi.varint 1 = [1] := Fi.varint_small (by omega)
  have e3 : Fi.fb (fd ex3) = 4 :: Fi.varint 1 := fb_num 2 1
  have e4 : Fi.fb (fd ex4) = 2 :: Fi.varint 1 := fb_num 1 1
  have g3 : Good ex3 := ⟨by decide, by decide, by decide, .inl ⟨rfl, by decide, by decide, rfl⟩⟩
  have g4 : Good ex4 := ⟨by decide, by decide, by decide, .inl ⟨rfl, by decide, by decide, rfl⟩⟩
  refine dec_falls (pre := [ex3]) (f := ex4) (rest := []) ⟨fun f hf => ?_, ?_⟩ (by decide)
  · rcases List.mem_cons.1 hf with rfl | hf
    · exact g3
    · rw [List.mem_singleton.1 hf]; exact g4
  · show _ = enc [ex3, ex4] ++ []
    rw [enc_cons, enc_cons, e3, e4, h1]
    rfl
set_option maxHeartbeats 1000000 in
set_option maxRecDepth 20000 in
theorem works_any (w : World) : Calls Try.prog 12 #[] w fun e w' => e = .returned (.bool true) ∧ Below w.heap.size w w' := by
  have HF : FieldsL (w.alloc (.cells #[.int .i64 1, .int .i64 0, .int .i64 300, .string ⟨#[]⟩, .int .i64 2, .int .i64 1, .int .i64 0, .string ⟨#[97, 98]⟩] 38)) (some ⟨w.heap.size, 0, none⟩) 2 [ex1, ex2] :=
    fieldsL_block (fs := [ex1, ex2]) (heap_alloc_new w _) rfl (fun f hf => by
      rcases List.mem_cons.1 hf with rfl | hf
      · exact ex1_good.fits
      · rw [List.mem_singleton.1 hf]; exact ex2_good.fits)
  have HE := enc_any _ 2 2 _ _ HF (by omega)
  rw [ex_encS, ex_encE] at HE
  clear HF
  go_enter Try.func12, Try.ntmps12
  go_wp2_with fail
  refine HE.mono ?_
  clear HE
  rintro e w1 ⟨rfl, hB1⟩
  have HB1 : Hid (Below w.heap.size w w1) := ((Below.refl w.heap.size w).alloc (Nat.le_refl _) _).trans (hB1.mono (by simp))
  have hs1 := HB1.out.size
  clear hB1
  go_wp2_with fail
  refine (dec_any ⟨#[4, 1, 2, 1]⟩ w1 (by decide)).mono ?_
  rintro e w2 (⟨l, v, hd, _⟩ | ⟨_, rfl, hB2⟩)
  · exact absurd hd (ex_dec l)
  have HB2 : Hid (Below w1.heap.size w1 w2) := hB2
  clear hB2
  go_wp2_with fail
  go_ret
  exact ⟨rfl, HB1.out.trans (HB2.out.mono hs1)⟩
end Go.Proofs.Ytpbobmhffdmmmaa
