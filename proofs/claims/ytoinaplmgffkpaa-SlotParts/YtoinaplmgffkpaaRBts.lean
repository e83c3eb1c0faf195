/- Proved: how long the texts are that the document's text and four tell (stage 11). -/
import Derived.Test.YtoinaplmgffkpaaEnc
namespace Go.Proofs.Ytoinaplmgffkpaa
open Go.RowKit
open Sl (Cel Nod)
structure Long (w : World) (n : Nat) (e : Ending) (w' : World) : Prop where
  ex : ∃ t : ByteArray, e = .returned (.string t) ∧ t.size = n ∧ Below w.heap.size w w'
theorem row_own (w : World) (vs : List Nat) (hl : vs.length ≤ 1000) (h0 : 0 < vs.length) : (w.alloc (.cells (vs.map V8).toArray 5)).ownsRow w.heap.size 5 1 (.slice (some ⟨w.heap.size, 0, none⟩) vs.length vs.length) vs.length (vs.map V8) := by
  refine ⟨by simp, .inr ⟨w.heap.size, vs.length, (vs.map V8).toArray, rfl, Nat.le_refl _, heap_alloc_new w _, Nat.le_refl _, ?_, ?_, ?_⟩⟩
  · unfold maxLen; omega
  · simp
  · simp
    exact List.take_of_length_le (by simp)
set_option maxRecDepth 20000 in
theorem rtext_any (s : ByteArray) (w : World) (hs : s.size ≤ 255) :
    Calls Try.prog 65 #[.string s] w (Long w (s.size + 1)) := by
  have i0 : (s.size : Int) ≤ 255 := by omega
  have i1 : (s.size : Int) % 256 = (s.size : Int) := by omega
  have hcv := str_of_own (one_own w (s.size : Int) s.size rfl) (fun x hx => by rw [List.mem_singleton.1 hx]; omega)
  have HZ : Hid ((tb [s.size] ++ s).size = s.size + 1) := by
    show (tb [s.size] ++ s).size = s.size + 1
    rw [ByteArray.size_append, tb_size, List.length_singleton]; omega
  have h9 : ¬ 9223372036854775807 < (tb [s.size]).size + s.size := by rw [tb_size, List.length_singleton]; omega
  generalize tb [s.size] = S1 at *
  go_enter Try.func65, Try.ntmps65
  go_wp2
  go_ret
  exact ⟨⟨_, rfl, HZ.out, below_alloc _ _⟩⟩
theorem four_cv (x : Nat) (w : World) : ∃ t : ByteArray, t.size = 4 ∧ (convert 71 9 (.slice (some ⟨w.heap.size, 0, none⟩) 4 4)).run Try.prog (w.alloc (.cells #[.int .u8 ((x : Int) % 256), .int .u8 ((x : Int) / 256 % 256), .int .u8 ((x : Int) / 65536 % 256), .int .u8 ((x : Int) / 16777216 % 256)] 5)) = .ok (.string t) (w.alloc (.cells #[.int .u8 ((x : Int) % 256), .int .u8 ((x : Int) / 256 % 256), .int .u8 ((x : Int) / 65536 % 256), .int .u8 ((x : Int) / 16777216 % 256)] 5)) := by
  have h := str_of_own (row_own w [x % 256, x / 256 % 256, x / 65536 % 256, x / 16777216 % 256] (by simp) (by simp)) (fun y hy => by
    simp only [List.mem_cons, List.not_mem_nil, or_false] at hy
    rcases hy with rfl | rfl | rfl | rfl <;> omega)
  exact ⟨tb [x % 256, x / 256 % 256, x / 65536 % 256, x / 16777216 % 256], by rw [tb_size]; rfl, h⟩
set_option maxRecDepth 20000 in
theorem rfour_any (x : Nat) (w : World) (hx : x ≤ 4294967295) :
    Calls Try.prog 66 #[.int .i64 (x : Int)] w (Long w 4) := by
  obtain ⟨t, ht, hcv⟩ := four_cv x w
  have HT : Hid (t.size = 4) := ht
  clear ht
  have i0 : (x : Int) ≤ 4294967295 := by omega
  have i2 : (0 : Int) ≤ (x : Int) := by omega
  go_enter Try.func66, Try.ntmps66
  go_wp2
  go_ret
  exact ⟨⟨t, rfl, HT.out, below_alloc _ _⟩⟩
end Go.Proofs.Ytoinaplmgffkpaa
