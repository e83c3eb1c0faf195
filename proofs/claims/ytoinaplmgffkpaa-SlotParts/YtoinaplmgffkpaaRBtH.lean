/- Proved: lemmas for the length of the document's bytes (stage 11). -/
import Derived.Test.YtoinaplmgffkpaaRBts
import Derived.Test.YtoinaplmgffkpaaMathK
namespace Go.Proofs.Ytoinaplmgffkpaa
open Go.RowKit
open Sl (Cel Nod)
theorem conv_one {W : World} {X n : Nat} (h : Brow W X [.int .u8 (n : Int)] 5) (hn : n < 256) : (convert 71 9 (.slice (some ⟨X, 0, none⟩) 1 1)).run Try.prog W = .ok (.string (tb [n])) W := by
  refine str_of_own (N := 0) (n := 1) (vs := [n]) ⟨by simp, .inr ⟨X, 1, _, rfl, Nat.zero_le _, h.row, Nat.le_refl _, ?_, ?_, ?_⟩⟩ (fun x hx => by rw [List.mem_singleton.1 hx]; exact hn)
  · unfold maxLen; omega
  · simp
  · simp [V8]
theorem cat_ok {a b : ByteArray} (ha : a.size ≤ 1000000) (hb : b.size ≤ 1000000) : ¬ 9223372036854775807 < a.size + b.size := by omega
theorem sum_le {l : List Nat} {B : Nat} (h : ∀ x ∈ l, x ≤ B) : sumN l ≤ l.length * B := by
  induction l with
  | nil => simp [sumN]
  | cons a l ih =>
    have h1 := h a (by simp)
    have h2 := ih (fun x hx => h x (by simp [hx]))
    rw [sumN, List.length_cons, Nat.add_mul]
    omega
theorem csum_le {cs : List Cel} (h : ∀ c ∈ cs, celOk c = true) (hl : cs.length ≤ 255) (k : Nat) : sumN ((cs.take k).map csize) ≤ 40800 := by
  have h1 := sum_le (l := (cs.take k).map csize) (B := 160) (fun x hx => by
    obtain ⟨c, hc, rfl⟩ := List.mem_map.1 hx
    exact celOk_size (h c (List.mem_of_mem_take hc)))
  rw [List.length_map, List.length_take] at h1
  omega
theorem ksum_le {ks : List ByteArray} (h : ∀ k ∈ ks, k.size ≤ 140) (hl : ks.length ≤ 255) (k : Nat) : sumN ((ks.take k).map fun x => 5 + x.size) ≤ 36975 := by
  have h1 := sum_le (l := (ks.take k).map fun x => 5 + x.size) (B := 145) (fun x hx => by
    obtain ⟨c, hc, rfl⟩ := List.mem_map.1 hx
    have := h c (List.mem_of_mem_take hc)
    omega)
  rw [List.length_map, List.length_take] at h1
  omega
end Go.Proofs.Ytoinaplmgffkpaa
