/- Proved: what a disk with power that is not armed makes of writes and flushes. No program is named. -/
import Derived.Test.YtbhbfnnlpkikbaaMath
namespace Go.Proofs.Ytbhbfnnlpkikbaa
/- a disk of n sectors that has power and is not armed -/
structure Live (n : Nat) (s : Sc.St) : Prop where
  down : s.down = false
  left : s.left = -1
  len : s.kept.length = n
theorem Live.write {n : Nat} {s : Sc.St} (h : Live n s) {i : Int} (h0 : 0 ≤ i) (hn : i < (n : Int)) {x : ByteArray} (hx : x.size ≤ 64) : Sc.writeS s i x = Sc.put s i.toNat x ∧ Live n (Sc.writeS s i x) ∧ Sc.writeE s i x = 0 := by
  have hh : Sc.has s i = true := Sc.has_iff.2 ⟨h0, by rw [h.len]; exact hn⟩
  have hx' : ¬ 64 < x.size := by omega
  have hl : ¬ s.left = 0 := by have := h.left; omega
  have e : Sc.writeS s i x = Sc.put s i.toNat x := by
    unfold Sc.writeS
    simp only [h.down, hh, hx', hl, if_false, Bool.false_eq_true, Bool.true_eq_false]
  refine ⟨e, ?_, ?_⟩
  · rw [e]
    refine ⟨h.down, ?_, h.len⟩
    simp only [Sc.put, Sc.spent, h.left]
    decide
  · unfold Sc.writeE
    simp only [h.down, hh, hx', hl, if_false, Bool.false_eq_true, Bool.true_eq_false]
theorem Live.flush {n : Nat} {s : Sc.St} (h : Live n s) : Sc.flushS s = Sc.flushed s ∧ Live n (Sc.flushS s) ∧ Sc.flushE s = 0 := by
  have hl : ¬ s.left = 0 := by have := h.left; omega
  have e : Sc.flushS s = Sc.flushed s := by
    unfold Sc.flushS
    simp only [h.down, hl, if_false, Bool.false_eq_true]
  refine ⟨e, ?_, ?_⟩
  · rw [e]
    refine ⟨h.down, ?_, by simp only [Sc.flushed, Sc.keepI_length]; exact h.len⟩
    simp only [Sc.flushed, Sc.spent, h.left]
    decide
  · unfold Sc.flushE
    simp only [h.down, hl, if_false, Bool.false_eq_true]
end Go.Proofs.Ytbhbfnnlpkikbaa
