/- Proved: plain facts on three rows of bytes of one length: the sum of what they come to, bit by bit, is what their sums come to. No program in it. -/
import Derived.Test.YtojgjgldheenkaaDoorMathB
namespace Crc
def mix : List Nat → List Nat → List Nat → List Nat
  | x :: xs, y :: ys, z :: zs => (x ^^^ y ^^^ z) :: mix xs ys zs
  | _, _, _ => []
theorem mix_length : ∀ (xs ys zs : List Nat), ys.length = xs.length → zs.length = xs.length → (mix xs ys zs).length = xs.length
  | [], _, _, _, _ => by simp [mix]
  | x :: xs, [], _, h, _ => by simp at h
  | x :: xs, y :: ys, [], _, h => by simp at h
  | x :: xs, y :: ys, z :: zs, h1, h2 => by
    simp only [mix, List.length_cons]
    rw [mix_length xs ys zs (by simpa using h1) (by simpa using h2)]
theorem mix_getD : ∀ (xs ys zs : List Nat), ys.length = xs.length → zs.length = xs.length → ∀ i, i < xs.length → (mix xs ys zs).getD i 0 = xs.getD i 0 ^^^ ys.getD i 0 ^^^ zs.getD i 0
  | [], _, _, _, _, i, hi => by simp at hi
  | x :: xs, [], _, h, _, _, _ => by simp at h
  | x :: xs, y :: ys, [], _, h, _, _ => by simp at h
  | x :: xs, y :: ys, z :: zs, h1, h2, 0, _ => rfl
  | x :: xs, y :: ys, z :: zs, h1, h2, i + 1, hi => by
    have := mix_getD xs ys zs (by simpa using h1) (by simpa using h2) i (by simpa using hi)
    simpa [mix, List.getD] using this
theorem mix_lt : ∀ (xs ys zs : List Nat), (∀ x ∈ xs, x < 256) → (∀ x ∈ ys, x < 256) → (∀ x ∈ zs, x < 256) → ∀ x ∈ mix xs ys zs, x < 256
  | [], _, _, _, _, _ => by simp [mix]
  | x :: xs, [], _, _, _, _ => by simp [mix]
  | x :: xs, y :: ys, [], _, _, _ => by simp [mix]
  | x :: xs, y :: ys, z :: zs, h1, h2, h3 => by
    intro v hv
    simp only [mix, List.mem_cons] at hv
    rcases hv with hv | hv
    · rw [hv]; exact xor_lt8 (xor_lt8 (h1 x (by simp)) (h2 y (by simp))) (h3 z (by simp))
    · exact mix_lt xs ys zs (fun u hu => h1 u (by simp [hu])) (fun u hu => h2 u (by simp [hu])) (fun u hu => h3 u (by simp [hu])) v hv
theorem xor3 (a b c x y z : Nat) : (a ^^^ b ^^^ c) ^^^ (x ^^^ y ^^^ z) = (a ^^^ x) ^^^ (b ^^^ y) ^^^ (c ^^^ z) := by
  apply Nat.eq_of_testBit_eq
  intro j
  simp only [Nat.testBit_xor]
  cases a.testBit j <;> cases b.testBit j <;> cases c.testBit j <;> cases x.testBit j <;> cases y.testBit j <;> cases z.testBit j <;> rfl
theorem tk3 (a b c x y z : Nat) : tk (a ^^^ b ^^^ c) (x ^^^ y ^^^ z) = tk a x ^^^ tk b y ^^^ tk c z := by
  rw [tk_eq, tk_eq, tk_eq, tk_eq]; unfold rtk; rw [xor3, steps_xor, steps_xor]
theorem fold_mix : ∀ (xs ys zs : List Nat), ys.length = xs.length → zs.length = xs.length → ∀ a b c, fold (a ^^^ b ^^^ c) (mix xs ys zs) = fold a xs ^^^ fold b ys ^^^ fold c zs
  | [], [], [], _, _, _, _, _ => rfl
  | [], y :: ys, _, h, _, _, _, _ => by simp at h
  | [], [], z :: zs, _, h, _, _, _ => by simp at h
  | x :: xs, [], _, h, _, _, _, _ => by simp at h
  | x :: xs, y :: ys, [], _, h, _, _, _ => by simp at h
  | x :: xs, y :: ys, z :: zs, h1, h2, a, b, c => by
    have e : ∀ s v (vs : List Nat), fold s (v :: vs) = fold (tk s v) vs := fun _ _ _ => rfl
    rw [mix, e, e, e, e, tk3]
    exact fold_mix xs ys zs (by simpa using h1) (by simpa using h2) _ _ _
theorem sum_mix (xs ys zs : List Nat) (h1 : ys.length = xs.length) (h2 : zs.length = xs.length) : sum (mix xs ys zs) = sum xs ^^^ sum ys ^^^ sum zs := by
  have h := fold_mix xs ys zs h1 h2 (turn 0) (turn 0) (turn 0)
  rw [Nat.xor_self, Nat.zero_xor] at h
  unfold sum upd
  rw [h]
  have e : ∀ x, turn x = x ^^^ turn 0 := fun x => by unfold turn; rw [Nat.zero_xor]
  rw [e (_ ^^^ _ ^^^ _), e (fold (turn 0) xs), e (fold (turn 0) ys), e (fold (turn 0) zs), ← xor3, Nat.xor_self, Nat.zero_xor]
/- the first k of L, noughts behind them -/
def upTo (L : List Nat) (k : Nat) : List Nat := L.take k ++ List.replicate (L.length - k) 0
theorem upTo_zero (L : List Nat) : upTo L 0 = List.replicate L.length 0 := by simp [upTo]
theorem upTo_all (L : List Nat) : upTo L L.length = L := by simp [upTo]
theorem upTo_set (L : List Nat) (k : Nat) (h : k < L.length) : (upTo L k).set k (L.getD k 0) = upTo L (k + 1) := by
  apply List.ext_getElem?
  intro i
  have hk : (L.take k).length = k := by simp; omega
  rw [List.getElem?_set]
  unfold upTo
  by_cases hik : k = i
  · subst hik
    rw [if_pos rfl, if_pos (by simp; omega), List.getElem?_append_left (by simp; omega), List.getElem?_take_of_lt (by omega), List.getD_eq_getElem?_getD, List.getElem?_eq_getElem h]; rfl
  · rw [if_neg hik]
    by_cases hlt : i < k
    · rw [List.getElem?_append_left (by omega), List.getElem?_append_left (by simp; omega), List.getElem?_take_of_lt hlt, List.getElem?_take_of_lt (by omega)]
    · rw [List.getElem?_append_right (by omega), List.getElem?_append_right (by simp; omega), hk]
      have hk1 : (L.take (k + 1)).length = k + 1 := by simp; omega
      rw [hk1, List.getElem?_replicate, List.getElem?_replicate]
      have e : (i - k < L.length - k) = (i - (k + 1) < L.length - (k + 1)) := by
        apply propext; omega
      simp only [e]
end Crc
