/- Proved: what slot's small tests and sizes answer (stage 11). -/
import Derived.Test.YtoinaplmgffkpaaBase
namespace Go.Proofs.Ytoinaplmgffkpaa
open Go.RowKit
open Sl (Cel Nod)
theorem isKey_any (s : ByteArray) (w : World) (hs : s.size ≤ 9223372036854775807) :
    Calls Try.prog 38 #[.string s] w fun e w' => e = .returned (.bool (Sl.isKey s)) ∧ w' = w := by
  unfold Sl.isKey
  by_cases h1 : 1 ≤ s.size
  · have d1 : decide ((1 : Int) ≤ (s.size : Int)) = true := by simp; omega
    by_cases h2 : s.size ≤ 140
    · have d2 : decide ((s.size : Int) ≤ 140) = true := by simp; omega
      go_enter Try.func38, Try.ntmps38
      go_wp2
      go_ret
      exact ⟨by simp [h1, h2], rfl⟩
    · have d2 : decide ((s.size : Int) ≤ 140) = false := by simp; omega
      go_enter Try.func38, Try.ntmps38
      go_wp2
      go_ret
      exact ⟨by simp [h1, h2], rfl⟩
  · have d1 : decide ((1 : Int) ≤ (s.size : Int)) = false := by simp; omega
    go_enter Try.func38, Try.ntmps38
    go_wp2
    go_ret
    exact ⟨by simp [h1], rfl⟩
theorem isPage_any (i : Int) (w : World) :
    Calls Try.prog 76 #[.int .i64 i] w fun e w' => e = .returned (.bool (Sl.isPage i)) ∧ w' = w := by
  unfold Sl.isPage
  by_cases h1 : 1 ≤ i
  · by_cases h2 : i ≤ 2147483647
    · go_enter Try.func76, Try.ntmps76
      go_wp2
      go_ret
      exact ⟨by simp [h1, h2], rfl⟩
    · go_enter Try.func76, Try.ntmps76
      go_wp2
      go_ret
      exact ⟨by simp [h2], rfl⟩
  · have e1 : decide (1 ≤ i) = false := by simp; omega
    rw [e1, Bool.false_and]
    go_enter Try.func76, Try.ntmps76
    go_wp2
    go_ret
    exact ⟨rfl, rfl⟩
theorem keyOf_any (c : Cel) (w : World) :
    Calls Try.prog 68 #[cv c] w fun e w' => e = .returned (.string c.key) ∧ Below w.heap.size w w' := by
  obtain ⟨ck, cx, co, cl⟩ := c
  unfold cv
  go_enter Try.func68, Try.ntmps68
  go_wp2
  go_ret
  exact ⟨rfl, below_alloc _ _⟩
def csize (c : Cel) : Nat := if c.over = 0 then 3 + c.key.size + c.val.size else 10 + c.key.size
theorem cellSize_any (c : Cel) (w : World) (hc : CelFit c) :
    Calls Try.prog 58 #[cv c] w fun e w' => e = .returned (.int .i64 (csize c : Int)) ∧ Below w.heap.size w w' := by
  obtain ⟨h1, h2, _, _⟩ := hc
  obtain ⟨ck, cx, co, cl⟩ := c
  unfold cv csize
  simp only at h1 h2 ⊢
  by_cases h0 : co = 0
  · subst h0
    go_enter Try.func58, Try.ntmps58
    go_wp2
    go_ret
    exact ⟨rfl, below_alloc _ _⟩
  · have h0' : (co == 0) = false := by simpa using h0
    go_enter Try.func58, Try.ntmps58
    go_wp2
    go_ret
    exact ⟨rfl, below_alloc _ _⟩
theorem keySize_any (s : ByteArray) (w : World) (hs : s.size ≤ 140737488355328) :
    Calls Try.prog 60 #[.string s] w fun e w' => e = .returned (.int .i64 ((5 + s.size : Nat) : Int)) ∧ w' = w := by
  go_enter Try.func60, Try.ntmps60
  go_wp2
  go_ret
  exact ⟨by congr 2, rfl⟩
theorem between_any (n : Nod) (p : Pt) (w : World) :
    Calls Try.prog 33 #[nv n p] w fun e w' => e = .returned (.int .i64 (if n.leaf then 0 else 1)) ∧ Below w.heap.size w w' := by
  obtain ⟨lf, cs, ks, ds⟩ := n
  obtain ⟨a1, c1, a2, c2, a3, c3⟩ := p
  unfold nv
  cases lf with
  | true =>
    go_enter Try.func33, Try.ntmps33
    go_wp2
    go_ret
    exact ⟨rfl, below_alloc _ _⟩
  | false =>
    go_enter Try.func33, Try.ntmps33
    go_wp2
    go_ret
    exact ⟨rfl, below_alloc _ _⟩
theorem value_any (c : Cel) (w : World) (hc : CelFit c) :
    Calls Try.prog 74 #[cv c] w fun e w' => e = .returned (.bool (Sl.valOk c)) ∧ Below w.heap.size w w' := by
  obtain ⟨h1, h2, _, _⟩ := hc
  obtain ⟨ck, cx, co, cl⟩ := c
  unfold cv
  simp only at h1 h2 ⊢
  have hP := fun W => isPage_any co W
  by_cases h0 : co = 0
  · subst h0
    by_cases h3 : cl = 0
    · subst h3
      by_cases h4 : ck.size + cx.size ≤ 157
      · have e : Sl.valOk ⟨ck, cx, 0, 0⟩ = true := by simp [Sl.valOk, h4]
        have h5 : (ck.size : Int) + (cx.size : Int) ≤ 157 := by omega
        rw [e]
        go_enter Try.func74, Try.ntmps74
        go_wp2
        go_ret
        exact ⟨rfl, below_alloc _ _⟩
      · have e : Sl.valOk ⟨ck, cx, 0, 0⟩ = false := by simp [Sl.valOk]; omega
        have h5 : ¬ (ck.size : Int) + (cx.size : Int) ≤ 157 := by omega
        rw [e]
        go_enter Try.func74, Try.ntmps74
        go_wp2
        go_ret
        exact ⟨rfl, below_alloc _ _⟩
    · have e : Sl.valOk ⟨ck, cx, 0, cl⟩ = false := by simp [Sl.valOk, h3]
      have h3' : (cl == 0) = false := by simpa using h3
      rw [e]
      go_enter Try.func74, Try.ntmps74
      go_wp2
      go_ret
      exact ⟨rfl, below_alloc _ _⟩
  · have h0' : (co == 0) = false := by simpa using h0
    have e : Sl.valOk ⟨ck, cx, co, cl⟩ = (Sl.isPage co && (decide (0 ≤ cl) && (decide (cl ≤ 16384) && decide (cx = ByteArray.empty)))) := by simp [Sl.valOk, h0]
    rw [e]
    clear e
    generalize hpe : Sl.isPage co = q at *
    by_cases h3 : q = true
    · subst h3
      by_cases h4 : 0 ≤ cl
      · by_cases h5 : cl ≤ 16384
        · by_cases h6 : cx = ByteArray.empty
          · subst h6
            have h6' : ByteArray.empty.toList.isEmpty = true := by rw [ByteArray.toList_eq]; rfl
            have e : (true && (decide (0 ≤ cl) && (decide (cl ≤ 16384) && decide (ByteArray.empty = ByteArray.empty)))) = true := by simp [h4, h5]
            rw [e]
            clear e
            go_enter Try.func74, Try.ntmps74
            go_wp2_with fail
            refine (hP _).mono ?_
            rintro e w' ⟨rfl, rfl⟩
            go_wp2
            go_ret
            exact ⟨rfl, below_alloc _ _⟩
          · have h6' : cx.toList.isEmpty = false := by
              rw [ByteArray.toList_eq]
              cases h7 : cx.data.toList with
              | nil => exact absurd (Sl.ba_ext (b := ByteArray.empty) h7) h6
              | cons a l => rfl
            have e : (true && (decide (0 ≤ cl) && (decide (cl ≤ 16384) && decide (cx = ByteArray.empty)))) = false := by simp [h6]
            rw [e]
            clear e
            go_enter Try.func74, Try.ntmps74
            go_wp2_with fail
            refine (hP _).mono ?_
            rintro e w' ⟨rfl, rfl⟩
            go_wp2
            go_ret
            exact ⟨rfl, below_alloc _ _⟩
        · have e : (true && (decide (0 ≤ cl) && (decide (cl ≤ 16384) && decide (cx = ByteArray.empty)))) = false := by simp [h5]
          rw [e]
          clear e
          go_enter Try.func74, Try.ntmps74
          go_wp2_with fail
          refine (hP _).mono ?_
          rintro e w' ⟨rfl, rfl⟩
          go_wp2
          go_ret
          exact ⟨rfl, below_alloc _ _⟩
      · have e : (true && (decide (0 ≤ cl) && (decide (cl ≤ 16384) && decide (cx = ByteArray.empty)))) = false := by simp [h4]
        rw [e]
        clear e
        go_enter Try.func74, Try.ntmps74
        go_wp2_with fail
        refine (hP _).mono ?_
        rintro e w' ⟨rfl, rfl⟩
        go_wp2
        go_ret
        exact ⟨rfl, below_alloc _ _⟩
    · obtain rfl : q = false := by simpa using h3
      rw [Bool.false_and]
      go_enter Try.func74, Try.ntmps74
      go_wp2_with fail
      refine (hP _).mono ?_
      rintro e w' ⟨rfl, rfl⟩
      go_wp2
      go_ret
      exact ⟨rfl, below_alloc _ _⟩
end Go.Proofs.Ytoinaplmgffkpaa
