/- Proved: isTag and mayBe answer whether a field may be. -/
import Derived.Test.YtpbobmhffdmmmaaAField
namespace Go.Proofs.Ytpbobmhffdmmmaa
open Go.RowKit
/- may be, but for the length of its text -/
def May (f : Fv) : Prop := 1 ≤ f.tag ∧ f.tag ≤ 63 ∧ ((f.kind = 0 ∧ 0 ≤ f.n ∧ f.n ≤ 4611686018427387904 ∧ f.s = ByteArray.empty) ∨ (f.kind = 1 ∧ f.n = 0))
theorem nonempty_text {x : ByteArray} (h : x ≠ ByteArray.empty) : x.toList.isEmpty = false := by
  rw [ByteArray.toList_eq]
  cases e : x.data.toList with
  | nil => exact absurd ((bl_nil_iff x).1 (by unfold bl; rw [e]; rfl)) h
  | cons a l => rfl
theorem istag_yes (z : Int) (h1 : 1 ≤ z) (h2 : z ≤ 63) (w : World) : Calls Try.prog 36 #[.int .i64 z] w fun e w' => e = .returned (.bool true) ∧ w' = w := by
  have d1 : decide (1 ≤ z) = true := by simp; omega
  have d2 : decide (z ≤ 63) = true := by simp; omega
  go_enter Try.func36, Try.ntmps36
  go_wp2
  go_ret
  exact ⟨rfl, rfl⟩
theorem istag_no (z : Int) (h : ¬ (1 ≤ z ∧ z ≤ 63)) (w : World) : Calls Try.prog 36 #[.int .i64 z] w fun e w' => e = .returned (.bool false) ∧ w' = w := by
  by_cases h1 : 1 ≤ z
  · have d1 : decide (1 ≤ z) = true := by simp; omega
    have d2 : decide (z ≤ 63) = false := by simp; omega
    go_enter Try.func36, Try.ntmps36
    go_wp2
    go_ret
    exact ⟨rfl, rfl⟩
  · have d1 : decide (1 ≤ z) = false := by simp; omega
    go_enter Try.func36, Try.ntmps36
    go_wp2
    go_ret
    exact ⟨rfl, rfl⟩
theorem may_yes (f : Fv) (h : May f) (w : World) : Calls Try.prog 30 #[.agg #[.int .i64 f.tag, .int .i64 f.kind, .int .i64 f.n, .string f.s]] w fun e w' => e = .returned (.bool true) ∧ Below w.heap.size w w' := by
  obtain ⟨h1, h2, h3⟩ := h
  obtain ⟨ft, fk, fn, fx⟩ := f
  simp only at h1 h2 h3 ⊢
  rcases h3 with ⟨rfl, a, b, rfl⟩ | ⟨rfl, rfl⟩
  · have d1 : decide (0 ≤ fn) = true := by simp; omega
    have d2 : decide (fn ≤ 4611686018427387904) = true := by simp; omega
    go_enter Try.func30, Try.ntmps30
    go_wp2_with (first | (go_at_call 36; refine (istag_yes _ h1 h2 _).mono ?_; rintro e w1 ⟨rfl, rfl⟩))
    go_ret
    exact ⟨rfl, (Below.refl _ _).alloc (Nat.le_refl _) _⟩
  · go_enter Try.func30, Try.ntmps30
    go_wp2_with (first | (go_at_call 36; refine (istag_yes _ h1 h2 _).mono ?_; rintro e w1 ⟨rfl, rfl⟩))
    go_ret
    exact ⟨rfl, (Below.refl _ _).alloc (Nat.le_refl _) _⟩
theorem may_no (f : Fv) (h : ¬ May f) (w : World) : Calls Try.prog 30 #[.agg #[.int .i64 f.tag, .int .i64 f.kind, .int .i64 f.n, .string f.s]] w fun e w' => e = .returned (.bool false) ∧ Below w.heap.size w w' := by
  unfold May at h
  obtain ⟨ft, fk, fn, fx⟩ := f
  simp only at h ⊢
  by_cases h1 : 1 ≤ ft ∧ ft ≤ 63
  · obtain ⟨h1, h2⟩ := h1
    by_cases h0 : fk = 0
    · subst h0
      by_cases a : 0 ≤ fn
      · have d1 : decide (0 ≤ fn) = true := by simp; omega
        by_cases b : fn ≤ 4611686018427387904
        · have d2 : decide (fn ≤ 4611686018427387904) = true := by simp; omega
          have hs : fx ≠ ByteArray.empty := fun e => h ⟨h1, h2, .inl ⟨rfl, a, b, e⟩⟩
          have hs' : fx.toList.isEmpty = false := nonempty_text hs
          clear h
          go_enter Try.func30, Try.ntmps30
          go_wp2_with (first | (go_at_call 36; refine (istag_yes _ h1 h2 _).mono ?_; rintro e w1 ⟨rfl, rfl⟩))
          go_ret
          exact ⟨rfl, (Below.refl _ _).alloc (Nat.le_refl _) _⟩
        · have d2 : decide (fn ≤ 4611686018427387904) = false := by simp; omega
          clear h
          go_enter Try.func30, Try.ntmps30
          go_wp2_with (first | (go_at_call 36; refine (istag_yes _ h1 h2 _).mono ?_; rintro e w1 ⟨rfl, rfl⟩))
          go_ret
          exact ⟨rfl, (Below.refl _ _).alloc (Nat.le_refl _) _⟩
      · have d1 : decide (0 ≤ fn) = false := by simp; omega
        clear h
        go_enter Try.func30, Try.ntmps30
        go_wp2_with (first | (go_at_call 36; refine (istag_yes _ h1 h2 _).mono ?_; rintro e w1 ⟨rfl, rfl⟩))
        go_ret
        exact ⟨rfl, (Below.refl _ _).alloc (Nat.le_refl _) _⟩
    · by_cases h01 : fk = 1
      · subst h01
        have a : (fn == 0) = false := by simpa using fun e => h ⟨h1, h2, .inr ⟨rfl, e⟩⟩
        clear h
        go_enter Try.func30, Try.ntmps30
        go_wp2_with (first | (go_at_call 36; refine (istag_yes _ h1 h2 _).mono ?_; rintro e w1 ⟨rfl, rfl⟩))
        go_ret
        exact ⟨rfl, (Below.refl _ _).alloc (Nat.le_refl _) _⟩
      · clear h
        go_enter Try.func30, Try.ntmps30
        go_wp2_with (first | (go_at_call 36; refine (istag_yes _ h1 h2 _).mono ?_; rintro e w1 ⟨rfl, rfl⟩))
        go_ret
        exact ⟨rfl, (Below.refl _ _).alloc (Nat.le_refl _) _⟩
  · clear h
    go_enter Try.func30, Try.ntmps30
    go_wp2_with (first | (go_at_call 36; refine (istag_no _ h1 _).mono ?_; rintro e w1 ⟨rfl, rfl⟩))
    go_ret
    exact ⟨rfl, (Below.refl _ _).alloc (Nat.le_refl _) _⟩
end Go.Proofs.Ytpbobmhffdmmmaa
