/- Proved: the law ChunkReads answers true, whatever comes in. -/
import Derived.Test.YtefpaebbendnmaaWrites
namespace Go.Proofs.Ytefpaebbendnmaa
open Go.RowKit
open Ck (T wr wrE wrT rd)
theorem bl_get (s : ByteArray) (j : Nat) (h : j < s.size) : (bl s)[j]? = some (s[j]'h) := by
  rw [List.getElem?_eq_getElem (by rw [bl_length]; exact h)]
  rfl
theorem sne (s : ByteArray) : (s.toList != s.toList) = false := by simp
set_option maxHeartbeats 4000000 in
set_option maxRecDepth 20000 in
theorem reads_yes (s : ByteArray) (k : Nat) (d : ByteArray) (w : World) (hs : s.size ≤ 9223372036854775807) (hd : d.size ≤ 9223372036854775807) (h1 : (fewT s).size ≤ 4096) (h2 : k + (fewT d).size ≤ 4096) :
    Calls Try.prog 6 #[.string s, .int .i64 (k : Int), .string d] w fun e w' => e = .returned (.bool true) ∧ Below w.heap.size w w' := by
  have HF1 := (show Hid _ from fun W => few_any s W hs)
  have HF2 := (show Hid _ from fun W => few_any d W hd)
  generalize fewT s = S at *
  generalize fewT d = D at *
  have HW := (show Hid _ from fun W => write_yes S D k W h1 h2)
  have hP : (mk (wr (bl S) k (bl D))).size = max S.size (k + D.size) := by rw [mk_size, Ck.wr_length, bl_length, bl_length]
  have HR := (show Hid _ from fun W => read_yes (mk (wr (bl S) k (bl D))) k D.size W (by omega) (by omega) (by omega))
  have e : mk (rd (bl (mk (wr (bl S) k (bl D)))) k D.size) = D := by
    rw [bl_mk, ← bl_length, Ck.rd_wr, mk_bl]
  rw [e] at HR
  have HG : Hid (∀ j, j < (mk (wr (bl S) k (bl D))).size → (j < k ∨ k + D.size ≤ j) → (bl (mk (wr (bl S) k (bl D))))[j]? = some ((bl S).getD j 0)) := fun j hj h => by
    rw [bl_mk]
    exact Ck.wr_get _ _ _ _ (by rw [← mk_size]; exact hj) (by rw [bl_length]; exact h)
  have HX := (show Hid _ from fun W => works_any W)
  generalize mk (wr (bl S) k (bl D)) = P at *
  clear e
  have q1 := sne D
  have k0 : (0 : Int) ≤ (k : Int) := Int.natCast_nonneg _
  have hcase : ((S.size : Int) < (k : Int) + (D.size : Int) ∧ P.size = k + D.size) ∨ ((k : Int) + (D.size : Int) ≤ (S.size : Int) ∧ P.size = S.size) := by omega
  have hp9 : P.size ≤ 4096 := by omega
  have hk9 : k ≤ 4096 := by omega
  clear hP
  rcases hcase with ⟨hlt, hme⟩ | ⟨hlt, hme⟩
  · have n1 : ((P.size : Int) != (k : Int) + (D.size : Int)) = false := by simp; omega
    clear hme
    go_enter Try.func6, Try.ntmps6
    go_wp2_with (first
      | (go_at_call 8; refine (HF1.out _).mono ?_; rintro e w1 ⟨rfl, rfl⟩)
      | (go_at_call 8; refine (HF2.out _).mono ?_; rintro e w1 ⟨rfl, rfl⟩)
      | (go_at_call 19; refine (HW.out _).mono ?_; rintro e w2 ⟨rfl, hB⟩; have HB2 := (show Hid _ from hB); clear hB)
      | (go_at_call 23; refine (HR.out _).mono ?_; rintro e w4 ⟨rfl, hB⟩; have HB4 := (show Hid _ from below_next HB2.out hB HB2.out.size); clear hB))
    go_loopw [11, 12, 60] (fun _ _ s60 wr => ∃ j : Nat, j ≤ P.size ∧ s60 = .int .i64 (j : Int) ∧ wr = w4) (fun _ _ s60 _ => P.size - (intOf s60).toNat)
    case atStart => exact ⟨0, by omega, rfl, rfl⟩
    case round =>
      obtain ⟨j, hj, rfl, hw⟩ := hrel
      subst hw
      clear hlt
      by_cases hlt : j < P.size
      · have i0 : (j : Int) < (P.size : Int) := by omega
        have j0 : (0 : Int) ≤ (j : Int) := Int.natCast_nonneg _
        have hpb := bl_get P j hlt
        by_cases hs1 : j < S.size
        · have s0 : (j : Int) < (S.size : Int) := by omega
          have hsb := bl_get S j hs1
          have HEQ : Hid ((j < k ∨ k + D.size ≤ j) → P[j]'hlt = S[j]'hs1) := fun h => by
            have := HG.out j hlt h
            rw [hpb, List.getD_eq_getElem?_getD, hsb] at this
            exact Option.some.inj this
          clear hpb hsb
          by_cases c1 : j < k
          · have d1 : decide ((j : Int) < (k : Int)) = true := decide_eq_true (by omega)
            have hq : (((P[j]'hlt).toNat : Int) != ((S[j]'hs1).toNat : Int)) = false := by rw [HEQ.out (.inl c1)]; simp
            go_wp2
            go_roundw
            case rel => exact ⟨j + 1, by omega, by go_num, by trivial⟩
            case measure => (simp [intOf]) <;> omega
          · have d1 : decide ((j : Int) < (k : Int)) = false := decide_eq_false (by omega)
            by_cases c2 : k + D.size ≤ j
            · have d2 : decide ((k : Int) + (D.size : Int) ≤ (j : Int)) = true := decide_eq_true (by omega)
              have hq : (((P[j]'hlt).toNat : Int) != ((S[j]'hs1).toNat : Int)) = false := by rw [HEQ.out (.inr c2)]; simp
              go_wp2
              go_roundw
              case rel => exact ⟨j + 1, by omega, by go_num, by trivial⟩
              case measure => (simp [intOf]) <;> omega
            · have d2 : decide ((k : Int) + (D.size : Int) ≤ (j : Int)) = false := decide_eq_false (by omega)
              go_wp2
              go_roundw
              case rel => exact ⟨j + 1, by omega, by go_num, by trivial⟩
              case measure => (simp [intOf]) <;> omega
        · have s0 : ¬ (j : Int) < (S.size : Int) := by omega
          have HEQ : Hid ((j < k ∨ k + D.size ≤ j) → (P[j]'hlt).toNat = 0) := fun h => by
            have := HG.out j hlt h
            have e : (bl S)[j]? = none := List.getElem?_eq_none (by rw [bl_length]; omega)
            rw [hpb, List.getD_eq_getElem?_getD, e] at this
            rw [Option.some.inj this]
            rfl
          clear hpb
          by_cases c1 : j < k
          · have d1 : decide ((j : Int) < (k : Int)) = true := decide_eq_true (by omega)
            have hq : (((P[j]'hlt).toNat : Int) != 0) = false := by rw [HEQ.out (.inl c1)]; rfl
            go_wp2
            go_roundw
            case rel => exact ⟨j + 1, by omega, by go_num, by trivial⟩
            case measure => (simp [intOf]) <;> omega
          · have d1 : decide ((j : Int) < (k : Int)) = false := decide_eq_false (by omega)
            by_cases c2 : k + D.size ≤ j
            · have d2 : decide ((k : Int) + (D.size : Int) ≤ (j : Int)) = true := decide_eq_true (by omega)
              have hq : (((P[j]'hlt).toNat : Int) != 0) = false := by rw [HEQ.out (.inr c2)]; rfl
              go_wp2
              go_roundw
              case rel => exact ⟨j + 1, by omega, by go_num, by trivial⟩
              case measure => (simp [intOf]) <;> omega
            · have d2 : decide ((k : Int) + (D.size : Int) ≤ (j : Int)) = false := decide_eq_false (by omega)
              go_wp2
              go_roundw
              case rel => exact ⟨j + 1, by omega, by go_num, by trivial⟩
              case measure => (simp [intOf]) <;> omega
      · have i0 : ¬ (j : Int) < (P.size : Int) := by omega
        go_wp2_with (first | (go_at_call 18; refine (HX.out _).mono ?_; rintro e w5 ⟨rfl, hB⟩; have HB5 := (show Hid _ from below_next HB4.out hB HB4.out.size); clear hB))
        go_ret
        exact ⟨rfl, HB5.out⟩
  · have n1 : ((P.size : Int) != (S.size : Int)) = false := by simp; omega
    clear hme
    go_enter Try.func6, Try.ntmps6
    go_wp2_with (first
      | (go_at_call 8; refine (HF1.out _).mono ?_; rintro e w1 ⟨rfl, rfl⟩)
      | (go_at_call 8; refine (HF2.out _).mono ?_; rintro e w1 ⟨rfl, rfl⟩)
      | (go_at_call 19; refine (HW.out _).mono ?_; rintro e w2 ⟨rfl, hB⟩; have HB2 := (show Hid _ from hB); clear hB)
      | (go_at_call 23; refine (HR.out _).mono ?_; rintro e w4 ⟨rfl, hB⟩; have HB4 := (show Hid _ from below_next HB2.out hB HB2.out.size); clear hB))
    go_loopw [11, 12, 60] (fun _ _ s60 wr => ∃ j : Nat, j ≤ P.size ∧ s60 = .int .i64 (j : Int) ∧ wr = w4) (fun _ _ s60 _ => P.size - (intOf s60).toNat)
    case atStart => exact ⟨0, by omega, rfl, rfl⟩
    case round =>
      obtain ⟨j, hj, rfl, hw⟩ := hrel
      subst hw
      clear hlt
      by_cases hlt : j < P.size
      · have i0 : (j : Int) < (P.size : Int) := by omega
        have j0 : (0 : Int) ≤ (j : Int) := Int.natCast_nonneg _
        have hpb := bl_get P j hlt
        by_cases hs1 : j < S.size
        · have s0 : (j : Int) < (S.size : Int) := by omega
          have hsb := bl_get S j hs1
          have HEQ : Hid ((j < k ∨ k + D.size ≤ j) → P[j]'hlt = S[j]'hs1) := fun h => by
            have := HG.out j hlt h
            rw [hpb, List.getD_eq_getElem?_getD, hsb] at this
            exact Option.some.inj this
          clear hpb hsb
          by_cases c1 : j < k
          · have d1 : decide ((j : Int) < (k : Int)) = true := decide_eq_true (by omega)
            have hq : (((P[j]'hlt).toNat : Int) != ((S[j]'hs1).toNat : Int)) = false := by rw [HEQ.out (.inl c1)]; simp
            go_wp2
            go_roundw
            case rel => exact ⟨j + 1, by omega, by go_num, by trivial⟩
            case measure => (simp [intOf]) <;> omega
          · have d1 : decide ((j : Int) < (k : Int)) = false := decide_eq_false (by omega)
            by_cases c2 : k + D.size ≤ j
            · have d2 : decide ((k : Int) + (D.size : Int) ≤ (j : Int)) = true := decide_eq_true (by omega)
              have hq : (((P[j]'hlt).toNat : Int) != ((S[j]'hs1).toNat : Int)) = false := by rw [HEQ.out (.inr c2)]; simp
              go_wp2
              go_roundw
              case rel => exact ⟨j + 1, by omega, by go_num, by trivial⟩
              case measure => (simp [intOf]) <;> omega
            · have d2 : decide ((k : Int) + (D.size : Int) ≤ (j : Int)) = false := decide_eq_false (by omega)
              go_wp2
              go_roundw
              case rel => exact ⟨j + 1, by omega, by go_num, by trivial⟩
              case measure => (simp [intOf]) <;> omega
        · have s0 : ¬ (j : Int) < (S.size : Int) := by omega
          have HEQ : Hid ((j < k ∨ k + D.size ≤ j) → (P[j]'hlt).toNat = 0) := fun h => by
            have := HG.out j hlt h
            have e : (bl S)[j]? = none := List.getElem?_eq_none (by rw [bl_length]; omega)
            rw [hpb, List.getD_eq_getElem?_getD, e] at this
            rw [Option.some.inj this]
            rfl
          clear hpb
          by_cases c1 : j < k
          · have d1 : decide ((j : Int) < (k : Int)) = true := decide_eq_true (by omega)
            have hq : (((P[j]'hlt).toNat : Int) != 0) = false := by rw [HEQ.out (.inl c1)]; rfl
            go_wp2
            go_roundw
            case rel => exact ⟨j + 1, by omega, by go_num, by trivial⟩
            case measure => (simp [intOf]) <;> omega
          · have d1 : decide ((j : Int) < (k : Int)) = false := decide_eq_false (by omega)
            by_cases c2 : k + D.size ≤ j
            · have d2 : decide ((k : Int) + (D.size : Int) ≤ (j : Int)) = true := decide_eq_true (by omega)
              have hq : (((P[j]'hlt).toNat : Int) != 0) = false := by rw [HEQ.out (.inr c2)]; rfl
              go_wp2
              go_roundw
              case rel => exact ⟨j + 1, by omega, by go_num, by trivial⟩
              case measure => (simp [intOf]) <;> omega
            · have d2 : decide ((k : Int) + (D.size : Int) ≤ (j : Int)) = false := decide_eq_false (by omega)
              go_wp2
              go_roundw
              case rel => exact ⟨j + 1, by omega, by go_num, by trivial⟩
              case measure => (simp [intOf]) <;> omega
      · have i0 : ¬ (j : Int) < (P.size : Int) := by omega
        go_wp2_with (first | (go_at_call 18; refine (HX.out _).mono ?_; rintro e w5 ⟨rfl, hB⟩; have HB5 := (show Hid _ from below_next HB4.out hB HB4.out.size); clear hB))
        go_ret
        exact ⟨rfl, HB5.out⟩
set_option maxHeartbeats 4000000 in
set_option maxRecDepth 20000 in
theorem reads_no (s : ByteArray) (o : Int) (d : ByteArray) (w : World) (hs : s.size ≤ 9223372036854775807) (hd : d.size ≤ 9223372036854775807) (h : wrE (bl (fewT s)) o (bl (fewT d)) ≠ 0) :
    Calls Try.prog 6 #[.string s, .int .i64 o, .string d] w fun e w' => e = .returned (.bool true) ∧ Below w.heap.size w w' := by
  have HF1 := (show Hid _ from fun W => few_any s W hs)
  have HF2 := (show Hid _ from fun W => few_any d W hd)
  have hz1 := fewT_size s
  have hz2 := fewT_size d
  generalize fewT s = S at *
  generalize fewT d = D at *
  have HW := (show Hid _ from fun W => write_any S D o W (by omega) (by omega))
  have e : mk (wrT (bl S) o (bl D)) = ⟨#[]⟩ := by unfold wrT; rw [if_neg h]; rfl
  rw [e] at HW
  have HX := (show Hid _ from fun W => works_any W)
  generalize wrE (bl S) o (bl D) = c at *
  clear e
  have n1 : ((c : Int) != 0) = true := by simp; omega
  have q1 := seq ⟨#[]⟩
  go_enter Try.func6, Try.ntmps6
  go_wp2_with (first
    | (go_at_call 8; refine (HF1.out _).mono ?_; rintro e w1 ⟨rfl, rfl⟩)
    | (go_at_call 8; refine (HF2.out _).mono ?_; rintro e w1 ⟨rfl, rfl⟩)
    | (go_at_call 19; refine (HW.out _).mono ?_; rintro e w2 ⟨rfl, hB⟩; have HB2 := (show Hid _ from hB); clear hB)
    | (go_at_call 18; refine (HX.out _).mono ?_; rintro e w5 ⟨rfl, hB⟩; have HB5 := (show Hid _ from below_next HB2.out hB HB2.out.size); clear hB))
  go_ret
  exact ⟨rfl, HB5.out⟩
theorem reads_walk (s : ByteArray) (o : Int) (d : ByteArray) (w : World) (hs : s.size ≤ 9223372036854775807) (_ho : -9223372036854775808 ≤ o ∧ o ≤ 9223372036854775807) (hd : d.size ≤ 9223372036854775807) :
    Calls Try.prog 6 #[.string s, .int .i64 o, .string d] w fun e w' => e = .returned (.bool true) ∧ Below w.heap.size w w' := by
  by_cases h : wrE (bl (fewT s)) o (bl (fewT d)) = 0
  · have h1 : (fewT s).size ≤ 4096 := by
      unfold wrE at h
      rw [bl_length] at h
      split at h <;> omega
    have h2 : 0 ≤ o ∧ o + (fewT d).size ≤ 4096 := by
      unfold wrE at h
      rw [bl_length, bl_length] at h
      split at h
      · omega
      · split at h
        · omega
        · split at h <;> omega
    obtain ⟨k, rfl⟩ : ∃ k : Nat, o = (k : Int) := ⟨o.toNat, by omega⟩
    exact reads_yes s k d w hs hd h1 (by omega)
  · exact reads_no s o d w hs hd h
end Go.Proofs.Ytefpaebbendnmaa
