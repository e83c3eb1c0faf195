/- Proved: the document's sign and name answer as the program's own. -/
import Derived.Test.YtbcmgcallidneaaGreatDoorRNames
namespace Go.Proofs.YtbcmgcallidneaaGreatDoor
open Go.RowKit
/- a name's kind by its points -/
theorem nk_bad {l : Pm.T} {c : UInt8} (hc : c ∈ l) (hs : Pm.sign c = false) (hd : c ≠ 46) : Pm.nk l = 0 := by
  rcases Pm.nk_cases l with e | e | e
  · exact e
  · have := Pm.plain_mem (Pm.nk_one e).2 hc
    rw [hs] at this; cases this
  · obtain ⟨_, a, b, rfl, ha, hb⟩ := Pm.nk_two e
    simp only [List.mem_append, List.mem_cons] at hc
    rcases hc with hc | hc | hc
    · have := Pm.plain_mem ha hc
      rw [hs] at this; cases this
    · exact absurd hc hd
    · have := Pm.plain_mem hb hc
      rw [hs] at this; cases this
theorem nk_first (l : Pm.T) : Pm.nk (46 :: l) = 0 := by
  rcases Pm.nk_cases (46 :: l) with e | e | e
  · exact e
  · exact absurd (List.mem_cons_self ..) (Pm.plain_free (Pm.nk_one e).2)
  · obtain ⟨_, a, b, h, ha, _⟩ := Pm.nk_two e
    cases a with
    | nil => exact absurd rfl (Pm.plain_ne ha)
    | cons x a =>
      rw [List.cons_append, List.cons.injEq] at h
      exact absurd (by rw [h.1]; exact List.mem_cons_self ..) (Pm.plain_free ha)
theorem nk_end (l : Pm.T) : Pm.nk (l ++ [46]) = 0 := by
  rcases Pm.nk_cases (l ++ [46]) with e | e | e
  · exact e
  · exact absurd (by simp) (Pm.plain_free (Pm.nk_one e).2)
  · obtain ⟨_, a, b, h, _, hb⟩ := Pm.nk_two e
    have hne := Pm.plain_ne hb
    rw [← List.dropLast_concat_getLast hne, ← List.cons_append, ← List.append_assoc] at h
    have h2 := (List.append_inj' h rfl).2
    rw [List.cons.injEq] at h2
    exact absurd (by rw [h2.1]; exact List.getLast_mem hne) (Pm.plain_free hb)
theorem nk_long {l : Pm.T} (h : 24 < l.length) : Pm.nk l = 0 := by unfold Pm.nk; rw [if_pos h]
theorem nk_many {l : Pm.T} (h : 1 < l.count 46) : Pm.nk l = 0 := by
  rcases Pm.nk_cases l with e | e | e
  · exact e
  · rw [List.count_eq_zero_of_not_mem (Pm.plain_free (Pm.nk_one e).2)] at h; omega
  · obtain ⟨_, a, b, rfl, ha, hb⟩ := Pm.nk_two e
    rw [List.count_append, List.count_cons_self, List.count_eq_zero_of_not_mem (Pm.plain_free ha), List.count_eq_zero_of_not_mem (Pm.plain_free hb)] at h
    omega
/- no fault in it -/
structure Fine (l : Pm.T) : Prop where
  each : ∀ c ∈ l, Pm.sign c = true ∨ c = 46
  first : ∀ t, l ≠ 46 :: t
  last : ∀ t, l ≠ t ++ [46]
theorem nk_fine {l : Pm.T} (h : Fine l) (h0 : l ≠ []) (h24 : l.length ≤ 24) (hc : l.count 46 ≤ 1) : Pm.nk l = 1 + l.count 46 := by
  have hpl : ∀ a : Pm.T, a ≠ [] → (∀ c ∈ a, c ∈ l) → 46 ∉ a → Pm.plain a = true := fun a hne hin hn => by
    unfold Pm.plain
    rw [Bool.and_eq_true]
    refine ⟨List.all_eq_true.2 fun c hc => ?_, by cases a; exact absurd rfl hne; rfl⟩
    rcases h.each c (hin c hc) with h1 | h1
    · exact h1
    · subst h1; exact absurd hc hn
  rcases Pm.index_one l 46 with ⟨_, hn⟩ | ⟨a, b, _, rfl, hn⟩
  · rw [List.count_eq_zero_of_not_mem hn, Pm.nk_of_plain (hpl l h0 (fun _ h => h) hn) h24]
  · rw [List.count_append, List.count_cons_self, List.count_eq_zero_of_not_mem hn] at hc ⊢
    have hb0 : b.count 46 = 0 := by omega
    have hbn : 46 ∉ b := List.count_eq_zero.1 hb0
    rw [hb0, Pm.nk_of_two (hpl a (fun e => h.first b (by rw [e]; rfl)) (fun c hc => by simp [hc]) hn) (hpl b (fun e => h.last a (by rw [e])) (fun c hc => by simp [hc]) hbn) h24]
set_option maxHeartbeats 1000000 in
set_option maxRecDepth 20000 in
theorem rsign_nat (n : Nat) (w : World) (hn : n < 256) :
    Calls Tryz.prog 91 #[.int .u8 (n : Int)] w fun e w' => e = .returned (.bool (signN n)) ∧ w' = w := by
  by_cases h0 : 97 ≤ n
  · skip
    by_cases h2 : n ≤ 122
    · skip
      have ge97 : ((97 : Int) ≤ (n : Int)) := by omega
      have dge97 : decide ((97 : Int) ≤ (n : Int)) = true := decide_eq_true ge97
      have le122 : ((n : Int) ≤ 122) := by omega
      have dle122 : decide ((n : Int) ≤ (122 : Int)) = true := decide_eq_true le122
      have hv : signN n = true := by
        unfold signN
        simp only [Bool.or_eq_true, Bool.and_eq_true, decide_eq_true_eq]
        omega
      rw [hv]
      clear hv
      go_enter Tryz.func91, Tryz.ntmps91
      go_wp2
      go_ret
      exact ⟨rfl, rfl⟩
    · skip
      by_cases h17 : n = 126
      · skip
        have ge97 : ((97 : Int) ≤ (n : Int)) := by omega
        have dge97 : decide ((97 : Int) ≤ (n : Int)) = true := decide_eq_true ge97
        have le122 : ¬ ((n : Int) ≤ 122) := by omega
        have dle122 : decide ((n : Int) ≤ (122 : Int)) = false := decide_eq_false le122
        have ge48 : ((48 : Int) ≤ (n : Int)) := by omega
        have dge48 : decide ((48 : Int) ≤ (n : Int)) = true := decide_eq_true ge48
        have le57 : ¬ ((n : Int) ≤ 57) := by omega
        have dle57 : decide ((n : Int) ≤ (57 : Int)) = false := decide_eq_false le57
        have eq95 : ((n : Int) == 95) = false := by simp only [beq_eq_false_iff_ne, ne_eq]; omega
        have eq45 : ((n : Int) == 45) = false := by simp only [beq_eq_false_iff_ne, ne_eq]; omega
        have eq126 : ((n : Int) == 126) = true := by simp only [beq_iff_eq]; omega
        have hv : signN n = true := by
          unfold signN
          simp only [Bool.or_eq_true, Bool.and_eq_true, decide_eq_true_eq]
          omega
        rw [hv]
        clear hv
        go_enter Tryz.func91, Tryz.ntmps91
        go_wp2
        go_ret
        exact ⟨rfl, rfl⟩
      · skip
        have ge97 : ((97 : Int) ≤ (n : Int)) := by omega
        have dge97 : decide ((97 : Int) ≤ (n : Int)) = true := decide_eq_true ge97
        have le122 : ¬ ((n : Int) ≤ 122) := by omega
        have dle122 : decide ((n : Int) ≤ (122 : Int)) = false := decide_eq_false le122
        have ge48 : ((48 : Int) ≤ (n : Int)) := by omega
        have dge48 : decide ((48 : Int) ≤ (n : Int)) = true := decide_eq_true ge48
        have le57 : ¬ ((n : Int) ≤ 57) := by omega
        have dle57 : decide ((n : Int) ≤ (57 : Int)) = false := decide_eq_false le57
        have eq95 : ((n : Int) == 95) = false := by simp only [beq_eq_false_iff_ne, ne_eq]; omega
        have eq45 : ((n : Int) == 45) = false := by simp only [beq_eq_false_iff_ne, ne_eq]; omega
        have eq126 : ((n : Int) == 126) = false := by simp only [beq_eq_false_iff_ne, ne_eq]; omega
        have hv : signN n = false := by
          unfold signN
          simp only [Bool.or_eq_false_iff, Bool.and_eq_false_iff, decide_eq_false_iff_not]
          omega
        rw [hv]
        clear hv
        go_enter Tryz.func91, Tryz.ntmps91
        go_wp2
        go_ret
        exact ⟨rfl, rfl⟩
  · skip
    by_cases h59 : 48 ≤ n
    · skip
      by_cases h61 : n ≤ 57
      · skip
        have ge97 : ¬ ((97 : Int) ≤ (n : Int)) := by omega
        have dge97 : decide ((97 : Int) ≤ (n : Int)) = false := decide_eq_false ge97
        have ge48 : ((48 : Int) ≤ (n : Int)) := by omega
        have dge48 : decide ((48 : Int) ≤ (n : Int)) = true := decide_eq_true ge48
        have le57 : ((n : Int) ≤ 57) := by omega
        have dle57 : decide ((n : Int) ≤ (57 : Int)) = true := decide_eq_true le57
        have hv : signN n = true := by
          unfold signN
          simp only [Bool.or_eq_true, Bool.and_eq_true, decide_eq_true_eq]
          omega
        rw [hv]
        clear hv
        go_enter Tryz.func91, Tryz.ntmps91
        go_wp2
        go_ret
        exact ⟨rfl, rfl⟩
      · skip
        by_cases h78 : n = 95
        · skip
          have ge97 : ¬ ((97 : Int) ≤ (n : Int)) := by omega
          have dge97 : decide ((97 : Int) ≤ (n : Int)) = false := decide_eq_false ge97
          have ge48 : ((48 : Int) ≤ (n : Int)) := by omega
          have dge48 : decide ((48 : Int) ≤ (n : Int)) = true := decide_eq_true ge48
          have le57 : ¬ ((n : Int) ≤ 57) := by omega
          have dle57 : decide ((n : Int) ≤ (57 : Int)) = false := decide_eq_false le57
          have eq95 : ((n : Int) == 95) = true := by simp only [beq_iff_eq]; omega
          have hv : signN n = true := by
            unfold signN
            simp only [Bool.or_eq_true, Bool.and_eq_true, decide_eq_true_eq]
            omega
          rw [hv]
          clear hv
          go_enter Tryz.func91, Tryz.ntmps91
          go_wp2
          go_ret
          exact ⟨rfl, rfl⟩
        · skip
          have ge97 : ¬ ((97 : Int) ≤ (n : Int)) := by omega
          have dge97 : decide ((97 : Int) ≤ (n : Int)) = false := decide_eq_false ge97
          have ge48 : ((48 : Int) ≤ (n : Int)) := by omega
          have dge48 : decide ((48 : Int) ≤ (n : Int)) = true := decide_eq_true ge48
          have le57 : ¬ ((n : Int) ≤ 57) := by omega
          have dle57 : decide ((n : Int) ≤ (57 : Int)) = false := decide_eq_false le57
          have eq95 : ((n : Int) == 95) = false := by simp only [beq_eq_false_iff_ne, ne_eq]; omega
          have eq45 : ((n : Int) == 45) = false := by simp only [beq_eq_false_iff_ne, ne_eq]; omega
          have eq126 : ((n : Int) == 126) = false := by simp only [beq_eq_false_iff_ne, ne_eq]; omega
          have hv : signN n = false := by
            unfold signN
            simp only [Bool.or_eq_false_iff, Bool.and_eq_false_iff, decide_eq_false_iff_not]
            omega
          rw [hv]
          clear hv
          go_enter Tryz.func91, Tryz.ntmps91
          go_wp2
          go_ret
          exact ⟨rfl, rfl⟩
    · skip
      by_cases h114 : n = 45
      · skip
        have ge97 : ¬ ((97 : Int) ≤ (n : Int)) := by omega
        have dge97 : decide ((97 : Int) ≤ (n : Int)) = false := decide_eq_false ge97
        have ge48 : ¬ ((48 : Int) ≤ (n : Int)) := by omega
        have dge48 : decide ((48 : Int) ≤ (n : Int)) = false := decide_eq_false ge48
        have eq95 : ((n : Int) == 95) = false := by simp only [beq_eq_false_iff_ne, ne_eq]; omega
        have eq45 : ((n : Int) == 45) = true := by simp only [beq_iff_eq]; omega
        have hv : signN n = true := by
          unfold signN
          simp only [Bool.or_eq_true, Bool.and_eq_true, decide_eq_true_eq]
          omega
        rw [hv]
        clear hv
        go_enter Tryz.func91, Tryz.ntmps91
        go_wp2
        go_ret
        exact ⟨rfl, rfl⟩
      · skip
        have ge97 : ¬ ((97 : Int) ≤ (n : Int)) := by omega
        have dge97 : decide ((97 : Int) ≤ (n : Int)) = false := decide_eq_false ge97
        have ge48 : ¬ ((48 : Int) ≤ (n : Int)) := by omega
        have dge48 : decide ((48 : Int) ≤ (n : Int)) = false := decide_eq_false ge48
        have eq95 : ((n : Int) == 95) = false := by simp only [beq_eq_false_iff_ne, ne_eq]; omega
        have eq45 : ((n : Int) == 45) = false := by simp only [beq_eq_false_iff_ne, ne_eq]; omega
        have eq126 : ((n : Int) == 126) = false := by simp only [beq_eq_false_iff_ne, ne_eq]; omega
        have hv : signN n = false := by
          unfold signN
          simp only [Bool.or_eq_false_iff, Bool.and_eq_false_iff, decide_eq_false_iff_not]
          omega
        rw [hv]
        clear hv
        go_enter Tryz.func91, Tryz.ntmps91
        go_wp2
        go_ret
        exact ⟨rfl, rfl⟩
theorem rsign_any (b : UInt8) (w : World) : Calls Tryz.prog 91 #[.int .u8 (b.toNat : Int)] w fun e w' => e = .returned (.bool (Pm.sign b)) ∧ w' = w := rsign_nat b.toNat w b.toNat_lt
end Go.Proofs.YtbcmgcallidneaaGreatDoor
