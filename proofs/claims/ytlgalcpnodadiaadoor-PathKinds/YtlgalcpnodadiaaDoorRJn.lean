/- Proved: the document's join lays a / between names; its sure of any text. -/
import Derived.Test.YtlgalcpnodadiaaDoorRCmp
namespace Go.Proofs.YtlgalcpnodadiaaDoor
open Go.RowKit
set_option maxHeartbeats 1000000 in
set_option maxRecDepth 20000 in
theorem rkind_big (s : ByteArray) (w : World) (_hs : s.size < 4294967281) :
    Calls Tryd.prog 11 #[.string s] w fun e w' => e = .returned (.tuple #[.int .i64 ((Pm.kind (bl s)).1 : Nat), .int .i64 ((Pm.kind (bl s)).2 : Nat)]) ∧ Below w.heap.size w w' := by
  by_cases h : s.size ≤ 30000
  · exact rkind_any s w h
  · have h96 : 96 < s.size := by omega
    have HK : Is (Pm.kind (bl s)) (0, 3) := ⟨by rw [Pm.kind, if_pos (by rw [bl_length]; exact h96)]⟩
    have h96' : (96 : Int) < (s.size : Int) := by omega
    go_enter Tryd.func11, Tryd.ntmps11
    go_wp2
    go_ret2
    exact ⟨by rw [HK.eq]; rfl, Below.refl _ _⟩
set_option maxHeartbeats 1000000 in
set_option maxRecDepth 20000 in
theorem rsure_big (s : ByteArray) (w : World) (hs : s.size < 4294967281) :
    Calls Tryd.prog 38 #[.string s] w fun e w' => e = .returned (.tuple #[.string (mk (Pm.checked (bl s)).1), .int .i64 ((Pm.checked (bl s)).2 : Nat)]) ∧ Below w.heap.size w w' := by
  have HC : Is (Pm.checked (bl s)) (if (Pm.kind (bl s)).2 = 0 then (bl s, 0) else ([], (Pm.kind (bl s)).2)) := ⟨rfl⟩
  have HKN : Hid (∀ W : World, Calls Tryd.prog 11 #[.string s] W fun e w' => e = .returned (.tuple #[.int .i64 ((Pm.kind (bl s)).1 : Nat), .int .i64 ((Pm.kind (bl s)).2 : Nat)]) ∧ Below W.heap.size W w') := fun W => rkind_big s W hs
  generalize (Pm.kind (bl s)).1 = k1 at *
  generalize (Pm.kind (bl s)).2 = k2 at *
  go_enter Tryd.func38, Tryd.ntmps38
  by_cases h0 : k2 = 0
  · subst h0
    rw [if_pos rfl] at HC
    go_wp2_with (first | (go_at_call 11; refine (HKN.out _).mono ?_; rintro e w1 ⟨rfl, hB1⟩))
    go_ret2
    exact ⟨by rw [HC.eq]; rfl, hB1⟩
  · rw [if_neg h0] at HC
    have h0' : ¬ ((k2 : Nat) : Int) = 0 := by omega
    go_wp2_with (first | (go_at_call 11; refine (HKN.out _).mono ?_; rintro e w1 ⟨rfl, hB1⟩))
    go_ret2
    exact ⟨by rw [HC.eq]; rfl, hB1⟩
theorem join_step {l : List Pm.T} {k : Nat} (h0 : 0 < k) (hk : k < l.length) : Pm.join (l.take (k + 1)) = Pm.join (l.take k) ++ 47 :: l.getD k [] := by
  have hne : l.take k ≠ [] := by intro hh; rw [List.take_eq_nil_iff] at hh; rcases hh with h' | h'; omega; subst h'; simp at hk
  rw [List.take_add_one, getD_some hk]
  exact Pm.join_append _ _ hne (by simp)
theorem join_first {l : List Pm.T} (hk : 0 < l.length) : Pm.join (l.take 1) = l.getD 0 [] := by
  cases l with
  | nil => simp at hk
  | cons a l => rfl
set_option maxHeartbeats 2000000 in
set_option maxRecDepth 20000 in
theorem rjn_any (ad : Option Addr) (c : Nat) (l : List Pm.T) (w : World) (ht : 0 < l.length → ∃ g, ad = some ⟨g, 0, none⟩ ∧ TextsAt w g 0 l) (hl : l.length ≤ 5000) (hj : (Pm.join l).length ≤ 100000000) :
    Calls Tryd.prog 39 #[.slice ad l.length c] w fun e w' => e = .returned (.string (mk (Pm.join l))) ∧ w' = w := by
  have HJL : Hid (∀ k, (Pm.join (l.take k)).length ≤ 100000000) := fun k => Nat.le_trans (Pm.join_take_length l k) hj
  have HT := (show Hid _ from ht)
  obtain ⟨n, hn⟩ : ∃ n, l.length = n := ⟨_, rfl⟩
  have HN : Is l.length n := ⟨hn⟩
  rw [hn] at hl
  rw [hn]
  clear ht hj hn
  go_enter Tryd.func39, Tryd.ntmps39
  go_wp2_with fail
  go_loopw [3, 4] (fun v i wr => ∃ k : Nat, k ≤ n ∧ i = .int .i64 k ∧ v = .string (mk (Pm.join (l.take k))) ∧ wr = w) (fun _ i _ => n - (intOf i).toNat)
  case atStart => exact ⟨0, by omega, rfl, rfl, rfl⟩
  case round =>
    obtain ⟨k, hk, rfl, rfl, rfl⟩ := hrel
    by_cases hlt : k < n
    · have i0 : (k : Int) < (n : Int) := by omega
      have j0 : (0 : Int) ≤ (k : Int) := Int.natCast_nonneg _
      obtain ⟨g, he, t⟩ := HT.out (by rw [HN.eq]; omega)
      subst he
      have c0 := t k _ (getD_some (by rw [HN.eq]; exact hlt))
      rw [Nat.zero_add] at c0
      have h1 := HJL.out (k + 1)
      by_cases hk0 : k = 0
      · have J : Is (Pm.join (l.take (k + 1))) (l.getD k []) := ⟨by subst hk0; exact join_first (by rw [HN.eq]; omega)⟩
        have J0 : Is (mk (Pm.join (l.take k))) ⟨#[]⟩ := ⟨by subst hk0; rfl⟩
        rw [J.eq] at h1
        have A1 : ∀ W : World, (Op.stringOp .add (mk (Pm.join (l.take k))) (mk (l.getD k []))).run Tryd.prog W = .ok (.string (mk (l.getD k []))) W := fun W => by
          rw [J0.eq, run_string_add_sum W _ _ (by rw [mk_size]; show 0 + _ ≤ _; omega)]
          rw [show (⟨#[]⟩ : ByteArray) ++ mk (l.getD k []) = mk (l.getD k []) from bl_inj (by rw [bl_append]; rfl)]
        have J1 : Is (mk (Pm.join (l.take (k + 1)))) (mk (l.getD k [])) := ⟨by rw [J.eq]⟩
        have i1 : ¬ (0 : Int) < (k : Int) := by omega
        clear h1 J J0 hk0 t HJL
        generalize mk (Pm.join (l.take k)) = S at *
        generalize mk (l.getD k []) = X at *
        go_wp2_with fail
        go_roundw
        case rel => exact ⟨k + 1, by omega, by go_num, by rw [J1.eq], by first | rfl | trivial⟩
        case measure => (simp [intOf]) <;> omega
      · have J : Is (Pm.join (l.take (k + 1))) (Pm.join (l.take k) ++ 47 :: l.getD k []) := ⟨join_step (by omega) (by rw [HN.eq]; exact hlt)⟩
        rw [J.eq, List.length_append, List.length_cons] at h1
        have A1 : ∀ W : World, (Op.stringOp .add (mk (Pm.join (l.take k))) ⟨#[47]⟩).run Tryd.prog W = .ok (.string (mk (Pm.join (l.take k) ++ [47]))) W := fun W => by
          rw [run_string_add_sum W _ _ (by rw [mk_size]; show _ + 1 ≤ _; omega)]
          rw [show mk (Pm.join (l.take k)) ++ ⟨#[47]⟩ = mk (Pm.join (l.take k) ++ [47]) from bl_inj (by rw [bl_append]; rfl)]
        have A2 : ∀ W : World, (Op.stringOp .add (mk (Pm.join (l.take k) ++ [47])) (mk (l.getD k []))).run Tryd.prog W = .ok (.string (mk (Pm.join (l.take k) ++ 47 :: l.getD k []))) W := fun W => by
          rw [run_string_add_sum W _ _ (by rw [mk_size, mk_size, List.length_append, List.length_singleton]; omega)]
          rw [show mk (Pm.join (l.take k) ++ [47]) ++ mk (l.getD k []) = mk (Pm.join (l.take k) ++ 47 :: l.getD k []) from bl_inj (by rw [bl_append, bl_mk, bl_mk, bl_mk]; simp)]
        have J1 : Is (mk (Pm.join (l.take (k + 1)))) (mk (Pm.join (l.take k) ++ 47 :: l.getD k [])) := ⟨by rw [J.eq]⟩
        have i1 : (0 : Int) < (k : Int) := by omega
        clear h1 J hk0 t HJL
        generalize mk (Pm.join (l.take k) ++ 47 :: l.getD k []) = Z at *
        generalize mk (Pm.join (l.take k) ++ [47]) = Y at *
        generalize mk (Pm.join (l.take k)) = S at *
        generalize mk (l.getD k []) = X at *
        go_wp2_with fail
        go_roundw
        case rel => exact ⟨k + 1, by omega, by go_num, by rw [J1.eq], by first | rfl | trivial⟩
        case measure => (simp [intOf]) <;> omega
    · obtain rfl : k = n := by omega
      have i0 : ¬ (k : Int) < (k : Int) := by omega
      have J : Is (l.take k) l := ⟨List.take_of_length_le (by rw [HN.eq]; omega)⟩
      rw [J.eq]
      clear HJL HT
      go_wp2_with fail
      go_ret
      exact ⟨rfl, rfl⟩
end Go.Proofs.YtlgalcpnodadiaaDoor
