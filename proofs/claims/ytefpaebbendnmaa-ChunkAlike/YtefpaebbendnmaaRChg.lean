/- Proved: what the document's noughts, Truncate, Write and Read answer. -/
import Derived.Test.YtefpaebbendnmaaRSpl
namespace Go.Proofs.Ytefpaebbendnmaa
open Go.RowKit
open Ck (T cnt cntZ zs tr trE trT rd rdE rdT wr wrE wrT pad)
set_option maxHeartbeats 1000000 in
theorem noughts_any (s : ByteArray) (n : Nat) (w : World) (hs : s.size ≤ 100000) (hn : n ≤ 100000) :
    Calls Try.prog 29 #[.string s, .int .i64 (n : Int)] w fun e w' => e = .returned (.string (mk (pad (bl s) n))) ∧ w' = w := by
  go_enter Try.func29, Try.ntmps29
  go_wp2_with fail
  go_loopw [0] (fun v wr => ∃ t : T, v = .string (mk t) ∧ pad t n = pad (bl s) n ∧ t.length ≤ 100000 ∧ wr = w) (fun v _ => n - (match v with | .string z => z.size | _ => 0))
  case atStart => exact ⟨bl s, rfl, rfl, by rw [bl_length]; exact hs, rfl⟩
  case round =>
    obtain ⟨t, rfl, hp, hl, hw⟩ := hrel
    have HP : Is (pad t n) (pad (bl s) n) := ⟨hp⟩
    subst hw
    clear hp
    have hms := mk_size t
    by_cases hlt : t.length < n
    · have i0 : ((mk t).size : Int) < (n : Int) := by rw [hms]; omega
      have A1 : ∀ W : World, (Op.stringOp .add (mk t) ⟨#[0]⟩).run Try.prog W = .ok (.string (mk (t ++ [0]))) W := fun W => by
        rw [run_string_add_sum W _ _ (by rw [hms]; show t.length + 1 ≤ _; omega)]
        rw [← mk_append]
        rfl
      have HN : Is (pad (t ++ [0]) n) (pad (bl s) n) := ⟨by rw [Ck.pad_next hlt, HP.eq]⟩
      have hm1 : (mk t).size < n := by rw [hms]; exact hlt
      have hm2 : (mk (t ++ [0])).size = (mk t).size + 1 := by rw [mk_size, mk_size, List.length_append]; rfl
      have HL : Hid ((t ++ [0]).length ≤ 100000) := by show (t ++ [0]).length ≤ 100000; rw [List.length_append]; show t.length + 1 ≤ _; omega
      clear hms
      go_wp2
      go_roundw
      case rel => exact ⟨t ++ [0], rfl, HN.eq, HL.out, by trivial⟩
      case measure => show n - (mk (t ++ [0])).size < n - (mk t).size; omega
    · have i0 : ¬ ((mk t).size : Int) < (n : Int) := by rw [hms]; omega
      have HF : Is (pad (bl s) n) t := ⟨by rw [← HP.eq, Ck.pad_same (by omega)]⟩
      go_wp2
      go_ret
      exact ⟨by rw [HF.eq]; rfl, rfl⟩
theorem pad_size (s : ByteArray) (n : Nat) : (mk (pad (bl s) n)).size = max s.size n := by rw [mk_size, Ck.pad_length, bl_length]
set_option maxHeartbeats 1000000 in
theorem rtrunc_any (s : ByteArray) (n : Int) (w : World) (hs : s.size ≤ 9223372036854775807) :
    Calls Try.prog 22 #[.string s, .int .i64 n] w fun e w' => e = .returned (.tuple #[.string (mk (trT (bl s) n)), .int .i64 (trE (bl s) n : Nat)]) ∧ w' = w := by
  by_cases h1 : 4096 < s.size
  · have e : trE (bl s) n = 3 := by unfold trE; rw [bl_length, if_pos h1]
    have e2 : trT (bl s) n = [] := by unfold trT; rw [e]; rfl
    rw [e, e2]
    clear e e2
    have a1 : decide ((4096 : Int) < (s.size : Int)) = true := decide_eq_true (by omega)
    go_enter Try.func22, Try.ntmps22
    go_wp2
    go_ret2
    exact ⟨rfl, rfl⟩
  · have a1 : decide ((4096 : Int) < (s.size : Int)) = false := decide_eq_false (by omega)
    by_cases h2 : n < 0
    · have e : trE (bl s) n = 2 := by unfold trE; rw [bl_length, if_neg h1, if_pos h2]
      have e2 : trT (bl s) n = [] := by unfold trT; rw [e]; rfl
      rw [e, e2]
      clear e e2
      go_enter Try.func22, Try.ntmps22
      go_wp2
      go_ret2
      exact ⟨rfl, rfl⟩
    · by_cases h3 : 4096 < n
      · have e : trE (bl s) n = 3 := by unfold trE; rw [bl_length, if_neg h1, if_neg h2, if_pos h3]
        have e2 : trT (bl s) n = [] := by unfold trT; rw [e]; rfl
        rw [e, e2]
        clear e e2
        go_enter Try.func22, Try.ntmps22
        go_wp2
        go_ret2
        exact ⟨rfl, rfl⟩
      · obtain ⟨k, rfl⟩ : ∃ k : Nat, n = (k : Int) := ⟨n.toNat, by omega⟩
        have e : trE (bl s) k = 0 := trE_nat (by rw [bl_length]; omega) (by omega)
        have e2 : trT (bl s) k = tr (bl s) k := by unfold trT; rw [e]; rfl
        rw [e, e2]
        have HN : Hid (∀ W, Calls Try.prog 29 #[.string s, .int .i64 (k : Int)] W fun e w' => e = .returned (.string (mk (pad (bl s) k))) ∧ w' = W) := fun W => noughts_any s k W (by omega) (by omega)
        have hz := pad_size s k
        have hx : (mk (pad (bl s) k)).extract 0 k = mk (tr (bl s) k) := by rw [mk_ext, ext_take]; rfl
        have k1 : (k : Int) ≤ ((mk (pad (bl s) k)).size : Int) := by omega
        clear e e2 hz
        generalize mk (pad (bl s) k) = P at *
        generalize mk (tr (bl s) k) = R at *
        go_enter Try.func22, Try.ntmps22
        go_wp2_with (first | (go_at_call 29; refine (HN.out _).mono ?_; rintro e w1 ⟨rfl, rfl⟩))
        go_ret2
        exact ⟨rfl, rfl⟩
theorem pad_drop (s d : T) (o : Nat) (h : o + d.length < (pad s o).length) : (pad s o).drop (o + d.length) = s.drop (o + d.length) := by
  rw [Ck.pad_length] at h
  rw [Ck.pad_same (by omega)]
set_option maxHeartbeats 1000000 in
theorem rwrite_yes (s d : ByteArray) (o : Nat) (w : World) (hs : s.size ≤ 4096) (ho : o + d.size ≤ 4096) :
    Calls Try.prog 20 #[.string s, .int .i64 (o : Int), .string d] w fun e w' => e = .returned (.tuple #[.string (mk (wr (bl s) o (bl d))), .int .i64 0]) ∧ w' = w := by
  have a1 : decide ((4096 : Int) < (s.size : Int)) = false := decide_eq_false (by omega)
  have a2 : decide ((o : Int) < 0) = false := decide_eq_false (by omega)
  have a3 : decide ((4096 : Int) < (o : Int)) = false := decide_eq_false (by omega)
  have a4 : decide ((4096 : Int) - (o : Int) < (d.size : Int)) = false := decide_eq_false (by omega)
  have HN : Hid (∀ W, Calls Try.prog 29 #[.string s, .int .i64 (o : Int)] W fun e w' => e = .returned (.string (mk (pad (bl s) o))) ∧ w' = W) := fun W => noughts_any s o W (by omega) (by omega)
  have hz := pad_size s o
  have HWR : Is (wr (bl s) o (bl d)) ((pad (bl s) o).take o ++ (bl d ++ (bl s).drop (o + (bl d).length))) := ⟨rfl⟩
  have hx : (mk (pad (bl s) o)).extract 0 o = mk ((pad (bl s) o).take o) := by rw [mk_ext, ext_take]
  have HTL : Hid ((mk ((pad (bl s) o).take o)).size = o) := by
    show (mk ((pad (bl s) o).take o)).size = o
    rw [mk_size, List.length_take, Ck.pad_length]; omega
  have A1 : ∀ W : World, (Op.stringOp .add (mk ((pad (bl s) o).take o)) d).run Try.prog W = .ok (.string (mk ((pad (bl s) o).take o ++ bl d))) W := fun W => by
    rw [run_string_add_sum W _ _ (by rw [HTL.out]; omega), ← mk_append]
    rfl
  have HT2 : Hid ((mk ((pad (bl s) o).take o ++ bl d)).size = o + d.size) := by
    show (mk ((pad (bl s) o).take o ++ bl d)).size = o + d.size
    rw [mk_size, List.length_append, List.length_take, Ck.pad_length, bl_length, bl_length]; omega
  have k1 : (o : Int) ≤ ((mk (pad (bl s) o)).size : Int) := by omega
  have o0 : (0 : Int) ≤ (o : Int) := by omega
  by_cases hlt : o + d.size < s.size
  · have hx2 : (mk (pad (bl s) o)).extract (o + d.size) (mk (pad (bl s) o)).size = mk ((bl s).drop (o + (bl d).length)) := by
      rw [mk_ext, ext_drop _ _ _ (by rw [mk_size]; exact Nat.le_refl _)]
      rw [← bl_length d, pad_drop _ _ _ (by rw [Ck.pad_length, bl_length, bl_length]; omega)]
    have A2 : ∀ W : World, (Op.stringOp .add (mk ((pad (bl s) o).take o ++ bl d)) (mk ((bl s).drop (o + (bl d).length)))).run Try.prog W = .ok (.string (mk (wr (bl s) o (bl d)))) W := fun W => by
      rw [run_string_add_sum W _ _ (by rw [HT2.out, mk_size, List.length_drop, bl_length]; omega), mk_append, HWR.eq, List.append_assoc]
    have k2 : (o : Int) + (d.size : Int) < ((mk (pad (bl s) o)).size : Int) := by omega
    have k3 : (0 : Int) ≤ (o : Int) + (d.size : Int) := by omega
    have k4 : (o : Int) + (d.size : Int) ≤ ((mk (pad (bl s) o)).size : Int) := by omega
    clear HWR HTL HT2 hz
    generalize mk (pad (bl s) o) = P at *
    generalize mk ((pad (bl s) o).take o) = X at *
    generalize mk ((pad (bl s) o).take o ++ bl d) = Y at *
    generalize mk ((bl s).drop (o + (bl d).length)) = Z at *
    generalize mk (wr (bl s) o (bl d)) = R at *
    go_enter Try.func20, Try.ntmps20
    go_wp2_with (first | (go_at_call 29; refine (HN.out _).mono ?_; rintro e w1 ⟨rfl, rfl⟩))
    go_ret2
    exact ⟨rfl, rfl⟩
  · have A2 : ∀ W : World, (Op.stringOp .add (mk ((pad (bl s) o).take o ++ bl d)) ⟨#[]⟩).run Try.prog W = .ok (.string (mk (wr (bl s) o (bl d)))) W := fun W => by
      rw [run_string_add_sum W _ _ (by rw [HT2.out]; show o + d.size + 0 ≤ _; omega), show (⟨#[]⟩ : ByteArray) = mk [] from rfl, mk_append, HWR.eq, List.drop_eq_nil_of_le (by rw [bl_length, bl_length]; omega), List.append_assoc]
    have k2 : ¬ (o : Int) + (d.size : Int) < ((mk (pad (bl s) o)).size : Int) := by omega
    clear HWR HTL HT2 hz
    generalize mk (pad (bl s) o) = P at *
    generalize mk ((pad (bl s) o).take o) = X at *
    generalize mk ((pad (bl s) o).take o ++ bl d) = Y at *
    generalize mk (wr (bl s) o (bl d)) = R at *
    go_enter Try.func20, Try.ntmps20
    go_wp2_with (first | (go_at_call 29; refine (HN.out _).mono ?_; rintro e w1 ⟨rfl, rfl⟩))
    go_ret2
    exact ⟨rfl, rfl⟩
set_option maxHeartbeats 1000000 in
theorem rwrite_any (s d : ByteArray) (o : Int) (w : World) (hs : s.size ≤ 9223372036854775807) (_hd : d.size ≤ 9223372036854775807) (hp : -9223372036854775808 ≤ o) :
    Calls Try.prog 20 #[.string s, .int .i64 o, .string d] w fun e w' => e = .returned (.tuple #[.string (mk (wrT (bl s) o (bl d))), .int .i64 (wrE (bl s) o (bl d) : Nat)]) ∧ w' = w := by
  by_cases h1 : 4096 < s.size
  · have e : wrE (bl s) o (bl d) = 3 := by unfold wrE; rw [bl_length, if_pos h1]
    have e2 : wrT (bl s) o (bl d) = [] := by unfold wrT; rw [e]; rfl
    rw [e, e2]
    clear e e2
    have a1 : decide ((4096 : Int) < (s.size : Int)) = true := decide_eq_true (by omega)
    go_enter Try.func20, Try.ntmps20
    go_wp2
    go_ret2
    exact ⟨rfl, rfl⟩
  · have a1 : decide ((4096 : Int) < (s.size : Int)) = false := decide_eq_false (by omega)
    by_cases h2 : o < 0
    · have e : wrE (bl s) o (bl d) = 2 := by unfold wrE; rw [bl_length, if_neg h1, if_pos h2]
      have e2 : wrT (bl s) o (bl d) = [] := by unfold wrT; rw [e]; rfl
      rw [e, e2]
      clear e e2
      go_enter Try.func20, Try.ntmps20
      go_wp2
      go_ret2
      exact ⟨rfl, rfl⟩
    · by_cases h3 : 4096 - (d.size : Int) < o
      · have e : wrE (bl s) o (bl d) = 3 := by unfold wrE; rw [bl_length, bl_length, if_neg h1, if_neg h2, if_pos h3]
        have e2 : wrT (bl s) o (bl d) = [] := by unfold wrT; rw [e]; rfl
        rw [e, e2]
        clear e e2
        by_cases h4 : 4096 < o
        · clear h3
          go_enter Try.func20, Try.ntmps20
          go_wp2
          go_ret2
          exact ⟨rfl, rfl⟩
        · have h5 : 4096 - o < (d.size : Int) := by omega
          clear h3
          go_enter Try.func20, Try.ntmps20
          go_wp2
          go_ret2
          exact ⟨rfl, rfl⟩
      · obtain ⟨k, rfl⟩ : ∃ k : Nat, o = (k : Int) := ⟨o.toNat, by omega⟩
        have e : wrE (bl s) k (bl d) = 0 := wrE_nat (by rw [bl_length]; omega) (by rw [bl_length]; omega)
        have e2 : wrT (bl s) k (bl d) = wr (bl s) k (bl d) := by unfold wrT; rw [e]; rfl
        rw [e, e2]
        exact rwrite_yes s d k w (by omega) (by omega)
set_option maxHeartbeats 1000000 in
theorem rread_yes (s : ByteArray) (o n : Nat) (w : World) (hs : s.size ≤ 4096) (ho : o ≤ s.size) (hn : n ≤ 9223372036854775807) :
    Calls Try.prog 24 #[.string s, .int .i64 (o : Int), .int .i64 (n : Int)] w fun e w' => e = .returned (.tuple #[.string (mk (rd (bl s) o n)), .int .i64 0]) ∧ w' = w := by
  have a1 : decide ((4096 : Int) < (s.size : Int)) = false := decide_eq_false (by omega)
  have a2 : decide ((o : Int) < 0) = false := decide_eq_false (by omega)
  have a3 : decide ((n : Int) < 0) = false := decide_eq_false (by omega)
  have a4 : decide ((s.size : Int) < (o : Int)) = false := decide_eq_false (by omega)
  go_enter Try.func24, Try.ntmps24
  go_wp2_with fail
  go_loopw [8, 9] (fun v i wr => ∃ k : Nat, k ≤ n ∧ o + k ≤ s.size ∧ i = .int .i64 ((o + k : Nat) : Int) ∧ v = .string (mk (rd (bl s) o k)) ∧ wr = w) (fun _ i _ => 5000 - (intOf i).toNat)
  case atStart => exact ⟨0, by omega, by omega, rfl, by unfold rd; rw [List.take_zero]; rfl, rfl⟩
  case round =>
    obtain ⟨k, hk, hok, rfl, rfl, hw⟩ := hrel
    subst hw
    have hsub : ((o + k : Nat) : Int) - (o : Int) = (k : Int) := by omega
    by_cases h1 : o + k < s.size
    · have i1 : ((o + k : Nat) : Int) < (s.size : Int) := by omega
      have d1 : decide (((o + k : Nat) : Int) < (s.size : Int)) = true := decide_eq_true i1
      by_cases h2 : k < n
      · have d2 : decide ((k : Int) < (n : Int)) = true := decide_eq_true (by omega)
        have hkl := get_size s (o + k) h1
        have hx := ext_one s (o + k) hkl
        have HR : Is (rd (bl s) o (k + 1)) (rd (bl s) o k ++ [(bl s)[o + k]'hkl]) := ⟨by
          unfold rd
          rw [List.take_succ_eq_append_getElem (by rw [List.length_drop]; omega), List.getElem_drop]⟩
        have hrl : (rd (bl s) o k).length ≤ 4096 := by unfold rd; rw [List.length_take, List.length_drop, bl_length]; omega
        have A1 : ∀ W : World, (Op.stringOp .add (mk (rd (bl s) o k)) (s.extract (o + k) (o + k + 1))).run Try.prog W = .ok (.string (mk (rd (bl s) o (k + 1)))) W := fun W => by
          rw [run_string_add_sum W _ _ (by rw [hx]; show (rd (bl s) o k).length + 1 ≤ _; omega), hx, mk_append, HR.eq]
        clear hx HR hrl
        have HA : Hid (o + (k + 1) = (o + k) + 1) := rfl
        generalize mk (rd (bl s) o k) = X at *
        generalize hY : mk (rd (bl s) o (k + 1)) = Y at *
        have HY : Is (mk (rd (bl s) o (k + 1))) Y := ⟨hY⟩
        clear hY
        generalize hj : o + k = j at *
        have j0 : (0 : Int) ≤ (j : Int) := Int.natCast_nonneg _
        have j1 : (j : Int) ≤ (j : Int) + 1 := by omega
        have j2 : (j : Int) + 1 ≤ (s.size : Int) := by omega
        have HJ : Hid (o + k = j) := hj
        clear hj
        go_wp2
        go_roundw
        case rel => exact ⟨k + 1, by omega, by have := HJ.out; omega, by rw [show o + (k + 1) = j + 1 from by have := HJ.out; omega]; go_num, by rw [HY.eq], by trivial⟩
        case measure => (simp [intOf]) <;> omega
      · have d2 : decide ((k : Int) < (n : Int)) = false := decide_eq_false (by omega)
        have HF : Is (rd (bl s) o n) (rd (bl s) o k) := ⟨by rw [show n = k by omega]⟩
        generalize o + k = j at *
        go_wp2
        go_ret2
        exact ⟨by rw [HF.eq]; rfl, rfl⟩
    · have i1 : ¬ ((o + k : Nat) : Int) < (s.size : Int) := by omega
      have d1 : decide (((o + k : Nat) : Int) < (s.size : Int)) = false := decide_eq_false i1
      have HF : Is (rd (bl s) o n) (rd (bl s) o k) := ⟨by
        unfold rd
        rw [List.take_of_length_le (by rw [List.length_drop, bl_length]; omega), List.take_of_length_le (by rw [List.length_drop, bl_length]; omega)]⟩
      generalize o + k = j at *
      go_wp2
      go_ret2
      exact ⟨by rw [HF.eq]; rfl, rfl⟩
end Go.Proofs.Ytefpaebbendnmaa
