/- Proved: what the library's Trim answers for noughts. -/
import Derived.Test.YtefpaebbendnmaaDoorWorks
import Derived.Deep.QuietTactic
import Derived.BigQuiet
namespace Go.Proofs.YtefpaebbendnmaaDoor
open Go.RowKit
open Ck (T zs)
theorem zs_get (k j : Nat) (h : j < (mk (zs k)).size) : (((mk (zs k))[j]'h).toNat : Int) = 0 := by
  have : (mk (zs k))[j]'h = (zs k)[j]'(by rw [mk_size] at h; exact h) := rfl
  rw [this]
  simp [zs]
theorem zs_ext (j : Nat) : (mk (zs (j + 1))).extract 0 j = mk (zs j) := by
  rw [mk_ext, ext_take, Ck.zs_take, Nat.min_eq_left (by omega)]
set_option maxHeartbeats 1000000 in
set_option maxRecDepth 20000 in
theorem right_any (n : Nat) (w : World) (hn : n ≤ 100000) :
    Calls Tryd.prog 22 #[.string (mk (zs n)), .int .u8 0] w fun e w' => e = .returned (.string ⟨#[]⟩) ∧ w' = w := by
  go_enter Tryd.func22, Tryd.ntmps22
  go_wp2_with fail
  go_loopw [0] (fun v wr => ∃ k : Nat, k ≤ n ∧ v = .string (mk (zs k)) ∧ wr = w) (fun v _ => match v with | .string z => z.size | _ => 0)
  case atStart => exact ⟨n, Nat.le_refl _, rfl, rfl⟩
  case round =>
    obtain ⟨k, hk, rfl, hw⟩ := hrel
    subst hw
    cases k with
    | zero =>
      have i0 : ¬ (0 : Int) < ((mk (zs 0)).size : Int) := by rw [mk_size]; simp [zs]
      have HF : Hid (mk (zs 0) = ⟨#[]⟩) := rfl
      go_wp2
      go_ret
      exact ⟨rfl, rfl⟩
    | succ j =>
      have hsz : (mk (zs (j + 1))).size = j + 1 := by rw [mk_size, Ck.zs_length]
      have hg := zs_get (j + 1) j
      have hx := zs_ext j
      have hsj : (mk (zs j)).size = j := by rw [mk_size, Ck.zs_length]
      generalize hX : mk (zs (j + 1)) = X at *
      generalize hY : mk (zs j) = Y at *
      have HY : Is (mk (zs j)) Y := ⟨hY⟩
      clear hX hY
      have i0 : (0 : Int) < (X.size : Int) := by omega
      have hjl : j < X.size := by omega
      have hq : (((X[j]'hjl).toNat : Int) == 0) = true := by rw [hg hjl]; rfl
      clear hg
      have j0 : (0 : Int) ≤ (j : Int) := by omega
      have j1 : (j : Int) < (X.size : Int) := by omega
      have j2 : (j : Int) ≤ (X.size : Int) := by omega
      go_wp2
      go_roundw
      case rel => exact ⟨j, by omega, by rw [HY.eq], by trivial⟩
      case measure => show Y.size < X.size; omega
set_option maxHeartbeats 1000000 in
set_option maxRecDepth 20000 in
theorem left_any (w : World) :
    Calls Tryd.prog 21 #[.string ⟨#[]⟩, .int .u8 0] w fun e w' => e = .returned (.string ⟨#[]⟩) ∧ w' = w := by
  go_enter Tryd.func21, Tryd.ntmps21
  go_wp2_with fail
  go_loopw [0] (fun v wr => v = .string ⟨#[]⟩ ∧ wr = w) (fun _ _ => 0)
  case atStart => exact ⟨rfl, rfl⟩
  case round =>
    obtain ⟨rfl, hw⟩ := hrel
    subst hw
    go_wp2
    go_ret
    exact ⟨rfl, rfl⟩
set_option maxHeartbeats 1000000 in
set_option maxRecDepth 20000 in
theorem trim_any (n : Nat) (w : World) (hn : n ≤ 100000) (h0 : 0 < n) :
    Calls Tryd.prog 13 #[.string (mk (zs n)), .string ⟨#[0]⟩] w fun e w' => e = .returned (.string ⟨#[]⟩) ∧ ∃ k, w' = w.drewN k := by
  have HR := (show Hid _ from fun W => right_any n W hn)
  have HL := (show Hid _ from fun W => left_any W)
  have e1 : ((mk (zs n)).toList == (⟨#[]⟩ : ByteArray).toList) = false := by
    rw [show (⟨#[]⟩ : ByteArray) = mk [] from rfl, eq_mk]
    obtain ⟨k, rfl⟩ : ∃ k, n = k + 1 := ⟨n - 1, by omega⟩
    rfl
  have e2 : ((⟨#[0]⟩ : ByteArray).toList == (⟨#[]⟩ : ByteArray).toList) = false := by
    rw [show (⟨#[]⟩ : ByteArray) = mk [] from rfl, show (⟨#[0]⟩ : ByteArray) = mk [0] from rfl, eq_mk]
    rfl
  have e3 : (mk (zs n)).toList.isEmpty = false := by
    rw [empty_mk]
    obtain ⟨k, rfl⟩ : ∃ k, n = k + 1 := ⟨n - 1, by omega⟩
    rfl
  have e4 : (⟨#[0]⟩ : ByteArray).toList.isEmpty = false := by
    rw [show (⟨#[0]⟩ : ByteArray) = mk [0] from rfl, empty_mk]
    rfl
  generalize mk (zs n) = X at *
  go_enter Tryd.func13, Tryd.ntmps13
  go_wp2_with fail
  go_quiet (first | (go_at_call 22; refine Calls.quiet_of_same (HR.out _)) | (go_at_call 21; refine Calls.quiet_of_same (HL.out _)))
  go_wp2
  go_ret
  exact ⟨rfl, _, rfl⟩
end Go.Proofs.YtefpaebbendnmaaDoor
