/- Proved: what chunk's cut, Truncate, Read and Write answer. -/
import Derived.Test.YtefpaebbendnmaaDoorNum
namespace Go.Proofs.YtefpaebbendnmaaDoor
open Go.RowKit
open Ck (T cnt cntZ zs)
set_option maxHeartbeats 1000000 in
theorem cut_any (g n cap lo hi : Nat) (l : T) (w : World) (hR : Rd w g l) (h1 : lo ≤ hi) (h2 : hi ≤ n) (h3 : n ≤ cap) (h4 : n = l.length) (h5 : n ≤ 1000000) :
    Calls Tryd.prog 32 #[.slice (some ⟨g, 0, none⟩) n cap, .int .i64 (lo : Int), .int .i64 (hi : Int)] w fun e w' => e = .returned (.string (mk ((l.drop lo).take (hi - lo)))) ∧ w' = w := by
  by_cases h0 : hi = lo
  · subst h0
    have hcv := str_at hR (off := 0) (n := 0) (by omega) ⟨g, 0, none⟩ (fun h => absurd h (by omega)) 0
    rw [List.drop_zero, List.take_zero] at hcv
    rw [show hi - hi = 0 by omega, List.take_zero]
    have HF : Hid (n = l.length) := h4
    have k0 : (0 : Int) ≤ (hi : Int) := by omega
    have k1 : (hi : Int) ≤ (cap : Int) := by omega
    clear hR h4
    go_enter Tryd.func32, Tryd.ntmps32
    go_wp2
    go_ret
    exact ⟨rfl, rfl⟩
  · obtain ⟨d, rfl⟩ : ∃ d, hi = lo + (d + 1) := ⟨hi - lo - 1, by omega⟩
    have hcv := str_at hR (off := lo) (n := d + 1) (by omega) ⟨g, lo, none⟩ (fun _ => rfl) (d + 1)
    rw [show lo + (d + 1) - lo = d + 1 by omega]
    have k0 : (0 : Int) ≤ (lo : Int) := by omega
    have k1 : (lo : Int) + ((d : Int) + 1) ≤ (cap : Int) := by omega
    have k2 : lo + (d + 1) - lo = d + 1 := by omega
    generalize mk (List.take (d + 1) (List.drop lo l)) = res at *
    clear hR h4
    go_enter Tryd.func32, Tryd.ntmps32
    go_wp2
    go_ret
    exact ⟨rfl, rfl⟩
end Go.Proofs.YtefpaebbendnmaaDoor
