/- Proved: appendNumber puts a number's bytes behind a slice of the call's own. -/
import Derived.Test.YtpbobmhffdmmmaaBts
namespace Go.Proofs.Ytpbobmhffdmmmaa
open Go.RowKit
theorem one_cells (w : World) (z : Int) (b : Nat) (hz : z = (b : Int)) : ∀ j u, ([b].map V8)[j]? = some u → (w.alloc (.cells #[.int .u8 z] 5)).cell? ((⟨w.heap.size, 0, none⟩ : Addr).add j) = some u := by
  obtain ⟨g, cap, hv, _, _, _, h⟩ := own_at (one_own w z b hz) (by omega)
  cases hv
  exact h
theorem own_alloc8 {w : World} {N n : Nat} {v : Value} {vs : List Value} (h : w.ownsRow N 5 1 v n vs) (o : Obj) : (w.alloc o).ownsRow N 5 1 v n vs := owns8_below h ((Below.refl w.heap.size w).alloc (Nat.le_refl _) o) rfl
set_option maxHeartbeats 1000000 in
set_option maxRecDepth 20000 in
theorem anum_any (w : World) (N : Nat) (v : Value) (n : Nat) (vs : List Nat) (m : Nat) (hown : w.ownsRow N 5 1 v n (vs.map V8)) (hN : N ≤ w.heap.size) (hm : m ≤ 9223372036854775807) (hn : n ≤ 300000) :
    Calls Try.prog 31 #[v, .int .i64 (m : Int)] w fun e w' => ∃ v', e = .returned v' ∧ w'.ownsRow N 5 1 v' (n + (Fi.varint m).length) ((vs ++ Fi.varint m).map V8) ∧ Grew w v w' v' := by
  have HO : Hid (w.ownsRow N 5 1 v n (vs.map V8)) := hown
  have hl : vs.length = n := by simpa using hown.1
  have HL := varint_room m hm
  clear hown
  go_enter Try.func31, Try.ntmps31
  go_wp2_with fail
  go_loopw [0, 1] (fun s0 s1 wr => ∃ (k : Nat) (us : List Nat), k ≤ 9223372036854775807 ∧ s1 = .int .i64 k ∧ us ++ Fi.varint k = vs ++ Fi.varint m ∧ wr.ownsRow N 5 1 s0 us.length (us.map V8) ∧ Grew w v wr s0 ∧ N ≤ wr.heap.size) (fun _ s1 _ => (intOf s1).toNat)
  case atStart => exact ⟨m, vs, hm, rfl, rfl, by rw [hl]; exact HO.out, Grew.refl _ _, hN⟩
  case round =>
    obtain ⟨k, us, hk, rfl, hus, hO, hB, hNr⟩ := hrel
    have hlen : us.length + (Fi.varint k).length = n + (Fi.varint m).length := by
      have := congrArg List.length hus
      simp at this
      omega
    have HU : Hid (us ++ Fi.varint k = vs ++ Fi.varint m) := hus
    have HO2 : Hid (wr.ownsRow N 5 1 _ us.length (us.map V8)) := hO
    have HB : Hid (Grew w v wr _) := hB
    clear hus hO hB HO
    by_cases hlt : k < 128
    · have h1 : ¬ (128 : Int) ≤ (k : Int) := by omega
      have HC : Hid (∀ j u, ([k].map V8)[j]? = some u → (wr.alloc (.cells #[.int .u8 (k : Int)] 5)).cell? ((⟨wr.heap.size, 0, none⟩ : Addr).add j) = some u) := one_cells wr _ k rfl
      have HV : Is (Fi.varint k) [k] := ⟨Fi.varint_small hlt⟩
      rw [HV.eq] at HU hlen
      simp only [List.length_singleton] at hlen
      have HLN : Is (us.length + 1) (n + (Fi.varint m).length) := ⟨hlen⟩
      clear hlen
      go_wp2_with (first | (refine app_bytes rfl (.tmp 16) (.tmp 19) rfl _ N _ us.length us rfl (own_alloc8 HO2.out _) ⟨wr.heap.size, 0, none⟩ 1 1 [k] rfl rfl HC.out (by have := HLN.eq; omega) (by simp; omega) ?_; intro v' w' hO4 hB4))
      go_ret
      rw [HLN.eq, HU.out, List.map_append] at hO4
      exact ⟨_, rfl, hO4, HB.out.trans (((Grew.refl wr _).alloc _).trans hB4)⟩
    · have h1 : (128 : Int) ≤ (k : Int) := by omega
      obtain ⟨q, hq⟩ : ∃ q, q = k / 128 := ⟨_, rfl⟩
      obtain ⟨r, hr⟩ : ∃ r, r = k % 128 := ⟨_, rfl⟩
      have eq1 : (k : Int) / 128 = (q : Int) := by omega
      have eq2 : (k : Int).tdiv 128 = (q : Int) := by rw [Int.tdiv_eq_ediv_of_nonneg (by omega)]; omega
      have er1 : (k : Int) % 128 = (r : Int) := by omega
      have er2 : (k : Int).tmod 128 = (r : Int) := by rw [Int.tmod_eq_emod_of_nonneg (by omega)]; omega
      have hr128 : r < 128 := by omega
      have hqk : q < k := by omega
      have HV : Is (Fi.varint k) ((128 + r) :: Fi.varint q) := ⟨by rw [hq, hr]; exact Fi.varint_large hlt⟩
      clear hq hr
      have HC : Hid (∀ j u, ([128 + r].map V8)[j]? = some u → (wr.alloc (.cells #[.int .u8 ((r : Int) + 128)] 5)).cell? ((⟨wr.heap.size, 0, none⟩ : Addr).add j) = some u) := one_cells wr _ (128 + r) (by omega)
      rw [HV.eq] at HU hlen
      simp only [List.length_cons] at hlen
      go_wp2_with (first | (refine app_bytes rfl (.tmp 7) (.tmp 12) rfl _ N _ us.length us rfl (own_alloc8 HO2.out _) ⟨wr.heap.size, 0, none⟩ 1 1 [128 + r] rfl rfl HC.out (by omega) (by simp; omega) ?_; intro v' w' hO4 hB4))
      go_roundw
      case rel =>
        refine ⟨q, us ++ [128 + r], by omega, rfl, ?_, ?_, HB.out.trans (((Grew.refl wr _).alloc _).trans hB4), ?_⟩
        · rw [List.append_assoc]; exact HU.out
        · rw [List.length_append]; exact hO4
        · have := hB4.by_.size
          rw [size_alloc1] at this
          omega
      case measure => (simp [intOf]) <;> omega
end Go.Proofs.Ytpbobmhffdmmmaa
