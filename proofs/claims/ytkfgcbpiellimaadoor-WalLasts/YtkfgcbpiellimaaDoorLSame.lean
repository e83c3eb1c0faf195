/- Proved: what the laws' comparison of two lists of texts answers. -/
import Derived.Test.YtkfgcbpiellimaaDoorPOpen
namespace Go.Proofs.YtkfgcbpiellimaaDoor
open Go.RowKit
theorem toList_ne {a b : ByteArray} (h : ¬ a = b) : (a.toList == b.toList) = false := by
  rw [beq_eq_false_iff_ne]
  intro e
  exact h (Wl.ext_list (by rw [ByteArray.toList_eq, ByteArray.toList_eq] at e; exact e))
set_option maxHeartbeats 2000000 in
set_option maxRecDepth 20000 in
theorem same_any (u v : Value) (xs ys : List ByteArray) (w : World) (hx : OwnS w 0 u xs) (hy : OwnS w 0 v ys) :
    Calls Tryd.prog 19 #[u, v] w fun e w' => e = .returned (.bool (decide (xs = ys))) ∧ Below w.heap.size w w' ∧ w'.heap.size = w.heap.size := by
  obtain ⟨ua, uc, hu, hu1, hu2, hu3⟩ := own_strs hx
  obtain ⟨va, vc, hv, hv1, hv2, hv3⟩ := own_strs hy
  have HU : Hid (0 < xs.length → ∃ g, ua = some ⟨g, 0, none⟩ ∧ u.ownBlock = some g ∧ ∀ i r, xs[i]? = some r → w.cell? ⟨g, i, none⟩ = some (.string r)) := hu3
  have HV : Hid (0 < ys.length → ∃ g, va = some ⟨g, 0, none⟩ ∧ v.ownBlock = some g ∧ ∀ i r, ys[i]? = some r → w.cell? ⟨g, i, none⟩ = some (.string r)) := hv3
  clear hx hy hu3 hv3
  subst hu
  subst hv
  by_cases hl : xs.length = ys.length
  · have hb : ((xs.length : Int) != (ys.length : Int)) = false := by simp [hl]
    go_enter Tryd.func19, Tryd.ntmps19
    go_wp2_with fail
    go_loopw [5] (fun s5 wr => ∃ k : Nat, k ≤ xs.length ∧ s5 = .int .i64 (k : Int) ∧ xs.take k = ys.take k ∧ ∃ n, wr = w.drewN n) (fun s5 _ => xs.length - (intOf s5).toNat)
    case atStart => exact ⟨0, by omega, rfl, by simp, 0, rfl⟩
    case round =>
      obtain ⟨k, hk, rfl, htk, m, hwr⟩ := hrel
      have HTK : Hid (xs.take k = ys.take k) := htk
      clear htk hb
      by_cases hkl : k < xs.length
      · have dk : decide ((k : Int) < (xs.length : Int)) = true := decide_eq_true (by omega)
        obtain ⟨g1, rfl, _, hc1⟩ := HU.out (by omega)
        obtain ⟨g2, rfl, _, hc2⟩ := HV.out (by omega)
        obtain ⟨r, hr⟩ : ∃ r, xs[k]? = some r := ⟨_, List.getElem?_eq_getElem hkl⟩
        obtain ⟨r', hr'⟩ : ∃ r', ys[k]? = some r' := ⟨_, List.getElem?_eq_getElem (by omega)⟩
        have q1 : wr.cell? ⟨g1, k, none⟩ = some (.string r) := by rw [hwr]; exact hc1 k r hr
        have q2 : wr.cell? ⟨g2, k, none⟩ = some (.string r') := by rw [hwr]; exact hc2 k r' hr'
        have k0 : (0 : Int) ≤ (k : Int) := by omega
        have k1 : (k : Int) < (xs.length : Int) := by omega
        have k2 : (k : Int) < (ys.length : Int) := by omega
        have HR : Hid (xs[k]? = some r ∧ ys[k]? = some r') := ⟨hr, hr'⟩
        have HW : Hid (wr = w.drewN m) := hwr
        clear hr hr' hc1 hc2 hwr
        by_cases he : r = r'
        · subst he
          have HFN : Hid (∀ W, (∃ n, W = wr.drewN n) → ∃ k' : Nat, k' ≤ xs.length ∧ Value.int .i64 ((k : Int) + 1) = .int .i64 (k' : Int) ∧ xs.take k' = ys.take k' ∧ ∃ n, W = w.drewN n) := fun W ⟨n, hW⟩ => ⟨k + 1, by omega, by go_num, by
            have h1 := HR.out.1
            have h2 := HR.out.2
            obtain ⟨a1, b1⟩ := List.getElem?_eq_some_iff.1 h1
            obtain ⟨a2, b2⟩ := List.getElem?_eq_some_iff.1 h2
            rw [List.take_succ_eq_append_getElem a1, List.take_succ_eq_append_getElem a2, HTK.out, b1, b2], by rw [hW, HW.out]; exact ⟨m + n, by simp [World.drewN, Nat.add_assoc]⟩⟩
          go_wp2_with fail
          go_quiet (fail)
          go_wp2
          go_roundw
          case rel => first | exact HFN.out _ ⟨_, rfl⟩ | ((repeat apply Exists.intro); exact ⟨HFN.out _ ⟨_, rfl⟩, rfl⟩)
          case measure => (simp [intOf]) <;> omega
        · have hne := toList_ne he
          have HFN : Hid (∀ W, (∃ n, W = wr.drewN n) → Value.bool false = .bool (decide (xs = ys)) ∧ Below w.heap.size w W ∧ W.heap.size = w.heap.size) := fun W ⟨n, hW⟩ => ⟨by
            rw [decide_eq_false]
            intro e
            have h1 := HR.out.1
            rw [e, HR.out.2] at h1
            exact he (Option.some.inj h1).symm, by rw [hW, HW.out]; exact ⟨rfl, rfl, rfl, Nat.le_refl _, fun _ _ => rfl⟩, by rw [hW, HW.out]; rfl⟩
          go_wp2_with fail
          go_quiet (fail)
          go_wp2
          go_ret
          obtain ⟨h1, h2⟩ := HFN.out _ ⟨nq, rfl⟩
          exact ⟨congrArg Ending.returned h1, h2⟩
      · have dk : decide ((k : Int) < (xs.length : Int)) = false := decide_eq_false (by omega)
        have HFN : Hid (decide (xs = ys) = true ∧ Below w.heap.size w wr ∧ wr.heap.size = w.heap.size) := by
          have := HTK.out
          rw [List.take_of_length_le (by omega), List.take_of_length_le (by omega)] at this
          exact ⟨decide_eq_true this, by rw [hwr]; exact ⟨rfl, rfl, rfl, Nat.le_refl _, fun _ _ => rfl⟩, by rw [hwr]; rfl⟩
        clear hwr
        go_wp2
        go_ret
        exact ⟨by rw [HFN.out.1]; rfl, HFN.out.2⟩
  · have hb : ((xs.length : Int) != (ys.length : Int)) = true := by simp; omega
    have HE : Hid (decide (xs = ys) = false) := decide_eq_false (fun e => hl (by rw [e]))
    clear hl
    go_enter Tryd.func19, Tryd.ntmps19
    go_wp2
    go_ret
    exact ⟨by rw [HE.out]; rfl, Below.refl _ _, rfl⟩
end Go.Proofs.YtkfgcbpiellimaaDoor
