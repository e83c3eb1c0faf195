/- Proved: what the document's Read, SameTexts, SameNums and Join answer. -/
import Derived.Test.YtefpaebbendnmaaRChg
namespace Go.Proofs.Ytefpaebbendnmaa
open Go.RowKit
open Ck (T cnt cntZ zs rd rdE rdT chunks jok joinE joinT Ok)
set_option maxHeartbeats 1000000 in
theorem rread_any (s : ByteArray) (o n : Int) (w : World) (hs : s.size ≤ 9223372036854775807) (hn : n ≤ 9223372036854775807) :
    Calls Try.prog 24 #[.string s, .int .i64 o, .int .i64 n] w fun e w' => e = .returned (.tuple #[.string (mk (rdT (bl s) o n)), .int .i64 (rdE (bl s) o n : Nat)]) ∧ w' = w := by
  by_cases h1 : 4096 < s.size
  · have e : rdE (bl s) o n = 3 := by unfold rdE; rw [bl_length, if_pos h1]
    have e2 : rdT (bl s) o n = [] := by unfold rdT; rw [e]; rfl
    rw [e, e2]
    clear e e2
    have a1 : decide ((4096 : Int) < (s.size : Int)) = true := decide_eq_true (by omega)
    go_enter Try.func24, Try.ntmps24
    go_wp2
    go_ret2
    exact ⟨rfl, rfl⟩
  · have a1 : decide ((4096 : Int) < (s.size : Int)) = false := decide_eq_false (by omega)
    by_cases h2 : o < 0 ∨ n < 0 ∨ (s.size : Int) < o
    · have e : rdE (bl s) o n = 2 := by unfold rdE; rw [bl_length, if_neg h1, if_pos h2]
      have e2 : rdT (bl s) o n = [] := by unfold rdT; rw [e]; rfl
      rw [e, e2]
      clear e e2
      by_cases b1 : o < 0
      · clear h2
        go_enter Try.func24, Try.ntmps24
        go_wp2
        go_ret2
        exact ⟨rfl, rfl⟩
      · by_cases b2 : n < 0
        · clear h2
          go_enter Try.func24, Try.ntmps24
          go_wp2
          go_ret2
          exact ⟨rfl, rfl⟩
        · have b3 : (s.size : Int) < o := by omega
          clear h2
          go_enter Try.func24, Try.ntmps24
          go_wp2
          go_ret2
          exact ⟨rfl, rfl⟩
    · obtain ⟨k, rfl⟩ : ∃ k : Nat, o = (k : Int) := ⟨o.toNat, by omega⟩
      obtain ⟨j, rfl⟩ : ∃ j : Nat, n = (j : Int) := ⟨n.toNat, by omega⟩
      have e : rdE (bl s) k j = 0 := rdE_nat (by rw [bl_length]; omega) (by rw [bl_length]; omega)
      have e2 : rdT (bl s) k j = rd (bl s) k j := by unfold rdT; rw [e]; rfl
      rw [e, e2]
      exact rread_yes s k j w (by omega) (by omega) (by omega)
theorem nv_ne {x y : Nat} (h : x ≠ y) : ((x : Int) != (y : Int)) = true := by simp; omega
set_option maxHeartbeats 2000000 in
set_option maxRecDepth 20000 in
theorem rtexts_any (u v : Value) (xs ys : List T) (w : World) (hx : Txts w u xs) (hy : Txts w v ys) :
    Calls Try.prog 13 #[u, v] w fun e w' => e = .returned (.bool (xs == ys)) ∧ Below w.heap.size w w' := by
  obtain ⟨ua, uc, rfl, hu1, hu2, hu3⟩ := hx.sl
  obtain ⟨va, vc, rfl, hv1, hv2, hv3⟩ := hy.sl
  have HU := (show Hid _ from hu3)
  have HV := (show Hid _ from hv3)
  clear hx hy hu3 hv3
  by_cases hl : xs.length = ys.length
  · have hb : ((xs.length : Int) != (ys.length : Int)) = false := by simp [hl]
    go_enter Try.func13, Try.ntmps13
    go_wp2_with fail
    go_loopw [5] (fun s5 wr => ∃ k : Nat, k ≤ xs.length ∧ s5 = .int .i64 (k : Int) ∧ xs.take k = ys.take k ∧ ∃ n, wr = w.drewN n) (fun s5 _ => xs.length - (intOf s5).toNat)
    case atStart => exact ⟨0, by omega, rfl, by simp, 0, rfl⟩
    case round =>
      obtain ⟨k, hk, rfl, htk, m, hwr⟩ := hrel
      have HTK : Hid (xs.take k = ys.take k) := htk
      clear htk hb
      by_cases hkl : k < xs.length
      · have dk : decide ((k : Int) < (xs.length : Int)) = true := decide_eq_true (by omega)
        obtain ⟨g1, o1, rfl, _, hc1⟩ := HU.out (by omega)
        obtain ⟨g2, o2, rfl, _, hc2⟩ := HV.out (by omega)
        obtain ⟨r, hr⟩ : ∃ r, xs[k]? = some r := ⟨_, List.getElem?_eq_getElem hkl⟩
        obtain ⟨r', hr'⟩ : ∃ r', ys[k]? = some r' := ⟨_, List.getElem?_eq_getElem (by omega)⟩
        have q1 : wr.cell? ⟨g1, o1 + k, none⟩ = some (.string (mk r)) := by rw [hwr]; exact hc1 k r hr
        have q2 : wr.cell? ⟨g2, o2 + k, none⟩ = some (.string (mk r')) := by rw [hwr]; exact hc2 k r' hr'
        have k0 : (0 : Int) ≤ (k : Int) := by omega
        have k1 : (k : Int) < (xs.length : Int) := by omega
        have k2 : (k : Int) < (ys.length : Int) := by omega
        have HR : Hid (xs[k]? = some r ∧ ys[k]? = some r') := ⟨hr, hr'⟩
        have HW : Hid (wr = w.drewN m) := hwr
        clear hr hr' hc1 hc2 hwr
        by_cases he : r = r'
        · subst he
          have HFN : Hid (∀ W, (∃ n, W = wr.drewN n) → ∃ k' : Nat, k' ≤ xs.length ∧ Value.int .i64 ((k : Int) + 1) = .int .i64 (k' : Int) ∧ xs.take k' = ys.take k' ∧ ∃ n, W = w.drewN n) := fun W ⟨n, hW⟩ => ⟨k + 1, by omega, by go_num, by
            have h1 := HR.out.1
            have h2 := HR.out.2
            obtain ⟨a1, b1⟩ := List.getElem?_eq_some_iff.1 h1
            obtain ⟨a2, b2⟩ := List.getElem?_eq_some_iff.1 h2
            rw [List.take_succ_eq_append_getElem a1, List.take_succ_eq_append_getElem a2, HTK.out, b1, b2], by rw [hW, HW.out]; exact ⟨m + n, by simp [World.drewN, Nat.add_assoc]⟩⟩
          have hq : ((mk r).toList == (mk r).toList) = true := by simp
          generalize mk r = X at *
          go_wp2_with fail
          go_quiet (fail)
          go_wp2
          go_roundw
          case rel => first | exact HFN.out _ ⟨_, rfl⟩ | ((repeat apply Exists.intro); exact ⟨HFN.out _ ⟨_, rfl⟩, rfl⟩)
          case measure => (simp [intOf]) <;> omega
        · have hq : ((mk r).toList == (mk r').toList) = false := by rw [eq_mk, beq_false_of_ne he]
          have HFN : Hid (∀ W, (∃ n, W = wr.drewN n) → Value.bool false = .bool (xs == ys) ∧ Below w.heap.size w W) := fun W ⟨n, hW⟩ => ⟨by
            rw [beq_false_of_ne]
            intro e
            have h1 := HR.out.1
            rw [e, HR.out.2] at h1
            exact he (Option.some.inj h1).symm, by rw [hW, HW.out]; exact ⟨rfl, rfl, rfl, Nat.le_refl _, fun _ _ => rfl⟩⟩
          generalize mk r = X at *
          generalize mk r' = Y at *
          go_wp2_with fail
          go_quiet (fail)
          go_wp2
          go_ret
          obtain ⟨h1, h2⟩ := HFN.out _ ⟨nq, rfl⟩
          exact ⟨congrArg Ending.returned h1, h2⟩
      · have dk : decide ((k : Int) < (xs.length : Int)) = false := decide_eq_false (by omega)
        have HFN : Hid ((xs == ys) = true ∧ Below w.heap.size w wr) := by
          have := HTK.out
          rw [List.take_of_length_le (by omega), List.take_of_length_le (by omega)] at this
          exact ⟨by rw [beq_iff_eq]; exact this, by rw [hwr]; exact ⟨rfl, rfl, rfl, Nat.le_refl _, fun _ _ => rfl⟩⟩
        clear hwr
        go_wp2
        go_ret
        exact ⟨by rw [HFN.out.1]; rfl, HFN.out.2⟩
  · have hb : ((xs.length : Int) != (ys.length : Int)) = true := by simp; omega
    have HE : Hid ((xs == ys) = false) := beq_false_of_ne (fun e => hl (by rw [e]))
    clear hl
    go_enter Try.func13, Try.ntmps13
    go_wp2
    go_ret
    exact ⟨by rw [HE.out]; rfl, Below.refl _ _⟩
set_option maxHeartbeats 2000000 in
set_option maxRecDepth 20000 in
theorem rnums_any (u v : Value) (xs ys : List Nat) (w : World) (hx : Nums w u xs) (hy : Nums w v ys) :
    Calls Try.prog 26 #[u, v] w fun e w' => e = .returned (.bool (xs == ys)) ∧ Below w.heap.size w w' := by
  obtain ⟨ua, uc, rfl, hu1, hu2, hu3⟩ := hx.sl
  obtain ⟨va, vc, rfl, hv1, hv2, hv3⟩ := hy.sl
  have HU := (show Hid _ from hu3)
  have HV := (show Hid _ from hv3)
  clear hx hy hu3 hv3
  by_cases hl : xs.length = ys.length
  · have hb : ((xs.length : Int) != (ys.length : Int)) = false := by simp [hl]
    go_enter Try.func26, Try.ntmps26
    go_wp2_with fail
    go_loopw [5] (fun s5 wr => ∃ k : Nat, k ≤ xs.length ∧ s5 = .int .i64 (k : Int) ∧ xs.take k = ys.take k ∧ ∃ n, wr = w.drewN n) (fun s5 _ => xs.length - (intOf s5).toNat)
    case atStart => exact ⟨0, by omega, rfl, by simp, 0, rfl⟩
    case round =>
      obtain ⟨k, hk, rfl, htk, m, hwr⟩ := hrel
      have HTK : Hid (xs.take k = ys.take k) := htk
      clear htk hb
      by_cases hkl : k < xs.length
      · have dk : decide ((k : Int) < (xs.length : Int)) = true := decide_eq_true (by omega)
        obtain ⟨g1, o1, rfl, _, hc1⟩ := HU.out (by omega)
        obtain ⟨g2, o2, rfl, _, hc2⟩ := HV.out (by omega)
        obtain ⟨r, hr⟩ : ∃ r, xs[k]? = some r := ⟨_, List.getElem?_eq_getElem hkl⟩
        obtain ⟨r', hr'⟩ : ∃ r', ys[k]? = some r' := ⟨_, List.getElem?_eq_getElem (by omega)⟩
        have q1 : wr.cell? ⟨g1, o1 + k, none⟩ = some (.int .i64 (r : Int)) := by rw [hwr]; exact hc1 k r hr
        have q2 : wr.cell? ⟨g2, o2 + k, none⟩ = some (.int .i64 (r' : Int)) := by rw [hwr]; exact hc2 k r' hr'
        have k0 : (0 : Int) ≤ (k : Int) := by omega
        have k1 : (k : Int) < (xs.length : Int) := by omega
        have k2 : (k : Int) < (ys.length : Int) := by omega
        have HR : Hid (xs[k]? = some r ∧ ys[k]? = some r') := ⟨hr, hr'⟩
        have HW : Hid (wr = w.drewN m) := hwr
        clear hr hr' hc1 hc2 hwr
        by_cases he : r = r'
        · subst he
          have HFN : Hid (∀ W, (∃ n, W = wr.drewN n) → ∃ k' : Nat, k' ≤ xs.length ∧ Value.int .i64 ((k : Int) + 1) = .int .i64 (k' : Int) ∧ xs.take k' = ys.take k' ∧ ∃ n, W = w.drewN n) := fun W ⟨n, hW⟩ => ⟨k + 1, by omega, by go_num, by
            have h1 := HR.out.1
            have h2 := HR.out.2
            obtain ⟨a1, b1⟩ := List.getElem?_eq_some_iff.1 h1
            obtain ⟨a2, b2⟩ := List.getElem?_eq_some_iff.1 h2
            rw [List.take_succ_eq_append_getElem a1, List.take_succ_eq_append_getElem a2, HTK.out, b1, b2], by rw [hW, HW.out]; exact ⟨m + n, by simp [World.drewN, Nat.add_assoc]⟩⟩
          have hq : ((r : Int) != (r : Int)) = false := by simp
          generalize (r : Int) = X at *
          go_wp2_with fail
          go_quiet (fail)
          go_wp2
          go_roundw
          case rel => first | exact HFN.out _ ⟨_, rfl⟩ | ((repeat apply Exists.intro); exact ⟨HFN.out _ ⟨_, rfl⟩, rfl⟩)
          case measure => (simp [intOf]) <;> omega
        · have hq : ((r : Int) != (r' : Int)) = true := nv_ne he
          have HFN : Hid (∀ W, (∃ n, W = wr.drewN n) → Value.bool false = .bool (xs == ys) ∧ Below w.heap.size w W) := fun W ⟨n, hW⟩ => ⟨by
            rw [beq_false_of_ne]
            intro e
            have h1 := HR.out.1
            rw [e, HR.out.2] at h1
            exact he (Option.some.inj h1).symm, by rw [hW, HW.out]; exact ⟨rfl, rfl, rfl, Nat.le_refl _, fun _ _ => rfl⟩⟩
          generalize (r : Int) = X at *
          generalize (r' : Int) = Y at *
          go_wp2_with fail
          go_quiet (fail)
          go_wp2
          go_ret
          obtain ⟨h1, h2⟩ := HFN.out _ ⟨nq, rfl⟩
          exact ⟨congrArg Ending.returned h1, h2⟩
      · have dk : decide ((k : Int) < (xs.length : Int)) = false := decide_eq_false (by omega)
        have HFN : Hid ((xs == ys) = true ∧ Below w.heap.size w wr) := by
          have := HTK.out
          rw [List.take_of_length_le (by omega), List.take_of_length_le (by omega)] at this
          exact ⟨by rw [beq_iff_eq]; exact this, by rw [hwr]; exact ⟨rfl, rfl, rfl, Nat.le_refl _, fun _ _ => rfl⟩⟩
        clear hwr
        go_wp2
        go_ret
        exact ⟨by rw [HFN.out.1]; rfl, HFN.out.2⟩
  · have hb : ((xs.length : Int) != (ys.length : Int)) = true := by simp; omega
    have HE : Hid ((xs == ys) = false) := beq_false_of_ne (fun e => hl (by rw [e]))
    clear hl
    go_enter Try.func26, Try.ntmps26
    go_wp2
    go_ret
    exact ⟨by rw [HE.out]; rfl, Below.refl _ _⟩
end Go.Proofs.Ytefpaebbendnmaa
