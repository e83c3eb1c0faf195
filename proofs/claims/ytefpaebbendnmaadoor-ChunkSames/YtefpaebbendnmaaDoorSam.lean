/- Proved: what chunk's Same answers: the numbers of the chunks that both have alike. -/
import Derived.Test.YtefpaebbendnmaaDoorApp
namespace Go.Proofs.YtefpaebbendnmaaDoor
open Go.RowKit
open Ck (T cnt cntZ zs pc chunks same sameK)
set_option maxHeartbeats 4000000 in
set_option maxRecDepth 20000 in
theorem same_any (a b : ByteArray) (w : World) (ha : a.size ≤ 100000) (hb : b.size ≤ 100000) :
    Calls Tryd.prog 8 #[.string a, .string b] w fun e w' => ∃ v, e = .returned v ∧ OwnN w' w.heap.size v (same (bl a) (bl b)) ∧ Below w.heap.size w w' := by
  have HS1 : Hid (∀ W, Calls Tryd.prog 15 #[.string b] W fun e w' => ∃ v, e = .returned v ∧ OwnT w' W.heap.size v (chunks (bl b)) ∧ Below W.heap.size W w') := fun W => split_any b W hb
  have HS2 : Hid (∀ W, Calls Tryd.prog 15 #[.string a] W fun e w' => ∃ v, e = .returned v ∧ OwnT w' W.heap.size v (chunks (bl a)) ∧ Below W.heap.size W w') := fun W => split_any a W ha
  obtain ⟨c1, hc1⟩ : ∃ c, (chunks (bl a)).length = c := ⟨_, rfl⟩
  obtain ⟨c2, hc2⟩ : ∃ c, (chunks (bl b)).length = c := ⟨_, rfl⟩
  have HL1 : Is (chunks (bl a)).length c1 := ⟨hc1⟩
  have HL2 : Is (chunks (bl b)).length c2 := ⟨hc2⟩
  have HN1 : Is (cnt (bl a).length) c1 := ⟨by rw [← hc1, Ck.chunks_length]⟩
  have HN2 : Is (cnt (bl b).length) c2 := ⟨by rw [← hc2, Ck.chunks_length]⟩
  have hc9 : c1 ≤ 2000 := by have := HN1.eq; unfold cnt at this; rw [bl_length] at this; omega
  clear hc1 hc2
  go_enter Tryd.func8, Tryd.ntmps8
  go_wp2_with fail
  refine (HS1.out w).mono ?_
  rintro e w1 ⟨v1, rfl, hO1, hB1⟩
  have HO1 : Hid (Txts w1 v1 (chunks (bl b))) := hO1.txts
  have HB1 : Hid (Below w.heap.size w w1) := hB1
  clear hO1 hB1 HS1
  go_wp2_with fail
  refine (HS2.out w1).mono ?_
  rintro e w2 ⟨v2, rfl, hO2, hB2⟩
  have h1 := HO1.out.below hB2
  have h2 := hO2.txts
  have HB2 : Hid (Below w.heap.size w w2) := below_next HB1.out hB2 HB1.out.size
  obtain ⟨ad1, cap1, rfl, e1, e2, hcell1⟩ := h1.sl
  obtain ⟨ad2, cap2, rfl, e3, e4, hcell2⟩ := h2.sl
  have HC1 := (show Hid _ from hcell1)
  have HC2 := (show Hid _ from hcell2)
  clear h1 h2 hO2 hB2 HS2 HO1 HB1 hcell1 hcell2
  rw [HL1.eq] at e3 ⊢
  rw [HL2.eq] at e1 ⊢
  go_wp2_with fail
  go_loopw [5, 7, 8, 14] (fun s5 _ _ s14 wr => ∃ k : Nat, k ≤ c1 ∧ s14 = .int .i64 (k : Int) ∧ OwnN wr w2.heap.size s5 (sameK (bl a) (bl b) k) ∧ Below w2.heap.size w2 wr) (fun _ _ _ s14 _ => c1 - (intOf s14).toNat)
  case atStart => exact ⟨0, by omega, rfl, World.ownsRow_nil _ _ _ _, Below.refl _ _⟩
  case round =>
    obtain ⟨k, hk, rfl, hO, hB⟩ := hrel
    have HO : Hid (OwnN wr w2.heap.size u5 (sameK (bl a) (bl b) k)) := hO
    have HB : Hid (Below w2.heap.size w2 wr) := hB
    clear hO hB
    by_cases hlt : k < c1
    · have i0 : (k : Int) < (c1 : Int) := by omega
      have j0 : (0 : Int) ≤ (k : Int) := Int.natCast_nonneg _
      obtain ⟨g2, o2, rfl, hg2, hcl2⟩ := HC2.out (by rw [HL1.eq]; omega)
      have hld2 : wr.cell? ⟨g2, o2 + k, none⟩ = some (.string (mk (pc (bl a) k))) := (HB.out.cell (p := ⟨g2, o2 + k, none⟩) hg2).trans (hcl2 k _ (Ck.chunks_get _ (by rw [HN1.eq]; exact hlt)))
      clear hcl2
      by_cases h2 : k < c2
      · have i1 : (k : Int) < (c2 : Int) := by omega
        have d1 : decide ((k : Int) < (c2 : Int)) = true := decide_eq_true i1
        obtain ⟨g1, o1, rfl, hg1, hcl1⟩ := HC1.out (by rw [HL2.eq]; omega)
        have hld1 : wr.cell? ⟨g1, o1 + k, none⟩ = some (.string (mk (pc (bl b) k))) := (HB.out.cell (p := ⟨g1, o1 + k, none⟩) hg1).trans (hcl1 k _ (Ck.chunks_get _ (by rw [HN2.eq]; exact h2)))
        clear hcl1
        have hq := eq_mk (pc (bl a) k) (pc (bl b) k)
        by_cases he : pc (bl a) k = pc (bl b) k
        · have hq2 : (pc (bl a) k == pc (bl b) k) = true := by rw [beq_iff_eq]; exact he
          rw [hq2] at hq
          have HS : Is (sameK (bl a) (bl b) (k + 1)) (sameK (bl a) (bl b) k ++ [k]) := ⟨Ck.sameK_yes (by rw [HN2.eq]; exact h2) he⟩
          have hlen := Ck.sameK_length (bl a) (bl b) k
          clear hq2 he
          generalize sameK (bl a) (bl b) k = L at *
          generalize mk (pc (bl a) k) = sx at *
          generalize mk (pc (bl b) k) = sy at *
          have HLN : Hid (L.length ≤ k) := hlen
          clear hlen
          obtain ⟨ad3, c3, hv3⟩ := own_slice HO.out
          subst hv3
          have A1 : Hid (OwnN (wr.alloc (.cells #[nv k] 3)) w2.heap.size (.slice ad3 L.length c3) L) := own_alloc HO.out _
          have A2 : Hid (L.length ≤ 1000000) := by have := HLN.out; show L.length ≤ 1000000; omega
          have A3 : Hid (w2.heap.size ≤ (wr.alloc (.cells #[nv k] 3)).heap.size) := Nat.le_trans HB.out.size (by simp)
          have A4 : Hid (∀ v' w', OwnN w' w2.heap.size v' (L ++ [k]) → Below w2.heap.size (wr.alloc (.cells #[nv k] 3)) w' → OwnN w' w2.heap.size v' (sameK (bl a) (bl b) (k + 1)) ∧ Below w2.heap.size w2 w') := fun v' w' h1 h2 => ⟨by rw [HS.eq]; exact h1, (HB.out.alloc HB.out.size _).trans h2⟩
          go_wp2_with (first
            | (at_builtin
               refine app_num rfl (.tmp 31) (.tmp 33) rfl (wr.alloc (.cells #[nv k] 3)) w2.heap.size (.slice ad3 L.length c3) L k rfl A1.out ⟨wr.heap.size, 0, none⟩ 1 rfl (one_new wr (nv k) 3) A2.out A3.out ?_
               intro v' w' hO' hB'
               have HO' := (show Hid _ from A4.out v' w' hO' hB')
               clear hO' hB'))
          go_roundw
          case rel => exact ⟨k + 1, by omega, by go_num, HO'.out⟩
          case measure => (simp [intOf]) <;> omega
        · have hq2 : (pc (bl a) k == pc (bl b) k) = false := by rw [beq_eq_false_iff_ne]; exact he
          rw [hq2] at hq
          have HS : Is (sameK (bl a) (bl b) (k + 1)) (sameK (bl a) (bl b) k) := ⟨Ck.sameK_no (fun h => he h.2)⟩
          clear hq2 he
          generalize mk (pc (bl a) k) = sx at *
          generalize mk (pc (bl b) k) = sy at *
          go_wp2
          go_roundw
          case rel => exact ⟨k + 1, by omega, by go_num, by rw [HS.eq]; exact HO.out, HB.out⟩
          case measure => (simp [intOf]) <;> omega
      · have i1 : ¬ (k : Int) < (c2 : Int) := by omega
        have d1 : decide ((k : Int) < (c2 : Int)) = false := decide_eq_false i1
        have HS : Is (sameK (bl a) (bl b) (k + 1)) (sameK (bl a) (bl b) k) := ⟨Ck.sameK_no (fun h => h2 (by have := h.1; rw [HN2.eq] at this; exact this))⟩
        generalize mk (pc (bl a) k) = sx at *
        go_wp2
        go_roundw
        case rel => exact ⟨k + 1, by omega, by go_num, by rw [HS.eq]; exact HO.out, HB.out⟩
        case measure => (simp [intOf]) <;> omega
    · obtain rfl : k = c1 := by omega
      have i0 : ¬ (k : Int) < (k : Int) := by omega
      have HF : Hid (OwnN wr w.heap.size u5 (same (bl a) (bl b))) := by
        unfold Ck.same
        rw [HN1.eq]
        exact own_base HO.out HB2.out.size
      have HFB : Hid (Below w.heap.size w wr) := below_next HB2.out HB.out HB2.out.size
      go_wp2
      go_ret
      exact ⟨_, rfl, HF.out, HFB.out⟩
end Go.Proofs.YtefpaebbendnmaaDoor
