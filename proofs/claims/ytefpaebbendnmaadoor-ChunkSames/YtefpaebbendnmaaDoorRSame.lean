/- Proved: what the document's Same answers. -/
import Derived.Test.YtefpaebbendnmaaDoorSam
import Derived.Test.YtefpaebbendnmaaDoorRSam
namespace Go.Proofs.YtefpaebbendnmaaDoor
open Go.RowKit
open Ck (T cnt cntZ zs pc chunks same sameK)
set_option maxHeartbeats 4000000 in
set_option maxRecDepth 20000 in
theorem rsame_any (a b : ByteArray) (w : World) (ha : a.size ≤ 100000) (hb : b.size ≤ 100000) :
    Calls Tryd.prog 9 #[.string a, .string b] w fun e w' => ∃ v, e = .returned v ∧ OwnN w' w.heap.size v (same (bl a) (bl b)) ∧ Below w.heap.size w w' := by
  have HS1 : Hid (∀ W, Calls Tryd.prog 16 #[.string b] W fun e w' => ∃ v, e = .returned v ∧ OwnT w' W.heap.size v (chunks (bl b)) ∧ Below W.heap.size W w') := fun W => rsplit_any b W hb
  have HS2 : Hid (∀ W, Calls Tryd.prog 16 #[.string a] W fun e w' => ∃ v, e = .returned v ∧ OwnT w' W.heap.size v (chunks (bl a)) ∧ Below W.heap.size W w') := fun W => rsplit_any a W ha
  obtain ⟨c1, hc1⟩ : ∃ c, (chunks (bl a)).length = c := ⟨_, rfl⟩
  obtain ⟨c2, hc2⟩ : ∃ c, (chunks (bl b)).length = c := ⟨_, rfl⟩
  have HL1 : Is (chunks (bl a)).length c1 := ⟨hc1⟩
  have HL2 : Is (chunks (bl b)).length c2 := ⟨hc2⟩
  have HN1 : Is (cnt (bl a).length) c1 := ⟨by rw [← hc1, Ck.chunks_length]⟩
  have HN2 : Is (cnt (bl b).length) c2 := ⟨by rw [← hc2, Ck.chunks_length]⟩
  have hc9 : c1 ≤ 2000 := by have := HN1.eq; unfold cnt at this; rw [bl_length] at this; omega
  have HMIN := (show Hid _ from Ck.same_min (bl a) (bl b))
  rw [HN1.eq, HN2.eq] at HMIN
  clear hc1 hc2
  go_enter Tryd.func9, Tryd.ntmps9
  go_wp2_with fail
  refine (HS2.out w).mono ?_
  rintro e w1 ⟨v1, rfl, hO1, hB1⟩
  have HO1 : Hid (Txts w1 v1 (chunks (bl a))) := hO1.txts
  have HB1 : Hid (Below w.heap.size w w1) := hB1
  clear hO1 hB1 HS2
  go_wp2_with fail
  refine (HS1.out w1).mono ?_
  rintro e w2 ⟨v2, rfl, hO2, hB2⟩
  have h1 := HO1.out.below hB2
  have h2 := hO2.txts
  have HB2 : Hid (Below w.heap.size w w2) := below_next HB1.out hB2 HB1.out.size
  obtain ⟨ad2, cap2, rfl, e3, e4, hcell2⟩ := h1.sl
  obtain ⟨ad1, cap1, rfl, e1, e2, hcell1⟩ := h2.sl
  have HC1 := (show Hid _ from hcell1)
  have HC2 := (show Hid _ from hcell2)
  clear h1 h2 hO2 hB2 HS1 HO1 HB1 hcell1 hcell2
  rw [HL1.eq] at e3 ⊢
  rw [HL2.eq] at e1 ⊢
  go_wp2_with fail
  go_loopw [7, 8] (fun s7 s8 wr => ∃ k : Nat, k ≤ c1 ∧ k ≤ c2 ∧ s8 = .int .i64 (k : Int) ∧ OwnN wr w2.heap.size s7 (sameK (bl a) (bl b) k) ∧ Below w2.heap.size w2 wr) (fun _ s8 _ => c1 - (intOf s8).toNat)
  case atStart => exact ⟨0, by omega, by omega, rfl, World.ownsRow_nil _ _ _ _, Below.refl _ _⟩
  case round =>
    obtain ⟨k, hk, hk2, rfl, hO, hB⟩ := hrel
    have HO : Hid (OwnN wr w2.heap.size u7 (sameK (bl a) (bl b) k)) := hO
    have HB : Hid (Below w2.heap.size w2 wr) := hB
    clear hO hB
    have j0 : (0 : Int) ≤ (k : Int) := Int.natCast_nonneg _
    by_cases hlt : k < c1 ∧ k < c2
    · obtain ⟨hl1, hl2⟩ := hlt
      have i0 : (k : Int) < (c1 : Int) := by omega
      have d0 : decide ((k : Int) < (c1 : Int)) = true := decide_eq_true i0
      have i1 : (k : Int) < (c2 : Int) := by omega
      have d1 : decide ((k : Int) < (c2 : Int)) = true := decide_eq_true i1
      obtain ⟨g2, o2, rfl, hg2, hcl2⟩ := HC2.out (by rw [HL1.eq]; omega)
      have hld2 : wr.cell? ⟨g2, o2 + k, none⟩ = some (.string (mk (pc (bl a) k))) := (HB.out.cell (p := ⟨g2, o2 + k, none⟩) hg2).trans (hcl2 k _ (Ck.chunks_get _ (by rw [HN1.eq]; exact hl1)))
      clear hcl2
      obtain ⟨g1, o1, rfl, hg1, hcl1⟩ := HC1.out (by rw [HL2.eq]; omega)
      have hld1 : wr.cell? ⟨g1, o1 + k, none⟩ = some (.string (mk (pc (bl b) k))) := (HB.out.cell (p := ⟨g1, o1 + k, none⟩) hg1).trans (hcl1 k _ (Ck.chunks_get _ (by rw [HN2.eq]; exact hl2)))
      clear hcl1
      have hq := eq_mk (pc (bl a) k) (pc (bl b) k)
      by_cases he : pc (bl a) k = pc (bl b) k
      · have hq2 : (pc (bl a) k == pc (bl b) k) = true := by rw [beq_iff_eq]; exact he
        rw [hq2] at hq
        have HS : Is (sameK (bl a) (bl b) (k + 1)) (sameK (bl a) (bl b) k ++ [k]) := ⟨Ck.sameK_yes (by rw [HN2.eq]; exact hl2) he⟩
        have hlen := Ck.sameK_length (bl a) (bl b) k
        clear hq2 he
        generalize sameK (bl a) (bl b) k = L at *
        generalize mk (pc (bl a) k) = sx at *
        generalize mk (pc (bl b) k) = sy at *
        have HLN : Hid (L.length ≤ k) := hlen
        clear hlen
        obtain ⟨ad3, c3, hv3⟩ := own_slice HO.out
        subst hv3
        have A2 : Hid (L.length ≤ 1000000) := by have := HLN.out; show L.length ≤ 1000000; omega
        go_wp2_with fail
        go_quiet (fail)
        have A1 : Hid (OwnN ((wr.drewN nq).alloc (.cells #[nv k] 3)) w2.heap.size (.slice ad3 L.length c3) L) := own_alloc HO.out _
        have A3 : Hid (w2.heap.size ≤ ((wr.drewN nq).alloc (.cells #[nv k] 3)).heap.size) := Nat.le_trans HB.out.size (by simp)
        have A4 : Hid (∀ v' w', OwnN w' w2.heap.size v' (L ++ [k]) → Below w2.heap.size ((wr.drewN nq).alloc (.cells #[nv k] 3)) w' → OwnN w' w2.heap.size v' (sameK (bl a) (bl b) (k + 1)) ∧ Below w2.heap.size w2 w') := fun v' w' h1 h2 => ⟨by rw [HS.eq]; exact h1, ((below_drewN HB.out nq).alloc HB.out.size _).trans h2⟩
        go_wp2_with (first
          | (at_builtin
             refine app_num rfl (.tmp 34) (.tmp 36) rfl ((wr.drewN nq).alloc (.cells #[nv k] 3)) w2.heap.size (.slice ad3 L.length c3) L k rfl A1.out ⟨wr.heap.size, 0, none⟩ 1 rfl (one_new (wr.drewN nq) (nv k) 3) A2.out A3.out ?_
             intro v' w' hO' hB'
             have HO' := (show Hid _ from A4.out v' w' hO' hB')
             clear hO' hB'))
        have HFN : ∃ k' : Nat, k' ≤ c1 ∧ k' ≤ c2 ∧ Value.int .i64 ((k : Int) + 1) = .int .i64 (k' : Int) ∧ OwnN w' w2.heap.size v' (sameK (bl a) (bl b) k') ∧ Below w2.heap.size w2 w' := ⟨k + 1, by omega, by omega, by go_num, HO'.out⟩
        go_roundw
        case rel => first | exact HFN | ((repeat apply Exists.intro); exact ⟨HFN, rfl⟩)
        case measure => (simp [intOf]) <;> omega
      · have hq2 : (pc (bl a) k == pc (bl b) k) = false := by rw [beq_eq_false_iff_ne]; exact he
        rw [hq2] at hq
        have HS : Is (sameK (bl a) (bl b) (k + 1)) (sameK (bl a) (bl b) k) := ⟨Ck.sameK_no (fun h => he h.2)⟩
        clear hq2 he
        generalize mk (pc (bl a) k) = sx at *
        generalize mk (pc (bl b) k) = sy at *
        go_wp2_with fail
        go_quiet (fail)
        have HFN : ∃ k' : Nat, k' ≤ c1 ∧ k' ≤ c2 ∧ Value.int .i64 ((k : Int) + 1) = .int .i64 (k' : Int) ∧ OwnN (wr.drewN nq) w2.heap.size u7 (sameK (bl a) (bl b) k') ∧ Below w2.heap.size w2 (wr.drewN nq) := ⟨k + 1, by omega, by omega, by go_num, by rw [HS.eq]; exact HO.out, below_drewN HB.out nq⟩
        go_wp2
        go_roundw
        case rel => first | exact HFN | ((repeat apply Exists.intro); exact ⟨HFN, rfl⟩)
        case measure => (simp [intOf]) <;> omega
    · have HF : Hid (OwnN wr w.heap.size u7 (same (bl a) (bl b))) := by
        have h := own_base HO.out HB2.out.size
        rw [show k = min c1 c2 by omega, HMIN.out] at h
        exact h
      have HFB : Hid (Below w.heap.size w wr) := below_next HB2.out HB.out HB2.out.size
      by_cases h1 : k < c1
      · have i0 : (k : Int) < (c1 : Int) := by omega
        have d0 : decide ((k : Int) < (c1 : Int)) = true := decide_eq_true i0
        have i1 : ¬ (k : Int) < (c2 : Int) := by omega
        have d1 : decide ((k : Int) < (c2 : Int)) = false := decide_eq_false i1
        go_wp2
        go_ret
        exact ⟨_, rfl, HF.out, HFB.out⟩
      · have i0 : ¬ (k : Int) < (c1 : Int) := by omega
        have d0 : decide ((k : Int) < (c1 : Int)) = false := decide_eq_false i0
        go_wp2
        go_ret
        exact ⟨_, rfl, HF.out, HFB.out⟩
end Go.Proofs.YtefpaebbendnmaaDoor
