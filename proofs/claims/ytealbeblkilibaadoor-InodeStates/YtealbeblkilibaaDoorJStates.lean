/- Proved: the law InodeStates returns true, whatever comes in. -/
import Derived.Test.YtealbeblkilibaaDoorJ12
namespace Go.Proofs.YtealbeblkilibaaDoor
open Go.RowKit
open Ino (Nd Ar)
theorem file_states {n : Nd} (h : Ino.isFile n = true) (a : Ar) : (n.version = 0 → Ino.holl n = false) ∧ (n.version = 0 → Ino.dirt n a true = true) ∧ (n.version ≠ 0 → Ino.dirt n a true = (n.version != a.version)) ∧ Ino.dirt n a false = true ∧ Ino.like n n.size n.sum = true := by
  refine ⟨fun hv => ?_, fun hv => ?_, fun hv => ?_, ?_, ?_⟩
  · unfold Ino.holl
    rw [h, Bool.true_and]
    simp only [Ino.isFile, Bool.and_eq_true, Bool.not_eq_true', Bool.and_eq_false_iff, beq_eq_false_iff_ne, ne_eq] at h
    have := h.2.1
    rcases this with h' | h'
    · simpa using h'
    · exact absurd hv h'
  · unfold Ino.dirt; rw [h, hv]; rfl
  · unfold Ino.dirt; rw [h]; simp [hv]
  · unfold Ino.dirt; rw [h]; rfl
  · unfold Ino.like; rw [h]; simp
set_option maxHeartbeats 4000000 in
set_option maxRecDepth 20000 in
theorem states_walk (n : Nd) (a : Ar) (w : World) (hn : n.sum.length = 32) (ha : a.sum.length = 32) (hT : Tab w) :
    Calls Tryd.prog 8 #[.agg (ndc n), .agg (arc a)] w fun e w' => e = .returned (.bool true) ∧ Below w.heap.size w w' := by
  have HC : Hid (∀ W : World, Calls Tryd.prog 20 #[.agg (ndc n)] W fun e w' => e = .returned (.int .i64 (Ino.chk n : Nat)) ∧ Below W.heap.size W w') := fun W => check_any n W hn
  have HH : Hid (∀ W : World, Calls Tryd.prog 27 #[.agg (ndc n)] W fun e w' => e = .returned (.bool (Ino.holl n)) ∧ Below W.heap.size W w') := fun W => hollow_any n W hn
  have HD : Hid (∀ W : World, Calls Tryd.prog 29 #[.agg (ndc n), .agg (arc a), .bool true] W fun e w' => e = .returned (.bool (Ino.dirt n a true)) ∧ Below W.heap.size W w') := fun W => dirty_any n a true W hn
  have HDf : Hid (∀ W : World, Calls Tryd.prog 29 #[.agg (ndc n), .agg (arc a), .bool false] W fun e w' => e = .returned (.bool (Ino.dirt n a false)) ∧ Below W.heap.size W w') := fun W => dirty_any n a false W hn
  have HL : Hid (∀ W : World, Calls Tryd.prog 31 #[.agg (ndc n), .int .i64 n.size, .agg (n.sum.map c8).toArray] W fun e w' => e = .returned (.bool (Ino.like n n.size n.sum)) ∧ Below W.heap.size W w') := fun W => like_any n n.size n.sum W hn hn
  have HW : Hid (∀ W : World, Tab W → Calls Tryd.prog 14 #[] W fun e w' => e = .returned (.bool true) ∧ Below W.heap.size W w') := works_any
  have hr0 : (w.alloc (.cells (ndc n) 39)).heap[w.heap.size]? = some (.cells (ndc n) 39 (0, 0)) := heap_alloc_new w _
  have hN2 : NdAt ((w.alloc (.cells (ndc n) 39)).alloc (.cells (arc a) 55)) w.heap.size n := (nd_at hn hr0).below ((Below.refl (w.heap.size + 1) _).alloc (by simp) _) (by omega)
  have hr1 : ((w.alloc (.cells (ndc n) 39)).alloc (.cells (arc a) 55)).heap[w.heap.size + 1]? = some (.cells (arc a) 55 (0, 0)) := by
    have h := heap_alloc_new (w.alloc (.cells (ndc n) 39)) (.cells (arc a) 55)
    rwa [FI.size_alloc1] at h
  have hA2 := ar_at hr1
  have HB2 : Hid (Below w.heap.size w ((w.alloc (.cells (ndc n) 39)).alloc (.cells (arc a) 55))) := ((Below.refl _ w).alloc (Nat.le_refl _) _).alloc (by simp) _
  have hz2 : w.heap.size + 2 ≤ ((w.alloc (.cells (ndc n) 39)).alloc (.cells (arc a) 55)).heap.size := by simp
  have HZ : Is (ndc n).size 37 := ⟨ndc_size hn⟩
  have HZa : Is (arc a).size 34 := ⟨arc_size ha⟩
  have HLn : Is (n.sum.map c8).length 32 := ⟨by rw [List.length_map, hn]⟩
  have HFS : Hid (Ino.isFile n = true → (n.version = 0 → Ino.holl n = false) ∧ (n.version = 0 → Ino.dirt n a true = true) ∧ (n.version ≠ 0 → Ino.dirt n a true = (n.version != a.version)) ∧ Ino.dirt n a false = true ∧ Ino.like n n.size n.sum = true) := fun h => file_states h a
  have HN0 : Hid (Ino.chk n = 0 ∧ (n.kind = 2 ∧ Ino.isFile n = true ∨ n.kind ≠ 2 ∧ Ino.isFile n = false) ∨ Ino.chk n = 2 ∧ Ino.isFile n = false) := by
    show _ ∨ _
    rcases Ino.chk_le n with h | h
    · by_cases hk : n.kind = 2
      · exact .inl ⟨h, .inl ⟨hk, (Ino.file_iff n).1 ⟨h, hk⟩⟩⟩
      · exact .inl ⟨h, .inr ⟨hk, not_kind hk⟩⟩
    · exact .inr ⟨h, not_file h⟩
  have HNF : Hid (Ino.isFile n = false → Ino.holl n = false ∧ Ino.dirt n a true = false) := fun h => ⟨by unfold Ino.holl; rw [h]; rfl, by unfold Ino.dirt; rw [h]; rfl⟩
  go_enter Tryd.func8, Tryd.ntmps8
  go_upto_region 1 with fail
  generalize (w.alloc (.cells (ndc n) 39)).alloc (.cells (arc a) 55) = w2 at *
  have HBb : Hid (∀ W : World, Below (w.heap.size + 2) w2 W → Below w.heap.size w W) := fun W h => HB2.out.trans (h.mono (by omega))
  have HTb : Hid (∀ W : World, Below (w.heap.size + 2) w2 W → Tab W) := fun W h => hT.below (HBb.out W h)
  generalize hg : w.heap.size = g at *
  have HG : Is w.heap.size g := ⟨hg⟩
  have HN : Hid (∀ W : World, Below (g + 2) w2 W → NdAt W g n) := fun W h => hN2.below h (by omega)
  have HA : Hid (∀ W : World, Below (g + 2) w2 W → ArAt W (g + 1) a) := fun W h => hA2.below h (by omega)
  have HRN : Hid (∀ W : World, Below (g + 2) w2 W → W.heap[g]? = some (.cells (ndc n) 39 (0, 0))) := fun W h => (HN.out W h).row
  have HRA : Hid (∀ W : World, Below (g + 2) w2 W → W.heap[g + 1]? = some (.cells (arc a) 55 (0, 0))) := fun W h => (HA.out W h).row
  have HK0 : Hid (∀ W : World, Below (g + 2) w2 W → W.cell? ⟨g, 0, none⟩ = some (.int .i64 n.kind)) := fun W h => (HN.out W h).kind
  have HK1 : Hid (∀ W : World, Below (g + 2) w2 W → W.cell? ⟨g, 1, none⟩ = some (.int .i64 n.size)) := fun W h => (HN.out W h).size
  have HK4 : Hid (∀ W : World, Below (g + 2) w2 W → W.cell? ⟨g, 35, none⟩ = some (.int .i64 n.version)) := fun W h => (HN.out W h).version
  have HV0 : Hid (∀ W : World, Below (g + 2) w2 W → W.cell? ⟨g + 1, 0, none⟩ = some (.int .i64 a.version)) := fun W h => (HA.out W h).version
  have HCS : Hid (∀ W : World, Below (g + 2) w2 W → W.rangeAt g 2 (n.sum.map c8)) := fun W h => (HN.out W h).sum
  have hS2 : Below (g + 2) w2 w2 := Below.refl _ _
  clear hr0 hr1 hg hn ha hT HB2 hN2 hA2 HN HA
  generalize ndc n = C at *
  generalize arc a = A at *
  generalize n.sum.map c8 = cs at *
  generalize n.kind = kk at *
  generalize n.version = v at *
  generalize n.size = y at *
  generalize a.version = av at *
  generalize Ino.like n y n.sum = lk at *
  generalize Ino.dirt n a true = d1 at *
  generalize Ino.dirt n a false = d2 at *
  generalize Ino.holl n = ho at *
  generalize Ino.chk n = ch at *
  generalize Ino.isFile n = fi at *
  rcases HN0.out with ⟨rfl, ⟨rfl, rfl⟩ | ⟨hk, rfl⟩⟩ | ⟨rfl, rfl⟩
  · obtain ⟨f1, f2, f3, rfl, rfl⟩ := HFS.out rfl
    clear HN0 HNF HFS
    by_cases hv : v = 0
    · subst hv
      obtain rfl := f1 rfl
      obtain rfl := f2 rfl
      clear f1 f2 f3
      have k0 := HK0.out _ hS2
      have k1 := HK1.out _ hS2
      have k4 := HK4.out _ hS2
      have v0 := HV0.out _ hS2
      go_wp2_with (first | (refine load_met (by rfl) 39 _ rfl _ rfl 39 C (0, 0) _ (HRN.out _ (by assumption)) Tryd.underlying39 rfl (by rw [size39, HZ.eq]) ?_) | (refine load_met (by rfl) 55 _ rfl _ rfl 55 A (0, 0) _ (HRA.out _ (by assumption)) Tryd.underlying55 rfl (by rw [size55, HZa.eq]) ?_) | (refine load_met_mid (by rfl) 37 _ rfl _ 2 rfl cs _ (HCS.out _ (by assumption)) Tryd.underlying37 rfl (by rw [size37, HLn.eq]) ?_) | (go_at_call 20; refine (HC.out _).mono ?_; rintro e wq ⟨rfl, hbq⟩; have hSq : Below (g + 2) w2 wq := hold_call (by assumption) hz2 hbq; have k0 := HK0.out _ hSq; have k1 := HK1.out _ hSq; have k4 := HK4.out _ hSq; have v0 := HV0.out _ hSq; clear hbq) | (go_at_call 27; refine (HH.out _).mono ?_; rintro e wq ⟨rfl, hbq⟩; have hSq : Below (g + 2) w2 wq := hold_call (by assumption) hz2 hbq; have k0 := HK0.out _ hSq; have k1 := HK1.out _ hSq; have k4 := HK4.out _ hSq; have v0 := HV0.out _ hSq; clear hbq) | (go_at_call_of 29 (Value.bool true); refine (HD.out _).mono ?_; rintro e wq ⟨rfl, hbq⟩; have hSq : Below (g + 2) w2 wq := hold_call (by assumption) hz2 hbq; have k0 := HK0.out _ hSq; have k1 := HK1.out _ hSq; have k4 := HK4.out _ hSq; have v0 := HV0.out _ hSq; clear hbq) | (go_at_call_of 29 (Value.bool false); refine (HDf.out _).mono ?_; rintro e wq ⟨rfl, hbq⟩; have hSq : Below (g + 2) w2 wq := hold_call (by assumption) hz2 hbq; have k0 := HK0.out _ hSq; have k1 := HK1.out _ hSq; have k4 := HK4.out _ hSq; have v0 := HV0.out _ hSq; clear hbq) | (go_at_call 31; refine (HL.out _).mono ?_; rintro e wq ⟨rfl, hbq⟩; have hSq : Below (g + 2) w2 wq := hold_call (by assumption) hz2 hbq; have k0 := HK0.out _ hSq; have k1 := HK1.out _ hSq; have k4 := HK4.out _ hSq; have v0 := HV0.out _ hSq; clear hbq) | (go_at_call 14; refine (HW.out _ (HTb.out _ (by assumption))).mono ?_; rintro e wq ⟨rfl, hbq⟩; have hSq : Below (g + 2) w2 wq := hold_call (by assumption) hz2 hbq; have k0 := HK0.out _ hSq; have k1 := HK1.out _ hSq; have k4 := HK4.out _ hSq; have v0 := HV0.out _ hSq; clear hbq))
      go_ret
      exact ⟨rfl, by rw [HG.eq]; exact HBb.out _ (by assumption)⟩
    · obtain rfl := f3 hv
      have hv' : (v == 0) = false := by simpa using hv
      clear f1 f2 f3
      by_cases hva : v = av
      · subst hva
        have e2 : (v != v) = false := by simp
        rw [e2] at HD
        have k0 := HK0.out _ hS2
        have k1 := HK1.out _ hS2
        have k4 := HK4.out _ hS2
        have v0 := HV0.out _ hS2
        go_upto_region 3 with (first | (refine load_met (by rfl) 39 _ rfl _ rfl 39 C (0, 0) _ (HRN.out _ (by assumption)) Tryd.underlying39 rfl (by rw [size39, HZ.eq]) ?_) | (refine load_met (by rfl) 55 _ rfl _ rfl 55 A (0, 0) _ (HRA.out _ (by assumption)) Tryd.underlying55 rfl (by rw [size55, HZa.eq]) ?_) | (refine load_met_mid (by rfl) 37 _ rfl _ 2 rfl cs _ (HCS.out _ (by assumption)) Tryd.underlying37 rfl (by rw [size37, HLn.eq]) ?_) | (go_at_call 20; refine (HC.out _).mono ?_; rintro e wq ⟨rfl, hbq⟩; have hSq : Below (g + 2) w2 wq := hold_call (by assumption) hz2 hbq; have k0 := HK0.out _ hSq; have k1 := HK1.out _ hSq; have k4 := HK4.out _ hSq; have v0 := HV0.out _ hSq; clear hbq) | (go_at_call 27; refine (HH.out _).mono ?_; rintro e wq ⟨rfl, hbq⟩; have hSq : Below (g + 2) w2 wq := hold_call (by assumption) hz2 hbq; have k0 := HK0.out _ hSq; have k1 := HK1.out _ hSq; have k4 := HK4.out _ hSq; have v0 := HV0.out _ hSq; clear hbq) | (go_at_call_of 29 (Value.bool true); refine (HD.out _).mono ?_; rintro e wq ⟨rfl, hbq⟩; have hSq : Below (g + 2) w2 wq := hold_call (by assumption) hz2 hbq; have k0 := HK0.out _ hSq; have k1 := HK1.out _ hSq; have k4 := HK4.out _ hSq; have v0 := HV0.out _ hSq; clear hbq) | (go_at_call_of 29 (Value.bool false); refine (HDf.out _).mono ?_; rintro e wq ⟨rfl, hbq⟩; have hSq : Below (g + 2) w2 wq := hold_call (by assumption) hz2 hbq; have k0 := HK0.out _ hSq; have k1 := HK1.out _ hSq; have k4 := HK4.out _ hSq; have v0 := HV0.out _ hSq; clear hbq) | (go_at_call 31; refine (HL.out _).mono ?_; rintro e wq ⟨rfl, hbq⟩; have hSq : Below (g + 2) w2 wq := hold_call (by assumption) hz2 hbq; have k0 := HK0.out _ hSq; have k1 := HK1.out _ hSq; have k4 := HK4.out _ hSq; have v0 := HV0.out _ hSq; clear hbq) | (go_at_call 14; refine (HW.out _ (HTb.out _ (by assumption))).mono ?_; rintro e wq ⟨rfl, hbq⟩; have hSq : Below (g + 2) w2 wq := hold_call (by assumption) hz2 hbq; have k0 := HK0.out _ hSq; have k1 := HK1.out _ hSq; have k4 := HK4.out _ hSq; have v0 := HV0.out _ hSq; clear hbq))
        go_upto_region 5 with fail
        go_wp2_with (first | (refine load_met (by rfl) 39 _ rfl _ rfl 39 C (0, 0) _ (HRN.out _ (by assumption)) Tryd.underlying39 rfl (by rw [size39, HZ.eq]) ?_) | (refine load_met (by rfl) 55 _ rfl _ rfl 55 A (0, 0) _ (HRA.out _ (by assumption)) Tryd.underlying55 rfl (by rw [size55, HZa.eq]) ?_) | (refine load_met_mid (by rfl) 37 _ rfl _ 2 rfl cs _ (HCS.out _ (by assumption)) Tryd.underlying37 rfl (by rw [size37, HLn.eq]) ?_) | (go_at_call 20; refine (HC.out _).mono ?_; rintro e wq ⟨rfl, hbq⟩; have hSq : Below (g + 2) w2 wq := hold_call (by assumption) hz2 hbq; have k0 := HK0.out _ hSq; have k1 := HK1.out _ hSq; have k4 := HK4.out _ hSq; have v0 := HV0.out _ hSq; clear hbq) | (go_at_call 27; refine (HH.out _).mono ?_; rintro e wq ⟨rfl, hbq⟩; have hSq : Below (g + 2) w2 wq := hold_call (by assumption) hz2 hbq; have k0 := HK0.out _ hSq; have k1 := HK1.out _ hSq; have k4 := HK4.out _ hSq; have v0 := HV0.out _ hSq; clear hbq) | (go_at_call_of 29 (Value.bool true); refine (HD.out _).mono ?_; rintro e wq ⟨rfl, hbq⟩; have hSq : Below (g + 2) w2 wq := hold_call (by assumption) hz2 hbq; have k0 := HK0.out _ hSq; have k1 := HK1.out _ hSq; have k4 := HK4.out _ hSq; have v0 := HV0.out _ hSq; clear hbq) | (go_at_call_of 29 (Value.bool false); refine (HDf.out _).mono ?_; rintro e wq ⟨rfl, hbq⟩; have hSq : Below (g + 2) w2 wq := hold_call (by assumption) hz2 hbq; have k0 := HK0.out _ hSq; have k1 := HK1.out _ hSq; have k4 := HK4.out _ hSq; have v0 := HV0.out _ hSq; clear hbq) | (go_at_call 31; refine (HL.out _).mono ?_; rintro e wq ⟨rfl, hbq⟩; have hSq : Below (g + 2) w2 wq := hold_call (by assumption) hz2 hbq; have k0 := HK0.out _ hSq; have k1 := HK1.out _ hSq; have k4 := HK4.out _ hSq; have v0 := HV0.out _ hSq; clear hbq) | (go_at_call 14; refine (HW.out _ (HTb.out _ (by assumption))).mono ?_; rintro e wq ⟨rfl, hbq⟩; have hSq : Below (g + 2) w2 wq := hold_call (by assumption) hz2 hbq; have k0 := HK0.out _ hSq; have k1 := HK1.out _ hSq; have k4 := HK4.out _ hSq; have v0 := HV0.out _ hSq; clear hbq))
        go_ret
        exact ⟨rfl, by rw [HG.eq]; exact HBb.out _ (by assumption)⟩
      · have e2 : (v != av) = true := by simpa using hva
        have e3 : (v == av) = false := by simpa using hva
        rw [e2] at HD
        have k0 := HK0.out _ hS2
        have k1 := HK1.out _ hS2
        have k4 := HK4.out _ hS2
        have v0 := HV0.out _ hS2
        go_upto_region 3 with (first | (refine load_met (by rfl) 39 _ rfl _ rfl 39 C (0, 0) _ (HRN.out _ (by assumption)) Tryd.underlying39 rfl (by rw [size39, HZ.eq]) ?_) | (refine load_met (by rfl) 55 _ rfl _ rfl 55 A (0, 0) _ (HRA.out _ (by assumption)) Tryd.underlying55 rfl (by rw [size55, HZa.eq]) ?_) | (refine load_met_mid (by rfl) 37 _ rfl _ 2 rfl cs _ (HCS.out _ (by assumption)) Tryd.underlying37 rfl (by rw [size37, HLn.eq]) ?_) | (go_at_call 20; refine (HC.out _).mono ?_; rintro e wq ⟨rfl, hbq⟩; have hSq : Below (g + 2) w2 wq := hold_call (by assumption) hz2 hbq; have k0 := HK0.out _ hSq; have k1 := HK1.out _ hSq; have k4 := HK4.out _ hSq; have v0 := HV0.out _ hSq; clear hbq) | (go_at_call 27; refine (HH.out _).mono ?_; rintro e wq ⟨rfl, hbq⟩; have hSq : Below (g + 2) w2 wq := hold_call (by assumption) hz2 hbq; have k0 := HK0.out _ hSq; have k1 := HK1.out _ hSq; have k4 := HK4.out _ hSq; have v0 := HV0.out _ hSq; clear hbq) | (go_at_call_of 29 (Value.bool true); refine (HD.out _).mono ?_; rintro e wq ⟨rfl, hbq⟩; have hSq : Below (g + 2) w2 wq := hold_call (by assumption) hz2 hbq; have k0 := HK0.out _ hSq; have k1 := HK1.out _ hSq; have k4 := HK4.out _ hSq; have v0 := HV0.out _ hSq; clear hbq) | (go_at_call_of 29 (Value.bool false); refine (HDf.out _).mono ?_; rintro e wq ⟨rfl, hbq⟩; have hSq : Below (g + 2) w2 wq := hold_call (by assumption) hz2 hbq; have k0 := HK0.out _ hSq; have k1 := HK1.out _ hSq; have k4 := HK4.out _ hSq; have v0 := HV0.out _ hSq; clear hbq) | (go_at_call 31; refine (HL.out _).mono ?_; rintro e wq ⟨rfl, hbq⟩; have hSq : Below (g + 2) w2 wq := hold_call (by assumption) hz2 hbq; have k0 := HK0.out _ hSq; have k1 := HK1.out _ hSq; have k4 := HK4.out _ hSq; have v0 := HV0.out _ hSq; clear hbq) | (go_at_call 14; refine (HW.out _ (HTb.out _ (by assumption))).mono ?_; rintro e wq ⟨rfl, hbq⟩; have hSq : Below (g + 2) w2 wq := hold_call (by assumption) hz2 hbq; have k0 := HK0.out _ hSq; have k1 := HK1.out _ hSq; have k4 := HK4.out _ hSq; have v0 := HV0.out _ hSq; clear hbq))
        go_upto_region 5 with fail
        go_wp2_with (first | (refine load_met (by rfl) 39 _ rfl _ rfl 39 C (0, 0) _ (HRN.out _ (by assumption)) Tryd.underlying39 rfl (by rw [size39, HZ.eq]) ?_) | (refine load_met (by rfl) 55 _ rfl _ rfl 55 A (0, 0) _ (HRA.out _ (by assumption)) Tryd.underlying55 rfl (by rw [size55, HZa.eq]) ?_) | (refine load_met_mid (by rfl) 37 _ rfl _ 2 rfl cs _ (HCS.out _ (by assumption)) Tryd.underlying37 rfl (by rw [size37, HLn.eq]) ?_) | (go_at_call 20; refine (HC.out _).mono ?_; rintro e wq ⟨rfl, hbq⟩; have hSq : Below (g + 2) w2 wq := hold_call (by assumption) hz2 hbq; have k0 := HK0.out _ hSq; have k1 := HK1.out _ hSq; have k4 := HK4.out _ hSq; have v0 := HV0.out _ hSq; clear hbq) | (go_at_call 27; refine (HH.out _).mono ?_; rintro e wq ⟨rfl, hbq⟩; have hSq : Below (g + 2) w2 wq := hold_call (by assumption) hz2 hbq; have k0 := HK0.out _ hSq; have k1 := HK1.out _ hSq; have k4 := HK4.out _ hSq; have v0 := HV0.out _ hSq; clear hbq) | (go_at_call_of 29 (Value.bool true); refine (HD.out _).mono ?_; rintro e wq ⟨rfl, hbq⟩; have hSq : Below (g + 2) w2 wq := hold_call (by assumption) hz2 hbq; have k0 := HK0.out _ hSq; have k1 := HK1.out _ hSq; have k4 := HK4.out _ hSq; have v0 := HV0.out _ hSq; clear hbq) | (go_at_call_of 29 (Value.bool false); refine (HDf.out _).mono ?_; rintro e wq ⟨rfl, hbq⟩; have hSq : Below (g + 2) w2 wq := hold_call (by assumption) hz2 hbq; have k0 := HK0.out _ hSq; have k1 := HK1.out _ hSq; have k4 := HK4.out _ hSq; have v0 := HV0.out _ hSq; clear hbq) | (go_at_call 31; refine (HL.out _).mono ?_; rintro e wq ⟨rfl, hbq⟩; have hSq : Below (g + 2) w2 wq := hold_call (by assumption) hz2 hbq; have k0 := HK0.out _ hSq; have k1 := HK1.out _ hSq; have k4 := HK4.out _ hSq; have v0 := HV0.out _ hSq; clear hbq) | (go_at_call 14; refine (HW.out _ (HTb.out _ (by assumption))).mono ?_; rintro e wq ⟨rfl, hbq⟩; have hSq : Below (g + 2) w2 wq := hold_call (by assumption) hz2 hbq; have k0 := HK0.out _ hSq; have k1 := HK1.out _ hSq; have k4 := HK4.out _ hSq; have v0 := HV0.out _ hSq; clear hbq))
        go_ret
        exact ⟨rfl, by rw [HG.eq]; exact HBb.out _ (by assumption)⟩
  · obtain ⟨rfl, rfl⟩ := HNF.out rfl
    have hk' : (kk == 2) = false := by simpa using hk
    clear HN0 HNF HFS
    have k0 := HK0.out _ hS2
    have k1 := HK1.out _ hS2
    have k4 := HK4.out _ hS2
    have v0 := HV0.out _ hS2
    go_wp2_with (first | (refine load_met (by rfl) 39 _ rfl _ rfl 39 C (0, 0) _ (HRN.out _ (by assumption)) Tryd.underlying39 rfl (by rw [size39, HZ.eq]) ?_) | (refine load_met (by rfl) 55 _ rfl _ rfl 55 A (0, 0) _ (HRA.out _ (by assumption)) Tryd.underlying55 rfl (by rw [size55, HZa.eq]) ?_) | (refine load_met_mid (by rfl) 37 _ rfl _ 2 rfl cs _ (HCS.out _ (by assumption)) Tryd.underlying37 rfl (by rw [size37, HLn.eq]) ?_) | (go_at_call 20; refine (HC.out _).mono ?_; rintro e wq ⟨rfl, hbq⟩; have hSq : Below (g + 2) w2 wq := hold_call (by assumption) hz2 hbq; have k0 := HK0.out _ hSq; have k1 := HK1.out _ hSq; have k4 := HK4.out _ hSq; have v0 := HV0.out _ hSq; clear hbq) | (go_at_call 27; refine (HH.out _).mono ?_; rintro e wq ⟨rfl, hbq⟩; have hSq : Below (g + 2) w2 wq := hold_call (by assumption) hz2 hbq; have k0 := HK0.out _ hSq; have k1 := HK1.out _ hSq; have k4 := HK4.out _ hSq; have v0 := HV0.out _ hSq; clear hbq) | (go_at_call_of 29 (Value.bool true); refine (HD.out _).mono ?_; rintro e wq ⟨rfl, hbq⟩; have hSq : Below (g + 2) w2 wq := hold_call (by assumption) hz2 hbq; have k0 := HK0.out _ hSq; have k1 := HK1.out _ hSq; have k4 := HK4.out _ hSq; have v0 := HV0.out _ hSq; clear hbq) | (go_at_call_of 29 (Value.bool false); refine (HDf.out _).mono ?_; rintro e wq ⟨rfl, hbq⟩; have hSq : Below (g + 2) w2 wq := hold_call (by assumption) hz2 hbq; have k0 := HK0.out _ hSq; have k1 := HK1.out _ hSq; have k4 := HK4.out _ hSq; have v0 := HV0.out _ hSq; clear hbq) | (go_at_call 31; refine (HL.out _).mono ?_; rintro e wq ⟨rfl, hbq⟩; have hSq : Below (g + 2) w2 wq := hold_call (by assumption) hz2 hbq; have k0 := HK0.out _ hSq; have k1 := HK1.out _ hSq; have k4 := HK4.out _ hSq; have v0 := HV0.out _ hSq; clear hbq) | (go_at_call 14; refine (HW.out _ (HTb.out _ (by assumption))).mono ?_; rintro e wq ⟨rfl, hbq⟩; have hSq : Below (g + 2) w2 wq := hold_call (by assumption) hz2 hbq; have k0 := HK0.out _ hSq; have k1 := HK1.out _ hSq; have k4 := HK4.out _ hSq; have v0 := HV0.out _ hSq; clear hbq))
    go_ret
    exact ⟨rfl, by rw [HG.eq]; exact HBb.out _ (by assumption)⟩
  · obtain ⟨rfl, rfl⟩ := HNF.out rfl
    clear HN0 HNF HFS
    have k0 := HK0.out _ hS2
    have k1 := HK1.out _ hS2
    have k4 := HK4.out _ hS2
    have v0 := HV0.out _ hS2
    go_wp2_with (first | (refine load_met (by rfl) 39 _ rfl _ rfl 39 C (0, 0) _ (HRN.out _ (by assumption)) Tryd.underlying39 rfl (by rw [size39, HZ.eq]) ?_) | (refine load_met (by rfl) 55 _ rfl _ rfl 55 A (0, 0) _ (HRA.out _ (by assumption)) Tryd.underlying55 rfl (by rw [size55, HZa.eq]) ?_) | (refine load_met_mid (by rfl) 37 _ rfl _ 2 rfl cs _ (HCS.out _ (by assumption)) Tryd.underlying37 rfl (by rw [size37, HLn.eq]) ?_) | (go_at_call 20; refine (HC.out _).mono ?_; rintro e wq ⟨rfl, hbq⟩; have hSq : Below (g + 2) w2 wq := hold_call (by assumption) hz2 hbq; have k0 := HK0.out _ hSq; have k1 := HK1.out _ hSq; have k4 := HK4.out _ hSq; have v0 := HV0.out _ hSq; clear hbq) | (go_at_call 27; refine (HH.out _).mono ?_; rintro e wq ⟨rfl, hbq⟩; have hSq : Below (g + 2) w2 wq := hold_call (by assumption) hz2 hbq; have k0 := HK0.out _ hSq; have k1 := HK1.out _ hSq; have k4 := HK4.out _ hSq; have v0 := HV0.out _ hSq; clear hbq) | (go_at_call_of 29 (Value.bool true); refine (HD.out _).mono ?_; rintro e wq ⟨rfl, hbq⟩; have hSq : Below (g + 2) w2 wq := hold_call (by assumption) hz2 hbq; have k0 := HK0.out _ hSq; have k1 := HK1.out _ hSq; have k4 := HK4.out _ hSq; have v0 := HV0.out _ hSq; clear hbq) | (go_at_call_of 29 (Value.bool false); refine (HDf.out _).mono ?_; rintro e wq ⟨rfl, hbq⟩; have hSq : Below (g + 2) w2 wq := hold_call (by assumption) hz2 hbq; have k0 := HK0.out _ hSq; have k1 := HK1.out _ hSq; have k4 := HK4.out _ hSq; have v0 := HV0.out _ hSq; clear hbq) | (go_at_call 31; refine (HL.out _).mono ?_; rintro e wq ⟨rfl, hbq⟩; have hSq : Below (g + 2) w2 wq := hold_call (by assumption) hz2 hbq; have k0 := HK0.out _ hSq; have k1 := HK1.out _ hSq; have k4 := HK4.out _ hSq; have v0 := HV0.out _ hSq; clear hbq) | (go_at_call 14; refine (HW.out _ (HTb.out _ (by assumption))).mono ?_; rintro e wq ⟨rfl, hbq⟩; have hSq : Below (g + 2) w2 wq := hold_call (by assumption) hz2 hbq; have k0 := HK0.out _ hSq; have k1 := HK1.out _ hSq; have k4 := HK4.out _ hSq; have v0 := HV0.out _ hSq; clear hbq))
    go_ret
    exact ⟨rfl, by rw [HG.eq]; exact HBb.out _ (by assumption)⟩
end Go.Proofs.YtealbeblkilibaaDoor
