/- Proved: Hollow, Dirty and Like, the program's and the document's. -/
import Derived.Test.YtealbeblkilibaaDoorJ11
import Derived.Test.YtealbeblkilibaaDoorJ03
import Derived.Deep.WholeRow
import Derived.Test.YtealbeblkilibaaDoorJ04
namespace Go.Proofs.YtealbeblkilibaaDoor
open Go.RowKit
open Ino (Nd Ar)
theorem not_file {n : Nd} (h : Ino.chk n = 2) : Ino.isFile n = false := by
  rw [Bool.eq_false_iff]
  intro hh
  rw [((Ino.file_iff n).2 hh).1] at h; cases h
theorem not_kind {n : Nd} (h : n.kind ≠ 2) : Ino.isFile n = false := by
  rw [Bool.eq_false_iff]
  intro hh
  exact h (Ino.chk_file hh)
set_option maxHeartbeats 1000000 in
set_option maxRecDepth 20000 in
theorem hollow_any (n : Nd) (w : World) (hs : n.sum.length = 32) : Calls Tryd.prog 27 #[.agg (ndc n)] w fun e w' => e = .returned (.bool (Ino.holl n)) ∧ Below w.heap.size w w' := by
  have HI : Is (Ino.holl n) (Ino.isFile n && n.content == 0) := ⟨rfl⟩
  have hr0 : (w.alloc (.cells (ndc n) 39)).heap[w.heap.size]? = some (.cells (ndc n) 39 (0, 0)) := heap_alloc_new w _
  have HA : Hid (NdAt (w.alloc (.cells (ndc n) 39)) w.heap.size n) := nd_at hs hr0
  have HB : Hid (Below w.heap.size w (w.alloc (.cells (ndc n) 39))) := (Below.refl _ w).alloc (Nat.le_refl _) _
  have HR : Is ((w.alloc (.cells (ndc n) 39)).heap[w.heap.size]?) (some (.cells (ndc n) 39 (0, 0))) := ⟨HA.out.row⟩
  have HZ : Is (ndc n).size 37 := ⟨ndc_size hs⟩
  have hz : w.heap.size + 1 ≤ (w.alloc (.cells (ndc n) 39)).heap.size := by simp
  have HF : Hid (∀ W : World, Calls Tryd.prog 50 #[.agg (ndc n)] W fun e w' => e = .returned (.bool (Ino.isFile n)) ∧ Below W.heap.size W w') := fun W => isFile_any n W hs
  clear hs hr0
  generalize ndc n = C at *
  go_enter Tryd.func27, Tryd.ntmps27
  go_upto_region 1 with fail
  generalize w.alloc (.cells C 39) = w1 at *
  generalize Ino.isFile n = fi at *
  cases fi with
  | false =>
    go_wp2_with (first | (refine load_met (by rfl) 39 _ rfl _ rfl 39 C (0, 0) _ HR.eq Tryd.underlying39 rfl (by rw [size39, HZ.eq]) ?_))
    refine (HF.out _).mono ?_
    rintro e w2 ⟨rfl, hB2⟩
    obtain ⟨_, k0, k1, ks, k3, k4, k5⟩ := HA.out.below hB2 (by omega)
    have HB2 : Hid (Below w.heap.size w w2) := HB.out.trans (hB2.mono (by omega))
    clear hB2 HA HB HR ks
    go_wp2
    go_ret
    exact ⟨by rw [HI.eq]; rfl, HB2.out⟩
  | true =>
    go_wp2_with (first | (refine load_met (by rfl) 39 _ rfl _ rfl 39 C (0, 0) _ HR.eq Tryd.underlying39 rfl (by rw [size39, HZ.eq]) ?_))
    refine (HF.out _).mono ?_
    rintro e w2 ⟨rfl, hB2⟩
    obtain ⟨_, k0, k1, ks, k3, k4, k5⟩ := HA.out.below hB2 (by omega)
    have HB2 : Hid (Below w.heap.size w w2) := HB.out.trans (hB2.mono (by omega))
    clear hB2 HA HB HR ks
    generalize n.content = c at *
    generalize n.kind = kk at *
    by_cases hc : c = 0
    · subst hc
      go_wp2
      go_ret
      exact ⟨by rw [HI.eq]; rfl, HB2.out⟩
    · have hc' : (c == 0) = false := by simpa using hc
      rw [hc'] at HI
      go_wp2
      go_ret
      exact ⟨by rw [HI.eq]; rfl, HB2.out⟩
set_option maxHeartbeats 1000000 in
set_option maxRecDepth 20000 in
theorem rhollow_any (n : Nd) (w : World) (hs : n.sum.length = 32) : Calls Tryd.prog 28 #[.agg (ndc n)] w fun e w' => e = .returned (.bool (Ino.holl n)) ∧ Below w.heap.size w w' := by
  have HI : Is (Ino.holl n) (Ino.isFile n && n.content == 0) := ⟨rfl⟩
  have hr0 : (w.alloc (.cells (ndc n) 39)).heap[w.heap.size]? = some (.cells (ndc n) 39 (0, 0)) := heap_alloc_new w _
  have HA : Hid (NdAt (w.alloc (.cells (ndc n) 39)) w.heap.size n) := nd_at hs hr0
  have HB : Hid (Below w.heap.size w (w.alloc (.cells (ndc n) 39))) := (Below.refl _ w).alloc (Nat.le_refl _) _
  have HR : Is ((w.alloc (.cells (ndc n) 39)).heap[w.heap.size]?) (some (.cells (ndc n) 39 (0, 0))) := ⟨HA.out.row⟩
  have HZ : Is (ndc n).size 37 := ⟨ndc_size hs⟩
  have hz : w.heap.size + 1 ≤ (w.alloc (.cells (ndc n) 39)).heap.size := by simp
  have HC : Hid (∀ W : World, Calls Tryd.prog 21 #[.agg (ndc n)] W fun e w' => e = .returned (.int .i64 (Ino.chk n : Nat)) ∧ Below W.heap.size W w') := fun W => rcheck_any n W hs
  have HN : Hid (Ino.chk n = 0 ∧ (n.kind = 2 ∧ Ino.isFile n = true ∨ n.kind ≠ 2 ∧ Ino.isFile n = false) ∨ Ino.chk n = 2 ∧ Ino.isFile n = false) := by
    show _ ∨ _
    rcases Ino.chk_le n with h | h
    · by_cases hk : n.kind = 2
      · exact .inl ⟨h, .inl ⟨hk, (Ino.file_iff n).1 ⟨h, hk⟩⟩⟩
      · exact .inl ⟨h, .inr ⟨hk, not_kind hk⟩⟩
    · exact .inr ⟨h, not_file h⟩
  clear hs hr0
  generalize ndc n = C at *
  go_enter Tryd.func28, Tryd.ntmps28
  go_upto_region 1 with fail
  generalize w.alloc (.cells C 39) = w1 at *
  rcases HN.out with ⟨h, ⟨hk, hf⟩ | ⟨hk, hf⟩⟩ | ⟨h, hf⟩
  · rw [h] at HC
    rw [hf] at HI
    clear HN h hf
    go_wp2_with (first | (refine load_met (by rfl) 39 _ rfl _ rfl 39 C (0, 0) _ HR.eq Tryd.underlying39 rfl (by rw [size39, HZ.eq]) ?_))
    refine (HC.out _).mono ?_
    rintro e w2 ⟨rfl, hB2⟩
    obtain ⟨_, k0, k1, ks, k3, k4, k5⟩ := HA.out.below hB2 (by omega)
    have HB2 : Hid (Below w.heap.size w w2) := HB.out.trans (hB2.mono (by omega))
    clear hB2 HA HB HR ks
    rw [hk] at k0
    clear hk
    generalize n.content = c at *
    generalize n.kind = kk at *
    by_cases hc : c = 0
    · subst hc
      go_wp2
      go_ret
      exact ⟨by rw [HI.eq]; rfl, HB2.out⟩
    · have hc' : (c == 0) = false := by simpa using hc
      rw [hc'] at HI
      go_wp2
      go_ret
      exact ⟨by rw [HI.eq]; rfl, HB2.out⟩
  · rw [h] at HC
    rw [hf] at HI
    have hk' : (n.kind == 2) = false := by simpa using hk
    clear HN h hf
    go_wp2_with (first | (refine load_met (by rfl) 39 _ rfl _ rfl 39 C (0, 0) _ HR.eq Tryd.underlying39 rfl (by rw [size39, HZ.eq]) ?_))
    refine (HC.out _).mono ?_
    rintro e w2 ⟨rfl, hB2⟩
    obtain ⟨_, k0, k1, ks, k3, k4, k5⟩ := HA.out.below hB2 (by omega)
    have HB2 : Hid (Below w.heap.size w w2) := HB.out.trans (hB2.mono (by omega))
    clear hB2 HA HB HR ks
    generalize n.kind = kk at *
    go_wp2
    go_ret
    exact ⟨by rw [HI.eq]; rfl, HB2.out⟩
  · rw [h] at HC
    rw [hf] at HI
    clear HN h hf
    go_wp2_with (first | (refine load_met (by rfl) 39 _ rfl _ rfl 39 C (0, 0) _ HR.eq Tryd.underlying39 rfl (by rw [size39, HZ.eq]) ?_))
    refine (HC.out _).mono ?_
    rintro e w2 ⟨rfl, hB2⟩
    obtain ⟨_, k0, k1, ks, k3, k4, k5⟩ := HA.out.below hB2 (by omega)
    have HB2 : Hid (Below w.heap.size w w2) := HB.out.trans (hB2.mono (by omega))
    clear hB2 HA HB HR ks
    go_wp2
    go_ret
    exact ⟨by rw [HI.eq]; rfl, HB2.out⟩
set_option maxHeartbeats 1000000 in
set_option maxRecDepth 20000 in
theorem dirty_any (n : Nd) (a : Ar) (b : Bool) (w : World) (hs : n.sum.length = 32) : Calls Tryd.prog 29 #[.agg (ndc n), .agg (arc a), .bool b] w fun e w' => e = .returned (.bool (Ino.dirt n a b)) ∧ Below w.heap.size w w' := by
  have HI : Is (Ino.dirt n a b) (Ino.isFile n && (!b || (n.version == 0 || n.version != a.version))) := ⟨rfl⟩
  have hr0 : (w.alloc (.cells (ndc n) 39)).heap[w.heap.size]? = some (.cells (ndc n) 39 (0, 0)) := heap_alloc_new w _
  have HA : Hid (NdAt ((w.alloc (.cells (ndc n) 39)).alloc (.cells (arc a) 55)) w.heap.size n) := (nd_at hs hr0).below ((Below.refl (w.heap.size + 1) _).alloc (by simp) _) (by omega)
  have HB : Hid (Below w.heap.size w ((w.alloc (.cells (ndc n) 39)).alloc (.cells (arc a) 55))) := ((Below.refl _ w).alloc (Nat.le_refl _) _).alloc (by simp) _
  have hr1 : ((w.alloc (.cells (ndc n) 39)).alloc (.cells (arc a) 55)).heap[w.heap.size + 1]? = some (.cells (arc a) 55 (0, 0)) := by
    have h := heap_alloc_new (w.alloc (.cells (ndc n) 39)) (.cells (arc a) 55)
    rwa [FI.size_alloc1] at h
  have HAr : Hid (ArAt ((w.alloc (.cells (ndc n) 39)).alloc (.cells (arc a) 55)) (w.heap.size + 1) a) := ar_at hr1
  clear hr1
  have HR : Is (((w.alloc (.cells (ndc n) 39)).alloc (.cells (arc a) 55)).heap[w.heap.size]?) (some (.cells (ndc n) 39 (0, 0))) := ⟨HA.out.row⟩
  have HZ : Is (ndc n).size 37 := ⟨ndc_size hs⟩
  have hz : w.heap.size + 2 ≤ ((w.alloc (.cells (ndc n) 39)).alloc (.cells (arc a) 55)).heap.size := by simp
  have HF : Hid (∀ W : World, Calls Tryd.prog 50 #[.agg (ndc n)] W fun e w' => e = .returned (.bool (Ino.isFile n)) ∧ Below W.heap.size W w') := fun W => isFile_any n W hs
  clear hs hr0
  generalize ndc n = C at *
  generalize arc a = A at *
  go_enter Tryd.func29, Tryd.ntmps29
  go_upto_region 1 with fail
  generalize (w.alloc (.cells C 39)).alloc (.cells A 55) = w1 at *
  generalize Ino.isFile n = fi at *
  cases fi with
  | false =>
    go_wp2_with (first | (refine load_met (by rfl) 39 _ rfl _ rfl 39 C (0, 0) _ HR.eq Tryd.underlying39 rfl (by rw [size39, HZ.eq]) ?_))
    refine (HF.out _).mono ?_
    rintro e w2 ⟨rfl, hB2⟩
    obtain ⟨_, k0, k1, ks, k3, k4, k5⟩ := HA.out.below hB2 (by omega)
    obtain ⟨_, a0, _, _⟩ := HAr.out.below hB2 (by omega)
    have HB2 : Hid (Below w.heap.size w w2) := HB.out.trans (hB2.mono (by omega))
    clear hB2 HA HB HR ks HAr
    go_wp2
    go_ret
    exact ⟨by rw [HI.eq]; rfl, HB2.out⟩
  | true =>
    go_wp2_with (first | (refine load_met (by rfl) 39 _ rfl _ rfl 39 C (0, 0) _ HR.eq Tryd.underlying39 rfl (by rw [size39, HZ.eq]) ?_))
    refine (HF.out _).mono ?_
    rintro e w2 ⟨rfl, hB2⟩
    obtain ⟨_, k0, k1, ks, k3, k4, k5⟩ := HA.out.below hB2 (by omega)
    obtain ⟨_, a0, _, _⟩ := HAr.out.below hB2 (by omega)
    have HB2 : Hid (Below w.heap.size w w2) := HB.out.trans (hB2.mono (by omega))
    clear hB2 HA HB HR ks HAr
    generalize n.version = v at *
    generalize a.version = av at *
    generalize n.kind = kk at *
    cases b with
    | false =>
      go_wp2
      go_ret
      exact ⟨by rw [HI.eq]; rfl, HB2.out⟩
    | true =>
      by_cases hv : v = 0
      · subst hv
        go_wp2
        go_ret
        exact ⟨by rw [HI.eq]; rfl, HB2.out⟩
      · have hv' : (v == 0) = false := by simpa using hv
        rw [hv'] at HI
        by_cases hva : v = av
        · subst hva
          rw [show (v != v) = false by simp] at HI
          go_wp2
          go_ret
          exact ⟨by rw [HI.eq]; rfl, HB2.out⟩
        · have e1 : (v != av) = true := by simpa using hva
          have e2 : (av != v) = true := by simpa using fun h => hva h.symm
          have e3 : (v == av) = false := by simpa using hva
          have e4 : (av == v) = false := by simpa using fun h => hva h.symm
          rw [e1] at HI
          go_wp2
          go_ret
          exact ⟨by rw [HI.eq]; rfl, HB2.out⟩
set_option maxHeartbeats 1000000 in
set_option maxRecDepth 20000 in
theorem rdirty_any (n : Nd) (a : Ar) (b : Bool) (w : World) (hs : n.sum.length = 32) : Calls Tryd.prog 30 #[.agg (ndc n), .agg (arc a), .bool b] w fun e w' => e = .returned (.bool (Ino.dirt n a b)) ∧ Below w.heap.size w w' := by
  have HI : Is (Ino.dirt n a b) (Ino.isFile n && (!b || (n.version == 0 || n.version != a.version))) := ⟨rfl⟩
  have hr0 : (w.alloc (.cells (ndc n) 39)).heap[w.heap.size]? = some (.cells (ndc n) 39 (0, 0)) := heap_alloc_new w _
  have HA : Hid (NdAt ((w.alloc (.cells (ndc n) 39)).alloc (.cells (arc a) 55)) w.heap.size n) := (nd_at hs hr0).below ((Below.refl (w.heap.size + 1) _).alloc (by simp) _) (by omega)
  have HB : Hid (Below w.heap.size w ((w.alloc (.cells (ndc n) 39)).alloc (.cells (arc a) 55))) := ((Below.refl _ w).alloc (Nat.le_refl _) _).alloc (by simp) _
  have hr1 : ((w.alloc (.cells (ndc n) 39)).alloc (.cells (arc a) 55)).heap[w.heap.size + 1]? = some (.cells (arc a) 55 (0, 0)) := by
    have h := heap_alloc_new (w.alloc (.cells (ndc n) 39)) (.cells (arc a) 55)
    rwa [FI.size_alloc1] at h
  have HAr : Hid (ArAt ((w.alloc (.cells (ndc n) 39)).alloc (.cells (arc a) 55)) (w.heap.size + 1) a) := ar_at hr1
  clear hr1
  have HR : Is (((w.alloc (.cells (ndc n) 39)).alloc (.cells (arc a) 55)).heap[w.heap.size]?) (some (.cells (ndc n) 39 (0, 0))) := ⟨HA.out.row⟩
  have HZ : Is (ndc n).size 37 := ⟨ndc_size hs⟩
  have hz : w.heap.size + 2 ≤ ((w.alloc (.cells (ndc n) 39)).alloc (.cells (arc a) 55)).heap.size := by simp
  have HC : Hid (∀ W : World, Calls Tryd.prog 21 #[.agg (ndc n)] W fun e w' => e = .returned (.int .i64 (Ino.chk n : Nat)) ∧ Below W.heap.size W w') := fun W => rcheck_any n W hs
  have HN : Hid (Ino.chk n = 0 ∧ (n.kind = 2 ∧ Ino.isFile n = true ∨ n.kind ≠ 2 ∧ Ino.isFile n = false) ∨ Ino.chk n = 2 ∧ Ino.isFile n = false) := by
    show _ ∨ _
    rcases Ino.chk_le n with h | h
    · by_cases hk : n.kind = 2
      · exact .inl ⟨h, .inl ⟨hk, (Ino.file_iff n).1 ⟨h, hk⟩⟩⟩
      · exact .inl ⟨h, .inr ⟨hk, not_kind hk⟩⟩
    · exact .inr ⟨h, not_file h⟩
  clear hs hr0
  generalize ndc n = C at *
  generalize arc a = A at *
  go_enter Tryd.func30, Tryd.ntmps30
  go_upto_region 1 with fail
  generalize (w.alloc (.cells C 39)).alloc (.cells A 55) = w1 at *
  rcases HN.out with ⟨h, ⟨hk, hf⟩ | ⟨hk, hf⟩⟩ | ⟨h, hf⟩
  · rw [h] at HC
    rw [hf] at HI
    clear HN h hf
    go_wp2_with (first | (refine load_met (by rfl) 39 _ rfl _ rfl 39 C (0, 0) _ HR.eq Tryd.underlying39 rfl (by rw [size39, HZ.eq]) ?_))
    refine (HC.out _).mono ?_
    rintro e w2 ⟨rfl, hB2⟩
    obtain ⟨_, k0, k1, ks, k3, k4, k5⟩ := HA.out.below hB2 (by omega)
    obtain ⟨_, a0, _, _⟩ := HAr.out.below hB2 (by omega)
    have HB2 : Hid (Below w.heap.size w w2) := HB.out.trans (hB2.mono (by omega))
    clear hB2 HA HB HR ks HAr
    rw [hk] at k0
    clear hk
    generalize n.version = v at *
    generalize a.version = av at *
    generalize n.kind = kk at *
    cases b with
    | false =>
      go_wp2
      go_ret
      exact ⟨by rw [HI.eq]; rfl, HB2.out⟩
    | true =>
      by_cases hv : v = 0
      · subst hv
        go_wp2
        go_ret
        exact ⟨by rw [HI.eq]; rfl, HB2.out⟩
      · have hv' : (v == 0) = false := by simpa using hv
        rw [hv'] at HI
        by_cases hva : v = av
        · subst hva
          rw [show (v != v) = false by simp] at HI
          go_wp2
          go_ret
          exact ⟨by rw [HI.eq]; rfl, HB2.out⟩
        · have e1 : (v != av) = true := by simpa using hva
          have e2 : (av != v) = true := by simpa using fun h => hva h.symm
          have e3 : (v == av) = false := by simpa using hva
          have e4 : (av == v) = false := by simpa using fun h => hva h.symm
          rw [e1] at HI
          go_wp2
          go_ret
          exact ⟨by rw [HI.eq]; rfl, HB2.out⟩
  · rw [h] at HC
    rw [hf] at HI
    have hk' : (n.kind == 2) = false := by simpa using hk
    clear HN h hf
    go_wp2_with (first | (refine load_met (by rfl) 39 _ rfl _ rfl 39 C (0, 0) _ HR.eq Tryd.underlying39 rfl (by rw [size39, HZ.eq]) ?_))
    refine (HC.out _).mono ?_
    rintro e w2 ⟨rfl, hB2⟩
    obtain ⟨_, k0, k1, ks, k3, k4, k5⟩ := HA.out.below hB2 (by omega)
    obtain ⟨_, a0, _, _⟩ := HAr.out.below hB2 (by omega)
    have HB2 : Hid (Below w.heap.size w w2) := HB.out.trans (hB2.mono (by omega))
    clear hB2 HA HB HR ks HAr
    generalize n.kind = kk at *
    go_wp2
    go_ret
    exact ⟨by rw [HI.eq]; rfl, HB2.out⟩
  · rw [h] at HC
    rw [hf] at HI
    clear HN h hf
    go_wp2_with (first | (refine load_met (by rfl) 39 _ rfl _ rfl 39 C (0, 0) _ HR.eq Tryd.underlying39 rfl (by rw [size39, HZ.eq]) ?_))
    refine (HC.out _).mono ?_
    rintro e w2 ⟨rfl, hB2⟩
    obtain ⟨_, k0, k1, ks, k3, k4, k5⟩ := HA.out.below hB2 (by omega)
    obtain ⟨_, a0, _, _⟩ := HAr.out.below hB2 (by omega)
    have HB2 : Hid (Below w.heap.size w w2) := HB.out.trans (hB2.mono (by omega))
    clear hB2 HA HB HR ks HAr
    go_wp2
    go_ret
    exact ⟨by rw [HI.eq]; rfl, HB2.out⟩
set_option maxHeartbeats 1000000 in
set_option maxRecDepth 20000 in
theorem like_any (n : Nd) (z : Int) (d : List UInt8) (w : World) (hs : n.sum.length = 32) (hd : d.length = 32) : Calls Tryd.prog 31 #[.agg (ndc n), .int .i64 z, .agg (smc d)] w fun e w' => e = .returned (.bool (Ino.like n z d)) ∧ Below w.heap.size w w' := by
  have HI : Is (Ino.like n z d) (Ino.isFile n && (n.size == z && n.sum == d)) := ⟨rfl⟩
  have hr0 : (w.alloc (.cells (ndc n) 39)).heap[w.heap.size]? = some (.cells (ndc n) 39 (0, 0)) := heap_alloc_new w _
  have HA : Hid (NdAt ((w.alloc (.cells (ndc n) 39)).alloc (.cells (smc d) 37)) w.heap.size n) := (nd_at hs hr0).below ((Below.refl (w.heap.size + 1) _).alloc (by simp) _) (by omega)
  have HB : Hid (Below w.heap.size w ((w.alloc (.cells (ndc n) 39)).alloc (.cells (smc d) 37))) := ((Below.refl _ w).alloc (Nat.le_refl _) _).alloc (by simp) _
  have hr1 : ((w.alloc (.cells (ndc n) 39)).alloc (.cells (smc d) 37)).heap[w.heap.size + 1]? = some (.cells (smc d) 37 (0, 0)) := by
    have h := heap_alloc_new (w.alloc (.cells (ndc n) 39)) (.cells (smc d) 37)
    rwa [FI.size_alloc1] at h
  have HRd : Is (((w.alloc (.cells (ndc n) 39)).alloc (.cells (smc d) 37)).heap[w.heap.size + 1]?) (some (.cells (smc d) 37 (0, 0))) := ⟨hr1⟩
  clear hr1
  have HR : Is (((w.alloc (.cells (ndc n) 39)).alloc (.cells (smc d) 37)).heap[w.heap.size]?) (some (.cells (ndc n) 39 (0, 0))) := ⟨HA.out.row⟩
  have HZ : Is (ndc n).size 37 := ⟨ndc_size hs⟩
  have hz : w.heap.size + 2 ≤ ((w.alloc (.cells (ndc n) 39)).alloc (.cells (smc d) 37)).heap.size := by simp
  have HL : Is (n.sum.map c8).length 32 := ⟨by rw [List.length_map, hs]⟩
  have HLd : Is (smc d).size 32 := ⟨smc_size hd⟩
  have HE : ∀ W : World, (binOp .eql 37 (.agg (n.sum.map c8).toArray) (.agg (smc d))).run Tryd.prog W = .ok (.bool (n.sum == d)) W := fun W => by
    rw [run_eql_struct, show (n.sum.map c8).toArray = smc n.sum from rfl, sum_eq n.sum d hs hd 9998 W]; rfl
  have HF : Hid (∀ W : World, Calls Tryd.prog 50 #[.agg (ndc n)] W fun e w' => e = .returned (.bool (Ino.isFile n)) ∧ Below W.heap.size W w') := fun W => isFile_any n W hs
  clear hs hr0
  clear hd
  generalize ndc n = C at *
  generalize smc d = D at *
  go_enter Tryd.func31, Tryd.ntmps31
  go_upto_region 1 with fail
  generalize (w.alloc (.cells C 39)).alloc (.cells D 37) = w1 at *
  generalize Ino.isFile n = fi at *
  cases fi with
  | false =>
    go_wp2_with (first | (refine load_met (by rfl) 39 _ rfl _ rfl 39 C (0, 0) _ HR.eq Tryd.underlying39 rfl (by rw [size39, HZ.eq]) ?_))
    refine (HF.out _).mono ?_
    rintro e w2 ⟨rfl, hB2⟩
    obtain ⟨_, k0, k1, ks, k3, k4, k5⟩ := HA.out.below hB2 (by omega)
    have hrd := (hB2.block (w.heap.size + 1) (by omega)).trans HRd.eq
    have HB2 : Hid (Below w.heap.size w w2) := HB.out.trans (hB2.mono (by omega))
    have HKs : Hid (w2.rangeAt w.heap.size 2 (n.sum.map c8)) := ks
    have HRd2 : Is (w2.heap[w.heap.size + 1]?) (some (.cells D 37 (0, 0))) := ⟨hrd⟩
    clear hrd
    clear hB2 HA HB HR ks HRd
    go_wp2
    go_ret
    exact ⟨by rw [HI.eq]; rfl, HB2.out⟩
  | true =>
    go_wp2_with (first | (refine load_met (by rfl) 39 _ rfl _ rfl 39 C (0, 0) _ HR.eq Tryd.underlying39 rfl (by rw [size39, HZ.eq]) ?_))
    refine (HF.out _).mono ?_
    rintro e w2 ⟨rfl, hB2⟩
    obtain ⟨_, k0, k1, ks, k3, k4, k5⟩ := HA.out.below hB2 (by omega)
    have hrd := (hB2.block (w.heap.size + 1) (by omega)).trans HRd.eq
    have HB2 : Hid (Below w.heap.size w w2) := HB.out.trans (hB2.mono (by omega))
    have HKs : Hid (w2.rangeAt w.heap.size 2 (n.sum.map c8)) := ks
    have HRd2 : Is (w2.heap[w.heap.size + 1]?) (some (.cells D 37 (0, 0))) := ⟨hrd⟩
    clear hrd
    clear hB2 HA HB HR ks HRd
    generalize n.size = y at *
    generalize n.kind = kk at *
    generalize (n.sum == d) = sd at *
    generalize n.sum.map c8 = cs at *
    by_cases hy : y = z
    · subst hy
      rw [show (y == y) = true by simp] at HI
      go_wp2_with (first | (refine load_met_mid (by rfl) 37 _ rfl _ 2 rfl cs _ HKs.out Tryd.underlying37 rfl (by rw [size37, HL.eq]) ?_) | (refine load_met (by rfl) 37 _ rfl _ rfl 37 D (0, 0) _ HRd2.eq Tryd.underlying37 rfl (by rw [size37, HLd.eq]) ?_))
      go_ret
      exact ⟨by rw [HI.eq]; rfl, HB2.out⟩
    · have hy' : (y == z) = false := by simpa using hy
      rw [hy'] at HI
      go_wp2_with (first | (refine load_met_mid (by rfl) 37 _ rfl _ 2 rfl cs _ HKs.out Tryd.underlying37 rfl (by rw [size37, HL.eq]) ?_) | (refine load_met (by rfl) 37 _ rfl _ rfl 37 D (0, 0) _ HRd2.eq Tryd.underlying37 rfl (by rw [size37, HLd.eq]) ?_))
      go_ret
      exact ⟨by rw [HI.eq]; rfl, HB2.out⟩
set_option maxHeartbeats 1000000 in
set_option maxRecDepth 20000 in
theorem rlike_any (n : Nd) (z : Int) (d : List UInt8) (w : World) (hs : n.sum.length = 32) (hd : d.length = 32) : Calls Tryd.prog 32 #[.agg (ndc n), .int .i64 z, .agg (smc d)] w fun e w' => e = .returned (.bool (Ino.like n z d)) ∧ Below w.heap.size w w' := by
  have HI : Is (Ino.like n z d) (Ino.isFile n && (n.size == z && n.sum == d)) := ⟨rfl⟩
  have hr0 : (w.alloc (.cells (ndc n) 39)).heap[w.heap.size]? = some (.cells (ndc n) 39 (0, 0)) := heap_alloc_new w _
  have HA : Hid (NdAt ((w.alloc (.cells (ndc n) 39)).alloc (.cells (smc d) 37)) w.heap.size n) := (nd_at hs hr0).below ((Below.refl (w.heap.size + 1) _).alloc (by simp) _) (by omega)
  have HB : Hid (Below w.heap.size w ((w.alloc (.cells (ndc n) 39)).alloc (.cells (smc d) 37))) := ((Below.refl _ w).alloc (Nat.le_refl _) _).alloc (by simp) _
  have hr1 : ((w.alloc (.cells (ndc n) 39)).alloc (.cells (smc d) 37)).heap[w.heap.size + 1]? = some (.cells (smc d) 37 (0, 0)) := by
    have h := heap_alloc_new (w.alloc (.cells (ndc n) 39)) (.cells (smc d) 37)
    rwa [FI.size_alloc1] at h
  have HRd : Is (((w.alloc (.cells (ndc n) 39)).alloc (.cells (smc d) 37)).heap[w.heap.size + 1]?) (some (.cells (smc d) 37 (0, 0))) := ⟨hr1⟩
  clear hr1
  have HR : Is (((w.alloc (.cells (ndc n) 39)).alloc (.cells (smc d) 37)).heap[w.heap.size]?) (some (.cells (ndc n) 39 (0, 0))) := ⟨HA.out.row⟩
  have HZ : Is (ndc n).size 37 := ⟨ndc_size hs⟩
  have hz : w.heap.size + 2 ≤ ((w.alloc (.cells (ndc n) 39)).alloc (.cells (smc d) 37)).heap.size := by simp
  have HL : Is (n.sum.map c8).length 32 := ⟨by rw [List.length_map, hs]⟩
  have HLd : Is (smc d).size 32 := ⟨smc_size hd⟩
  have HE : ∀ W : World, (binOp .eql 37 (.agg (n.sum.map c8).toArray) (.agg (smc d))).run Tryd.prog W = .ok (.bool (n.sum == d)) W := fun W => by
    rw [run_eql_struct, show (n.sum.map c8).toArray = smc n.sum from rfl, sum_eq n.sum d hs hd 9998 W]; rfl
  have HC : Hid (∀ W : World, Calls Tryd.prog 21 #[.agg (ndc n)] W fun e w' => e = .returned (.int .i64 (Ino.chk n : Nat)) ∧ Below W.heap.size W w') := fun W => rcheck_any n W hs
  have HN : Hid (Ino.chk n = 0 ∧ (n.kind = 2 ∧ Ino.isFile n = true ∨ n.kind ≠ 2 ∧ Ino.isFile n = false) ∨ Ino.chk n = 2 ∧ Ino.isFile n = false) := by
    show _ ∨ _
    rcases Ino.chk_le n with h | h
    · by_cases hk : n.kind = 2
      · exact .inl ⟨h, .inl ⟨hk, (Ino.file_iff n).1 ⟨h, hk⟩⟩⟩
      · exact .inl ⟨h, .inr ⟨hk, not_kind hk⟩⟩
    · exact .inr ⟨h, not_file h⟩
  clear hs hr0
  clear hd
  generalize ndc n = C at *
  generalize smc d = D at *
  go_enter Tryd.func32, Tryd.ntmps32
  go_upto_region 1 with fail
  generalize (w.alloc (.cells C 39)).alloc (.cells D 37) = w1 at *
  rcases HN.out with ⟨h, ⟨hk, hf⟩ | ⟨hk, hf⟩⟩ | ⟨h, hf⟩
  · rw [h] at HC
    rw [hf] at HI
    clear HN h hf
    go_wp2_with (first | (refine load_met (by rfl) 39 _ rfl _ rfl 39 C (0, 0) _ HR.eq Tryd.underlying39 rfl (by rw [size39, HZ.eq]) ?_))
    refine (HC.out _).mono ?_
    rintro e w2 ⟨rfl, hB2⟩
    obtain ⟨_, k0, k1, ks, k3, k4, k5⟩ := HA.out.below hB2 (by omega)
    have hrd := (hB2.block (w.heap.size + 1) (by omega)).trans HRd.eq
    have HB2 : Hid (Below w.heap.size w w2) := HB.out.trans (hB2.mono (by omega))
    have HKs : Hid (w2.rangeAt w.heap.size 2 (n.sum.map c8)) := ks
    have HRd2 : Is (w2.heap[w.heap.size + 1]?) (some (.cells D 37 (0, 0))) := ⟨hrd⟩
    clear hrd
    clear hB2 HA HB HR ks HRd
    rw [hk] at k0
    clear hk
    generalize n.size = y at *
    generalize n.kind = kk at *
    generalize (n.sum == d) = sd at *
    generalize n.sum.map c8 = cs at *
    by_cases hy : y = z
    · subst hy
      rw [show (y == y) = true by simp] at HI
      go_wp2_with (first | (refine load_met_mid (by rfl) 37 _ rfl _ 2 rfl cs _ HKs.out Tryd.underlying37 rfl (by rw [size37, HL.eq]) ?_) | (refine load_met (by rfl) 37 _ rfl _ rfl 37 D (0, 0) _ HRd2.eq Tryd.underlying37 rfl (by rw [size37, HLd.eq]) ?_))
      go_ret
      exact ⟨by rw [HI.eq]; rfl, HB2.out⟩
    · have hy' : (y == z) = false := by simpa using hy
      rw [hy'] at HI
      go_wp2_with (first | (refine load_met_mid (by rfl) 37 _ rfl _ 2 rfl cs _ HKs.out Tryd.underlying37 rfl (by rw [size37, HL.eq]) ?_) | (refine load_met (by rfl) 37 _ rfl _ rfl 37 D (0, 0) _ HRd2.eq Tryd.underlying37 rfl (by rw [size37, HLd.eq]) ?_))
      go_ret
      exact ⟨by rw [HI.eq]; rfl, HB2.out⟩
  · rw [h] at HC
    rw [hf] at HI
    have hk' : (n.kind == 2) = false := by simpa using hk
    clear HN h hf
    go_wp2_with (first | (refine load_met (by rfl) 39 _ rfl _ rfl 39 C (0, 0) _ HR.eq Tryd.underlying39 rfl (by rw [size39, HZ.eq]) ?_))
    refine (HC.out _).mono ?_
    rintro e w2 ⟨rfl, hB2⟩
    obtain ⟨_, k0, k1, ks, k3, k4, k5⟩ := HA.out.below hB2 (by omega)
    have hrd := (hB2.block (w.heap.size + 1) (by omega)).trans HRd.eq
    have HB2 : Hid (Below w.heap.size w w2) := HB.out.trans (hB2.mono (by omega))
    have HKs : Hid (w2.rangeAt w.heap.size 2 (n.sum.map c8)) := ks
    have HRd2 : Is (w2.heap[w.heap.size + 1]?) (some (.cells D 37 (0, 0))) := ⟨hrd⟩
    clear hrd
    clear hB2 HA HB HR ks HRd
    generalize n.kind = kk at *
    go_wp2
    go_ret
    exact ⟨by rw [HI.eq]; rfl, HB2.out⟩
  · rw [h] at HC
    rw [hf] at HI
    clear HN h hf
    go_wp2_with (first | (refine load_met (by rfl) 39 _ rfl _ rfl 39 C (0, 0) _ HR.eq Tryd.underlying39 rfl (by rw [size39, HZ.eq]) ?_))
    refine (HC.out _).mono ?_
    rintro e w2 ⟨rfl, hB2⟩
    obtain ⟨_, k0, k1, ks, k3, k4, k5⟩ := HA.out.below hB2 (by omega)
    have hrd := (hB2.block (w.heap.size + 1) (by omega)).trans HRd.eq
    have HB2 : Hid (Below w.heap.size w w2) := HB.out.trans (hB2.mono (by omega))
    have HKs : Hid (w2.rangeAt w.heap.size 2 (n.sum.map c8)) := ks
    have HRd2 : Is (w2.heap[w.heap.size + 1]?) (some (.cells D 37 (0, 0))) := ⟨hrd⟩
    clear hrd
    clear hB2 HA HB HR ks HRd
    go_wp2
    go_ret
    exact ⟨by rw [HI.eq]; rfl, HB2.out⟩
end Go.Proofs.YtealbeblkilibaaDoor
/- Proved: the laws' example answers true. -/
namespace Go.Proofs.YtealbeblkilibaaDoor
open Go.RowKit
open Ino (Nd Ar Pt)
def exN : Nd := ⟨2, 0, Ino.noughts, 3, 0, 0⟩
def exA : Ar := ⟨3, 0, Ino.noughts⟩
theorem exN_built : (Tryd.prog.built 39 [(0, .int .i64 2), (3, .int .i64 3)]).getD #[] = ndc exN := by kernel_rfl
theorem exA_built : (Tryd.prog.built 55 [(0, .int .i64 3)]).getD #[] = arc exA := by kernel_rfl
theorem build_exN {ops : Array Oper} {rest : List Oper} {o : Oper} {a : Act} {w : World} {Q : Exit → Act → World → Prop} (hg : o.guard = none) (ho : o.op = .build 39 #[(0, .const (.int .i64 2)), (3, .const (.int .i64 3))])
    (h : wpList Tryd.prog ops Q rest (a.put o.dst (.agg (ndc exN))) w) : wpList Tryd.prog ops Q (o :: rest) a w := by
  refine wpList_build hg 39 _ ho (by kernel_rfl) ?_
  have e : (#[(0, Operand.const (.int .i64 2)), (3, Operand.const (.int .i64 3))].map fun (x : Nat × Operand) => (x.1, a.eval x.2)).toList = [(0, .int .i64 2), (3, .int .i64 3)] := by simp; exact ⟨rfl, rfl⟩
  rw [e, exN_built]
  exact h
theorem wp_build_any {o : Oper} {a : Act} {w : World} {K : Act → World → Prop} {Q : Exit → Act → World → Prop} (t : TypeId) (parts : Array (Nat × Operand)) (ho : o.op = .build t parts) (C : Array Value)
    (hf : Tryd.prog.built t (parts.map fun (i, x) => (i, a.eval x)).toList = some C) (h : K (a.put o.dst (.agg C)) w) : o.wp Tryd.prog a w K Q :=
  wp_build t parts ho (by rw [hf]; rfl) (by rw [hf]; exact h)
theorem build_met {ops : Array Oper} {rest : List Oper} {o : Oper} {a : Act} {w : World} {Q : Exit → Act → World → Prop} (hg : Region.wanted o (yielded ops a.tmps) = true) (t : TypeId) (parts : Array (Nat × Operand)) (ho : o.op = .build t parts) (C : Array Value)
    (hf : Tryd.prog.built t (parts.map fun (i, x) => (i, a.eval x)).toList = some C)
    (h : wpList Tryd.prog ops Q rest (a.put o.dst (.agg C)) w) : wpList Tryd.prog ops Q (o :: rest) a w :=
  wpList_met hg fun _ hK => wp_build_any t parts ho C hf (hK _ _ h)
theorem exA_some : Tryd.prog.built 55 [(0, .int .i64 3)] = some (arc exA) := by kernel_rfl
theorem zero39 (W : World) : (zeroValue 39).run Tryd.prog W = .ok (.agg (ndc Ino.zeroN)) W := by kernel_rfl
theorem ex_kind : Pm.kind [97, 47, 98, 46, 99] = (2, 0) := by decide +kernel
theorem ex_key : Ino.keyL [97, 47, 98, 46, 99] = [⟨2, 0, ⟨#[97]⟩⟩, ⟨2, 0, ⟨#[98, 46, 99]⟩⟩] := by
  have : Pm.split [97, 47, 98, 46, 99] = [[97], [98, 46, 99]] := by decide +kernel
  unfold Ino.keyL
  rw [this]; rfl
set_option maxHeartbeats 1000000 in
set_option maxRecDepth 20000 in
theorem works_any (w : World) (hT : Tab w) : Calls Tryd.prog 14 #[] w fun e w' => e = .returned (.bool true) ∧ Below w.heap.size w w' := by
  have HK : Hid (Calls Tryd.prog 9 #[.string ⟨#[97, 47, 98, 46, 99]⟩] w fun e w' => ∃ v, e = .returned (.tuple #[v, .int .i64 0]) ∧ w'.ownsRow w.heap.size 24 3 v 2 (([⟨2, 0, ⟨#[97]⟩⟩, ⟨2, 0, ⟨#[98, 46, 99]⟩⟩] : List Pt).flatMap pcells) ∧ Below w.heap.size w w') := by
    have h := key_any ⟨#[97, 47, 98, 46, 99]⟩ w (by decide) hT
    rw [show Pm.kind (bl ⟨#[97, 47, 98, 46, 99]⟩) = _ from ex_kind, show Ino.keyL (bl ⟨#[97, 47, 98, 46, 99]⟩) = _ from ex_key] at h
    exact h
  have HD : Hid (∀ W : World, Calls Tryd.prog 29 #[.agg (ndc exN), .agg (arc exA), .bool true] W fun e w' => e = .returned (.bool true) ∧ Below W.heap.size W w') := fun W => by
    have h := dirty_any exN exA true W (by decide)
    rw [show Ino.dirt exN exA true = true by decide] at h; exact h
  have HH : Hid (∀ W : World, Calls Tryd.prog 27 #[.agg (ndc exN)] W fun e w' => e = .returned (.bool false) ∧ Below W.heap.size W w') := fun W => by
    have h := hollow_any exN W (by decide)
    rw [show Ino.holl exN = false by decide] at h; exact h
  have HZ : Is (ndc exN).size 37 := ⟨ndc_size (by decide)⟩
  have hz39 := zero39
  have HC0 : Hid (∀ ops rest o a W Q, (o : Oper).guard = none → o.op = .build 39 #[(0, .const (.int .i64 2)), (3, .const (.int .i64 3))] → wpList Tryd.prog ops Q rest (a.put o.dst (.agg (ndc exN))) W → wpList Tryd.prog ops Q (o :: rest) a W) := fun ops rest o a W Q h1 h2 h3 => build_exN h1 h2 h3
  have H1 : Hid ((ndc exN).all (·.oneCell') = true) := ndc_one exN
  have HZ0 : Is (ndc Ino.zeroN).size 37 := ⟨ndc_size (by decide)⟩
  generalize ndc exN = C at *
  generalize ndc Ino.zeroN = Z at *
  go_enter Tryd.func14, Tryd.ntmps14
  go_wp2_with fail
  refine (show Calls _ _ _ _ _ from HK.out).mono ?_
  rintro e w1 ⟨v, rfl, ho, hB1⟩
  obtain ⟨ad, cp, rfl, hcp, hP⟩ := own_parts ho
  have HB1 : Hid (Below w.heap.size w w1) := hB1
  have hz1 := hB1.size
  have hl1 : ∃ b off, ad = some ⟨b, off, none⟩ ∧ ∀ i, i < 2 → PartAt w1 b (off + i * 3) (([⟨2, 0, ⟨#[97]⟩⟩, ⟨2, 0, ⟨#[98, 46, 99]⟩⟩] : List Pt).getD i pt0) := by
    rcases hP.2 with h | h
    · cases h
    · exact h
  obtain ⟨b, off, rfl, hc⟩ := hl1
  have HX : Hid (w1.cell? ⟨b, off + 3 + 2, none⟩ = some (.string ⟨#[98, 46, 99]⟩)) := (hc 1 (by omega)).s
  have hb1 : b < w1.heap.size := block_lt_of_cell HX.out
  clear ho hB1 hP hc HK
  go_upto_region 2 with fail
  go_upto_region 3 with (first | (refine HC0.out _ _ _ _ _ _ rfl rfl ?_) | (refine wpList_store_row rfl 39 (.tmp 3) (.tmp 8) rfl w1.heap.size C rfl rfl 39 Z (heap_alloc_new w1 _) (by rw [size39, HZ.eq]) (by rw [HZ0.eq, HZ.eq]) H1.out ?_; rw [World.setRow_alloc_new]))
  have HR : Is ((w1.alloc (.cells C 39)).heap[w1.heap.size]?) (some (.cells C 39 (0, 0))) := ⟨heap_alloc_new w1 _⟩
  have hB2 : Below w1.heap.size w1 (w1.alloc (.cells C 39)) := (Below.refl _ w1).alloc (Nat.le_refl _) _
  have c1 : (w1.alloc (.cells C 39)).cell? ⟨b, off + 3 + 2, none⟩ = some (.string ⟨#[98, 46, 99]⟩) := (hB2.cell (p := ⟨b, off + 3 + 2, none⟩) hb1).trans HX.out
  have HB2 : Hid (Below w.heap.size w (w1.alloc (.cells C 39))) := HB1.out.trans (hB2.mono hz1)
  have hl2 : w1.heap.size < (w1.alloc (.cells C 39)).heap.size := by simp
  have hz2 := HB2.out.size
  clear hB2 HX hb1 HB1 HC0 H1 HZ0 hz39 hcp
  generalize w1.alloc (.cells C 39) = w2 at *
  generalize w1.heap.size = g at *
  clear hz1 w1
  have e9 : ((⟨#[98, 46, 99]⟩ : ByteArray).toList == (⟨#[98, 46, 99]⟩ : ByteArray).toList) = true := by simp
  go_wp2_with (first | (refine load_met (by rfl) 39 _ rfl _ rfl 39 C (0, 0) _ HR.eq Tryd.underlying39 rfl (by rw [size39, HZ.eq]) ?_) | (refine build_met (by rfl) 55 _ rfl (arc exA) exA_some ?_) | (go_at_call 29; refine (HD.out _).mono ?_; rintro e w3 ⟨rfl, hB3⟩; have HR3 : Is (w3.heap[g]?) (some (.cells C 39 (0, 0))) := ⟨(hB3.block g hl2).trans HR.eq⟩; have HB3 : Hid (Below w.heap.size w w3) := HB2.out.trans (hB3.mono hz2); clear hB3) | (refine load_met (by rfl) 39 _ rfl _ rfl 39 C (0, 0) _ HR3.eq Tryd.underlying39 rfl (by rw [size39, HZ.eq]) ?_) | (go_at_call 27; refine (HH.out _).mono ?_; rintro e w4 ⟨rfl, hB4⟩; have HB4 : Hid (Below w.heap.size w w4) := HB3.out.trans (hB4.mono HB3.out.size); clear hB4))
  go_ret
  exact ⟨rfl, HB4.out⟩
end Go.Proofs.YtealbeblkilibaaDoor
/- Proved: whole variables read in a statement that draws its order. -/
namespace Go.Proofs.YtealbeblkilibaaDoor
open Go.RowKit
theorem yields_mid {ops : Array Oper} {S : World → Prop} {op : Oper} {a : Act} (hw : Region.wanted op (yielded ops a.tmps) = true) (ty : TypeId) (x : Operand) (ho : op.op = .load ty x)
    (b k : Nat) (hx : a.eval x = .pointer (some ⟨b, k, none⟩)) (C : Array Value) (d : TypeDesc) (hS : ∀ w, S w → w.rangeAt b k C.toList)
    (hu : Tryd.prog.underlying ty = some d) (hd : d.isRow = true) (hi : (Tryd.prog.info? ty).map (·.size) = some C.size) : YieldsIf Tryd.prog ops S op (.agg C) a := by
  have h := yieldsIf_load_mid (P := Tryd.prog) hw ty x ho b k hx C.toList d hS hu hd (by rw [hi, Array.length_toList])
  rwa [Array.toArray_toList] at h
theorem range_row {w : World} {g : Nat} {C : Array Value} {t : TypeId} {fr : Nat × Nat} (h : w.heap[g]? = some (.cells C t fr)) : w.rangeAt g 0 C.toList := fun j v hv => by
  rw [cell_of_row w g (0 + j) C t fr h, Nat.zero_add, ← Array.getElem?_toList]; exact hv
theorem hold_call {N : Nat} {W0 W W' : World} (h : Below N W0 W) (hN : N ≤ W0.heap.size) (hb : Below W.heap.size W W') : Below N W0 W' := h.trans (hb.mono (Nat.le_trans hN h.size))
end Go.Proofs.YtealbeblkilibaaDoor
/- Proved: Path answers the path that has a key, or that none has. -/
namespace Go.Proofs.YtealbeblkilibaaDoor
open Go.RowKit
open Ino (Pt)
theorem walk_cons (p : Pm.T) (x : Pt) (r : List Pt) : Ino.walkP p (x :: r) = if (Pm.joined p (bl x.s)).2 = 0 ∧ Ino.isT x = true then Ino.walkP (Pm.joined p (bl x.s)).1 r else none := rfl
theorem walk_app (a : List Pt) : ∀ (b : List Pt) (p : Pm.T), Ino.walkP p (a ++ b) = (Ino.walkP p a).bind fun q => Ino.walkP q b := by
  induction a with
  | nil => intro b p; rfl
  | cons x a ih =>
    intro b p
    rw [List.cons_append, walk_cons, walk_cons]
    by_cases h : (Pm.joined p (bl x.s)).2 = 0 ∧ Ino.isT x = true
    · rw [if_pos h, if_pos h]; exact ih b _
    · rw [if_neg h, if_neg h]; rfl
theorem walk_ok {key : List Pt} {q : Pm.T} (h : Ino.walkP [] key = some q) : (Pm.kind q).2 = 0 := by
  by_cases hk : Ino.okK key
  · rw [Ino.walk_yes _ hk] at h
    cases h
    exact Ino.ok_isP hk
  · rw [Ino.walk_no _ hk] at h; cases h
theorem kind_short {q : Pm.T} (h : (Pm.kind q).2 = 0) : q.length ≤ 96 := by
  unfold Pm.kind at h
  split at h
  · cases h
  · omega
theorem take_getD (ps : List Pt) (k : Nat) (hk : k < ps.length) : ps.take (k + 1) = ps.take k ++ [ps.getD k pt0] := by
  rw [List.take_succ_eq_append_getElem hk, List.getD_eq_getElem?_getD, List.getElem?_eq_getElem hk]; rfl
theorem path_none {ps : List Pt} (h : Ino.walkP [] ps = none) : Ino.pathS ps = [] ∧ Ino.pathE ps = 5 := by
  unfold Ino.pathS Ino.pathE
  rw [h]; exact ⟨rfl, rfl⟩
theorem path_some {ps : List Pt} {q : Pm.T} (h : Ino.walkP [] ps = some q) : Ino.pathS ps = q ∧ Ino.pathE ps = 0 := by
  unfold Ino.pathS Ino.pathE
  rw [h]; exact ⟨rfl, rfl⟩
set_option maxHeartbeats 1000000 in
set_option maxRecDepth 20000 in
theorem path_any (a : Option Addr) (len cap : Nat) (ps : List Pt) (w : World) (hF : PartsL w a len ps) (hlen : len ≤ 30000) (hsz : ∀ x ∈ ps, x.s.size ≤ 4000) (hT : Tab w) :
    Calls Tryd.prog 11 #[.slice a len cap] w fun e w' => e = .returned (.tuple #[.string (mk (Ino.pathS ps)), .int .i64 (Ino.pathE ps : Nat)]) ∧ Below w.heap.size w w' := by
  have HF : Hid (PartsL w a len ps) := hF
  have HT : Hid (Tab w) := hT
  have HSZ : Hid (∀ x ∈ ps, x.s.size ≤ 4000) := hsz
  clear hF hT hsz
  go_enter Tryd.func11, Tryd.ntmps11
  go_wp2_with fail
  go_loopw [4, 11] (fun v4 i wr => ∃ (k : Nat) (q : Pm.T), k ≤ len ∧ i = .int .i64 k ∧ v4 = .string (mk q) ∧ Ino.walkP [] (ps.take k) = some q ∧ Below w.heap.size w wr) (fun _ i _ => len - (intOf i).toNat)
  case atStart => exact ⟨0, [], by omega, rfl, rfl, rfl, Below.refl _ _⟩
  case round =>
    obtain ⟨k, q, hk, rfl, rfl, hq, hB⟩ := hrel
    have HQ : Is (Ino.walkP [] (ps.take k)) (some q) := ⟨hq⟩
    have HB : Hid (Below w.heap.size w wr) := hB
    have hsw := hB.size
    have hq96 := kind_short (walk_ok hq)
    clear hq hB
    by_cases hlt : k < len
    · have i0 : (k : Int) < (len : Int) := by omega
      have j0 : (0 : Int) ≤ (k : Int) := Int.natCast_nonneg _
      obtain ⟨b, off, rfl, hc⟩ : ∃ b off, a = some ⟨b, off, none⟩ ∧ ∀ i, i < len → PartAt w b (off + i * 3) (ps.getD i pt0) := by
        rcases HF.out.2 with h | h
        · omega
        · exact h
      have hbl : b < w.heap.size := block_lt_of_cell (hc k hlt).kind
      obtain ⟨d0, d1, d2⟩ := (hc k hlt).below HB.out hbl
      have hkl : k < ps.length := by rw [HF.out.1]; exact hlt
      have hxm : ps.getD k pt0 ∈ ps := by rw [List.getD_eq_getElem?_getD, List.getElem?_eq_getElem hkl]; exact List.getElem_mem hkl
      have HX4 : Hid ((ps.getD k pt0).s.size ≤ 4000) := HSZ.out _ hxm
      have HST : Is (Ino.walkP [] (ps.take (k + 1))) (if (Pm.joined q (bl (ps.getD k pt0).s)).2 = 0 ∧ Ino.isT (ps.getD k pt0) = true then some (Pm.joined q (bl (ps.getD k pt0).s)).1 else none) := ⟨by
        rw [take_getD ps k hkl, Ino.walk_snoc, HQ.eq, Option.bind_some]⟩
      have HNO : Hid (Ino.walkP [] (ps.take (k + 1)) = none → Ino.pathS ps = [] ∧ Ino.pathE ps = 5) := fun h => path_none (by
        have e : ps = ps.take (k + 1) ++ ps.drop (k + 1) := (List.take_append_drop _ _).symm
        rw [e, walk_app, h]; rfl)
      clear hc hxm HQ
      generalize ps.getD k pt0 = x at *
      obtain ⟨kk, nn, s⟩ := x
      have JN : Hid (∀ W : World, Tab W → Calls Tryd.prog 40 #[.string (mk q), .string s] W fun e w' => e = .returned (.tuple #[.string (mk (Pm.joined q (bl s)).1), .int .i64 ((Pm.joined q (bl s)).2 : Nat)]) ∧ Below W.heap.size W w') := fun W hW => joined_any (mk q) s W (by rw [mk_size]; omega) HX4.out hW
      have HIT : Is (Ino.isT ⟨kk, nn, s⟩) (kk == 2 && nn == 0) := ⟨rfl⟩
      simp only at d0 d1 d2
      have HTr : Hid (Tab wr) := HT.out.below HB.out
      go_upto_region 5 with fail
      have HB4 : Hid (Below w.heap.size w (wr.alloc (.cells #[.int .i64 kk, .int .i64 nn, .string s] 24))) := HB.out.trans (((Below.refl _ wr).alloc (Nat.le_refl _) _).mono hsw)
      have HP4 : Hid (PartAt (wr.alloc (.cells #[.int .i64 kk, .int .i64 nn, .string s] 24)) wr.heap.size 0 ⟨kk, nn, s⟩) := by
        have h := part_new wr ⟨kk, nn, s⟩
        exact ⟨h 0 _ rfl, h 1 _ rfl, h 2 _ rfl⟩
      have HT4 : Hid (Tab (wr.alloc (.cells #[.int .i64 kk, .int .i64 nn, .string s] 24))) := HT.out.below HB4.out
      have hz4 : (wr.alloc (.cells #[.int .i64 kk, .int .i64 nn, .string s] 24)).heap.size = wr.heap.size + 1 := by simp
      have hlw : wr.heap.size < (wr.alloc (.cells #[.int .i64 kk, .int .i64 nn, .string s] 24)).heap.size := by omega
      clear hz4
      generalize wr.alloc (.cells #[.int .i64 kk, .int .i64 nn, .string s] 24) = w4 at *
      generalize wr.heap.size = g at *
      obtain ⟨p0, p1, p2⟩ := HP4.out
      simp only [Nat.zero_add] at p0 p1 p2
      clear d0 d1 d2 HX4
      generalize (Pm.joined q (bl s)).1 = q1 at *
      go_wp2_with fail
      refine (JN.out _ HT4.out).mono ?_
      rintro e w5 ⟨rfl, hB5⟩
      have HP5 : Hid (PartAt w5 g 0 ⟨kk, nn, s⟩) := HP4.out.below hB5 hlw
      have HB5 : Hid (Below w.heap.size w w5) := HB4.out.trans (hB5.mono (by omega))
      have hl5 : g < w5.heap.size := Nat.lt_of_lt_of_le hlw hB5.size
      clear hB5 p0 p1 p2 HP4 HB4 HT4 JN
      by_cases he : (Pm.joined q (bl s)).2 = 0
      · rw [he] at HST ⊢
        clear he
        have hS5 : (fun W : World => PartAt W g 0 ⟨kk, nn, s⟩ ∧ Below w.heap.size w W) w5 := ⟨HP5.out, HB5.out⟩
        obtain ⟨p0, p1, p2⟩ := HP5.out
        simp only [Nat.zero_add] at p0 p1 p2
        by_cases hkn : kk = 2 ∧ nn = 0
        · obtain ⟨rfl, rfl⟩ := hkn
          rw [if_pos ⟨rfl, by rw [HIT.eq]; rfl⟩] at HST
          go_wp2_with fail
          have HS5 : Hid ((fun W : World => PartAt W g 0 ⟨2, 0, s⟩ ∧ Below w.heap.size w W) w5.drew) := ⟨HP5.out.below (Below.refl (g + 1) _).drew (by omega), HB5.out.drew⟩
          go_region_held3 (fun W => W.cell? ⟨g, 0, none⟩ = some (.int .i64 2) ∧ W.cell? ⟨g, 1, none⟩ = some (.int .i64 0) ∧ W.cell? ⟨g, 2, none⟩ = some (.string s) ∧ Below w.heap.size w W)
            (first | exact ⟨by simpa using HS5.out.1.kind, by simpa using HS5.out.1.n, by simpa using HS5.out.1.s, HS5.out.2⟩ | assumption | exact hS6)
            (first | (go_at_call 37; refine (text_any s _).mono ?_; rintro e w6 ⟨rfl, hB6⟩; have hS6 : w6.cell? ⟨g, 0, none⟩ = some (.int .i64 2) ∧ w6.cell? ⟨g, 1, none⟩ = some (.int .i64 0) ∧ w6.cell? ⟨g, 2, none⟩ = some (.string s) ∧ Below w.heap.size w w6 := (by have hP6 := HS5.out.1.below hB6 (show g < w5.drew.heap.size from hl5); exact ⟨by simpa using hP6.kind, by simpa using hP6.n, by simpa using hP6.s, HS5.out.2.trans (hB6.mono (Nat.le_trans hsw (Nat.le_of_lt hl5)))⟩)))
          have HBF : Hid (Below w.heap.size w w6) := hS6.2.2.2
          go_wp2_with fail
          go_roundw
          case rel => exact ⟨k + 1, q1, by omega, by go_num, rfl, HST.eq, HBF.out⟩
          case measure => (simp [intOf]) <;> omega
        · have hnt : Ino.isT ⟨kk, nn, s⟩ = false := by
            rw [HIT.eq, Bool.and_eq_false_iff]
            by_cases h : kk = 2
            · exact .inr (by simpa using fun h' => hkn ⟨h, h'⟩)
            · exact .inl (by simpa using h)
          obtain ⟨e1, e2⟩ := HNO.out (by rw [HST.eq, if_neg (fun h => by rw [hnt] at h; cases h.2)])
          have E1 : Is (Ino.pathS ps) [] := ⟨e1⟩
          have E2 : Is (Ino.pathE ps) 5 := ⟨e2⟩
          clear e1 e2 hnt HIT HST
          by_cases hk2 : kk = 2
          · subst hk2
            have hn0 : ¬ nn = 0 := fun h => hkn ⟨rfl, h⟩
            have hn0' : (nn == 0) = false := by simpa using hn0
            clear hkn
            go_wp2_with fail
            have HS5 : Hid ((fun W : World => PartAt W g 0 ⟨2, nn, s⟩ ∧ Below w.heap.size w W) w5.drew) := ⟨HP5.out.below (Below.refl (g + 1) _).drew (by omega), HB5.out.drew⟩
            go_region_held3 (fun W => W.cell? ⟨g, 0, none⟩ = some (.int .i64 2) ∧ W.cell? ⟨g, 1, none⟩ = some (.int .i64 nn) ∧ W.cell? ⟨g, 2, none⟩ = some (.string s) ∧ Below w.heap.size w W)
              (first | exact ⟨by simpa using HS5.out.1.kind, by simpa using HS5.out.1.n, by simpa using HS5.out.1.s, HS5.out.2⟩ | assumption | exact hS6)
              (first | (go_at_call 37; refine (text_any s _).mono ?_; rintro e w6 ⟨rfl, hB6⟩; have hS6 : w6.cell? ⟨g, 0, none⟩ = some (.int .i64 2) ∧ w6.cell? ⟨g, 1, none⟩ = some (.int .i64 nn) ∧ w6.cell? ⟨g, 2, none⟩ = some (.string s) ∧ Below w.heap.size w w6 := (by have hP6 := HS5.out.1.below hB6 (show g < w5.drew.heap.size from hl5); exact ⟨by simpa using hP6.kind, by simpa using hP6.n, by simpa using hP6.s, HS5.out.2.trans (hB6.mono (Nat.le_trans hsw (Nat.le_of_lt hl5)))⟩)))
            have HBF : Hid (Below w.heap.size w w6) := hS6.2.2.2
            go_wp2_with fail
            go_ret2
            exact ⟨by rw [E1.eq, E2.eq]; rfl, HBF.out⟩
          · have hk2' : (kk == 2) = false := by simpa using hk2
            clear hkn
            go_wp2_with fail
            have HS5 : Hid ((fun W : World => PartAt W g 0 ⟨kk, nn, s⟩ ∧ Below w.heap.size w W) w5.drew) := ⟨HP5.out.below (Below.refl (g + 1) _).drew (by omega), HB5.out.drew⟩
            go_region_held3 (fun W => W.cell? ⟨g, 0, none⟩ = some (.int .i64 kk) ∧ W.cell? ⟨g, 1, none⟩ = some (.int .i64 nn) ∧ W.cell? ⟨g, 2, none⟩ = some (.string s) ∧ Below w.heap.size w W)
              (first | exact ⟨by simpa using HS5.out.1.kind, by simpa using HS5.out.1.n, by simpa using HS5.out.1.s, HS5.out.2⟩ | assumption | exact hS6)
              (first | (go_at_call 37; refine (text_any s _).mono ?_; rintro e w6 ⟨rfl, hB6⟩; have hS6 : w6.cell? ⟨g, 0, none⟩ = some (.int .i64 kk) ∧ w6.cell? ⟨g, 1, none⟩ = some (.int .i64 nn) ∧ w6.cell? ⟨g, 2, none⟩ = some (.string s) ∧ Below w.heap.size w w6 := (by have hP6 := HS5.out.1.below hB6 (show g < w5.drew.heap.size from hl5); exact ⟨by simpa using hP6.kind, by simpa using hP6.n, by simpa using hP6.s, HS5.out.2.trans (hB6.mono (Nat.le_trans hsw (Nat.le_of_lt hl5)))⟩)))
            have HBF : Hid (Below w.heap.size w w6) := hS6.2.2.2
            go_wp2_with fail
            go_ret2
            exact ⟨by rw [E1.eq, E2.eq]; rfl, HBF.out⟩
      · obtain ⟨e1, e2⟩ := HNO.out (by rw [HST.eq, if_neg (fun h => he h.1)])
        have E1 : Is (Ino.pathS ps) [] := ⟨e1⟩
        have E2 : Is (Ino.pathE ps) 5 := ⟨e2⟩
        have k1 : ¬ (((Pm.joined q (bl s)).2 : Nat) : Int) = 0 := by omega
        have k2 : ((((Pm.joined q (bl s)).2 : Nat) : Int) == 0) = false := by simp only [beq_eq_false_iff_ne, ne_eq]; exact k1
        have k3 : ((((Pm.joined q (bl s)).2 : Nat) : Int) != 0) = true := by simp only [bne_iff_ne, ne_eq]; exact k1
        clear e1 e2 HIT HST he HNO
        generalize (Pm.joined q (bl s)).2 = ke at *
        go_wp2_with fail
        go_region
        go_wp2_with fail
        go_ret2
        exact ⟨by rw [E1.eq, E2.eq]; rfl, HB5.out.drew⟩
    · obtain rfl : k = len := by omega
      have hks : ps.take k = ps := List.take_of_length_le (by rw [HF.out.1]; omega)
      obtain ⟨e1, e2⟩ := path_some (ps := ps) (q := q) (by rw [← HQ.eq, hks])
      have E1 : Is (Ino.pathS ps) q := ⟨e1⟩
      have E2 : Is (Ino.pathE ps) 0 := ⟨e2⟩
      have i0 : ¬ (k : Int) < (k : Int) := by omega
      clear e1 e2 hks HQ hq96
      go_wp2_with fail
      go_ret2
      exact ⟨by rw [E1.eq, E2.eq]; rfl, HB.out⟩
end Go.Proofs.YtealbeblkilibaaDoor
