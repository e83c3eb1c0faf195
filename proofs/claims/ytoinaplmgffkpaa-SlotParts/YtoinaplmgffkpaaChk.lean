/- Proved: what slot's rise, sum, keysOf, sizesOf, Check and Size answer (stage 11). -/
import Derived.Test.YtoinaplmgffkpaaEach
import Derived.Laws.Cover1
namespace Go.Proofs.Ytoinaplmgffkpaa
open Go.RowKit
open Sl (Cel Nod)
theorem below_drewN {B n : Nat} {w w' : World} (h : Below B w w') : Below B w (w'.drewN n) := ⟨h.os, h.tape, h.output, h.size, h.block⟩
theorem rise_of {l : List ByteArray} {k : Nat} (hk : ¬ k + 1 < l.length) (h : ∀ i, i < k → Sl.lt (l.getD i ByteArray.empty) (l.getD (i + 1) ByteArray.empty) = true) : Sl.rise l = true :=
  (Sl.rise_iff l).2 fun i hi => h i (by omega)
theorem rise_no {l : List ByteArray} {k : Nat} (hk : k + 1 < l.length) (h : Sl.lt (l.getD k ByteArray.empty) (l.getD (k + 1) ByteArray.empty) = false) : Sl.rise l = false := by
  cases h2 : Sl.rise l with
  | false => rfl
  | true => rw [(Sl.rise_iff l).1 h2 k hk] at h; cases h
set_option maxHeartbeats 1000000 in
theorem rise_any (ad : Option Addr) (c : Nat) (l : List ByteArray) (w : World) (hA : RowAt w ad (kcells l)) (hl : l.length ≤ 1000) :
    Calls Try.prog 43 #[.slice ad l.length c] w fun e w' => e = .returned (.bool (Sl.rise l)) ∧ Below w.heap.size w w' := by
  have HA : Hid (RowAt w ad (kcells l)) := hA
  clear hA
  go_enter Try.func43, Try.ntmps43
  go_wp2_with fail
  go_loopw [7] (fun s7 wr => ∃ k : Nat, k ≤ l.length ∧ s7 = .int .i64 k ∧ (∀ i, i < k → Sl.lt (l.getD i ByteArray.empty) (l.getD (i + 1) ByteArray.empty) = true) ∧ Below w.heap.size w wr) (fun s7 _ => l.length - (intOf s7).toNat)
  case atStart => exact ⟨0, by omega, rfl, fun i hi => absurd hi (by omega), Below.refl _ _⟩
  case round =>
    obtain ⟨k, hk, rfl, hall, hB⟩ := hrel
    have HB : Hid (Below w.heap.size w wr) := hB
    have HALL := (show Hid (∀ i, i < k → Sl.lt (l.getD i ByteArray.empty) (l.getD (i + 1) ByteArray.empty) = true) from hall)
    clear hall hB
    by_cases hlt : k + 1 < l.length
    · obtain ⟨b, off, rfl, hb, hc⟩ := HA.out.keyAt (by omega)
      have hc0 := (HB.out.cell (p := ⟨b, off + k, none⟩) hb).trans (hc k (by omega))
      have hc1 := (HB.out.cell (p := ⟨b, off + (k + 1), none⟩) hb).trans (hc (k + 1) hlt)
      clear hc
      have i0 : decide ((k : Int) < (l.length : Int) - 1) = true := by simp; omega
      have i1 : (k : Int) < (l.length : Int) := by omega
      have i2 : (k : Int) + 1 < (l.length : Int) := by omega
      have j0 : (0 : Int) ≤ (k : Int) := Int.natCast_nonneg _
      have j1 : (0 : Int) ≤ (k : Int) + 1 := by omega
      have e1 : ((k : Int) + 1).toNat = k + 1 := by omega
      have e2 : IntKind.i64.wrap ((k : Int) + 1) = (k : Int) + 1 := by rw [IntKind.wrap_i64] <;> omega
      have HYES : Hid (Sl.lt (l.getD k ByteArray.empty) (l.getD (k + 1) ByteArray.empty) = true → ∀ i, i < k + 1 → Sl.lt (l.getD i ByteArray.empty) (l.getD (i + 1) ByteArray.empty) = true) := fun h i hi => by
        by_cases e : i = k
        · rw [e]; exact h
        · exact HALL.out i (by omega)
      have HNO : Hid (Sl.lt (l.getD k ByteArray.empty) (l.getD (k + 1) ByteArray.empty) = false → Sl.rise l = false) := fun h => rise_no hlt h
      generalize l.getD k ByteArray.empty = x at *
      generalize l.getD (k + 1) ByteArray.empty = y at *
      generalize hq : Sl.lt x y = q at *
      have hq2 : Op.bytesLess x.toList y.toList = q := hq
      clear hq
      cases q with
      | true =>
        have HY2 := (show Hid _ from HYES.out rfl)
        go_wp2_with fail
        go_quiet (fail)
        go_wp2_with fail
        go_roundw
        case rel => exact ⟨k + 1, by omega, by go_num, HY2.out, below_drewN HB.out⟩
        case measure => (simp [intOf]) <;> omega
      | false =>
        have HN2 := (show Hid (Sl.rise l = false) from HNO.out rfl)
        go_wp2_with fail
        go_quiet (fail)
        go_wp2
        go_ret
        exact ⟨by rw [HN2.out]; rfl, below_drewN HB.out⟩
    · have hkl : ¬ (k : Int) < (l.length : Int) - 1 := by omega
      have HFN := (show Hid (Sl.rise l = true) from rise_of hlt HALL.out)
      go_wp2
      go_ret
      exact ⟨by rw [HFN.out]; rfl, HB.out⟩
/- sums of sizes -/
def sumN : List Nat → Nat
  | [] => 0
  | a :: l => a + sumN l
theorem sumN_append (l m : List Nat) : sumN (l ++ m) = sumN l + sumN m := by
  induction l with
  | nil => simp [sumN]
  | cons a l ih => simp [sumN, ih]; omega
def ints (l : List Nat) : List Int := l.map fun n : Nat => (n : Int)
theorem ints_length (l : List Nat) : (ints l).length = l.length := List.length_map _
theorem ints_getD (l : List Nat) (k : Nat) (h : k < l.length) : (ints l).getD k 0 = ((l.getD k 0 : Nat) : Int) := by
  rw [List.getD_eq_getElem?_getD, List.getD_eq_getElem?_getD, ints, List.getElem?_map, List.getElem?_eq_getElem h]; rfl
theorem sumN_le {l : List Nat} {B : Nat} (h : ∀ x ∈ l, x ≤ B) : sumN l ≤ l.length * B := by
  induction l with
  | nil => simp [sumN]
  | cons a l ih =>
    have h1 := h a (by simp)
    have h2 := ih (fun x hx => h x (by simp [hx]))
    simp only [sumN, List.length_cons, Nat.add_mul]
    omega
theorem sumN_take (l : List Nat) (k : Nat) (h : k < l.length) : sumN (l.take (k + 1)) = sumN (l.take k) + l.getD k 0 := by
  rw [Sl.take_more l k 0 h, sumN_append]; simp [sumN]
theorem sumN_take_le (l : List Nat) (k : Nat) : sumN (l.take k) ≤ sumN l := by
  have := sumN_append (l.take k) (l.drop k)
  rw [List.take_append_drop] at this
  omega
set_option maxHeartbeats 1000000 in
theorem sum_any (ad : Option Addr) (c : Nat) (l : List Nat) (n : Nat) (w : World) (hA : RowAt w ad (icells (ints l))) (hn : l.length = n) (hl : l.length ≤ 1000) (hs : sumN l ≤ 4611686018427387904) :
    Calls Try.prog 50 #[.slice ad n c] w fun e w' => e = .returned (.int .i64 (sumN l : Int)) ∧ w' = w := by
  subst hn
  have HA : Hid (RowAt w ad (icells (ints l))) := hA
  clear hA
  go_enter Try.func50, Try.ntmps50
  go_wp2_with fail
  go_loopw [3, 8] (fun s3 s8 wr => ∃ k : Nat, k ≤ l.length ∧ s8 = .int .i64 k ∧ s3 = .int .i64 (sumN (l.take k) : Int) ∧ wr = w) (fun _ s8 _ => l.length - (intOf s8).toNat)
  case atStart => exact ⟨0, by omega, rfl, rfl, rfl⟩
  case round =>
    obtain ⟨k, hk, rfl, rfl, hwr⟩ := hrel
    subst hwr
    by_cases hlt : k < l.length
    · obtain ⟨b, off, rfl, hb, hc⟩ := HA.out.intAt (by rw [ints_length]; omega)
      have hc0 := hc k (by rw [ints_length]; omega)
      rw [ints_getD l k hlt] at hc0
      clear hc
      have i0 : decide ((k : Int) < (l.length : Int)) = true := by simp; omega
      have h1 := sumN_take l k hlt
      have h2 := sumN_take_le l (k + 1)
      have HTK : Is (sumN (l.take (k + 1))) (sumN (l.take k) + l.getD k 0) := ⟨h1⟩
      rw [h1] at h2
      clear h1
      generalize l.getD k 0 = x at *
      have h3 : (sumN (l.take k) : Int) + (x : Int) ≤ 4611686018427387904 := by omega
      generalize hS : sumN (l.take k) = S at *
      go_wp2_with fail
      go_roundw
      case rel => exact ⟨k + 1, by omega, by go_num, by rw [HTK.eq]; go_num, trivial⟩
      case measure => (simp [intOf]) <;> omega
    · have hkl : ¬ (k : Int) < (l.length : Int) := by omega
      have HFN : Is (sumN (l.take k)) (sumN l) := ⟨by rw [List.take_of_length_le (by omega)]⟩
      go_wp2
      go_ret
      exact ⟨by rw [← HFN.eq]; rfl, rfl⟩
/- keys and sizes of a node -/
def sizes (n : Nod) : List Nat := if n.leaf then n.cells.map csize else n.keys.map fun k => 5 + k.size
theorem keysOf_any (n : Nod) (p : Pt) (w : World) (hN : Lies w n p) (hF : Fit n) :
    Calls Try.prog 44 #[nv n p] w fun e w' => ∃ ad cap, e = .returned (.slice ad (Sl.keysOf n).length cap) ∧ RowAt w' ad (kcells (Sl.keysOf n)) ∧ (Sl.keysOf n).length ≤ cap ∧ cap ≤ 9223372036854775807 ∧ Below w.heap.size w w' := by
  obtain ⟨lf, cs, ks, ds⟩ := n
  obtain ⟨a1, c1, a2, c2, a3, c3⟩ := p
  have HB0 : Hid (Below w.heap.size w (boxN w ⟨lf, cs, ks, ds⟩ ⟨a1, c1, a2, c2, a3, c3⟩)) := below_alloc _ _
  have HL : Hid (Lies w ⟨lf, cs, ks, ds⟩ ⟨a1, c1, a2, c2, a3, c3⟩) := hN
  have HC := fun (W : World) (h : Below w.heap.size w W) => eachCS_any a1 c1 cs W (hN.r1.below h) hF.l1
  clear hN
  unfold nv Sl.keysOf
  unfold boxN at HB0
  simp only at HB0 HC ⊢
  cases lf with
  | true =>
    rw [if_pos rfl]
    go_enter Try.func44, Try.ntmps44
    go_wp2_with fail
    refine (HC _ HB0.out).mono ?_
    rintro e w' ⟨v, rfl, hO, hB⟩
    obtain ⟨ad, cap, rfl, h1, h2, h3⟩ := own_rowAt hO
    have HFN := (show Hid _ from h3)
    have HB := (show Hid (Below w.heap.size w w') from HB0.out.trans (hB.mono (by rw [size_alloc1]; omega)))
    clear hB hO h3 HC HB0
    go_wp2
    go_ret
    exact ⟨ad, cap, by rw [List.length_map]; rfl, HFN.out, by rw [List.length_map]; exact h1, h2, HB.out⟩
  | false =>
    rw [if_neg (by simp)]
    clear HC
    go_enter Try.func44, Try.ntmps44
    go_wp2
    go_ret
    exact ⟨a2, c2, rfl, HL.out.r2.below HB0.out, HL.out.l2, HL.out.m2, HB0.out⟩
theorem sizesOf_any (n : Nod) (p : Pt) (w : World) (hN : Lies w n p) (hF : Fit n) :
    Calls Try.prog 32 #[nv n p] w fun e w' => ∃ ad cap, e = .returned (.slice ad (sizes n).length cap) ∧ RowAt w' ad (icells (ints (sizes n))) ∧ (sizes n).length ≤ cap ∧ cap ≤ 9223372036854775807 ∧ Below w.heap.size w w' := by
  obtain ⟨lf, cs, ks, ds⟩ := n
  obtain ⟨a1, c1, a2, c2, a3, c3⟩ := p
  have HB0 : Hid (Below w.heap.size w (boxN w ⟨lf, cs, ks, ds⟩ ⟨a1, c1, a2, c2, a3, c3⟩)) := below_alloc _ _
  have HC := fun (W : World) (h : Below w.heap.size w W) => eachCI_any a1 c1 cs W (hN.r1.below h) hF.l1 hF.cells
  have HC2 := fun (W : World) (h : Below w.heap.size w W) => eachSI_any a2 c2 ks W (hN.r2.below h) hF.l2 hF.keys
  clear hN
  unfold nv sizes
  unfold boxN at HB0
  simp only at HB0 HC HC2 ⊢
  cases lf with
  | true =>
    rw [if_pos rfl]
    go_enter Try.func32, Try.ntmps32
    go_wp2_with fail
    refine (HC _ HB0.out).mono ?_
    rintro e w' ⟨v, rfl, hO, hB⟩
    obtain ⟨ad, cap, rfl, h1, h2, h3⟩ := own_rowAt hO
    have HFN := (show Hid _ from h3)
    have HB := (show Hid (Below w.heap.size w w') from HB0.out.trans (hB.mono (by rw [size_alloc1]; omega)))
    clear hB hO h3 HC HC2 HB0
    go_wp2
    go_ret
    exact ⟨ad, cap, by rw [List.length_map]; rfl, by unfold ints; rw [List.map_map]; exact HFN.out, by rw [List.length_map]; exact h1, h2, HB.out⟩
  | false =>
    rw [if_neg (by simp)]
    go_enter Try.func32, Try.ntmps32
    go_wp2_with fail
    refine (HC2 _ HB0.out).mono ?_
    rintro e w' ⟨v, rfl, hO, hB⟩
    obtain ⟨ad, cap, rfl, h1, h2, h3⟩ := own_rowAt hO
    have HFN := (show Hid _ from h3)
    have HB := (show Hid (Below w.heap.size w w') from HB0.out.trans (hB.mono (by rw [size_alloc1]; omega)))
    clear hB hO h3 HC HC2 HB0
    go_wp2
    go_ret
    exact ⟨ad, cap, by rw [List.length_map]; rfl, by unfold ints; rw [List.map_map]; exact HFN.out, by rw [List.length_map]; exact h1, h2, HB.out⟩
/- what may be -/
set_option maxHeartbeats 1000000 in
theorem leafMay_any (n : Nod) (p : Pt) (w : World) (hN : Lies w n p) (hF : Fit n) :
    Calls Try.prog 48 #[nv n p] w fun e w' => e = .returned (.bool (Sl.leafOk n)) ∧ Below w.heap.size w w' := by
  obtain ⟨lf, cs, ks, ds⟩ := n
  obtain ⟨a1, c1, a2, c2, a3, c3⟩ := p
  have HB0 : Hid (Below w.heap.size w (boxN w ⟨lf, cs, ks, ds⟩ ⟨a1, c1, a2, c2, a3, c3⟩)) := below_alloc _ _
  have HC := fun (W : World) (h : Below w.heap.size w W) => allC_any a1 c1 cs W (hN.r1.below h) hF.l1 hF.cells
  clear hN hF
  unfold nv Sl.leafOk
  unfold boxN at HB0
  unfold mayCF at HC
  simp only at HB0 HC ⊢
  generalize cs.all Sl.valOk = q at *
  by_cases h1 : ks.length = 0
  · have e1 : (((ks.length : Nat) : Int) == 0) = true := by simp [h1]
    rw [decide_eq_true h1, Bool.true_and]
    clear h1
    by_cases h2 : ds.length = 0
    · have e2 : (((ds.length : Nat) : Int) == 0) = true := by simp [h2]
      rw [decide_eq_true h2, Bool.true_and]
      clear h2
      go_enter Try.func48, Try.ntmps48
      go_wp2_with fail
      refine (HC _ HB0.out).mono ?_
      rintro e w' ⟨rfl, hB⟩
      have HB := (show Hid (Below w.heap.size w w') from HB0.out.trans (hB.mono (by rw [size_alloc1]; omega)))
      clear hB HC HB0
      cases q <;> (go_wp2; go_ret; exact ⟨rfl, HB.out⟩)
    · have e2 : (((ds.length : Nat) : Int) == 0) = false := beq_eq_false_iff_ne.2 (by omega)
      rw [decide_eq_false h2, Bool.false_and]
      clear h2
      go_enter Try.func48, Try.ntmps48
      go_wp2
      go_ret
      exact ⟨rfl, HB0.out⟩
  · have e1 : (((ks.length : Nat) : Int) == 0) = false := beq_eq_false_iff_ne.2 (by omega)
    rw [decide_eq_false h1, Bool.false_and]
    clear h1
    go_enter Try.func48, Try.ntmps48
    go_wp2
    go_ret
    exact ⟨rfl, HB0.out⟩
set_option maxHeartbeats 1000000 in
theorem branchMay_any (n : Nod) (p : Pt) (w : World) (hN : Lies w n p) (hF : Fit n) :
    Calls Try.prog 49 #[nv n p] w fun e w' => e = .returned (.bool (Sl.branchOk n)) ∧ Below w.heap.size w w' := by
  obtain ⟨lf, cs, ks, ds⟩ := n
  obtain ⟨a1, c1, a2, c2, a3, c3⟩ := p
  have HB0 : Hid (Below w.heap.size w (boxN w ⟨lf, cs, ks, ds⟩ ⟨a1, c1, a2, c2, a3, c3⟩)) := below_alloc _ _
  have HC := fun (W : World) (h : Below w.heap.size w W) => allI_any a3 c3 ds W (hN.r3.below h) hF.l3
  have hl2 := hF.l2
  clear hN hF
  unfold nv Sl.branchOk
  unfold boxN at HB0
  unfold mayIF at HC
  simp only at HB0 HC hl2 ⊢
  generalize ds.all Sl.isPage = q at *
  by_cases h1 : cs.length = 0
  · have e1 : (((cs.length : Nat) : Int) == 0) = true := by simp [h1]
    rw [decide_eq_true h1, Bool.true_and]
    clear h1
    by_cases h2 : ds.length = ks.length + 1
    · have e2 : (((ds.length : Nat) : Int) == ((ks.length : Nat) : Int) + 1) = true := by simp [h2]
      rw [decide_eq_true h2, Bool.true_and]
      clear h2
      go_enter Try.func49, Try.ntmps49
      go_wp2_with fail
      refine (HC _ HB0.out).mono ?_
      rintro e w' ⟨rfl, hB⟩
      have HB := (show Hid (Below w.heap.size w w') from HB0.out.trans (hB.mono (by rw [size_alloc1]; omega)))
      clear hB HC HB0
      cases q <;> (go_wp2; go_ret; exact ⟨rfl, HB.out⟩)
    · have e2 : (((ds.length : Nat) : Int) == ((ks.length : Nat) : Int) + 1) = false := beq_eq_false_iff_ne.2 (by omega)
      rw [decide_eq_false h2, Bool.false_and]
      clear h2
      go_enter Try.func49, Try.ntmps49
      go_wp2
      go_ret
      exact ⟨rfl, HB0.out⟩
  · have e1 : (((cs.length : Nat) : Int) == 0) = false := beq_eq_false_iff_ne.2 (by omega)
    rw [decide_eq_false h1, Bool.false_and]
    clear h1
    go_enter Try.func49, Try.ntmps49
    go_wp2
    go_ret
    exact ⟨rfl, HB0.out⟩
end Go.Proofs.Ytoinaplmgffkpaa
