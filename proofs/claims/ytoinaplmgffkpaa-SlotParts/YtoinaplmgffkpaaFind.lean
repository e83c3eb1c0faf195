/- Proved: what slot's Find and slices.Index answer (stage 11). -/
import Derived.Test.YtoinaplmgffkpaaFar
namespace Go.Proofs.Ytoinaplmgffkpaa
open Go.RowKit
open Sl (Cel Nod)
/- the place of the first one that is not below -/
def first (key : ByteArray) : List ByteArray → Nat
  | [] => 0
  | k :: l => if Sl.lt k key then first key l + 1 else 0
theorem first_le (key : ByteArray) (l : List ByteArray) : first key l ≤ l.length := by
  induction l with
  | nil => exact Nat.le_refl _
  | cons k l ih =>
    unfold first
    split
    · simpa using ih
    · simp
theorem first_at (key : ByteArray) : ∀ (l : List ByteArray) (k : Nat), k < l.length → (∀ i, i < k → Sl.lt (l.getD i ByteArray.empty) key = true) → Sl.lt (l.getD k ByteArray.empty) key = false → first key l = k
  | [], k, hk, _, _ => by simp at hk
  | x :: l, 0, _, _, h => by unfold first; rw [if_neg (by simpa using h)]
  | x :: l, k + 1, hk, h1, h2 => by
    have h0 := h1 0 (by omega)
    unfold first
    rw [if_pos (by simpa using h0), first_at key l k (by simpa using hk) (fun i hi => by simpa using h1 (i + 1) (by omega)) (by simpa using h2)]
theorem first_end (key : ByteArray) : ∀ (l : List ByteArray), (∀ i, i < l.length → Sl.lt (l.getD i ByteArray.empty) key = true) → first key l = l.length
  | [], _ => rfl
  | x :: l, h => by
    have h0 := h 0 (by simp)
    unfold first
    rw [if_pos (by simpa using h0), first_end key l (fun i hi => by simpa using h (i + 1) (by simpa using hi))]; rfl
/- how many are not above -/
def upto (key : ByteArray) (l : List ByteArray) : Nat := l.countP fun k => !Sl.lt key k
def findI (n : Nod) (key : ByteArray) : Nat := if n.leaf then first key (n.cells.map Cel.key) else upto key n.keys
def isAt (l : List ByteArray) (i : Nat) (key : ByteArray) : Bool := decide (l[i]? = some key)
def memK (key : ByteArray) (l : List ByteArray) : Bool := l.any fun k => decide (k = key)
def findB (n : Nod) (key : ByteArray) : Bool := if n.leaf then isAt (n.cells.map Cel.key) (first key (n.cells.map Cel.key)) key else memK key n.keys
theorem eq_list (a b : ByteArray) : (a.toList == b.toList) = decide (a = b) := by
  rw [ByteArray.toList_eq, ByteArray.toList_eq, Bool.eq_iff_iff, beq_iff_eq, decide_eq_true_iff]
  exact ⟨fun h => Sl.ba_ext h, fun h => by rw [h]⟩
theorem map_key (cs : List Cel) (k : Nat) (h : k < cs.length) : (cs.map Cel.key).getD k ByteArray.empty = (cs.getD k Sl.cel0).key := by
  rw [List.getD_eq_getElem?_getD, List.getD_eq_getElem?_getD, List.getElem?_map, List.getElem?_eq_getElem h]; rfl
theorem isAt_getD {l : List ByteArray} {k : Nat} (h : k < l.length) (key : ByteArray) : isAt l k key = decide (l.getD k ByteArray.empty = key) := by
  unfold isAt
  rw [Sl.getD_some l k ByteArray.empty h]; simp
theorem isAt_end (l : List ByteArray) (key : ByteArray) : isAt l l.length key = false := by
  unfold isAt
  rw [List.getElem?_eq_none (Nat.le_refl _)]; simp
theorem upto_take (key : ByteArray) (l : List ByteArray) (k : Nat) (h : k < l.length) : upto key (l.take (k + 1)) = upto key (l.take k) + (if Sl.lt key (l.getD k ByteArray.empty) then 0 else 1) := by
  unfold upto
  rw [Sl.take_more l k ByteArray.empty h, List.countP_append]
  generalize l.getD k ByteArray.empty = x
  cases h2 : Sl.lt key x <;> simp [h2]
theorem upto_le (key : ByteArray) (l : List ByteArray) : upto key l ≤ l.length := List.countP_le_length
theorem memK_take (key : ByteArray) (l : List ByteArray) (k : Nat) (h : k < l.length) : memK key (l.take (k + 1)) = (memK key (l.take k) || decide (l.getD k ByteArray.empty = key)) := by
  unfold memK
  rw [Sl.take_more l k ByteArray.empty h, List.any_append]; simp
theorem leq_of (a b : ByteArray) : (Op.bytesLess a.toList b.toList || a.toList == b.toList) = !Sl.lt b a := by
  rw [eq_list]
  change (Sl.lt a b || decide (a = b)) = !Sl.lt b a
  cases h1 : Sl.lt a b with
  | true => rw [Sl.lt_asymm h1]; rfl
  | false =>
    cases h2 : Sl.lt b a with
    | true =>
      rw [decide_eq_false (fun e => ?_)]; rfl
      subst e; rw [h1] at h2; cases h2
    | false => rw [decide_eq_true (Sl.lt_total h1 h2)]; rfl
set_option maxHeartbeats 2000000 in
theorem find_any (n : Nod) (p : Pt) (key : ByteArray) (w : World) (hN : Lies w n p) (hF : Fit n) :
    Calls Try.prog 12 #[nv n p, .string key] w fun e w' => e = .returned (.tuple #[.int .i64 (findI n key : Int), .bool (findB n key)]) ∧ Below w.heap.size w w' := by
  have HB0 : Hid (Below w.heap.size w (boxN w n p)) := below_alloc _ _
  have HA0 : Hid (NodAt (boxN w n p) w.heap.size n p) := boxN_at w n p
  have hs0 : (boxN w n p).heap.size = w.heap.size + 1 := size_alloc1 _ _
  have HL : Hid (Lies w n p) := hN
  have hl1 := hF.l1
  have hl2 := hF.l2
  clear hN hF
  obtain ⟨lf, cs, ks, ds⟩ := n
  obtain ⟨a1, c1, a2, c2, a3, c3⟩ := p
  unfold nv findI findB
  simp only at hl1 hl2 ⊢
  cases lf with
  | true =>
    rw [if_pos rfl, if_pos rfl]
    have HE : Hid (∀ W : World, Below (w.heap.size + 1) (boxN w ⟨true, cs, ks, ds⟩ ⟨a1, c1, a2, c2, a3, c3⟩) W → Below w.heap.size w W) := fun W h => HB0.out.trans (h.mono (by omega))
    go_enter Try.func12, Try.ntmps12
    go_wp2_with fail
    go_loopw [15] (fun s15 wr => ∃ k : Nat, k ≤ cs.length ∧ s15 = .int .i64 k ∧ (∀ i, i < k → Sl.lt ((cs.map Cel.key).getD i ByteArray.empty) key = true) ∧ Below (w.heap.size + 1) (boxN w ⟨true, cs, ks, ds⟩ ⟨a1, c1, a2, c2, a3, c3⟩) wr) (fun s15 _ => cs.length - (intOf s15).toNat)
    case atStart => exact ⟨0, by omega, rfl, fun i hi => absurd hi (by omega), Below.refl _ _⟩
    case round =>
      obtain ⟨k, hk, rfl, hall, hB⟩ := hrel
      have HB := (show Hid (Below (w.heap.size + 1) (boxN w ⟨true, cs, ks, ds⟩ ⟨a1, c1, a2, c2, a3, c3⟩) wr) from hB)
      have HALL := (show Hid (∀ i, i < k → Sl.lt ((cs.map Cel.key).getD i ByteArray.empty) key = true) from hall)
      have hsz : w.heap.size + 1 ≤ wr.heap.size := by have := hB.size; omega
      have HBW : Hid (Below w.heap.size w wr) := HE.out _ hB
      have HA : Hid (NodAt wr w.heap.size ⟨true, cs, ks, ds⟩ ⟨a1, c1, a2, c2, a3, c3⟩) := HA0.out.below hB (by omega)
      clear hall hB
      by_cases hlt : k < cs.length
      · obtain ⟨b, off, rfl, hb, hc⟩ := HL.out.r1.cell (Nat.lt_of_le_of_lt (Nat.zero_le _) hlt)
        obtain ⟨q0, q1, q2, q3⟩ := (hc k hlt).below HBW.out hb
        clear hc hs0 HL HA
        have i0 : decide ((k : Int) < (cs.length : Int)) = true := by simp; omega
        have hml : k < (cs.map Cel.key).length := by rw [List.length_map]; exact hlt
        have HFI := (show Hid (Sl.lt (cs.getD k Sl.cel0).key key = false → first key (cs.map Cel.key) = k ∧ isAt (cs.map Cel.key) k key = decide ((cs.getD k Sl.cel0).key = key)) from fun h => ⟨first_at key _ k hml HALL.out (by rw [map_key cs k hlt]; exact h), by rw [isAt_getD hml, map_key cs k hlt]⟩)
        have HYES := (show Hid (Sl.lt (cs.getD k Sl.cel0).key key = true → ∀ i, i < k + 1 → Sl.lt ((cs.map Cel.key).getD i ByteArray.empty) key = true) from fun h i hi => by
          by_cases e : i = k
          · rw [e, map_key cs k hlt]; exact h
          · exact HALL.out i (by omega))
        clear HALL
        generalize cs.getD k Sl.cel0 = x at *
        obtain ⟨xk, xx, xo, xl⟩ := x
        simp only at q0 q1 q2 q3 HFI HYES
        have HAL : Hid (Below (w.heap.size + 1) (boxN w ⟨true, cs, ks, ds⟩ ⟨some ⟨b, off, none⟩, c1, a2, c2, a3, c3⟩) (wr.alloc (.cells #[.string xk, .string xx, .int .i64 xo, .int .i64 xl] 28))) := HB.out.alloc hsz _
        generalize hq : Sl.lt xk key = q at *
        have hq2 : Op.bytesLess xk.toList key.toList = q := hq
        clear hq
        cases q with
        | true =>
          have HY2 := (show Hid _ from HYES.out rfl)
          go_wp2_with fail
          go_roundw
          case rel => exact ⟨k + 1, by omega, by go_num, HY2.out, HAL.out⟩
          case measure => (simp [intOf]) <;> omega
        | false =>
          have HF2 := (show Hid _ from HFI.out rfl)
          have h3 : (xk.toList == key.toList) = decide (xk = key) := eq_list _ _
          go_wp2_with fail
          go_quiet (fail)
          go_wp2
          go_ret2
          exact ⟨by rw [HF2.out.1, HF2.out.2, ← h3]; rfl, below_drewN (HE.out _ HAL.out)⟩
      · have hkl : ¬ (k : Int) < (cs.length : Int) := by omega
        obtain ⟨q0, q1, q2, q3⟩ := HA.out
        simp only at q0 q1 q2 q3
        have HFN := (show Hid (first key (cs.map Cel.key) = cs.length) from by
          have := first_end key (cs.map Cel.key) (fun i hi => HALL.out i (by rw [List.length_map] at hi; omega))
          rwa [List.length_map] at this)
        clear hs0
        go_wp2
        go_ret2
        exact ⟨by rw [HFN.out, ← List.length_map (f := Cel.key), isAt_end, List.length_map]; rfl, HBW.out⟩
  | false =>
    rw [if_neg (by simp), if_neg (by simp)]
    have HLW := (show Hid (RowAt (boxN w ⟨false, cs, ks, ds⟩ ⟨a1, c1, a2, c2, a3, c3⟩) a2 (kcells ks)) from HL.out.r2.below HB0.out)
    unfold boxN at HLW HB0
    simp only at HLW HB0
    go_enter Try.func12, Try.ntmps12
    go_wp2_with fail
    generalize (w.alloc (.cells #[.bool false, .slice a1 cs.length c1, .slice a2 ks.length c2, .slice a3 ds.length c3] 26)) = w0 at *
    clear HL HA0 hs0
    go_loopw [4, 5, 36] (fun s4 s5 s36 wr => ∃ k : Nat, k ≤ ks.length ∧ s36 = .int .i64 k ∧ s4 = .int .i64 (upto key (ks.take k) : Int) ∧ s5 = .bool (memK key (ks.take k)) ∧ wr = w0) (fun _ _ s36 _ => ks.length - (intOf s36).toNat)
    case atStart => exact ⟨0, by omega, rfl, rfl, rfl, rfl⟩
    case round =>
      obtain ⟨k, hk, rfl, rfl, rfl, hwr⟩ := hrel
      subst hwr
      by_cases hlt : k < ks.length
      · obtain ⟨b, off, rfl, hb, hc⟩ := HLW.out.keyAt (Nat.lt_of_le_of_lt (Nat.zero_le _) hlt)
        have hc0 := hc k hlt
        clear hc
        have i0 : decide ((k : Int) < (ks.length : Int)) = true := by simp; omega
        have HU : Is (upto key (ks.take (k + 1))) (upto key (ks.take k) + (if Sl.lt key (ks.getD k ByteArray.empty) then 0 else 1)) := ⟨upto_take key ks k hlt⟩
        have HM : Is (memK key (ks.take (k + 1))) (memK key (ks.take k) || decide (ks.getD k ByteArray.empty = key)) := ⟨memK_take key ks k hlt⟩
        have hul : upto key (ks.take k) ≤ k := Nat.le_trans (upto_le _ _) (by rw [List.length_take]; omega)
        generalize ks.getD k ByteArray.empty = x at *
        generalize upto key (ks.take k) = u at *
        generalize memK key (ks.take k) = q at *
        have h3 : (x.toList == key.toList) = decide (x = key) := eq_list _ _
        have h4 : (Op.bytesLess x.toList key.toList || x.toList == key.toList) = !Sl.lt key x := leq_of _ _
        generalize hd : decide (x = key) = d at *
        generalize hl : Sl.lt key x = t at *
        have h5 : t = true → d = false := fun ht => by
          subst ht
          rw [← hd]
          refine decide_eq_false fun e => ?_
          subst e
          rw [Sl.lt_irrefl] at hl; cases hl
        have h6 : Op.bytesLess x.toList key.toList = (!t && !d) := by
          clear hc0 HU HM
          rw [h3] at h4
          have h7 : d = true → Op.bytesLess x.toList key.toList = false := fun hdt => by
            rw [hdt] at hd
            have := of_decide_eq_true hd
            rw [this]
            exact Sl.lt_irrefl key
          generalize Op.bytesLess x.toList key.toList = z at *
          revert h4 h5 h7
          cases t <;> cases d <;> cases z <;> simp
        clear hd hl h4
        cases t with
        | true =>
          obtain rfl : d = false := h5 rfl
          clear h5
          go_wp2_with fail
          go_roundw
          case rel => exact ⟨k + 1, by omega, by go_num, by rw [HU.eq]; rfl, by rw [HM.eq]; simp, trivial⟩
          case measure => (simp [intOf]) <;> omega
        | false =>
          clear h5
          cases d with
          | true =>
            cases q with
            | true =>
              go_wp2_with fail
              go_roundw
              case rel => exact ⟨k + 1, by omega, by go_num, by rw [HU.eq]; go_num, by rw [HM.eq]; simp, trivial⟩
              case measure => (simp [intOf]) <;> omega
            | false =>
              go_wp2_with fail
              go_roundw
              case rel => exact ⟨k + 1, by omega, by go_num, by rw [HU.eq]; go_num, by rw [HM.eq]; simp, trivial⟩
              case measure => (simp [intOf]) <;> omega
          | false =>
            cases q with
            | true =>
              go_wp2_with fail
              go_roundw
              case rel => exact ⟨k + 1, by omega, by go_num, by rw [HU.eq]; go_num, by rw [HM.eq]; simp, trivial⟩
              case measure => (simp [intOf]) <;> omega
            | false =>
              go_wp2_with fail
              go_roundw
              case rel => exact ⟨k + 1, by omega, by go_num, by rw [HU.eq]; go_num, by rw [HM.eq]; simp, trivial⟩
              case measure => (simp [intOf]) <;> omega
      · have hkl : ¬ (k : Int) < (ks.length : Int) := by omega
        have HT : Is (ks.take k) ks := ⟨List.take_of_length_le (by omega)⟩
        go_wp2
        go_ret2
        refine ⟨?_, HB0.out⟩
        show Ending.returned (.tuple #[.int .i64 (upto key (ks.take k) : Int), .bool (memK key (ks.take k))]) = _
        rw [HT.eq]
end Go.Proofs.Ytoinaplmgffkpaa
