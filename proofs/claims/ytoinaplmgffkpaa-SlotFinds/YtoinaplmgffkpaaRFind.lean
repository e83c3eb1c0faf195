/- Proved: what the document's Find answers (stage 11). -/
import Derived.Test.YtoinaplmgffkpaaLBase
import Derived.Test.YtoinaplmgffkpaaMathP
namespace Go.Proofs.Ytoinaplmgffkpaa
open Go.RowKit
open Sl (Cel Nod)
theorem take_all {l : List ByteArray} {k : Nat} {q : ByteArray → Prop} (hk : k ≤ l.length) (h : ∀ i, i < k → q (l.getD i ByteArray.empty)) : ∀ x ∈ l.take k, q x := fun x hx => by
  obtain ⟨i, hi, rfl⟩ := List.getElem_of_mem hx
  have h1 := hi
  rw [List.length_take] at h1
  have h2 := h i (by omega)
  rw [List.getElem_take]
  rwa [List.getD_eq_getElem?_getD, List.getElem?_eq_getElem (by omega), Option.getD_some] at h2
theorem upto_stop {key : ByteArray} {l : List ByteArray} {k : Nat} (hr : Sl.rise l = true) (hk : k < l.length) (h : ∀ i, i < k → Sl.lt key (l.getD i ByteArray.empty) = false) (h2 : Sl.lt key (l.getD k ByteArray.empty) = true) : upto key l = k ∧ memK key l = memK key (l.take k) := by
  have e : l = l.take k ++ l.drop k := (List.take_append_drop k l).symm
  have ha := take_all (q := fun x => Sl.lt key x = false) (by omega) h
  have hb : ∀ x ∈ l.drop k, Sl.lt key x = true := fun x hx => by
    rw [Sl.drop_more l k ByteArray.empty hk] at hx
    rcases List.mem_cons.1 hx with rfl | hx
    · exact h2
    · have hr2 : Sl.rise (l.drop k) = true := Sl.rise_right (by rw [← e]; exact hr)
      rw [Sl.drop_more l k ByteArray.empty hk] at hr2
      exact Sl.lt_trans h2 (Sl.rise_head hr2 x hx)
  constructor
  · unfold upto
    rw [e, List.countP_append, (List.countP_eq_length).2 (fun x hx => by rw [ha x hx]; rfl), (List.countP_eq_zero).2 (fun x hx => by rw [hb x hx]; simp), List.length_take]
    omega
  · unfold memK
    conv => lhs; rw [e, List.any_append]
    rw [show (l.drop k).any (fun x => decide (x = key)) = false from ?_, Bool.or_false]
    rw [List.any_eq_false]
    intro x hx h3
    have h4 := hb x hx
    rw [of_decide_eq_true h3, Sl.lt_irrefl] at h4
    cases h4
theorem upto_all {key : ByteArray} {l : List ByteArray} (h : ∀ i, i < l.length → Sl.lt key (l.getD i ByteArray.empty) = false) : upto key l = l.length := by
  have ha := take_all (l := l) (q := fun x => Sl.lt key x = false) (Nat.le_refl _) h
  rw [List.take_length] at ha
  exact (List.countP_eq_length).2 (fun x hx => by rw [ha x hx]; rfl)
set_option maxHeartbeats 4000000 in
theorem rfind_any (n : Nod) (p : Pt) (key : ByteArray) (w : World) (hN : Lies w n p) (hl1 : n.cells.length ≤ 1000) (hl2 : n.keys.length ≤ 1000) (hr : Sl.rise n.keys = true) :
    Calls Try.prog 13 #[nv n p, .string key] w fun e w' => e = .returned (.tuple #[.int .i64 (findI n key : Int), .bool (findB n key)]) ∧ Below w.heap.size w w' := by
  have HL : Hid (Lies w n p) := hN
  have HR : Hid (Sl.rise n.keys = true) := hr
  clear hN hr
  obtain ⟨lf, cs, ks, ds⟩ := n
  obtain ⟨a1, c1, a2, c2, a3, c3⟩ := p
  unfold nv findI findB
  simp only at hl1 hl2 HR ⊢
  have HI : Hid (Brow (w.alloc (.cells #[.bool lf, .slice a1 cs.length c1, .slice a2 ks.length c2, .slice a3 ds.length c3] 26)) w.heap.size [.bool lf, .slice a1 cs.length c1, .slice a2 ks.length c2, .slice a3 ds.length c3] 26 ∧ Below w.heap.size w (w.alloc (.cells #[.bool lf, .slice a1 cs.length c1, .slice a2 ks.length c2, .slice a3 ds.length c3] 26))) := ⟨Brow.new w [.bool lf, .slice a1 cs.length c1, .slice a2 ks.length c2, .slice a3 ds.length c3] 26, below_alloc _ _⟩
  cases lf with
  | true =>
    rw [if_pos rfl, if_pos rfl]
    go_enter Try.func13, Try.ntmps13
    go_wp2_with fail
    generalize (w.alloc (.cells #[.bool true, .slice a1 cs.length c1, .slice a2 ks.length c2, .slice a3 ds.length c3] 26)) = w0 at *
    go_loopw [6] (fun s wr => ∃ k : Nat, k ≤ cs.length ∧ s = .int .i64 k ∧ (∀ i, i < k → Sl.lt ((cs.map Cel.key).getD i ByteArray.empty) key = true) ∧ wr = w0) (fun s _ => cs.length - (intOf s).toNat)
    case atStart => exact ⟨0, by omega, rfl, fun i hi => absurd hi (by omega), rfl⟩
    case round =>
      obtain ⟨k, hk, rfl, hall, hwr⟩ := hrel
      subst hwr
      have HALL := (show Hid (∀ i, i < k → Sl.lt ((cs.map Cel.key).getD i ByteArray.empty) key = true) from hall)
      have q1 := HI.out.1.at 1 _ rfl
      clear hall
      by_cases hlt : k < cs.length
      · obtain ⟨b, off, hp, hb, hc⟩ := HL.out.r1.cell (Nat.lt_of_le_of_lt (Nat.zero_le _) hlt)
        simp only at hp
        subst hp
        obtain ⟨x0, x1, x2, x3⟩ := (hc k hlt).below HI.out.2 hb
        clear hc x1 x2 x3 HL
        have i0 : (k : Int) < (cs.length : Int) := by omega
        have i9 : decide ((k : Int) < (cs.length : Int)) = true := decide_eq_true i0
        have hml : k < (cs.map Cel.key).length := by rw [List.length_map]; exact hlt
        have HFI := (show Hid (Sl.lt (cs.getD k Sl.cel0).key key = false → first key (cs.map Cel.key) = k ∧ isAt (cs.map Cel.key) k key = decide ((cs.getD k Sl.cel0).key = key)) from fun h => ⟨first_at key _ k hml HALL.out (by rw [map_key cs k hlt]; exact h), by rw [isAt_getD hml, map_key cs k hlt]⟩)
        have HYES := (show Hid (Sl.lt (cs.getD k Sl.cel0).key key = true → ∀ i, i < k + 1 → Sl.lt ((cs.map Cel.key).getD i ByteArray.empty) key = true) from fun h i hi => by
          by_cases e : i = k
          · rw [e, map_key cs k hlt]; exact h
          · exact HALL.out i (by omega))
        clear HALL
        simp only at x0
        generalize (cs.getD k Sl.cel0).key = x at *
        generalize hq : Sl.lt x key = q at *
        have hq2 : Op.bytesLess x.toList key.toList = q := hq
        clear hq hml
        cases q with
        | true =>
          have HY2 := (show Hid _ from HYES.out rfl)
          go_wp2_with fail
          go_roundw
          case rel => exact ⟨k + 1, by omega, by go_num, HY2.out, trivial⟩
          case measure => (simp [intOf]) <;> omega
        | false =>
          have HF2 := (show Hid _ from HFI.out rfl)
          have h3 : (x.toList == key.toList) = decide (x = key) := eq_list _ _
          go_wp2_with fail
          go_quiet (fail)
          go_wp2
          go_ret2
          exact ⟨by rw [HF2.out.1, HF2.out.2, ← h3]; rfl, below_drewN HI.out.2⟩
      · have hkl : ¬ (k : Int) < (cs.length : Int) := by omega
        have HFN := (show Hid (first key (cs.map Cel.key) = cs.length ∧ k = cs.length) from by
          have := first_end key (cs.map Cel.key) (fun i hi => HALL.out i (by rw [List.length_map] at hi; omega))
          rw [List.length_map] at this
          exact ⟨this, by omega⟩)
        have i9 : decide ((k : Int) < (cs.length : Int)) = false := decide_eq_false hkl
        go_wp2_with fail
        go_quiet (fail)
        go_wp2
        go_ret2
        exact ⟨by rw [HFN.out.1, HFN.out.2, ← List.length_map (f := Cel.key), isAt_end, List.length_map]; rfl, below_drewN HI.out.2⟩
  | false =>
    rw [if_neg (by simp), if_neg (by simp)]
    go_enter Try.func13, Try.ntmps13
    go_wp2_with fail
    generalize (w.alloc (.cells #[.bool false, .slice a1 cs.length c1, .slice a2 ks.length c2, .slice a3 ds.length c3] 26)) = w0 at *
    go_loopw [7, 8] (fun s s2 wr => ∃ k : Nat, k ≤ ks.length ∧ s = .int .i64 k ∧ s2 = .bool (memK key (ks.take k)) ∧ (∀ i, i < k → Sl.lt key (ks.getD i ByteArray.empty) = false) ∧ wr = w0) (fun s _ _ => ks.length - (intOf s).toNat)
    case atStart => exact ⟨0, by omega, rfl, rfl, fun i hi => absurd hi (by omega), rfl⟩
    case round =>
      obtain ⟨k, hk, rfl, rfl, hall, hwr⟩ := hrel
      subst hwr
      have HALL := (show Hid (∀ i, i < k → Sl.lt key (ks.getD i ByteArray.empty) = false) from hall)
      have q2 := HI.out.1.at 2 _ rfl
      clear hall
      by_cases hlt : k < ks.length
      · obtain ⟨b, off, hp, hb, hc⟩ := HL.out.r2.keyAt (Nat.lt_of_le_of_lt (Nat.zero_le _) hlt)
        simp only at hp
        subst hp
        have x0 := (HI.out.2.cell (p := ⟨b, off + k, none⟩) hb).trans (hc k hlt)
        clear hc HL
        have i0 : (k : Int) < (ks.length : Int) := by omega
        have i9 : decide ((k : Int) < (ks.length : Int)) = true := decide_eq_true i0
        have HM : Is (memK key (ks.take (k + 1))) (memK key (ks.take k) || decide (ks.getD k ByteArray.empty = key)) := ⟨memK_take key ks k hlt⟩
        have HSTOP := (show Hid (Sl.lt key (ks.getD k ByteArray.empty) = true → upto key ks = k ∧ memK key ks = memK key (ks.take k)) from fun h => upto_stop HR.out hlt HALL.out h)
        have HYES := (show Hid (Sl.lt key (ks.getD k ByteArray.empty) = false → ∀ i, i < k + 1 → Sl.lt key (ks.getD i ByteArray.empty) = false) from fun h i hi => by
          by_cases e : i = k
          · rw [e]; exact h
          · exact HALL.out i (by omega))
        clear HALL HR
        generalize ks.getD k ByteArray.empty = x at *
        generalize memK key (ks.take k) = m at *
        have h3 : (x.toList == key.toList) = decide (x = key) := eq_list _ _
        have h4 : (Op.bytesLess x.toList key.toList || x.toList == key.toList) = !Sl.lt key x := leq_of _ _
        rw [h3] at h4
        generalize decide (x = key) = d at *
        generalize Sl.lt key x = t at *
        generalize hz : Op.bytesLess x.toList key.toList = z at *
        cases t with
        | true =>
          simp only [Bool.not_true, Bool.or_eq_false_iff] at h4
          obtain ⟨rfl, rfl⟩ := h4
          have HF2 := (show Hid _ from HSTOP.out rfl)
          go_wp2
          go_ret2
          exact ⟨by rw [HF2.out.1, HF2.out.2]; rfl, HI.out.2⟩
        | false =>
          simp only [Bool.not_false] at h4
          have HY2 := (show Hid _ from HYES.out rfl)
          cases m with
          | true =>
            go_wp2_with fail
            go_roundw
            case rel => exact ⟨k + 1, by omega, by go_num, by rw [HM.eq]; simp, HY2.out, trivial⟩
            case measure => (simp [intOf]) <;> omega
          | false =>
            go_wp2_with fail
            go_roundw
            case rel => exact ⟨k + 1, by omega, by go_num, by rw [HM.eq]; simp, HY2.out, trivial⟩
            case measure => (simp [intOf]) <;> omega
      · have hkl : ¬ (k : Int) < (ks.length : Int) := by omega
        have HFN := (show Hid (upto key ks = ks.length ∧ k = ks.length ∧ memK key (ks.take k) = memK key ks) from ⟨upto_all (fun i hi => HALL.out i (by omega)), by omega, by rw [List.take_of_length_le (by omega)]⟩)
        have i9 : decide ((k : Int) < (ks.length : Int)) = false := decide_eq_false hkl
        generalize memK key (ks.take k) = m at *
        go_wp2
        go_ret2
        exact ⟨by rw [HFN.out.1, HFN.out.2.1, HFN.out.2.2]; rfl, HI.out.2⟩
end Go.Proofs.Ytoinaplmgffkpaa
