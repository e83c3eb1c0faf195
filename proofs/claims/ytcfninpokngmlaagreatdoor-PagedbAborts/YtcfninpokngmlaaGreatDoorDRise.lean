/- Proved: what pagedb's rising answers: the numbers of a map's pages, the lowest first, whatever order the map gave. -/
import Derived.Test.YtcfninpokngmlaaGreatDoorDBld
import Derived.Sort.OwnSortedInts
namespace Go.Proofs.YtcfninpokngmlaaGreatDoor
open Go.RowKit Go.Maps Go.Sort
structure Coll (m : Pd.Mp) (left : Lit → Bool) (ss : List Nat) : Prop where
  nodup : ss.Nodup
  mem : ∀ i, i ∈ ss ↔ (Pd.get m i).isSome = true ∧ left (keyL i) = false
theorem Coll.start (m : Pd.Mp) : Coll m (Maps.has (dM m)) [] := ⟨List.nodup_nil, fun i => by
  rw [has_dM]
  constructor
  · intro h; cases h
  · rintro ⟨h1, h2⟩
    rw [h1] at h2
    cases h2⟩
theorem Coll.step {m : Pd.Mp} {left : Lit → Bool} {ss : List Nat} (h : Coll m left ss) {x : Nat} (hx : (Pd.get m x).isSome = true) (hl : left (keyL x) = true) : Coll m (fun z => left z && !z.sameKey (keyL x)) (ss ++ [x]) := by
  have hn : x ∉ ss := fun hm => by
    have := ((h.mem x).1 hm).2
    rw [hl] at this
    cases this
  refine ⟨List.nodup_append.2 ⟨h.nodup, by simp, fun a ha b hb e => ?_⟩, fun i => ?_⟩
  · rw [List.mem_singleton.1 hb] at e
    exact hn (e ▸ ha)
  · rw [List.mem_append, List.mem_singleton, h.mem i]
    show _ ↔ _ ∧ (left (keyL i) && !(keyL i).sameKey (keyL x)) = false
    rw [same_key]
    by_cases e : i = x
    · subst e
      rw [decide_eq_true rfl]
      simp [hx]
    · rw [decide_eq_false e]
      simp [e]
theorem Coll.perm {m : Pd.Mp} (hu : Pd.Up m) {left : Lit → Bool} {ss : List Nat} (h : Coll m left ss) (hl : ∀ kl, left kl = false) : ss.Perm (m.map Prod.fst) := by
  refine (List.perm_ext_iff_of_nodup h.nodup ?_).2 fun i => ?_
  · refine List.pairwise_map.2 (hu.imp fun {p q} h e => ?_)
    omega
  · rw [h.mem i]
    constructor
    · rintro ⟨h1, _⟩
      obtain ⟨x, hx⟩ := Option.isSome_iff_exists.1 h1
      exact List.mem_map.2 ⟨(i, x), Pd.get_mem hx, rfl⟩
    · intro h1
      obtain ⟨p, hp, rfl⟩ := List.mem_map.1 h1
      rw [Pd.mem_get hu hp]
      exact ⟨rfl, hl _⟩
theorem sorted_keys {m : Pd.Mp} (hu : Pd.Up m) {ss : List Nat} (h : ss.Perm (m.map Prod.fst)) : (ss.map fun i : Nat => (i : Int)).mergeSort (fun x y => decide (x ≤ y)) = m.map fun p => (p.1 : Int) := by
  have tr : ∀ a b c : Int, decide (a ≤ b) = true → decide (b ≤ c) = true → decide (a ≤ c) = true := fun a b c h1 h2 => by
    simp only [decide_eq_true_eq] at *
    omega
  have to : ∀ a b : Int, (decide (a ≤ b) || decide (b ≤ a)) = true := fun a b => by
    simp only [Bool.or_eq_true, decide_eq_true_eq]
    omega
  have hp : (ss.map fun i : Nat => (i : Int)).Perm (m.map fun p => (p.1 : Int)) := by
    have := h.map (fun i : Nat => (i : Int))
    rwa [List.map_map] at this
  refine List.Perm.eq_of_pairwise (le := fun a b => decide (a ≤ b) = true) (fun a b _ _ h1 h2 => ?_) (List.pairwise_mergeSort tr to _) ?_ ((List.mergeSort_perm _ _).trans hp)
  · simp only [decide_eq_true_eq] at h1 h2
    omega
  · refine List.pairwise_map.2 (hu.imp fun {p q} h => ?_)
    simp only [decide_eq_true_eq]
    omega
theorem infoInt : (Tryz.prog.info? 3).map (fun i => (i.zero, i.size, i.bytes)) = some (some (.int .i64 0), 1, 8) := by kernel_rfl
set_option maxHeartbeats 2000000 in
set_option maxRecDepth 100000 in
theorem rising_any (b : Nat) (m : Pd.Mp) (w : World) (hM : MpAt w b m) (hl : m.length ≤ 100000) :
    Calls Tryz.prog 77 #[.map (some b)] w fun e w' => ∃ g cap cur, e = .returned (.slice (some ⟨g, 0, none⟩) m.length cap) ∧ m.length ≤ cap ∧ cap ≤ maxLen ∧ w.heap.size ≤ g ∧ w'.heap[g]? = some (.cells cur 3 (0, 0)) ∧ (∀ (i : Nat) (p : Nat × Pd.Sheet), m[i]? = some p → cur[i]? = some (.int .i64 (p.1 : Int))) ∧ Below w.heap.size w w' := by
  obtain ⟨i0, hi, hz0, hz1, hz2⟩ := info_parts infoInt
  have hown := hM.own
  have hbl := hM.lt
  have HM : Hid (MpAt w b m) := hM
  have hsz := size_dM m
  clear hM
  go_enter Tryz.func77, Tryz.ntmps77
  go_wp2_with (first
    | (at_len; refine mp_len _ rfl _ rfl b m rfl HM.out ?_)
    | (at_make; refine wpList_make_own _ rfl _ _ 37 rfl w.heap.size 3 i0 (.int .i64 0) 1 Tryz.underlying37 hi hz0 hz1 _ _ _ m.length rfl rfl rfl (by rw [hz2]; omega) (by unfold maxLen; omega) (Nat.le_refl _) ?_; intro w1 hrow1 hg1)
    | (at_range; refine wpList_range_own _ rfl _ 59 rfl 3 102 lawI Tryz.underlying59 shR b m.length _ rfl (hown.kept hg1 (by simp)) ?_; intro w0 hrg0 hg0 hs0)
    | go_in)
  go_frame
  go_loopw [3] (fun v wr => ∃ (left : Lit → Bool) (cnt : Nat) (ss : List Nat), wr.ranges Tryz.prog 3 shR b w1.heap.size m.length (dM m) left cnt ∧ ss.length + cnt ≤ m.length ∧
      wr.ownsRow w.heap.size 3 1 v ss.length (ss.map fun i : Nat => Value.int .i64 (i : Int)) ∧ v ≠ .slice none 0 0 ∧ Coll m left ss ∧ Below w.heap.size w wr)
    (fun _ wr => wr.rangeLeft b w1.heap.size)
  case atStart =>
    exact ⟨_, _, [], hrg0, by simp [hsz], hrow1.kept hg0 (Or.inr (by simp [Value.ownBlock])), by simp, Coll.start m,
      ((Below.refl _ _).grown hg1 (Nat.le_refl _) (fun j hj => by cases hj)).grown hg0 hg1.size (fun j hj => by cases hj)⟩
  case round =>
    obtain ⟨left, cnt, ss, hrg, hcs, hrow, hnn, hC, hnx⟩ := hrel
    go_wp2_with (first
      | (at_next; refine wpList_next_ranges _ rfl _ rfl 3 lawI shR id id (fun key _ _ => ⟨key, rfl⟩) (fun v _ _ => ⟨v, rfl⟩) b w1.heap.size m.length _ _ _ rfl hrg ?_ ?_)
      | go_in)
    · intro hc0 hl0
      rcases hrow.2 with ⟨hnil, _⟩ | ⟨g, cap, cur, rfl, hbase, hb, h1, h2, h3, h4⟩
      · exact absurd hnil hnn
      have hP := hC.perm HM.out.up hl0
      have hlen : ss.length = m.length := by have := hP.length_eq; rwa [List.length_map] at this
      have hS := sorted_keys HM.out.up hP
      have hgl : g < wr.heap.size := (Array.getElem?_eq_some_iff.1 hb).1
      have hmap : (ss.map fun i : Nat => Value.int .i64 (i : Int)) = (ss.map fun i : Nat => (i : Int)).map (Value.int .i64) := by rw [List.map_map]; rfl
      have hH : Holds (Value.int .i64) wr g 0 (ss.map fun i : Nat => (i : Int)).toArray := holds_of_blockI hb (by rw [List.length_map, ← hmap]; simpa using h4)
      have hc := Tryz.sort_int g 0 cap (ss.map fun i : Nat => (i : Int)) wr hH hgl (by rw [List.length_map]; omega)
      rw [List.length_map, hS] at hc
      have HF : Hid (∀ n os, ∃ g' cap' cur', Value.slice (some ⟨g, 0, none⟩) ss.length cap = .slice (some ⟨g', 0, none⟩) m.length cap' ∧ m.length ≤ cap' ∧ cap' ≤ maxLen ∧ w.heap.size ≤ g' ∧ (grow (putRow (Value.int .i64) (Sort.ahead wr n) g 0 (m.map fun p => (p.1 : Int)).toArray) os).heap[g']? = some (.cells cur' 3 (0, 0)) ∧ (∀ (i : Nat) (p : Nat × Pd.Sheet), m[i]? = some p → cur'[i]? = some (.int .i64 (p.1 : Int))) ∧ Below w.heap.size w (grow (putRow (Value.int .i64) (Sort.ahead wr n) g 0 (m.map fun p => (p.1 : Int)).toArray) os)) := fun n os => by
        have hro := ownsRow_sortedI (n := n) (os := os) (ss := ss.map fun i : Nat => (i : Int)) (ts := m.map fun p => (p.1 : Int)) (by simp [hlen]) hbase hb (by rw [List.length_map]; exact h1) h2 h3
        rcases hro.2 with ⟨hnil, _⟩ | ⟨g2, cap2, cur2, hv, hbase2, hb2, e1, e2, e3, e4⟩
        · cases hnil
        · cases hv
          refine ⟨g, cap, cur2, by rw [hlen], by omega, h2, hbase, hb2, fun i p hp => ?_, hnx.grown (grownBy_sortedI _) hnx.size (fun j hj => by cases hj; exact hbase)⟩
          have hi : i < m.length := (List.getElem?_eq_some_iff.1 hp).1
          have h5 : (cur2.toList.take (ss.length * 1))[i]? = some (.int .i64 (p.1 : Int)) := by
            have e4' := e4
            rw [List.length_map] at e4'
            rw [e4', List.getElem?_map, List.getElem?_map, hp]
            rfl
          rw [List.getElem?_take_of_lt (by omega)] at h5
          rw [← Array.getElem?_toList]
          exact h5
      clear hS hlen hP hmap hH hb h1 h2 h3 h4 hbase hrow hrg hC hnx hnn
      go_wp2_with (go_at_call 103; refine hc.mono ?_; rintro e w' ⟨rfl, nn, os, rfl⟩)
      go_ret
      obtain ⟨g', cap', cur', e1, e2, e3, e4, e5, e6, e7⟩ := HF.out nn os
      exact ⟨g', cap', cur', congrArg Ending.returned e1, e2, e3, e4, e5, e6, e7⟩
    · intro x c kl yd yp w2 cnt2 hkey hlk hv hat hrg2 hlt hg2 hs2 hen
      obtain ⟨z, hz, hkl, _⟩ := Maps.keyOf_int_inv Tryz.underlying3 hkey
      obtain ⟨p, hp, hkp⟩ := has_key (has_true_of_atKey hat)
      rw [hkl] at hkp
      have hzp : z = (p.1 : Int) := by
        unfold keyL at hkp
        simpa using hkp
      rw [hzp] at hz hkl
      have hx : x = .int .i64 (p.1 : Int) := hz
      have hkl2 : kl = keyL p.1 := hkl
      clear hz hkl hkp hzp
      rw [hx] at hen
      rw [hkl2] at hlk hrg2
      have hsome : (Pd.get m p.1).isSome = true := by rw [Pd.mem_get HM.out.up hp]; rfl
      have hC2 := hC.step hsome hlk
      have hrow2 := hrow.kept hg2 (Or.inr (row_ne_iter hrow hrg).symm)
      have hbd : b < w.heap.size := hbl
      clear hs2 hx
      have HB2 : Hid (Below w.heap.size w w2) := hnx.grown hg2 hnx.size (fun j hj => by cases hj; exact hg1.size)
      have hsz2 := HB2.out.size
      go_wp2_with (first
        | (at_builtin; refine wpList_append_own _ rfl _ _ 37 rfl w.heap.size 3 i0 (.int .i64 0) 1 8 Tryz.underlying37 hi hz0 hz1 hz2 rfl (by decide) _ _ _ rfl (hrow2.alloc _) ⟨w2.heap.size, 0, none⟩ 1 1 [.int .i64 (p.1 : Int)] rfl rfl (cell_one_new _ _ _) (by simp [Value.oneCell']) (by unfold maxLen at *; omega) (by omega) (by simp; omega) ?_; intro v3 w3 hown3 hg3 hnil3)
        | go_in)
      have hrg3 := (hrg2.alloc _).kept hg3 (row_ne_low hrow2 hbd) (row_ne_iter hrow2 hrg2)
      go_roundw
      case rel =>
        refine ⟨_, cnt2, ss ++ [p.1], hrg3, by simp; omega, by simpa using hown3, fun hv' => by have := (hnil3.1 hv').2; omega, hC2, ?_⟩
        exact (HB2.out.alloc hsz2 _).grown hg3 (by simp; omega) (fun j hj => (hrow2.lt j hj).1)
      case measure => rw [hrg3.left_eq, hrg.left_eq]; exact hlt
end Go.Proofs.YtcfninpokngmlaaGreatDoor
