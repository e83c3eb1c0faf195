/- Proved: Parse. -/
import Derived.Test.YtbcmgcallidneaaGreatDoorMayF
namespace Go.Proofs.YtbcmgcallidneaaGreatDoor
open Go.RowKit
theorem splitK_len : ∀ (k : Nat) (t : Pm.T), (Lib.splitK [10] 0 k t).length ≤ k + 1
  | 0, t => by simp [Lib.splitK]
  | k + 1, t => by
    unfold Lib.splitK
    split
    · simp
    · have := splitK_len k (t.drop ((Lib.index t [10]).toNat + [(10 : UInt8)].length))
      rw [List.length_cons]; omega
theorem splitK_short : ∀ (k : Nat) (t x : Pm.T), x ∈ Lib.splitK [10] 0 k t → x.length ≤ t.length
  | 0, t, x, h => by rw [Lib.splitK, List.mem_singleton] at h; rw [h]; exact Nat.le_refl _
  | k + 1, t, x, h => by
    unfold Lib.splitK at h
    split at h
    · rw [List.mem_singleton] at h; rw [h]; exact Nat.le_refl _
    · rcases List.mem_cons.1 h with h | h
      · rw [h, List.length_take]; omega
      · have := splitK_short k _ x h
        rw [List.length_drop] at this; omega
theorem pieces_len (t : Pm.T) : (Sm.pieces t).length ≤ min 17 (t.length + 1) := by
  have := splitK_len (min 17 (t.length + 1) - 1) t
  unfold Sm.pieces
  omega
theorem splitn_any (s : ByteArray) (w : World) (hs : s.size < 4294967281) (hT : Tab w) :
    Calls Tryz.prog 34 #[.string s, .string ⟨#[10]⟩, .int .i64 17] w fun e w' => e = .returned (.slice (some ⟨w.heap.size, 0, none⟩) (Sm.pieces (bl s)).length (min 17 (s.size + 1))) ∧ w.heap.size < w'.heap.size ∧ TextsAt w' w.heap.size 0 (Sm.pieces (bl s)) ∧ Below w.heap.size w w' := by
  obtain ⟨m, hm⟩ := hT.max
  have e1 : Lib.splitB ⟨#[10]⟩ 0 (min 17 (s.size + 1) - 1) s = (Sm.pieces (bl s)).map mk := by
    have h := Lib.splitB_data ⟨#[10]⟩ 0 (min 17 (s.size + 1) - 1) s
    have h2 : (Lib.splitB ⟨#[10]⟩ 0 (min 17 (s.size + 1) - 1) s).map bl = Sm.pieces (bl s) := by
      rw [Sm.pieces, bl_length]; exact h
    rw [← h2, List.map_map]
    conv => lhs; rw [← List.map_id (Lib.splitB ⟨#[10]⟩ 0 (min 17 (s.size + 1) - 1) s)]
    exact List.map_congr_left fun x _ => (mk_bl x).symm
  refine (Tryz.strings_SplitN s ⟨#[10]⟩ 17 m w hs hm (by decide) (by decide) (by decide)).mono fun e w' ⟨he, hw⟩ => ?_
  rw [e1] at he hw
  rw [List.length_map] at he
  refine ⟨he, ?_, ?_, ?_⟩
  · rw [hw]; simp
  · rw [hw]
    intro j x hj
    have hjl : j < (Sm.pieces (bl s)).length := (List.getElem?_eq_some_iff.1 hj).1
    rw [cell_of_row _ _ (0 + j) _ 9 (0, 0) (heap_alloc_new w _), Nat.zero_add, Lib.cellsOf, List.getElem?_toArray, List.getElem?_append_left (by simpa using hjl), List.getElem?_map, List.getElem?_map, hj]
    rfl
  · rw [hw]; exact (Below.refl _ w).alloc (Nat.le_refl _) _
theorem TextsAt.upto' {w : World} {g : Nat} {l : List Pm.T} (h : TextsAt w g 0 l) (n : Nat) : TextsAt w g 0 (l.take n) := h.upto
theorem take_dropLast (l : List Pm.T) {m : Nat} (h : l.length = m + 1) : l.take m = l.dropLast := by
  rw [List.dropLast_eq_take, h, Nat.add_sub_cancel]
set_option maxHeartbeats 4000000 in
set_option maxRecDepth 20000 in
theorem parse_any (t : ByteArray) (w : World) (ht : t.size ≤ 1000000) (hT : Tab w) :
    Calls Tryz.prog 19 #[.string t] w fun e w' => ∃ ad' c', e = .returned (.tuple #[.slice ad' (Sm.parse (bl t)).1.length c', .int .i64 ((Sm.parse (bl t)).2 : Nat)]) ∧ TxtA w' ad' (Sm.parse (bl t)).1 ∧ Below w.heap.size w w' := by
  have HS := (show Hid _ from splitn_any t w (by omega) hT)
  have HT : Hid (Tab w) := hT
  have HP : Is (Sm.parse (bl t)) (if (Sm.pieces (bl t)).getLastD [] ≠ [] ∨ Sm.may (Sm.pieces (bl t)).dropLast = false then ([], 5) else ((Sm.pieces (bl t)).dropLast, 0)) := ⟨(Sm.pieces_parse _).symm⟩
  have hpl := pieces_len (bl t)
  rw [bl_length] at hpl
  have HX : Hid (∀ x ∈ (Sm.pieces (bl t)).dropLast, x.length ≤ 1000000) := fun x hx => by
    have := splitK_short _ _ x (List.dropLast_subset _ hx)
    rw [bl_length] at this; omega
  obtain ⟨m, hm⟩ : ∃ m, (Sm.pieces (bl t)).length = m + 1 := ⟨(Sm.pieces (bl t)).length - 1, by have := List.length_pos_iff.2 (Sm.pieces_ne (bl t)); omega⟩
  have HL : Is (Sm.pieces (bl t)).length (m + 1) := ⟨hm⟩
  rw [hm] at HS hpl
  have hc17 : min 17 (t.size + 1) ≤ 17 := by omega
  generalize Sm.pieces (bl t) = ps at *
  generalize min 17 (t.size + 1) = cap at *
  have HDl : Is ps.dropLast.length m := ⟨by rw [List.length_dropLast, hm, Nat.add_sub_cancel]⟩
  have HLa : Is (ps.getD m []) (ps.getLastD []) := ⟨by rw [getLastD_at, hm, Nat.add_sub_cancel]⟩
  have HM : Hid (∀ W : World, TxtA W (some ⟨w.heap.size, 0, none⟩) ps.dropLast → Tab W → Calls Tryz.prog 10 #[.slice (some ⟨w.heap.size, 0, none⟩) m m] W fun e w' => e = .returned (.bool (Sm.may ps.dropLast)) ∧ Below W.heap.size W w') := fun W h1 h2 => by
    have h := may_any (some ⟨w.heap.size, 0, none⟩) m ps.dropLast W h1 (by rw [HDl.eq]; omega) HX.out h2
    rw [HDl.eq] at h
    exact h
  have n1 : wrap64 (((m + 1 : Nat) : Int) - 1) = (m : Int) := by unfold wrap64; omega
  have i1 : (m : Int) < ((m + 1 : Nat) : Int) := by omega
  have i2 : (m : Int) ≤ (cap : Int) := by omega
  have j1 : (0 : Int) ≤ (m : Int) := Int.natCast_nonneg _
  clear hm hT HX
  go_enter Tryz.func19, Tryz.ntmps19
  go_wp2_with fail
  refine (show Calls _ _ _ _ _ from HS.out).mono ?_
  rintro e w1 ⟨rfl, hg1, ht1, hB1⟩
  have cl := ht1.get m (by rw [HL.eq]; omega)
  rw [HLa.eq] at cl
  have HA1 : Hid (TxtA w1 (some ⟨w.heap.size, 0, none⟩) ps.dropLast) := fun _ => ⟨w.heap.size, rfl, hg1, by
    have h := ht1.upto' m
    rw [take_dropLast ps HL.eq] at h
    exact h⟩
  have HB1 : Hid (Below w.heap.size w w1) := hB1
  have HT1 : Hid (Tab w1) := HT.out.below hB1
  have hz1 := hB1.size
  clear ht1 hB1 HS
  by_cases hy : ps.getLastD [] = []
  · rw [hy] at cl HP
    have cl2 : w1.cell? ⟨w.heap.size, m, none⟩ = some (.string ⟨#[]⟩) := cl
    clear cl
    cases hmy : Sm.may ps.dropLast with
    | false =>
      rw [hmy] at HM HP
      rw [if_pos (.inr rfl)] at HP
      go_wp2_with fail
      refine (HM.out w1 HA1.out HT1.out).mono ?_
      rintro e w2 ⟨rfl, hB2⟩
      go_wp2_with fail
      go_ret2
      rw [HP.eq]
      exact ⟨_, _, rfl, TxtA.nil _ _, HB1.out.trans (hB2.mono hz1)⟩
    | true =>
      rw [hmy] at HM HP
      rw [if_neg (by rintro (h | h); exact h rfl; cases h)] at HP
      go_wp2_with fail
      refine (HM.out w1 HA1.out HT1.out).mono ?_
      rintro e w2 ⟨rfl, hB2⟩
      go_wp2_with fail
      go_ret2
      rw [HP.eq]
      exact ⟨some ⟨w.heap.size, 0, none⟩, m, by rw [HDl.eq]; rfl, HA1.out.below hB2, HB1.out.trans (hB2.mono hz1)⟩
  · rw [if_pos (.inl hy)] at HP
    have ey : (mk (ps.getLastD [])).toList.isEmpty = false := te_bl hy
    clear hy
    generalize mk (ps.getLastD []) = sy at *
    go_wp2_with fail
    go_ret2
    rw [HP.eq]
    exact ⟨_, _, rfl, TxtA.nil _ _, HB1.out⟩
end Go.Proofs.YtbcmgcallidneaaGreatDoor
