/- Proved: what slot's 'each' answers, for keys of cells, cells, keys and sizes (stage 11). -/
import Derived.Test.YtoinaplmgffkpaaAll
import Derived.Test.YtoinaplmgffkpaaClone
namespace Go.Proofs.Ytoinaplmgffkpaa
open Go.RowKit
open Sl (Cel Nod)
theorem own_set {w : World} {B e k n g cap : Nat} {xs : List Value} (H : w.ownsRow B e k (.slice (some ⟨g, 0, none⟩) n cap) n xs) (i : Nat) (u : Value) : (w.setCell ⟨g, i, none⟩ u).ownsRow B e k (.slice (some ⟨g, 0, none⟩) n cap) n (xs.set i u) := by
  rcases H.2 with ⟨h1, h2⟩ | ⟨g', cap', cur, hv, hg, hb, h1, h2, h3, h4⟩
  · cases h1
  · cases hv
    refine ⟨by rw [List.length_set]; exact H.1, .inr ⟨g, cap, cur.setIfInBounds i u, rfl, hg, heap_setCell_same w g i _ _ u hb, h1, h2, by rw [Array.size_setIfInBounds]; exact h3, ?_⟩⟩
    rw [Array.toList_setIfInBounds, List.take_set, h4]
theorem own_frozen {w : World} {B e k n g cap : Nat} {xs : List Value} (H : w.ownsRow B e k (.slice (some ⟨g, 0, none⟩) n cap) n xs) (i : Nat) : w.frozen? ⟨g, i, none⟩ = false := by
  rcases H.2 with ⟨h1, h2⟩ | ⟨g', cap', cur, hv, hg, hb, h1, h2, h3, h4⟩
  · cases h1
  · cases hv
    exact frozen_of_row w g i _ _ hb
theorem own_there {w : World} {B e k n g cap : Nat} {xs : List Value} (H : w.ownsRow B e k (.slice (some ⟨g, 0, none⟩) n cap) n xs) (i : Nat) (hi : i < xs.length) : ∃ u, w.cell? ⟨g, i, none⟩ = some u := by
  rcases H.2 with ⟨h1, h2⟩ | ⟨g', cap', cur, hv, hg, hb, h1, h2, h3, h4⟩
  · cases h1
  · cases hv
    obtain ⟨x, h5⟩ : ∃ x, xs[i]? = some x := ⟨_, List.getElem?_eq_getElem hi⟩
    refine ⟨x, ?_⟩
    rw [← h4, List.getElem?_take] at h5
    rw [cell_of_row w g i cur e (0, 0) hb, ← Array.getElem?_toList]
    split at h5
    · exact h5
    · cases h5
theorem own_below {w w' : World} {N n : Nat} {v : Value} {vs : List Value} {e : TypeId} {k : Nat} (h : w.ownsRow N e k v n vs) (hb : Below w.heap.size w w') : w'.ownsRow N e k v n vs := by
  obtain ⟨h0, h1⟩ := h
  refine ⟨h0, ?_⟩
  rcases h1 with h1 | ⟨g, cap', cur, hv, hN, hh, r⟩
  · exact .inl h1
  · exact .inr ⟨g, cap', cur, hv, hN, (hb.block g (Array.getElem?_eq_some_iff.1 hh).1).trans hh, r⟩
theorem set_one (A Z : List Value) (k : Nat) (hA : A.length = k) (hZ : k < Z.length) (u : Value) : (A ++ Z.drop k).set k u = A ++ [u] ++ Z.drop (k + 1) := by
  rw [List.drop_eq_getElem_cons hZ, List.set_append_right _ _ (by omega), hA, Nat.sub_self, List.set_cons_zero, List.append_assoc]; rfl
theorem set_four (A Z : List Value) (k : Nat) (hA : A.length = k * 4) (hZ : k * 4 + 4 ≤ Z.length) (a b c d : Value) : ((((A ++ Z.drop (k * 4)).set (k * 4) a).set (k * 4 + 1) b).set (k * 4 + 2) c).set (k * 4 + 3) d = A ++ [a, b, c, d] ++ Z.drop ((k + 1) * 4) := by
  rw [set_one A Z (k * 4) hA (by omega) a, set_one (A ++ [a]) Z (k * 4 + 1) (by simp; omega) (by omega) b, set_one (A ++ [a] ++ [b]) Z (k * 4 + 2) (by simp; omega) (by omega) c, set_one (A ++ [a] ++ [b] ++ [c]) Z (k * 4 + 3) (by simp; omega) (by omega) d]
  rw [show k * 4 + 3 + 1 = (k + 1) * 4 by omega]
  simp
set_option maxHeartbeats 2000000 in
theorem eachCS_any (ad : Option Addr) (c : Nat) (l : List Cel) (w : World) (hA : RowAt w ad (cvals l)) (hl : l.length ≤ 1000) :
    Calls Try.prog 67 #[.slice ad l.length c, .func (.func 68) #[] #[]] w fun e w' => ∃ v, e = .returned v ∧ w'.ownsRow w.heap.size 9 1 v l.length (kcells (l.map Cel.key)) ∧ Below w.heap.size w w' := by
  have HA : Hid (RowAt w ad (cvals l)) := hA
  clear hA
  obtain ⟨i0, hi, hz0, hz1, hz2⟩ := info_parts infoS
  go_enter Try.func67, Try.ntmps67
  go_wp2_with (first
    | (at_make; refine wpList_make_full _ rfl _ _ 23 rfl w.heap.size 9 i0 (.string ⟨#[]⟩) 1 Try.underlying23 hi hz0 hz1 _ _ _ _ l.length rfl rfl rfl rfl (by rw [hz2]; omega) (by unfold maxLen; omega) (Nat.le_refl _) ?_; intro w1 hO1 hG1))
  have HB1 : Hid (Below w.heap.size w w1) := (Below.refl _ _).grown hG1 (Nat.le_refl _) (fun j hj => by cases hj)
  have HO1 := (show Hid (w1.ownsRow w.heap.size 9 1 (.slice (some ⟨w.heap.size, 0, none⟩) l.length l.length) l.length _) from hO1)
  have hZ := hO1.1
  clear hO1 hG1 hi hz0 hz1 hz2
  generalize (madeCells (.string ⟨#[]⟩ : Value).cells (l.length * 1)).toList = Z at *
  go_loopw [13] (fun s13 wr => ∃ k : Nat, k ≤ l.length ∧ s13 = .int .i64 k ∧ wr.ownsRow w.heap.size 9 1 (.slice (some ⟨w.heap.size, 0, none⟩) l.length l.length) l.length (kcells ((l.take (k)).map Cel.key) ++ Z.drop (k * 1)) ∧ Below w.heap.size w wr) (fun s13 _ => l.length - (intOf s13).toNat)
  case atStart => exact ⟨0, by omega, rfl, by simpa [kcells] using HO1.out, HB1.out⟩
  case round =>
    obtain ⟨k, hk, rfl, hO, hB⟩ := hrel
    have HB : Hid (Below w.heap.size w wr) := hB
    have HO := (show Hid (wr.ownsRow w.heap.size 9 1 _ l.length (kcells ((l.take (k)).map Cel.key) ++ Z.drop (k * 1))) from hO)
    have hsz := hB.size
    clear hO hB HO1 HB1
    by_cases hlt : k < l.length
    · obtain ⟨b, off, rfl, hb, hc⟩ := HA.out.cell (by omega)
      obtain ⟨q0, q1, q2, q3⟩ := (hc k hlt).below HB.out hb
      clear hc
      have i0 : decide ((k : Int) < (l.length : Int)) = true := by simp; omega
      have i1 : (k : Int) < (l.length : Int) := by omega
      have j0 : (0 : Int) ≤ (k : Int) := Int.natCast_nonneg _
      have HTK : Is (kcells ((l.take (k + 1)).map Cel.key)) (kcells ((l.take (k)).map Cel.key) ++ kcells [Cel.key (l.getD k Sl.cel0)]) := ⟨by rw [Sl.take_map _ l k Sl.cel0 hlt, kcells_append]⟩
      generalize l.getD k Sl.cel0 = x at *
      have HC := fun W => keyOf_any x W
      skip
      obtain ⟨xk, xx, xo, xl⟩ := x
      unfold cv at *
      simp only at q0 q1 q2 q3 HC
      go_wp2_with fail
      refine (HC _).mono ?_
      rintro e w' ⟨rfl, hB2⟩
      have HB2 : Hid (Below w.heap.size w w') := HB.out.trans (((below_alloc _ _).trans (hB2.mono (by rw [size_alloc1]; omega))).mono hsz)
      have HO2 := (show Hid (w'.ownsRow w.heap.size 9 1 (.slice (some ⟨w.heap.size, 0, none⟩) l.length l.length) l.length (kcells ((l.take (k)).map Cel.key) ++ Z.drop (k * 1))) from own_below HO.out ((below_alloc _ _).trans (hB2.mono (by rw [size_alloc1]; omega))))
      clear hB2
      obtain ⟨u0, t0⟩ := own_there HO2.out k (by rw [List.length_append, kcells_length, List.length_map, List.length_take, List.length_drop]; omega)
      have z0 := own_frozen HO2.out k
      have HFN : ∃ k' : Nat, k' ≤ l.length ∧ Value.int .i64 ((k : Int) + 1) = .int .i64 k' ∧ (w'.setCell ⟨w.heap.size, k, none⟩ (.string xk)).ownsRow w.heap.size 9 1 (.slice (some ⟨w.heap.size, 0, none⟩) l.length l.length) l.length (kcells ((l.take (k')).map Cel.key) ++ Z.drop (k' * 1)) ∧ Below w.heap.size w (w'.setCell ⟨w.heap.size, k, none⟩ (.string xk)) := ⟨k + 1, by omega, by go_num, by
        have h5 := own_set HO2.out k (.string xk)
        rw [Nat.mul_one] at h5
        rw [set_one _ _ k (by rw [kcells_length, List.length_map, List.length_take]; omega) (by omega)] at h5
        rw [HTK.eq, Nat.mul_one]
        exact h5, HB2.out.setCell (Nat.le_refl _) _⟩
      clear HC HO HO2 HTK HB HB2
      go_wp2_with fail
      go_roundw
      case rel => first | exact HFN | ((repeat apply Exists.intro); exact ⟨HFN, rfl⟩)
      case measure => (simp [intOf]) <;> omega
    · have hkl : ¬ (k : Int) < (l.length : Int) := by omega
      have HFN := (show Hid (wr.ownsRow w.heap.size 9 1 (.slice (some ⟨w.heap.size, 0, none⟩) l.length l.length) l.length (kcells (l.map Cel.key))) from by
        have h5 := HO.out
        rw [List.take_of_length_le (by omega), List.drop_of_length_le (by omega), List.append_nil] at h5
        exact h5)
      go_wp2
      go_ret
      exact ⟨_, rfl, HFN.out, HB.out⟩
set_option maxHeartbeats 2000000 in
theorem eachCC_any (ad : Option Addr) (c : Nat) (l : List Cel) (w : World) (hA : RowAt w ad (cvals l)) (hl : l.length ≤ 1000) (hf : ∀ x ∈ l, CelFit x) :
    Calls Try.prog 53 #[.slice ad l.length c, .func (.func 54) #[] #[]] w fun e w' => ∃ v, e = .returned v ∧ w'.ownsRow w.heap.size 28 4 v l.length (cvals l) ∧ Below w.heap.size w w' := by
  have HA : Hid (RowAt w ad (cvals l)) := hA
  clear hA
  obtain ⟨i0, hi, hz0, hz1, hz2⟩ := info_parts infoC
  go_enter Try.func53, Try.ntmps53
  go_wp2_with (first
    | (at_make; refine wpList_make_full _ rfl _ _ 22 rfl w.heap.size 28 i0 (.agg #[.string ⟨#[]⟩, .string ⟨#[]⟩, .int .i64 0, .int .i64 0]) 4 Try.underlying22 hi hz0 hz1 _ _ _ _ l.length rfl rfl rfl rfl (by rw [hz2]; omega) (by unfold maxLen; omega) (Nat.le_refl _) ?_; intro w1 hO1 hG1))
  have HB1 : Hid (Below w.heap.size w w1) := (Below.refl _ _).grown hG1 (Nat.le_refl _) (fun j hj => by cases hj)
  have HO1 := (show Hid (w1.ownsRow w.heap.size 28 4 (.slice (some ⟨w.heap.size, 0, none⟩) l.length l.length) l.length _) from hO1)
  have hZ := hO1.1
  clear hO1 hG1 hi hz0 hz1 hz2
  generalize (madeCells (.agg #[.string ⟨#[]⟩, .string ⟨#[]⟩, .int .i64 0, .int .i64 0] : Value).cells (l.length * 4)).toList = Z at *
  go_loopw [13] (fun s13 wr => ∃ k : Nat, k ≤ l.length ∧ s13 = .int .i64 k ∧ wr.ownsRow w.heap.size 28 4 (.slice (some ⟨w.heap.size, 0, none⟩) l.length l.length) l.length (cvals (l.take (k)) ++ Z.drop (k * 4)) ∧ Below w.heap.size w wr) (fun s13 _ => l.length - (intOf s13).toNat)
  case atStart => exact ⟨0, by omega, rfl, by simpa [cvals] using HO1.out, HB1.out⟩
  case round =>
    obtain ⟨k, hk, rfl, hO, hB⟩ := hrel
    have HB : Hid (Below w.heap.size w wr) := hB
    have HO := (show Hid (wr.ownsRow w.heap.size 28 4 _ l.length (cvals (l.take (k)) ++ Z.drop (k * 4))) from hO)
    have hsz := hB.size
    clear hO hB HO1 HB1
    by_cases hlt : k < l.length
    · obtain ⟨b, off, rfl, hb, hc⟩ := HA.out.cell (by omega)
      obtain ⟨q0, q1, q2, q3⟩ := (hc k hlt).below HB.out hb
      clear hc
      have i0 : decide ((k : Int) < (l.length : Int)) = true := by simp; omega
      have i1 : (k : Int) < (l.length : Int) := by omega
      have j0 : (0 : Int) ≤ (k : Int) := Int.natCast_nonneg _
      have hx := hf (l.getD k Sl.cel0) (Sl.getD_mem l k Sl.cel0 hlt)
      have HTK : Is (cvals (l.take (k + 1))) (cvals (l.take (k)) ++ cvals [(l.getD k Sl.cel0)]) := ⟨by rw [Sl.take_more l k Sl.cel0 hlt, cvals_append]⟩
      generalize l.getD k Sl.cel0 = x at *
      have HC := fun W => ownCell_any x W hx
      clear hx
      obtain ⟨xk, xx, xo, xl⟩ := x
      unfold cv at *
      simp only at q0 q1 q2 q3 HC
      go_wp2_with fail
      refine (HC _).mono ?_
      rintro e w' ⟨rfl, hB2⟩
      have HB2 : Hid (Below w.heap.size w w') := HB.out.trans (((below_alloc _ _).trans (hB2.mono (by rw [size_alloc1]; omega))).mono hsz)
      have HO2 := (show Hid (w'.ownsRow w.heap.size 28 4 (.slice (some ⟨w.heap.size, 0, none⟩) l.length l.length) l.length (cvals (l.take (k)) ++ Z.drop (k * 4))) from own_below HO.out ((below_alloc _ _).trans (hB2.mono (by rw [size_alloc1]; omega))))
      clear hB2
      obtain ⟨u0, t0⟩ := own_there HO2.out (k * 4 + 0) (by rw [List.length_append, cvals_length, List.length_take, List.length_drop]; omega)
      have z0 := own_frozen HO2.out (k * 4 + 0)
      obtain ⟨u1, t1⟩ := own_there HO2.out (k * 4 + 1) (by rw [List.length_append, cvals_length, List.length_take, List.length_drop]; omega)
      have z1 := own_frozen HO2.out (k * 4 + 1)
      obtain ⟨u2, t2⟩ := own_there HO2.out (k * 4 + 2) (by rw [List.length_append, cvals_length, List.length_take, List.length_drop]; omega)
      have z2 := own_frozen HO2.out (k * 4 + 2)
      obtain ⟨u3, t3⟩ := own_there HO2.out (k * 4 + 3) (by rw [List.length_append, cvals_length, List.length_take, List.length_drop]; omega)
      have z3 := own_frozen HO2.out (k * 4 + 3)
      rw [Nat.add_zero] at t0 z0
      have HFN : ∃ k' : Nat, k' ≤ l.length ∧ Value.int .i64 ((k : Int) + 1) = .int .i64 k' ∧ ((((w'.setCell ⟨w.heap.size, k * 4, none⟩ (.string xk)).setCell ⟨w.heap.size, k * 4 + 1, none⟩ (.string xx)).setCell ⟨w.heap.size, k * 4 + 2, none⟩ (.int .i64 xo)).setCell ⟨w.heap.size, k * 4 + 3, none⟩ (.int .i64 xl)).ownsRow w.heap.size 28 4 (.slice (some ⟨w.heap.size, 0, none⟩) l.length l.length) l.length (cvals (l.take (k')) ++ Z.drop (k' * 4)) ∧ Below w.heap.size w ((((w'.setCell ⟨w.heap.size, k * 4, none⟩ (.string xk)).setCell ⟨w.heap.size, k * 4 + 1, none⟩ (.string xx)).setCell ⟨w.heap.size, k * 4 + 2, none⟩ (.int .i64 xo)).setCell ⟨w.heap.size, k * 4 + 3, none⟩ (.int .i64 xl)) := ⟨k + 1, by omega, by go_num, by
        have h5 := own_set (own_set (own_set (own_set HO2.out (k * 4) (.string xk)) (k * 4 + 1) (.string xx)) (k * 4 + 2) (.int .i64 xo)) (k * 4 + 3) (.int .i64 xl)
        skip
        rw [set_four _ _ k (by rw [cvals_length, List.length_take]; omega) (by omega)] at h5
        rw [HTK.eq]
        exact h5, (((HB2.out.setCell (Nat.le_refl _) _).setCell (Nat.le_refl _) _).setCell (Nat.le_refl _) _).setCell (Nat.le_refl _) _⟩
      clear HC HO HO2 HTK HB HB2
      go_wp2_with fail
      go_roundw
      case rel => first | exact HFN | ((repeat apply Exists.intro); exact ⟨HFN, rfl⟩)
      case measure => (simp [intOf]) <;> omega
    · have hkl : ¬ (k : Int) < (l.length : Int) := by omega
      have HFN := (show Hid (wr.ownsRow w.heap.size 28 4 (.slice (some ⟨w.heap.size, 0, none⟩) l.length l.length) l.length (cvals l)) from by
        have h5 := HO.out
        rw [List.take_of_length_le (by omega), List.drop_of_length_le (by omega), List.append_nil] at h5
        exact h5)
      go_wp2
      go_ret
      exact ⟨_, rfl, HFN.out, HB.out⟩
set_option maxHeartbeats 2000000 in
theorem eachSS_any (ad : Option Addr) (c : Nat) (l : List ByteArray) (w : World) (hA : RowAt w ad (kcells l)) (hl : l.length ≤ 1000) (hf : ∀ x ∈ l, x.size ≤ 140737488355328) :
    Calls Try.prog 55 #[.slice ad l.length c, .func (.func 34) #[] #[]] w fun e w' => ∃ v, e = .returned v ∧ w'.ownsRow w.heap.size 9 1 v l.length (kcells l) ∧ Below w.heap.size w w' := by
  have HA : Hid (RowAt w ad (kcells l)) := hA
  clear hA
  obtain ⟨i0, hi, hz0, hz1, hz2⟩ := info_parts infoS
  go_enter Try.func55, Try.ntmps55
  go_wp2_with (first
    | (at_make; refine wpList_make_full _ rfl _ _ 23 rfl w.heap.size 9 i0 (.string ⟨#[]⟩) 1 Try.underlying23 hi hz0 hz1 _ _ _ _ l.length rfl rfl rfl rfl (by rw [hz2]; omega) (by unfold maxLen; omega) (Nat.le_refl _) ?_; intro w1 hO1 hG1))
  have HB1 : Hid (Below w.heap.size w w1) := (Below.refl _ _).grown hG1 (Nat.le_refl _) (fun j hj => by cases hj)
  have HO1 := (show Hid (w1.ownsRow w.heap.size 9 1 (.slice (some ⟨w.heap.size, 0, none⟩) l.length l.length) l.length _) from hO1)
  have hZ := hO1.1
  clear hO1 hG1 hi hz0 hz1 hz2
  generalize (madeCells (.string ⟨#[]⟩ : Value).cells (l.length * 1)).toList = Z at *
  go_loopw [13] (fun s13 wr => ∃ k : Nat, k ≤ l.length ∧ s13 = .int .i64 k ∧ wr.ownsRow w.heap.size 9 1 (.slice (some ⟨w.heap.size, 0, none⟩) l.length l.length) l.length (kcells (l.take (k)) ++ Z.drop (k * 1)) ∧ Below w.heap.size w wr) (fun s13 _ => l.length - (intOf s13).toNat)
  case atStart => exact ⟨0, by omega, rfl, by simpa [kcells] using HO1.out, HB1.out⟩
  case round =>
    obtain ⟨k, hk, rfl, hO, hB⟩ := hrel
    have HB : Hid (Below w.heap.size w wr) := hB
    have HO := (show Hid (wr.ownsRow w.heap.size 9 1 _ l.length (kcells (l.take (k)) ++ Z.drop (k * 1))) from hO)
    have hsz := hB.size
    clear hO hB HO1 HB1
    by_cases hlt : k < l.length
    · obtain ⟨b, off, rfl, hb, hc⟩ := HA.out.keyAt (by omega)
      have hc0 := (HB.out.cell (p := ⟨b, off + k, none⟩) hb).trans (hc k hlt)
      clear hc
      have i0 : decide ((k : Int) < (l.length : Int)) = true := by simp; omega
      have i1 : (k : Int) < (l.length : Int) := by omega
      have j0 : (0 : Int) ≤ (k : Int) := Int.natCast_nonneg _
      have hx := hf (l.getD k ByteArray.empty) (Sl.getD_mem l k ByteArray.empty hlt)
      have HTK : Is (kcells (l.take (k + 1))) (kcells (l.take (k)) ++ kcells [(l.getD k ByteArray.empty)]) := ⟨by rw [Sl.take_more l k ByteArray.empty hlt, kcells_append]⟩
      generalize l.getD k ByteArray.empty = x at *
      have HC := fun W => sclone_any x W (by omega)
      go_wp2_with fail
      refine (HC _).mono ?_
      rintro e w' ⟨rfl, hB2⟩
      have HB2 : Hid (Below w.heap.size w w') := HB.out.trans (((Below.refl _ _).trans (hB2.mono (Nat.le_refl _))).mono hsz)
      have HO2 := (show Hid (w'.ownsRow w.heap.size 9 1 (.slice (some ⟨w.heap.size, 0, none⟩) l.length l.length) l.length (kcells (l.take (k)) ++ Z.drop (k * 1))) from own_below HO.out ((Below.refl _ _).trans (hB2.mono (Nat.le_refl _))))
      clear hB2
      obtain ⟨u0, t0⟩ := own_there HO2.out k (by rw [List.length_append, kcells_length, List.length_take, List.length_drop]; omega)
      have z0 := own_frozen HO2.out k
      have HFN : ∃ k' : Nat, k' ≤ l.length ∧ Value.int .i64 ((k : Int) + 1) = .int .i64 k' ∧ (w'.setCell ⟨w.heap.size, k, none⟩ (.string x)).ownsRow w.heap.size 9 1 (.slice (some ⟨w.heap.size, 0, none⟩) l.length l.length) l.length (kcells (l.take (k')) ++ Z.drop (k' * 1)) ∧ Below w.heap.size w (w'.setCell ⟨w.heap.size, k, none⟩ (.string x)) := ⟨k + 1, by omega, by go_num, by
        have h5 := own_set HO2.out k (.string x)
        rw [Nat.mul_one] at h5
        rw [set_one _ _ k (by rw [kcells_length, List.length_take]; omega) (by omega)] at h5
        rw [HTK.eq, Nat.mul_one]
        exact h5, HB2.out.setCell (Nat.le_refl _) _⟩
      clear HC HO HO2 HTK HB HB2
      go_wp2_with fail
      go_roundw
      case rel => first | exact HFN | ((repeat apply Exists.intro); exact ⟨HFN, rfl⟩)
      case measure => (simp [intOf]) <;> omega
    · have hkl : ¬ (k : Int) < (l.length : Int) := by omega
      have HFN := (show Hid (wr.ownsRow w.heap.size 9 1 (.slice (some ⟨w.heap.size, 0, none⟩) l.length l.length) l.length (kcells l)) from by
        have h5 := HO.out
        rw [List.take_of_length_le (by omega), List.drop_of_length_le (by omega), List.append_nil] at h5
        exact h5)
      go_wp2
      go_ret
      exact ⟨_, rfl, HFN.out, HB.out⟩
set_option maxHeartbeats 2000000 in
theorem eachCI_any (ad : Option Addr) (c : Nat) (l : List Cel) (w : World) (hA : RowAt w ad (cvals l)) (hl : l.length ≤ 1000) (hf : ∀ x ∈ l, CelFit x) :
    Calls Try.prog 57 #[.slice ad l.length c, .func (.func 58) #[] #[]] w fun e w' => ∃ v, e = .returned v ∧ w'.ownsRow w.heap.size 3 1 v l.length (icells (l.map (fun c => (csize c : Int)))) ∧ Below w.heap.size w w' := by
  have HA : Hid (RowAt w ad (cvals l)) := hA
  clear hA
  obtain ⟨i0, hi, hz0, hz1, hz2⟩ := info_parts infoI
  go_enter Try.func57, Try.ntmps57
  go_wp2_with (first
    | (at_make; refine wpList_make_full _ rfl _ _ 24 rfl w.heap.size 3 i0 (.int .i64 0) 1 Try.underlying24 hi hz0 hz1 _ _ _ _ l.length rfl rfl rfl rfl (by rw [hz2]; omega) (by unfold maxLen; omega) (Nat.le_refl _) ?_; intro w1 hO1 hG1))
  have HB1 : Hid (Below w.heap.size w w1) := (Below.refl _ _).grown hG1 (Nat.le_refl _) (fun j hj => by cases hj)
  have HO1 := (show Hid (w1.ownsRow w.heap.size 3 1 (.slice (some ⟨w.heap.size, 0, none⟩) l.length l.length) l.length _) from hO1)
  have hZ := hO1.1
  clear hO1 hG1 hi hz0 hz1 hz2
  generalize (madeCells (.int .i64 0 : Value).cells (l.length * 1)).toList = Z at *
  go_loopw [13] (fun s13 wr => ∃ k : Nat, k ≤ l.length ∧ s13 = .int .i64 k ∧ wr.ownsRow w.heap.size 3 1 (.slice (some ⟨w.heap.size, 0, none⟩) l.length l.length) l.length (icells ((l.take (k)).map (fun c => (csize c : Int))) ++ Z.drop (k * 1)) ∧ Below w.heap.size w wr) (fun s13 _ => l.length - (intOf s13).toNat)
  case atStart => exact ⟨0, by omega, rfl, by simpa [icells] using HO1.out, HB1.out⟩
  case round =>
    obtain ⟨k, hk, rfl, hO, hB⟩ := hrel
    have HB : Hid (Below w.heap.size w wr) := hB
    have HO := (show Hid (wr.ownsRow w.heap.size 3 1 _ l.length (icells ((l.take (k)).map (fun c => (csize c : Int))) ++ Z.drop (k * 1))) from hO)
    have hsz := hB.size
    clear hO hB HO1 HB1
    by_cases hlt : k < l.length
    · obtain ⟨b, off, rfl, hb, hc⟩ := HA.out.cell (by omega)
      obtain ⟨q0, q1, q2, q3⟩ := (hc k hlt).below HB.out hb
      clear hc
      have i0 : decide ((k : Int) < (l.length : Int)) = true := by simp; omega
      have i1 : (k : Int) < (l.length : Int) := by omega
      have j0 : (0 : Int) ≤ (k : Int) := Int.natCast_nonneg _
      have hx := hf (l.getD k Sl.cel0) (Sl.getD_mem l k Sl.cel0 hlt)
      have HTK : Is (icells ((l.take (k + 1)).map (fun c => (csize c : Int)))) (icells ((l.take (k)).map (fun c => (csize c : Int))) ++ icells [(fun c => (csize c : Int)) (l.getD k Sl.cel0)]) := ⟨by rw [Sl.take_map _ l k Sl.cel0 hlt, icells_append]⟩
      generalize l.getD k Sl.cel0 = x at *
      have HC := fun W => cellSize_any x W hx
      clear hx
      obtain ⟨xk, xx, xo, xl⟩ := x
      unfold cv at *
      simp only at q0 q1 q2 q3 HC
      go_wp2_with fail
      refine (HC _).mono ?_
      rintro e w' ⟨rfl, hB2⟩
      have HB2 : Hid (Below w.heap.size w w') := HB.out.trans (((below_alloc _ _).trans (hB2.mono (by rw [size_alloc1]; omega))).mono hsz)
      have HO2 := (show Hid (w'.ownsRow w.heap.size 3 1 (.slice (some ⟨w.heap.size, 0, none⟩) l.length l.length) l.length (icells ((l.take (k)).map (fun c => (csize c : Int))) ++ Z.drop (k * 1))) from own_below HO.out ((below_alloc _ _).trans (hB2.mono (by rw [size_alloc1]; omega))))
      clear hB2
      obtain ⟨u0, t0⟩ := own_there HO2.out k (by rw [List.length_append, icells_length, List.length_map, List.length_take, List.length_drop]; omega)
      have z0 := own_frozen HO2.out k
      have HFN : ∃ k' : Nat, k' ≤ l.length ∧ Value.int .i64 ((k : Int) + 1) = .int .i64 k' ∧ (w'.setCell ⟨w.heap.size, k, none⟩ (.int .i64 (csize (⟨xk, xx, xo, xl⟩ : Cel) : Int))).ownsRow w.heap.size 3 1 (.slice (some ⟨w.heap.size, 0, none⟩) l.length l.length) l.length (icells ((l.take (k')).map (fun c => (csize c : Int))) ++ Z.drop (k' * 1)) ∧ Below w.heap.size w (w'.setCell ⟨w.heap.size, k, none⟩ (.int .i64 (csize (⟨xk, xx, xo, xl⟩ : Cel) : Int))) := ⟨k + 1, by omega, by go_num, by
        have h5 := own_set HO2.out k (.int .i64 (csize (⟨xk, xx, xo, xl⟩ : Cel) : Int))
        rw [Nat.mul_one] at h5
        rw [set_one _ _ k (by rw [icells_length, List.length_map, List.length_take]; omega) (by omega)] at h5
        rw [HTK.eq, Nat.mul_one]
        exact h5, HB2.out.setCell (Nat.le_refl _) _⟩
      clear HC HO HO2 HTK HB HB2
      go_wp2_with fail
      go_roundw
      case rel => first | exact HFN | ((repeat apply Exists.intro); exact ⟨HFN, rfl⟩)
      case measure => (simp [intOf]) <;> omega
    · have hkl : ¬ (k : Int) < (l.length : Int) := by omega
      have HFN := (show Hid (wr.ownsRow w.heap.size 3 1 (.slice (some ⟨w.heap.size, 0, none⟩) l.length l.length) l.length (icells (l.map (fun c => (csize c : Int))))) from by
        have h5 := HO.out
        rw [List.take_of_length_le (by omega), List.drop_of_length_le (by omega), List.append_nil] at h5
        exact h5)
      go_wp2
      go_ret
      exact ⟨_, rfl, HFN.out, HB.out⟩
set_option maxHeartbeats 2000000 in
theorem eachSI_any (ad : Option Addr) (c : Nat) (l : List ByteArray) (w : World) (hA : RowAt w ad (kcells l)) (hl : l.length ≤ 1000) (hf : ∀ x ∈ l, x.size ≤ 140737488355328) :
    Calls Try.prog 59 #[.slice ad l.length c, .func (.func 60) #[] #[]] w fun e w' => ∃ v, e = .returned v ∧ w'.ownsRow w.heap.size 3 1 v l.length (icells (l.map (fun k : ByteArray => ((5 + k.size : Nat) : Int)))) ∧ Below w.heap.size w w' := by
  have HA : Hid (RowAt w ad (kcells l)) := hA
  clear hA
  obtain ⟨i0, hi, hz0, hz1, hz2⟩ := info_parts infoI
  go_enter Try.func59, Try.ntmps59
  go_wp2_with (first
    | (at_make; refine wpList_make_full _ rfl _ _ 24 rfl w.heap.size 3 i0 (.int .i64 0) 1 Try.underlying24 hi hz0 hz1 _ _ _ _ l.length rfl rfl rfl rfl (by rw [hz2]; omega) (by unfold maxLen; omega) (Nat.le_refl _) ?_; intro w1 hO1 hG1))
  have HB1 : Hid (Below w.heap.size w w1) := (Below.refl _ _).grown hG1 (Nat.le_refl _) (fun j hj => by cases hj)
  have HO1 := (show Hid (w1.ownsRow w.heap.size 3 1 (.slice (some ⟨w.heap.size, 0, none⟩) l.length l.length) l.length _) from hO1)
  have hZ := hO1.1
  clear hO1 hG1 hi hz0 hz1 hz2
  generalize (madeCells (.int .i64 0 : Value).cells (l.length * 1)).toList = Z at *
  go_loopw [13] (fun s13 wr => ∃ k : Nat, k ≤ l.length ∧ s13 = .int .i64 k ∧ wr.ownsRow w.heap.size 3 1 (.slice (some ⟨w.heap.size, 0, none⟩) l.length l.length) l.length (icells ((l.take (k)).map (fun k : ByteArray => ((5 + k.size : Nat) : Int))) ++ Z.drop (k * 1)) ∧ Below w.heap.size w wr) (fun s13 _ => l.length - (intOf s13).toNat)
  case atStart => exact ⟨0, by omega, rfl, by simpa [icells] using HO1.out, HB1.out⟩
  case round =>
    obtain ⟨k, hk, rfl, hO, hB⟩ := hrel
    have HB : Hid (Below w.heap.size w wr) := hB
    have HO := (show Hid (wr.ownsRow w.heap.size 3 1 _ l.length (icells ((l.take (k)).map (fun k : ByteArray => ((5 + k.size : Nat) : Int))) ++ Z.drop (k * 1))) from hO)
    have hsz := hB.size
    clear hO hB HO1 HB1
    by_cases hlt : k < l.length
    · obtain ⟨b, off, rfl, hb, hc⟩ := HA.out.keyAt (by omega)
      have hc0 := (HB.out.cell (p := ⟨b, off + k, none⟩) hb).trans (hc k hlt)
      clear hc
      have i0 : decide ((k : Int) < (l.length : Int)) = true := by simp; omega
      have i1 : (k : Int) < (l.length : Int) := by omega
      have j0 : (0 : Int) ≤ (k : Int) := Int.natCast_nonneg _
      have hx := hf (l.getD k ByteArray.empty) (Sl.getD_mem l k ByteArray.empty hlt)
      have HTK : Is (icells ((l.take (k + 1)).map (fun k : ByteArray => ((5 + k.size : Nat) : Int)))) (icells ((l.take (k)).map (fun k : ByteArray => ((5 + k.size : Nat) : Int))) ++ icells [(fun k : ByteArray => ((5 + k.size : Nat) : Int)) (l.getD k ByteArray.empty)]) := ⟨by rw [Sl.take_map _ l k ByteArray.empty hlt, icells_append]⟩
      generalize l.getD k ByteArray.empty = x at *
      have HC := fun W => keySize_any x W hx
      go_wp2_with fail
      refine (HC _).mono ?_
      rintro e w' ⟨rfl, hw2⟩
      rw [hw2]
      clear hw2 w'
      have HB2 : Hid (Below w.heap.size w wr) := HB.out
      have HO2 := (show Hid (wr.ownsRow w.heap.size 3 1 (.slice (some ⟨w.heap.size, 0, none⟩) l.length l.length) l.length (icells ((l.take (k)).map (fun k : ByteArray => ((5 + k.size : Nat) : Int))) ++ Z.drop (k * 1))) from HO.out)
      obtain ⟨u0, t0⟩ := own_there HO2.out k (by rw [List.length_append, icells_length, List.length_map, List.length_take, List.length_drop]; omega)
      have z0 := own_frozen HO2.out k
      have HFN : ∃ k' : Nat, k' ≤ l.length ∧ Value.int .i64 ((k : Int) + 1) = .int .i64 k' ∧ (wr.setCell ⟨w.heap.size, k, none⟩ (.int .i64 ((5 + x.size : Nat) : Int))).ownsRow w.heap.size 3 1 (.slice (some ⟨w.heap.size, 0, none⟩) l.length l.length) l.length (icells ((l.take (k')).map (fun k : ByteArray => ((5 + k.size : Nat) : Int))) ++ Z.drop (k' * 1)) ∧ Below w.heap.size w (wr.setCell ⟨w.heap.size, k, none⟩ (.int .i64 ((5 + x.size : Nat) : Int))) := ⟨k + 1, by omega, by go_num, by
        have h5 := own_set HO2.out k (.int .i64 ((5 + x.size : Nat) : Int))
        rw [Nat.mul_one] at h5
        rw [set_one _ _ k (by rw [icells_length, List.length_map, List.length_take]; omega) (by omega)] at h5
        rw [HTK.eq, Nat.mul_one]
        exact h5, HB2.out.setCell (Nat.le_refl _) _⟩
      clear HC HO HO2 HTK HB HB2
      go_wp2_with fail
      go_roundw
      case rel => first | exact HFN | ((repeat apply Exists.intro); exact ⟨HFN, rfl⟩)
      case measure => (simp [intOf]) <;> omega
    · have hkl : ¬ (k : Int) < (l.length : Int) := by omega
      have HFN := (show Hid (wr.ownsRow w.heap.size 3 1 (.slice (some ⟨w.heap.size, 0, none⟩) l.length l.length) l.length (icells (l.map (fun k : ByteArray => ((5 + k.size : Nat) : Int))))) from by
        have h5 := HO.out
        rw [List.take_of_length_le (by omega), List.drop_of_length_le (by omega), List.append_nil] at h5
        exact h5)
      go_wp2
      go_ret
      exact ⟨_, rfl, HFN.out, HB.out⟩
end Go.Proofs.Ytoinaplmgffkpaa
