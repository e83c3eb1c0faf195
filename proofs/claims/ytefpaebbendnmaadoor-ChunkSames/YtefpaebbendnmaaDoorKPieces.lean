/- Proved: the walk of the law BlakePieces answers true for any bytes and any cuts. Condition: the two tables. -/
import Derived.Test.YtefpaebbendnmaaDoorKSame
namespace Go.Proofs.YtefpaebbendnmaaDoor.BK
open Go.RowKit
/- What a walk knows of a slice of ints. -/
def Ints (w : World) (a : Option Addr) (len : Nat) (zs : List Int) : Prop :=
  zs.length = len ∧ (∀ z ∈ zs, -9223372036854775808 ≤ z ∧ z ≤ 9223372036854775807) ∧ len ≤ 9223372036854775807 ∧ (len = 0 ∨ ∃ b off, a = some ⟨b, off, none⟩ ∧ ∀ i, i < len → w.cell? ⟨b, off + i, none⟩ = some (.int .i64 (zs.getD i 0)))
theorem Mine.part {w : World} {N g len cap : Nat} {bs : List Nat} (h : Mine w N (some ⟨g, 0, none⟩) len cap bs) (hm : len ≤ 9223372036854775807) (i n : Nat) (hi : i + n ≤ len) : Bytes w (some ⟨g, i, none⟩) n ((bs.drop i).take n) := by
  have hl := h.length
  obtain ⟨h0, h1, h2, h3⟩ := h.bytes hm
  refine ⟨by simp; omega, fun x hx => h1 x (List.mem_of_mem_drop (List.mem_of_mem_take hx)), by omega, ?_⟩
  rcases h3 with h3 | ⟨b, off, ha, hc⟩
  · exact .inl (by omega)
  · cases ha
    refine .inr ⟨g, i, rfl, fun j hj => ?_⟩
    have := hc (i + j) (by omega)
    rw [Nat.zero_add] at this
    rw [this, List.getD_eq_getElem?_getD, List.getD_eq_getElem?_getD, List.getElem?_take_of_lt hj, List.getElem?_drop]
/- how a cut is brought into its range -/
theorem cut_in (z : Int) (d : Nat) : ∃ (t : Int) (n : Nat), z.tmod ((d : Int) + 1) = t ∧ -(d : Int) ≤ t ∧ t ≤ d ∧ (t + d + 1).tmod ((d : Int) + 1) = (n : Int) ∧ (t + d + 1) % ((d : Int) + 1) = (n : Int) ∧ n ≤ d := by
  have h1 := Int.tmod_lt_of_pos z (show (0 : Int) < (d : Int) + 1 by omega)
  have h2 : -((d : Int) + 1) < z.tmod ((d : Int) + 1) := by
    have := Int.lt_tmod_of_pos z (show (0 : Int) < (d : Int) + 1 by omega)
    omega
  have e : (z.tmod ((d : Int) + 1) + d + 1).tmod ((d : Int) + 1) = (z.tmod ((d : Int) + 1) + d + 1) % ((d : Int) + 1) := Int.tmod_eq_emod_of_nonneg (by omega)
  have h3 := Int.emod_nonneg (z.tmod ((d : Int) + 1) + d + 1) (show (d : Int) + 1 ≠ 0 by omega)
  have h4 := Int.emod_lt_of_pos (z.tmod ((d : Int) + 1) + d + 1) (show (0 : Int) < (d : Int) + 1 by omega)
  obtain ⟨n, hn⟩ := Int.eq_ofNat_of_zero_le h3
  exact ⟨_, n, rfl, by omega, by omega, e.trans hn, hn, by omega⟩
/- how a place is brought into its range -/
theorem place_in (z : Int) (d : Nat) (hd : 0 < d) : ∃ (t : Int) (n : Nat), z.tmod (d : Int) = t ∧ -(d : Int) < t ∧ t < d ∧ (t + d).tmod (d : Int) = (n : Int) ∧ (t + d) % (d : Int) = (n : Int) ∧ n < d := by
  have h1 := Int.tmod_lt_of_pos z (show (0 : Int) < (d : Int) by omega)
  have h2 := Int.lt_tmod_of_pos z (show (0 : Int) < (d : Int) by omega)
  have e : (z.tmod (d : Int) + d).tmod (d : Int) = (z.tmod (d : Int) + d) % (d : Int) := Int.tmod_eq_emod_of_nonneg (by omega)
  have h3 := Int.emod_nonneg (z.tmod (d : Int) + d) (show (d : Int) ≠ 0 by omega)
  have h4 := Int.emod_lt_of_pos (z.tmod (d : Int) + d) (show (0 : Int) < (d : Int) by omega)
  obtain ⟨n, hn⟩ := Int.eq_ofNat_of_zero_le h3
  exact ⟨_, n, rfl, by omega, by omega, e.trans hn, hn, by omega⟩
theorem Mine.at {w : World} {N g len cap : Nat} {bs : List Nat} (h : Mine w N (some ⟨g, 0, none⟩) len cap bs) (i : Nat) (hi : i < len) : w.cell? ⟨g, i, none⟩ = some (.int .u8 (bs.getD i 0 : Nat)) ∧ w.frozen? ⟨g, i, none⟩ = false ∧ N ≤ g := by
  have hl := h.length
  obtain ⟨⟨_, h1⟩, h2, _⟩ := h
  rcases h1 with ⟨hv, h0⟩ | ⟨g', cap', cur, hv, hN, hh, hc, _, hsz, ht⟩
  · cases hv
  · cases hv
    refine ⟨?_, frozen_of_row w g i cur 5 hh, hN⟩
    rw [cell_of_row w g i cur 5 (0, 0) hh]
    have e : (cur.toList.take (len * 1))[i]? = (bs.map V8)[i]? := by rw [ht]
    rw [Nat.mul_one, List.getElem?_take_of_lt hi, List.getElem?_map, Array.getElem?_toList] at e
    rw [e, List.getElem?_eq_getElem (by omega), List.getD_eq_getElem?_getD, List.getElem?_eq_getElem (by omega)]; rfl
theorem Mine.keep {w w' : World} {N g g' len cap : Nat} {bs : List Nat} (h : Mine w N (some ⟨g', 0, none⟩) len cap bs) (hK : Keep g w w') (hne : g' ≠ g) : Mine w' N (some ⟨g', 0, none⟩) len cap bs := by
  obtain ⟨⟨h0, h1⟩, h2, h3⟩ := h
  refine ⟨⟨h0, ?_⟩, h2, h3⟩
  rcases h1 with h1 | ⟨x, cap', cur, hv, hN, hh, r⟩
  · exact .inl h1
  · cases hv
    exact .inr ⟨g', cap, cur, rfl, hN, (hK.block g' (Array.getElem?_eq_some_iff.1 hh).1 hne).trans hh, r⟩
theorem Mine.lt {w : World} {N g' len cap : Nat} {bs : List Nat} (h : Mine w N (some ⟨g', 0, none⟩) len cap bs) : g' < w.heap.size := by
  obtain ⟨⟨h0, h1⟩, h2, h3⟩ := h
  rcases h1 with ⟨hv, _⟩ | ⟨x, cap', cur, hv, hN, hh, r⟩
  · cases hv
  · cases hv
    exact (Array.getElem?_eq_some_iff.1 hh).1
end Go.Proofs.YtefpaebbendnmaaDoor.BK
