/- Proved: plain arithmetic of the 64 digits of base 16. No program is named. -/
import Derived.Test.YtefpaebbendnmaaDoorKMathH
namespace Bl
def digs : List Nat := [48, 49, 50, 51, 52, 53, 54, 55, 56, 57, 97, 98, 99, 100, 101, 102]
def dig (n : Nat) : Nat := digs.getD n 0
theorem dig_lt : ∀ n, n < 16 → dig n < 256 := by decide
def hexAt (d : List Nat) (i : Nat) : Nat := if i % 2 = 0 then dig (d.getD (i / 2) 0 / 16) else dig (d.getD (i / 2) 0 % 16)
def hex (d : List Nat) : List Nat := (List.range 64).map (hexAt d)
theorem hex_at (d : List Nat) (i : Nat) (hi : i < 64) : (hex d).getD i 0 = hexAt d i := by
  unfold hex
  rw [List.getD_eq_getElem?_getD, List.getElem?_map, List.getElem?_range hi, Option.map_some, Option.getD_some]
theorem hex_bytes {d : List Nat} (h : Bytes8 32 d) : Bytes8 64 (hex d) := by
  refine ⟨by simp [hex], fun x hx => ?_⟩
  obtain ⟨i, _, rfl⟩ := List.mem_map.1 hx
  have h1 := h.at (i / 2)
  unfold hexAt
  split
  · exact dig_lt _ (by omega)
  · exact dig_lt _ (by omega)
theorem hex_even (d : List Nat) (k : Nat) (hk : k < 32) : (hex d).getD (2 * k) 0 = dig (d.getD k 0 / 16) := by
  rw [hex_at d _ (by omega)]; unfold hexAt
  rw [if_pos (by omega), show 2 * k / 2 = k by omega]
theorem hex_odd (d : List Nat) (k : Nat) (hk : k < 32) : (hex d).getD (2 * k + 1) 0 = dig (d.getD k 0 % 16) := by
  rw [hex_at d _ (by omega)]; unfold hexAt
  rw [if_neg (by omega), show (2 * k + 1) / 2 = k by omega]
def toBytes (l : List Nat) : ByteArray := ⟨(l.map UInt8.ofNat).toArray⟩
end Bl
