/- Proved: Hex answers the 64 small digits of any 32 bytes. -/
import Derived.Test.YtefpaebbendnmaaDoorKOf
import Derived.Test.YtefpaebbendnmaaDoorKMathX
import Derived.Laws.IdiomStrings
namespace Go.Proofs.YtefpaebbendnmaaDoor.BK
open Go.RowKit
theorem digs_at : ∀ q, q < 16 → ∀ h : q < (⟨#[48, 49, 50, 51, 52, 53, 54, 55, 56, 57, 97, 98, 99, 100, 101, 102]⟩ : ByteArray).size, ((⟨#[48, 49, 50, 51, 52, 53, 54, 55, 56, 57, 97, 98, 99, 100, 101, 102]⟩ : ByteArray)[q]'h).toNat = Bl.dig q := by decide
theorem and15 (x : Nat) (h : x < 256) : bits .and .u8 (x : Int) 15 = ((x % 16 : Nat) : Int) := by
  rw [show (15 : Int) = ((15 : Nat) : Int) from rfl, u8_and_nat x 15 h (by omega), nat_mask4]
theorem bytes_str {w : World} {g t : Nat} {v : List Nat} (h : Row8 w g t v) (h8 : ∀ x ∈ v, x < 256) (cap : Nat) : (convert 28 9 (.slice (some ⟨g, 0, none⟩) v.length cap)).run Tryd.prog w = .ok (.string (Bl.toBytes v)) w := by
  have e := run_convert_bytes_back (P := Tryd.prog) w 28 9 5 ⟨g, 0, none⟩ cap (v.map UInt8.ofNat) Tryd.underlying28 Tryd.underlying5 Tryd.underlying9 (fun j hj => by
    have hj' : j < v.length := by simpa using hj
    rw [Addr.add_mid, Nat.zero_add, (h.at j hj').1, List.getElem_map]
    have h1 : v[j] < 256 := h8 _ (List.getElem_mem hj')
    rw [List.getD_eq_getElem?_getD, List.getElem?_eq_getElem hj', Option.getD_some, UInt8.toNat_ofNat', Nat.mod_eq_of_lt h1])
  rw [List.length_map] at e
  exact e
end Go.Proofs.YtefpaebbendnmaaDoor.BK
