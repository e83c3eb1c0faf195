/- Proved: the chapter's example holds (the law's helper works answers true). Condition: the two tables. -/
import Derived.Test.YtefpaebbendnmaaDoorKHex
import Derived.Test.YtefpaebbendnmaaDoorKMathE
import Derived.Lib.SlBytesConst
namespace Go.Proofs.YtefpaebbendnmaaDoor.BK
open Go.RowKit
theorem Bytes.new (w : World) (cs : Array Value) (fr : Nat × Nat) (bs : List Nat) (h : cs = (bs.map fun n => Value.int .u8 (n : Nat)).toArray) (hb : ∀ x ∈ bs, x < 256) (hl : bs.length ≤ 9223372036854775807) : Bytes (w.alloc (.cells cs 5 fr)) (some ⟨w.heap.size, 0, none⟩) bs.length bs := by
  subst h
  refine ⟨rfl, hb, hl, .inr ⟨_, _, rfl, fun i hi => ?_⟩⟩
  rw [cell_of_row _ _ _ _ 5 fr (heap_alloc_new w _)]
  simp [hi]
theorem Bytes.nil (w : World) (a : Option Addr) : Bytes w a 0 [] := ⟨rfl, (fun x hx => by cases hx), by omega, .inl rfl⟩
theorem Tab.alloc {w : World} (hT : Tab w) (h0 : 3 < w.heap.size) (o : Obj) : Tab (w.alloc o) := hT.below h0 ((Below.refl _ _).alloc (Nat.le_refl _) o)
theorem ex_str : Bl.toBytes (Bl.hex (Bl.digest [97, 98, 99])) = ⟨#[53, 48, 56, 99, 53, 101, 56, 99, 51, 50, 55, 99, 49, 52, 101, 50, 101, 49, 97, 55, 50, 98, 97, 51, 52, 101, 101, 98, 52, 53, 50, 102, 51, 55, 52, 53, 56, 98, 50, 48, 57, 101, 100, 54, 51, 97, 50, 57, 52, 100, 57, 57, 57, 98, 52, 99, 56, 54, 54, 55, 53, 57, 56, 50]⟩ := by
  rw [Bl.ex]; rfl
end Go.Proofs.YtefpaebbendnmaaDoor.BK
