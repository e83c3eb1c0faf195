/- Proved: an array of 32 bytes is equal to itself. -/
import Derived.Test.YtefpaebbendnmaaDoorKFew
import Derived.Test.YtefpaebbendnmaaDoorKWorks
import Derived.ChangeKeysEq
namespace Go.Proofs.YtefpaebbendnmaaDoor.BK
open Go.RowKit
theorem items_same (d : Nat) (D : List Nat) (w : World) : ∀ is : List Nat, (∀ i ∈ is, i < D.length) → (Op.eqItems (d + 1) 5 1 (arr8 D) (arr8 D) is).run Tryd.prog w = .ok true w
  | [], _ => by simp [Op.eqItems]
  | i :: is, h => by
    have hi := arr8_at D i (h i (by simp))
    have hp : (part 5 (arr8 D) (i * 1)).run Tryd.prog w = .ok (.int .u8 (D.getD i 0 : Nat)) w := run_part_plain w (by kernel_rfl) (by rw [Nat.mul_one]; exact hi)
    have he : (Op.equalIn (d + 1) 5 (.int .u8 (D.getD i 0 : Nat)) (.int .u8 (D.getD i 0 : Nat))).run Tryd.prog w = .ok true w := by
      rw [run_equalIn_int w d 5 .u8 .u8 _ _ Tryd.underlying5]; simp
    have ih := items_same d D w is (fun j hj => h j (by simp [hj]))
    unfold Op.eqItems
    simp only [Sem.run_bind, hp, he, Result.andThen_ok]
    simp [ih]
theorem same32 (D : List Nat) (h : D.length = 32) (W : World) : (Op.equalIn 10000 23 (.agg (arr8 D)) (.agg (arr8 D))).run Tryd.prog W = .ok true W := by
  rw [run_equalIn_array (P := Tryd.prog) (i := Tryd.t5) W 9999 (arr8 D) (arr8 D) Tryd.underlying23 info5]
  exact items_same 9998 D W _ (fun i hi => by rw [h]; exact List.mem_range.1 hi)
end Go.Proofs.YtefpaebbendnmaaDoor.BK
