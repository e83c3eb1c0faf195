/- Proved: what chunk's Join answers for all lists and numbers. -/
import Derived.Test.YtefpaebbendnmaaDoorSpl
namespace Go.Proofs.YtefpaebbendnmaaDoor
open Go.RowKit
open Ck (T cnt cntZ zs pc chunks Ok jok joinE joinT)
/- so far the lengths fit -/
def OkTo (l : List T) (n k : Nat) : Prop := ∀ i t, i < k → l[i]? = some t → t.length = min 64 (n - 64 * i)
theorem okto_len {l : List T} {n : Nat} : ∀ k, k ≤ l.length → OkTo l n k → (l.take k).flatten.length = min n (64 * k)
  | 0, _, _ => by simp
  | k + 1, hk, h => by
    have ih := okto_len k (by omega) (fun i t hi ht => h i t (by omega) ht)
    have h1 := h k (l[k]'(by omega)) (by omega) (List.getElem?_eq_getElem (by omega))
    rw [List.take_succ_eq_append_getElem (by omega), List.flatten_append, List.length_append, ih]
    simp only [List.flatten_cons, List.flatten_nil, List.append_nil]
    omega
theorem joinE_yes {l : List T} {n : Nat} (h : Ok l n) (hn : n ≤ 4096) : joinE l n = 0 := by
  unfold joinE
  rw [if_neg (by omega), show (n : Int).toNat = n by omega, (Ck.jok_iff l n).2 h, if_pos rfl]
theorem joinE_no {l : List T} {n : Nat} (h : ¬ Ok l n) (hn : n ≤ 4096) : joinE l n = 5 := by
  unfold joinE
  rw [if_neg (by omega), show (n : Int).toNat = n by omega, Ck.jok_no h]
  rfl
theorem joinT_no {l : List T} {z : Int} (h : joinE l z ≠ 0) : joinT l z = [] := by unfold joinT; rw [if_neg h]
theorem joinT_yes {l : List T} {z : Int} (h : joinE l z = 0) : joinT l z = l.flatten := by unfold joinT; rw [if_pos h]
theorem splice_jn (a : T) (t : T) (n : Nat) (_h : a.length + t.length ≤ n) : splice (a ++ zs (n - a.length)) a.length t = (a ++ t) ++ zs (n - (a ++ t).length) := by
  unfold splice
  rw [List.take_left' rfl, List.drop_append, List.drop_eq_nil_of_le (by omega), List.nil_append, show a.length + t.length - a.length = t.length by omega, Ck.zs_drop, List.length_append, show n - a.length - t.length = n - (a.length + t.length) by omega]
end Go.Proofs.YtefpaebbendnmaaDoor
