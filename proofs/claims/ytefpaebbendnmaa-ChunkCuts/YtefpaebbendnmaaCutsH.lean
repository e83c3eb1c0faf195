/- Proved: how the law ChunkCuts looks at what comes in. -/
import Derived.Test.YtefpaebbendnmaaWrites
import Derived.Test.YtefpaebbendnmaaRJn
import Derived.Deep.RegionHeld3
namespace Go.Proofs.Ytefpaebbendnmaa
open Go.RowKit
open Ck (T chunks)
def few2 (l : List T) (k : Nat) : List T := (l.take k).map fun t => t.take 70
theorem few2_length (l : List T) (k : Nat) : (few2 l k).length = min k l.length := by simp [few2]
theorem few2_next {l : List T} {k : Nat} {t : T} (h : l[k]? = some t) : few2 l (k + 1) = few2 l k ++ [t.take 70] := by
  obtain ⟨h1, h2⟩ := List.getElem?_eq_some_iff.1 h
  unfold few2
  rw [List.take_succ_eq_append_getElem h1, h2, List.map_append]
  rfl
theorem few2_short (l : List T) (k : Nat) : ∀ x ∈ few2 l k, x.length ≤ 1000000 := fun x hx => by
  unfold few2 at hx
  obtain ⟨t, _, rfl⟩ := List.mem_map.1 hx
  rw [List.length_take]; omega
theorem few2_all {l : List T} {k : Nat} (h : l.length ≤ k) (hk : k ≤ 70) : few2 l 70 = few2 l k := by
  unfold few2
  rw [List.take_of_length_le (by omega), List.take_of_length_le h]
theorem cut70 (t : T) : (mk t).extract 0 (min ((mk t).size : Int) 70).toNat = mk (t.take 70) := by
  rw [mk_ext, ext_take, mk_size]
  by_cases h : t.length ≤ 70
  · rw [show (min (t.length : Int) 70).toNat = t.length by omega, List.take_length, List.take_of_length_le h]
  · rw [show (min (t.length : Int) 70).toNat = 70 by omega]
theorem str_new (W : World) (t : ByteArray) : ∀ j u, [Value.string t][j]? = some u → (W.alloc (.cells #[.string t] 9)).cell? ((⟨W.heap.size, 0, none⟩ : Addr).add j) = some u := one_new W (.string t) 9
theorem step_append_str {ops : Array Oper} {o : Oper} {a : Act} {w : World} {K : Act → World → Prop} {Q : Exit → Act → World → Prop} {E : Prop} (hgd : o.guard = none) (s x : Operand)
    (ho : o.op = .call { callee := .builtin .append, args := #[s, x], argTypes := #[22, 22] }) (N : Nat) (v : Value) (rs : List T) (t : T) (hs : a.eval s = v) (hown : OwnT w N v rs)
    (ad : Addr) (c : Nat) (hx : a.eval x = .slice (some ad) 1 c) (hnews : ∀ j u, [tv t][j]? = some u → w.cell? (ad.add j) = some u) (hb : rs.length ≤ 1000000) (hN : N ≤ w.heap.size)
    (h : ∀ v' w', OwnT w' N v' (rs ++ [t]) → Below N w w' → K (a.put o.dst v') w') :
    if Region.wanted o (yielded ops a.tmps) = true then Oper.wp Try.prog o a w K Q else E := by
  have hw : Region.wanted o (yielded ops a.tmps) = true := by simp [Region.wanted, hgd]
  rw [if_pos hw]
  exact opw_str s x o.dst rfl ho N v rs t hs hown ad c hx hnews hb hN h
theorem one_cell_new {W : World} {a : Addr} {v : Value} (h : W.cell? a = some v) (hb : a.block < W.heap.size) (o : Obj) : (W.alloc o).cell? a = some v := (((Below.refl _ W).alloc (Nat.le_refl _) o).cell hb).trans h
theorem one_cell_below {N : Nat} {A B : World} {a : Addr} {v : Value} (h : A.cell? a = some v) (hb : a.block < N) (hB : Below N A B) : B.cell? a = some v := (hB.cell hb).trans h
end Go.Proofs.Ytefpaebbendnmaa
