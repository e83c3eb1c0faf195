/- Proved: plain: what slot's Join tells, and that the parts of a node are joined as it was (stage 11). -/
import Derived.Test.YtoinaplmgffkpaaMathH
namespace Go.Proofs.Ytoinaplmgffkpaa
open Go.RowKit
open Sl (Cel Nod)
def joinN (l r : Nod) (k : ByteArray) : Nod := ⟨l.leaf, l.cells ++ r.cells, if l.leaf then [] else l.keys ++ [k] ++ r.keys, l.kids ++ r.kids⟩
def joinOk (l r : Nod) (k : ByteArray) : Bool := Sl.may l && (Sl.may r && (decide (l.leaf = r.leaf) && ((l.leaf || Sl.isKey k) && Sl.rise (Sl.keysOf (joinN l r k)))))
def joinE (l r : Nod) (k : ByteArray) : Int := if joinOk l r k then 0 else 2
def joinR (l r : Nod) (k : ByteArray) : Nod := if joinOk l r k then joinN l r k else Sl.nod0
theorem may_of_branch {ks : List ByteArray} {ds : List Int} (h1 : ∀ k ∈ ks, Sl.isKey k = true) (h2 : ks.length ≤ 255) (h3 : Sl.rise ks = true) (h4 : ds.length = ks.length + 1) (h5 : ∀ d ∈ ds, Sl.isPage d = true) : Sl.may ⟨false, [], ks, ds⟩ = true := by
  unfold Sl.may Sl.keysOf Sl.branchOk
  simp only [Bool.false_eq_true, if_false, List.length_nil, decide_true, Bool.true_and, Bool.and_eq_true, decide_eq_true_eq, List.all_eq_true]
  exact ⟨h2, h1, h3, h4, h5⟩
structure Whole (n l r : Nod) (k : ByteArray) : Prop where
  ml : Sl.may l = true
  mr : Sl.may r = true
  jo : joinOk l r k = true
  jn : joinN l r k = n
  sl : sizeN l < sizeN n
  sr : sizeN r < sizeN n
  c1 : ∀ c ∈ l.cells, Sl.lt c.key k = true
  c2 : ∀ c ∈ r.cells, Sl.lt c.key k = false
  k1 : ∀ x ∈ l.keys, Sl.lt x k = true
  k2 : ∀ x ∈ r.keys, Sl.lt k x = true
theorem sumN_pos {l : List Nat} (h : ∀ x ∈ l, 0 < x) (h0 : 0 < l.length) : 0 < sumN l := by
  cases l with
  | nil => simp at h0
  | cons a l => have := h a (by simp); unfold sumN; omega
theorem csize_pos (c : Cel) : 0 < csize c := by unfold csize; split <;> omega
theorem whole_ok {n : Nod} (h : spOk n = true) : Whole n (spL n) (spR n) (spK n) := by
  have hL : spL n = if n.leaf then ⟨true, n.cells.take (spP n), [], []⟩ else ⟨false, [], n.keys.take (spP n), n.kids.take (spP n + 1)⟩ := by unfold spL; rw [if_pos h]
  have hR : spR n = if n.leaf then ⟨true, n.cells.drop (spP n), [], []⟩ else ⟨false, [], n.keys.drop (spP n + 1), n.kids.drop (spP n + 1)⟩ := by unfold spR; rw [if_pos h]
  have hK : spK n = if n.leaf then (n.cells.getD (spP n) Sl.cel0).key else n.keys.getD (spP n) ByteArray.empty := by unfold spK; rw [if_pos h]
  rw [hL, hR, hK]
  unfold spOk at h
  rw [Bool.and_eq_true, decide_eq_true_eq] at h
  obtain ⟨hm, hp⟩ := h
  have hlt := sp_lt n hp
  unfold sizes spB at hlt
  generalize spP n = P at *
  obtain ⟨lf, cs, ks, ds⟩ := n
  cases lf with
  | true =>
    simp only [if_true, List.length_map, Nat.add_zero] at hlt hL hR hK ⊢
    have hml := may_leaf hm rfl
    simp only at hml
    obtain ⟨hc, hl, hr, rfl, rfl⟩ := hml
    obtain ⟨m1, m2⟩ := may_take hm P
    have hd := Sl.drop_more cs P Sl.cel0 hlt
    have hj : joinN ⟨true, cs.take P, [], []⟩ ⟨true, cs.drop P, [], []⟩ (cs.getD P Sl.cel0).key = ⟨true, cs, [], []⟩ := by
      unfold joinN; simp
    have hs : ∀ (l : List Cel), 0 < l.length → 0 < sumN (l.map csize) := fun l h0 => sumN_pos (fun x hx => by
      obtain ⟨c, _, rfl⟩ := List.mem_map.1 hx
      exact csize_pos c) (by rw [List.length_map]; exact h0)
    have hsum : sumN (cs.map csize) = sumN ((cs.take P).map csize) + sumN ((cs.drop P).map csize) := by rw [← sumN_map_append, List.take_append_drop]
    have hs1 := hs (cs.take P) (by rw [List.length_take]; omega)
    have hs2 := hs (cs.drop P) (by rw [List.length_drop]; omega)
    have hr' := hr
    rw [← List.take_append_drop P cs, List.map_append] at hr'
    have hx := Sl.rise_cross hr'
    refine ⟨m1, m2, ?_, hj, ?_, ?_, fun c hc => hx _ (List.mem_map_of_mem hc) _ (by rw [hd]; simp), fun c hc => ?_, fun x hx => (by cases hx), fun x hx => (by cases hx)⟩
    · unfold joinOk
      rw [m1, m2, hj]
      unfold Sl.keysOf
      simpa using hr
    · unfold sizeN headN
      simp only [sizes_leaf, if_true]
      omega
    · unfold sizeN headN
      simp only [sizes_leaf, if_true]
      omega
    · rw [hd] at hc
      rcases List.mem_cons.1 hc with rfl | hc
      · exact Sl.lt_irrefl _
      · have h9 := Sl.rise_right hr'
        rw [hd, List.map_cons] at h9
        exact Sl.lt_asymm (Sl.rise_head h9 _ (List.mem_map_of_mem hc))
  | false =>
    simp only [Bool.false_eq_true, if_false, List.length_map] at hlt hL hR hK ⊢
    have hml := may_branch hm rfl
    simp only at hml
    obtain ⟨hc, hl, hr, rfl, hkd, hpg⟩ := hml
    have hP : P < ks.length := by omega
    have hd := Sl.drop_more ks P ByteArray.empty hP
    have hks : ks = ks.take P ++ ks.getD P ByteArray.empty :: ks.drop (P + 1) := by rw [← hd, List.take_append_drop]
    have hr' := hr
    rw [hks] at hr'
    have m1 : Sl.may ⟨false, [], ks.take P, ds.take (P + 1)⟩ = true := may_of_branch (fun k hk => hc k (List.mem_of_mem_take hk)) (by rw [List.length_take]; omega) (Sl.rise_left hr') (by rw [List.length_take, List.length_take]; omega) (fun d hd => hpg d (List.mem_of_mem_take hd))
    have m2 : Sl.may ⟨false, [], ks.drop (P + 1), ds.drop (P + 1)⟩ = true := may_of_branch (fun k hk => hc k (List.mem_of_mem_drop hk)) (by rw [List.length_drop]; omega) (Sl.rise_tail (Sl.rise_right hr')) (by rw [List.length_drop, List.length_drop]; omega) (fun d hd => hpg d (List.mem_of_mem_drop hd))
    have hj : joinN ⟨false, [], ks.take P, ds.take (P + 1)⟩ ⟨false, [], ks.drop (P + 1), ds.drop (P + 1)⟩ (ks.getD P ByteArray.empty) = ⟨false, [], ks, ds⟩ := by
      unfold joinN
      simp only [Bool.false_eq_true, if_false, List.append_nil, List.take_append_drop, List.append_assoc, List.singleton_append]
      rw [← hks]
    have hik : Sl.isKey (ks.getD P ByteArray.empty) = true := hc _ (Sl.getD_mem ks P _ hP)
    have hsum : sumN (ks.map fun k => 5 + k.size) = sumN ((ks.take P).map fun k => 5 + k.size) + (5 + (ks.getD P ByteArray.empty).size + sumN ((ks.drop (P + 1)).map fun k => 5 + k.size)) := by
      conv => lhs; rw [hks]
      rw [List.map_append, sumN_append, List.map_cons]
      rfl
    have hx := Sl.rise_cross hr'
    refine ⟨m1, m2, ?_, hj, ?_, ?_, fun c hc => (by cases hc), fun c hc => (by cases hc), fun x hx' => hx x hx' _ (by simp), fun x hx' => Sl.rise_head (Sl.rise_right hr') x hx'⟩
    · unfold joinOk
      rw [m1, m2, hj, hik]
      unfold Sl.keysOf
      simpa using hr
    · unfold sizeN headN sizes
      simp only [Bool.false_eq_true, if_false]
      omega
    · unfold sizeN headN sizes
      simp only [Bool.false_eq_true, if_false]
      omega
end Go.Proofs.Ytoinaplmgffkpaa
