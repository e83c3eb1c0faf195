/- Proved: a state is made anew by allocating, writing, freeing and setting roots (stage 10; mathematics). -/
import Derived.Test.YtcfninpokngmlaaGreatDoorJ21
namespace Pd
def fil (o : Option Sheet) : Option Sheet := some (o.getD page1)
def T1 (j : Nat) : Ab := ⟨some page00 :: List.replicate j (some page1), [], 0, 0, 0, 0⟩
def T2 (S : Ab) (j : Nat) : Ab := ⟨(S.pgs.take j).map fil ++ List.replicate (S.pgs.length - j) (some page1), [], 0, 0, 0, 0⟩
def sets : List Nat → List (Option Sheet) → List (Option Sheet)
  | [], l => l
  | i :: is, l => sets is (l.set i none)
def T3 (S : Ab) (k : Nat) : Ab := ⟨sets (S.freed.take k) (S.pgs.map fil), S.freed.take k, 0, 0, 0, 0⟩
def T4 (S : Ab) (k : Nat) : Ab := ⟨S.pgs, S.freed, if 0 < k then S.r0 else 0, if 1 < k then S.r1 else 0, if 2 < k then S.r2 else 0, if 3 < k then S.r3 else 0⟩
theorem sets_at (i : Nat) : ∀ (is : List Nat) (l : List (Option Sheet)), (sets is l)[i]? = if i ∈ is ∧ i < l.length then some none else l[i]?
  | [], l => by simp [sets]
  | a :: is, l => by
    show (sets is (l.set a none))[i]? = _
    rw [sets_at i is (l.set a none), List.length_set, List.getElem?_set]
    by_cases h1 : i ∈ is ∧ i < l.length
    · rw [if_pos h1, if_pos ⟨List.mem_cons_of_mem _ h1.1, h1.2⟩]
    · rw [if_neg h1]
      by_cases h2 : a = i
      · subst h2
        rw [if_pos rfl]
        by_cases h3 : a < l.length
        · rw [if_pos h3, if_pos ⟨List.mem_cons_self, h3⟩]
        · rw [if_neg h3, if_neg (fun h => h3 h.2), List.getElem?_eq_none (by omega)]
      · rw [if_neg h2, if_neg]
        rintro ⟨h3, h4⟩
        rcases List.mem_cons.1 h3 with e | e
        · exact h2 e.symm
        · exact h1 ⟨e, h4⟩
theorem sets_length : ∀ (is : List Nat) (l : List (Option Sheet)), (sets is l).length = l.length
  | [], _ => rfl
  | a :: is, l => by
    show (sets is (l.set a none)).length = _
    rw [sets_length is, List.length_set]
theorem sets_snoc (i : Nat) : ∀ (is : List Nat) (l : List (Option Sheet)), sets (is ++ [i]) l = (sets is l).set i none
  | [], _ => rfl
  | a :: is, l => sets_snoc i is (l.set a none)
theorem sh_at {T : Ab} {i : Nat} {x : Sheet} (h1 : 1 ≤ i) (h : T.pgs[i]? = some (some x)) : T.sh i = x := by
  unfold Ab.sh
  rw [if_neg (by omega), h]
theorem T12 {S : Ab} {cnt : Nat} (h : S.Ok cnt) : T1 (S.pgs.length - 1) = T2 S 1 := by
  have hone := h.one
  unfold T1 T2
  cases hz : S.pgs with
  | nil => rw [hz] at hone; cases hone
  | cons a l =>
    rw [hz] at hone
    cases hone
    rfl
theorem T23 (S : Ab) : T2 S S.pgs.length = T3 S 0 := by
  unfold T2 T3
  rw [List.take_length, Nat.sub_self]
  simp [sets]
theorem T34 {S : Ab} {cnt : Nat} (h : S.Ok cnt) : T3 S S.freed.length = T4 S 0 := by
  unfold T3 T4
  rw [List.take_length]
  have : sets S.freed (S.pgs.map fil) = S.pgs := by
    apply List.ext_getElem?
    intro i
    rw [sets_at, List.length_map, List.getElem?_map]
    by_cases h1 : i ∈ S.freed ∧ i < S.pgs.length
    · rw [if_pos h1, (h.mem i).1 h1.1]
    · rw [if_neg h1]
      cases e : S.pgs[i]? with
      | none => rfl
      | some o =>
        cases o with
        | none => exact absurd ⟨(h.mem i).2 e, (List.getElem?_eq_some_iff.1 e).1⟩ h1
        | some x => rfl
  rw [this]
  rfl
theorem T4_end (S : Ab) : T4 S 4 = S := rfl
end Pd
namespace Go.Proofs.YtcfninpokngmlaaGreatDoor
open Go.RowKit
theorem wh1 {cnt j : Nat} (h : j + 1 < cnt) : alA (Pd.T1 j) cnt = Pd.T1 (j + 1) := by
  have hl : (Pd.T1 j).pgs.length = j + 1 := by simp [Pd.T1]
  have hR : alR (Pd.T1 j) cnt = 0 := by
    unfold alR
    rw [if_neg]
    rintro ⟨_, h2⟩
    omega
  unfold alA
  rw [if_pos hR]
  unfold Pd.Ab.alloc
  rw [if_pos (show (Pd.T1 j).freed = [] from rfl)]
  unfold Pd.T1
  rw [List.replicate_succ']
  rfl
theorem there_at {T : Pd.Ab} {j : Nat} {x : Pd.Sheet} (h1 : 1 ≤ j) (h : T.pgs[j]? = some (some x)) (hx : x.kind ≠ 255) : (thereR T.pgs.length (j : Int) (T.sh ((j : Int)).toNat)).2 = 0 := by
  have hl := (List.getElem?_eq_some_iff.1 h).1
  rw [Int.toNat_natCast, Pd.sh_at h1 h]
  unfold thereR
  rw [if_neg (by omega), if_neg hx]
theorem wr_at {T : Pd.Ab} {j k : Nat} {x : Pd.Sheet} {b : ByteArray} (h1 : 1 ≤ j) (h : T.pgs[j]? = some (some x)) (hx : x.kind ≠ 255) (hk : 1 ≤ k ∧ k ≤ 254) (hb : b.size ≤ 500) : wrA T (j : Int) (k : Int) b = T.write j ⟨k, b⟩ := by
  have hR : wrR T (j : Int) (k : Int) b = 0 := by
    have h0 := there_at h1 h hx
    unfold wrR writeR
    rw [h0]
    rw [if_neg (by decide), if_neg (by omega), if_neg (by omega)]
  unfold wrA
  rw [if_pos hR, Int.toNat_natCast, Int.toNat_natCast]
theorem wh2 {S : Pd.Ab} {cnt j : Nat} {o : Option Pd.Sheet} {k : Nat} {b : ByteArray} {f : Bool} (h : S.Ok cnt) (h1 : 1 ≤ j) (ho : S.pgs[j]? = some o) (hc : pgC o = [.int .i64 (k : Int), .string b, .bool f]) : wrA (Pd.T2 S j) (j : Int) ((max 1 k : Nat) : Int) b = Pd.T2 S (j + 1) := by
  have hl := (List.getElem?_eq_some_iff.1 ho).1
  have hlt : ((S.pgs.take j).map Pd.fil).length = j := by rw [List.length_map, List.length_take]; omega
  have hat : (Pd.T2 S j).pgs[j]? = some (some Pd.page1) := by
    show ((S.pgs.take j).map Pd.fil ++ List.replicate (S.pgs.length - j) (some Pd.page1))[j]? = _
    rw [List.getElem?_append_right (by omega), hlt, Nat.sub_self, List.getElem?_replicate, if_pos (by omega)]
  have hx : ∃ x : Pd.Sheet, Pd.fil o = some x ∧ x = ⟨max 1 k, b⟩ ∧ x.kind ≤ 254 ∧ x.body.size ≤ 500 := by
    cases o with
    | none =>
      simp [pgC] at hc
      obtain ⟨e1, e2, _⟩ := hc
      have e1 : k = 0 := by omega
      subst e1
      subst e2
      exact ⟨Pd.page1, rfl, rfl, by decide, by decide⟩
    | some x =>
      simp [pgC] at hc
      obtain ⟨e1, e2, _⟩ := hc
      have hf := h.fine j x h1 ho
      have := hf.1.k0
      have e1 : k = x.kind := by omega
      subst e1
      subst e2
      refine ⟨x, rfl, ?_, hf.2, hf.1.b⟩
      rw [Nat.max_eq_right this]
  obtain ⟨x, e1, e2, e3, e4⟩ := hx
  have hk : max 1 k ≤ 254 := by rw [e2] at e3; exact e3
  have hb : b.size ≤ 500 := by rw [e2] at e4; exact e4
  rw [wr_at h1 hat (by decide) ⟨Nat.le_max_left _ _, hk⟩ hb, ← e2]
  unfold Pd.Ab.write
  show (⟨((S.pgs.take j).map Pd.fil ++ List.replicate (S.pgs.length - j) (some Pd.page1)).set j (some x), [], 0, 0, 0, 0⟩ : Pd.Ab) = Pd.T2 S (j + 1)
  unfold Pd.T2
  congr 1
  apply List.ext_getElem?
  intro i
  have hln : ((S.pgs.take j).map Pd.fil ++ List.replicate (S.pgs.length - j) (some Pd.page1)).length = S.pgs.length := by rw [List.length_append, hlt, List.length_replicate]; omega
  rw [List.getElem?_set, hln]
  by_cases hij : j = i
  · subst hij
    rw [if_pos rfl, if_pos hl, List.getElem?_append_left (by rw [List.length_map, List.length_take]; omega), List.getElem?_map, List.getElem?_take_of_lt (by omega), ho]
    show some (some x) = some (Pd.fil o)
    rw [e1]
  · rw [if_neg hij]
    by_cases hi : i < j
    · rw [List.getElem?_append_left (by omega), List.getElem?_append_left (by rw [List.length_map, List.length_take]; omega), List.getElem?_map, List.getElem?_map, List.getElem?_take_of_lt hi, List.getElem?_take_of_lt (by omega)]
    · rw [List.getElem?_append_right (by omega), List.getElem?_append_right (by rw [List.length_map, List.length_take]; omega), List.getElem?_replicate, List.getElem?_replicate]
      rw [hlt, List.length_map, List.length_take]
      by_cases hh : i < S.pgs.length
      · rw [if_pos (by omega), if_pos (by omega)]
      · rw [if_neg (by omega), if_neg (by omega)]
theorem wh3 {S : Pd.Ab} {cnt k i : Nat} (h : S.Ok cnt) (hi : S.freed[k]? = some i) : frA (Pd.T3 S k) (i : Int) = Pd.T3 S (k + 1) := by
  obtain ⟨hk, hk2⟩ := List.getElem?_eq_some_iff.1 hi
  have hm : i ∈ S.freed := List.mem_of_getElem? hi
  have hf := h.flt hm
  have hnot : i ∉ S.freed.take k := by
    intro hh
    have hnd := h.nodup
    rw [← List.take_append_drop k S.freed, List.nodup_append] at hnd
    refine hnd.2.2 i hh i ?_ rfl
    rw [List.drop_eq_getElem_cons hk, hk2]
    exact List.mem_cons_self
  have hat : (Pd.T3 S k).pgs[i]? = some (some Pd.page1) := by
    show (Pd.sets (S.freed.take k) (S.pgs.map Pd.fil))[i]? = _
    rw [Pd.sets_at, if_neg (fun hh => hnot hh.1), List.getElem?_map, (h.mem i).1 hm]
    rfl
  have hR : frR (Pd.T3 S k) (i : Int) = 0 := there_at hf.1 hat (by decide)
  unfold frA
  rw [if_pos hR, Int.toNat_natCast]
  unfold Pd.Ab.free
  show (⟨(Pd.sets (S.freed.take k) (S.pgs.map Pd.fil)).set i none, S.freed.take k ++ [i], 0, 0, 0, 0⟩ : Pd.Ab) = Pd.T3 S (k + 1)
  unfold Pd.T3
  rw [List.take_succ_eq_append_getElem hk, hk2, Pd.sets_snoc]
theorem wh4 {S : Pd.Ab} {cnt k : Nat} (h : S.Ok cnt) (hk : k < 4) (v : Nat) (hv : [S.r0, S.r1, S.r2, S.r3][k]? = some v) : srA (Pd.T4 S k) (k : Int) (v : Int) = Pd.T4 S (k + 1) := by
  have h0 := h.r0
  have h1 := h.r1
  have h2 := h.r2
  have h3 := h.r3
  have hvb : v ≤ 2147483647 := by
    rcases (by omega : k = 0 ∨ k = 1 ∨ k = 2 ∨ k = 3) with rfl | rfl | rfl | rfl <;> simp at hv <;> omega
  have hR : setrootR (k : Int) (v : Int) = 0 := by
    unfold setrootR
    rw [if_neg]
    rintro (e | e | e)
    · unfold isR at e
      rcases (by omega : k = 0 ∨ k = 1 ∨ k = 2 ∨ k = 3) with rfl | rfl | rfl | rfl <;> simp at e
    · omega
    · omega
  unfold srA
  rw [if_pos hR, Int.toNat_natCast, Int.toNat_natCast]
  rcases (by omega : k = 0 ∨ k = 1 ∨ k = 2 ∨ k = 3) with rfl | rfl | rfl | rfl <;> simp at hv <;> subst hv <;> rfl
/- the free pages of a state, in the order of their numbers -/
def isN : Option (Option Pd.Sheet) → Bool
  | some none => true
  | _ => false
theorem isN_iff (o : Option (Option Pd.Sheet)) : isN o = true ↔ o = some none := by
  rcases o with _ | _ | _ <;> simp [isN]
def frs (R : Pd.Ab) (j : Nat) : List Nat := (List.range j).filter fun i => isN R.pgs[i]?
theorem nodup_sub : ∀ (l l' : List Nat), l.Nodup → (∀ i ∈ l, i ∈ l') → l.length ≤ l'.length
  | [], _, _, _ => Nat.zero_le _
  | a :: l, l', hn, h => by
    have hn' := List.nodup_cons.1 hn
    have ha := h a List.mem_cons_self
    have ih := nodup_sub l (l'.erase a) hn'.2 (fun i hi => (List.mem_erase_of_ne (fun e => hn'.1 (by rw [← e]; exact hi))).2 (h i (List.mem_cons_of_mem _ hi)))
    rw [List.length_erase_of_mem ha] at ih
    have := List.length_pos_of_mem ha
    rw [List.length_cons]
    omega
theorem frs_length {R : Pd.Ab} {cnt : Nat} (h : R.Ok cnt) : (frs R R.pgs.length).length = R.freed.length := by
  have h1 : (frs R R.pgs.length).Nodup := List.Pairwise.filter _ List.nodup_range
  have hmem : ∀ i, i ∈ frs R R.pgs.length ↔ i ∈ R.freed := fun i => by
    unfold frs
    rw [List.mem_filter, List.mem_range, h.mem i]
    constructor
    · rintro ⟨_, h2⟩
      exact (isN_iff _).1 h2
    · intro h2
      exact ⟨(List.getElem?_eq_some_iff.1 h2).1, (isN_iff _).2 h2⟩
  have a1 := nodup_sub _ _ h1 (fun i hi => (hmem i).1 hi)
  have a2 := nodup_sub _ _ h.nodup (fun i hi => (hmem i).2 hi)
  omega
theorem frs_next {R : Pd.Ab} {j : Nat} {o : Option Pd.Sheet} (ho : R.pgs[j]? = some o) : frs R (j + 1) = if o = none then frs R j ++ [j] else frs R j := by
  unfold frs
  rw [List.range_succ, List.filter_append]
  by_cases e : o = none
  · subst e
    rw [if_pos rfl, List.filter_cons_of_pos (p := fun i => isN R.pgs[i]?) ((isN_iff _).2 ho)]
    rfl
  · rw [if_neg e, List.filter_cons_of_neg (p := fun i => isN R.pgs[i]?) (fun h => e (Option.some.inj (ho.symm.trans ((isN_iff _).1 h))))]
    simp
end Go.Proofs.YtcfninpokngmlaaGreatDoor
