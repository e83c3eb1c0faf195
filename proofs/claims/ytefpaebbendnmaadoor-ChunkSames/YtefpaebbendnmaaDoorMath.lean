/- Proved: plain facts of contents in chunks (stage 15). No program is named. -/
import Derived.WalkKit
namespace Ck
abbrev T := List UInt8
def cnt (n : Nat) : Nat := (n + 63) / 64
def cntZ (z : Int) : Int := if z < 1 then 0 else (z - 1) / 64 + 1
theorem cntZ_nat (n : Nat) : cntZ (n : Int) = (cnt n : Int) := by
  unfold cntZ cnt
  split <;> omega
def pc (s : T) (i : Nat) : T := (s.drop (64 * i)).take 64
theorem pc_length (s : T) (i : Nat) : (pc s i).length = min 64 (s.length - 64 * i) := by
  unfold pc
  rw [List.length_take, List.length_drop]
def chunks (s : T) : List T := (List.range (cnt s.length)).map (pc s)
theorem chunks_length (s : T) : (chunks s).length = cnt s.length := by simp [chunks]
theorem chunks_get (s : T) {i : Nat} (h : i < cnt s.length) : (chunks s)[i]? = some (pc s i) := by
  unfold chunks
  rw [List.getElem?_map, List.getElem?_range h]
  rfl
theorem chunks_nil : chunks [] = [] := rfl
theorem flat_take (s : T) : ∀ k, ((List.range k).map (pc s)).flatten = s.take (64 * k)
  | 0 => by simp
  | k + 1 => by
    rw [List.range_succ, List.map_append, List.flatten_append, flat_take s k, show 64 * (k + 1) = 64 * k + 64 by omega, List.take_add]
    simp [pc]
theorem chunks_flat (s : T) : (chunks s).flatten = s := by
  unfold chunks
  rw [flat_take, List.take_of_length_le (by unfold cnt; omega)]
/- where the i-th chunk lies -/
def bnd (z i : Int) : Int × Int := if 4096 < z ∨ i < 0 ∨ cntZ z ≤ i then (0, 0) else (64 * i, 64 * i + min 64 (z - 64 * i))
/- are these the chunks of n bytes -/
def Ok (l : List T) (n : Nat) : Prop := l.length = cnt n ∧ ∀ i t, l[i]? = some t → t.length = min 64 (n - 64 * i)
theorem chunks_ok (s : T) : Ok (chunks s) s.length := ⟨chunks_length s, fun i t h => by
  have hi := (List.getElem?_eq_some_iff.1 h).1
  rw [chunks_length] at hi
  rw [chunks_get s hi] at h
  rw [← Option.some.inj h, pc_length]⟩
theorem ok_pref {l : List T} {n : Nat} (h : Ok l n) : ∀ k, k ≤ l.length → (l.take k).flatten.length = min n (64 * k)
  | 0, _ => by simp
  | k + 1, hk => by
    have ih := ok_pref h k (by omega)
    have h1 := h.2 k (l[k]'(by omega)) (List.getElem?_eq_getElem (by omega))
    rw [List.take_succ_eq_append_getElem (by omega), List.flatten_append, List.length_append, ih]
    simp only [List.flatten_cons, List.flatten_nil, List.append_nil]
    omega
theorem ok_len {l : List T} {n : Nat} (h : Ok l n) : l.flatten.length = n := by
  have := ok_pref h l.length (Nat.le_refl _)
  rw [List.take_length, h.1] at this
  unfold cnt at this
  omega
theorem ok_chunks {l : List T} {n : Nat} (h : Ok l n) : chunks l.flatten = l := by
  have hl := ok_len h
  apply List.ext_getElem?
  intro i
  by_cases hi : i < cnt n
  · rw [chunks_get _ (by rw [hl]; exact hi)]
    have hil : i < l.length := by rw [h.1]; exact hi
    have h1 := h.2 i (l[i]'hil) (List.getElem?_eq_getElem hil)
    have h2 := ok_pref h i (by omega)
    have h3 : 64 * i < n := by unfold cnt at hi; omega
    rw [List.getElem?_eq_getElem hil]
    congr 1
    have e : l.flatten = (l.take i).flatten ++ (l[i]'hil ++ (l.drop (i + 1)).flatten) := by
      conv => lhs; rw [← List.take_append_drop i l, List.flatten_append, List.drop_eq_getElem_cons hil, List.flatten_cons]
    unfold pc
    rw [e, List.drop_left' (by rw [h2]; omega)]
    by_cases h64 : (l[i]'hil).length = 64
    · rw [List.take_left' h64]
    · have : l.length ≤ i + 1 := by rw [h.1]; unfold cnt; omega
      rw [List.drop_eq_nil_of_le this, List.flatten_nil, List.append_nil, List.take_of_length_le (by omega)]
  · rw [List.getElem?_eq_none (by rw [chunks_length, hl]; omega), List.getElem?_eq_none (by rw [h.1]; omega)]
def jok (l : List T) (n : Nat) : Bool := (chunks l.flatten == l) && (l.flatten.length == n)
theorem jok_iff (l : List T) (n : Nat) : jok l n = true ↔ Ok l n := by
  unfold jok
  rw [Bool.and_eq_true, beq_iff_eq, beq_iff_eq]
  constructor
  · rintro ⟨h1, h2⟩
    have := chunks_ok l.flatten
    rwa [h1, h2] at this
  · exact fun h => ⟨ok_chunks h, ok_len h⟩
theorem jok_no {l : List T} {n : Nat} (h : ¬ Ok l n) : jok l n = false := by
  cases e : jok l n with
  | false => rfl
  | true => exact absurd ((jok_iff l n).1 e) h
def joinE (l : List T) (z : Int) : Nat := if z < 0 ∨ 4096 < z then 2 else if jok l z.toNat = true then 0 else 5
def joinT (l : List T) (z : Int) : T := if joinE l z = 0 then l.flatten else []
/- noughts -/
def zs (k : Nat) : T := List.replicate k 0
theorem zs_length (k : Nat) : (zs k).length = k := by simp [zs]
theorem zs_take (k j : Nat) : (zs k).take j = zs (min j k) := by simp [zs, List.take_replicate]
theorem zs_drop (k j : Nat) : (zs k).drop j = zs (k - j) := by simp [zs, List.drop_replicate]
theorem zs_add (j k : Nat) : zs j ++ zs k = zs (j + k) := by simp [zs, List.replicate_append_replicate]
/- what comes of writing, cutting and reading -/
def wr (s : T) (o : Nat) (d : T) : T := (s ++ zs (o - s.length)).take o ++ (d ++ s.drop (o + d.length))
def wrE (s : T) (off : Int) (d : T) : Nat := if 4096 < s.length then 3 else if off < 0 then 2 else if 4096 - (d.length : Int) < off then 3 else 0
def wrT (s : T) (off : Int) (d : T) : T := if wrE s off d = 0 then wr s off.toNat d else []
def tr (s : T) (n : Nat) : T := (s ++ zs (n - s.length)).take n
def trE (s : T) (n : Int) : Nat := if 4096 < s.length then 3 else if n < 0 then 2 else if 4096 < n then 3 else 0
def trT (s : T) (n : Int) : T := if trE s n = 0 then tr s n.toNat else []
def rd (s : T) (o n : Nat) : T := (s.drop o).take n
def rdE (s : T) (off n : Int) : Nat := if 4096 < s.length then 3 else if off < 0 ∨ n < 0 ∨ (s.length : Int) < off then 2 else 0
def rdT (s : T) (off n : Int) : T := if rdE s off n = 0 then rd s off.toNat n.toNat else []
def pad (s : T) (n : Nat) : T := s ++ zs (n - s.length)
theorem pad_length (s : T) (n : Nat) : (pad s n).length = max s.length n := by unfold pad; rw [List.length_append, zs_length]; omega
theorem pad_same {s : T} {n : Nat} (h : n ≤ s.length) : pad s n = s := by unfold pad; rw [show n - s.length = 0 by omega]; simp [zs]
theorem pad_next {s : T} {n : Nat} (h : s.length < n) : pad (s ++ [0]) n = pad s n := by
  unfold pad
  rw [List.append_assoc, List.length_append]
  congr 1
  rw [show ([0] : T) = zs 1 from rfl, zs_add, zs_length]
  congr 1
  omega
theorem front_length (s : T) (o : Nat) : ((s ++ zs (o - s.length)).take o).length = o := by
  rw [List.length_take, List.length_append, zs_length]; omega
theorem wr_length (s : T) (o : Nat) (d : T) : (wr s o d).length = max s.length (o + d.length) := by
  unfold wr
  rw [List.length_append, front_length, List.length_append, List.length_drop]
  omega
theorem tr_length (s : T) (n : Nat) : (tr s n).length = n := front_length s n
theorem rd_wr (s : T) (o : Nat) (d : T) : rd (wr s o d) o d.length = d := by
  unfold rd wr
  rw [List.drop_left' (front_length s o), List.take_left' rfl]
theorem pad_get (s : T) (n i : Nat) (h : i < max s.length n) : (s ++ zs (n - s.length))[i]? = some (s.getD i 0) := by
  by_cases hi : i < s.length
  · rw [List.getElem?_append_left hi, List.getD_eq_getElem?_getD, List.getElem?_eq_getElem hi]
    rfl
  · have e : s[i]? = none := List.getElem?_eq_none (by omega)
    rw [List.getElem?_append_right (by omega), List.getD_eq_getElem?_getD, e]
    unfold zs
    rw [List.getElem?_replicate, if_pos (by omega)]
    rfl
theorem wr_get (s : T) (o : Nat) (d : T) (i : Nat) (hi : i < (wr s o d).length) (h : i < o ∨ o + d.length ≤ i) : (wr s o d)[i]? = some (s.getD i 0) := by
  rw [wr_length] at hi
  unfold wr
  by_cases h1 : i < o
  · rw [List.getElem?_append_left (by rw [front_length]; exact h1), List.getElem?_take_of_lt h1, pad_get _ _ _ (by omega)]
  · rw [List.getElem?_append_right (by rw [front_length]; omega), front_length, List.getElem?_append_right (by omega), List.getElem?_drop, show o + d.length + (i - o - d.length) = i by omega, List.getElem?_eq_getElem (by omega), List.getD_eq_getElem?_getD, List.getElem?_eq_getElem (by omega)]
    rfl
theorem tr_tr (s : T) {m n : Nat} (h : m ≤ n) : tr (tr s n) m = tr s m := by
  unfold tr
  rw [List.take_append_of_le_length (by rw [front_length]; exact h), List.take_take, Nat.min_eq_left h]
  apply List.ext_getElem?
  intro i
  by_cases hi : i < m
  · rw [List.getElem?_take_of_lt hi, List.getElem?_take_of_lt hi, pad_get _ _ _ (by omega), pad_get _ _ _ (by omega)]
  · rw [List.getElem?_eq_none (by rw [List.length_take]; omega), List.getElem?_eq_none (by rw [List.length_take]; omega)]
theorem tr_tail (s : T) (n : Nat) : (tr s n).drop s.length = zs (n - s.length) := by
  unfold tr
  rw [List.drop_take]
  rw [List.drop_left' rfl, zs_take, Nat.min_self]
theorem tr_front (s : T) (n : Nat) : (tr s n).take (min n s.length) = s.take (min n s.length) := by
  unfold tr
  rw [List.take_take, List.take_append_of_le_length (by omega), show min (min n s.length) n = min n s.length by omega]
/- which chunks are alike -/
def sameK (a b : T) (k : Nat) : List Nat := (List.range k).filter fun i => decide (i < cnt b.length) && (pc a i == pc b i)
def same (a b : T) : List Nat := sameK a b (cnt a.length)
theorem sameK_yes {a b : T} {k : Nat} (h1 : k < cnt b.length) (h2 : pc a k = pc b k) : sameK a b (k + 1) = sameK a b k ++ [k] := by
  unfold sameK
  rw [List.range_succ, List.filter_append]
  simp [h1, h2]
theorem sameK_no {a b : T} {k : Nat} (h : ¬ (k < cnt b.length ∧ pc a k = pc b k)) : sameK a b (k + 1) = sameK a b k := by
  unfold sameK
  rw [List.range_succ, List.filter_append]
  have : (decide (k < cnt b.length) && (pc a k == pc b k)) = false := by
    cases e : (decide (k < cnt b.length) && (pc a k == pc b k)) with
    | false => rfl
    | true =>
      rw [Bool.and_eq_true, decide_eq_true_eq, beq_iff_eq] at e
      exact absurd e h
  simp [this]
theorem sameK_length (a b : T) (k : Nat) : (sameK a b k).length ≤ k := by
  unfold sameK
  exact Nat.le_trans (List.length_filter_le _ _) (by simp)
theorem sameK_lt (a b : T) (k : Nat) : ∀ i ∈ sameK a b k, i < k := fun i h => by
  unfold sameK at h
  rw [List.mem_filter, List.mem_range] at h
  exact h.1
theorem sameK_past {a b : T} {k : Nat} (h : cnt b.length ≤ k) : ∀ d, sameK a b (k + d) = sameK a b k
  | 0 => rfl
  | d + 1 => by rw [← Nat.add_assoc, sameK_no (by omega), sameK_past h d]
theorem same_min (a b : T) : sameK a b (min (cnt a.length) (cnt b.length)) = same a b := by
  unfold same
  by_cases h : cnt a.length ≤ cnt b.length
  · rw [Nat.min_eq_left h]
  · have := sameK_past (a := a) (b := b) (Nat.le_refl (cnt b.length)) (cnt a.length - cnt b.length)
    rw [show cnt b.length + (cnt a.length - cnt b.length) = cnt a.length by omega] at this
    rw [Nat.min_eq_right (by omega), this]
theorem same_self (a : T) : (same a a).length = cnt a.length := by
  unfold same sameK
  rw [List.filter_eq_self.2 (fun i hi => by rw [List.mem_range] at hi; simp [hi]), List.length_range]
theorem same_none (a : T) : same a [] = [] := by
  unfold same sameK
  rw [List.filter_eq_nil_iff]
  intro i _
  simp [cnt]
/- bytes of which one is turned -/
theorem pc_set_same (a : T) (k i : Nat) (c : UInt8) (h : i ≠ k / 64) : pc (a.set k c) i = pc a i := by
  apply List.ext_getElem?
  intro j
  unfold pc
  by_cases hj : j < 64
  · rw [List.getElem?_take_of_lt hj, List.getElem?_take_of_lt hj, List.getElem?_drop, List.getElem?_drop, List.getElem?_set_ne (by omega)]
  · rw [List.getElem?_eq_none (by rw [List.length_take]; omega), List.getElem?_eq_none (by rw [List.length_take]; omega)]
theorem pc_set_other (a : T) (k : Nat) (c : UInt8) (hk : k < a.length) (h : c ≠ a[k]'hk) : pc (a.set k c) (k / 64) ≠ pc a (k / 64) := fun e => by
  have e2 := congrArg (fun l => l[k % 64]?) e
  simp only [pc] at e2
  rw [List.getElem?_take_of_lt (by omega), List.getElem?_take_of_lt (by omega), List.getElem?_drop, List.getElem?_drop, show 64 * (k / 64) + k % 64 = k by omega, List.getElem?_set_self (by exact hk), List.getElem?_eq_getElem hk] at e2
  exact h (Option.some.inj e2)
def but (n j : Nat) : List Nat := (List.range n).filter fun i => decide (i ≠ j)
theorem but_length : ∀ (n j : Nat), j < n → (but n j).length = n - 1
  | 0, j, h => absurd h (by omega)
  | n + 1, j, h => by
    unfold but
    rw [List.range_succ, List.filter_append, List.length_append]
    by_cases hj : j = n
    · subst hj
      rw [List.filter_eq_self.2 (fun i hi => by rw [List.mem_range] at hi; simp; omega)]
      simp
    · have := but_length n j (by omega)
      unfold but at this
      rw [this]
      have : n ≠ j := fun e => hj e.symm
      simp [this]
      omega
theorem but_no (n j : Nat) : ∀ i ∈ but n j, i ≠ j := fun i h => by
  unfold but at h
  rw [List.mem_filter] at h
  simpa using h.2
theorem same_set {a : T} {k : Nat} {c : UInt8} (hk : k < a.length) (h : c ≠ a[k]'hk) : same a (a.set k c) = but (cnt a.length) (k / 64) ∧ same (a.set k c) a = but (cnt a.length) (k / 64) := by
  have hl : (a.set k c).length = a.length := List.length_set
  have key : ∀ i, (pc a i == pc (a.set k c) i) = decide (i ≠ k / 64) := fun i => by
    by_cases hi : i = k / 64
    · subst hi
      have := pc_set_other a k c hk h
      rw [show decide (k / 64 ≠ k / 64) = false by simp, beq_eq_false_iff_ne]
      exact fun e => this e.symm
    · rw [pc_set_same a k i c hi]
      simp [hi]
  constructor
  · unfold same sameK but
    rw [hl]
    apply List.filter_congr
    intro i hi
    rw [List.mem_range] at hi
    rw [key i]
    simp [hi]
  · unfold same sameK but
    rw [hl]
    apply List.filter_congr
    intro i hi
    rw [List.mem_range] at hi
    rw [show (pc (a.set k c) i == pc a i) = (pc a i == pc (a.set k c) i) by
      rw [Bool.eq_iff_iff, beq_iff_eq, beq_iff_eq]
      exact ⟨Eq.symm, Eq.symm⟩, key i]
    simp [hi]
end Ck
