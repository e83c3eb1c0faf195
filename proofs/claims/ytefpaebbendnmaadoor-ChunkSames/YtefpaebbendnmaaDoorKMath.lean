/- Proved: plain arithmetic of the digest: words of 32 bits, the mixing of four of them, the ten rounds, a block. No program is named. -/
import Derived.WalkKit
namespace Bl
def rot (x k : Nat) : Nat := x / 2 ^ k ||| x * 2 ^ (32 - k) % 4294967296
def s1 (v : List Nat) (a b x : Nat) : List Nat := v.set a ((v.getD a 0 + v.getD b 0 + x) % 4294967296)
def s2 (v : List Nat) (d a k : Nat) : List Nat := v.set d (rot (v.getD d 0 ^^^ v.getD a 0) k)
def s3 (v : List Nat) (c d : Nat) : List Nat := v.set c ((v.getD c 0 + v.getD d 0) % 4294967296)
def g (v : List Nat) (a b c d x y : Nat) : List Nat := s2 (s3 (s2 (s1 (s2 (s3 (s2 (s1 v a b x) d a 16) c d) b c 12) a b y) d a 8) c d) b c 7
/- words of 32 bits, so many of them -/
def Words (n : Nat) (v : List Nat) : Prop := v.length = n ∧ ∀ x ∈ v, x < 4294967296
theorem Words.at {n : Nat} {v : List Nat} (h : Words n v) (i : Nat) : v.getD i 0 < 4294967296 := by
  rw [List.getD_eq_getElem?_getD]
  by_cases hi : i < v.length
  · rw [List.getElem?_eq_getElem hi]; exact h.2 _ (List.getElem_mem hi)
  · rw [List.getElem?_eq_none (by omega)]; simp
theorem Words.set {n : Nat} {v : List Nat} (h : Words n v) (i x : Nat) (hx : x < 4294967296) : Words n (v.set i x) := by
  refine ⟨by rw [List.length_set]; exact h.1, fun y hy => ?_⟩
  rcases List.mem_or_eq_of_mem_set hy with h' | h'
  · exact h.2 y h'
  · rw [h']; exact hx
theorem xor_lt {a b : Nat} (ha : a < 4294967296) (hb : b < 4294967296) : a ^^^ b < 4294967296 := Nat.xor_lt_two_pow (n := 32) ha hb
theorem or_lt {a b : Nat} (ha : a < 4294967296) (hb : b < 4294967296) : a ||| b < 4294967296 := Nat.or_lt_two_pow (n := 32) ha hb
theorem rot_lt {x : Nat} (k : Nat) (h : x < 4294967296) : rot x k < 4294967296 := by
  unfold rot
  exact or_lt (Nat.lt_of_le_of_lt (Nat.div_le_self _ _) h) (Nat.mod_lt _ (by omega))
theorem Words.s1 {n : Nat} {v : List Nat} (h : Words n v) (a b x : Nat) : Words n (Bl.s1 v a b x) := h.set _ _ (Nat.mod_lt _ (by omega))
theorem Words.s2 {n : Nat} {v : List Nat} (h : Words n v) (d a k : Nat) : Words n (Bl.s2 v d a k) := h.set _ _ (rot_lt k (xor_lt (h.at d) (h.at a)))
theorem Words.s3 {n : Nat} {v : List Nat} (h : Words n v) (c d : Nat) : Words n (Bl.s3 v c d) := h.set _ _ (Nat.mod_lt _ (by omega))
theorem Words.g {n : Nat} {v : List Nat} (h : Words n v) (a b c d x y : Nat) : Words n (Bl.g v a b c d x y) := (((((((h.s1 _ _ _).s2 _ _ _).s3 _ _).s2 _ _ _).s1 _ _ _).s2 _ _ _).s3 _ _).s2 _ _ _
/- the ten orders -/
def order : List (List Nat) := [[0, 1, 2, 3, 4, 5, 6, 7, 8, 9, 10, 11, 12, 13, 14, 15], [14, 10, 4, 8, 9, 15, 13, 6, 1, 12, 0, 2, 11, 7, 5, 3], [11, 8, 12, 0, 5, 2, 15, 13, 10, 14, 3, 6, 7, 1, 9, 4], [7, 9, 3, 1, 13, 12, 11, 14, 2, 6, 5, 10, 4, 0, 15, 8], [9, 0, 5, 7, 2, 4, 10, 15, 14, 1, 11, 12, 6, 8, 3, 13], [2, 12, 6, 10, 0, 11, 8, 3, 4, 13, 7, 5, 15, 14, 1, 9], [12, 5, 1, 15, 14, 13, 4, 10, 0, 7, 6, 3, 9, 2, 8, 11], [13, 11, 7, 14, 12, 1, 3, 9, 5, 0, 15, 4, 8, 6, 2, 10], [6, 15, 14, 9, 11, 3, 0, 8, 12, 2, 13, 7, 1, 4, 10, 5], [10, 2, 8, 4, 7, 6, 1, 5, 15, 11, 9, 14, 3, 12, 13, 0]]
def ord (r i : Nat) : Nat := (order.getD r []).getD i 0
theorem ord_lt : ∀ r, r < 10 → ∀ i, i < 16 → ord r i < 16 := by decide
/- a round: the columns, then the slanting lines -/
def col (v m : List Nat) (r : Nat) : Nat → List Nat
  | 0 => v
  | i + 1 => g (col v m r i) i (4 + i) (8 + i) (12 + i) (m.getD (ord r (2 * i)) 0) (m.getD (ord r (2 * i + 1)) 0)
def dia (v m : List Nat) (r : Nat) : Nat → List Nat
  | 0 => v
  | i + 1 => g (dia v m r i) i (4 + (i + 1) % 4) (8 + (i + 2) % 4) (12 + (i + 3) % 4) (m.getD (ord r (8 + 2 * i)) 0) (m.getD (ord r (9 + 2 * i)) 0)
def rounds (v m : List Nat) : Nat → List Nat
  | 0 => v
  | r + 1 => dia (col (rounds v m r) m r 4) m r 4
theorem Words.col {n : Nat} {v : List Nat} (m : List Nat) (r : Nat) (h : Words n v) : ∀ i, Words n (Bl.col v m r i)
  | 0 => h
  | i + 1 => (Words.col m r h i).g _ _ _ _ _ _
theorem Words.dia {n : Nat} {v : List Nat} (m : List Nat) (r : Nat) (h : Words n v) : ∀ i, Words n (Bl.dia v m r i)
  | 0 => h
  | i + 1 => (Words.dia m r h i).g _ _ _ _ _ _
theorem Words.rounds {n : Nat} {v : List Nat} (m : List Nat) (h : Words n v) : ∀ r, Words n (Bl.rounds v m r)
  | 0 => h
  | r + 1 => ((Words.rounds m h r).col m r 4).dia m r 4
def first : List Nat := [1779033703, 3144134277, 1013904242, 2773480762, 1359893119, 2600822924, 528734635, 1541459225]
theorem first_words : Words 8 first := ⟨rfl, by decide⟩
/- the sixteen words that the rounds begin with -/
def begin0 (h : List Nat) (n : Nat) : List Nat := ((h ++ first).set 12 ((h ++ first).getD 12 0 ^^^ n % 4294967296)).set 13 ((h ++ first).getD 13 0 ^^^ n / 4294967296)
def begin (h : List Nat) (n : Nat) (last : Bool) : List Nat := if last then (begin0 h n).set 14 ((begin0 h n).getD 14 0 ^^^ 4294967295) else begin0 h n
theorem begin_words {h : List Nat} {n : Nat} (hh : Words 8 h) (hn : n < 18446744073709551616) (last : Bool) : Words 16 (begin h n last) := by
  have h1 : Words 16 (h ++ first) := ⟨by rw [List.length_append, hh.1, first_words.1], fun x hx => by
    rcases List.mem_append.1 hx with h' | h'
    · exact hh.2 x h'
    · exact first_words.2 x h'⟩
  have h2 : Words 16 (begin0 h n) := (h1.set _ _ (xor_lt (h1.at _) (Nat.mod_lt _ (by omega)))).set _ _ (xor_lt (h1.at _) (by omega))
  unfold begin
  cases last
  · exact h2
  · exact h2.set _ _ (xor_lt (h2.at _) (by omega))
/- the words of a block of 64 bytes -/
def word (b : List Nat) (i : Nat) : Nat := b.getD (4 * i) 0 + b.getD (4 * i + 1) 0 * 256 + b.getD (4 * i + 2) 0 * 65536 + b.getD (4 * i + 3) 0 * 16777216
def words (b : List Nat) : List Nat := (List.range 16).map (word b)
def Bytes8 (n : Nat) (b : List Nat) : Prop := b.length = n ∧ ∀ x ∈ b, x < 256
theorem Bytes8.at {n : Nat} {v : List Nat} (h : Bytes8 n v) (i : Nat) : v.getD i 0 < 256 := by
  rw [List.getD_eq_getElem?_getD]
  by_cases hi : i < v.length
  · rw [List.getElem?_eq_getElem hi]; exact h.2 _ (List.getElem_mem hi)
  · rw [List.getElem?_eq_none (by omega)]; simp
theorem Bytes8.set {n : Nat} {v : List Nat} (h : Bytes8 n v) (i x : Nat) (hx : x < 256) : Bytes8 n (v.set i x) := by
  refine ⟨by rw [List.length_set]; exact h.1, fun y hy => ?_⟩
  rcases List.mem_or_eq_of_mem_set hy with h' | h'
  · exact h.2 y h'
  · rw [h']; exact hx
theorem word_lt {n : Nat} {b : List Nat} (h : Bytes8 n b) (i : Nat) : word b i < 4294967296 := by
  have h0 := h.at (4 * i)
  have h1 := h.at (4 * i + 1)
  have h2 := h.at (4 * i + 2)
  have h3 := h.at (4 * i + 3)
  unfold word
  omega
theorem words_words {n : Nat} {b : List Nat} (h : Bytes8 n b) : Words 16 (words b) := by
  refine ⟨by simp [words], fun x hx => ?_⟩
  obtain ⟨i, _, rfl⟩ := List.mem_map.1 hx
  exact word_lt h i
theorem words_at (b : List Nat) (i : Nat) (hi : i < 16) : (words b).getD i 0 = word b i := by
  unfold words
  rw [List.getD_eq_getElem?_getD, List.getElem?_map, List.getElem?_range hi, Option.map_some, Option.getD_some]
/- a block is taken into the eight words -/
def mixed (h b : List Nat) (n : Nat) (last : Bool) : List Nat := rounds (begin h n last) (words b) 10
def out (h v : List Nat) (i : Nat) : Nat := h.getD i 0 ^^^ v.getD i 0 ^^^ v.getD (8 + i) 0
def taken (h b : List Nat) (n : Nat) (last : Bool) : List Nat := (List.range 8).map (out h (mixed h b n last))
theorem mixed_words {h b : List Nat} {k n : Nat} (hh : Words 8 h) (_hb : Bytes8 k b) (hn : n < 18446744073709551616) (last : Bool) : Words 16 (mixed h b n last) := by
  have h1 := begin_words hh hn last
  unfold mixed
  generalize begin h n last = v at *
  exact h1.rounds _ _
theorem out_lt {h v : List Nat} {k n : Nat} (hh : Words k h) (hv : Words n v) (i : Nat) : out h v i < 4294967296 := xor_lt (xor_lt (hh.at i) (hv.at i)) (hv.at (8 + i))
theorem taken_words {h b : List Nat} {k n : Nat} (hh : Words 8 h) (hb : Bytes8 k b) (hn : n < 18446744073709551616) (last : Bool) : Words 8 (taken h b n last) := by
  refine ⟨by simp [taken], fun x hx => ?_⟩
  obtain ⟨i, _, rfl⟩ := List.mem_map.1 hx
  exact out_lt hh (mixed_words hh hb hn last) i
end Bl
