/- Proved: what the functions of Go's library that are on the road answer, in this translation's own numbers. -/
import Derived.Shelf.Strings.Search1
import Derived.Shelf.Strings.Search2
import Derived.Shelf.Strings.Search3
import Derived.Shelf.Strings.Cut
import Derived.Shelf.Strings.Count
import Derived.Shelf.LaysM
import Derived.Shelf.Strings.Shaped
import Derived.Shelf.Strings.Split
import Derived.Shelf.Strings.SplitShaped
import Derived.Shelf.Unicode.DecodeSlow
import Derived.Test.YtealbeblkilibaaDoorProg
import Derived.Lib.Split
import Derived.Lib.SplitLaws
import Derived.Lib.Join
import Derived.Lib.LastIndexByte
import Derived.Lib.Small
import Derived.Lib.ItoaNum
import Derived.Test.YtealbeblkilibaaDoorRows
import Derived.WalkKit
import Derived.WalkSpells
import Derived.WalkLawsBesides
import Derived.Below
import Derived.Deep.RegionHeld3
import Derived.Deep.MidRow
import Derived.Lib.AppendIntMem
namespace Go.Proofs
open Go.Shelf
def Tryd.lays144_ren : Go.Shelf.Ren := ⟨fun | 144 => 62 | 143 => 80 | 219 => 90 | 217 => 96 | 225 => 97 | 224 => 98 | 267 => 99 | 266 => 101 | 314 => 102 | n => n, fun | 9 => 9 | 4 => 4 | 3 => 3 | 5 => 5 | 46 => 124 | 146 => 135 | 51 => 134 | n => n, fun | 1 => 1 | n => n⟩
theorem Tryd.lays144 : Go.Proofs.Lays.n144 Tryd.prog Tryd.lays144_ren := {
  mixed := by kernel_rfl
  f143 := Tryd.func80.trans (congrArg some (by kernel_rfl))
  f144 := Tryd.func62.trans (congrArg some (by kernel_rfl))
  f217 := Tryd.func96.trans (congrArg some (by kernel_rfl))
  f219 := Tryd.func90.trans (congrArg some (by kernel_rfl))
  f224 := Tryd.func98.trans (congrArg some (by kernel_rfl))
  f225 := Tryd.func97.trans (congrArg some (by kernel_rfl))
  f266 := Tryd.func101.trans (congrArg some (by kernel_rfl))
  f267 := Tryd.func99.trans (congrArg some (by kernel_rfl))
  f314 := Tryd.func102.trans (congrArg some (by kernel_rfl))
  t3 := Tryd.underlying3
  a3 := Tryd.isAgg3
  z3 := Tryd.sizeOf3
  v3 := Tryd.zeroValue3
  t4 := Tryd.underlying4
  a4 := Tryd.isAgg4
  z4 := Tryd.sizeOf4
  v4 := Tryd.zeroValue4
  t5 := Tryd.underlying5
  a5 := Tryd.isAgg5
  z5 := Tryd.sizeOf5
  v5 := Tryd.zeroValue5
  t9 := Tryd.underlying9
  a9 := Tryd.isAgg9
  z9 := Tryd.sizeOf9
  v9 := Tryd.zeroValue9
  t46 := Tryd.underlying124
  a46 := Tryd.isAgg124
  z46 := Tryd.sizeOf124
  v46 := Tryd.zeroValue124
  t51 := Tryd.underlying134
  a51 := Tryd.isAgg134
  z51 := Tryd.sizeOf134
  v51 := Tryd.zeroValue134
  t146 := Tryd.underlying135
  a146 := Tryd.isAgg135
  z146 := Tryd.sizeOf135
  v146 := Tryd.zeroValue135
  g1 := by kernel_rfl }
open Go.RowKit Go.Lib in
theorem Tryd.strings_Contains_one (s : ByteArray) (c : UInt8) (w : World) :
    Calls Tryd.prog 62 #[.string s, .string ⟨#[c]⟩] w fun e w' => e = .returned (.bool (decide (0 ≤ Lib.indexByte s.data.toList c))) ∧ w' = w := Any.strings_Contains_one Tryd.lays144 s c w
def Tryd.lays145_ren : Go.Shelf.Ren := ⟨fun | 145 => 77 | 220 => 88 | 219 => 90 | 217 => 96 | 225 => 97 | 224 => 98 | 267 => 99 | 266 => 101 | 314 => 102 | n => n, fun | 9 => 9 | 4 => 4 | 59 => 116 | 3 => 3 | 5 => 5 | 46 => 124 | 146 => 135 | 51 => 134 | n => n, fun | 1 => 1 | n => n⟩
theorem Tryd.lays145 : Go.Proofs.Lays.n145 Tryd.prog Tryd.lays145_ren := {
  mixed := by kernel_rfl
  f145 := Tryd.func77.trans (congrArg some (by kernel_rfl))
  f217 := Tryd.func96.trans (congrArg some (by kernel_rfl))
  f219 := Tryd.func90.trans (congrArg some (by kernel_rfl))
  f220 := Tryd.func88.trans (congrArg some (by kernel_rfl))
  f224 := Tryd.func98.trans (congrArg some (by kernel_rfl))
  f225 := Tryd.func97.trans (congrArg some (by kernel_rfl))
  f266 := Tryd.func101.trans (congrArg some (by kernel_rfl))
  f267 := Tryd.func99.trans (congrArg some (by kernel_rfl))
  f314 := Tryd.func102.trans (congrArg some (by kernel_rfl))
  t3 := Tryd.underlying3
  a3 := Tryd.isAgg3
  z3 := Tryd.sizeOf3
  v3 := Tryd.zeroValue3
  t4 := Tryd.underlying4
  a4 := Tryd.isAgg4
  z4 := Tryd.sizeOf4
  v4 := Tryd.zeroValue4
  t5 := Tryd.underlying5
  a5 := Tryd.isAgg5
  z5 := Tryd.sizeOf5
  v5 := Tryd.zeroValue5
  t9 := Tryd.underlying9
  a9 := Tryd.isAgg9
  z9 := Tryd.sizeOf9
  v9 := Tryd.zeroValue9
  t46 := Tryd.underlying124
  a46 := Tryd.isAgg124
  z46 := Tryd.sizeOf124
  v46 := Tryd.zeroValue124
  t51 := Tryd.underlying134
  a51 := Tryd.isAgg134
  z51 := Tryd.sizeOf134
  v51 := Tryd.zeroValue134
  t59 := Tryd.underlying116
  a59 := Tryd.isAgg116
  z59 := Tryd.sizeOf116
  v59 := Tryd.zeroValue116
  t146 := Tryd.underlying135
  a146 := Tryd.isAgg135
  z146 := Tryd.sizeOf135
  v146 := Tryd.zeroValue135
  g1 := by kernel_rfl }
open Go.RowKit Go.Lib in
theorem Tryd.strings_Cut (s sep : ByteArray) (m : Int) (w : World) (hs : s.size < 4294967281) (hm : w.cell? ⟨1, 0, none⟩ = some (.int .i64 m)) :
    Calls Tryd.prog 77 #[.string s, .string sep] w fun e w' => e = .returned (.tuple #[.string ⟨(Lib.cut s.data.toList sep.data.toList).1.toArray⟩, .string ⟨(Lib.cut s.data.toList sep.data.toList).2.1.toArray⟩, .bool (Lib.cut s.data.toList sep.data.toList).2.2]) ∧ ∃ n, w' = w.drewN n := Any.strings_Cut Tryd.lays145 s sep m w hs hm
def Tryd.lays146_ren : Go.Shelf.Ren := ⟨fun | 146 => 56 | 221 => 76 | 268 => 86 | 138 => 87 | 143 => 80 | 195 => 93 | 197 => 94 | 218 => 95 | 219 => 90 | 260 => 100 | 217 => 96 | 225 => 97 | 224 => 98 | 267 => 99 | 266 => 101 | 314 => 102 | n => n, fun | 9 => 9 | 31 => 72 | 3 => 3 | 4 => 4 | 0 => 0 | 105 => 129 | 21 => 21 | 5 => 5 | 46 => 124 | 119 => 137 | 139 => 140 | 138 => 139 | 146 => 135 | 51 => 134 | n => n, fun | 1 => 1 | 3 => 2 | 4 => 3 | n => n⟩
theorem Tryd.lays146 : Go.Proofs.Lays.n146 Tryd.prog Tryd.lays146_ren := {
  mixed := by kernel_rfl
  f138 := Tryd.func87.trans (congrArg some (by kernel_rfl))
  f143 := Tryd.func80.trans (congrArg some (by kernel_rfl))
  f146 := Tryd.func56.trans (congrArg some (by kernel_rfl))
  f195 := Tryd.func93.trans (congrArg some (by kernel_rfl))
  f197 := Tryd.func94.trans (congrArg some (by kernel_rfl))
  f217 := Tryd.func96.trans (congrArg some (by kernel_rfl))
  f218 := Tryd.func95.trans (congrArg some (by kernel_rfl))
  f219 := Tryd.func90.trans (congrArg some (by kernel_rfl))
  f221 := Tryd.func76.trans (congrArg some (by kernel_rfl))
  f224 := Tryd.func98.trans (congrArg some (by kernel_rfl))
  f225 := Tryd.func97.trans (congrArg some (by kernel_rfl))
  f260 := Tryd.func100.trans (congrArg some (by kernel_rfl))
  f266 := Tryd.func101.trans (congrArg some (by kernel_rfl))
  f267 := Tryd.func99.trans (congrArg some (by kernel_rfl))
  f268 := Tryd.func86.trans (congrArg some (by kernel_rfl))
  f314 := Tryd.func102.trans (congrArg some (by kernel_rfl))
  t0 := Tryd.underlying0
  a0 := Tryd.isAgg0
  z0 := Tryd.sizeOf0
  v0 := Tryd.zeroValue0
  t3 := Tryd.underlying3
  a3 := Tryd.isAgg3
  z3 := Tryd.sizeOf3
  v3 := Tryd.zeroValue3
  t4 := Tryd.underlying4
  a4 := Tryd.isAgg4
  z4 := Tryd.sizeOf4
  v4 := Tryd.zeroValue4
  t5 := Tryd.underlying5
  a5 := Tryd.isAgg5
  z5 := Tryd.sizeOf5
  v5 := Tryd.zeroValue5
  t9 := Tryd.underlying9
  a9 := Tryd.isAgg9
  z9 := Tryd.sizeOf9
  v9 := Tryd.zeroValue9
  t21 := Tryd.underlying21
  a21 := Tryd.isAgg21
  z21 := Tryd.sizeOf21
  v21 := Tryd.zeroValue21
  t31 := Tryd.underlying72
  a31 := Tryd.isAgg72
  z31 := Tryd.sizeOf72
  v31 := Tryd.zeroValue72
  t46 := Tryd.underlying124
  a46 := Tryd.isAgg124
  z46 := Tryd.sizeOf124
  v46 := Tryd.zeroValue124
  t51 := Tryd.underlying134
  a51 := Tryd.isAgg134
  z51 := Tryd.sizeOf134
  v51 := Tryd.zeroValue134
  t105 := Tryd.underlying129
  a105 := Tryd.isAgg129
  z105 := Tryd.sizeOf129
  v105 := Tryd.zeroValue129
  t119 := Tryd.underlying137
  a119 := Tryd.isAgg137
  z119 := Tryd.sizeOf137
  t138 := Tryd.underlying139
  a138 := Tryd.isAgg139
  z138 := Tryd.sizeOf139
  v138 := Tryd.zeroValue139
  t139 := Tryd.underlying140
  a139 := Tryd.isAgg140
  z139 := Tryd.sizeOf140
  v139 := Tryd.zeroValue140
  t146 := Tryd.underlying135
  a146 := Tryd.isAgg135
  z146 := Tryd.sizeOf135
  v146 := Tryd.zeroValue135
  g1 := by kernel_rfl
  g3 := by kernel_rfl
  g4 := by kernel_rfl }
open Go.RowKit Go.Lib in
theorem Tryd.strings_Split (s sep : ByteArray) (m : Int) (w : World) (hs : s.size < 4294967281) (hm : w.cell? ⟨1, 0, none⟩ = some (.int .i64 m)) (h1 : 1 ≤ sep.size) :
    Calls Tryd.prog 56 #[.string s, .string sep] w fun e w' =>
      e = .returned (.slice (some ⟨w.heap.size, 0, none⟩) (Lib.countB s sep + 1) (Lib.countB s sep + 1)) ∧ w' = w.alloc (.cells ((Lib.splitB sep 0 (Lib.countB s sep) s).map Value.string).toArray 9) := Any.strings_Split Tryd.lays146 (by kernel_rfl) s sep m w hs hm h1
end Go.Proofs
/- Proved: what the names of a text are, joined and parted, by plain lists of bytes. No program, no world. -/
namespace Go.Proofs.YtealbeblkilibaaDoor
namespace Pm
abbrev T := List UInt8
/- what a text is, parted at each / -/
def names : T → List T
  | [] => [[]]
  | c :: r => if c = 47 then [] :: names r else (c :: (names r).headD []) :: (names r).tail
def join : List T → T
  | [] => []
  | [n] => n
  | n :: m :: r => n ++ 47 :: join (m :: r)
theorem names_ne (s : T) : names s ≠ [] := by
  cases s with
  | nil => simp [names]
  | cons c r => unfold names; split <;> simp
theorem names_cons (c : UInt8) (r : T) (h : c ≠ 47) : ∃ n l, names r = n :: l ∧ names (c :: r) = (c :: n) :: l := by
  cases hr : names r with
  | nil => exact absurd hr (names_ne r)
  | cons n l => exact ⟨n, l, rfl, by rw [names, if_neg h, hr]; rfl⟩
theorem names_slash (a b : T) : names (a ++ 47 :: b) = names a ++ names b := by
  induction a with
  | nil => simp [names]
  | cons c a ih =>
    by_cases h : c = 47
    · subst h; rw [List.cons_append, names, if_pos rfl, ih, names, if_pos rfl]; rfl
    · obtain ⟨n, l, e1, e2⟩ := names_cons c a h
      rw [List.cons_append, names, if_neg h, ih, e2, e1]; rfl
theorem names_free {n : T} (h : 47 ∉ n) : names n = [n] := by
  induction n with
  | nil => rfl
  | cons c r ih =>
    have hc : c ≠ 47 := fun e => h (by rw [e]; exact List.mem_cons_self ..)
    rw [names, if_neg hc, ih fun hm => h (List.mem_cons_of_mem _ hm)]; rfl
theorem names_mem_free : ∀ (s n : T), n ∈ names s → 47 ∉ n
  | [], n, h => by simp [names] at h; subst h; simp
  | c :: r, n, h => by
    by_cases hc : c = 47
    · rw [names, if_pos hc] at h
      rcases List.mem_cons.1 h with rfl | h
      · simp
      · exact names_mem_free r n h
    · obtain ⟨m, l, e1, e2⟩ := names_cons c r hc
      rw [e2] at h
      rcases List.mem_cons.1 h with rfl | h
      · have := names_mem_free r m (by rw [e1]; exact List.mem_cons_self ..)
        simp only [List.mem_cons, not_or]
        exact ⟨fun e => hc e.symm, this⟩
      · exact names_mem_free r n (by rw [e1]; exact List.mem_cons_of_mem _ h)
theorem join_cons (n : T) {r : List T} (h : r ≠ []) : join (n :: r) = n ++ 47 :: join r := by
  cases r with
  | nil => exact absurd rfl h
  | cons m r => rfl
theorem join_names (s : T) : join (names s) = s := by
  induction s with
  | nil => rfl
  | cons c r ih =>
    by_cases hc : c = 47
    · rw [names, if_pos hc, join_cons _ (names_ne r), ih, hc]; rfl
    · obtain ⟨m, l, e1, e2⟩ := names_cons c r hc
      rw [e2]
      rw [e1] at ih
      cases l with
      | nil => simp only [join] at ih ⊢; rw [ih]
      | cons k l => simp only [join] at ih ⊢; rw [List.cons_append, ih]
theorem names_join : ∀ (l : List T), l ≠ [] → (∀ n ∈ l, 47 ∉ n) → names (join l) = l
  | [], h, _ => absurd rfl h
  | [n], _, h => by rw [join]; exact names_free (h n (List.mem_cons_self ..))
  | n :: m :: r, _, h => by
    rw [join, names_slash, names_free (h n (List.mem_cons_self ..)), names_join (m :: r) (by simp) fun x hx => h x (List.mem_cons_of_mem _ hx)]; rfl
theorem join_append (a b : List T) (ha : a ≠ []) (hb : b ≠ []) : join (a ++ b) = join a ++ 47 :: join b := by
  induction a with
  | nil => exact absurd rfl ha
  | cons n a ih =>
    cases a with
    | nil => rw [List.cons_append, List.nil_append, join_cons n hb]; rfl
    | cons m a =>
      rw [List.cons_append, join_cons n (by simp), ih (by simp), join_cons n (by simp), List.append_assoc, List.cons_append]
theorem join_lib (xs : List T) : Lib.join xs [47] = join xs := by
  induction xs with
  | nil => rfl
  | cons n r ih =>
    cases r with
    | nil => rw [Lib.join_one]; rfl
    | cons m r =>
      rw [join, ← ih, Lib.join_cons, Lib.join_cons]
      simp [Lib.joinTail]
theorem names_inj {a b : T} (h : names a = names b) : a = b := by rw [← join_names a, h, join_names]
theorem names_one {s n : T} (h : names s = [n]) : s = n := by have := join_names s; rw [h] at this; exact this.symm
theorem names_length (s : T) : (names s).length = s.count 47 + 1 := by
  induction s with
  | nil => rfl
  | cons c r ih =>
    by_cases hc : c = 47
    · subst hc; rw [names, if_pos rfl, List.length_cons, ih, List.count_cons_self]
    · obtain ⟨m, l, e1, e2⟩ := names_cons c r hc
      rw [e2, List.length_cons, List.count_cons_of_ne hc, ← ih, e1, List.length_cons]
/- the first place of a byte -/
theorem index_one (s : T) (c : UInt8) : (Lib.index s [c] = -1 ∧ c ∉ s) ∨ (∃ a b, Lib.index s [c] = (a.length : Int) ∧ s = a ++ c :: b ∧ c ∉ a) := by
  induction s with
  | nil => exact .inl ⟨rfl, by simp⟩
  | cons d r ih =>
    by_cases h : c = d
    · subst h
      refine .inr ⟨[], r, ?_, rfl, by simp⟩
      rw [Lib.index, if_pos (by simp)]; rfl
    · have hp : ¬ ([c].isPrefixOf (d :: r) = true) := by simp [h]
      rcases ih with ⟨e, hn⟩ | ⟨a, b, e, rfl, hn⟩
      · refine .inl ⟨?_, by simp only [List.mem_cons, not_or]; exact ⟨h, hn⟩⟩
        rw [Lib.index, if_neg hp, e]; rfl
      · refine .inr ⟨d :: a, b, ?_, rfl, by simp only [List.mem_cons, not_or]; exact ⟨h, hn⟩⟩
        rw [Lib.index, if_neg hp, e, if_neg (by simp only [beq_iff_eq]; omega), List.length_cons]; omega
theorem indexByte_one (s : T) (c : UInt8) : (Lib.indexByte s c = -1 ∧ c ∉ s) ∨ (∃ a b, Lib.indexByte s c = (a.length : Int) ∧ s = a ++ c :: b ∧ c ∉ a) := by
  induction s with
  | nil => exact .inl ⟨rfl, by simp⟩
  | cons d r ih =>
    by_cases h : c = d
    · subst h
      refine .inr ⟨[], r, ?_, rfl, by simp⟩
      rw [Lib.indexByte, if_pos (by simp)]; rfl
    · have hp : ¬ ((d == c) = true) := by simp only [beq_iff_eq]; exact fun e => h e.symm
      rcases ih with ⟨e, hn⟩ | ⟨a, b, e, rfl, hn⟩
      · refine .inl ⟨?_, by simp only [List.mem_cons, not_or]; exact ⟨h, hn⟩⟩
        rw [Lib.indexByte, if_neg hp, e]; rfl
      · refine .inr ⟨d :: a, b, ?_, rfl, by simp only [List.mem_cons, not_or]; exact ⟨h, hn⟩⟩
        rw [Lib.indexByte, if_neg hp, e, if_neg (by simp only [beq_iff_eq]; omega), List.length_cons]; omega
theorem split_names : ∀ (k : Nat) (s : T), s.length ≤ k → Lib.split s [47] = names s
  | k, s, hk => by
    unfold Lib.split
    rcases index_one s 47 with ⟨e, hn⟩ | ⟨a, b, e, rfl, hn⟩
    · rw [Lib.count_miss e, names_free hn]; rfl
    · have hl : (a ++ 47 :: b).length = a.length + (b.length + 1) := by simp
      match k with
      | 0 => omega
      | k + 1 =>
        have ih := split_names k b (by omega)
        unfold Lib.split at ih
        rw [Lib.count_hit (by simp) e, show (a ++ 47 :: b).drop (a.length + [(47 : UInt8)].length) = b by rw [List.drop_append]; simp, Nat.add_comm, Lib.splitK, e, if_neg (by simp only [beq_iff_eq]; omega), names_slash, names_free hn]
        rw [show ((a.length : Int).toNat + 0) = a.length by omega, show (a ++ 47 :: b).take a.length = a by simp, show (a ++ 47 :: b).drop ((a.length : Int).toNat + [(47 : UInt8)].length) = b by rw [List.drop_append]; simp, ih]
        rfl
theorem data_toList_get (s : ByteArray) (j : Nat) (h : j < s.size) : ((s.data[j]!).toNat : Int) = ((s.data.toList[j]'(by simpa using h)).toNat : Int) := by
  have : j < s.data.size := h
  rw [getElem!_pos s.data j this]; simp
/- the last place of a byte -/
theorem lastIdx_free (s : ByteArray) (c : UInt8) (hn : c ∉ s.data.toList) : Lib.lastIndexByte s (c.toNat : Int) = -1 := by
  rcases Lib.lastIndexByte_spec s (c.toNat : Int) with ⟨e, _⟩ | ⟨i, hi, _, h2, _⟩
  · exact e
  · exfalso
    rw [data_toList_get s i hi] at h2
    refine hn ?_
    have : s.data.toList[i]'(by simpa using hi) = c := UInt8.toNat.inj (by omega)
    rw [← this]; exact List.getElem_mem _
theorem lastIdx_at (s : ByteArray) (c : UInt8) (a b : T) (hs : s.data.toList = a ++ c :: b) (hn : c ∉ b) : Lib.lastIndexByte s (c.toNat : Int) = (a.length : Int) := by
  have hsz : s.size = a.length + (b.length + 1) := by
    have : s.size = s.data.toList.length := (Array.length_toList ..).symm
    rw [this, hs]; simp
  rcases Lib.lastIndexByte_spec s (c.toNat : Int) with ⟨_, h⟩ | ⟨i, hi, e, h2, h3⟩
  · exfalso
    have := h a.length (by omega)
    rw [data_toList_get s _ (by omega)] at this
    refine this ?_
    congr 2
    simp [hs]
  · rw [e]
    rw [data_toList_get s i hi] at h2
    have h2' : s.data.toList[i]'(by simpa using hi) = c := UInt8.toNat.inj (by omega)
    by_cases h : i < a.length
    · exfalso
      have := h3 a.length h (by omega)
      rw [data_toList_get s _ (by omega)] at this
      refine this ?_
      congr 2
      simp [hs]
    · by_cases h' : i = a.length
      · rw [h']
      · exfalso
        refine hn ?_
        have : s.data.toList[i]? = some c := by rw [List.getElem?_eq_getElem (by simpa using hi), h2']
        rw [hs, List.getElem?_append_right (by omega)] at this
        have hj : i - a.length = (i - a.length - 1) + 1 := by omega
        rw [hj, List.getElem?_cons_succ] at this
        exact List.mem_of_getElem? this
/- parted at the last / -/
theorem last_slash (s : T) : (47 ∉ s) ∨ (∃ a b, s = a ++ 47 :: b ∧ 47 ∉ b) := by
  induction s with
  | nil => exact .inl (by simp)
  | cons c r ih =>
    rcases ih with h | ⟨a, b, rfl, h⟩
    · by_cases hc : c = 47
      · subst hc; exact .inr ⟨[], r, rfl, h⟩
      · exact .inl (by simp only [List.mem_cons, not_or]; exact ⟨fun e => hc e.symm, h⟩)
    · exact .inr ⟨c :: a, b, rfl, h⟩
end Pm
end Go.Proofs.YtealbeblkilibaaDoor
/- Proved: paths, their kinds, directories and order, by plain lists of bytes. No program, no world. -/
namespace Go.Proofs.YtealbeblkilibaaDoor
namespace Pm
def sign (b : UInt8) : Bool := (decide (97 ≤ b.toNat) && decide (b.toNat ≤ 122)) || (decide (48 ≤ b.toNat) && decide (b.toNat ≤ 57)) || decide (b.toNat = 95) || decide (b.toNat = 45) || decide (b.toNat = 126)
def plain (l : T) : Bool := l.all sign && !l.isEmpty
def head (l : T) : T := (Lib.cut l [46]).1
def tail (l : T) : T := (Lib.cut l [46]).2.1
def parted (l : T) : Bool := (Lib.cut l [46]).2.2
def nk (l : T) : Nat := if 24 < l.length then 0 else if plain (head l) = false then 0 else if parted l = false then 1 else if plain (tail l) = false then 0 else 2
/- its directories' names, and its last one -/
def good (l : List T) : Bool := l.dropLast.all (nk · == 1) && nk (l.getLastD []) != 0
def kind (p : T) : Nat × Nat :=
  if 96 < p.length then (0, 3) else if p = [] then (1, 0) else if good (names p) = false then (0, 18) else if 8 < (names p).length then (0, 7) else (nk ((names p).getLastD []), 0)
def isP (p : T) : Bool := (kind p).2 == 0
def checked (p : T) : T × Nat := if (kind p).2 = 0 then (p, 0) else ([], (kind p).2)
/- names, the ones that are . and .. taken away -/
def walk : List T → List T → Option (List T)
  | [], st => some st
  | n :: r, st => if n = [] ∨ n = [46] then walk r st else if n = [46, 46] then (if st = [] then none else walk r st.dropLast) else walk r (st ++ [n])
def clean (s : T) : T × Nat := if 4096 < s.length then ([], 3) else match walk (names s) [] with
  | none => ([], 18)
  | some l => checked (join l)
def parent (p : T) : Option T := if p = [] ∨ isP p = false then none else some (join (names p).dropLast)
def last (p : T) : T := if isP p then (names p).getLastD [] else []
def split (p : T) : List T := if p = [] ∨ isP p = false then [] else names p
def upsAt (l : List T) : Nat → List T
  | 0 => []
  | k + 1 => join (l.take k) :: upsAt l k
def ups (p : T) : List T := upsAt (split p) (split p).length
def below (dir p : T) : Bool := (ups p).contains dir
def rank (b : UInt8) : Int := if b = 47 then -1 else (b.toNat : Int)
def cmp : T → T → Int
  | [], [] => 0
  | [], _ :: _ => -1
  | _ :: _, [] => 1
  | a :: r, b :: t => if a = b then cmp r t else Lib.compareInt (rank a) (rank b)
def chain (p n : T) : T := if p = [] ∨ n = [] then p ++ n else p ++ 47 :: n
def joined (dir n : T) : T × Nat := if (kind dir).2 ≠ 0 then ([], (kind dir).2) else if (kind dir).1 = 2 then ([], 13) else if n = [] ∨ 47 ∈ n then ([], 18) else checked (chain dir n)
def copyOf (p : T) (n : Nat) : T := head p ++ 126 :: Lib.decDigits n ++ 46 :: tail p
def copy (p : T) (n : Int) : T × Nat := if (kind p).1 = 2 ∧ 1 ≤ n ∧ n ≤ 999 then checked (copyOf p n.toNat) else ([], 2)
/- ---- parted at the first . ---- -/
theorem cut_free {l : T} (h : 46 ∉ l) : Lib.cut l [46] = (l, [], false) := by
  rcases index_one l 46 with ⟨e, _⟩ | ⟨a, b, _, rfl, _⟩
  · rw [Lib.cut, e]; rfl
  · exact absurd (by simp) h
theorem cut_at {a b : T} (h : 46 ∉ a) : Lib.cut (a ++ 46 :: b) [46] = (a, b, true) := by
  rcases index_one (a ++ 46 :: b) 46 with ⟨_, hn⟩ | ⟨a', b', e, he, hn⟩
  · exact absurd (by simp) hn
  · have hl : a.length = a'.length := by
      have h1 : ∀ {x y : T} {u v : T}, x ++ (46 : UInt8) :: u = y ++ 46 :: v → (46 : UInt8) ∉ x → (46 : UInt8) ∉ y → x.length = y.length := by
        intro x
        induction x with
        | nil =>
          intro y u v hxy _ hy
          cases y with
          | nil => rfl
          | cons c y => simp at hxy; exact absurd (by rw [← hxy.1]; simp) hy
        | cons c x ih =>
          intro y u v hxy hx hy
          cases y with
          | nil => simp at hxy; exact absurd (by rw [hxy.1]; simp) hx
          | cons d y =>
            simp only [List.cons_append, List.cons.injEq] at hxy
            simp only [List.length_cons, Nat.add_right_cancel_iff]
            exact ih hxy.2 (fun h => hx (List.mem_cons_of_mem _ h)) (fun h => hy (List.mem_cons_of_mem _ h))
      exact h1 he h hn
    have h2 : Lib.index (a ++ 46 :: b) [46] = (a.length : Int) := by rw [e, hl]
    rw [Lib.cut, h2, if_pos (by omega)]
    simp [List.drop_append]
theorem cut_cases (l : T) : (46 ∉ l ∧ head l = l ∧ tail l = [] ∧ parted l = false) ∨ (∃ a b, l = a ++ 46 :: b ∧ 46 ∉ a ∧ head l = a ∧ tail l = b ∧ parted l = true) := by
  rcases index_one l 46 with ⟨_, hn⟩ | ⟨a, b, _, rfl, hn⟩
  · exact .inl ⟨hn, by rw [head, cut_free hn], by rw [tail, cut_free hn], by rw [parted, cut_free hn]⟩
  · exact .inr ⟨a, b, rfl, hn, by rw [head, cut_at hn], by rw [tail, cut_at hn], by rw [parted, cut_at hn]⟩
theorem sign_dot : sign 46 = false := by decide
theorem sign_slash : sign 47 = false := by decide
theorem plain_mem {l : T} (h : plain l = true) {b : UInt8} (hb : b ∈ l) : sign b = true := by
  simp only [plain, Bool.and_eq_true, List.all_eq_true] at h
  exact h.1 b hb
theorem plain_ne {l : T} (h : plain l = true) : l ≠ [] := by
  rintro rfl
  simp [plain] at h
theorem plain_free {l : T} (h : plain l = true) : 46 ∉ l := fun hm => by
  have := plain_mem h hm
  rw [sign_dot] at this; cases this
theorem plain_noslash {l : T} (h : plain l = true) : 47 ∉ l := fun hm => by
  have := plain_mem h hm
  rw [sign_slash] at this; cases this
/- a directory's name, a file's name -/
theorem nk_one {l : T} (h : nk l = 1) : l.length ≤ 24 ∧ plain l = true := by
  unfold nk at h
  split at h
  · cases h
  · split at h
    · cases h
    · rename_i h1 h2
      rcases cut_cases l with ⟨_, e, _, _⟩ | ⟨a, b, rfl, _, _, _, hp⟩
      · rw [e] at h2; exact ⟨by omega, by simpa using h2⟩
      · rw [hp] at h
        split at h
        · rename_i h3; cases h3
        · split at h <;> cases h
theorem nk_two {l : T} (h : nk l = 2) : l.length ≤ 24 ∧ ∃ a b, l = a ++ 46 :: b ∧ plain a = true ∧ plain b = true := by
  unfold nk at h
  split at h
  · cases h
  · split at h
    · cases h
    · split at h
      · cases h
      · split at h
        · cases h
        · rename_i h1 h2 h3 h4
          rcases cut_cases l with ⟨_, _, _, e⟩ | ⟨a, b, rfl, _, ea, eb, hp⟩
          · exact absurd e h3
          · rw [ea] at h2; rw [eb] at h4
            exact ⟨by omega, a, b, rfl, by simpa using h2, by simpa using h4⟩
theorem nk_of_plain {l : T} (h : plain l = true) (hl : l.length ≤ 24) : nk l = 1 := by
  rcases cut_cases l with ⟨_, e, _, e'⟩ | ⟨a, b, rfl, _, _, _, _⟩
  · unfold nk; rw [if_neg (by omega), e, if_neg (by simp [h]), if_pos e']
  · exact absurd (by simp) (plain_free h)
theorem nk_of_two {a b : T} (ha : plain a = true) (hb : plain b = true) (hl : (a ++ 46 :: b).length ≤ 24) : nk (a ++ 46 :: b) = 2 := by
  unfold nk head parted tail
  rw [cut_at (plain_free ha), if_neg (by omega), if_neg (by simp [ha]), if_neg (by simp), if_neg (by simp [hb])]
theorem nk_cases (l : T) : nk l = 0 ∨ nk l = 1 ∨ nk l = 2 := by
  unfold nk
  (repeat' split) <;> simp
theorem nk_ne_nil {l : T} (h : nk l ≠ 0) : l ≠ [] := by
  rintro rfl
  exact h (by decide)
theorem nk_free {l : T} (h : nk l ≠ 0) : 47 ∉ l := by
  rcases nk_cases l with e | e | e
  · exact absurd e h
  · exact plain_noslash (nk_one e).2
  · obtain ⟨_, a, b, rfl, ha, hb⟩ := nk_two e
    simp only [List.mem_append, List.mem_cons, not_or]
    exact ⟨plain_noslash ha, by decide, plain_noslash hb⟩
theorem nk_dots {l : T} (h : nk l ≠ 0) : l ≠ [] ∧ l ≠ [46] ∧ l ≠ [46, 46] := by
  refine ⟨nk_ne_nil h, ?_, ?_⟩
  · rintro rfl; exact h (by decide)
  · rintro rfl; exact h (by decide)
/- ---- paths ---- -/
theorem kind_root : kind [] = (1, 0) := by decide
theorem isP_root : isP [] = true := by decide
theorem kind_le (p : T) : (kind p).1 ≤ 2 := by
  unfold kind
  have := nk_cases ((names p).getLastD [])
  (repeat' split) <;> first | decide | (show nk _ ≤ 2; omega)
structure Path (p : T) : Prop where
  ne : p ≠ []
  len : p.length ≤ 96
  deep : (names p).length ≤ 8
  ok : good (names p) = true
theorem isP_iff (p : T) : isP p = true ↔ p = [] ∨ Path p := by
  unfold isP
  constructor
  · intro h
    by_cases hp : p = []
    · exact .inl hp
    · unfold kind at h
      split at h
      · simp at h
      · split at h
        · simp at h
        · split at h
          · simp at h
          · exact .inr ⟨hp, by omega, by omega, by simp_all⟩
  · rintro (rfl | h)
    · decide
    · unfold kind
      rw [if_neg (by have := h.len; omega), if_neg h.ne, if_neg (by rw [h.ok]; decide), if_neg (by have := h.deep; omega)]
      rfl
theorem kind_of_path {p : T} (h : Path p) : kind p = (nk ((names p).getLastD []), 0) := by
  unfold kind
  rw [if_neg (by have := h.len; omega), if_neg h.ne, if_neg (by rw [h.ok]; decide), if_neg (by have := h.deep; omega)]
theorem not_isP {p : T} (h : isP p = false) : (kind p).1 = 0 ∧ (kind p).2 ≠ 0 := by
  have h2 : (kind p).2 ≠ 0 := by unfold isP at h; simpa using h
  refine ⟨?_, h2⟩
  unfold kind at h2 ⊢
  (repeat' split) <;> simp_all
theorem good_last {l : List T} (h : good l = true) : nk (l.getLastD []) ≠ 0 := by
  simp only [good, Bool.and_eq_true, bne_iff_ne] at h
  exact h.2
theorem good_dir {l : List T} (h : good l = true) {n : T} (hn : n ∈ l.dropLast) : nk n = 1 := by
  simp only [good, Bool.and_eq_true, List.all_eq_true, beq_iff_eq] at h
  exact h.1 n hn
theorem mem_last {l : List T} {n : T} (hn : n ∈ l) : n ∈ l.dropLast ∨ n = l.getLastD [] := by
  have hne : l ≠ [] := List.ne_nil_of_mem hn
  rw [← List.dropLast_concat_getLast hne] at hn
  rcases List.mem_append.1 hn with h | h
  · exact .inl h
  · rw [List.mem_singleton] at h
    refine .inr ?_
    rw [h, List.getLastD_eq_getLast?, List.getLast?_eq_some_getLast hne]; rfl
theorem good_nk {l : List T} (h : good l = true) {n : T} (hn : n ∈ l) : nk n ≠ 0 := by
  rcases mem_last hn with h' | h'
  · rw [good_dir h h']; decide
  · rw [h']; exact good_last h
theorem good_dirs {l : List T} (hne : l ≠ []) (h : ∀ n ∈ l, nk n = 1) : good l = true := by
  simp only [good, Bool.and_eq_true, List.all_eq_true, beq_iff_eq, bne_iff_ne]
  refine ⟨fun n hn => h n (List.dropLast_subset l hn), ?_⟩
  rw [List.getLastD_eq_getLast?, List.getLast?_eq_some_getLast hne, Option.getD_some, h _ (List.getLast_mem hne)]
  decide
/- a beginning of a path's names -/
theorem join_take_length (l : List T) (k : Nat) : (join (l.take k)).length ≤ (join l).length := by
  by_cases h : k < l.length
  · by_cases hk : k = 0
    · subst hk; simp [join]
    · have e : l = l.take k ++ l.drop k := (List.take_append_drop k l).symm
      have h1 : l.take k ≠ [] := by intro hh; rw [List.take_eq_nil_iff] at hh; rcases hh with h' | h'; exact hk h'; subst h'; simp at h
      have h2 : l.drop k ≠ [] := by intro hh; rw [List.drop_eq_nil_iff] at hh; omega
      have e2 : (join l).length = (join (l.take k ++ l.drop k)).length := by rw [← e]
      rw [e2, join_append _ _ h1 h2]; simp
  · rw [List.take_of_length_le (by omega)]; omega
theorem path_take {p : T} (h : Path p) {k : Nat} (h0 : 0 < k) (hk : k < (names p).length) : Path (join ((names p).take k)) ∧ names (join ((names p).take k)) = (names p).take k ∧ ∀ n ∈ (names p).take k, nk n = 1 := by
  have hd : ∀ n ∈ (names p).take k, nk n = 1 := fun n hn => good_dir h.ok (by
    rw [List.dropLast_eq_take]
    have : (names p).take k = ((names p).take ((names p).length - 1)).take k := by rw [List.take_take, Nat.min_eq_left (by omega)]
    rw [this] at hn
    exact List.mem_of_mem_take hn)
  have hne : (names p).take k ≠ [] := by intro hh; rw [List.take_eq_nil_iff] at hh; rcases hh with h' | h'; omega; exact names_ne p h'
  have hnm : names (join ((names p).take k)) = (names p).take k := names_join _ hne fun n hn => nk_free (by rw [hd n hn]; decide)
  have hdp := h.deep
  refine ⟨⟨?_, ?_, ?_, ?_⟩, hnm, hd⟩
  · intro hh
    rw [hh] at hnm
    have := hd [] (by rw [← hnm]; simp [names])
    revert this; decide
  · have := join_take_length (names p) k
    rw [join_names] at this
    have := h.len; omega
  · rw [hnm, List.length_take]; omega
  · rw [hnm]; exact good_dirs hne hd
theorem kind_dir {p : T} (h : Path p) (hd : ∀ n ∈ names p, nk n = 1) : kind p = (1, 0) := by
  rw [kind_of_path h, List.getLastD_eq_getLast?, List.getLast?_eq_some_getLast (names_ne p), Option.getD_some, hd _ (List.getLast_mem _)]
theorem split_root : split [] = [] := by simp [split]
theorem split_no {p : T} (h : isP p = false) : split p = [] := by simp [split, h]
theorem split_path {p : T} (h : Path p) : split p = names p := by
  unfold split
  rw [if_neg]
  rintro (h' | h')
  · exact h.ne h'
  · rw [(isP_iff p).2 (.inr h)] at h'; cases h'
theorem parent_root : parent [] = none := by simp [parent]
theorem parent_no {p : T} (h : isP p = false) : parent p = none := by simp [parent, h]
theorem parent_path {p : T} (h : Path p) : parent p = some (join (names p).dropLast) := by
  unfold parent
  rw [if_neg]
  rintro (h' | h')
  · exact h.ne h'
  · rw [(isP_iff p).2 (.inr h)] at h'; cases h'
theorem cases_isP (p : T) : p = [] ∨ isP p = false ∨ Path p := by
  cases h : isP p with
  | false => exact .inr (.inl rfl)
  | true => rcases (isP_iff p).1 h with h' | h'; exact .inl h'; exact .inr (.inr h')
theorem upsAt_take (l : List T) : ∀ (k m : Nat), k ≤ m → upsAt (l.take m) k = upsAt l k
  | 0, _, _ => rfl
  | k + 1, m, h => by
    rw [upsAt, upsAt, upsAt_take l k m (by omega), List.take_take, Nat.min_eq_left (by omega)]
/- the directories: the parent first, then its own -/
theorem ups_none {p : T} (h : parent p = none) : ups p = [] := by
  rcases cases_isP p with rfl | h' | h'
  · simp [ups, split_root, upsAt]
  · simp [ups, split_no h', upsAt]
  · rw [parent_path h'] at h; cases h
theorem ups_some {p q : T} (h : parent p = some q) : ups p = q :: ups q := by
  rcases cases_isP p with rfl | h' | h'
  · rw [parent_root] at h; cases h
  · rw [parent_no h'] at h; cases h
  · rw [parent_path h', Option.some.injEq] at h
    have hl : 0 < (names p).length := List.length_pos_iff.2 (names_ne p)
    unfold ups
    rw [split_path h']
    obtain ⟨m, hm⟩ : ∃ m, (names p).length = m + 1 := ⟨_, (Nat.succ_pred_eq_of_pos hl).symm⟩
    rw [hm, upsAt, ← h, List.dropLast_eq_take, hm, Nat.add_sub_cancel]
    congr 1
    by_cases h0 : m = 0
    · subst h0
      rw [List.take_zero]
      simp [join, split_root, upsAt]
    · obtain ⟨hp, hn, _⟩ := path_take h' (k := m) (by omega) (by omega)
      rw [split_path hp, hn, List.length_take, Nat.min_eq_left (by omega), upsAt_take _ _ _ (Nat.le_refl _)]
theorem parent_shorter {p q : T} (h : parent p = some q) : q.length < p.length := by
  rcases cases_isP p with rfl | h' | h'
  · rw [parent_root] at h; cases h
  · rw [parent_no h'] at h; cases h
  · rw [parent_path h', Option.some.injEq] at h
    subst h
    rcases last_slash p with hn | ⟨a, b, rfl, hn⟩
    · rw [names_free hn]
      have := List.length_pos_iff.2 h'.ne
      simpa [join] using this
    · rw [names_slash, names_free hn, List.dropLast_concat, join_names]; simp
/- as the program finds it: up to the last / -/
theorem parent_cut {p : T} (h : Path p) : (47 ∉ p ∧ parent p = some [] ∧ last p = p) ∨ (∃ a b, p = a ++ 47 :: b ∧ 47 ∉ b ∧ parent p = some a ∧ last p = b) := by
  have hi : isP p = true := (isP_iff p).2 (.inr h)
  rcases last_slash p with hn | ⟨a, b, rfl, hn⟩
  · refine .inl ⟨hn, ?_, ?_⟩
    · rw [parent_path h, names_free hn]; rfl
    · rw [last, if_pos hi, names_free hn]; rfl
  · refine .inr ⟨a, b, rfl, hn, ?_, ?_⟩
    · rw [parent_path h, names_slash, names_free hn, List.dropLast_concat, join_names]
    · rw [last, if_pos hi, names_slash, names_free hn, List.getLastD_concat]
end Pm
end Go.Proofs.YtealbeblkilibaaDoor
/- Proved: what the walks of this seat share: the tables that the program's text lays, and a byte's place among the signs. -/
namespace Go.Proofs.YtealbeblkilibaaDoor
open Go.RowKit
structure Is {α : Type} (a b : α) : Prop where
  eq : a = b
def V8 (n : Nat) : Value := .int .u8 (n : Nat)
def sg : List Nat := [97, 122, 48, 57, 95, 95, 45, 45, 126, 126]
/- the tables, and a number of the library's own -/
structure Tab (w : World) : Prop where
  max : ∃ m, w.cell? ⟨1, 0, none⟩ = some (.int .i64 m)
  sig : w.rangeAt 0 0 (sg.map V8)
theorem Tab.posM {w : World} (h : Tab w) : 1 < w.heap.size := by
  obtain ⟨m, hm⟩ := h.max
  exact block_lt_of_cell hm
theorem Tab.posS {w : World} (h : Tab w) : 0 < w.heap.size := block_lt_of_cell (h.sig 0 (.int .u8 97) rfl)
theorem Tab.below {w w' : World} (hT : Tab w) (hb : Below w.heap.size w w') : Tab w' := by
  refine ⟨?_, fun j v hv => ?_⟩
  · obtain ⟨m, hm⟩ := hT.max
    exact ⟨m, (hb.cell (p := ⟨1, 0, none⟩) hT.posM).trans hm⟩
  · exact (hb.cell (p := ⟨0, 0 + j, none⟩) hT.posS).trans (hT.sig j v hv)
theorem Tab.part {w w' : World} (hT : Tab w) {B : Nat} (hB : w.heap.size ≤ B) (hb : Below B w w') : Tab w' := hT.below (hb.mono hB)
def signN (n : Nat) : Bool := (decide (97 ≤ n) && decide (n ≤ 122)) || (decide (48 ≤ n) && decide (n ≤ 57)) || decide (n = 95) || decide (n = 45) || decide (n = 126)
theorem size81 : (Tryd.prog.info? 133).map (·.size) = some 10 := by kernel_rfl
set_option maxHeartbeats 1000000 in
set_option maxRecDepth 20000 in
theorem isSign_nat (n : Nat) (w : World) (hn : n < 256) (hT : Tab w) :
    Calls Tryd.prog 89 #[.int .u8 (n : Int)] w fun e w' => e = .returned (.bool (signN n)) ∧ Below w.heap.size w w' := by
  have HT : Hid (Tab w) := hT
  clear hT
  go_enter Tryd.func89, Tryd.ntmps89
  go_wp2_with (first | (refine wpList_load_mid rfl 133 _ rfl 0 0 rfl (sg.map V8) _ HT.out.sig Tryd.underlying133 rfl (by rw [size81]; rfl) ?_))
  have ix0 : ∀ W : World, (Instr.index 133 (.agg (sg.map V8).toArray) (.int .i64 0)).run Tryd.prog W = .ok (.agg #[.int .u8 97, .int .u8 122]) W := fun W => by kernel_rfl
  have ix1 : ∀ W : World, (Instr.index 133 (.agg (sg.map V8).toArray) (.int .i64 1)).run Tryd.prog W = .ok (.agg #[.int .u8 48, .int .u8 57]) W := fun W => by kernel_rfl
  have ix2 : ∀ W : World, (Instr.index 133 (.agg (sg.map V8).toArray) (.int .i64 2)).run Tryd.prog W = .ok (.agg #[.int .u8 95, .int .u8 95]) W := fun W => by kernel_rfl
  have ix3 : ∀ W : World, (Instr.index 133 (.agg (sg.map V8).toArray) (.int .i64 3)).run Tryd.prog W = .ok (.agg #[.int .u8 45, .int .u8 45]) W := fun W => by kernel_rfl
  have ix4 : ∀ W : World, (Instr.index 133 (.agg (sg.map V8).toArray) (.int .i64 4)).run Tryd.prog W = .ok (.agg #[.int .u8 126, .int .u8 126]) W := fun W => by kernel_rfl
  generalize (sg.map V8).toArray = A at *
  go_loopw [4, 6] (fun _ i wr => ∃ k : Nat, k ≤ 5 ∧ i = .int .i64 k ∧ (∀ j, j < k → ¬ (sg.getD (2 * j) 0 ≤ n ∧ n ≤ sg.getD (2 * j + 1) 0)) ∧ Below w.heap.size w wr) (fun _ i _ => 5 - (intOf i).toNat)
  case atStart => exact ⟨0, by omega, rfl, fun j hj => by omega, Below.refl _ _⟩
  case round =>
    obtain ⟨k, hk, rfl, hj, hB⟩ := hrel
    have HB : Hid (Below w.heap.size w wr) := hB
    have hsz := hB.size
    have HJ : Hid (∀ j, j < k → ¬ (sg.getD (2 * j) 0 ≤ n ∧ n ≤ sg.getD (2 * j + 1) 0)) := hj
    have HBX : ∀ cs : Array Value, Below w.heap.size w (wr.alloc (.cells cs 132)) := fun cs => HB.out.trans (((Below.refl _ wr).alloc (Nat.le_refl _) _).mono hsz)
    clear hB hj
    have h5 : k = 0 ∨ k = 1 ∨ k = 2 ∨ k = 3 ∨ k = 4 ∨ k = 5 := by omega
    rcases h5 with rfl | rfl | rfl | rfl | rfl | rfl
    · by_cases ha : 97 ≤ n
      · have ha' : (97 : Int) ≤ (n : Int) := by omega
        by_cases hb : n ≤ 122
        · have hb' : (n : Int) ≤ 122 := by omega
          go_wp2
          go_ret
          refine ⟨?_, HBX _⟩
          have : signN n = true := by
            unfold signN
            simp only [Bool.or_eq_true, Bool.and_eq_true, decide_eq_true_eq]
            omega
          rw [this]; rfl
        · have hb' : ¬ (n : Int) ≤ 122 := by omega
          go_wp2
          go_roundw
          case rel => exact ⟨0 + 1, by omega, by go_num, fun j hj => by
            by_cases h : j = 0
            · subst h; exact fun h => hb h.2
            · exact HJ.out j (by omega), HBX _⟩
          case measure => (simp [intOf]) <;> omega
      · have ha' : ¬ (97 : Int) ≤ (n : Int) := by omega
        go_wp2
        go_roundw
        case rel => exact ⟨0 + 1, by omega, by go_num, fun j hj => by
          by_cases h : j = 0
          · subst h; exact fun h => ha h.1
          · exact HJ.out j (by omega), HBX _⟩
        case measure => (simp [intOf]) <;> omega
    · by_cases ha : 48 ≤ n
      · have ha' : (48 : Int) ≤ (n : Int) := by omega
        by_cases hb : n ≤ 57
        · have hb' : (n : Int) ≤ 57 := by omega
          go_wp2
          go_ret
          refine ⟨?_, HBX _⟩
          have : signN n = true := by
            unfold signN
            simp only [Bool.or_eq_true, Bool.and_eq_true, decide_eq_true_eq]
            omega
          rw [this]; rfl
        · have hb' : ¬ (n : Int) ≤ 57 := by omega
          go_wp2
          go_roundw
          case rel => exact ⟨1 + 1, by omega, by go_num, fun j hj => by
            by_cases h : j = 1
            · subst h; exact fun h => hb h.2
            · exact HJ.out j (by omega), HBX _⟩
          case measure => (simp [intOf]) <;> omega
      · have ha' : ¬ (48 : Int) ≤ (n : Int) := by omega
        go_wp2
        go_roundw
        case rel => exact ⟨1 + 1, by omega, by go_num, fun j hj => by
          by_cases h : j = 1
          · subst h; exact fun h => ha h.1
          · exact HJ.out j (by omega), HBX _⟩
        case measure => (simp [intOf]) <;> omega
    · by_cases ha : 95 ≤ n
      · have ha' : (95 : Int) ≤ (n : Int) := by omega
        by_cases hb : n ≤ 95
        · have hb' : (n : Int) ≤ 95 := by omega
          go_wp2
          go_ret
          refine ⟨?_, HBX _⟩
          have : signN n = true := by
            unfold signN
            simp only [Bool.or_eq_true, Bool.and_eq_true, decide_eq_true_eq]
            omega
          rw [this]; rfl
        · have hb' : ¬ (n : Int) ≤ 95 := by omega
          go_wp2
          go_roundw
          case rel => exact ⟨2 + 1, by omega, by go_num, fun j hj => by
            by_cases h : j = 2
            · subst h; exact fun h => hb h.2
            · exact HJ.out j (by omega), HBX _⟩
          case measure => (simp [intOf]) <;> omega
      · have ha' : ¬ (95 : Int) ≤ (n : Int) := by omega
        go_wp2
        go_roundw
        case rel => exact ⟨2 + 1, by omega, by go_num, fun j hj => by
          by_cases h : j = 2
          · subst h; exact fun h => ha h.1
          · exact HJ.out j (by omega), HBX _⟩
        case measure => (simp [intOf]) <;> omega
    · by_cases ha : 45 ≤ n
      · have ha' : (45 : Int) ≤ (n : Int) := by omega
        by_cases hb : n ≤ 45
        · have hb' : (n : Int) ≤ 45 := by omega
          go_wp2
          go_ret
          refine ⟨?_, HBX _⟩
          have : signN n = true := by
            unfold signN
            simp only [Bool.or_eq_true, Bool.and_eq_true, decide_eq_true_eq]
            omega
          rw [this]; rfl
        · have hb' : ¬ (n : Int) ≤ 45 := by omega
          go_wp2
          go_roundw
          case rel => exact ⟨3 + 1, by omega, by go_num, fun j hj => by
            by_cases h : j = 3
            · subst h; exact fun h => hb h.2
            · exact HJ.out j (by omega), HBX _⟩
          case measure => (simp [intOf]) <;> omega
      · have ha' : ¬ (45 : Int) ≤ (n : Int) := by omega
        go_wp2
        go_roundw
        case rel => exact ⟨3 + 1, by omega, by go_num, fun j hj => by
          by_cases h : j = 3
          · subst h; exact fun h => ha h.1
          · exact HJ.out j (by omega), HBX _⟩
        case measure => (simp [intOf]) <;> omega
    · by_cases ha : 126 ≤ n
      · have ha' : (126 : Int) ≤ (n : Int) := by omega
        by_cases hb : n ≤ 126
        · have hb' : (n : Int) ≤ 126 := by omega
          go_wp2
          go_ret
          refine ⟨?_, HBX _⟩
          have : signN n = true := by
            unfold signN
            simp only [Bool.or_eq_true, Bool.and_eq_true, decide_eq_true_eq]
            omega
          rw [this]; rfl
        · have hb' : ¬ (n : Int) ≤ 126 := by omega
          go_wp2
          go_roundw
          case rel => exact ⟨4 + 1, by omega, by go_num, fun j hj => by
            by_cases h : j = 4
            · subst h; exact fun h => hb h.2
            · exact HJ.out j (by omega), HBX _⟩
          case measure => (simp [intOf]) <;> omega
      · have ha' : ¬ (126 : Int) ≤ (n : Int) := by omega
        go_wp2
        go_roundw
        case rel => exact ⟨4 + 1, by omega, by go_num, fun j hj => by
          by_cases h : j = 4
          · subst h; exact fun h => ha h.1
          · exact HJ.out j (by omega), HBX _⟩
        case measure => (simp [intOf]) <;> omega
    · go_wp2
      go_ret
      refine ⟨?_, HB.out⟩
      have e0 := HJ.out 0 (by omega)
      have e1 := HJ.out 1 (by omega)
      have e2 := HJ.out 2 (by omega)
      have e3 := HJ.out 3 (by omega)
      have e4 := HJ.out 4 (by omega)
      simp only [sg, List.getD_cons_zero, List.getD_cons_succ, Nat.reduceMul, Nat.reduceAdd, Nat.mul_zero, Nat.zero_add, Nat.mul_one] at e0 e1 e2 e3 e4
      have : signN n = false := by
        unfold signN
        simp only [Bool.or_eq_false_iff, Bool.and_eq_false_iff, decide_eq_false_iff_not]
        omega
      rw [this]; rfl
theorem isSign_any (b : UInt8) (w : World) (hT : Tab w) :
    Calls Tryd.prog 89 #[.int .u8 (b.toNat : Int)] w fun e w' => e = .returned (.bool (Pm.sign b)) ∧ Below w.heap.size w w' := isSign_nat b.toNat w b.toNat_lt hT
end Go.Proofs.YtealbeblkilibaaDoor
/- Proved: isPlain and nameKind answer what the names' words ask. -/
namespace Go.Proofs.YtealbeblkilibaaDoor
open Go.RowKit
abbrev bl (s : ByteArray) : List UInt8 := s.data.toList
def mk (l : List UInt8) : ByteArray := ⟨l.toArray⟩
theorem bl_mk (l : List UInt8) : bl (mk l) = l := rfl
theorem mk_bl (s : ByteArray) : mk (bl s) = s := rfl
theorem bl_length (s : ByteArray) : (bl s).length = s.size := Array.length_toList ..
theorem bl_get (s : ByteArray) (k : Nat) (h : k < s.size) : (bl s)[k]? = some (s[k]'h) := by
  have h' : k < (bl s).length := by rw [bl_length]; exact h
  rw [List.getElem?_eq_getElem h']; rfl
theorem bl_inj {s t : ByteArray} (h : bl s = bl t) : s = t := by rw [← mk_bl s, h, mk_bl]
theorem mk_size (l : List UInt8) : (mk l).size = l.length := rfl
theorem te_no {s : ByteArray} (h : s ≠ ⟨#[]⟩) : s.toList.isEmpty = false := by
  rw [ByteArray.toList_eq]
  cases h' : s.data.toList with
  | nil => exact absurd (bl_inj (t := ⟨#[]⟩) h') h
  | cons a l => rfl
theorem te_bl {s : ByteArray} (h : bl s ≠ []) : s.toList.isEmpty = false := te_no fun e => h (by rw [e])
theorem ne_mk {s : ByteArray} {l : List UInt8} (h : bl s ≠ l) : s ≠ ⟨l.toArray⟩ := fun e => h (by rw [e])
set_option maxHeartbeats 1000000 in
set_option maxRecDepth 20000 in
theorem isPlain_any (s : ByteArray) (w : World) (hs : s.size < 4294967281) (hT : Tab w) :
    Calls Tryd.prog 78 #[.string s] w fun e w' => e = .returned (.bool (Pm.plain (bl s))) ∧ Below w.heap.size w w' := by
  have HT : Hid (Tab w) := hT
  clear hT
  go_enter Tryd.func78, Tryd.ntmps78
  go_wp2_with fail
  go_loopw [3, 6] (fun _ i wr => ∃ k : Nat, k ≤ s.size ∧ i = .int .i64 k ∧ ((bl s).take k).all Pm.sign = true ∧ Below w.heap.size w wr) (fun _ i _ => s.size - (intOf i).toNat)
  case atStart => exact ⟨0, by omega, rfl, rfl, Below.refl _ _⟩
  case round =>
    obtain ⟨k, hk, rfl, ha, hB⟩ := hrel
    have HB : Hid (Below w.heap.size w wr) := hB
    have HA : Hid (((bl s).take k).all Pm.sign = true) := ha
    have hsz := hB.size
    clear hB ha
    by_cases hlt : k < s.size
    · have HG : Is ((bl s)[k]?) (some (s[k]'hlt)) := ⟨bl_get s k hlt⟩
      have HX : Is ((bl s).take (k + 1)) ((bl s).take k ++ [s[k]'hlt]) := ⟨by rw [List.take_add_one, HG.eq]; rfl⟩
      have HM : Hid (s[k]'hlt ∈ bl s) := List.mem_of_getElem? HG.eq
      have i0 : (k : Int) < (s.size : Int) := by omega
      have j0 : (0 : Int) ≤ (k : Int) := Int.natCast_nonneg _
      clear HG
      obtain ⟨b, hb⟩ : ∃ b, s[k]'hlt = b := ⟨_, rfl⟩
      have g : (s[k]'hlt).toNat = b.toNat := by rw [hb]
      rw [hb] at HX HM
      clear hb
      have HTw : Hid (Tab wr) := HT.out.below HB.out
      cases hsg : Pm.sign b with
      | true =>
        go_wp2_with (first | (go_at_call 89; refine (isSign_any b _ HTw.out).mono ?_; rintro e w1 ⟨rfl, hB1⟩))
        go_roundw
        case rel => exact ⟨k + 1, by omega, by go_num, by rw [HX.eq, List.all_append, HA.out]; simp [hsg], HB.out.trans (hB1.mono hsz)⟩
        case measure => (simp [intOf]) <;> omega
      | false =>
        go_wp2_with (first | (go_at_call 89; refine (isSign_any b _ HTw.out).mono ?_; rintro e w1 ⟨rfl, hB1⟩))
        go_ret
        refine ⟨?_, HB.out.trans (hB1.mono hsz)⟩
        have : Pm.plain (bl s) = false := by
          unfold Pm.plain
          rw [Bool.and_eq_false_iff]
          refine .inl ?_
          rw [List.all_eq_false]
          exact ⟨b, HM.out, by simp [hsg]⟩
        rw [this]; rfl
    · have hks : k = s.size := by omega
      subst hks
      have HA' : (bl s).all Pm.sign = true := by have := HA.out; rw [List.take_of_length_le (by rw [bl_length]; omega)] at this; exact this
      by_cases he : s = ⟨#[]⟩
      · subst he
        go_wp2
        go_ret
        exact ⟨rfl, HB.out⟩
      · have hP : Hid (Pm.plain (bl s) = true) := by
          show Pm.plain (bl s) = true
          unfold Pm.plain
          rw [HA']
          have : (bl s).isEmpty = false := by
            cases h : (bl s) with
            | nil => exact absurd (bl_inj (t := ⟨#[]⟩) h) he
            | cons a l => rfl
          rw [this]; rfl
        have hte : s.toList.isEmpty = false := te_no he
        clear HA HA'
        go_wp2
        go_ret
        refine ⟨?_, HB.out⟩
        rw [hP.out]; rfl
set_option maxHeartbeats 1000000 in
set_option maxRecDepth 20000 in
theorem nameKind_any (s : ByteArray) (w : World) (hs : s.size < 4294967281) (hT : Tab w) :
    Calls Tryd.prog 57 #[.string s] w fun e w' => e = .returned (.int .i64 (Pm.nk (bl s) : Nat)) ∧ Below w.heap.size w w' := by
  have HT : Hid (Tab w) := hT
  obtain ⟨m, hm⟩ := hT.max
  have HM : Hid (w.cell? ⟨1, 0, none⟩ = some (.int .i64 m)) := hm
  clear hT hm
  have hh : (mk (Pm.head (bl s))).size < 4294967281 ∧ (mk (Pm.tail (bl s))).size < 4294967281 := by
    rw [mk_size, mk_size]
    have := bl_length s
    rcases Pm.cut_cases (bl s) with ⟨_, e1, e2, _⟩ | ⟨a, b, e, _, e1, e2, _⟩
    · rw [e1, e2]; simp; omega
    · rw [e1, e2]; rw [e] at this; simp at this; omega
  have H1 : Is (bl (mk (Pm.head (bl s)))) (Pm.head (bl s)) := ⟨rfl⟩
  have H2 : Is (bl (mk (Pm.tail (bl s)))) (Pm.tail (bl s)) := ⟨rfl⟩
  have HC : Hid (∀ W : World, W.cell? ⟨1, 0, none⟩ = some (.int .i64 m) → Calls Tryd.prog 77 #[.string s, .string ⟨#[46]⟩] W fun e w' => e = .returned (.tuple #[.string (mk (Pm.head (bl s))), .string (mk (Pm.tail (bl s))), .bool (Pm.parted (bl s))]) ∧ ∃ n, w' = W.drewN n) := fun W hW => Tryd.strings_Cut s ⟨#[46]⟩ m W hs hW
  generalize mk (Pm.head (bl s)) = h at *
  generalize mk (Pm.tail (bl s)) = t at *
  go_enter Tryd.func57, Tryd.ntmps57
  go_wp2_with fail
  refine (HC.out _ HM.out).mono ?_
  rintro e w1 ⟨rfl, nd, rfl⟩
  have hBd : Below w.heap.size w (w.drewN nd) := ⟨rfl, rfl, rfl, Nat.le_refl _, fun _ _ => rfl⟩
  have HTd : Hid (Tab (w.drewN nd)) := HT.out.below hBd
  have HPh : Hid (∀ W : World, Tab W → Calls Tryd.prog 78 #[.string h] W fun e w' => e = .returned (.bool (Pm.plain (Pm.head (bl s)))) ∧ Below W.heap.size W w') := fun W hW => by rw [← H1.eq]; exact isPlain_any h W hh.1 hW
  have HPt : Hid (∀ W : World, Tab W → Calls Tryd.prog 78 #[.string t] W fun e w' => e = .returned (.bool (Pm.plain (Pm.tail (bl s)))) ∧ Below W.heap.size W w') := fun W hW => by rw [← H2.eq]; exact isPlain_any t W hh.2 hW
  clear H1 H2 HC HM
  have HN : Is (Pm.nk (bl s)) (if 24 < s.size then 0 else if Pm.plain (Pm.head (bl s)) = false then 0 else if Pm.parted (bl s) = false then 1 else if Pm.plain (Pm.tail (bl s)) = false then 0 else 2) := ⟨by rw [← bl_length s]; rfl⟩
  generalize Pm.plain (Pm.head (bl s)) = ph at *
  generalize Pm.plain (Pm.tail (bl s)) = pt at *
  generalize Pm.parted (bl s) = pd at *
  generalize w.drewN nd = w2 at *
  have HBd : Hid (Below w.heap.size w w2) := hBd
  have hsz := hBd.size
  clear hBd
  by_cases h24 : 24 < s.size
  · have h24' : (24 : Int) < (s.size : Int) := by omega
    rw [if_pos h24] at HN
    go_wp2
    go_ret
    exact ⟨by rw [HN.eq]; rfl, HBd.out⟩
  · have h24' : ¬ (24 : Int) < (s.size : Int) := by omega
    rw [if_neg h24] at HN
    cases ph with
    | false =>
      go_wp2_with (first | (go_at_call 78; refine (HPh.out _ HTd.out).mono ?_; rintro e w3 ⟨rfl, hB3⟩))
      go_ret
      exact ⟨by rw [HN.eq]; rfl, HBd.out.trans (hB3.mono hsz)⟩
    | true =>
      cases pd with
      | false =>
        go_wp2_with (first | (go_at_call 78; refine (HPh.out _ HTd.out).mono ?_; rintro e w3 ⟨rfl, hB3⟩))
        go_ret
        exact ⟨by rw [HN.eq]; rfl, HBd.out.trans (hB3.mono hsz)⟩
      | true =>
        go_wp2_with fail
        refine (HPh.out _ HTd.out).mono ?_
        rintro e w3 ⟨rfl, hB3⟩
        have HB3 : Hid (Below w.heap.size w w3) := HBd.out.trans (hB3.mono hsz)
        have HT3 : Hid (Tab w3) := HTd.out.below hB3
        have hsz3 := HB3.out.size
        clear hB3
        cases pt with
        | false =>
          go_wp2_with (first | (go_at_call 78; refine (HPt.out _ HT3.out).mono ?_; rintro e w4 ⟨rfl, hB4⟩))
          go_ret
          exact ⟨by rw [HN.eq]; rfl, HB3.out.trans (hB4.mono hsz3)⟩
        | true =>
          go_wp2_with (first | (go_at_call 78; refine (HPt.out _ HT3.out).mono ?_; rintro e w4 ⟨rfl, hB4⟩))
          go_ret
          exact ⟨by rw [HN.eq]; rfl, HB3.out.trans (hB4.mono hsz3)⟩
end Go.Proofs.YtealbeblkilibaaDoor
