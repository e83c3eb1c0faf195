/- Proved: plain facts of a disk of sectors (stage 7): what is pending, kept, read; what each call makes of it. No program is named. -/
import Derived.WalkKit
namespace Sc
/- a disk: what was kept, what is pending (which sector, what it is to have), whether it has no power, what it is armed with (-1: nothing), how much was done -/
structure St where
  kept : List ByteArray
  pend : List (Nat × ByteArray)
  down : Bool
  left : Int
  dn : Nat
def zero64 : ByteArray := ⟨Array.replicate 64 0⟩
theorem zero64_size : zero64.size = 64 := by simp [zero64, ByteArray.size]
/- a text with noughts behind it, as a sector has it -/
def fill (x : ByteArray) : ByteArray := ⟨(x.data.toList ++ List.replicate (64 - x.size) 0).toArray⟩
theorem size_eq (x : ByteArray) : x.size = x.data.toList.length := (Array.length_toList (xs := x.data)).symm
theorem fill_list (x : ByteArray) : (fill x).data.toList = x.data.toList ++ List.replicate (64 - x.size) 0 := by simp [fill]
theorem fill_size {x : ByteArray} (h : x.size ≤ 64) : (fill x).size = 64 := by
  have := size_eq x
  rw [size_eq, fill_list, List.length_append, List.length_replicate]
  omega
/- the last of the writes to sector i, or x -/
def last (i : Nat) : List (Nat × ByteArray) → ByteArray → ByteArray
  | [], x => x
  | p :: l, x => last i l (if p.1 = i then p.2 else x)
theorem last_snoc (i : Nat) (p : Nat × ByteArray) : ∀ (l : List (Nat × ByteArray)) (x : ByteArray), last i (l ++ [p]) x = if p.1 = i then p.2 else last i l x
  | [], x => rfl
  | q :: l, x => by rw [List.cons_append]; exact last_snoc i p l _
theorem last_none (i : Nat) : ∀ (l : List (Nat × ByteArray)) (x : ByteArray), (∀ p ∈ l, p.1 ≠ i) → last i l x = x
  | [], _, _ => rfl
  | p :: l, x, h => by
    unfold last
    rw [if_neg (h p List.mem_cons_self)]
    exact last_none i l x (fun q hq => h q (List.mem_cons_of_mem _ hq))
theorem last_at (i : Nat) : ∀ (l : List (Nat × ByteArray)) (x : ByteArray) (k : Nat) (p : Nat × ByteArray), l[k]? = some p → p.1 = i → (∀ q ∈ l.drop (k + 1), q.1 ≠ i) → last i l x = p.2
  | [], _, k, p, h, _, _ => by simp at h
  | q :: l, x, 0, p, h, hp, hd => by
    simp at h
    subst h
    unfold last
    rw [if_pos hp]
    exact last_none i l _ (by simpa using hd)
  | q :: l, x, k + 1, p, h, hp, hd => by
    unfold last
    exact last_at i l _ k p (by simpa using h) hp (by simpa using hd)
/- of the writes l, counted from n on, those that b marks are kept, one behind the other -/
def keepI (b : Nat → Bool) : List (Nat × ByteArray) → Nat → List ByteArray → List ByteArray
  | [], _, ks => ks
  | p :: l, n, ks => keepI b l (n + 1) (if b n then ks.set p.1 p.2 else ks)
theorem keepI_snoc (b : Nat → Bool) (p : Nat × ByteArray) : ∀ (l : List (Nat × ByteArray)) (n : Nat) (ks : List ByteArray), keepI b (l ++ [p]) n ks = if b (n + l.length) then (keepI b l n ks).set p.1 p.2 else keepI b l n ks
  | [], n, ks => rfl
  | q :: l, n, ks => by
    rw [List.cons_append]
    unfold keepI
    rw [keepI_snoc b p l (n + 1), List.length_cons, show n + 1 + l.length = n + (l.length + 1) by omega]
theorem keepI_length (b : Nat → Bool) : ∀ (l : List (Nat × ByteArray)) (n : Nat) (ks : List ByteArray), (keepI b l n ks).length = ks.length
  | [], _, _ => rfl
  | p :: l, n, ks => by
    unfold keepI
    rw [keepI_length b l]
    split <;> simp
theorem keepI_mem (b : Nat → Bool) : ∀ (l : List (Nat × ByteArray)) (n : Nat) (ks : List ByteArray) (x : ByteArray), x ∈ keepI b l n ks → x ∈ ks ∨ ∃ p ∈ l, p.2 = x
  | [], _, _, x, h => .inl h
  | p :: l, n, ks, x, h => by
    unfold keepI at h
    rcases keepI_mem b l _ _ x h with h | ⟨q, hq, e⟩
    · split at h
      · rcases List.mem_or_eq_of_mem_set h with h | h
        · exact .inl h
        · exact .inr ⟨p, List.mem_cons_self, h.symm⟩
      · exact .inl h
    · exact .inr ⟨q, List.mem_cons_of_mem _ hq, e⟩
theorem keepI_take (b : Nat → Bool) (l : List (Nat × ByteArray)) (ks : List ByteArray) (k : Nat) (p : Nat × ByteArray) (h : l[k]? = some p) : keepI b (l.take (k + 1)) 0 ks = if b k then (keepI b (l.take k) 0 ks).set p.1 p.2 else keepI b (l.take k) 0 ks := by
  have hk := (List.getElem?_eq_some_iff.1 h)
  rw [List.take_succ_eq_append_getElem hk.1, hk.2, keepI_snoc, List.length_take, Nat.min_eq_left (by have := hk.1; omega), Nat.zero_add]
theorem keepI_apart (b : Nat → Bool) (i : Nat) : ∀ (l : List (Nat × ByteArray)) (n : Nat) (ks : List ByteArray), (∀ p ∈ l, p.1 ≠ i) → (keepI b l n ks)[i]? = ks[i]?
  | [], _, _, _ => rfl
  | p :: l, n, ks, h => by
    unfold keepI
    rw [keepI_apart b i l _ _ (fun q hq => h q (List.mem_cons_of_mem _ hq))]
    split
    · rw [List.getElem?_set_ne (h p List.mem_cons_self)]
    · rfl
/- keeping all is what is read -/
theorem keepI_last (i : Nat) : ∀ (l : List (Nat × ByteArray)) (n : Nat) (ks : List ByteArray), i < ks.length → (keepI (fun _ => true) l n ks)[i]? = some (last i l (ks.getD i zero64))
  | [], _, ks, h => by
    show ks[i]? = some (ks.getD i zero64)
    rw [List.getD_eq_getElem?_getD, List.getElem?_eq_getElem h]; rfl
  | p :: l, n, ks, h => by
    unfold keepI last
    rw [if_pos rfl, keepI_last i l _ _ (by simpa using h)]
    by_cases e : p.1 = i
    · rw [if_pos e, e, List.getD_eq_getElem?_getD, List.getElem?_set_self h]; rfl
    · rw [if_neg e, List.getD_eq_getElem?_getD, List.getElem?_set_ne e, ← List.getD_eq_getElem?_getD]
/- a disk that may be -/
structure Ok (s : St) : Prop where
  one : 1 ≤ s.kept.length
  most : s.kept.length ≤ 65536
  size : ∀ x ∈ s.kept, x.size = 64
  pat : ∀ p ∈ s.pend, p.1 < s.kept.length
  psize : ∀ p ∈ s.pend, p.2.size = 64
  left : -1 ≤ s.left ∧ s.left ≤ 9223372036854775807
def made (n : Nat) : St := ⟨List.replicate n zero64, [], false, -1, 0⟩
theorem made_ok {n : Nat} (h1 : 1 ≤ n) (h2 : n ≤ 65536) : Ok (made n) :=
  ⟨by simpa [made] using h1, by simpa [made] using h2, fun x hx => by rw [(List.mem_replicate.1 hx).2]; exact zero64_size, (fun _ hp => nomatch hp), (fun _ hp => nomatch hp), by simp [made]⟩
def has (s : St) (i : Int) : Bool := decide (0 ≤ i) && decide (i < (s.kept.length : Int))
theorem has_iff {s : St} {i : Int} : has s i = true ↔ 0 ≤ i ∧ i < (s.kept.length : Int) := by simp [has]
def now (s : St) (i : Nat) : ByteArray := last i s.pend (s.kept.getD i zero64)
theorem last_size (i : Nat) : ∀ (l : List (Nat × ByteArray)) (x : ByteArray), (∀ p ∈ l, p.2.size = 64) → x.size = 64 → (last i l x).size = 64
  | [], _, _, h => h
  | p :: l, x, h, hx => by
    unfold last
    refine last_size i l _ (fun q hq => h q (List.mem_cons_of_mem _ hq)) ?_
    split
    · exact h p List.mem_cons_self
    · exact hx
theorem getD_size {l : List ByteArray} (h : ∀ x ∈ l, x.size = 64) (i : Nat) : (l.getD i zero64).size = 64 := by
  rw [List.getD_eq_getElem?_getD]
  cases e : l[i]? with
  | none => exact zero64_size
  | some x => exact h x (List.mem_of_getElem? e)
theorem now_size {s : St} (h : Ok s) (i : Nat) : (now s i).size = 64 := last_size i _ _ h.psize (getD_size h.size i)
/- the calls: the disk behind it, and the answer -/
def spent (s : St) : St := { s with left := if 0 < s.left then s.left - 1 else s.left, dn := s.dn + 1 }
def fell (s : St) : St := { s with down := true }
def put (s : St) (i : Nat) (x : ByteArray) : St := { spent s with pend := s.pend ++ [(i, fill x)] }
def flushed (s : St) : St := { spent s with kept := keepI (fun _ => true) s.pend 0 s.kept, pend := [] }
def armed (s : St) (n : Int) : St := { s with left := if n < 0 then -1 else n }
def back (s : St) (b : Nat → Bool) : St := ⟨keepI b s.pend 0 s.kept, [], false, -1, s.dn⟩
def writeS (s : St) (i : Int) (x : ByteArray) : St := if s.down = true then s else if has s i = false then s else if 64 < x.size then s else if s.left = 0 then fell s else put s i.toNat x
def writeE (s : St) (i : Int) (x : ByteArray) : Int := if s.down = true then 10 else if has s i = false then 2 else if 64 < x.size then 3 else if s.left = 0 then 10 else 0
def flushS (s : St) : St := if s.down = true then s else if s.left = 0 then fell s else flushed s
def flushE (s : St) : Int := if s.down = true then 10 else if s.left = 0 then 10 else 0
def armS (s : St) (n : Int) : St := if s.down = true then s else armed s n
def offS (s : St) : St := if s.down = true then s else fell s
def liveE (s : St) : Int := if s.down = true then 10 else 0
def onS (s : St) (b : Nat → Bool) : St := if s.down = true then back s b else s
def onE (s : St) : Int := if s.down = true then 0 else 9
def readV (s : St) (i : Int) : ByteArray := if s.down = true then ⟨#[]⟩ else if has s i = false then ⟨#[]⟩ else now s i.toNat
def readE (s : St) (i : Int) : Int := if s.down = true then 10 else if has s i = false then 2 else 0
theorem spent_left {s : St} (h : Ok s) : -1 ≤ (spent s).left ∧ (spent s).left ≤ 9223372036854775807 := by
  have := h.left
  simp only [spent]
  split <;> omega
theorem put_ok {s : St} (h : Ok s) {i : Nat} {x : ByteArray} (hi : i < s.kept.length) (hx : x.size ≤ 64) : Ok (put s i x) := by
  refine ⟨h.one, h.most, h.size, fun p hp => ?_, fun p hp => ?_, spent_left h⟩
  · rcases List.mem_append.1 hp with hp | hp
    · exact h.pat p hp
    · rw [List.mem_singleton.1 hp]; exact hi
  · rcases List.mem_append.1 hp with hp | hp
    · exact h.psize p hp
    · rw [List.mem_singleton.1 hp]; exact fill_size hx
theorem keepI_ok {s : St} (h : Ok s) (b : Nat → Bool) : ∀ x ∈ keepI b s.pend 0 s.kept, x.size = 64 := fun x hx => by
  rcases keepI_mem b _ _ _ x hx with hx | ⟨p, hp, rfl⟩
  · exact h.size x hx
  · exact h.psize p hp
theorem flushed_ok {s : St} (h : Ok s) : Ok (flushed s) :=
  ⟨by simpa [flushed, keepI_length] using h.one, by simpa [flushed, keepI_length] using h.most, keepI_ok h _, (fun _ hp => nomatch hp), (fun _ hp => nomatch hp), spent_left h⟩
theorem back_ok {s : St} (h : Ok s) (b : Nat → Bool) : Ok (back s b) :=
  ⟨by simpa [back, keepI_length] using h.one, by simpa [back, keepI_length] using h.most, keepI_ok h _, (fun _ hp => nomatch hp), (fun _ hp => nomatch hp), by simp [back]⟩
theorem fell_ok {s : St} (h : Ok s) : Ok (fell s) := ⟨h.one, h.most, h.size, h.pat, h.psize, h.left⟩
theorem armed_ok {s : St} (h : Ok s) {n : Int} (hn : n ≤ 9223372036854775807) : Ok (armed s n) := by
  refine ⟨h.one, h.most, h.size, h.pat, h.psize, ?_⟩
  simp only [armed]
  split <;> omega
theorem writeS_ok {s : St} (h : Ok s) (i : Int) (x : ByteArray) : Ok (writeS s i x) := by
  unfold writeS
  split
  · exact h
  · split
    · exact h
    · rename_i hi
      split
      · exact h
      · split
        · exact fell_ok h
        · have hi' := has_iff.1 (by simpa using hi : has s i = true)
          exact put_ok h (by omega) (by omega)
theorem flushS_ok {s : St} (h : Ok s) : Ok (flushS s) := by
  unfold flushS
  split
  · exact h
  · split
    · exact fell_ok h
    · exact flushed_ok h
theorem armS_ok {s : St} (h : Ok s) {n : Int} (hn : n ≤ 9223372036854775807) : Ok (armS s n) := by
  unfold armS
  split
  · exact h
  · exact armed_ok h hn
theorem offS_ok {s : St} (h : Ok s) : Ok (offS s) := by
  unfold offS
  split
  · exact h
  · exact fell_ok h
theorem onS_ok {s : St} (h : Ok s) (b : Nat → Bool) : Ok (onS s b) := by
  unfold onS
  split
  · exact back_ok h b
  · exact h
/- how much grows by a call: one write, one deed -/
structure Step (s t : St) : Prop where
  len : t.kept.length = s.kept.length
  pend : t.pend.length ≤ s.pend.length + 1
  dn : t.dn ≤ s.dn + 1
theorem Step.refl (s : St) : Step s s := ⟨rfl, by omega, by omega⟩
theorem fell_step (s : St) : Step s (fell s) := ⟨rfl, by simp [fell], by simp [fell]⟩
theorem writeS_step (s : St) (i : Int) (x : ByteArray) : Step s (writeS s i x) := by
  unfold writeS
  split
  · exact .refl s
  · split
    · exact .refl s
    · split
      · exact .refl s
      · split
        · exact fell_step s
        · exact ⟨rfl, by simp [put], by simp [put, spent]⟩
theorem flushS_step (s : St) : Step s (flushS s) := by
  unfold flushS
  split
  · exact .refl s
  · split
    · exact fell_step s
    · exact ⟨by simp [flushed, keepI_length], by simp [flushed], by simp [flushed, spent]⟩
theorem armS_step (s : St) (n : Int) : Step s (armS s n) := by
  unfold armS
  split
  · exact .refl s
  · exact ⟨rfl, by simp [armed], by simp [armed]⟩
theorem offS_step (s : St) : Step s (offS s) := by
  unfold offS
  split
  · exact .refl s
  · exact fell_step s
theorem onS_step (s : St) (b : Nat → Bool) : Step s (onS s b) := by
  unfold onS
  split
  · exact ⟨by simp [back, keepI_length], by simp [back], by simp [back]⟩
  · exact .refl s
end Sc
