/- Proved: plain facts of a disk of sectors (stage 7): what is pending, kept, read; what each call makes of it. No program is named. -/
import Derived.WalkKit
namespace Sc
/- a disk: what was kept, what is pending (which sector, what it is to have), whether it has no power, what it is armed with (-1: nothing), how much was done -/
structure St where
  kept : List ByteArray
  pend : List (Nat × ByteArray)
  down : Bool
  left : Int
  dn : Nat
def zero64 : ByteArray := ⟨Array.replicate 64 0⟩
theorem zero64_size : zero64.size = 64 := by simp [zero64, ByteArray.size]
/- a text with noughts behind it, as a sector has it -/
def fill (x : ByteArray) : ByteArray := ⟨(x.data.toList ++ List.replicate (64 - x.size) 0).toArray⟩
theorem size_eq (x : ByteArray) : x.size = x.data.toList.length := (Array.length_toList (xs := x.data)).symm
theorem fill_list (x : ByteArray) : (fill x).data.toList = x.data.toList ++ List.replicate (64 - x.size) 0 := by simp [fill]
theorem fill_size {x : ByteArray} (h : x.size ≤ 64) : (fill x).size = 64 := by
  have := size_eq x
  rw [size_eq, fill_list, List.length_append, List.length_replicate]
  omega
/- the last of the writes to sector i, or x -/
def last (i : Nat) : List (Nat × ByteArray) → ByteArray → ByteArray
  | [], x => x
  | p :: l, x => last i l (if p.1 = i then p.2 else x)
theorem last_snoc (i : Nat) (p : Nat × ByteArray) : ∀ (l : List (Nat × ByteArray)) (x : ByteArray), last i (l ++ [p]) x = if p.1 = i then p.2 else last i l x
  | [], x => rfl
  | q :: l, x => by rw [List.cons_append]; exact last_snoc i p l _
theorem last_none (i : Nat) : ∀ (l : List (Nat × ByteArray)) (x : ByteArray), (∀ p ∈ l, p.1 ≠ i) → last i l x = x
  | [], _, _ => rfl
  | p :: l, x, h => by
    unfold last
    rw [if_neg (h p List.mem_cons_self)]
    exact last_none i l x (fun q hq => h q (List.mem_cons_of_mem _ hq))
theorem last_at (i : Nat) : ∀ (l : List (Nat × ByteArray)) (x : ByteArray) (k : Nat) (p : Nat × ByteArray), l[k]? = some p → p.1 = i → (∀ q ∈ l.drop (k + 1), q.1 ≠ i) → last i l x = p.2
  | [], _, k, p, h, _, _ => by simp at h
  | q :: l, x, 0, p, h, hp, hd => by
    simp at h
    subst h
    unfold last
    rw [if_pos hp]
    exact last_none i l _ (by simpa using hd)
  | q :: l, x, k + 1, p, h, hp, hd => by
    unfold last
    exact last_at i l _ k p (by simpa using h) hp (by simpa using hd)
/- of the writes l, counted from n on, those that b marks are kept, one behind the other -/
def keepI (b : Nat → Bool) : List (Nat × ByteArray) → Nat → List ByteArray → List ByteArray
  | [], _, ks => ks
  | p :: l, n, ks => keepI b l (n + 1) (if b n then ks.set p.1 p.2 else ks)
theorem keepI_snoc (b : Nat → Bool) (p : Nat × ByteArray) : ∀ (l : List (Nat × ByteArray)) (n : Nat) (ks : List ByteArray), keepI b (l ++ [p]) n ks = if b (n + l.length) then (keepI b l n ks).set p.1 p.2 else keepI b l n ks
  | [], n, ks => rfl
  | q :: l, n, ks => by
    rw [List.cons_append]
    unfold keepI
    rw [keepI_snoc b p l (n + 1), List.length_cons, show n + 1 + l.length = n + (l.length + 1) by omega]
theorem keepI_length (b : Nat → Bool) : ∀ (l : List (Nat × ByteArray)) (n : Nat) (ks : List ByteArray), (keepI b l n ks).length = ks.length
  | [], _, _ => rfl
  | p :: l, n, ks => by
    unfold keepI
    rw [keepI_length b l]
    split <;> simp
theorem keepI_mem (b : Nat → Bool) : ∀ (l : List (Nat × ByteArray)) (n : Nat) (ks : List ByteArray) (x : ByteArray), x ∈ keepI b l n ks → x ∈ ks ∨ ∃ p ∈ l, p.2 = x
  | [], _, _, x, h => .inl h
  | p :: l, n, ks, x, h => by
    unfold keepI at h
    rcases keepI_mem b l _ _ x h with h | ⟨q, hq, e⟩
    · split at h
      · rcases List.mem_or_eq_of_mem_set h with h | h
        · exact .inl h
        · exact .inr ⟨p, List.mem_cons_self, h.symm⟩
      · exact .inl h
    · exact .inr ⟨q, List.mem_cons_of_mem _ hq, e⟩
theorem keepI_take (b : Nat → Bool) (l : List (Nat × ByteArray)) (ks : List ByteArray) (k : Nat) (p : Nat × ByteArray) (h : l[k]? = some p) : keepI b (l.take (k + 1)) 0 ks = if b k then (keepI b (l.take k) 0 ks).set p.1 p.2 else keepI b (l.take k) 0 ks := by
  have hk := (List.getElem?_eq_some_iff.1 h)
  rw [List.take_succ_eq_append_getElem hk.1, hk.2, keepI_snoc, List.length_take, Nat.min_eq_left (by have := hk.1; omega), Nat.zero_add]
theorem keepI_apart (b : Nat → Bool) (i : Nat) : ∀ (l : List (Nat × ByteArray)) (n : Nat) (ks : List ByteArray), (∀ p ∈ l, p.1 ≠ i) → (keepI b l n ks)[i]? = ks[i]?
  | [], _, _, _ => rfl
  | p :: l, n, ks, h => by
    unfold keepI
    rw [keepI_apart b i l _ _ (fun q hq => h q (List.mem_cons_of_mem _ hq))]
    split
    · rw [List.getElem?_set_ne (h p List.mem_cons_self)]
    · rfl
/- keeping all is what is read -/
theorem keepI_last (i : Nat) : ∀ (l : List (Nat × ByteArray)) (n : Nat) (ks : List ByteArray), i < ks.length → (keepI (fun _ => true) l n ks)[i]? = some (last i l (ks.getD i zero64))
  | [], _, ks, h => by
    show ks[i]? = some (ks.getD i zero64)
    rw [List.getD_eq_getElem?_getD, List.getElem?_eq_getElem h]; rfl
  | p :: l, n, ks, h => by
    unfold keepI last
    rw [if_pos rfl, keepI_last i l _ _ (by simpa using h)]
    by_cases e : p.1 = i
    · rw [if_pos e, e, List.getD_eq_getElem?_getD, List.getElem?_set_self h]; rfl
    · rw [if_neg e, List.getD_eq_getElem?_getD, List.getElem?_set_ne e, ← List.getD_eq_getElem?_getD]
/- a disk that may be -/
structure Ok (s : St) : Prop where
  one : 1 ≤ s.kept.length
  most : s.kept.length ≤ 65536
  size : ∀ x ∈ s.kept, x.size = 64
  pat : ∀ p ∈ s.pend, p.1 < s.kept.length
  psize : ∀ p ∈ s.pend, p.2.size = 64
  left : -1 ≤ s.left ∧ s.left ≤ 9223372036854775807
def made (n : Nat) : St := ⟨List.replicate n zero64, [], false, -1, 0⟩
theorem made_ok {n : Nat} (h1 : 1 ≤ n) (h2 : n ≤ 65536) : Ok (made n) :=
  ⟨by simpa [made] using h1, by simpa [made] using h2, fun x hx => by rw [(List.mem_replicate.1 hx).2]; exact zero64_size, (fun _ hp => nomatch hp), (fun _ hp => nomatch hp), by simp [made]⟩
def has (s : St) (i : Int) : Bool := decide (0 ≤ i) && decide (i < (s.kept.length : Int))
theorem has_iff {s : St} {i : Int} : has s i = true ↔ 0 ≤ i ∧ i < (s.kept.length : Int) := by simp [has]
def now (s : St) (i : Nat) : ByteArray := last i s.pend (s.kept.getD i zero64)
theorem last_size (i : Nat) : ∀ (l : List (Nat × ByteArray)) (x : ByteArray), (∀ p ∈ l, p.2.size = 64) → x.size = 64 → (last i l x).size = 64
  | [], _, _, h => h
  | p :: l, x, h, hx => by
    unfold last
    refine last_size i l _ (fun q hq => h q (List.mem_cons_of_mem _ hq)) ?_
    split
    · exact h p List.mem_cons_self
    · exact hx
theorem getD_size {l : List ByteArray} (h : ∀ x ∈ l, x.size = 64) (i : Nat) : (l.getD i zero64).size = 64 := by
  rw [List.getD_eq_getElem?_getD]
  cases e : l[i]? with
  | none => exact zero64_size
  | some x => exact h x (List.mem_of_getElem? e)
theorem now_size {s : St} (h : Ok s) (i : Nat) : (now s i).size = 64 := last_size i _ _ h.psize (getD_size h.size i)
/- the calls: the disk behind it, and the answer -/
def spent (s : St) : St := { s with left := if 0 < s.left then s.left - 1 else s.left, dn := s.dn + 1 }
def fell (s : St) : St := { s with down := true }
def put (s : St) (i : Nat) (x : ByteArray) : St := { spent s with pend := s.pend ++ [(i, fill x)] }
def flushed (s : St) : St := { spent s with kept := keepI (fun _ => true) s.pend 0 s.kept, pend := [] }
def armed (s : St) (n : Int) : St := { s with left := if n < 0 then -1 else n }
def back (s : St) (b : Nat → Bool) : St := ⟨keepI b s.pend 0 s.kept, [], false, -1, s.dn⟩
def writeS (s : St) (i : Int) (x : ByteArray) : St := if s.down = true then s else if has s i = false then s else if 64 < x.size then s else if s.left = 0 then fell s else put s i.toNat x
def writeE (s : St) (i : Int) (x : ByteArray) : Int := if s.down = true then 10 else if has s i = false then 2 else if 64 < x.size then 3 else if s.left = 0 then 10 else 0
def flushS (s : St) : St := if s.down = true then s else if s.left = 0 then fell s else flushed s
def flushE (s : St) : Int := if s.down = true then 10 else if s.left = 0 then 10 else 0
def armS (s : St) (n : Int) : St := if s.down = true then s else armed s n
def offS (s : St) : St := if s.down = true then s else fell s
def liveE (s : St) : Int := if s.down = true then 10 else 0
def onS (s : St) (b : Nat → Bool) : St := if s.down = true then back s b else s
def onE (s : St) : Int := if s.down = true then 0 else 9
def readV (s : St) (i : Int) : ByteArray := if s.down = true then ⟨#[]⟩ else if has s i = false then ⟨#[]⟩ else now s i.toNat
def readE (s : St) (i : Int) : Int := if s.down = true then 10 else if has s i = false then 2 else 0
theorem spent_left {s : St} (h : Ok s) : -1 ≤ (spent s).left ∧ (spent s).left ≤ 9223372036854775807 := by
  have := h.left
  simp only [spent]
  split <;> omega
theorem put_ok {s : St} (h : Ok s) {i : Nat} {x : ByteArray} (hi : i < s.kept.length) (hx : x.size ≤ 64) : Ok (put s i x) := by
  refine ⟨h.one, h.most, h.size, fun p hp => ?_, fun p hp => ?_, spent_left h⟩
  · rcases List.mem_append.1 hp with hp | hp
    · exact h.pat p hp
    · rw [List.mem_singleton.1 hp]; exact hi
  · rcases List.mem_append.1 hp with hp | hp
    · exact h.psize p hp
    · rw [List.mem_singleton.1 hp]; exact fill_size hx
theorem keepI_ok {s : St} (h : Ok s) (b : Nat → Bool) : ∀ x ∈ keepI b s.pend 0 s.kept, x.size = 64 := fun x hx => by
  rcases keepI_mem b _ _ _ x hx with hx | ⟨p, hp, rfl⟩
  · exact h.size x hx
  · exact h.psize p hp
theorem flushed_ok {s : St} (h : Ok s) : Ok (flushed s) :=
  ⟨by simpa [flushed, keepI_length] using h.one, by simpa [flushed, keepI_length] using h.most, keepI_ok h _, (fun _ hp => nomatch hp), (fun _ hp => nomatch hp), spent_left h⟩
theorem back_ok {s : St} (h : Ok s) (b : Nat → Bool) : Ok (back s b) :=
  ⟨by simpa [back, keepI_length] using h.one, by simpa [back, keepI_length] using h.most, keepI_ok h _, (fun _ hp => nomatch hp), (fun _ hp => nomatch hp), by simp [back]⟩
theorem fell_ok {s : St} (h : Ok s) : Ok (fell s) := ⟨h.one, h.most, h.size, h.pat, h.psize, h.left⟩
theorem armed_ok {s : St} (h : Ok s) {n : Int} (hn : n ≤ 9223372036854775807) : Ok (armed s n) := by
  refine ⟨h.one, h.most, h.size, h.pat, h.psize, ?_⟩
  simp only [armed]
  split <;> omega
theorem writeS_ok {s : St} (h : Ok s) (i : Int) (x : ByteArray) : Ok (writeS s i x) := by
  unfold writeS
  split
  · exact h
  · split
    · exact h
    · rename_i hi
      split
      · exact h
      · split
        · exact fell_ok h
        · have hi' := has_iff.1 (by simpa using hi : has s i = true)
          exact put_ok h (by omega) (by omega)
theorem flushS_ok {s : St} (h : Ok s) : Ok (flushS s) := by
  unfold flushS
  split
  · exact h
  · split
    · exact fell_ok h
    · exact flushed_ok h
theorem armS_ok {s : St} (h : Ok s) {n : Int} (hn : n ≤ 9223372036854775807) : Ok (armS s n) := by
  unfold armS
  split
  · exact h
  · exact armed_ok h hn
theorem offS_ok {s : St} (h : Ok s) : Ok (offS s) := by
  unfold offS
  split
  · exact h
  · exact fell_ok h
theorem onS_ok {s : St} (h : Ok s) (b : Nat → Bool) : Ok (onS s b) := by
  unfold onS
  split
  · exact back_ok h b
  · exact h
/- how much grows by a call: one write, one deed -/
structure Step (s t : St) : Prop where
  len : t.kept.length = s.kept.length
  pend : t.pend.length ≤ s.pend.length + 1
  dn : t.dn ≤ s.dn + 1
theorem Step.refl (s : St) : Step s s := ⟨rfl, by omega, by omega⟩
theorem fell_step (s : St) : Step s (fell s) := ⟨rfl, by simp [fell], by simp [fell]⟩
theorem writeS_step (s : St) (i : Int) (x : ByteArray) : Step s (writeS s i x) := by
  unfold writeS
  split
  · exact .refl s
  · split
    · exact .refl s
    · split
      · exact .refl s
      · split
        · exact fell_step s
        · exact ⟨rfl, by simp [put], by simp [put, spent]⟩
theorem flushS_step (s : St) : Step s (flushS s) := by
  unfold flushS
  split
  · exact .refl s
  · split
    · exact fell_step s
    · exact ⟨by simp [flushed, keepI_length], by simp [flushed], by simp [flushed, spent]⟩
theorem armS_step (s : St) (n : Int) : Step s (armS s n) := by
  unfold armS
  split
  · exact .refl s
  · exact ⟨rfl, by simp [armed], by simp [armed]⟩
theorem offS_step (s : St) : Step s (offS s) := by
  unfold offS
  split
  · exact .refl s
  · exact fell_step s
theorem onS_step (s : St) (b : Nat → Bool) : Step s (onS s b) := by
  unfold onS
  split
  · exact ⟨by simp [back, keepI_length], by simp [back], by simp [back]⟩
  · exact .refl s
end Sc
/- Proved: plain facts on CRC-32C over numbers: four bits by the table are four bits one by one, every step goes bit by bit under exclusive or, and a row of 32 numbers stands for a shift by noughts. No program in it; no condition but ranges below 2^32 where a row says so. -/
namespace Crc
def tab : List Nat := [0, 274646895, 549293790, 820201905, 1098587580, 1361435347, 1640403810, 1905808397, 2197175160, 2460548119, 2722870694, 2987750089, 3280807620, 3553878443, 3811616794, 4084100981]
def nib (i : Nat) : Nat := tab.getD i 0
def half (r : Nat) : Nat := (r / 16) ^^^ nib (r % 16)
def tk (r x : Nat) : Nat := half (half (r ^^^ x))
theorem nib_lt (i : Nat) : nib i < 4294967296 := by
  unfold nib
  by_cases h : i < 16
  · have : ∀ j, j < 16 → tab.getD j 0 < 4294967296 := by decide
    exact this i h
  · have : tab.getD i 0 = 0 := by
      simp [tab, List.getD]
      rw [List.getElem?_eq_none (by simp; omega)]; rfl
    omega
theorem xor_lt {a b : Nat} (ha : a < 4294967296) (hb : b < 4294967296) : a ^^^ b < 4294967296 := Nat.xor_lt_two_pow (n := 32) ha hb
theorem half_lt {r : Nat} (h : r < 4294967296) : half r < 4294967296 := xor_lt (by omega) (nib_lt _)
theorem tk_lt {r x : Nat} (h : r < 4294967296) (hx : x < 256) : tk r x < 4294967296 := half_lt (half_lt (xor_lt h (by omega)))
/- the document's: bit by bit -/
def bit (r : Nat) : Nat := if r % 2 = 1 then r / 2 ^^^ 2197175160 else r / 2
def steps : Nat → Nat → Nat
  | 0, r => r
  | k + 1, r => steps k (bit r)
def rtk (r x : Nat) : Nat := steps 8 (r ^^^ x)
theorem bit_lt {r : Nat} (h : r < 4294967296) : bit r < 4294967296 := by
  unfold bit; split
  · exact xor_lt (by omega) (by omega)
  · omega
theorem steps_succ (k r : Nat) : steps (k + 1) r = bit (steps k r) := by
  induction k generalizing r with
  | zero => rfl
  | succ k ih => rw [steps, ih]; rfl
theorem steps_lt (k : Nat) {r : Nat} (h : r < 4294967296) : steps k r < 4294967296 := by
  induction k generalizing r with
  | zero => exact h
  | succ k ih => exact ih (bit_lt h)
def turn (r : Nat) : Nat := r ^^^ 4294967295
theorem turn_lt {r : Nat} (h : r < 4294967296) : turn r < 4294967296 := xor_lt h (by omega)
def rfold (r : Nat) (bs : List Nat) : Nat := bs.foldl rtk r
def fold (r : Nat) (bs : List Nat) : Nat := bs.foldl tk r
theorem rtk_lt {r x : Nat} (h : r < 4294967296) (hx : x < 256) : rtk r x < 4294967296 := steps_lt 8 (xor_lt h (by omega))
theorem rfold_lt (bs : List Nat) {r : Nat} (h : r < 4294967296) (hb : ∀ x ∈ bs, x < 256) : rfold r bs < 4294967296 := by
  induction bs generalizing r with
  | nil => exact h
  | cons x bs ih => exact ih (rtk_lt h (hb x (by simp))) (fun y hy => hb y (by simp [hy]))
theorem fold_lt (bs : List Nat) {r : Nat} (h : r < 4294967296) (hb : ∀ x ∈ bs, x < 256) : fold r bs < 4294967296 := by
  induction bs generalizing r with
  | nil => exact h
  | cons x bs ih => exact ih (tk_lt h (hb x (by simp))) (fun y hy => hb y (by simp [hy]))
theorem foldl_take {f : Nat → Nat → Nat} (r : Nat) (bs : List Nat) (k : Nat) (h : k < bs.length) : (bs.take (k + 1)).foldl f r = f ((bs.take k).foldl f r) (bs.getD k 0) := by
  rw [List.take_succ_eq_append_getElem h, List.foldl_append, List.getD_eq_getElem?_getD, List.getElem?_eq_getElem h]; rfl
theorem rfold_take (r : Nat) (bs : List Nat) (k : Nat) (h : k < bs.length) : rfold r (bs.take (k + 1)) = rtk (rfold r (bs.take k)) (bs.getD k 0) := foldl_take r bs k h
theorem fold_take (r : Nat) (bs : List Nat) (k : Nat) (h : k < bs.length) : fold r (bs.take (k + 1)) = tk (fold r (bs.take k)) (bs.getD k 0) := foldl_take r bs k h
def upd (s : Nat) (bs : List Nat) : Nat := turn (fold (turn s) bs)
def rupd (s : Nat) (bs : List Nat) : Nat := turn (rfold (turn s) bs)
def sum (bs : List Nat) : Nat := upd 0 bs
def rsum (bs : List Nat) : Nat := rupd 0 bs
/- a change that goes bit by bit: the first k bits of r, each by its row -/
def changeTo (m : Nat → Nat) (r : Nat) : Nat → Nat
  | 0 => 0
  | k + 1 => if r / 2 ^ k % 2 = 1 then changeTo m r k ^^^ m k else changeTo m r k
def change (m : Nat → Nat) (r : Nat) : Nat := changeTo m r 32
theorem changeTo_lt (m : Nat → Nat) (r k : Nat) (hm : ∀ i, i < k → m i < 4294967296) : changeTo m r k < 4294967296 := by
  induction k with
  | zero => exact Nat.zero_lt_succ _
  | succ k ih =>
    unfold changeTo; split
    · exact xor_lt (ih fun i hi => hm i (by omega)) (hm k (by omega))
    · exact ih fun i hi => hm i (by omega)
/- p noughts taken in -/
def pw : Nat → Nat → Nat
  | 0, r => r
  | p + 1, r => pw p (tk r 0)
theorem pw_lt (p : Nat) {r : Nat} (h : r < 4294967296) : pw p r < 4294967296 := by
  induction p generalizing r with
  | zero => exact h
  | succ p ih => exact ih (tk_lt h (by omega))
theorem pw_add (p q r : Nat) : pw (p + q) r = pw q (pw p r) := by
  induction p generalizing r with
  | zero => simp [pw]
  | succ p ih => rw [show p + 1 + q = (p + q) + 1 by omega, pw, ih]; rfl
/- every step goes bit by bit -/
theorem xor_half (a b : Nat) : (a ^^^ b) / 2 = a / 2 ^^^ b / 2 := Nat.xor_div_two_pow (n := 1) ..
theorem xor_add (i a b : Nat) (h : b < 2 ^ i) : 2 ^ i * a ^^^ b = 2 ^ i * a + b := by
  apply Nat.eq_of_testBit_eq
  intro j
  rw [Nat.testBit_xor, Nat.testBit_two_pow_mul_add a h j]
  have e := Nat.testBit_two_pow_mul_add a (b := 0) (Nat.two_pow_pos i) j
  rw [Nat.add_zero] at e
  rw [e]
  split
  · simp
  · rw [Nat.testBit_lt_two_pow (Nat.lt_of_lt_of_le h (Nat.pow_le_pow_right (by omega) (by omega)))]; simp
theorem xor_odd (a b : Nat) : (a ^^^ b) % 2 = (a % 2 + b % 2) % 2 := by
  have := @Nat.xor_mod_two_pow a b 1
  simp only [Nat.pow_one] at this
  rw [this]
  rcases Nat.mod_two_eq_zero_or_one a with h | h <;> rcases Nat.mod_two_eq_zero_or_one b with g | g <;> rw [h, g] <;> rfl
theorem bit_xor (a b : Nat) : bit (a ^^^ b) = bit a ^^^ bit b := by
  unfold bit
  rw [xor_half, xor_odd]
  have comm4 : ∀ x y p : Nat, (x ^^^ p) ^^^ y = (x ^^^ y) ^^^ p := fun x y p => by rw [Nat.xor_assoc, Nat.xor_comm p y, ← Nat.xor_assoc]
  rcases Nat.mod_two_eq_zero_or_one a with h | h <;> rcases Nat.mod_two_eq_zero_or_one b with g | g <;> rw [h, g] <;> simp
  · rw [Nat.xor_assoc]
  · rw [comm4]
  · rw [comm4, Nat.xor_assoc, Nat.xor_assoc, Nat.xor_self, Nat.xor_zero]
theorem steps_xor (k a b : Nat) : steps k (a ^^^ b) = steps k a ^^^ steps k b := by
  induction k generalizing a b with
  | zero => rfl
  | succ k ih => rw [steps, bit_xor, ih]; rfl
theorem steps_add (j k r : Nat) : steps (j + k) r = steps k (steps j r) := by
  induction j generalizing r with
  | zero => simp [steps]
  | succ j ih => rw [show j + 1 + k = (j + k) + 1 by omega, steps, ih]; rfl
theorem bit_two (x : Nat) : bit (2 * x) = x := by unfold bit; rw [if_neg (by omega)]; omega
theorem bit_zero : bit 0 = 0 := rfl
theorem steps_zero (k : Nat) : steps k 0 = 0 := by
  induction k with
  | zero => rfl
  | succ k ih => rw [steps, bit_zero, ih]
theorem steps_pow (k x : Nat) : steps k (2 ^ k * x) = x := by
  induction k generalizing x with
  | zero => simp [steps]
  | succ k ih => rw [steps, show 2 ^ (k + 1) * x = 2 * (2 ^ k * x) by rw [Nat.pow_succ, Nat.mul_comm (2 ^ k) 2, Nat.mul_assoc], bit_two, ih]
theorem nib_eq : ∀ i, i < 16 → nib i = steps 4 i := by decide
theorem half_eq (r : Nat) : half r = steps 4 r := by
  have h : r % 16 < 2 ^ 4 := by omega
  have e : r = 2 ^ 4 * (r / 16) ^^^ r % 16 := by rw [xor_add 4 (r / 16) (r % 16) h]; omega
  unfold half
  rw [nib_eq _ (by omega)]
  conv => rhs; rw [e]
  rw [steps_xor, steps_pow]
theorem tk_eq (r x : Nat) : tk r x = rtk r x := by
  unfold tk rtk; rw [half_eq, half_eq, ← steps_add]
theorem tk0 (r : Nat) : tk r 0 = steps 8 r := by rw [tk_eq]; unfold rtk; rw [Nat.xor_zero]
theorem pw_eq (p r : Nat) : pw p r = steps (8 * p) r := by
  induction p generalizing r with
  | zero => rfl
  | succ p ih => rw [pw, ih, tk0, ← steps_add, show 8 + 8 * p = 8 * (p + 1) by omega]
theorem pw_xor (p a b : Nat) : pw p (a ^^^ b) = pw p a ^^^ pw p b := by rw [pw_eq, pw_eq, pw_eq, steps_xor]
theorem pw_zero (p : Nat) : pw p 0 = 0 := by rw [pw_eq, steps_zero]
theorem changeTo_lin (f : Nat → Nat) (h0 : f 0 = 0) (hx : ∀ a b, f (a ^^^ b) = f a ^^^ f b) (r k : Nat) : changeTo (fun i => f (2 ^ i)) r k = f (r % 2 ^ k) := by
  induction k with
  | zero => simp [changeTo, Nat.mod_one, h0]
  | succ k ih =>
    unfold changeTo
    rw [ih, Nat.mod_pow_succ]
    rcases Nat.mod_two_eq_zero_or_one (r / 2 ^ k) with h | h <;> rw [h]
    · simp
    · have hl : r % 2 ^ k < 2 ^ k := Nat.mod_lt _ (Nat.two_pow_pos k)
      have e := xor_add k 1 (r % 2 ^ k) hl
      rw [Nat.mul_one] at e
      rw [if_pos rfl, Nat.mul_one, Nat.add_comm, ← e, hx, Nat.xor_comm]
theorem change_pw (p r : Nat) (h : r < 4294967296) : change (fun i => pw p (2 ^ i)) r = pw p r := by
  unfold change
  rw [changeTo_lin (pw p) (pw_zero p) (pw_xor p), Nat.mod_eq_of_lt h]
/- the sum of what lies one behind the other -/
theorem tk_lin (r x : Nat) : tk r x = tk r 0 ^^^ tk 0 x := by
  rw [tk_eq, tk_eq, tk_eq]; unfold rtk; rw [Nat.xor_zero, Nat.zero_xor, steps_xor]
theorem fold_lin (r : Nat) (ys : List Nat) : fold r ys = pw ys.length r ^^^ fold 0 ys := by
  induction ys generalizing r with
  | nil => simp [fold, pw]
  | cons y ys ih =>
    have e : ∀ q, fold q (y :: ys) = fold (tk q y) ys := fun _ => rfl
    rw [e, e, ih (tk r y), ih (tk 0 y), tk_lin r y, pw_xor, Nat.xor_assoc]
    have z : pw (y :: ys).length r = pw ys.length (tk r 0) := rfl
    rw [z]
theorem fold_append (r : Nat) (xs ys : List Nat) : fold r (xs ++ ys) = fold (fold r xs) ys := List.foldl_append ..
theorem xor_cancel (a b : Nat) : a ^^^ b ^^^ b = a := by rw [Nat.xor_assoc, Nat.xor_self, Nat.xor_zero]
theorem upd_sum (xs ys : List Nat) : turn (fold (turn (sum xs)) ys) = sum (xs ++ ys) := by
  unfold sum upd
  rw [fold_append]
  have e : ∀ x, turn (turn x) = x := fun x => xor_cancel x _
  rw [e]
theorem comb_sum (xs ys : List Nat) : pw ys.length (sum xs) ^^^ sum ys = sum (xs ++ ys) := by
  unfold sum upd
  rw [fold_append, fold_lin (fold (turn 0) xs) ys, fold_lin (turn 0) ys]
  have e : ∀ x, turn x = x ^^^ turn 0 := fun x => by unfold turn; rw [Nat.zero_xor]
  rw [e (fold (turn 0) xs), pw_xor, e (_ ^^^ fold 0 ys), e (_ ^^^ fold 0 ys)]
  generalize pw ys.length (fold (turn 0) xs) = a
  generalize pw ys.length (turn 0) = b
  generalize fold 0 ys = c
  rw [Nat.xor_assoc b c, Nat.xor_assoc a b, ← Nat.xor_assoc b b, Nat.xor_self, Nat.zero_xor, Nat.xor_assoc a c]
end Crc
/- Proved: plain facts of a log's bytes (stage 8): numbers as bytes, the lowest first; frames are read back, and what is read is frames; heads. No program is named. -/
namespace Wl
/- bytes as numbers -/
def nb (x : ByteArray) : List Nat := x.data.toList.map UInt8.toNat
def ob (l : List UInt8) : ByteArray := ⟨l.toArray⟩
theorem ob_list (l : List UInt8) : (ob l).data.toList = l := by simp [ob]
theorem list_ob (x : ByteArray) : ob x.data.toList = x := by
  apply ByteArray.ext
  simp [ob]
theorem ext_list {a b : ByteArray} (h : a.data.toList = b.data.toList) : a = b := by rw [← list_ob a, ← list_ob b, h]
theorem ob_size (l : List UInt8) : (ob l).size = l.length := by rw [Sc.size_eq, ob_list]
theorem app_list (a b : ByteArray) : (a ++ b).data.toList = a.data.toList ++ b.data.toList := by rw [ByteArray.data_append, Array.toList_append]
theorem nb_append (a b : ByteArray) : nb (a ++ b) = nb a ++ nb b := by unfold nb; rw [app_list, List.map_append]
theorem nb_lt (x : ByteArray) : ∀ n ∈ nb x, n < 256 := fun n hn => by
  obtain ⟨b, _, rfl⟩ := List.mem_map.1 hn
  exact b.toNat_lt
/- a number in k bytes, the lowest first -/
def putL : Nat → Nat → List UInt8
  | _, 0 => []
  | n, k + 1 => UInt8.ofNat (n % 256) :: putL (n / 256) k
theorem putL_length : ∀ (k n : Nat), (putL n k).length = k
  | 0, _ => rfl
  | k + 1, n => by unfold putL; rw [List.length_cons, putL_length k]
theorem putL_snoc : ∀ (k n : Nat), putL n (k + 1) = putL n k ++ [UInt8.ofNat (n / 256 ^ k % 256)]
  | 0, n => by simp [putL]
  | k + 1, n => by
    rw [putL, putL_snoc k (n / 256), putL, List.cons_append, Nat.div_div_eq_div_mul, ← Nat.pow_succ']
def put (n k : Nat) : ByteArray := ob (putL n k)
theorem put_next (n k : Nat) : ob (putL n k) ++ ⟨#[UInt8.ofNat (n / 256 ^ k % 256)]⟩ = ob (putL n (k + 1)) := by
  apply ext_list
  rw [app_list, ob_list, ob_list, putL_snoc]
theorem put_size (n k : Nat) : (put n k).size = k := by rw [put, ob_size, putL_length]
theorem put_list (n k : Nat) : (put n k).data.toList = putL n k := ob_list _
/- a number that is read -/
def getL : List UInt8 → Nat
  | [] => 0
  | b :: l => b.toNat + 256 * getL l
theorem getL_putL : ∀ (k n : Nat), n < 256 ^ k → getL (putL n k) = n
  | 0, n, h => by
    have : n = 0 := by simpa using h
    subst this
    rfl
  | k + 1, n, h => by
    unfold putL getL
    rw [getL_putL k (n / 256) (by rw [Nat.div_lt_iff_lt_mul (by omega), ← Nat.pow_succ]; exact h), UInt8.toNat_ofNat', Nat.mod_mod]
    omega
theorem putL_getL : ∀ (l : List UInt8), putL (getL l) l.length = l
  | [] => rfl
  | b :: l => by
    have hb := b.toNat_lt
    unfold getL
    rw [List.length_cons, putL, show (b.toNat + 256 * getL l) / 256 = getL l by omega, show (b.toNat + 256 * getL l) % 256 = b.toNat by omega, putL_getL l, UInt8.ofNat_toNat]
theorem getL_lt : ∀ (l : List UInt8), getL l < 256 ^ l.length
  | [] => by simp [getL]
  | b :: l => by
    have hb := b.toNat_lt
    have := getL_lt l
    unfold getL
    rw [List.length_cons, Nat.pow_succ]
    omega
/- the sum, in four bytes -/
def sum4 (x : ByteArray) : ByteArray := put (Crc.sum (nb x)) 4
theorem sum4_size (x : ByteArray) : (sum4 x).size = 4 := put_size _ _
/- a record's frame -/
def frame (r : ByteArray) : ByteArray := put r.size 4 ++ sum4 (put r.size 4 ++ r) ++ r
theorem frame_size (r : ByteArray) : (frame r).size = 8 + r.size := by
  unfold frame
  rw [ByteArray.size_append, ByteArray.size_append, put_size, sum4_size]
def frames : List ByteArray → ByteArray
  | [] => ob []
  | r :: l => frame r ++ frames l
theorem frames_append (a b : List ByteArray) : frames (a ++ b) = frames a ++ frames b := by
  induction a with
  | nil =>
    apply ext_list
    rw [app_list]
    rfl
  | cons r a ih =>
    apply ext_list
    rw [List.cons_append, frames, frames, ih, app_list, app_list, app_list, app_list, List.append_assoc]
def total : List ByteArray → Nat
  | [] => 0
  | r :: l => 8 + r.size + total l
theorem frames_size : ∀ l, (frames l).size = total l
  | [] => rfl
  | r :: l => by rw [frames, ByteArray.size_append, frame_size, frames_size l]; rfl
/- reading frames -/
def Fit (l : List ByteArray) : Prop := ∀ r ∈ l, r.size ≤ 65536
/- these bytes are the frames of these records -/
def Is (b : ByteArray) (l : List ByteArray) : Prop := b = frames l ∧ Fit l
theorem frame_head {r r' : ByteArray} {x x' : List UInt8} (hr : r.size ≤ 65536) (hr' : r'.size ≤ 65536) (h : (frame r).data.toList ++ x = (frame r').data.toList ++ x') : r = r' ∧ x = x' := by
  unfold frame at h
  rw [app_list, app_list, app_list, app_list, put_list, put_list, List.append_assoc, List.append_assoc, List.append_assoc, List.append_assoc] at h
  obtain ⟨h1, h2⟩ := List.append_inj h (by rw [putL_length, putL_length])
  have hs : r.size = r'.size := by
    have e := congrArg getL h1
    rwa [getL_putL 4 _ (by omega), getL_putL 4 _ (by omega)] at e
  obtain ⟨_, h3⟩ := List.append_inj h2 (by rw [← Sc.size_eq, ← Sc.size_eq, sum4_size, sum4_size])
  obtain ⟨h4, h5⟩ := List.append_inj h3 (by rw [← Sc.size_eq, ← Sc.size_eq, hs])
  exact ⟨ext_list h4, h5⟩
theorem frames_inj : ∀ {a b : List ByteArray} {x x' : List UInt8}, Fit a → Fit b → a.length = b.length → (frames a).data.toList ++ x = (frames b).data.toList ++ x' → a = b ∧ x = x'
  | [], [], x, x', _, _, _, h => ⟨rfl, h⟩
  | r :: a, r' :: b, x, x', ha, hb, hl, h => by
    rw [frames, frames, app_list, app_list, List.append_assoc, List.append_assoc] at h
    obtain ⟨e, h1⟩ := frame_head (ha r List.mem_cons_self) (hb r' List.mem_cons_self) h
    obtain ⟨e2, h2⟩ := frames_inj (fun y hy => ha y (List.mem_cons_of_mem _ hy)) (fun y hy => hb y (List.mem_cons_of_mem _ hy)) (by simpa using hl) h1
    exact ⟨by rw [e, e2], h2⟩
  | [], _ :: _, _, _, _, _, hl, _ => by simp at hl
  | _ :: _, [], _, _, _, _, hl, _ => by simp at hl
theorem Is.inj {b : ByteArray} {l l' : List ByteArray} (h : Is b l) (h' : Is b l') : l = l' := by
  have e : frames l = frames l' := h.1.symm.trans h'.1
  have key : ∀ (l l' : List ByteArray), Fit l → Fit l' → frames l = frames l' → l = l' := by
    intro l
    induction l with
    | nil =>
      intro l' _ _ he
      cases l' with
      | nil => rfl
      | cons r t =>
        have := congrArg ByteArray.size he
        rw [frames_size, frames_size, total, total] at this
        omega
    | cons r l ih =>
      intro l' hl hl' he
      cases l' with
      | nil =>
        have := congrArg ByteArray.size he
        rw [frames_size, frames_size, total, total] at this
        omega
      | cons r' t =>
        have he2 := congrArg (fun z : ByteArray => z.data.toList) he
        simp only [frames] at he2
        rw [app_list, app_list] at he2
        obtain ⟨e1, e2⟩ := frame_head (hl r List.mem_cons_self) (hl' r' List.mem_cons_self) he2
        rw [e1, ih t (fun y hy => hl y (List.mem_cons_of_mem _ hy)) (fun y hy => hl' y (List.mem_cons_of_mem _ hy)) (ext_list e2)]
  exact key l l' h.2 h'.2 e
/- the head of a log -/
def magic : ByteArray := ⟨#[65, 81, 87, 76]⟩
def head16 (epoch length : Nat) : ByteArray := magic ++ put epoch 8 ++ put length 4
def head20 (epoch length : Nat) : ByteArray := head16 epoch length ++ sum4 (head16 epoch length)
def head (epoch length : Nat) : ByteArray := Sc.fill (head20 epoch length)
theorem head16_size (epoch length : Nat) : (head16 epoch length).size = 16 := by
  unfold head16
  rw [ByteArray.size_append, ByteArray.size_append, put_size, put_size]
  rfl
theorem head20_size (epoch length : Nat) : (head20 epoch length).size = 20 := by
  unfold head20
  rw [ByteArray.size_append, head16_size, sum4_size]
theorem head_size (epoch length : Nat) : (head epoch length).size = 64 := Sc.fill_size (by rw [head20_size]; omega)
theorem head_list (epoch length : Nat) : (head epoch length).data.toList = magic.data.toList ++ (putL epoch 8 ++ (putL length 4 ++ ((sum4 (head16 epoch length)).data.toList ++ List.replicate 44 0))) := by
  unfold head
  rw [Sc.fill_list, head20_size]
  unfold head20
  rw [app_list]
  unfold head16
  rw [app_list, app_list, put_list, put_list]
  simp [List.append_assoc]
theorem head_inj {e l e' l' : Nat} (he : e < 256 ^ 8) (he' : e' < 256 ^ 8) (hl : l < 256 ^ 4) (hl' : l' < 256 ^ 4) (h : head e l = head e' l') : e = e' ∧ l = l' := by
  have h : (head e l).data.toList = (head e' l').data.toList := by rw [h]
  rw [head_list, head_list] at h
  have h1 := List.append_cancel_left h
  obtain ⟨h2, h3⟩ := List.append_inj h1 (by rw [putL_length, putL_length])
  obtain ⟨h4, _⟩ := List.append_inj h3 (by rw [putL_length, putL_length])
  have e1 := congrArg getL h2
  have e2 := congrArg getL h4
  rw [getL_putL 8 _ he, getL_putL 8 _ he'] at e1
  rw [getL_putL 4 _ hl, getL_putL 4 _ hl'] at e2
  exact ⟨e1, e2⟩
/- no head is a sector of noughts -/
theorem head_ne (e l : Nat) : head e l ≠ Sc.zero64 := fun h => by
  have h1 : (head e l).data.toList.head? = Sc.zero64.data.toList.head? := by rw [h]
  rw [head_list] at h1
  simp [magic, Sc.zero64] at h1
end Wl
/- Proved: how frames are read one by one (stage 8). No program is named. -/
namespace Wl
theorem ext_ext {x : ByteArray} {a b : Nat} : (x.extract a b).data.toList = (x.data.toList.take b).drop a := by
  rw [ByteArray.data_extract, Array.toList_extract]
  simp [List.extract, List.drop_take]
theorem Is.rest : ∀ {a : List ByteArray} {b : ByteArray} {rs : List ByteArray}, Fit a → Is (frames a ++ b) rs → ∃ rs', rs = a ++ rs' ∧ Is b rs'
  | [], b, rs, _, h => by
    refine ⟨rs, rfl, ?_⟩
    have e : frames [] ++ b = b := by
      apply ext_list
      rw [app_list]
      rfl
    rwa [e] at h
  | r :: a, b, rs, hf, h => by
    have h1 : (frame r).data.toList ++ ((frames a).data.toList ++ b.data.toList) = (frames rs).data.toList := by
      rw [← h.1, app_list, frames, app_list, List.append_assoc]
    cases rs with
    | nil =>
      have := congrArg List.length h1
      rw [List.length_append, ← Sc.size_eq, frame_size] at this
      have e0 : (frames []).data.toList.length = 0 := rfl
      omega
    | cons r' t =>
      rw [frames, app_list] at h1
      obtain ⟨e1, e2⟩ := frame_head (hf r List.mem_cons_self) (h.2 r' List.mem_cons_self) h1
      have h2 : Is (frames a ++ b) t := ⟨ext_list (by rw [app_list]; exact e2), fun y hy => h.2 y (List.mem_cons_of_mem _ hy)⟩
      obtain ⟨rs', e3, h3⟩ := Is.rest (fun y hy => hf y (List.mem_cons_of_mem _ hy)) h2
      exact ⟨rs', by rw [← e1, e3]; rfl, h3⟩
structure First (b r : ByteArray) : Prop where
  size : 8 + r.size ≤ b.size
  len : getL (b.data.toList.take 4) = r.size
  rec_ : b.extract 8 (8 + r.size) = r
  all : b.extract 0 (8 + r.size) = frame r
theorem first_of {r : ByteArray} {b rest : ByteArray} (hr : r.size ≤ 65536) (h : b = frame r ++ rest) : First b r := by
  have hl : b.data.toList = putL r.size 4 ++ ((sum4 (put r.size 4 ++ r)).data.toList ++ (r.data.toList ++ rest.data.toList)) := by
    rw [h, app_list]
    unfold frame
    rw [app_list, app_list, put_list, List.append_assoc, List.append_assoc]
  have h4 : (sum4 (put r.size 4 ++ r)).data.toList.length = 4 := by rw [← Sc.size_eq]; exact sum4_size _
  have hrl : r.data.toList.length = r.size := (Sc.size_eq r).symm
  refine ⟨by rw [h, ByteArray.size_append, frame_size]; omega, ?_, ?_, ?_⟩
  · rw [hl, List.take_left' (putL_length 4 _), getL_putL 4 _ (by omega)]
  · apply ext_list
    rw [ext_ext, hl, ← List.append_assoc, List.take_append, List.drop_append]
    have hp : (putL r.size 4 ++ (sum4 (put r.size 4 ++ r)).data.toList).length = 8 := by rw [List.length_append, putL_length, h4]
    rw [List.take_of_length_le (by omega), hp, List.drop_eq_nil_of_le (by omega), List.nil_append, show 8 + r.size - 8 = r.size by omega, Nat.sub_self, List.drop_zero, List.take_left' hrl]
  · apply ext_list
    rw [ext_ext, List.drop_zero, h, app_list, List.take_left' (by rw [← Sc.size_eq, frame_size])]
theorem Is.first {b r : ByteArray} {t : List ByteArray} (h : Is b (r :: t)) : First b r ∧ r.size ≤ 65536 := by
  have hr := h.2 r List.mem_cons_self
  exact ⟨first_of hr h.1, hr⟩
theorem Is.empty {rs : List ByteArray} (h : Is (ob []) rs) : rs = [] := by
  cases rs with
  | nil => rfl
  | cons r t =>
    have := h.first.1.size
    rw [ob_size] at this
    simp at this
theorem cut_back (b : ByteArray) (n : Nat) : b = b.extract 0 n ++ b.extract n b.size := by
  apply ext_list
  rw [app_list, ext_ext, ext_ext, List.drop_zero, Sc.size_eq, List.take_length, List.take_append_drop]
/- one more frame is taken off -/
theorem frames_step {a : List ByteArray} {b b' r : ByteArray} {n : Nat} (h : b = frames a ++ b') (hf : b'.extract 0 n = frame r) : b = frames (a ++ [r]) ++ b'.extract n b'.size := by
  have e1 := cut_back b' n
  rw [hf] at e1
  rw [h, frames_append]
  apply ext_list
  rw [app_list, app_list, app_list]
  have e2 : b'.data.toList = (frame r).data.toList ++ (b'.extract n b'.size).data.toList := by rw [← app_list, ← e1]
  have e3 : (frames [r]).data.toList = (frame r).data.toList := by
    rw [frames, app_list]
    simp [frames, ob]
  rw [e2, e3, List.append_assoc]
/- a number read from its end -/
def getI (l : List UInt8) : Int := if getL l ≤ 4611686018427387904 then (getL l : Int) else -1
theorem getL_split : ∀ (l : List UInt8) (j : Nat), j ≤ l.length → getL l = getL (l.take j) + 256 ^ j * getL (l.drop j)
  | l, 0, _ => by simp [getL]
  | [], j + 1, h => by simp at h
  | b :: l, j + 1, h => by
    rw [List.take_succ_cons, List.drop_succ_cons, getL, getL, getL_split l j (by simpa using h), Nat.pow_succ, Nat.mul_add]
    rw [show 256 ^ j * 256 * getL (l.drop j) = 256 * (256 ^ j * getL (l.drop j)) by rw [Nat.mul_comm (256 ^ j) 256, Nat.mul_assoc]]
    omega
theorem getL_drop {l : List UInt8} {m : Nat} {c : UInt8} (h : l[m]? = some c) : getL (l.drop m) = c.toNat + 256 * getL (l.drop (m + 1)) := by
  obtain ⟨h1, h2⟩ := List.getElem?_eq_some_iff.1 h
  rw [List.drop_eq_getElem_cons h1, h2]
  rfl
theorem getI_big {l : List UInt8} {j : Nat} (hj : 0 < j) (hl : j ≤ l.length) (h : 18014398509481984 < getL (l.drop j)) : getI l = -1 := by
  have e := getL_split l j hl
  have h1 : 256 ^ 1 ≤ 256 ^ j := Nat.pow_le_pow_right (by omega) hj
  have h2 : 256 * getL (l.drop j) ≤ 256 ^ j * getL (l.drop j) := Nat.mul_le_mul_right _ (by simpa using h1)
  unfold getI
  rw [if_neg (by omega)]
end Wl
/- Proved: plain facts on changed bits: one bit turned turns the sum by a shift of 1, up to 32 bits side by side turn it by a shift of these bits, and no shift of anything but 0 is 0. No program in it. -/
namespace Crc
def flip (bs : List Nat) (p : Nat) : List Nat := bs.set (p / 8) (bs.getD (p / 8) 0 ^^^ 2 ^ (p % 8))
def burst (bs : List Nat) (k c : Nat) : Nat → List Nat
  | 0 => bs
  | i + 1 => if c / 2 ^ i % 2 = 1 then flip (burst bs k c i) (k + i) else burst bs k c i
def chg (c i : Nat) : Bool := c % 2 ^ i != 0
theorem flip_length (bs : List Nat) (p : Nat) : (flip bs p).length = bs.length := by simp [flip]
theorem burst_length (bs : List Nat) (k c i : Nat) : (burst bs k c i).length = bs.length := by
  induction i with
  | zero => rfl
  | succ i ih => unfold burst; split <;> simp [flip_length, ih]
theorem xor_lt8 {a b : Nat} (ha : a < 256) (hb : b < 256) : a ^^^ b < 256 := Nat.xor_lt_two_pow (n := 8) ha hb
theorem bit8 (p : Nat) : 2 ^ (p % 8) < 256 := by
  have : p % 8 < 8 := by omega
  exact Nat.pow_lt_pow_right (a := 2) (n := 8) (by omega) this
theorem getD_lt8 {bs : List Nat} (h : ∀ x ∈ bs, x < 256) (i : Nat) : bs.getD i 0 < 256 := by
  rw [List.getD_eq_getElem?_getD]
  by_cases hi : i < bs.length
  · rw [List.getElem?_eq_getElem hi]; exact h _ (List.getElem_mem hi)
  · rw [List.getElem?_eq_none (by omega)]; decide
theorem flip_lt {bs : List Nat} (h : ∀ x ∈ bs, x < 256) (p : Nat) : ∀ x ∈ flip bs p, x < 256 := by
  intro x hx
  rcases List.mem_or_eq_of_mem_set hx with h' | h'
  · exact h x h'
  · rw [h']; exact xor_lt8 (getD_lt8 h _) (bit8 p)
theorem burst_lt {bs : List Nat} (h : ∀ x ∈ bs, x < 256) (k c i : Nat) : ∀ x ∈ burst bs k c i, x < 256 := by
  induction i with
  | zero => exact h
  | succ i ih =>
    unfold burst; split
    · exact flip_lt ih _
    · exact ih
theorem steps_one (b n : Nat) (h : b ≤ n) : steps n (2 ^ b) = steps (n - b) 1 := by
  have e : n = b + (n - b) := by omega
  conv => lhs; rw [e]
  rw [steps_add]
  have := steps_pow b 1
  rw [Nat.mul_one] at this
  rw [this]
theorem fold_set (r : Nat) (bs : List Nat) (q d : Nat) (hq : q < bs.length) : fold r (bs.set q (bs.getD q 0 ^^^ d)) = fold r bs ^^^ pw (bs.length - q - 1) (tk 0 d) := by
  induction bs generalizing r q with
  | nil => simp at hq
  | cons y ys ih =>
    have e : ∀ s z (zs : List Nat), fold s (z :: zs) = fold (tk s z) zs := fun _ _ _ => rfl
    cases q with
    | zero =>
      have g : (y :: ys).getD 0 0 = y := rfl
      rw [g, List.set_cons_zero, e, e, fold_lin (tk r (y ^^^ d)), fold_lin (tk r y)]
      have l : tk r (y ^^^ d) = tk r y ^^^ tk 0 d := by
        rw [tk_eq, tk_eq, tk_eq]; unfold rtk; rw [← Nat.xor_assoc, steps_xor, Nat.zero_xor]
      rw [l, pw_xor]
      have z : (y :: ys).length - 0 - 1 = ys.length := by simp
      rw [z, Nat.xor_assoc, Nat.xor_assoc, Nat.xor_comm (fold 0 ys)]
    | succ q =>
      have g : (y :: ys).getD (q + 1) 0 = ys.getD q 0 := by simp [List.getD]
      rw [g, List.set_cons_succ, e, e, ih _ q (by simpa using hq)]
      have z : (y :: ys).length - (q + 1) - 1 = ys.length - q - 1 := by simp
      rw [z]
theorem fold_flip (r : Nat) (bs : List Nat) (p : Nat) (hp : p < 8 * bs.length) : fold r (flip bs p) = fold r bs ^^^ steps (8 * bs.length - p) 1 := by
  unfold flip
  rw [fold_set r bs (p / 8) _ (by omega), pw_eq]
  have t : tk 0 (2 ^ (p % 8)) = steps 8 (2 ^ (p % 8)) := by rw [tk_eq]; unfold rtk; rw [Nat.zero_xor]
  rw [t, ← steps_add, steps_one (p % 8) _ (by omega)]
  have z : 8 + 8 * (bs.length - p / 8 - 1) - p % 8 = 8 * bs.length - p := by omega
  rw [z]
theorem mod_step (c i : Nat) : c % 2 ^ (i + 1) = if c / 2 ^ i % 2 = 1 then c % 2 ^ i ^^^ 2 ^ i else c % 2 ^ i := by
  rw [Nat.mod_pow_succ]
  rcases Nat.mod_two_eq_zero_or_one (c / 2 ^ i) with h | h <;> rw [h]
  · simp
  · have hl : c % 2 ^ i < 2 ^ i := Nat.mod_lt _ (Nat.two_pow_pos i)
    have e := xor_add i 1 (c % 2 ^ i) hl
    rw [Nat.mul_one] at e
    rw [if_pos rfl, Nat.mul_one, Nat.add_comm, ← e, Nat.xor_comm]
theorem fold_burst (r : Nat) (bs : List Nat) (k c i : Nat) (h : k + i ≤ 8 * bs.length) : fold r (burst bs k c i) = fold r bs ^^^ steps (8 * bs.length - k) (c % 2 ^ i) := by
  induction i with
  | zero => simp [burst, Nat.mod_one, steps_zero]
  | succ i ih =>
    unfold burst
    rw [mod_step]
    split
    · rw [fold_flip _ _ _ (by rw [burst_length]; omega), ih (by omega), burst_length, steps_xor, steps_one i _ (by omega), Nat.xor_assoc]
      have z : 8 * bs.length - (k + i) = 8 * bs.length - k - i := by omega
      rw [z]
    · exact ih (by omega)
theorem bit_inj {x : Nat} (h : x < 4294967296) (e : bit x = 0) : x = 0 := by
  unfold bit at e
  split at e
  · have : x / 2 = 2197175160 := by
      have h1 : (x / 2 ^^^ 2197175160) ^^^ 2197175160 = 0 ^^^ 2197175160 := by rw [e]
      rwa [xor_cancel, Nat.zero_xor] at h1
    omega
  · omega
theorem steps_inj (n : Nat) {x : Nat} (h : x < 4294967296) (e : steps n x = 0) : x = 0 := by
  induction n generalizing x with
  | zero => exact e
  | succ n ih => exact bit_inj h (ih (bit_lt h) e)
theorem xor_eq_self (a b : Nat) (h : a ^^^ b = a) : b = 0 := by
  have : a ^^^ (a ^^^ b) = a ^^^ a := by rw [h]
  rwa [← Nat.xor_assoc, Nat.xor_self, Nat.zero_xor] at this
theorem sum_burst (bs : List Nat) (k c i : Nat) (h : k + i ≤ 8 * bs.length) (hc : c < 4294967296) : (sum (burst bs k c i) != sum bs) = chg c i := by
  unfold sum upd chg
  rw [fold_burst _ _ _ _ _ h]
  generalize hn : 8 * bs.length - k = n
  have hm : c % 2 ^ i < 4294967296 := Nat.lt_of_le_of_lt (Nat.mod_le _ _) hc
  generalize c % 2 ^ i = x at *
  generalize fold (turn 0) bs = f
  by_cases hx : x = 0
  · subst hx; simp [steps_zero]
  · have hs : steps n x ≠ 0 := fun e => hx (steps_inj n hm e)
    have h1 : (turn (f ^^^ steps n x) != turn f) = true := by
      rw [bne_iff_ne]
      intro e
      have e2 : turn (turn (f ^^^ steps n x)) = turn (turn f) := by rw [e]
      unfold turn at e2
      rw [xor_cancel, xor_cancel] at e2
      exact hs (xor_eq_self _ _ e2)
    rw [h1]; simp [hx]
theorem chg_succ (c i : Nat) : chg c (i + 1) = if c / 2 ^ i % 2 = 1 then true else chg c i := by
  unfold chg
  rw [mod_step]
  split
  · have hl : c % 2 ^ i < 2 ^ i := Nat.mod_lt _ (Nat.two_pow_pos i)
    rw [bne_iff_ne]
    intro e
    have e2 : (c % 2 ^ i ^^^ 2 ^ i) ^^^ 2 ^ i = 0 ^^^ 2 ^ i := by rw [e]
    rw [xor_cancel, Nat.zero_xor] at e2
    omega
  · rfl
end Crc
/- Proved: plain facts on a list of bytes that ends in its own sum, four bytes, the lowest first: its whole sum is one fixed number, and up to 32 bits side by side changed anywhere in it are told, also over the place where the sum begins. No program in it. -/
namespace Crc
def num4 (l : List Nat) : Nat := l.getD 0 0 + 256 * l.getD 1 0 + 65536 * l.getD 2 0 + 16777216 * l.getD 3 0
theorem steps_put (j : Nat) (r x y : Nat) (hx : x < 2 ^ j) : steps j (r ^^^ x) ^^^ y = steps j (r ^^^ (x + 2 ^ j * y)) := by
  have e := xor_add j y x hx
  rw [Nat.add_comm x, ← e, Nat.xor_comm (2 ^ j * y) x, ← Nat.xor_assoc, steps_xor j (r ^^^ x), steps_pow]
theorem fold_four (r a b c d : Nat) (ha : a < 256) (hb : b < 256) (hc : c < 256) : fold r [a, b, c, d] = steps 32 (r ^^^ (a + 256 * b + 65536 * c + 16777216 * d)) := by
  show tk (tk (tk (tk r a) b) c) d = _
  rw [tk_eq, tk_eq, tk_eq, tk_eq]
  unfold rtk
  rw [steps_put 8 r a b (by omega), ← steps_add, steps_put 16 r _ c (by omega), ← steps_add, steps_put 24 r _ d (by omega), ← steps_add]
theorem turn0_lt : turn 0 < 4294967296 := by decide
theorem xor_zero_iff (a b : Nat) : a ^^^ b = 0 ↔ a = b := by
  constructor
  · intro h
    have e : (a ^^^ b) ^^^ b = 0 ^^^ b := by rw [h]
    rwa [xor_cancel, Nat.zero_xor] at e
  · intro h; rw [h, Nat.xor_self]
theorem steps_eq (n : Nat) {x y : Nat} (hx : x < 4294967296) (hy : y < 4294967296) (h : steps n x = steps n y) : x = y := by
  have e : steps n (x ^^^ y) = 0 := by rw [steps_xor, h, Nat.xor_self]
  exact (xor_zero_iff x y).1 (steps_inj n (xor_lt hx hy) e)
theorem take_four {P : List Nat} {m : Nat} (hl : P.length = m + 4) : ∃ a b c d, P = P.take m ++ [a, b, c, d] ∧ P.drop m = [a, b, c, d] := by
  have e : (P.drop m).length = 4 := by rw [List.length_drop]; omega
  match h : P.drop m, e with
  | [a, b, c, d], _ => exact ⟨a, b, c, d, by rw [← h, List.take_append_drop], rfl⟩
/- the whole list's sum is the fixed number just where its last four bytes are the sum of the rest -/
theorem whole_iff {P : List Nat} {m : Nat} (hl : P.length = m + 4) (h8 : ∀ x ∈ P, x < 256) : fold (turn 0) P = steps 32 4294967295 ↔ sum (P.take m) = num4 (P.drop m) := by
  obtain ⟨a, b, c, d, h, hd⟩ := take_four hl
  have hm : ∀ x ∈ [a, b, c, d], x < 256 := fun x hx => h8 x (by rw [h]; exact List.mem_append.2 (.inr hx))
  have ha := hm a (by simp)
  have hb := hm b (by simp)
  have hc := hm c (by simp)
  have hdd := hm d (by simp)
  have hf : fold (turn 0) (P.take m) < 4294967296 := fold_lt _ turn0_lt (fun x hx => h8 x (List.mem_of_mem_take hx))
  have e : fold (turn 0) P = steps 32 (fold (turn 0) (P.take m) ^^^ num4 (P.drop m)) := by
    rw [hd]
    conv => lhs; rw [h, fold_append, fold_four _ _ _ _ _ ha hb hc]
    rfl
  have hn : num4 (P.drop m) < 4294967296 := by
    rw [hd]
    show a + 256 * b + 65536 * c + 16777216 * d < _
    omega
  have es : sum (P.take m) = fold (turn 0) (P.take m) ^^^ 4294967295 := rfl
  rw [e, es]
  generalize fold (turn 0) (P.take m) = f at *
  generalize num4 (P.drop m) = n at *
  constructor
  · intro h1
    have h2 := steps_eq 32 (xor_lt hf hn) (by omega) h1
    rw [← h2, ← Nat.xor_assoc, Nat.xor_self, Nat.zero_xor]
  · intro h1
    rw [← h1, ← Nat.xor_assoc, Nat.xor_self, Nat.zero_xor]
theorem burst_same (bs : List Nat) (k c i : Nat) (h : chg c i = false) : burst bs k c i = bs := by
  induction i with
  | zero => rfl
  | succ i ih =>
    rw [chg_succ] at h
    unfold burst
    split
    · rename_i hb; rw [if_pos hb] at h; exact absurd h (by decide)
    · rename_i hb; rw [if_neg hb] at h; exact ih h
/- what is changed is told -/
theorem told_burst {P : List Nat} {m : Nat} (hl : P.length = m + 4) (h8 : ∀ x ∈ P, x < 256) (hv : sum (P.take m) = num4 (P.drop m)) (k c i : Nat) (hk : k + i ≤ 8 * (m + 4)) (hc : c < 4294967296) :
    (sum ((burst P k c i).take m) != num4 ((burst P k c i).drop m)) = chg c i := by
  have hw := (whole_iff hl h8).2 hv
  have hq := whole_iff (P := burst P k c i) (m := m) (by rw [burst_length]; exact hl) (burst_lt h8 k c i)
  rw [fold_burst _ _ _ _ _ (by rw [hl]; exact hk), hw] at hq
  have hm : c % 2 ^ i < 4294967296 := Nat.lt_of_le_of_lt (Nat.mod_le _ _) hc
  unfold chg
  by_cases hx : c % 2 ^ i = 0
  · rw [hx, steps_zero, Nat.xor_zero] at hq
    rw [hx, hq.1 rfl]
    simp
  · have hn : sum ((burst P k c i).take m) ≠ num4 ((burst P k c i).drop m) := fun e => hx (steps_inj _ hm (xor_eq_self _ _ (hq.2 e)))
    rw [bne_iff_ne.2 hn, bne_iff_ne.2 hx]
end Crc
