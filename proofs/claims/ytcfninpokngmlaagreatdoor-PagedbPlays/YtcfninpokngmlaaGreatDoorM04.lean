/- Proved: what strings.Clone and slices.Clone of texts answer. -/
import Derived.Test.YtcfninpokngmlaaGreatDoorM03
import Derived.Shelf.Pu.Clone
import Derived.Test.YtcfninpokngmlaaGreatDoorM02
import Derived.BigQuiet
namespace Go.Proofs.YtcfninpokngmlaaGreatDoor
open Go.RowKit
def renC : Go.Shelf.Ren := ⟨fun | 25 => 89 | n => n, fun | 0 => 0 | 3 => 3 | 4 => 4 | 5 => 5 | 9 => 9 | 37 => 138 | 47 => 166 | n => n, fun | n => n⟩
theorem layC : Go.Proofs.LaysPu.n25 Tryz.prog renC := {
  mixed := by kernel_rfl
  f25 := Tryz.func89.trans (congrArg some (by kernel_rfl))
  t0 := Tryz.underlying0
  a0 := Tryz.isAgg0
  z0 := Tryz.sizeOf0
  v0 := Tryz.zeroValue0
  i0 := by kernel_rfl
  t3 := Tryz.underlying3
  a3 := Tryz.isAgg3
  z3 := Tryz.sizeOf3
  v3 := Tryz.zeroValue3
  i3 := by kernel_rfl
  t4 := Tryz.underlying4
  a4 := Tryz.isAgg4
  z4 := Tryz.sizeOf4
  v4 := Tryz.zeroValue4
  i4 := by kernel_rfl
  t5 := Tryz.underlying5
  a5 := Tryz.isAgg5
  z5 := Tryz.sizeOf5
  v5 := Tryz.zeroValue5
  i5 := by kernel_rfl
  t9 := Tryz.underlying9
  a9 := Tryz.isAgg9
  z9 := Tryz.sizeOf9
  v9 := Tryz.zeroValue9
  i9 := by kernel_rfl
  t37 := Tryz.underlying138
  a37 := Tryz.isAgg138
  z37 := Tryz.sizeOf138
  v37 := Tryz.zeroValue138
  i37 := by kernel_rfl
  t47 := Tryz.underlying166
  a47 := Tryz.isAgg166
  z47 := Tryz.sizeOf166
  v47 := Tryz.zeroValue166
  i47 := by kernel_rfl }
theorem clite_any (s : ByteArray) (w : World) (h : s.size ≤ 281474976710656) :
    Calls Tryz.prog 89 #[.string s] w fun e w' => e = .returned (.string s) ∧ Below w.heap.size w w' := AnyPu.stringslite_Clone layC s w h
set_option maxHeartbeats 400000 in
theorem sclone_any (s : ByteArray) (w : World) (h : s.size ≤ 281474976710656) :
    Calls Tryz.prog 65 #[.string s] w fun e w' => e = .returned (.string s) ∧ Below w.heap.size w w' := by
  have H := clite_any s w h
  go_enter Tryz.func65, Tryz.ntmps65
  go_wp2_with fail
  refine H.mono ?_
  rintro e w' ⟨rfl, hB⟩
  go_wp2
  go_ret
  exact ⟨rfl, hB⟩
theorem own_empty {W : World} {N g : Nat} (hNg : N ≤ g) (hg : W.heap[g]? = some (.cells #[] 9 (0, 0))) : OwnS W N (.slice (some ⟨g, 0, none⟩) 0 0) [] := ⟨rfl, .inr ⟨g, 0, #[], rfl, hNg, hg, Nat.le_refl _, Nat.zero_le _, rfl, rfl⟩⟩
set_option maxHeartbeats 2000000 in
set_option maxRecDepth 20000 in
theorem clone_any (v : Value) (rs : List ByteArray) (w : World) (h : OwnS w 0 v rs) (hl : rs.length ≤ 1000000) :
    Calls Tryz.prog 101 #[v] w fun e w' => ∃ u, e = .returned u ∧ OwnS w' w.heap.size u rs ∧ Below w.heap.size w w' := by
  have HO : Hid (OwnS w 0 v rs) := h
  have q27 : ∀ (w : World) (a : Option Addr) (n c n' c' : Nat), (binOp .eql 114 (.slice a n c) (.slice none n' c')).run Tryz.prog w = .ok (.bool a.isNone) w := fun w a n c n' c' => Lib.run_eql_slice_nil w _ _ a n c n' c' Tryz.underlying114
  rcases h.2 with ⟨hv, h0⟩ | ⟨g, cap, cur, hv, _⟩
  · obtain rfl : rs = [] := List.length_eq_zero_iff.1 h0
    subst hv
    clear h
    go_enter Tryz.func101, Tryz.ntmps101
    go_wp2
    go_ret
    exact ⟨_, rfl, World.ownsRow_nil _ _ _ _, Below.refl _ _⟩
  · subst hv
    clear h
    go_enter Tryz.func101, Tryz.ntmps101
    go_wp2_with (first | (refine app_many rfl (.tmp 5) (.tmp 6) rfl _ w.heap.size _ _ [] rs rfl (own_empty (Nat.le_refl _) (heap_alloc_new w _)) rfl (own_alloc HO.out _) (by simp; omega) (by simp) ?_; intro v3 w3 hO3 hG3 _; have HFN : Hid (OwnS w3 w.heap.size v3 rs ∧ Below w.heap.size w w3) := ⟨hO3, ((Below.refl _ _).alloc (Nat.le_refl _) _).trans (below_grown hG3 (own_empty (Nat.le_refl _) (heap_alloc_new w _)) (by simp))⟩; clear hO3 hG3))
    go_ret
    exact ⟨_, rfl, HFN.out⟩
end Go.Proofs.YtcfninpokngmlaaGreatDoor
/- Proved: plain facts on changed bits: one bit turned turns the sum by a shift of 1, up to 32 bits side by side turn it by a shift of these bits, and no shift of anything but 0 is 0. No program in it. -/
namespace Crc
def flip (bs : List Nat) (p : Nat) : List Nat := bs.set (p / 8) (bs.getD (p / 8) 0 ^^^ 2 ^ (p % 8))
def burst (bs : List Nat) (k c : Nat) : Nat → List Nat
  | 0 => bs
  | i + 1 => if c / 2 ^ i % 2 = 1 then flip (burst bs k c i) (k + i) else burst bs k c i
def chg (c i : Nat) : Bool := c % 2 ^ i != 0
theorem flip_length (bs : List Nat) (p : Nat) : (flip bs p).length = bs.length := by simp [flip]
theorem burst_length (bs : List Nat) (k c i : Nat) : (burst bs k c i).length = bs.length := by
  induction i with
  | zero => rfl
  | succ i ih => unfold burst; split <;> simp [flip_length, ih]
theorem xor_lt8 {a b : Nat} (ha : a < 256) (hb : b < 256) : a ^^^ b < 256 := Nat.xor_lt_two_pow (n := 8) ha hb
theorem bit8 (p : Nat) : 2 ^ (p % 8) < 256 := by
  have : p % 8 < 8 := by omega
  exact Nat.pow_lt_pow_right (a := 2) (n := 8) (by omega) this
theorem getD_lt8 {bs : List Nat} (h : ∀ x ∈ bs, x < 256) (i : Nat) : bs.getD i 0 < 256 := by
  rw [List.getD_eq_getElem?_getD]
  by_cases hi : i < bs.length
  · rw [List.getElem?_eq_getElem hi]; exact h _ (List.getElem_mem hi)
  · rw [List.getElem?_eq_none (by omega)]; decide
theorem flip_lt {bs : List Nat} (h : ∀ x ∈ bs, x < 256) (p : Nat) : ∀ x ∈ flip bs p, x < 256 := by
  intro x hx
  rcases List.mem_or_eq_of_mem_set hx with h' | h'
  · exact h x h'
  · rw [h']; exact xor_lt8 (getD_lt8 h _) (bit8 p)
theorem burst_lt {bs : List Nat} (h : ∀ x ∈ bs, x < 256) (k c i : Nat) : ∀ x ∈ burst bs k c i, x < 256 := by
  induction i with
  | zero => exact h
  | succ i ih =>
    unfold burst; split
    · exact flip_lt ih _
    · exact ih
theorem steps_one (b n : Nat) (h : b ≤ n) : steps n (2 ^ b) = steps (n - b) 1 := by
  have e : n = b + (n - b) := by omega
  conv => lhs; rw [e]
  rw [steps_add]
  have := steps_pow b 1
  rw [Nat.mul_one] at this
  rw [this]
theorem fold_set (r : Nat) (bs : List Nat) (q d : Nat) (hq : q < bs.length) : fold r (bs.set q (bs.getD q 0 ^^^ d)) = fold r bs ^^^ pw (bs.length - q - 1) (tk 0 d) := by
  induction bs generalizing r q with
  | nil => simp at hq
  | cons y ys ih =>
    have e : ∀ s z (zs : List Nat), fold s (z :: zs) = fold (tk s z) zs := fun _ _ _ => rfl
    cases q with
    | zero =>
      have g : (y :: ys).getD 0 0 = y := rfl
      rw [g, List.set_cons_zero, e, e, fold_lin (tk r (y ^^^ d)), fold_lin (tk r y)]
      have l : tk r (y ^^^ d) = tk r y ^^^ tk 0 d := by
        rw [tk_eq, tk_eq, tk_eq]; unfold rtk; rw [← Nat.xor_assoc, steps_xor, Nat.zero_xor]
      rw [l, pw_xor]
      have z : (y :: ys).length - 0 - 1 = ys.length := by simp
      rw [z, Nat.xor_assoc, Nat.xor_assoc, Nat.xor_comm (fold 0 ys)]
    | succ q =>
      have g : (y :: ys).getD (q + 1) 0 = ys.getD q 0 := by simp [List.getD]
      rw [g, List.set_cons_succ, e, e, ih _ q (by simpa using hq)]
      have z : (y :: ys).length - (q + 1) - 1 = ys.length - q - 1 := by simp
      rw [z]
theorem fold_flip (r : Nat) (bs : List Nat) (p : Nat) (hp : p < 8 * bs.length) : fold r (flip bs p) = fold r bs ^^^ steps (8 * bs.length - p) 1 := by
  unfold flip
  rw [fold_set r bs (p / 8) _ (by omega), pw_eq]
  have t : tk 0 (2 ^ (p % 8)) = steps 8 (2 ^ (p % 8)) := by rw [tk_eq]; unfold rtk; rw [Nat.zero_xor]
  rw [t, ← steps_add, steps_one (p % 8) _ (by omega)]
  have z : 8 + 8 * (bs.length - p / 8 - 1) - p % 8 = 8 * bs.length - p := by omega
  rw [z]
theorem mod_step (c i : Nat) : c % 2 ^ (i + 1) = if c / 2 ^ i % 2 = 1 then c % 2 ^ i ^^^ 2 ^ i else c % 2 ^ i := by
  rw [Nat.mod_pow_succ]
  rcases Nat.mod_two_eq_zero_or_one (c / 2 ^ i) with h | h <;> rw [h]
  · simp
  · have hl : c % 2 ^ i < 2 ^ i := Nat.mod_lt _ (Nat.two_pow_pos i)
    have e := xor_add i 1 (c % 2 ^ i) hl
    rw [Nat.mul_one] at e
    rw [if_pos rfl, Nat.mul_one, Nat.add_comm, ← e, Nat.xor_comm]
theorem fold_burst (r : Nat) (bs : List Nat) (k c i : Nat) (h : k + i ≤ 8 * bs.length) : fold r (burst bs k c i) = fold r bs ^^^ steps (8 * bs.length - k) (c % 2 ^ i) := by
  induction i with
  | zero => simp [burst, Nat.mod_one, steps_zero]
  | succ i ih =>
    unfold burst
    rw [mod_step]
    split
    · rw [fold_flip _ _ _ (by rw [burst_length]; omega), ih (by omega), burst_length, steps_xor, steps_one i _ (by omega), Nat.xor_assoc]
      have z : 8 * bs.length - (k + i) = 8 * bs.length - k - i := by omega
      rw [z]
    · exact ih (by omega)
theorem bit_inj {x : Nat} (h : x < 4294967296) (e : bit x = 0) : x = 0 := by
  unfold bit at e
  split at e
  · have : x / 2 = 2197175160 := by
      have h1 : (x / 2 ^^^ 2197175160) ^^^ 2197175160 = 0 ^^^ 2197175160 := by rw [e]
      rwa [xor_cancel, Nat.zero_xor] at h1
    omega
  · omega
theorem steps_inj (n : Nat) {x : Nat} (h : x < 4294967296) (e : steps n x = 0) : x = 0 := by
  induction n generalizing x with
  | zero => exact e
  | succ n ih => exact bit_inj h (ih (bit_lt h) e)
theorem xor_eq_self (a b : Nat) (h : a ^^^ b = a) : b = 0 := by
  have : a ^^^ (a ^^^ b) = a ^^^ a := by rw [h]
  rwa [← Nat.xor_assoc, Nat.xor_self, Nat.zero_xor] at this
end Crc
/- Proved: plain facts on a list of bytes that ends in its own sum, four bytes, the lowest first: its whole sum is one fixed number, and up to 32 bits side by side changed anywhere in it are told, also over the place where the sum begins. No program in it. -/
namespace Crc
def num4 (l : List Nat) : Nat := l.getD 0 0 + 256 * l.getD 1 0 + 65536 * l.getD 2 0 + 16777216 * l.getD 3 0
theorem steps_put (j : Nat) (r x y : Nat) (hx : x < 2 ^ j) : steps j (r ^^^ x) ^^^ y = steps j (r ^^^ (x + 2 ^ j * y)) := by
  have e := xor_add j y x hx
  rw [Nat.add_comm x, ← e, Nat.xor_comm (2 ^ j * y) x, ← Nat.xor_assoc, steps_xor j (r ^^^ x), steps_pow]
theorem fold_four (r a b c d : Nat) (ha : a < 256) (hb : b < 256) (hc : c < 256) : fold r [a, b, c, d] = steps 32 (r ^^^ (a + 256 * b + 65536 * c + 16777216 * d)) := by
  show tk (tk (tk (tk r a) b) c) d = _
  rw [tk_eq, tk_eq, tk_eq, tk_eq]
  unfold rtk
  rw [steps_put 8 r a b (by omega), ← steps_add, steps_put 16 r _ c (by omega), ← steps_add, steps_put 24 r _ d (by omega), ← steps_add]
theorem turn0_lt : turn 0 < 4294967296 := by decide
theorem xor_zero_iff (a b : Nat) : a ^^^ b = 0 ↔ a = b := by
  constructor
  · intro h
    have e : (a ^^^ b) ^^^ b = 0 ^^^ b := by rw [h]
    rwa [xor_cancel, Nat.zero_xor] at e
  · intro h; rw [h, Nat.xor_self]
theorem steps_eq (n : Nat) {x y : Nat} (hx : x < 4294967296) (hy : y < 4294967296) (h : steps n x = steps n y) : x = y := by
  have e : steps n (x ^^^ y) = 0 := by rw [steps_xor, h, Nat.xor_self]
  exact (xor_zero_iff x y).1 (steps_inj n (xor_lt hx hy) e)
theorem take_four {P : List Nat} {m : Nat} (hl : P.length = m + 4) : ∃ a b c d, P = P.take m ++ [a, b, c, d] ∧ P.drop m = [a, b, c, d] := by
  have e : (P.drop m).length = 4 := by rw [List.length_drop]; omega
  match h : P.drop m, e with
  | [a, b, c, d], _ => exact ⟨a, b, c, d, by rw [← h, List.take_append_drop], rfl⟩
/- the whole list's sum is the fixed number just where its last four bytes are the sum of the rest -/
theorem whole_iff {P : List Nat} {m : Nat} (hl : P.length = m + 4) (h8 : ∀ x ∈ P, x < 256) : fold (turn 0) P = steps 32 4294967295 ↔ sum (P.take m) = num4 (P.drop m) := by
  obtain ⟨a, b, c, d, h, hd⟩ := take_four hl
  have hm : ∀ x ∈ [a, b, c, d], x < 256 := fun x hx => h8 x (by rw [h]; exact List.mem_append.2 (.inr hx))
  have ha := hm a (by simp)
  have hb := hm b (by simp)
  have hc := hm c (by simp)
  have hdd := hm d (by simp)
  have hf : fold (turn 0) (P.take m) < 4294967296 := fold_lt _ turn0_lt (fun x hx => h8 x (List.mem_of_mem_take hx))
  have e : fold (turn 0) P = steps 32 (fold (turn 0) (P.take m) ^^^ num4 (P.drop m)) := by
    rw [hd]
    conv => lhs; rw [h, fold_append, fold_four _ _ _ _ _ ha hb hc]
    rfl
  have hn : num4 (P.drop m) < 4294967296 := by
    rw [hd]
    show a + 256 * b + 65536 * c + 16777216 * d < _
    omega
  have es : sum (P.take m) = fold (turn 0) (P.take m) ^^^ 4294967295 := rfl
  rw [e, es]
  generalize fold (turn 0) (P.take m) = f at *
  generalize num4 (P.drop m) = n at *
  constructor
  · intro h1
    have h2 := steps_eq 32 (xor_lt hf hn) (by omega) h1
    rw [← h2, ← Nat.xor_assoc, Nat.xor_self, Nat.zero_xor]
  · intro h1
    rw [← h1, ← Nat.xor_assoc, Nat.xor_self, Nat.zero_xor]
/- what is changed is told -/
theorem told_burst {P : List Nat} {m : Nat} (hl : P.length = m + 4) (h8 : ∀ x ∈ P, x < 256) (hv : sum (P.take m) = num4 (P.drop m)) (k c i : Nat) (hk : k + i ≤ 8 * (m + 4)) (hc : c < 4294967296) :
    (sum ((burst P k c i).take m) != num4 ((burst P k c i).drop m)) = chg c i := by
  have hw := (whole_iff hl h8).2 hv
  have hq := whole_iff (P := burst P k c i) (m := m) (by rw [burst_length]; exact hl) (burst_lt h8 k c i)
  rw [fold_burst _ _ _ _ _ (by rw [hl]; exact hk), hw] at hq
  have hm : c % 2 ^ i < 4294967296 := Nat.lt_of_le_of_lt (Nat.mod_le _ _) hc
  unfold chg
  by_cases hx : c % 2 ^ i = 0
  · rw [hx, steps_zero, Nat.xor_zero] at hq
    rw [hx, hq.1 rfl]
    simp
  · have hn : sum ((burst P k c i).take m) ≠ num4 ((burst P k c i).drop m) := fun e => hx (steps_inj _ hm (xor_eq_self _ _ (hq.2 e)))
    rw [bne_iff_ne.2 hn, bne_iff_ne.2 hx]
end Crc
/- Proved: plain facts of pages (stage 9): what is sealed, what is opened, texts in pieces. No program is named. -/
namespace Pg
open Wl
def zs (n : Nat) : List UInt8 := List.replicate n 0
/- a page's head: its number, its kind, a 00, the length of its body -/
def headL (id kind n : Nat) : List UInt8 := putL id 4 ++ (putL kind 1 ++ (putL 0 1 ++ putL n 2))
def head (id kind n : Nat) : ByteArray := ob (headL id kind n)
theorem headL_length (id kind n : Nat) : (headL id kind n).length = 8 := by unfold headL; simp [putL_length]
theorem head_size (id kind n : Nat) : (head id kind n).size = 8 := by rw [head, ob_size, headL_length]
/- what stands ahead of the sum -/
def frontL (id kind : Nat) (b : ByteArray) : List UInt8 := headL id kind b.size ++ (b.data.toList ++ zs (500 - b.size))
def front (id kind : Nat) (b : ByteArray) : ByteArray := ob (frontL id kind b)
theorem front_list (id kind : Nat) (b : ByteArray) : (front id kind b).data.toList = frontL id kind b := ob_list _
theorem front_size {id kind : Nat} {b : ByteArray} (h : b.size ≤ 500) : (front id kind b).size = 508 := by
  have := Sc.size_eq b
  rw [front, ob_size]
  unfold frontL zs
  rw [List.length_append, List.length_append, headL_length, List.length_replicate]
  omega
def page (id kind : Nat) (b : ByteArray) : ByteArray := front id kind b ++ sum4 (front id kind b)
theorem page_size {id kind : Nat} {b : ByteArray} (h : b.size ≤ 500) : (page id kind b).size = 512 := by
  unfold page
  rw [ByteArray.size_append, front_size h, sum4_size]
theorem page_list (id kind : Nat) (b : ByteArray) : (page id kind b).data.toList = frontL id kind b ++ putL (Crc.sum (nb (front id kind b))) 4 := by
  unfold page sum4
  rw [app_list, front_list, put_list]
theorem frontL_length {id kind : Nat} {b : ByteArray} (h : b.size ≤ 500) : (frontL id kind b).length = 508 := by rw [← front_list, ← Sc.size_eq, front_size h]
/- no number, or no kind -/
def bad (id kind : Int) : Bool := decide (id < 0) || decide (2147483647 < id) || decide (kind < 1) || decide (255 < kind)
def sealE (id kind : Int) (b : ByteArray) : Int := if bad id kind then 2 else if 500 < b.size then 3 else 0
def sealS (id kind : Int) (b : ByteArray) : ByteArray := if bad id kind then ⟨#[]⟩ else if 500 < b.size then ⟨#[]⟩ else page id.toNat kind.toNat b
theorem bad_false {id kind : Int} (h : bad id kind = false) : 0 ≤ id ∧ id ≤ 2147483647 ∧ 1 ≤ kind ∧ kind ≤ 255 := by
  unfold bad at h
  simp at h
  omega
theorem bad_true {id kind : Int} (h : bad id kind = true) : id < 0 ∨ 2147483647 < id ∨ kind < 1 ∨ 255 < kind := by
  unfold bad at h
  simp at h
  omega
theorem bad_of {id kind : Int} (h : 0 ≤ id ∧ id ≤ 2147483647 ∧ 1 ≤ kind ∧ kind ≤ 255) : bad id kind = false := by
  unfold bad
  simp
  omega
/- what a text of 512 bytes has in it -/
def fr (s : ByteArray) : ByteArray := s.extract 0 508
def tl4 (s : ByteArray) : List UInt8 := s.data.toList.drop 508
def len (s : ByteArray) : Nat := getL ((s.data.toList.drop 6).take 2)
def kd (s : ByteArray) : Nat := getL ((s.data.toList.drop 4).take 1)
def body (s : ByteArray) : ByteArray := s.extract 8 (8 + len s)
def openE (id : Int) (s : ByteArray) : Int :=
  if s.size ≠ 512 then 5 else if Crc.sum (nb (fr s)) ≠ getL (tl4 s) then 6 else if 500 < len s then 5 else
  if sealE id (kd s) (body s) = 0 ∧ sealS id (kd s) (body s) = s then 0 else 5
def openK (id : Int) (s : ByteArray) : Int := if openE id s = 0 then (kd s : Int) else 0
def openB (id : Int) (s : ByteArray) : ByteArray := if openE id s = 0 then body s else ⟨#[]⟩
theorem fr_list (s : ByteArray) : (fr s).data.toList = s.data.toList.take 508 := by rw [fr, ext_ext, List.drop_zero]
/- a page's parts -/
theorem page_fr {id kind : Nat} {b : ByteArray} (h : b.size ≤ 500) : fr (page id kind b) = front id kind b := by
  apply ext_list
  rw [fr_list, page_list, front_list, List.take_left' (frontL_length h)]
theorem page_tl {id kind : Nat} {b : ByteArray} (h : b.size ≤ 500) : tl4 (page id kind b) = putL (Crc.sum (nb (front id kind b))) 4 := by
  unfold tl4
  rw [page_list, List.drop_left' (frontL_length h)]
theorem sum_lt (x : ByteArray) : Crc.sum (nb x) < 4294967296 := by
  unfold Crc.sum Crc.upd
  exact Crc.turn_lt (Crc.fold_lt _ (Crc.turn_lt (by omega)) (nb_lt x))
theorem page_sum {id kind : Nat} {b : ByteArray} (h : b.size ≤ 500) : Crc.sum (nb (fr (page id kind b))) = getL (tl4 (page id kind b)) := by
  rw [page_fr h, page_tl h, getL_putL 4 _ (sum_lt _)]
theorem page_parts (id kind : Nat) (b : ByteArray) : (page id kind b).data.toList = putL id 4 ++ (putL kind 1 ++ (putL 0 1 ++ (putL b.size 2 ++ (b.data.toList ++ (zs (500 - b.size) ++ putL (Crc.sum (nb (front id kind b))) 4))))) := by
  rw [page_list]
  unfold frontL headL
  simp [List.append_assoc]
theorem page_kd {id kind : Nat} {b : ByteArray} (hk : kind < 256) : kd (page id kind b) = kind := by
  unfold kd
  rw [page_parts, List.drop_left' (putL_length 4 _), List.take_left' (putL_length 1 _), getL_putL 1 _ (by omega)]
theorem page_len {id kind : Nat} {b : ByteArray} (h : b.size ≤ 500) : len (page id kind b) = b.size := by
  unfold len
  rw [page_parts, ← List.append_assoc (putL kind 1), ← List.append_assoc (putL id 4), List.drop_left' (by simp [putL_length]), List.take_left' (putL_length 2 _), getL_putL 2 _ (by omega)]
theorem page_body {id kind : Nat} {b : ByteArray} (h : b.size ≤ 500) : body (page id kind b) = b := by
  have hb := Sc.size_eq b
  apply ext_list
  unfold body
  rw [page_len h, ext_ext, page_list]
  unfold frontL
  rw [List.append_assoc, List.append_assoc, List.take_append, List.take_of_length_le (by rw [headL_length]; omega), headL_length, List.drop_left' (headL_length _ _ _), show 8 + b.size - 8 = b.size by omega, List.take_left' hb.symm]
/- what is sealed is opened as it was -/
theorem open_page {id kind : Int} {b : ByteArray} (hb : bad id kind = false) (h : b.size ≤ 500) (other : Int) (ho : 0 ≤ other ∧ other ≤ 2147483647) : openE other (page id.toNat kind.toNat b) = if other = id then 0 else 5 := by
  have hk := bad_false hb
  have ek : ((kd (page id.toNat kind.toNat b) : Nat) : Int) = kind := by rw [page_kd (by omega)]; omega
  have hb2 : bad other kind = false := bad_of ⟨ho.1, ho.2, hk.2.2.1, hk.2.2.2⟩
  unfold openE
  rw [if_neg (by rw [page_size h]; decide), if_neg (by rw [page_sum h]; simp), if_neg (by rw [page_len h]; omega), ek, page_body h]
  unfold sealE sealS
  rw [hb2]
  simp only [Bool.false_eq_true, if_false, show ¬ 500 < b.size by omega]
  by_cases he : other = id
  · subst he
    simp
  · rw [if_neg he, if_neg]
    rintro ⟨_, e⟩
    have e1 : (page other.toNat kind.toNat b).data.toList = (page id.toNat kind.toNat b).data.toList := by rw [e]
    rw [page_parts, page_parts] at e1
    have e2 := congrArg getL (List.append_inj e1 (by rw [putL_length, putL_length])).1
    rw [getL_putL 4 _ (by omega), getL_putL 4 _ (by omega)] at e2
    omega
theorem open_same {id kind : Int} {b : ByteArray} (hb : bad id kind = false) (h : b.size ≤ 500) : openE id (page id.toNat kind.toNat b) = 0 ∧ openK id (page id.toNat kind.toNat b) = kind ∧ openB id (page id.toNat kind.toNat b) = b := by
  have hk := bad_false hb
  have e := open_page hb h id ⟨hk.1, hk.2.1⟩
  rw [if_pos rfl] at e
  refine ⟨e, ?_, ?_⟩
  · unfold openK
    rw [if_pos e, page_kd (by omega)]
    omega
  · unfold openB
    rw [if_pos e, page_body h]
theorem open_size {id : Int} {s : ByteArray} (h : s.size ≠ 512) : openE id s = 5 := by unfold openE; rw [if_pos h]
/- the four last bytes as a number -/
theorem num4_getL (l : List UInt8) (h : l.length = 4) : Crc.num4 (l.map UInt8.toNat) = getL l := by
  match l, h with
  | [a, b, c, d], _ =>
    unfold Crc.num4
    simp [getL]
    omega
theorem nb_fr (s : ByteArray) : nb (fr s) = (nb s).take 508 := by unfold nb; rw [fr_list, List.map_take]
theorem nb_length (s : ByteArray) : (nb s).length = s.size := by unfold nb; rw [List.length_map, ← Sc.size_eq]
theorem tl4_num {s : ByteArray} (h : s.size = 512) : getL (tl4 s) = Crc.num4 ((nb s).drop 508) := by
  have hs := Sc.size_eq s
  rw [← num4_getL _ (by unfold tl4; rw [List.length_drop]; omega)]
  unfold tl4 nb
  rw [List.map_drop]
/- up to 32 bits side by side that are changed are told -/
theorem turned {id kind : Nat} {b : ByteArray} (h : b.size ≤ 500) (s : ByteArray) (k c i : Nat) (hk : k + i ≤ 4096) (hc : c < 4294967296) (hs : nb s = Crc.burst (nb (page id kind b)) k c i) (x : Int) (hx : Crc.chg c i = true) : openE x s = 6 := by
  have hz : s.size = 512 := by rw [← nb_length, hs, Crc.burst_length, nb_length, page_size h]
  have hv := page_sum (id := id) (kind := kind) h
  rw [nb_fr, tl4_num (page_size h)] at hv
  have ht := Crc.told_burst (m := 508) (by rw [nb_length, page_size h]) (nb_lt _) hv k c i hk hc
  rw [← hs, hx] at ht
  unfold openE
  rw [if_neg (by omega), if_pos]
  rw [nb_fr, tl4_num hz]
  exact bne_iff_ne.1 ht
/- a text in pieces -/
def cutF : Nat → ByteArray → Nat → List Nat → List ByteArray
  | 0, _, _, _ => []
  | f + 1, s, k, more => if s.size = 0 then [] else s.extract 0 (min k s.size) :: cutF f (s.extract (min k s.size) s.size) (more.headD k) more.tail
def cut (s : ByteArray) (k : Nat) (more : List Nat) : List ByteArray := cutF s.size s k more
theorem ext_size (s : ByteArray) (a b : Nat) (h : b ≤ s.size) : (s.extract a b).size = b - a := by
  have := Sc.size_eq s
  rw [Sc.size_eq, ext_ext, List.length_drop, List.length_take]
  omega
theorem cutF_more : ∀ (f g : Nat) (s : ByteArray) (k : Nat) (more : List Nat), 0 < k → (∀ x ∈ more, 0 < x) → s.size ≤ f → s.size ≤ g → cutF f s k more = cutF g s k more
  | 0, g, s, k, more, _, _, h, _ => by
    cases g with
    | zero => rfl
    | succ g => unfold cutF; rw [if_pos (by omega)]
  | f + 1, 0, s, k, more, _, _, _, h => by unfold cutF; rw [if_pos (by omega)]
  | f + 1, g + 1, s, k, more, hk, hm, h1, h2 => by
    unfold cutF
    by_cases h0 : s.size = 0
    · rw [if_pos h0, if_pos h0]
    · rw [if_neg h0, if_neg h0]
      have e := ext_size s (min k s.size) s.size (Nat.le_refl _)
      have hh : 0 < more.headD k := by
        cases more with
        | nil => exact hk
        | cons x l => exact hm x List.mem_cons_self
      rw [cutF_more f g _ _ _ hh (fun x hx => hm x (List.mem_of_mem_tail hx)) (by omega) (by omega)]
theorem cut_nil {s : ByteArray} (k : Nat) (more : List Nat) (h : s.size = 0) : cut s k more = [] := by unfold cut; rw [h]; rfl
theorem cut_cons {s : ByteArray} {k : Nat} {more : List Nat} (hk : 0 < k) (hm : ∀ x ∈ more, 0 < x) (h : s.size ≠ 0) : cut s k more = s.extract 0 (min k s.size) :: cut (s.extract (min k s.size) s.size) (more.headD k) more.tail := by
  unfold cut
  obtain ⟨f, hf⟩ : ∃ f, s.size = f + 1 := ⟨s.size - 1, by omega⟩
  have e := ext_size s (min k s.size) s.size (Nat.le_refl _)
  have hh : 0 < more.headD k := by
    cases more with
    | nil => exact hk
    | cons x l => exact hm x List.mem_cons_self
  rw [cutF_more (s.extract (min k s.size) s.size).size f _ _ _ hh (fun x hx => hm x (List.mem_of_mem_tail hx)) (by omega) (by omega)]
  conv => lhs; rw [hf]
  conv => lhs; unfold cutF
  rw [if_neg h]
theorem ext_ext2 (s : ByteArray) (a b c d : Nat) (_hb : b ≤ s.size) (hd : a + d ≤ b) : (s.extract a b).extract c d = s.extract (a + c) (a + d) := by
  have := Sc.size_eq s
  apply ext_list
  rw [ext_ext, ext_ext, ext_ext, List.take_drop, List.take_take, Nat.min_eq_left (by omega), List.drop_drop, Nat.add_comm a d, Nat.add_comm d a]
theorem min_at {a b : Nat} (h : a ≤ b) : min a b = a := Nat.min_eq_left h
/- the two halves of a page's text -/
theorem cut_two {s : ByteArray} (h : s.size = 512) : cut s 508 [4] = [fr s, s.extract 508 512] := by
  have e1 := ext_size s 508 512 (by omega)
  rw [cut_cons (by omega) (by simp) (by omega), h, min_at (by omega)]
  show _ :: cut _ 4 [] = _
  rw [cut_cons (by omega) (by simp) (by omega), e1, min_at (by omega), ext_ext2 _ _ _ _ _ (by omega) (by omega), ext_ext2 _ _ _ _ _ (by omega) (by omega), cut_nil]
  · rfl
  · rw [ext_size _ _ _ (by omega)]
/- the five parts of what stands ahead of the sum -/
theorem cut_five {s : ByteArray} (h : s.size = 512) : cut (fr s) 4 [1, 1, 2, 500] = [s.extract 0 4, s.extract 4 5, s.extract 5 6, s.extract 6 8, s.extract 8 508] := by
  have e0 : (fr s).size = 508 := ext_size s 0 508 (by omega)
  have e1 := ext_size s 4 508 (by omega)
  have e2 := ext_size s 5 508 (by omega)
  have e3 := ext_size s 6 508 (by omega)
  have e4 := ext_size s 8 508 (by omega)
  rw [cut_cons (by omega) (by simp) (by omega), e0, min_at (by omega)]
  unfold fr
  rw [ext_ext2 _ _ _ _ _ (by omega) (by omega), ext_ext2 _ _ _ _ _ (by omega) (by omega)]
  simp only [Nat.zero_add, List.headD_cons, List.tail_cons]
  rw [cut_cons (by omega) (by simp) (by omega), e1, min_at (by omega), ext_ext2 _ _ _ _ _ (by omega) (by omega), ext_ext2 _ _ _ _ _ (by omega) (by omega)]
  simp only [Nat.reduceAdd, Nat.reduceSub, List.headD_cons, List.tail_cons]
  rw [cut_cons (by omega) (by simp) (by omega), e2, min_at (by omega), ext_ext2 _ _ _ _ _ (by omega) (by omega), ext_ext2 _ _ _ _ _ (by omega) (by omega)]
  simp only [Nat.reduceAdd, Nat.reduceSub, List.headD_cons, List.tail_cons]
  rw [cut_cons (by omega) (by simp) (by omega), e3, min_at (by omega), ext_ext2 _ _ _ _ _ (by omega) (by omega), ext_ext2 _ _ _ _ _ (by omega) (by omega)]
  simp only [Nat.reduceAdd, Nat.reduceSub, List.headD_cons, List.tail_cons]
  rw [cut_cons (by omega) (by simp) (by omega), e4, min_at (by omega), ext_ext2 _ _ _ _ _ (by omega) (by omega), ext_ext2 _ _ _ _ _ (by omega) (by omega), cut_nil]
  rw [ext_size _ _ _ (by omega)]
/- the document's pieces of 64 bytes -/
def secs (s : ByteArray) (i : Nat) : List ByteArray := cut (s.extract i s.size) 64 []
theorem secs_next {s : ByteArray} {i : Nat} (h : i < s.size) : secs s i = s.extract i (min (i + 64) s.size) :: secs s (min (i + 64) s.size) := by
  have e := ext_size s i s.size (Nat.le_refl _)
  unfold secs
  rw [cut_cons (by omega) (by simp) (by omega), e, ext_ext2 _ _ _ _ _ (by omega) (by omega), ext_ext2 _ _ _ _ _ (by omega) (by omega), Nat.add_zero, show i + min 64 (s.size - i) = min (i + 64) s.size by omega, show i + (s.size - i) = s.size by omega]
  rfl
theorem secs_end {s : ByteArray} {i : Nat} (h : s.size ≤ i) : secs s i = [] := cut_nil _ _ (by rw [ext_size s i s.size (Nat.le_refl _)]; omega)
def joined : List ByteArray → ByteArray
  | [] => ⟨#[]⟩
  | x :: l => x ++ joined l
theorem joined_append (a b : List ByteArray) : joined (a ++ b) = joined a ++ joined b := by
  induction a with
  | nil => apply ext_list; rw [app_list]; rfl
  | cons x a ih => apply ext_list; rw [List.cons_append, joined, joined, ih, app_list, app_list, app_list, app_list, List.append_assoc]
theorem secs_all (s : ByteArray) : ∀ (n i : Nat), s.size - i ≤ n → joined (secs s i) = s.extract i s.size
  | 0, i, h => by
    rw [secs_end (by omega)]
    apply ext_list
    rw [ext_ext, Sc.size_eq, List.take_length, List.drop_eq_nil_of_le (by rw [← Sc.size_eq]; omega)]
    rfl
  | n + 1, i, h => by
    by_cases hi : i < s.size
    · rw [secs_next hi, joined, secs_all s n _ (by omega)]
      apply ext_list
      rw [app_list, ext_ext, ext_ext, ext_ext]
      have e : (s.data.toList.take (min (i + 64) s.size)).drop i ++ (s.data.toList.take s.size).drop (min (i + 64) s.size) = (s.data.toList.take s.size).drop i := by
        rw [show s.data.toList.take s.size = s.data.toList by rw [Sc.size_eq, List.take_length]]
        conv => rhs; rw [← List.take_append_drop (min (i + 64) s.size) s.data.toList]
        rw [List.drop_append, List.length_take, ← Sc.size_eq, show i - min (min (i + 64) s.size) s.size = 0 by omega, List.drop_zero]
      exact e
    · rw [secs_end (by omega)]
      apply ext_list
      rw [ext_ext, Sc.size_eq, List.take_length, List.drop_eq_nil_of_le (by rw [← Sc.size_eq]; omega)]
      rfl
theorem sectors_joined (s : ByteArray) : joined (cut s 64 []) = s := by
  have e := secs_all s s.size 0 (by omega)
  unfold secs at e
  have e2 : s.extract 0 s.size = s := by
    apply ext_list
    rw [ext_ext, List.drop_zero, Sc.size_eq, List.take_length]
  rw [e2] at e
  exact e
/- a page's bytes that are all noughts -/
def blank : ByteArray := ob (zs 512)
theorem blank_size : blank.size = 512 := by rw [blank, ob_size, zs, List.length_replicate]
theorem blank_kd : kd blank = 0 := by unfold kd blank; rw [ob_list]; decide
theorem page_not_blank {id kind : Nat} {b : ByteArray} (hk : kind < 256) (h0 : 0 < kind) : page id kind b ≠ blank := fun e => by
  have h1 := page_kd (id := id) (b := b) hk
  rw [e, blank_kd] at h1
  omega
end Pg
/- Proved: what Flush and On make of a disk. -/
namespace Go.Proofs.YtcfninpokngmlaaGreatDoor
open Go.RowKit
/- the first k of the writes that are pending are kept, as far as b marks them -/
def mid (b : Nat → Bool) (s : Sc.St) (k : Nat) : Sc.St := { s with kept := Sc.keepI b (s.pend.take k) 0 s.kept }
theorem mid_next (b : Nat → Bool) (s : Sc.St) (k : Nat) (i : Nat) (x : ByteArray) (h : s.pend[k]? = some (i, x)) (hb : b k = true) : mid b s (k + 1) = { mid b s k with kept := (mid b s k).kept.set i x } := by
  unfold mid
  rw [Sc.keepI_take b s.pend s.kept k (i, x) h, if_pos hb]
theorem mid_skip (b : Nat → Bool) (s : Sc.St) (k : Nat) (p : Nat × ByteArray) (h : s.pend[k]? = some p) (hb : b k = false) : mid b s (k + 1) = mid b s k := by
  unfold mid
  rw [Sc.keepI_take b s.pend s.kept k p h, if_neg (by rw [hb]; decide)]
theorem mid_all (b : Nat → Bool) (s : Sc.St) : (mid b s s.pend.length).kept = Sc.keepI b s.pend 0 s.kept := by
  unfold mid
  simp only
  rw [List.take_length]
section
variable {w : World} {g kg : Nat} {v : Value}
/- of a disk in the midst of it the k-th write that is pending is read -/
theorem Dk.nth {s : Sc.St} (H : Dk w g kg v s) {k : Nat} (hk : k < s.pend.length) : ∃ pg cap i x, v = .slice (some ⟨pg, 0, none⟩) s.pend.length cap ∧ s.pend.length ≤ cap ∧ cap ≤ 9223372036854775807 ∧ s.pend[k]? = some (i, x) ∧ i < s.kept.length ∧ x.size = 64 ∧ w.rangeAt pg (k * 65) (wc (i, x)) := by
  rcases H.open with ⟨_, h⟩ | ⟨pg, cap, h1, h2, h3, h4⟩
  · rw [h] at hk; simp at hk
  · have hm : s.pend[k] ∈ s.pend := List.getElem_mem hk
    refine ⟨pg, cap, s.pend[k].1, s.pend[k].2, h1, h2, h3, List.getElem?_eq_getElem hk, H.ok.pat _ hm, H.ok.psize _ hm, h4 k _ (List.getElem?_eq_getElem hk)⟩
/- nothing is pending any more -/
theorem Dk.clear {s t : Sc.St} (H : Dk w g kg v s) (hk : t.kept = s.kept) (hp : t.pend = []) (hd : t.down = s.down) (hl : t.left = s.left) (hn : t.dn = s.dn) (ok : Sc.Ok t) : Dk (w.setCell ⟨g, 1, none⟩ (.slice none 0 0)) g kg (.slice none 0 0) t :=
  H.set 1 _ (by unfold dcells; rw [hk, hd, hl, hn]; rfl) hk (by rw [hp]; exact World.ownsRow_nil _ _ _ _) (by simp [Value.ownBlock]) (by simp [Value.ownBlock]) ok
end
theorem foot_nil (g kg : Nat) (v : Value) (w : World) (i : Nat) (x : Value) : Turn (foot g kg v) (foot g kg (.slice none 0 0)) w (w.setCell ⟨g, i, none⟩ x) := ⟨(Chg.setCell w g i x).mono (fun k hk => by rw [List.mem_singleton.1 hk]; simp [foot]), fun k hk => .inl (by
  simp only [foot, List.mem_cons, Value.ownBlock, Option.mem_toList] at hk ⊢
  rcases hk with h | h | h
  · exact .inl h
  · exact .inr (.inl h)
  · cases h)⟩
set_option maxHeartbeats 4000000 in
set_option maxRecDepth 20000 in
theorem flush_any (g kg : Nat) (v : Value) (s : Sc.St) (w : World) (H : Dk w g kg v s) (hn : s.dn ≤ 1000000000) :
    Calls Tryz.prog 79 #[ptr g] w (Does w g kg v (Sc.flushS s) (Sc.flushE s)) := by
  have HR := ready_any g kg v s w H
  have HH : Hid (Dk w g kg v s) := H
  have HSP : Hid (Calls Tryz.prog 108 #[ptr g] w fun e w' => e = .returned (.int .i64 (spendE s)) ∧ Dk w' g kg v (spendS s) ∧ Turn (foot g kg v) (foot g kg v) w w') := spend_any g kg v s w H hn
  have hz := zeroWr
  clear H
  unfold Sc.liveE at HR
  unfold Sc.flushS Sc.flushE
  unfold spendE spendS at HSP
  cases hd : s.down
  · rw [hd] at HR
    simp only [Bool.false_eq_true, if_false] at *
    by_cases h0 : s.left = 0
    · simp only [h0, if_true] at HSP ⊢
      go_enter Tryz.func79, Tryz.ntmps79
      go_wp2_with (first | (go_at_call 53; refine HR.mono ?_; rintro e w' ⟨rfl, rfl⟩) | (go_at_call 108; refine HSP.out.mono ?_; rintro e w1 ⟨rfl, hD1, hT1⟩))
      go_ret
      exact ⟨_, rfl, hD1, hT1⟩
    · simp only [h0, if_false] at HSP ⊢
      have OK : Hid (Sc.Ok (Sc.flushed s)) := Sc.flushed_ok HH.out.ok
      have HK : Hid ((Sc.flushed s).kept = (mid (fun _ => true) (Sc.spent s) (Sc.spent s).pend.length).kept) := (mid_all _ _).symm
      obtain ⟨pa, cap, hv⟩ := HH.out.pval
      have hpl : (Sc.spent s).pend.length = s.pend.length := rfl
      go_enter Tryz.func79, Tryz.ntmps79
      go_wp2_with (first | (go_at_call 53; refine HR.mono ?_; rintro e w' ⟨rfl, rfl⟩) | (go_at_call 108; refine HSP.out.mono ?_; rintro e w1 ⟨rfl, hD1, hT1⟩; have HD1 : Hid (Dk w1 g kg v (Sc.spent s)) := hD1; have HT1 := (show Hid (Turn (foot g kg v) (foot g kg v) _ w1) from hT1); have c1 := hD1.c1; rw [hv] at c1; clear hD1 hT1))
      have HV : Hid (v = Value.slice pa s.pend.length cap) := hv
      clear HSP HR HH c1 hv
      go_loopw [22] (fun s22 wr => ∃ k : Nat, k ≤ s.pend.length ∧ s22 = .int .i64 (k : Int) ∧ Dk wr g kg v (mid (fun _ => true) (Sc.spent s) k) ∧ Turn (foot g kg v) (foot g kg v) w' wr) (fun s22 _ => s.pend.length - (intOf s22).toNat)
      case atStart => exact ⟨0, by omega, rfl, HD1.out, HT1.out⟩
      case round =>
        obtain ⟨k, hk, rfl, hD, hT⟩ := hrel
        have HD : Hid (Dk wr g kg v (mid (fun _ => true) (Sc.spent s) k)) := hD
        have HT : Hid (Turn (foot g kg v) (foot g kg v) w' wr) := hT
        clear hD hT HD1 HT1
        by_cases hkl : k < s.pend.length
        · have dk : decide ((k : Int) < (s.pend.length : Int)) = true := by simp; omega
          obtain ⟨pg, cap', i, x, hv', hcap, hc63, hp, hi, hx, hr⟩ := HD.out.nth (k := k) hkl
          have HRG : Hid (wr.rangeAt pg (k * 65) (wc (i, x))) := hr
          have HP : Hid ((Sc.spent s).pend[k]? = some (i, x)) := hp
          have ea : pa = some ⟨pg, 0, none⟩ := by
            rw [HV.out] at hv'
            exact (Value.slice.inj hv').1
          have hpm : s.pend.length ≤ 9223372036854775807 := Nat.le_trans hcap hc63
          subst ea
          clear hr hp hv'
          have k0 : (0 : Int) ≤ (k : Int) := by omega
          have k1 : (k : Int) < (s.pend.length : Int) := by omega
          have HIW : Hid ((Tryz.prog.info? 111).map (·.size) = some (wc (i, x)).length) := by show _ = _; rw [wc_length hx]; exact sizeWr
          have HIA : Hid ((Tryz.prog.info? 111).map (·.size) = some (wA (i, x)).size) := wA_info hx
          have HZA : Hid (zwr.size = (wA (i, x)).size) := by show _ = _; rw [wA_size hx]; exact zwr_size
          have HA : Hid (Dk ((wr.alloc (.cells zwr 111)).setRow wr.heap.size (wA (i, x))) g kg v (mid (fun _ => true) (Sc.spent s) k)) := HD.out.below (below_setRow ((Below.refl _ _).alloc (Nat.le_refl _) _) (Nat.le_refl _) _)
          have HTA : Hid (Turn (foot g kg v) (foot g kg v) w' ((wr.alloc (.cells zwr 111)).setRow wr.heap.size (wA (i, x)))) := HT.out.trans (Turn.of_below (below_setRow ((Below.refl _ _).alloc (Nat.le_refl _) _) (Nat.le_refl _) _))
          have HKP : Hid (Calls Tryz.prog 70 #[ptr g, .agg (wA (i, x))] ((wr.alloc (.cells zwr 111)).setRow wr.heap.size (wA (i, x))) fun e w' => e = .returned (.tuple #[]) ∧ Dk w' g kg v { mid (fun _ => true) (Sc.spent s) k with kept := (mid (fun _ => true) (Sc.spent s) k).kept.set i x } ∧ Turn (foot g kg v) (foot g kg v) ((wr.alloc (.cells zwr 111)).setRow wr.heap.size (wA (i, x))) w') := keep_any g kg v _ i x _ HA.out hi hx
          go_wp2_with (first | (refine wpList_load_mid rfl 111 _ rfl pg (k * 65) (by first | rfl | (show Value.pointer _ = _; simp)) (wc (i, x)) _ HRG.out Tryz.underlying111 rfl HIW.out ?_) | (refine store_row rfl rfl 111 _ _ rfl wr.heap.size (wA (i, x)) rfl rfl 111 zwr (heap_alloc_new _ _) HIA.out HZA.out (wA_one _) ?_) | (refine wpList_load_row rfl 111 _ rfl wr.heap.size rfl 111 (wA (i, x)) (0, 0) _ (setRow_heap _ _ _ _ _ _ (heap_alloc_new _ _)) Tryz.underlying111 rfl HIA.out ?_) | (go_at_call 70; refine HKP.out.mono ?_; rintro e w3 ⟨rfl, hD3, hT3⟩))
          have HFN : ∃ k' : Nat, k' ≤ s.pend.length ∧ Value.int .i64 ((k : Int) + 1) = .int .i64 (k' : Int) ∧ Dk w3 g kg v (mid (fun _ => true) (Sc.spent s) k') ∧ Turn (foot g kg v) (foot g kg v) w' w3 := ⟨k + 1, by omega, by go_num, by rw [mid_next _ _ _ i x HP.out rfl]; exact hD3, HTA.out.trans hT3⟩
          clear hD3 hT3
          go_roundw
          case rel => first | exact HFN | ((repeat apply Exists.intro); exact ⟨HFN, rfl⟩)
          case measure => (simp [intOf]) <;> omega
        · have hke : k = s.pend.length := by omega
          have dk : decide ((k : Int) < (s.pend.length : Int)) = false := by simp; omega
          have c1 := HD.out.c1
          have f1 := HD.out.fz 1
          have HFN : Hid (Does w' g kg v (Sc.flushed s) 0 (.returned (.int .i64 0)) (wr.setCell ⟨g, 1, none⟩ (.slice none 0 0))) := ⟨_, rfl, HD.out.clear (by rw [HK.out, hpl, hke]) rfl rfl rfl rfl OK.out, HT.out.trans (foot_nil _ _ _ _ _ _)⟩
          have hkd : ¬ ((k : Int) < (s.pend.length : Int)) := by omega
          clear hke hkl
          go_wp2
          go_ret
          exact HFN.out
  · rw [hd] at HR
    simp only [if_true] at *
    go_enter Tryz.func79, Tryz.ntmps79
    go_wp2_with (first | (go_at_call 53; refine HR.mono ?_; rintro e w' ⟨rfl, rfl⟩))
    go_ret
    exact ⟨_, rfl, HH.out, Turn.refl _ _⟩
end Go.Proofs.YtcfninpokngmlaaGreatDoor
/- Proved: what On makes of a disk. -/
namespace Go.Proofs.YtcfninpokngmlaaGreatDoor
open Go.RowKit
/- a slice of bools that lies outside the blocks fs -/
def Bools (fs : List Nat) (w : World) (a : Option Addr) (len : Nat) (m : Nat → Bool) : Prop :=
  len = 0 ∨ ∃ b off, a = some ⟨b, off, none⟩ ∧ b ∉ fs ∧ ∀ i, i < len → w.cell? ⟨b, off + i, none⟩ = some (.bool (m i))
theorem Bools.keep {fs : List Nat} {w w' : World} {a : Option Addr} {len : Nat} {m : Nat → Bool} (h : Bools fs w a len m) (hc : Chg fs w w') : Bools fs w' a len m := by
  rcases h with h | ⟨b, off, h1, h2, h3⟩
  · exact .inl h
  · refine .inr ⟨b, off, h1, h2, fun i hi => ?_⟩
    have := h3 i hi
    rw [← this]
    exact World.cell?_of_block (hc.block b (block_lt_of_cell this) h2)
/- which writes are kept -/
def marks (len : Nat) (m : Nat → Bool) (i : Nat) : Bool := decide (i < len) && m i
set_option maxHeartbeats 4000000 in
set_option maxRecDepth 20000 in
theorem on_any (g kg : Nat) (v : Value) (s : Sc.St) (a : Option Addr) (len cp : Nat) (m : Nat → Bool) (w : World) (H : Dk w g kg v s) (hB : Bools (foot g kg v) w a len m) (hlen : len ≤ cp) (hcp : cp ≤ 9223372036854775807) :
    Calls Tryz.prog 38 #[ptr g, .slice a len cp] w (Does w g kg v (Sc.onS s (marks len m)) (Sc.onE s)) := by
  have HR := made_yes g kg v s w H
  have HH : Hid (Dk w g kg v s) := H
  have HBL : Hid (Bools (foot g kg v) w a len m) := hB
  have hz := zeroWr
  have c2 := H.c2
  have c1 := H.c1
  clear H hB
  unfold Sc.onS Sc.onE
  cases hd : s.down
  · rw [hd] at c2
    simp only [Bool.false_eq_true, if_false]
    clear c1
    go_enter Tryz.func38, Tryz.ntmps38
    go_wp2_with (first | (go_at_call 69; refine HR.mono ?_; rintro e w' ⟨rfl, rfl⟩))
    go_ret
    exact ⟨_, rfl, HH.out, Turn.refl _ _⟩
  · rw [hd] at c2
    simp only [if_true]
    have OK : Hid (Sc.Ok (Sc.back s (marks len m))) := Sc.back_ok HH.out.ok _
    have HK : Hid ((Sc.back s (marks len m)).kept = (mid (marks len m) s s.pend.length).kept) := (mid_all _ _).symm
    obtain ⟨pa, cap, hv⟩ := HH.out.pval
    rw [hv] at c1
    have HV : Hid (v = Value.slice pa s.pend.length cap) := hv
    clear hv
    go_enter Tryz.func38, Tryz.ntmps38
    go_wp2_with (first | (go_at_call 69; refine HR.mono ?_; rintro e w' ⟨rfl, rfl⟩))
    clear HR c1 c2
    go_loopw [22] (fun s22 wr => ∃ k : Nat, k ≤ s.pend.length ∧ s22 = .int .i64 (k : Int) ∧ Dk wr g kg v (mid (marks len m) s k) ∧ Turn (foot g kg v) (foot g kg v) w' wr) (fun s22 _ => s.pend.length - (intOf s22).toNat)
    case atStart => exact ⟨0, by omega, rfl, HH.out, Turn.refl _ _⟩
    case round =>
      obtain ⟨k, hk, rfl, hD, hT⟩ := hrel
      have HD : Hid (Dk wr g kg v (mid (marks len m) s k)) := hD
      have HT : Hid (Turn (foot g kg v) (foot g kg v) w' wr) := hT
      clear hD hT
      by_cases hkl : k < s.pend.length
      · have dk : decide ((k : Int) < (s.pend.length : Int)) = true := by simp; omega
        obtain ⟨pg, cap', i, x, hv', hcap, hc63, hp, hi, hx, hr⟩ := HD.out.nth (k := k) hkl
        have HRG : Hid (wr.rangeAt pg (k * 65) (wc (i, x))) := hr
        have HP : Hid (s.pend[k]? = some (i, x)) := hp
        have ea : pa = some ⟨pg, 0, none⟩ := by
          rw [HV.out] at hv'
          exact (Value.slice.inj hv').1
        have hpm : s.pend.length ≤ 9223372036854775807 := Nat.le_trans hcap hc63
        subst ea
        clear hr hp hv'
        have k0 : (0 : Int) ≤ (k : Int) := by omega
        have k1 : (k : Int) < (s.pend.length : Int) := by omega
        have HIW : Hid ((Tryz.prog.info? 111).map (·.size) = some (wc (i, x)).length) := by show _ = _; rw [wc_length hx]; exact sizeWr
        have HIA : Hid ((Tryz.prog.info? 111).map (·.size) = some (wA (i, x)).size) := wA_info hx
        have HZA : Hid (zwr.size = (wA (i, x)).size) := by show _ = _; rw [wA_size hx]; exact zwr_size
        have HBA : Hid (Below wr.heap.size wr ((wr.alloc (.cells zwr 111)).setRow wr.heap.size (wA (i, x)))) := below_setRow ((Below.refl _ _).alloc (Nat.le_refl _) _) (Nat.le_refl _) _
        have HA : Hid (Dk ((wr.alloc (.cells zwr 111)).setRow wr.heap.size (wA (i, x))) g kg v (mid (marks len m) s k)) := HD.out.below HBA.out
        have HTA : Hid (Turn (foot g kg v) (foot g kg v) w' ((wr.alloc (.cells zwr 111)).setRow wr.heap.size (wA (i, x)))) := HT.out.trans (Turn.of_below HBA.out)
        have HBB : Hid (Bools (foot g kg v) ((wr.alloc (.cells zwr 111)).setRow wr.heap.size (wA (i, x))) a len m) := HBL.out.keep HTA.out.chg
        by_cases hlt : k < len
        · have dl : decide ((k : Int) < (len : Int)) = true := by simp; omega
          have l1 : (k : Int) < (len : Int) := by omega
          obtain ⟨bb, boff, ha, hbb, hbc⟩ : ∃ b off, a = some ⟨b, off, none⟩ ∧ b ∉ foot g kg v ∧ ∀ j, j < len → ((wr.alloc (.cells zwr 111)).setRow wr.heap.size (wA (i, x))).cell? ⟨b, off + j, none⟩ = some (.bool (m j)) := by
            rcases HBB.out with h | h
            · omega
            · exact h
          have hbk := hbc k hlt
          subst ha
          clear hbc hbb
          cases hm : m k
          · rw [hm] at hbk
            have HMK : Hid (marks len m k = false) := by show marks len m k = false; unfold marks; rw [hm, Bool.and_false]
            have HFN : ∃ k' : Nat, k' ≤ s.pend.length ∧ Value.int .i64 ((k : Int) + 1) = .int .i64 (k' : Int) ∧ Dk ((wr.alloc (.cells zwr 111)).setRow wr.heap.size (wA (i, x))) g kg v (mid (marks len m) s k') ∧ Turn (foot g kg v) (foot g kg v) w' ((wr.alloc (.cells zwr 111)).setRow wr.heap.size (wA (i, x))) := ⟨k + 1, by omega, by go_num, by rw [mid_skip _ _ _ (i, x) HP.out HMK.out]; exact HA.out, HTA.out⟩
            go_wp2_with (first | (refine wpList_load_mid rfl 111 _ rfl pg (k * 65) (by first | rfl | (show Value.pointer _ = _; simp)) (wc (i, x)) _ HRG.out Tryz.underlying111 rfl HIW.out ?_) | (refine store_row rfl rfl 111 _ _ rfl wr.heap.size (wA (i, x)) rfl rfl 111 zwr (heap_alloc_new _ _) HIA.out HZA.out (wA_one _) ?_))
            go_roundw
            case rel => first | exact HFN | ((repeat apply Exists.intro); exact ⟨HFN, rfl⟩)
            case measure => (simp [intOf]) <;> omega
          · rw [hm] at hbk
            have HMK : Hid (marks len m k = true) := by show marks len m k = true; unfold marks; rw [hm, Bool.and_true]; simpa using hlt
            have HKP : Hid (Calls Tryz.prog 70 #[ptr g, .agg (wA (i, x))] ((wr.alloc (.cells zwr 111)).setRow wr.heap.size (wA (i, x))) fun e w' => e = .returned (.tuple #[]) ∧ Dk w' g kg v { mid (marks len m) s k with kept := (mid (marks len m) s k).kept.set i x } ∧ Turn (foot g kg v) (foot g kg v) ((wr.alloc (.cells zwr 111)).setRow wr.heap.size (wA (i, x))) w') := keep_any g kg v _ i x _ HA.out hi hx
            go_wp2_with (first | (refine wpList_load_mid rfl 111 _ rfl pg (k * 65) (by first | rfl | (show Value.pointer _ = _; simp)) (wc (i, x)) _ HRG.out Tryz.underlying111 rfl HIW.out ?_) | (refine store_row rfl rfl 111 _ _ rfl wr.heap.size (wA (i, x)) rfl rfl 111 zwr (heap_alloc_new _ _) HIA.out HZA.out (wA_one _) ?_) | (refine wpList_load_row rfl 111 _ rfl wr.heap.size rfl 111 (wA (i, x)) (0, 0) _ (setRow_heap _ _ _ _ _ _ (heap_alloc_new _ _)) Tryz.underlying111 rfl HIA.out ?_) | (go_at_call 70; refine HKP.out.mono ?_; rintro e w3 ⟨rfl, hD3, hT3⟩))
            have HFN : ∃ k' : Nat, k' ≤ s.pend.length ∧ Value.int .i64 ((k : Int) + 1) = .int .i64 (k' : Int) ∧ Dk w3 g kg v (mid (marks len m) s k') ∧ Turn (foot g kg v) (foot g kg v) w' w3 := ⟨k + 1, by omega, by go_num, by rw [mid_next _ _ _ i x HP.out HMK.out]; exact hD3, HTA.out.trans hT3⟩
            clear hD3 hT3
            go_roundw
            case rel => first | exact HFN | ((repeat apply Exists.intro); exact ⟨HFN, rfl⟩)
            case measure => (simp [intOf]) <;> omega
        · have dl : decide ((k : Int) < (len : Int)) = false := by simp; omega
          have HMK : Hid (marks len m k = false) := by show marks len m k = false; unfold marks; simp [hlt]
          have HFN : ∃ k' : Nat, k' ≤ s.pend.length ∧ Value.int .i64 ((k : Int) + 1) = .int .i64 (k' : Int) ∧ Dk ((wr.alloc (.cells zwr 111)).setRow wr.heap.size (wA (i, x))) g kg v (mid (marks len m) s k') ∧ Turn (foot g kg v) (foot g kg v) w' ((wr.alloc (.cells zwr 111)).setRow wr.heap.size (wA (i, x))) := ⟨k + 1, by omega, by go_num, by rw [mid_skip _ _ _ (i, x) HP.out HMK.out]; exact HA.out, HTA.out⟩
          go_wp2_with (first | (refine wpList_load_mid rfl 111 _ rfl pg (k * 65) (by first | rfl | (show Value.pointer _ = _; simp)) (wc (i, x)) _ HRG.out Tryz.underlying111 rfl HIW.out ?_) | (refine store_row rfl rfl 111 _ _ rfl wr.heap.size (wA (i, x)) rfl rfl 111 zwr (heap_alloc_new _ _) HIA.out HZA.out (wA_one _) ?_))
          go_roundw
          case rel => first | exact HFN | ((repeat apply Exists.intro); exact ⟨HFN, rfl⟩)
          case measure => (simp [intOf]) <;> omega
      · have hke : k = s.pend.length := by omega
        have dk : decide ((k : Int) < (s.pend.length : Int)) = false := by simp; omega
        have c1 := HD.out.c1
        have f1 := HD.out.fz 1
        have f2 := HD.out.fz 2
        have f3 := HD.out.fz 3
        have c2 := HD.out.c2
        have c3 := HD.out.c3
        have HFN : Hid (Does w' g kg v (Sc.back s (marks len m)) 0 (.returned (.int .i64 0)) (((wr.setCell ⟨g, 1, none⟩ (.slice none 0 0)).setCell ⟨g, 2, none⟩ (.bool false)).setCell ⟨g, 3, none⟩ (.int .i64 (-1)))) := by
          have h1 : Dk (wr.setCell ⟨g, 1, none⟩ (.slice none 0 0)) g kg (.slice none 0 0) { Sc.back s (marks len m) with down := true, left := s.left } := HD.out.clear (by rw [hke]; exact HK.out) rfl hd.symm rfl rfl ⟨OK.out.one, OK.out.most, OK.out.size, OK.out.pat, OK.out.psize, HH.out.ok.left⟩
          have h2 : Dk ((wr.setCell ⟨g, 1, none⟩ (.slice none 0 0)).setCell ⟨g, 2, none⟩ (.bool false)) g kg (.slice none 0 0) { Sc.back s (marks len m) with left := s.left } := h1.setSame 2 _ rfl rfl rfl ⟨OK.out.one, OK.out.most, OK.out.size, OK.out.pat, OK.out.psize, HH.out.ok.left⟩
          exact ⟨_, rfl, h2.setSame 3 _ rfl rfl rfl OK.out, (HT.out.trans (foot_nil _ _ _ _ _ _)).trans ((foot_set _ _ _ _ _ _).trans (foot_set _ _ _ _ _ _))⟩
        clear hke
        go_wp2
        go_ret
        exact HFN.out
end Go.Proofs.YtcfninpokngmlaaGreatDoor
/- Proved: the laws' example comes out as the chapter says; what disks that New did not make answer. -/
namespace Go.Proofs.YtcfninpokngmlaaGreatDoor
open Go.RowKit
def txtA : ByteArray := ⟨#[97]⟩
def txtB : ByteArray := ⟨#[98]⟩
def txtC : ByteArray := ⟨#[99]⟩
def e1 : Sc.St := Sc.writeS (Sc.made 2) 0 txtA
def e2 : Sc.St := Sc.flushS e1
def e3 : Sc.St := Sc.writeS e2 0 txtB
def e4 : Sc.St := Sc.writeS e3 1 txtC
def e5 : Sc.St := Sc.offS e4
def mk2 (i : Nat) : Bool := if i = 0 then false else true
def e6 : Sc.St := Sc.onS e5 (marks 2 mk2)
/- disks that New did not make -/
def Nobody (w : World) (d : Value) : Prop := d = .pointer none ∨ ∃ g, d = ptr g ∧ w.cell? ⟨g, 0, none⟩ = some (.slice none 0 0)
end Go.Proofs.YtcfninpokngmlaaGreatDoor
/- Proved: how a log of the program lies in memory, alone and with its disk. -/
namespace Go.Proofs.YtcfninpokngmlaaGreatDoor
open Go.RowKit
def pcells (l : Wl.Lg) (g : Nat) (vr vw : Value) : Array Value := #[ptr g, .int .i64 (l.base : Int), .int .i64 (64 * ((l.n : Int) - 1)), .int .i64 (l.epoch : Int), .int .i64 (l.bytes.size : Int), vr, vw, .int .i64 (Wl.total l.wait : Int), .bool l.lost]
def pfoot (q : Nat) (vr vw : Value) : List Nat := q :: (vr.ownBlock.toList ++ vw.ownBlock.toList)
/- the program's log: at block q, on the disk at block g -/
structure Pk (w : World) (q g : Nat) (vr vw : Value) (l : Wl.Lg) : Prop where
  row : w.heap[q]? = some (.cells (pcells l g vr vw) 116 (0, 0))
  recs : OwnS w 0 vr l.recs
  wait : OwnS w 0 vw l.wait
  hr : vr.ownBlock ≠ some q
  hw : vw.ownBlock ≠ some q
  ra : ∀ k, vr.ownBlock = some k → vw.ownBlock ≠ some k
  ok : l.Ok
section
variable {w w' : World} {q g : Nat} {vr vw vr' vw' v' : Value} {l l' : Wl.Lg}
theorem Pk.cell (H : Pk w q g vr vw l) (i : Nat) : w.cell? ⟨q, i, none⟩ = (pcells l g vr vw)[i]? := cell_of_row w q i _ _ (0, 0) H.row
theorem Pk.c0 (H : Pk w q g vr vw l) : w.cell? ⟨q, 0, none⟩ = some (ptr g) := by rw [H.cell]; rfl
theorem Pk.c1 (H : Pk w q g vr vw l) : w.cell? ⟨q, 1, none⟩ = some (.int .i64 (l.base : Int)) := by rw [H.cell]; rfl
theorem Pk.c2 (H : Pk w q g vr vw l) : w.cell? ⟨q, 2, none⟩ = some (.int .i64 (64 * ((l.n : Int) - 1))) := by rw [H.cell]; rfl
theorem Pk.c3 (H : Pk w q g vr vw l) : w.cell? ⟨q, 3, none⟩ = some (.int .i64 (l.epoch : Int)) := by rw [H.cell]; rfl
theorem Pk.c4 (H : Pk w q g vr vw l) : w.cell? ⟨q, 4, none⟩ = some (.int .i64 (l.bytes.size : Int)) := by rw [H.cell]; rfl
theorem Pk.c5 (H : Pk w q g vr vw l) : w.cell? ⟨q, 5, none⟩ = some vr := by rw [H.cell]; rfl
theorem Pk.c6 (H : Pk w q g vr vw l) : w.cell? ⟨q, 6, none⟩ = some vw := by rw [H.cell]; rfl
theorem Pk.c7 (H : Pk w q g vr vw l) : w.cell? ⟨q, 7, none⟩ = some (.int .i64 (Wl.total l.wait : Int)) := by rw [H.cell]; rfl
theorem Pk.c8 (H : Pk w q g vr vw l) : w.cell? ⟨q, 8, none⟩ = some (.bool l.lost) := by rw [H.cell]; rfl
theorem Pk.fz (H : Pk w q g vr vw l) (i : Nat) : w.frozen? ⟨q, i, none⟩ = false := frozen_of_row w q i _ _ H.row
theorem Pk.lt (H : Pk w q g vr vw l) : ∀ k ∈ pfoot q vr vw, k < w.heap.size := fun k hk => by
  unfold pfoot at hk
  rcases List.mem_cons.1 hk with rfl | hk
  · exact (Array.getElem?_eq_some_iff.1 H.row).1
  · rcases List.mem_append.1 hk with hk | hk
    · exact (H.recs.lt k (by simpa using hk)).2
    · exact (H.wait.lt k (by simpa using hk)).2
theorem Pk.keep (H : Pk w q g vr vw l) {fs : List Nat} (hc : Chg fs w w') (ha : ∀ k ∈ pfoot q vr vw, k ∉ fs) : Pk w' q g vr vw l := by
  have e : ∀ k ∈ pfoot q vr vw, w'.heap[k]? = w.heap[k]? := fun k hk => hc.block k (H.lt k hk) (ha k hk)
  exact ⟨(e q (by simp [pfoot])).trans H.row, own_keep H.recs (fun k hk => e k (by simp [pfoot, hk])), own_keep H.wait (fun k hk => e k (by simp [pfoot, hk])), H.hr, H.hw, H.ra, H.ok⟩
theorem Pk.below (H : Pk w q g vr vw l) (hb : Below w.heap.size w w') : Pk w' q g vr vw l := H.keep (fs := []) (Chg.of_below hb) (fun _ _ h => by cases h)
theorem Pk.alloc (H : Pk w q g vr vw l) (o : Obj) : Pk (w.alloc o) q g vr vw l := H.keep (Chg.alloc [] w o) (fun _ _ h => by cases h)
theorem Pk.drew (H : Pk w q g vr vw l) : Pk w.drew q g vr vw l := ⟨H.row, H.recs, H.wait, H.hr, H.hw, H.ra, H.ok⟩
theorem Pk.drewN (H : Pk w q g vr vw l) (n : Nat) : Pk (w.drewN n) q g vr vw l := ⟨H.row, H.recs, H.wait, H.hr, H.hw, H.ra, H.ok⟩
/- one cell of the log is written, its lists stay -/
theorem Pk.setSame (H : Pk w q g vr vw l) (i : Nat) (x : Value) (e : (pcells l g vr vw).setIfInBounds i x = pcells l' g vr vw) (hr : l'.recs = l.recs) (hw : l'.wait = l.wait) (ok : l'.Ok) : Pk (w.setCell ⟨q, i, none⟩ x) q g vr vw l' ∧ Turn (pfoot q vr vw) (pfoot q vr vw) w (w.setCell ⟨q, i, none⟩ x) := by
  refine ⟨⟨?_, ?_, ?_, H.hr, H.hw, H.ra, ok⟩, ⟨(Chg.setCell w q i x).mono (fun k hk => by rw [List.mem_singleton.1 hk]; simp [pfoot]), fun _ h => .inl h⟩⟩
  · rw [heap_setCell_same w q i _ _ _ H.row, e]
  · rw [hr]; exact own_keep H.recs (fun k hk => heap_setCell_other _ _ _ _ (fun e => H.hr (by rw [hk, e])))
  · rw [hw]; exact own_keep H.wait (fun k hk => heap_setCell_other _ _ _ _ (fun e => H.hw (by rw [hk, e])))
end
theorem own_nil (w : World) : OwnS w 0 (.slice none 0 0) [] := ⟨rfl, .inl ⟨rfl, rfl⟩⟩
theorem Turn.left {fs fs' gs : List Nat} {w w' : World} (h : Turn fs fs' w w') : Turn (fs ++ gs) (fs' ++ gs) w w' := ⟨h.chg.mono (fun k hk => List.mem_append.2 (.inl hk)), fun k hk => by
  rcases List.mem_append.1 hk with h1 | h1
  · rcases h.grow k h1 with h2 | h2
    · exact .inl (List.mem_append.2 (.inl h2))
    · exact .inr h2
  · exact .inl (List.mem_append.2 (.inr h1))⟩
theorem Turn.right {fs fs' gs : List Nat} {w w' : World} (h : Turn fs fs' w w') : Turn (gs ++ fs) (gs ++ fs') w w' := ⟨h.chg.mono (fun k hk => List.mem_append.2 (.inr hk)), fun k hk => by
  rcases List.mem_append.1 hk with h1 | h1
  · exact .inl (List.mem_append.2 (.inl h1))
  · rcases h.grow k h1 with h2 | h2
    · exact .inl (List.mem_append.2 (.inr h2))
    · exact .inr h2⟩
/- the log and its disk -/
structure LP (w : World) (q g : Nat) (vr vw : Value) (l : Wl.Lg) (kg : Nat) (vp : Value) (s : Sc.St) : Prop where
  pk : Pk w q g vr vw l
  dk : Dk w g kg vp s
  ap : ∀ k ∈ pfoot q vr vw, k ∉ foot g kg vp
  fits : l.base + l.n ≤ s.kept.length
def lfoot (q g : Nat) (vr vw : Value) (kg : Nat) (vp : Value) : List Nat := pfoot q vr vw ++ foot g kg vp
section
variable {w w' : World} {q g kg : Nat} {vr vw vr' vw' vp vp' : Value} {l l' : Wl.Lg} {s s' : Sc.St}
theorem LP.d (L : LP w q g vr vw l kg vp s) (hD : Dk w' g kg vp' s') (hT : Turn (foot g kg vp) (foot g kg vp') w w') (hl : s'.kept.length = s.kept.length) : LP w' q g vr vw l kg vp' s' ∧ Turn (lfoot q g vr vw kg vp) (lfoot q g vr vw kg vp') w w' :=
  ⟨⟨L.pk.keep hT.chg L.ap, hD, hT.apart L.ap L.pk.lt, by rw [hl]; exact L.fits⟩, hT.right⟩
theorem LP.p (L : LP w q g vr vw l kg vp s) (hP : Pk w' q g vr' vw' l') (hT : Turn (pfoot q vr vw) (pfoot q vr' vw') w w') (hb : l'.base = l.base) (hn : l'.n = l.n) : LP w' q g vr' vw' l' kg vp s ∧ Turn (lfoot q g vr vw kg vp) (lfoot q g vr' vw' kg vp) w w' := by
  have ha : ∀ k ∈ foot g kg vp, k ∉ pfoot q vr vw := fun k hk hf => L.ap k hf hk
  exact ⟨⟨hP, L.dk.keep hT.chg ha, fun k hk hr => hT.apart ha L.dk.lt k hr hk, by rw [hb, hn]; exact L.fits⟩, hT.left⟩
theorem LP.below (L : LP w q g vr vw l kg vp s) (hB : Below w.heap.size w w') : LP w' q g vr vw l kg vp s := ⟨L.pk.below hB, L.dk.below hB, L.ap, L.fits⟩
theorem LP.drew (L : LP w q g vr vw l kg vp s) : LP w.drew q g vr vw l kg vp s := ⟨L.pk.drew, L.dk.drew, L.ap, L.fits⟩
theorem LP.lt (L : LP w q g vr vw l kg vp s) : ∀ k ∈ lfoot q g vr vw kg vp, k < w.heap.size := fun k hk => by
  rcases List.mem_append.1 hk with h | h
  · exact L.pk.lt k h
  · exact L.dk.lt k h
end
/- what a call of a log that turns both answers -/
def LDoes (w : World) (q g : Nat) (vr vw : Value) (kg : Nat) (vp : Value) (l : Wl.Lg) (s : Sc.St) (n : Int) (e : Ending) (w' : World) : Prop :=
  ∃ vr' vw' vp', e = .returned (.int .i64 n) ∧ LP w' q g vr' vw' l kg vp' s ∧ Turn (lfoot q g vr vw kg vp) (lfoot q g vr' vw' kg vp') w w'
/- what a call of a log that turns it alone answers -/
def PDoes (w : World) (q g : Nat) (vr vw : Value) (l : Wl.Lg) (n : Int) (e : Ending) (w' : World) : Prop :=
  ∃ vr' vw', e = .returned (.int .i64 n) ∧ Pk w' q g vr' vw' l ∧ Turn (pfoot q vr vw) (pfoot q vr' vw') w w'
end Go.Proofs.YtcfninpokngmlaaGreatDoor
/- Proved: what made, ready, lose, Room, Waiting, Epoch, Records and Drop of a log answer, and make of it; and of logs that Open did not make. -/
namespace Go.Proofs.YtcfninpokngmlaaGreatDoor
open Go.RowKit
section
variable {w : World} {q g : Nat} {vr vw : Value} {l : Wl.Lg}
theorem Pk.wval (H : Pk w q g vr vw l) : ∃ a cap, vw = .slice a l.wait.length cap := by
  obtain ⟨a, c, h, _⟩ := own_strs H.wait
  exact ⟨a, c, h⟩
theorem Pk.wlen (H : Pk w q g vr vw l) : l.wait.length ≤ 4194304 := by
  have h1 := Wl.total_count l.wait
  have h2 := H.ok.room
  have h3 := H.ok.most
  omega
theorem Pk.rlen (H : Pk w q g vr vw l) : l.recs.length ≤ 4194304 := by
  have h1 := Wl.total_count l.recs
  have h2 := H.ok.room
  have h3 := H.ok.most
  have h4 := H.ok.is.1
  have h5 := congrArg ByteArray.size h4
  rw [Wl.frames_size] at h5
  omega
end
set_option maxHeartbeats 400000 in
theorem lmade_yes (q g : Nat) (vr vw : Value) (l : Wl.Lg) (w : World) (H : Pk w q g vr vw l) :
    Calls Tryz.prog 100 #[ptr q] w fun e w' => e = .returned (.bool true) ∧ w' = w := by
  have c0 := H.c0
  clear H
  go_enter Tryz.func100, Tryz.ntmps100
  go_wp2
  go_ret
  exact ⟨rfl, rfl⟩
set_option maxHeartbeats 400000 in
theorem lost_any (q g : Nat) (vr vw : Value) (l : Wl.Lg) (w : World) (H : Pk w q g vr vw l) :
    Calls Tryz.prog 130 #[ptr q] w fun e w' => e = .returned (.bool l.lost) ∧ w' = w := by
  have c8 := H.c8
  clear H
  go_enter Tryz.func130, Tryz.ntmps130
  go_wp2
  go_ret
  exact ⟨rfl, rfl⟩
def lreadyE (l : Wl.Lg) : Int := if l.lost = true then 10 else 0
set_option maxHeartbeats 400000 in
theorem lready_any (q g : Nat) (vr vw : Value) (l : Wl.Lg) (w : World) (H : Pk w q g vr vw l) :
    Calls Tryz.prog 109 #[ptr q] w fun e w' => e = .returned (.int .i64 (lreadyE l)) ∧ w' = w := by
  have HM := lmade_yes q g vr vw l w H
  have HL := lost_any q g vr vw l w H
  unfold lreadyE
  clear H
  cases hl : l.lost
  · rw [hl] at HL
    go_enter Tryz.func109, Tryz.ntmps109
    go_wp2_with (first | (go_at_call 100; refine HM.mono ?_; rintro e w' ⟨rfl, rfl⟩) | (go_at_call 130; refine HL.mono ?_; rintro e w' ⟨rfl, rfl⟩))
    go_ret
    exact ⟨rfl, rfl⟩
  · rw [hl] at HL
    go_enter Tryz.func109, Tryz.ntmps109
    go_wp2_with (first | (go_at_call 100; refine HM.mono ?_; rintro e w' ⟨rfl, rfl⟩) | (go_at_call 130; refine HL.mono ?_; rintro e w' ⟨rfl, rfl⟩))
    go_ret
    exact ⟨rfl, rfl⟩
set_option maxHeartbeats 400000 in
theorem lose_any (q g : Nat) (vr vw : Value) (l : Wl.Lg) (e : Int) (w : World) (H : Pk w q g vr vw l) (he : e ≠ 0) :
    Calls Tryz.prog 111 #[ptr q, .int .i64 e] w (PDoes w q g vr vw (Wl.lose l e) e) := by
  have c8 := H.c8
  have f8 := H.fz 8
  have e1 : Wl.lose l e = { l with lost := true } := by unfold Wl.lose; rw [if_neg he]
  have ok : (Wl.lose l e).Ok := Wl.lose_ok H.ok e
  rw [e1] at ok ⊢
  have HN := (show Hid (Pk (w.setCell ⟨q, 8, none⟩ (.bool true)) q g vr vw { l with lost := true } ∧ Turn (pfoot q vr vw) (pfoot q vr vw) w (w.setCell ⟨q, 8, none⟩ (.bool true))) from H.setSame 8 (.bool true) (l' := { l with lost := true }) rfl rfl rfl ok)
  clear H ok e1 he
  go_enter Tryz.func111, Tryz.ntmps111
  go_wp2
  go_ret
  exact ⟨_, _, rfl, HN.out⟩
theorem room_num (n b t : Nat) (h2 : 2 ≤ n) (hm : n ≤ 65536) (h : b + t ≤ 64 * (n - 1)) : (0 : Int) ≤ 64 * ((n : Int) - 1) - b - t ∧ 64 * ((n : Int) - 1) - b - t ≤ 4194304 := by omega
set_option maxHeartbeats 1000000 in
theorem lroom_any (q g : Nat) (vr vw : Value) (l : Wl.Lg) (w : World) (H : Pk w q g vr vw l) :
    Calls Tryz.prog 92 #[ptr q] w fun e w' => e = .returned (.int .i64 (Wl.room l)) ∧ ∃ n, w' = w.drewN n := by
  have c2 := H.c2
  have c4 := H.c4
  have c7 := H.c7
  have HM := lmade_yes q g vr vw l w H
  have hrn := room_num l.n l.bytes.size (Wl.total l.wait) H.ok.two (by have := H.ok.most; omega) H.ok.room
  have h2 := H.ok.two
  have hm := H.ok.most
  have HRM : Hid (Wl.room l = 64 * ((l.n : Int) - 1) - (l.bytes.size : Int) - (Wl.total l.wait : Int)) := rfl
  have hb : l.bytes.size ≤ 4194304 := by have := H.ok.room; omega
  have ht : Wl.total l.wait ≤ 4194304 := by have := H.ok.room; omega
  clear H
  generalize Wl.total l.wait = t at *
  generalize l.bytes.size = b at *
  go_enter Tryz.func92, Tryz.ntmps92
  go_wp2_with (go_at_call 100; refine HM.mono ?_; rintro e w' ⟨rfl, rfl⟩)
  go_quiet (fail)
  generalize hr : 64 * ((l.n : Int) - 1) - (b : Int) - (t : Int) = r at *
  go_wp2
  go_ret
  exact ⟨by rw [HRM.out]; rfl, _, rfl⟩
set_option maxHeartbeats 400000 in
theorem lrecords_any (q g : Nat) (vr vw : Value) (l : Wl.Lg) (w : World) (H : Pk w q g vr vw l) :
    Calls Tryz.prog 74 #[ptr q] w fun e w' => ∃ u, e = .returned u ∧ OwnS w' w.heap.size u l.recs ∧ Below w.heap.size w w' := by
  have c5 := H.c5
  have HM := lmade_yes q g vr vw l w H
  have HC := clone_any vr l.recs w H.recs (by have := Wl.total_count l.recs; have h2 := H.ok.room; have h3 := H.ok.most; have h4 := congrArg ByteArray.size H.ok.is.1; rw [Wl.frames_size] at h4; omega)
  clear H
  go_enter Tryz.func74, Tryz.ntmps74
  go_wp2_with fail
  refine HM.mono ?_
  rintro e w' ⟨rfl, hw⟩
  rw [hw]
  clear hw w'
  go_wp2_with fail
  refine HC.mono ?_
  rintro e w' ⟨u, rfl, hO, hB⟩
  have HO := (show Hid (OwnS w' w.heap.size u l.recs) from hO)
  clear hO
  go_wp2
  go_ret
  exact ⟨_, rfl, HO.out, hB⟩
def dropL (l : Wl.Lg) : Wl.Lg := { l with wait := [] }
end Go.Proofs.YtcfninpokngmlaaGreatDoor
