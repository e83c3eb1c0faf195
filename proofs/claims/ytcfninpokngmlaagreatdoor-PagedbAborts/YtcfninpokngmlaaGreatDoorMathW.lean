/- Proved: plain facts of a log's bytes (stage 8): numbers as bytes, the lowest first; frames are read back, and what is read is frames; heads. No program is named. -/
import Derived.Test.YtcfninpokngmlaaGreatDoorCMath
import Derived.Test.YtcfninpokngmlaaGreatDoorMath
namespace Wl
/- bytes as numbers -/
def nb (x : ByteArray) : List Nat := x.data.toList.map UInt8.toNat
def ob (l : List UInt8) : ByteArray := ⟨l.toArray⟩
theorem ob_list (l : List UInt8) : (ob l).data.toList = l := by simp [ob]
theorem list_ob (x : ByteArray) : ob x.data.toList = x := by
  apply ByteArray.ext
  simp [ob]
theorem ext_list {a b : ByteArray} (h : a.data.toList = b.data.toList) : a = b := by rw [← list_ob a, ← list_ob b, h]
theorem ob_size (l : List UInt8) : (ob l).size = l.length := by rw [Sc.size_eq, ob_list]
theorem app_list (a b : ByteArray) : (a ++ b).data.toList = a.data.toList ++ b.data.toList := by rw [ByteArray.data_append, Array.toList_append]
theorem nb_append (a b : ByteArray) : nb (a ++ b) = nb a ++ nb b := by unfold nb; rw [app_list, List.map_append]
theorem nb_lt (x : ByteArray) : ∀ n ∈ nb x, n < 256 := fun n hn => by
  obtain ⟨b, _, rfl⟩ := List.mem_map.1 hn
  exact b.toNat_lt
/- a number in k bytes, the lowest first -/
def putL : Nat → Nat → List UInt8
  | _, 0 => []
  | n, k + 1 => UInt8.ofNat (n % 256) :: putL (n / 256) k
theorem putL_length : ∀ (k n : Nat), (putL n k).length = k
  | 0, _ => rfl
  | k + 1, n => by unfold putL; rw [List.length_cons, putL_length k]
theorem putL_snoc : ∀ (k n : Nat), putL n (k + 1) = putL n k ++ [UInt8.ofNat (n / 256 ^ k % 256)]
  | 0, n => by simp [putL]
  | k + 1, n => by
    rw [putL, putL_snoc k (n / 256), putL, List.cons_append, Nat.div_div_eq_div_mul, ← Nat.pow_succ']
def put (n k : Nat) : ByteArray := ob (putL n k)
theorem put_next (n k : Nat) : ob (putL n k) ++ ⟨#[UInt8.ofNat (n / 256 ^ k % 256)]⟩ = ob (putL n (k + 1)) := by
  apply ext_list
  rw [app_list, ob_list, ob_list, putL_snoc]
theorem put_size (n k : Nat) : (put n k).size = k := by rw [put, ob_size, putL_length]
theorem put_list (n k : Nat) : (put n k).data.toList = putL n k := ob_list _
/- a number that is read -/
def getL : List UInt8 → Nat
  | [] => 0
  | b :: l => b.toNat + 256 * getL l
theorem getL_putL : ∀ (k n : Nat), n < 256 ^ k → getL (putL n k) = n
  | 0, n, h => by
    have : n = 0 := by simpa using h
    subst this
    rfl
  | k + 1, n, h => by
    unfold putL getL
    rw [getL_putL k (n / 256) (by rw [Nat.div_lt_iff_lt_mul (by omega), ← Nat.pow_succ]; exact h), UInt8.toNat_ofNat', Nat.mod_mod]
    omega
theorem putL_getL : ∀ (l : List UInt8), putL (getL l) l.length = l
  | [] => rfl
  | b :: l => by
    have hb := b.toNat_lt
    unfold getL
    rw [List.length_cons, putL, show (b.toNat + 256 * getL l) / 256 = getL l by omega, show (b.toNat + 256 * getL l) % 256 = b.toNat by omega, putL_getL l, UInt8.ofNat_toNat]
theorem getL_lt : ∀ (l : List UInt8), getL l < 256 ^ l.length
  | [] => by simp [getL]
  | b :: l => by
    have hb := b.toNat_lt
    have := getL_lt l
    unfold getL
    rw [List.length_cons, Nat.pow_succ]
    omega
/- the sum, in four bytes -/
def sum4 (x : ByteArray) : ByteArray := put (Crc.sum (nb x)) 4
theorem sum4_size (x : ByteArray) : (sum4 x).size = 4 := put_size _ _
/- a record's frame -/
def frame (r : ByteArray) : ByteArray := put r.size 4 ++ sum4 (put r.size 4 ++ r) ++ r
theorem frame_size (r : ByteArray) : (frame r).size = 8 + r.size := by
  unfold frame
  rw [ByteArray.size_append, ByteArray.size_append, put_size, sum4_size]
def frames : List ByteArray → ByteArray
  | [] => ob []
  | r :: l => frame r ++ frames l
theorem frames_append (a b : List ByteArray) : frames (a ++ b) = frames a ++ frames b := by
  induction a with
  | nil =>
    apply ext_list
    rw [app_list]
    rfl
  | cons r a ih =>
    apply ext_list
    rw [List.cons_append, frames, frames, ih, app_list, app_list, app_list, app_list, List.append_assoc]
def total : List ByteArray → Nat
  | [] => 0
  | r :: l => 8 + r.size + total l
theorem frames_size : ∀ l, (frames l).size = total l
  | [] => rfl
  | r :: l => by rw [frames, ByteArray.size_append, frame_size, frames_size l]; rfl
/- reading frames -/
def Fit (l : List ByteArray) : Prop := ∀ r ∈ l, r.size ≤ 65536
/- these bytes are the frames of these records -/
def Is (b : ByteArray) (l : List ByteArray) : Prop := b = frames l ∧ Fit l
theorem frame_head {r r' : ByteArray} {x x' : List UInt8} (hr : r.size ≤ 65536) (hr' : r'.size ≤ 65536) (h : (frame r).data.toList ++ x = (frame r').data.toList ++ x') : r = r' ∧ x = x' := by
  unfold frame at h
  rw [app_list, app_list, app_list, app_list, put_list, put_list, List.append_assoc, List.append_assoc, List.append_assoc, List.append_assoc] at h
  obtain ⟨h1, h2⟩ := List.append_inj h (by rw [putL_length, putL_length])
  have hs : r.size = r'.size := by
    have e := congrArg getL h1
    rwa [getL_putL 4 _ (by omega), getL_putL 4 _ (by omega)] at e
  obtain ⟨_, h3⟩ := List.append_inj h2 (by rw [← Sc.size_eq, ← Sc.size_eq, sum4_size, sum4_size])
  obtain ⟨h4, h5⟩ := List.append_inj h3 (by rw [← Sc.size_eq, ← Sc.size_eq, hs])
  exact ⟨ext_list h4, h5⟩
theorem frames_inj : ∀ {a b : List ByteArray} {x x' : List UInt8}, Fit a → Fit b → a.length = b.length → (frames a).data.toList ++ x = (frames b).data.toList ++ x' → a = b ∧ x = x'
  | [], [], x, x', _, _, _, h => ⟨rfl, h⟩
  | r :: a, r' :: b, x, x', ha, hb, hl, h => by
    rw [frames, frames, app_list, app_list, List.append_assoc, List.append_assoc] at h
    obtain ⟨e, h1⟩ := frame_head (ha r List.mem_cons_self) (hb r' List.mem_cons_self) h
    obtain ⟨e2, h2⟩ := frames_inj (fun y hy => ha y (List.mem_cons_of_mem _ hy)) (fun y hy => hb y (List.mem_cons_of_mem _ hy)) (by simpa using hl) h1
    exact ⟨by rw [e, e2], h2⟩
  | [], _ :: _, _, _, _, _, hl, _ => by simp at hl
  | _ :: _, [], _, _, _, _, hl, _ => by simp at hl
theorem Is.inj {b : ByteArray} {l l' : List ByteArray} (h : Is b l) (h' : Is b l') : l = l' := by
  have e : frames l = frames l' := h.1.symm.trans h'.1
  have key : ∀ (l l' : List ByteArray), Fit l → Fit l' → frames l = frames l' → l = l' := by
    intro l
    induction l with
    | nil =>
      intro l' _ _ he
      cases l' with
      | nil => rfl
      | cons r t =>
        have := congrArg ByteArray.size he
        rw [frames_size, frames_size, total, total] at this
        omega
    | cons r l ih =>
      intro l' hl hl' he
      cases l' with
      | nil =>
        have := congrArg ByteArray.size he
        rw [frames_size, frames_size, total, total] at this
        omega
      | cons r' t =>
        have he2 := congrArg (fun z : ByteArray => z.data.toList) he
        simp only [frames] at he2
        rw [app_list, app_list] at he2
        obtain ⟨e1, e2⟩ := frame_head (hl r List.mem_cons_self) (hl' r' List.mem_cons_self) he2
        rw [e1, ih t (fun y hy => hl y (List.mem_cons_of_mem _ hy)) (fun y hy => hl' y (List.mem_cons_of_mem _ hy)) (ext_list e2)]
  exact key l l' h.2 h'.2 e
/- the head of a log -/
def magic : ByteArray := ⟨#[65, 81, 87, 76]⟩
def head16 (epoch length : Nat) : ByteArray := magic ++ put epoch 8 ++ put length 4
def head20 (epoch length : Nat) : ByteArray := head16 epoch length ++ sum4 (head16 epoch length)
def head (epoch length : Nat) : ByteArray := Sc.fill (head20 epoch length)
theorem head16_size (epoch length : Nat) : (head16 epoch length).size = 16 := by
  unfold head16
  rw [ByteArray.size_append, ByteArray.size_append, put_size, put_size]
  rfl
theorem head20_size (epoch length : Nat) : (head20 epoch length).size = 20 := by
  unfold head20
  rw [ByteArray.size_append, head16_size, sum4_size]
theorem head_size (epoch length : Nat) : (head epoch length).size = 64 := Sc.fill_size (by rw [head20_size]; omega)
theorem head_list (epoch length : Nat) : (head epoch length).data.toList = magic.data.toList ++ (putL epoch 8 ++ (putL length 4 ++ ((sum4 (head16 epoch length)).data.toList ++ List.replicate 44 0))) := by
  unfold head
  rw [Sc.fill_list, head20_size]
  unfold head20
  rw [app_list]
  unfold head16
  rw [app_list, app_list, put_list, put_list]
  simp [List.append_assoc]
theorem head_inj {e l e' l' : Nat} (he : e < 256 ^ 8) (he' : e' < 256 ^ 8) (hl : l < 256 ^ 4) (hl' : l' < 256 ^ 4) (h : head e l = head e' l') : e = e' ∧ l = l' := by
  have h : (head e l).data.toList = (head e' l').data.toList := by rw [h]
  rw [head_list, head_list] at h
  have h1 := List.append_cancel_left h
  obtain ⟨h2, h3⟩ := List.append_inj h1 (by rw [putL_length, putL_length])
  obtain ⟨h4, _⟩ := List.append_inj h3 (by rw [putL_length, putL_length])
  have e1 := congrArg getL h2
  have e2 := congrArg getL h4
  rw [getL_putL 8 _ he, getL_putL 8 _ he'] at e1
  rw [getL_putL 4 _ hl, getL_putL 4 _ hl'] at e2
  exact ⟨e1, e2⟩
/- no head is a sector of noughts -/
theorem head_ne (e l : Nat) : head e l ≠ Sc.zero64 := fun h => by
  have h1 : (head e l).data.toList.head? = Sc.zero64.data.toList.head? := by rw [h]
  rw [head_list] at h1
  simp [magic, Sc.zero64] at h1
end Wl
