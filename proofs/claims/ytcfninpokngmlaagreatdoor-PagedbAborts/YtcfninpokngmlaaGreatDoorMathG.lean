/- Proved: plain facts of pages (stage 9): what is sealed, what is opened, texts in pieces. No program is named. -/
import Derived.Test.YtcfninpokngmlaaGreatDoorMathF
import Derived.Test.YtcfninpokngmlaaGreatDoorCMathT
namespace Pg
open Wl
def zs (n : Nat) : List UInt8 := List.replicate n 0
/- a page's head: its number, its kind, a 00, the length of its body -/
def headL (id kind n : Nat) : List UInt8 := putL id 4 ++ (putL kind 1 ++ (putL 0 1 ++ putL n 2))
def head (id kind n : Nat) : ByteArray := ob (headL id kind n)
theorem headL_length (id kind n : Nat) : (headL id kind n).length = 8 := by unfold headL; simp [putL_length]
theorem head_size (id kind n : Nat) : (head id kind n).size = 8 := by rw [head, ob_size, headL_length]
/- what stands ahead of the sum -/
def frontL (id kind : Nat) (b : ByteArray) : List UInt8 := headL id kind b.size ++ (b.data.toList ++ zs (500 - b.size))
def front (id kind : Nat) (b : ByteArray) : ByteArray := ob (frontL id kind b)
theorem front_list (id kind : Nat) (b : ByteArray) : (front id kind b).data.toList = frontL id kind b := ob_list _
theorem front_size {id kind : Nat} {b : ByteArray} (h : b.size ≤ 500) : (front id kind b).size = 508 := by
  have := Sc.size_eq b
  rw [front, ob_size]
  unfold frontL zs
  rw [List.length_append, List.length_append, headL_length, List.length_replicate]
  omega
def page (id kind : Nat) (b : ByteArray) : ByteArray := front id kind b ++ sum4 (front id kind b)
theorem page_size {id kind : Nat} {b : ByteArray} (h : b.size ≤ 500) : (page id kind b).size = 512 := by
  unfold page
  rw [ByteArray.size_append, front_size h, sum4_size]
theorem page_list (id kind : Nat) (b : ByteArray) : (page id kind b).data.toList = frontL id kind b ++ putL (Crc.sum (nb (front id kind b))) 4 := by
  unfold page sum4
  rw [app_list, front_list, put_list]
theorem frontL_length {id kind : Nat} {b : ByteArray} (h : b.size ≤ 500) : (frontL id kind b).length = 508 := by rw [← front_list, ← Sc.size_eq, front_size h]
/- no number, or no kind -/
def bad (id kind : Int) : Bool := decide (id < 0) || decide (2147483647 < id) || decide (kind < 1) || decide (255 < kind)
def sealE (id kind : Int) (b : ByteArray) : Int := if bad id kind then 2 else if 500 < b.size then 3 else 0
def sealS (id kind : Int) (b : ByteArray) : ByteArray := if bad id kind then ⟨#[]⟩ else if 500 < b.size then ⟨#[]⟩ else page id.toNat kind.toNat b
theorem bad_false {id kind : Int} (h : bad id kind = false) : 0 ≤ id ∧ id ≤ 2147483647 ∧ 1 ≤ kind ∧ kind ≤ 255 := by
  unfold bad at h
  simp at h
  omega
theorem bad_true {id kind : Int} (h : bad id kind = true) : id < 0 ∨ 2147483647 < id ∨ kind < 1 ∨ 255 < kind := by
  unfold bad at h
  simp at h
  omega
theorem bad_of {id kind : Int} (h : 0 ≤ id ∧ id ≤ 2147483647 ∧ 1 ≤ kind ∧ kind ≤ 255) : bad id kind = false := by
  unfold bad
  simp
  omega
/- what a text of 512 bytes has in it -/
def fr (s : ByteArray) : ByteArray := s.extract 0 508
def tl4 (s : ByteArray) : List UInt8 := s.data.toList.drop 508
def len (s : ByteArray) : Nat := getL ((s.data.toList.drop 6).take 2)
def kd (s : ByteArray) : Nat := getL ((s.data.toList.drop 4).take 1)
def body (s : ByteArray) : ByteArray := s.extract 8 (8 + len s)
def openE (id : Int) (s : ByteArray) : Int :=
  if s.size ≠ 512 then 5 else if Crc.sum (nb (fr s)) ≠ getL (tl4 s) then 6 else if 500 < len s then 5 else
  if sealE id (kd s) (body s) = 0 ∧ sealS id (kd s) (body s) = s then 0 else 5
def openK (id : Int) (s : ByteArray) : Int := if openE id s = 0 then (kd s : Int) else 0
def openB (id : Int) (s : ByteArray) : ByteArray := if openE id s = 0 then body s else ⟨#[]⟩
theorem fr_list (s : ByteArray) : (fr s).data.toList = s.data.toList.take 508 := by rw [fr, ext_ext, List.drop_zero]
/- a page's parts -/
theorem page_fr {id kind : Nat} {b : ByteArray} (h : b.size ≤ 500) : fr (page id kind b) = front id kind b := by
  apply ext_list
  rw [fr_list, page_list, front_list, List.take_left' (frontL_length h)]
theorem page_tl {id kind : Nat} {b : ByteArray} (h : b.size ≤ 500) : tl4 (page id kind b) = putL (Crc.sum (nb (front id kind b))) 4 := by
  unfold tl4
  rw [page_list, List.drop_left' (frontL_length h)]
theorem sum_lt (x : ByteArray) : Crc.sum (nb x) < 4294967296 := by
  unfold Crc.sum Crc.upd
  exact Crc.turn_lt (Crc.fold_lt _ (Crc.turn_lt (by omega)) (nb_lt x))
theorem page_sum {id kind : Nat} {b : ByteArray} (h : b.size ≤ 500) : Crc.sum (nb (fr (page id kind b))) = getL (tl4 (page id kind b)) := by
  rw [page_fr h, page_tl h, getL_putL 4 _ (sum_lt _)]
theorem page_parts (id kind : Nat) (b : ByteArray) : (page id kind b).data.toList = putL id 4 ++ (putL kind 1 ++ (putL 0 1 ++ (putL b.size 2 ++ (b.data.toList ++ (zs (500 - b.size) ++ putL (Crc.sum (nb (front id kind b))) 4))))) := by
  rw [page_list]
  unfold frontL headL
  simp [List.append_assoc]
theorem page_kd {id kind : Nat} {b : ByteArray} (hk : kind < 256) : kd (page id kind b) = kind := by
  unfold kd
  rw [page_parts, List.drop_left' (putL_length 4 _), List.take_left' (putL_length 1 _), getL_putL 1 _ (by omega)]
theorem page_len {id kind : Nat} {b : ByteArray} (h : b.size ≤ 500) : len (page id kind b) = b.size := by
  unfold len
  rw [page_parts, ← List.append_assoc (putL kind 1), ← List.append_assoc (putL id 4), List.drop_left' (by simp [putL_length]), List.take_left' (putL_length 2 _), getL_putL 2 _ (by omega)]
theorem page_body {id kind : Nat} {b : ByteArray} (h : b.size ≤ 500) : body (page id kind b) = b := by
  have hb := Sc.size_eq b
  apply ext_list
  unfold body
  rw [page_len h, ext_ext, page_list]
  unfold frontL
  rw [List.append_assoc, List.append_assoc, List.take_append, List.take_of_length_le (by rw [headL_length]; omega), headL_length, List.drop_left' (headL_length _ _ _), show 8 + b.size - 8 = b.size by omega, List.take_left' hb.symm]
/- what is sealed is opened as it was -/
theorem open_page {id kind : Int} {b : ByteArray} (hb : bad id kind = false) (h : b.size ≤ 500) (other : Int) (ho : 0 ≤ other ∧ other ≤ 2147483647) : openE other (page id.toNat kind.toNat b) = if other = id then 0 else 5 := by
  have hk := bad_false hb
  have ek : ((kd (page id.toNat kind.toNat b) : Nat) : Int) = kind := by rw [page_kd (by omega)]; omega
  have hb2 : bad other kind = false := bad_of ⟨ho.1, ho.2, hk.2.2.1, hk.2.2.2⟩
  unfold openE
  rw [if_neg (by rw [page_size h]; decide), if_neg (by rw [page_sum h]; simp), if_neg (by rw [page_len h]; omega), ek, page_body h]
  unfold sealE sealS
  rw [hb2]
  simp only [Bool.false_eq_true, if_false, show ¬ 500 < b.size by omega]
  by_cases he : other = id
  · subst he
    simp
  · rw [if_neg he, if_neg]
    rintro ⟨_, e⟩
    have e1 : (page other.toNat kind.toNat b).data.toList = (page id.toNat kind.toNat b).data.toList := by rw [e]
    rw [page_parts, page_parts] at e1
    have e2 := congrArg getL (List.append_inj e1 (by rw [putL_length, putL_length])).1
    rw [getL_putL 4 _ (by omega), getL_putL 4 _ (by omega)] at e2
    omega
theorem open_same {id kind : Int} {b : ByteArray} (hb : bad id kind = false) (h : b.size ≤ 500) : openE id (page id.toNat kind.toNat b) = 0 ∧ openK id (page id.toNat kind.toNat b) = kind ∧ openB id (page id.toNat kind.toNat b) = b := by
  have hk := bad_false hb
  have e := open_page hb h id ⟨hk.1, hk.2.1⟩
  rw [if_pos rfl] at e
  refine ⟨e, ?_, ?_⟩
  · unfold openK
    rw [if_pos e, page_kd (by omega)]
    omega
  · unfold openB
    rw [if_pos e, page_body h]
theorem open_size {id : Int} {s : ByteArray} (h : s.size ≠ 512) : openE id s = 5 := by unfold openE; rw [if_pos h]
/- the noughts are no page -/
theorem open_zero {id : Int} {s : ByteArray} (h : kd s = 0) : openE id s ≠ 0 := by
  unfold openE
  split
  · decide
  · split
    · decide
    · split
      · decide
      · rw [if_neg]
        · decide
        · rintro ⟨e, _⟩
          unfold sealE bad at e
          rw [h] at e
          simp at e
/- the four last bytes as a number -/
theorem num4_getL (l : List UInt8) (h : l.length = 4) : Crc.num4 (l.map UInt8.toNat) = getL l := by
  match l, h with
  | [a, b, c, d], _ =>
    unfold Crc.num4
    simp [getL]
    omega
theorem nb_fr (s : ByteArray) : nb (fr s) = (nb s).take 508 := by unfold nb; rw [fr_list, List.map_take]
theorem nb_length (s : ByteArray) : (nb s).length = s.size := by unfold nb; rw [List.length_map, ← Sc.size_eq]
theorem tl4_num {s : ByteArray} (h : s.size = 512) : getL (tl4 s) = Crc.num4 ((nb s).drop 508) := by
  have hs := Sc.size_eq s
  rw [← num4_getL _ (by unfold tl4; rw [List.length_drop]; omega)]
  unfold tl4 nb
  rw [List.map_drop]
/- up to 32 bits side by side that are changed are told -/
theorem turned {id kind : Nat} {b : ByteArray} (h : b.size ≤ 500) (s : ByteArray) (k c i : Nat) (hk : k + i ≤ 4096) (hc : c < 4294967296) (hs : nb s = Crc.burst (nb (page id kind b)) k c i) (x : Int) (hx : Crc.chg c i = true) : openE x s = 6 := by
  have hz : s.size = 512 := by rw [← nb_length, hs, Crc.burst_length, nb_length, page_size h]
  have hv := page_sum (id := id) (kind := kind) h
  rw [nb_fr, tl4_num (page_size h)] at hv
  have ht := Crc.told_burst (m := 508) (by rw [nb_length, page_size h]) (nb_lt _) hv k c i hk hc
  rw [← hs, hx] at ht
  unfold openE
  rw [if_neg (by omega), if_pos]
  rw [nb_fr, tl4_num hz]
  exact bne_iff_ne.1 ht
theorem nb_inj {a b : ByteArray} (h : nb a = nb b) : a = b := by
  apply ext_list
  unfold nb at h
  exact (List.map_inj_right (fun x y e => UInt8.toNat_inj.1 e)).1 h
theorem unturned {id kind : Nat} {b : ByteArray} (s : ByteArray) (k c i : Nat) (hs : nb s = Crc.burst (nb (page id kind b)) k c i) (hx : Crc.chg c i = false) : s = page id kind b := by
  rw [Crc.burst_same _ _ _ _ hx] at hs
  exact nb_inj hs
/- a text in pieces -/
def cutF : Nat → ByteArray → Nat → List Nat → List ByteArray
  | 0, _, _, _ => []
  | f + 1, s, k, more => if s.size = 0 then [] else s.extract 0 (min k s.size) :: cutF f (s.extract (min k s.size) s.size) (more.headD k) more.tail
def cut (s : ByteArray) (k : Nat) (more : List Nat) : List ByteArray := cutF s.size s k more
theorem ext_size (s : ByteArray) (a b : Nat) (h : b ≤ s.size) : (s.extract a b).size = b - a := by
  have := Sc.size_eq s
  rw [Sc.size_eq, ext_ext, List.length_drop, List.length_take]
  omega
theorem cutF_more : ∀ (f g : Nat) (s : ByteArray) (k : Nat) (more : List Nat), 0 < k → (∀ x ∈ more, 0 < x) → s.size ≤ f → s.size ≤ g → cutF f s k more = cutF g s k more
  | 0, g, s, k, more, _, _, h, _ => by
    cases g with
    | zero => rfl
    | succ g => unfold cutF; rw [if_pos (by omega)]
  | f + 1, 0, s, k, more, _, _, _, h => by unfold cutF; rw [if_pos (by omega)]
  | f + 1, g + 1, s, k, more, hk, hm, h1, h2 => by
    unfold cutF
    by_cases h0 : s.size = 0
    · rw [if_pos h0, if_pos h0]
    · rw [if_neg h0, if_neg h0]
      have e := ext_size s (min k s.size) s.size (Nat.le_refl _)
      have hh : 0 < more.headD k := by
        cases more with
        | nil => exact hk
        | cons x l => exact hm x List.mem_cons_self
      rw [cutF_more f g _ _ _ hh (fun x hx => hm x (List.mem_of_mem_tail hx)) (by omega) (by omega)]
theorem cut_nil {s : ByteArray} (k : Nat) (more : List Nat) (h : s.size = 0) : cut s k more = [] := by unfold cut; rw [h]; rfl
theorem cut_cons {s : ByteArray} {k : Nat} {more : List Nat} (hk : 0 < k) (hm : ∀ x ∈ more, 0 < x) (h : s.size ≠ 0) : cut s k more = s.extract 0 (min k s.size) :: cut (s.extract (min k s.size) s.size) (more.headD k) more.tail := by
  unfold cut
  obtain ⟨f, hf⟩ : ∃ f, s.size = f + 1 := ⟨s.size - 1, by omega⟩
  have e := ext_size s (min k s.size) s.size (Nat.le_refl _)
  have hh : 0 < more.headD k := by
    cases more with
    | nil => exact hk
    | cons x l => exact hm x List.mem_cons_self
  rw [cutF_more (s.extract (min k s.size) s.size).size f _ _ _ hh (fun x hx => hm x (List.mem_of_mem_tail hx)) (by omega) (by omega)]
  conv => lhs; rw [hf]
  conv => lhs; unfold cutF
  rw [if_neg h]
theorem ext_ext2 (s : ByteArray) (a b c d : Nat) (_hb : b ≤ s.size) (hd : a + d ≤ b) : (s.extract a b).extract c d = s.extract (a + c) (a + d) := by
  have := Sc.size_eq s
  apply ext_list
  rw [ext_ext, ext_ext, ext_ext, List.take_drop, List.take_take, Nat.min_eq_left (by omega), List.drop_drop, Nat.add_comm a d, Nat.add_comm d a]
theorem min_at {a b : Nat} (h : a ≤ b) : min a b = a := Nat.min_eq_left h
/- the two halves of a page's text -/
theorem cut_two {s : ByteArray} (h : s.size = 512) : cut s 508 [4] = [fr s, s.extract 508 512] := by
  have e1 := ext_size s 508 512 (by omega)
  rw [cut_cons (by omega) (by simp) (by omega), h, min_at (by omega)]
  show _ :: cut _ 4 [] = _
  rw [cut_cons (by omega) (by simp) (by omega), e1, min_at (by omega), ext_ext2 _ _ _ _ _ (by omega) (by omega), ext_ext2 _ _ _ _ _ (by omega) (by omega), cut_nil]
  · rfl
  · rw [ext_size _ _ _ (by omega)]
/- the five parts of what stands ahead of the sum -/
theorem cut_five {s : ByteArray} (h : s.size = 512) : cut (fr s) 4 [1, 1, 2, 500] = [s.extract 0 4, s.extract 4 5, s.extract 5 6, s.extract 6 8, s.extract 8 508] := by
  have e0 : (fr s).size = 508 := ext_size s 0 508 (by omega)
  have e1 := ext_size s 4 508 (by omega)
  have e2 := ext_size s 5 508 (by omega)
  have e3 := ext_size s 6 508 (by omega)
  have e4 := ext_size s 8 508 (by omega)
  rw [cut_cons (by omega) (by simp) (by omega), e0, min_at (by omega)]
  unfold fr
  rw [ext_ext2 _ _ _ _ _ (by omega) (by omega), ext_ext2 _ _ _ _ _ (by omega) (by omega)]
  simp only [Nat.zero_add, List.headD_cons, List.tail_cons]
  rw [cut_cons (by omega) (by simp) (by omega), e1, min_at (by omega), ext_ext2 _ _ _ _ _ (by omega) (by omega), ext_ext2 _ _ _ _ _ (by omega) (by omega)]
  simp only [Nat.reduceAdd, Nat.reduceSub, List.headD_cons, List.tail_cons]
  rw [cut_cons (by omega) (by simp) (by omega), e2, min_at (by omega), ext_ext2 _ _ _ _ _ (by omega) (by omega), ext_ext2 _ _ _ _ _ (by omega) (by omega)]
  simp only [Nat.reduceAdd, Nat.reduceSub, List.headD_cons, List.tail_cons]
  rw [cut_cons (by omega) (by simp) (by omega), e3, min_at (by omega), ext_ext2 _ _ _ _ _ (by omega) (by omega), ext_ext2 _ _ _ _ _ (by omega) (by omega)]
  simp only [Nat.reduceAdd, Nat.reduceSub, List.headD_cons, List.tail_cons]
  rw [cut_cons (by omega) (by simp) (by omega), e4, min_at (by omega), ext_ext2 _ _ _ _ _ (by omega) (by omega), ext_ext2 _ _ _ _ _ (by omega) (by omega), cut_nil]
  rw [ext_size _ _ _ (by omega)]
/- the document's pieces of 64 bytes -/
def secs (s : ByteArray) (i : Nat) : List ByteArray := cut (s.extract i s.size) 64 []
theorem secs_next {s : ByteArray} {i : Nat} (h : i < s.size) : secs s i = s.extract i (min (i + 64) s.size) :: secs s (min (i + 64) s.size) := by
  have e := ext_size s i s.size (Nat.le_refl _)
  unfold secs
  rw [cut_cons (by omega) (by simp) (by omega), e, ext_ext2 _ _ _ _ _ (by omega) (by omega), ext_ext2 _ _ _ _ _ (by omega) (by omega), Nat.add_zero, show i + min 64 (s.size - i) = min (i + 64) s.size by omega, show i + (s.size - i) = s.size by omega]
  rfl
theorem secs_end {s : ByteArray} {i : Nat} (h : s.size ≤ i) : secs s i = [] := cut_nil _ _ (by rw [ext_size s i s.size (Nat.le_refl _)]; omega)
def joined : List ByteArray → ByteArray
  | [] => ⟨#[]⟩
  | x :: l => x ++ joined l
theorem joined_append (a b : List ByteArray) : joined (a ++ b) = joined a ++ joined b := by
  induction a with
  | nil => apply ext_list; rw [app_list]; rfl
  | cons x a ih => apply ext_list; rw [List.cons_append, joined, joined, ih, app_list, app_list, app_list, app_list, List.append_assoc]
theorem secs_all (s : ByteArray) : ∀ (n i : Nat), s.size - i ≤ n → joined (secs s i) = s.extract i s.size
  | 0, i, h => by
    rw [secs_end (by omega)]
    apply ext_list
    rw [ext_ext, Sc.size_eq, List.take_length, List.drop_eq_nil_of_le (by rw [← Sc.size_eq]; omega)]
    rfl
  | n + 1, i, h => by
    by_cases hi : i < s.size
    · rw [secs_next hi, joined, secs_all s n _ (by omega)]
      apply ext_list
      rw [app_list, ext_ext, ext_ext, ext_ext]
      have e : (s.data.toList.take (min (i + 64) s.size)).drop i ++ (s.data.toList.take s.size).drop (min (i + 64) s.size) = (s.data.toList.take s.size).drop i := by
        rw [show s.data.toList.take s.size = s.data.toList by rw [Sc.size_eq, List.take_length]]
        conv => rhs; rw [← List.take_append_drop (min (i + 64) s.size) s.data.toList]
        rw [List.drop_append, List.length_take, ← Sc.size_eq, show i - min (min (i + 64) s.size) s.size = 0 by omega, List.drop_zero]
      exact e
    · rw [secs_end (by omega)]
      apply ext_list
      rw [ext_ext, Sc.size_eq, List.take_length, List.drop_eq_nil_of_le (by rw [← Sc.size_eq]; omega)]
      rfl
theorem sectors_joined (s : ByteArray) : joined (cut s 64 []) = s := by
  have e := secs_all s s.size 0 (by omega)
  unfold secs at e
  have e2 : s.extract 0 s.size = s := by
    apply ext_list
    rw [ext_ext, List.drop_zero, Sc.size_eq, List.take_length]
  rw [e2] at e
  exact e
/- a page's bytes that are all noughts -/
def blank : ByteArray := ob (zs 512)
theorem blank_size : blank.size = 512 := by rw [blank, ob_size, zs, List.length_replicate]
theorem blank_kd : kd blank = 0 := by unfold kd blank; rw [ob_list]; decide
theorem page_not_blank {id kind : Nat} {b : ByteArray} (hk : kind < 256) (h0 : 0 < kind) : page id kind b ≠ blank := fun e => by
  have h1 := page_kd (id := id) (b := b) hk
  rw [e, blank_kd] at h1
  omega
end Pg
