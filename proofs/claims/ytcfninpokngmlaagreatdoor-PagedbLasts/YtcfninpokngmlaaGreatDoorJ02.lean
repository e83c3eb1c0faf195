/- Proved: plain facts of pages (stage 9): what is sealed, what is opened, texts in pieces. No program is named. -/
import Derived.Test.YtcfninpokngmlaaGreatDoorJ01
namespace Pg
open Wl
def zs (n : Nat) : List UInt8 := List.replicate n 0
/- a page's head: its number, its kind, a 00, the length of its body -/
def headL (id kind n : Nat) : List UInt8 := putL id 4 ++ (putL kind 1 ++ (putL 0 1 ++ putL n 2))
def head (id kind n : Nat) : ByteArray := ob (headL id kind n)
theorem headL_length (id kind n : Nat) : (headL id kind n).length = 8 := by unfold headL; simp [putL_length]
theorem head_size (id kind n : Nat) : (head id kind n).size = 8 := by rw [head, ob_size, headL_length]
/- what stands ahead of the sum -/
def frontL (id kind : Nat) (b : ByteArray) : List UInt8 := headL id kind b.size ++ (b.data.toList ++ zs (500 - b.size))
def front (id kind : Nat) (b : ByteArray) : ByteArray := ob (frontL id kind b)
theorem front_list (id kind : Nat) (b : ByteArray) : (front id kind b).data.toList = frontL id kind b := ob_list _
theorem front_size {id kind : Nat} {b : ByteArray} (h : b.size ≤ 500) : (front id kind b).size = 508 := by
  have := Sc.size_eq b
  rw [front, ob_size]
  unfold frontL zs
  rw [List.length_append, List.length_append, headL_length, List.length_replicate]
  omega
def page (id kind : Nat) (b : ByteArray) : ByteArray := front id kind b ++ sum4 (front id kind b)
theorem page_size {id kind : Nat} {b : ByteArray} (h : b.size ≤ 500) : (page id kind b).size = 512 := by
  unfold page
  rw [ByteArray.size_append, front_size h, sum4_size]
theorem page_list (id kind : Nat) (b : ByteArray) : (page id kind b).data.toList = frontL id kind b ++ putL (Crc.sum (nb (front id kind b))) 4 := by
  unfold page sum4
  rw [app_list, front_list, put_list]
theorem frontL_length {id kind : Nat} {b : ByteArray} (h : b.size ≤ 500) : (frontL id kind b).length = 508 := by rw [← front_list, ← Sc.size_eq, front_size h]
/- no number, or no kind -/
def bad (id kind : Int) : Bool := decide (id < 0) || decide (2147483647 < id) || decide (kind < 1) || decide (255 < kind)
def sealE (id kind : Int) (b : ByteArray) : Int := if bad id kind then 2 else if 500 < b.size then 3 else 0
def sealS (id kind : Int) (b : ByteArray) : ByteArray := if bad id kind then ⟨#[]⟩ else if 500 < b.size then ⟨#[]⟩ else page id.toNat kind.toNat b
theorem bad_false {id kind : Int} (h : bad id kind = false) : 0 ≤ id ∧ id ≤ 2147483647 ∧ 1 ≤ kind ∧ kind ≤ 255 := by
  unfold bad at h
  simp at h
  omega
theorem bad_true {id kind : Int} (h : bad id kind = true) : id < 0 ∨ 2147483647 < id ∨ kind < 1 ∨ 255 < kind := by
  unfold bad at h
  simp at h
  omega
theorem bad_of {id kind : Int} (h : 0 ≤ id ∧ id ≤ 2147483647 ∧ 1 ≤ kind ∧ kind ≤ 255) : bad id kind = false := by
  unfold bad
  simp
  omega
/- what a text of 512 bytes has in it -/
def fr (s : ByteArray) : ByteArray := s.extract 0 508
def tl4 (s : ByteArray) : List UInt8 := s.data.toList.drop 508
def len (s : ByteArray) : Nat := getL ((s.data.toList.drop 6).take 2)
def kd (s : ByteArray) : Nat := getL ((s.data.toList.drop 4).take 1)
def body (s : ByteArray) : ByteArray := s.extract 8 (8 + len s)
def openE (id : Int) (s : ByteArray) : Int :=
  if s.size ≠ 512 then 5 else if Crc.sum (nb (fr s)) ≠ getL (tl4 s) then 6 else if 500 < len s then 5 else
  if sealE id (kd s) (body s) = 0 ∧ sealS id (kd s) (body s) = s then 0 else 5
def openK (id : Int) (s : ByteArray) : Int := if openE id s = 0 then (kd s : Int) else 0
def openB (id : Int) (s : ByteArray) : ByteArray := if openE id s = 0 then body s else ⟨#[]⟩
theorem fr_list (s : ByteArray) : (fr s).data.toList = s.data.toList.take 508 := by rw [fr, ext_ext, List.drop_zero]
/- a page's parts -/
theorem page_fr {id kind : Nat} {b : ByteArray} (h : b.size ≤ 500) : fr (page id kind b) = front id kind b := by
  apply ext_list
  rw [fr_list, page_list, front_list, List.take_left' (frontL_length h)]
theorem page_tl {id kind : Nat} {b : ByteArray} (h : b.size ≤ 500) : tl4 (page id kind b) = putL (Crc.sum (nb (front id kind b))) 4 := by
  unfold tl4
  rw [page_list, List.drop_left' (frontL_length h)]
theorem sum_lt (x : ByteArray) : Crc.sum (nb x) < 4294967296 := by
  unfold Crc.sum Crc.upd
  exact Crc.turn_lt (Crc.fold_lt _ (Crc.turn_lt (by omega)) (nb_lt x))
theorem page_sum {id kind : Nat} {b : ByteArray} (h : b.size ≤ 500) : Crc.sum (nb (fr (page id kind b))) = getL (tl4 (page id kind b)) := by
  rw [page_fr h, page_tl h, getL_putL 4 _ (sum_lt _)]
theorem page_parts (id kind : Nat) (b : ByteArray) : (page id kind b).data.toList = putL id 4 ++ (putL kind 1 ++ (putL 0 1 ++ (putL b.size 2 ++ (b.data.toList ++ (zs (500 - b.size) ++ putL (Crc.sum (nb (front id kind b))) 4))))) := by
  rw [page_list]
  unfold frontL headL
  simp [List.append_assoc]
theorem page_kd {id kind : Nat} {b : ByteArray} (hk : kind < 256) : kd (page id kind b) = kind := by
  unfold kd
  rw [page_parts, List.drop_left' (putL_length 4 _), List.take_left' (putL_length 1 _), getL_putL 1 _ (by omega)]
theorem page_len {id kind : Nat} {b : ByteArray} (h : b.size ≤ 500) : len (page id kind b) = b.size := by
  unfold len
  rw [page_parts, ← List.append_assoc (putL kind 1), ← List.append_assoc (putL id 4), List.drop_left' (by simp [putL_length]), List.take_left' (putL_length 2 _), getL_putL 2 _ (by omega)]
theorem page_body {id kind : Nat} {b : ByteArray} (h : b.size ≤ 500) : body (page id kind b) = b := by
  have hb := Sc.size_eq b
  apply ext_list
  unfold body
  rw [page_len h, ext_ext, page_list]
  unfold frontL
  rw [List.append_assoc, List.append_assoc, List.take_append, List.take_of_length_le (by rw [headL_length]; omega), headL_length, List.drop_left' (headL_length _ _ _), show 8 + b.size - 8 = b.size by omega, List.take_left' hb.symm]
/- what is sealed is opened as it was -/
theorem open_page {id kind : Int} {b : ByteArray} (hb : bad id kind = false) (h : b.size ≤ 500) (other : Int) (ho : 0 ≤ other ∧ other ≤ 2147483647) : openE other (page id.toNat kind.toNat b) = if other = id then 0 else 5 := by
  have hk := bad_false hb
  have ek : ((kd (page id.toNat kind.toNat b) : Nat) : Int) = kind := by rw [page_kd (by omega)]; omega
  have hb2 : bad other kind = false := bad_of ⟨ho.1, ho.2, hk.2.2.1, hk.2.2.2⟩
  unfold openE
  rw [if_neg (by rw [page_size h]; decide), if_neg (by rw [page_sum h]; simp), if_neg (by rw [page_len h]; omega), ek, page_body h]
  unfold sealE sealS
  rw [hb2]
  simp only [Bool.false_eq_true, if_false, show ¬ 500 < b.size by omega]
  by_cases he : other = id
  · subst he
    simp
  · rw [if_neg he, if_neg]
    rintro ⟨_, e⟩
    have e1 : (page other.toNat kind.toNat b).data.toList = (page id.toNat kind.toNat b).data.toList := by rw [e]
    rw [page_parts, page_parts] at e1
    have e2 := congrArg getL (List.append_inj e1 (by rw [putL_length, putL_length])).1
    rw [getL_putL 4 _ (by omega), getL_putL 4 _ (by omega)] at e2
    omega
theorem open_same {id kind : Int} {b : ByteArray} (hb : bad id kind = false) (h : b.size ≤ 500) : openE id (page id.toNat kind.toNat b) = 0 ∧ openK id (page id.toNat kind.toNat b) = kind ∧ openB id (page id.toNat kind.toNat b) = b := by
  have hk := bad_false hb
  have e := open_page hb h id ⟨hk.1, hk.2.1⟩
  rw [if_pos rfl] at e
  refine ⟨e, ?_, ?_⟩
  · unfold openK
    rw [if_pos e, page_kd (by omega)]
    omega
  · unfold openB
    rw [if_pos e, page_body h]
theorem open_size {id : Int} {s : ByteArray} (h : s.size ≠ 512) : openE id s = 5 := by unfold openE; rw [if_pos h]
/- the noughts are no page -/
theorem open_zero {id : Int} {s : ByteArray} (h : kd s = 0) : openE id s ≠ 0 := by
  unfold openE
  split
  · decide
  · split
    · decide
    · split
      · decide
      · rw [if_neg]
        · decide
        · rintro ⟨e, _⟩
          unfold sealE bad at e
          rw [h] at e
          simp at e
/- the four last bytes as a number -/
theorem num4_getL (l : List UInt8) (h : l.length = 4) : Crc.num4 (l.map UInt8.toNat) = getL l := by
  match l, h with
  | [a, b, c, d], _ =>
    unfold Crc.num4
    simp [getL]
    omega
theorem nb_fr (s : ByteArray) : nb (fr s) = (nb s).take 508 := by unfold nb; rw [fr_list, List.map_take]
theorem nb_length (s : ByteArray) : (nb s).length = s.size := by unfold nb; rw [List.length_map, ← Sc.size_eq]
theorem tl4_num {s : ByteArray} (h : s.size = 512) : getL (tl4 s) = Crc.num4 ((nb s).drop 508) := by
  have hs := Sc.size_eq s
  rw [← num4_getL _ (by unfold tl4; rw [List.length_drop]; omega)]
  unfold tl4 nb
  rw [List.map_drop]
/- up to 32 bits side by side that are changed are told -/
theorem turned {id kind : Nat} {b : ByteArray} (h : b.size ≤ 500) (s : ByteArray) (k c i : Nat) (hk : k + i ≤ 4096) (hc : c < 4294967296) (hs : nb s = Crc.burst (nb (page id kind b)) k c i) (x : Int) (hx : Crc.chg c i = true) : openE x s = 6 := by
  have hz : s.size = 512 := by rw [← nb_length, hs, Crc.burst_length, nb_length, page_size h]
  have hv := page_sum (id := id) (kind := kind) h
  rw [nb_fr, tl4_num (page_size h)] at hv
  have ht := Crc.told_burst (m := 508) (by rw [nb_length, page_size h]) (nb_lt _) hv k c i hk hc
  rw [← hs, hx] at ht
  unfold openE
  rw [if_neg (by omega), if_pos]
  rw [nb_fr, tl4_num hz]
  exact bne_iff_ne.1 ht
theorem nb_inj {a b : ByteArray} (h : nb a = nb b) : a = b := by
  apply ext_list
  unfold nb at h
  exact (List.map_inj_right (fun x y e => UInt8.toNat_inj.1 e)).1 h
theorem unturned {id kind : Nat} {b : ByteArray} (s : ByteArray) (k c i : Nat) (hs : nb s = Crc.burst (nb (page id kind b)) k c i) (hx : Crc.chg c i = false) : s = page id kind b := by
  rw [Crc.burst_same _ _ _ _ hx] at hs
  exact nb_inj hs
/- a text in pieces -/
def cutF : Nat → ByteArray → Nat → List Nat → List ByteArray
  | 0, _, _, _ => []
  | f + 1, s, k, more => if s.size = 0 then [] else s.extract 0 (min k s.size) :: cutF f (s.extract (min k s.size) s.size) (more.headD k) more.tail
def cut (s : ByteArray) (k : Nat) (more : List Nat) : List ByteArray := cutF s.size s k more
theorem ext_size (s : ByteArray) (a b : Nat) (h : b ≤ s.size) : (s.extract a b).size = b - a := by
  have := Sc.size_eq s
  rw [Sc.size_eq, ext_ext, List.length_drop, List.length_take]
  omega
theorem cutF_more : ∀ (f g : Nat) (s : ByteArray) (k : Nat) (more : List Nat), 0 < k → (∀ x ∈ more, 0 < x) → s.size ≤ f → s.size ≤ g → cutF f s k more = cutF g s k more
  | 0, g, s, k, more, _, _, h, _ => by
    cases g with
    | zero => rfl
    | succ g => unfold cutF; rw [if_pos (by omega)]
  | f + 1, 0, s, k, more, _, _, _, h => by unfold cutF; rw [if_pos (by omega)]
  | f + 1, g + 1, s, k, more, hk, hm, h1, h2 => by
    unfold cutF
    by_cases h0 : s.size = 0
    · rw [if_pos h0, if_pos h0]
    · rw [if_neg h0, if_neg h0]
      have e := ext_size s (min k s.size) s.size (Nat.le_refl _)
      have hh : 0 < more.headD k := by
        cases more with
        | nil => exact hk
        | cons x l => exact hm x List.mem_cons_self
      rw [cutF_more f g _ _ _ hh (fun x hx => hm x (List.mem_of_mem_tail hx)) (by omega) (by omega)]
theorem cut_nil {s : ByteArray} (k : Nat) (more : List Nat) (h : s.size = 0) : cut s k more = [] := by unfold cut; rw [h]; rfl
theorem cut_cons {s : ByteArray} {k : Nat} {more : List Nat} (hk : 0 < k) (hm : ∀ x ∈ more, 0 < x) (h : s.size ≠ 0) : cut s k more = s.extract 0 (min k s.size) :: cut (s.extract (min k s.size) s.size) (more.headD k) more.tail := by
  unfold cut
  obtain ⟨f, hf⟩ : ∃ f, s.size = f + 1 := ⟨s.size - 1, by omega⟩
  have e := ext_size s (min k s.size) s.size (Nat.le_refl _)
  have hh : 0 < more.headD k := by
    cases more with
    | nil => exact hk
    | cons x l => exact hm x List.mem_cons_self
  rw [cutF_more (s.extract (min k s.size) s.size).size f _ _ _ hh (fun x hx => hm x (List.mem_of_mem_tail hx)) (by omega) (by omega)]
  conv => lhs; rw [hf]
  conv => lhs; unfold cutF
  rw [if_neg h]
theorem ext_ext2 (s : ByteArray) (a b c d : Nat) (_hb : b ≤ s.size) (hd : a + d ≤ b) : (s.extract a b).extract c d = s.extract (a + c) (a + d) := by
  have := Sc.size_eq s
  apply ext_list
  rw [ext_ext, ext_ext, ext_ext, List.take_drop, List.take_take, Nat.min_eq_left (by omega), List.drop_drop, Nat.add_comm a d, Nat.add_comm d a]
theorem min_at {a b : Nat} (h : a ≤ b) : min a b = a := Nat.min_eq_left h
/- the two halves of a page's text -/
theorem cut_two {s : ByteArray} (h : s.size = 512) : cut s 508 [4] = [fr s, s.extract 508 512] := by
  have e1 := ext_size s 508 512 (by omega)
  rw [cut_cons (by omega) (by simp) (by omega), h, min_at (by omega)]
  show _ :: cut _ 4 [] = _
  rw [cut_cons (by omega) (by simp) (by omega), e1, min_at (by omega), ext_ext2 _ _ _ _ _ (by omega) (by omega), ext_ext2 _ _ _ _ _ (by omega) (by omega), cut_nil]
  · rfl
  · rw [ext_size _ _ _ (by omega)]
/- the five parts of what stands ahead of the sum -/
theorem cut_five {s : ByteArray} (h : s.size = 512) : cut (fr s) 4 [1, 1, 2, 500] = [s.extract 0 4, s.extract 4 5, s.extract 5 6, s.extract 6 8, s.extract 8 508] := by
  have e0 : (fr s).size = 508 := ext_size s 0 508 (by omega)
  have e1 := ext_size s 4 508 (by omega)
  have e2 := ext_size s 5 508 (by omega)
  have e3 := ext_size s 6 508 (by omega)
  have e4 := ext_size s 8 508 (by omega)
  rw [cut_cons (by omega) (by simp) (by omega), e0, min_at (by omega)]
  unfold fr
  rw [ext_ext2 _ _ _ _ _ (by omega) (by omega), ext_ext2 _ _ _ _ _ (by omega) (by omega)]
  simp only [Nat.zero_add, List.headD_cons, List.tail_cons]
  rw [cut_cons (by omega) (by simp) (by omega), e1, min_at (by omega), ext_ext2 _ _ _ _ _ (by omega) (by omega), ext_ext2 _ _ _ _ _ (by omega) (by omega)]
  simp only [Nat.reduceAdd, Nat.reduceSub, List.headD_cons, List.tail_cons]
  rw [cut_cons (by omega) (by simp) (by omega), e2, min_at (by omega), ext_ext2 _ _ _ _ _ (by omega) (by omega), ext_ext2 _ _ _ _ _ (by omega) (by omega)]
  simp only [Nat.reduceAdd, Nat.reduceSub, List.headD_cons, List.tail_cons]
  rw [cut_cons (by omega) (by simp) (by omega), e3, min_at (by omega), ext_ext2 _ _ _ _ _ (by omega) (by omega), ext_ext2 _ _ _ _ _ (by omega) (by omega)]
  simp only [Nat.reduceAdd, Nat.reduceSub, List.headD_cons, List.tail_cons]
  rw [cut_cons (by omega) (by simp) (by omega), e4, min_at (by omega), ext_ext2 _ _ _ _ _ (by omega) (by omega), ext_ext2 _ _ _ _ _ (by omega) (by omega), cut_nil]
  rw [ext_size _ _ _ (by omega)]
/- the document's pieces of 64 bytes -/
def secs (s : ByteArray) (i : Nat) : List ByteArray := cut (s.extract i s.size) 64 []
theorem secs_next {s : ByteArray} {i : Nat} (h : i < s.size) : secs s i = s.extract i (min (i + 64) s.size) :: secs s (min (i + 64) s.size) := by
  have e := ext_size s i s.size (Nat.le_refl _)
  unfold secs
  rw [cut_cons (by omega) (by simp) (by omega), e, ext_ext2 _ _ _ _ _ (by omega) (by omega), ext_ext2 _ _ _ _ _ (by omega) (by omega), Nat.add_zero, show i + min 64 (s.size - i) = min (i + 64) s.size by omega, show i + (s.size - i) = s.size by omega]
  rfl
theorem secs_end {s : ByteArray} {i : Nat} (h : s.size ≤ i) : secs s i = [] := cut_nil _ _ (by rw [ext_size s i s.size (Nat.le_refl _)]; omega)
def joined : List ByteArray → ByteArray
  | [] => ⟨#[]⟩
  | x :: l => x ++ joined l
theorem joined_append (a b : List ByteArray) : joined (a ++ b) = joined a ++ joined b := by
  induction a with
  | nil => apply ext_list; rw [app_list]; rfl
  | cons x a ih => apply ext_list; rw [List.cons_append, joined, joined, ih, app_list, app_list, app_list, app_list, List.append_assoc]
theorem secs_all (s : ByteArray) : ∀ (n i : Nat), s.size - i ≤ n → joined (secs s i) = s.extract i s.size
  | 0, i, h => by
    rw [secs_end (by omega)]
    apply ext_list
    rw [ext_ext, Sc.size_eq, List.take_length, List.drop_eq_nil_of_le (by rw [← Sc.size_eq]; omega)]
    rfl
  | n + 1, i, h => by
    by_cases hi : i < s.size
    · rw [secs_next hi, joined, secs_all s n _ (by omega)]
      apply ext_list
      rw [app_list, ext_ext, ext_ext, ext_ext]
      have e : (s.data.toList.take (min (i + 64) s.size)).drop i ++ (s.data.toList.take s.size).drop (min (i + 64) s.size) = (s.data.toList.take s.size).drop i := by
        rw [show s.data.toList.take s.size = s.data.toList by rw [Sc.size_eq, List.take_length]]
        conv => rhs; rw [← List.take_append_drop (min (i + 64) s.size) s.data.toList]
        rw [List.drop_append, List.length_take, ← Sc.size_eq, show i - min (min (i + 64) s.size) s.size = 0 by omega, List.drop_zero]
      exact e
    · rw [secs_end (by omega)]
      apply ext_list
      rw [ext_ext, Sc.size_eq, List.take_length, List.drop_eq_nil_of_le (by rw [← Sc.size_eq]; omega)]
      rfl
theorem sectors_joined (s : ByteArray) : joined (cut s 64 []) = s := by
  have e := secs_all s s.size 0 (by omega)
  unfold secs at e
  have e2 : s.extract 0 s.size = s := by
    apply ext_list
    rw [ext_ext, List.drop_zero, Sc.size_eq, List.take_length]
  rw [e2] at e
  exact e
/- a page's bytes that are all noughts -/
def blank : ByteArray := ob (zs 512)
theorem blank_size : blank.size = 512 := by rw [blank, ob_size, zs, List.length_replicate]
theorem blank_kd : kd blank = 0 := by unfold kd blank; rw [ob_list]; decide
theorem page_not_blank {id kind : Nat} {b : ByteArray} (hk : kind < 256) (h0 : 0 < kind) : page id kind b ≠ blank := fun e => by
  have h1 := page_kd (id := id) (b := b) hk
  rw [e, blank_kd] at h1
  omega
end Pg
/- Proved: plain facts of pages by their numbers, in rising order (stage 10). No program is named. -/
namespace Pd
open Wl
/- what a page has -/
structure Sheet where
  kind : Nat
  body : ByteArray
abbrev Mp := List (Nat × Sheet)
def get : Mp → Nat → Option Sheet
  | [], _ => none
  | p :: m, i => if p.1 = i then some p.2 else get m i
def set : Mp → Nat → Sheet → Mp
  | [], i, x => [(i, x)]
  | p :: m, i, x => if i < p.1 then (i, x) :: p :: m else if p.1 = i then (i, x) :: m else p :: set m i x
def Up (m : Mp) : Prop := m.Pairwise (fun p q => p.1 < q.1)
theorem up_nil : Up [] := List.Pairwise.nil
theorem set_keys (x : Sheet) (i : Nat) : ∀ (m : Mp) (p : Nat × Sheet), p ∈ set m i x → p = (i, x) ∨ p ∈ m
  | [], p, h => by
    rcases List.mem_cons.1 h with h | h
    · exact .inl h
    · cases h
  | q :: m, p, h => by
    unfold set at h
    split at h
    · rcases List.mem_cons.1 h with h | h
      · exact .inl h
      · exact .inr h
    · split at h
      · rcases List.mem_cons.1 h with h | h
        · exact .inl h
        · exact .inr (List.mem_cons_of_mem _ h)
      · rcases List.mem_cons.1 h with h | h
        · exact .inr (h ▸ List.mem_cons_self)
        · rcases set_keys x i m p h with h | h
          · exact .inl h
          · exact .inr (List.mem_cons_of_mem _ h)
theorem Up.set (x : Sheet) (i : Nat) : ∀ {m : Mp}, Up m → Up (set m i x)
  | [], _ => by unfold Pd.set; exact List.pairwise_singleton _ _
  | q :: m, h => by
    have h1 := (List.pairwise_cons.1 h).1
    have h2 : Up m := (List.pairwise_cons.1 h).2
    unfold Pd.set
    split
    · rename_i hi
      refine List.pairwise_cons.2 ⟨fun p hp => ?_, h⟩
      rcases List.mem_cons.1 hp with rfl | hp
      · exact hi
      · exact Nat.lt_trans hi (h1 p hp)
    · split
      · rename_i hi
        exact List.pairwise_cons.2 ⟨fun p hp => by rw [← hi]; exact h1 p hp, h2⟩
      · rename_i hi hj
        refine List.pairwise_cons.2 ⟨fun p hp => ?_, Up.set x i h2⟩
        rcases set_keys x i m p hp with rfl | hp
        · show q.1 < i
          omega
        · exact h1 p hp
theorem get_none : ∀ {m : Mp} {i : Nat}, (∀ p ∈ m, p.1 ≠ i) → get m i = none
  | [], _, _ => rfl
  | q :: m, i, h => by
    unfold get
    rw [if_neg (h q List.mem_cons_self)]
    exact get_none (fun p hp => h p (List.mem_cons_of_mem _ hp))
theorem get_mem : ∀ {m : Mp} {i : Nat} {x : Sheet}, get m i = some x → (i, x) ∈ m
  | [], _, _, h => by cases h
  | q :: m, i, x, h => by
    unfold get at h
    split at h
    · rename_i hi
      obtain ⟨a, b⟩ := q
      simp only at hi h
      cases h
      rw [hi]
      exact List.mem_cons_self
    · exact List.mem_cons_of_mem _ (get_mem h)
theorem mem_get : ∀ {m : Mp} {p : Nat × Sheet}, Up m → p ∈ m → get m p.1 = some p.2
  | [], _, _, h => by cases h
  | q :: m, p, hu, h => by
    unfold get
    rcases List.mem_cons.1 h with rfl | h
    · rw [if_pos rfl]
    · have := (List.pairwise_cons.1 hu).1 p h
      rw [if_neg (by omega)]
      exact mem_get (List.pairwise_cons.1 hu).2 h
theorem get_set (x : Sheet) (i j : Nat) : ∀ {m : Mp}, Up m → get (set m i x) j = if i = j then some x else get m j
  | [], _ => by unfold set get; rfl
  | q :: m, h => by
    have h1 := (List.pairwise_cons.1 h).1
    have h2 : Up m := (List.pairwise_cons.1 h).2
    unfold set
    split
    · rename_i hi
      show (if i = j then some x else get (q :: m) j) = _
      rfl
    · split
      · rename_i hi
        show (if i = j then some x else get m j) = if i = j then some x else if q.1 = j then some q.2 else get m j
        by_cases hj : i = j
        · rw [if_pos hj, if_pos hj]
        · rw [if_neg hj, if_neg hj, if_neg (by omega)]
      · rename_i hi hq
        show (if q.1 = j then some q.2 else get (set m i x) j) = if i = j then some x else if q.1 = j then some q.2 else get m j
        rw [get_set x i j h2]
        by_cases hj : q.1 = j
        · rw [if_pos hj, if_pos hj, if_neg (by omega)]
        · rw [if_neg hj, if_neg hj]
theorem set_ne_nil (m : Mp) (i : Nat) (x : Sheet) : set m i x ≠ [] := by
  cases m with
  | nil => intro h; cases h
  | cons q m =>
    unfold set
    split
    · intro h; cases h
    · split
      · intro h; cases h
      · intro h; cases h
theorem set_length (x : Sheet) (i : Nat) : ∀ (m : Mp), (set m i x).length = m.length + 1 ∨ ((set m i x).length = m.length ∧ ∃ p ∈ m, p.1 = i)
  | [] => .inl rfl
  | q :: m => by
    unfold set
    split
    · exact .inl rfl
    · split
      · rename_i h
        exact .inr ⟨rfl, q, List.mem_cons_self, h⟩
      · rcases set_length x i m with h | ⟨h, p, hp, e⟩
        · exact .inl (by rw [List.length_cons, List.length_cons, h])
        · exact .inr ⟨by rw [List.length_cons, List.length_cons, h], p, List.mem_cons_of_mem _ hp, e⟩
theorem set_length_le (x : Sheet) (i : Nat) (m : Mp) : (set m i x).length ≤ m.length + 1 := by
  rcases set_length x i m with h | ⟨h, _⟩ <;> omega
/- two that tell the same are one -/
theorem mp_ext : ∀ {a b : Mp}, Up a → Up b → (∀ i, get a i = get b i) → a = b
  | [], [], _, _, _ => rfl
  | [], q :: b, _, hb, h => by
    have := h q.1
    rw [mem_get hb List.mem_cons_self] at this
    cases this
  | q :: a, [], ha, _, h => by
    have := h q.1
    rw [mem_get ha List.mem_cons_self] at this
    cases this
  | p :: a, q :: b, ha, hb, h => by
    have ha1 := (List.pairwise_cons.1 ha).1
    have hb1 := (List.pairwise_cons.1 hb).1
    have e1 : p.1 = q.1 := by
      rcases Nat.lt_trichotomy p.1 q.1 with hl | hl | hl
      · have h1 := h p.1
        rw [mem_get ha List.mem_cons_self, get_none (m := q :: b) (fun r hr => by
          rcases List.mem_cons.1 hr with rfl | hr
          · omega
          · have := hb1 r hr; omega)] at h1
        cases h1
      · exact hl
      · have h1 := h q.1
        rw [mem_get hb List.mem_cons_self, get_none (m := p :: a) (fun r hr => by
          rcases List.mem_cons.1 hr with rfl | hr
          · omega
          · have := ha1 r hr; omega)] at h1
        cases h1
    have e2 : p.2 = q.2 := by
      have h1 := h p.1
      rw [mem_get ha List.mem_cons_self, e1, mem_get hb List.mem_cons_self] at h1
      exact Option.some.inj h1
    obtain ⟨p1, p2⟩ := p
    obtain ⟨q1, q2⟩ := q
    simp only at e1 e2
    subst e1
    subst e2
    refine congrArg _ (mp_ext (List.pairwise_cons.1 ha).2 (List.pairwise_cons.1 hb).2 fun i => ?_)
    have h1 := h i
    unfold get at h1
    by_cases hi : p1 = i
    · subst hi
      rw [get_none (m := a) (fun r hr => by have := ha1 r hr; omega), get_none (m := b) (fun r hr => by have := hb1 r hr; omega)]
    · simp only at h1
      rw [if_neg hi, if_neg hi] at h1
      exact h1
/- the later ones over those ahead of them -/
def copy (d s : Mp) : Mp := s.foldl (fun m p => set m p.1 p.2) d
theorem Up.copy : ∀ (s : Mp) {d : Mp}, Up d → Up (copy d s)
  | [], _, h => h
  | p :: s, _, h => Up.copy s (h.set p.2 p.1)
theorem get_copy (i : Nat) : ∀ (s : Mp) {d : Mp}, Up d → Up s → get (copy d s) i = (get s i).or (get d i)
  | [], d, _, _ => rfl
  | p :: s, d, hd, hs => by
    have h1 := (List.pairwise_cons.1 hs).1
    show get (copy (set d p.1 p.2) s) i = _
    rw [get_copy i s (hd.set p.2 p.1) (List.pairwise_cons.1 hs).2, get_set p.2 p.1 i hd]
    by_cases hi : p.1 = i
    · rw [if_pos hi]
      have e : get s i = none := get_none (fun r hr => by have := h1 r hr; omega)
      rw [e]
      unfold get
      rw [if_pos hi]
      rfl
    · rw [if_neg hi]
      show _ = (if p.1 = i then some p.2 else get s i).or _
      rw [if_neg hi]
theorem copy_keys : ∀ (s d : Mp) (p : Nat × Sheet), p ∈ copy d s → p ∈ s ∨ p ∈ d
  | [], _, _, h => .inr h
  | q :: s, d, p, h => by
    rcases copy_keys s (set d q.1 q.2) p h with h | h
    · exact .inl (List.mem_cons_of_mem _ h)
    · rcases set_keys q.2 q.1 d p h with rfl | h
      · exact .inl List.mem_cons_self
      · exact .inr h
theorem copy_length : ∀ (s d : Mp), (copy d s).length ≤ d.length + s.length
  | [], d => by show d.length ≤ _; simp
  | q :: s, d => by
    have h1 := copy_length s (set d q.1 q.2)
    have h2 := set_length_le q.2 q.1 d
    show (copy (set d q.1 q.2) s).length ≤ _
    rw [List.length_cons]
    omega
theorem copy_nil {s : Mp} (h : Up s) : copy [] s = s := mp_ext (Up.copy s up_nil) h (fun i => by rw [get_copy i s up_nil h]; cases get s i <;> rfl)
/- how many there can be below a bound -/
theorem up_bound : ∀ {m : Mp} {a b : Nat}, Up m → (∀ p ∈ m, a ≤ p.1 ∧ p.1 < b) → m.length ≤ b - a
  | [], _, _, _, _ => by simp
  | q :: m, a, b, h, hb => by
    have h1 := (List.pairwise_cons.1 h).1
    have h2 := hb q List.mem_cons_self
    have := up_bound (a := q.1 + 1) (b := b) (List.pairwise_cons.1 h).2 (fun p hp => ⟨h1 p hp, (hb p (List.mem_cons_of_mem _ hp)).2⟩)
    rw [List.length_cons]
    omega
end Pd
/- Proved: plain facts of a database's states (stage 10): what each page has, what Alloc, Free, Write and SetRoot make of them. No program is named. -/
namespace Pd
open Wl
def none0 : ByteArray := ⟨#[]⟩
theorem none0_size : none0.size = 0 := rfl
/- what page 0 tells -/
structure Stt where
  high : Nat
  free : Nat
  last : Nat
  r0 : Nat
  r1 : Nat
  r2 : Nat
  r3 : Nat
def mark : ByteArray := ⟨#[65, 81, 68, 66]⟩
def Stt.text (t : Stt) : ByteArray := mark ++ put t.high 4 ++ put t.free 4 ++ put t.last 4 ++ put t.r0 4 ++ put t.r1 4 ++ put t.r2 4 ++ put t.r3 4
def Stt.sheet (t : Stt) : Sheet := ⟨1, t.text⟩
theorem Stt.text_size (t : Stt) : t.text.size = 32 := by
  unfold Stt.text
  simp only [ByteArray.size_append, put_size]
  rfl
structure Stt.Small (t : Stt) (cnt : Nat) : Prop where
  high : t.high ≤ cnt
  free : t.free < t.high
  last : t.last < t.high
  zero : t.free = 0 ↔ t.last = 0
  r0 : t.r0 ≤ 2147483647
  r1 : t.r1 ≤ 2147483647
  r2 : t.r2 ≤ 2147483647
  r3 : t.r3 ≤ 2147483647
def freeSheet (ahead : Nat) : Sheet := ⟨255, put ahead 4⟩
/- a database as it is seen: its pages from 0 on (none: it is free), the order in which pages came free, its roots -/
structure Ab where
  pgs : List (Option Sheet)
  freed : List Nat
  r0 : Nat
  r1 : Nat
  r2 : Nat
  r3 : Nat
def Ab.stt (A : Ab) : Stt := ⟨A.pgs.length, A.freed.length, A.freed.getLast?.getD 0, A.r0, A.r1, A.r2, A.r3⟩
/- the one that came free ahead of it -/
def prevA : Nat → List Nat → Nat → Nat
  | _, [], _ => 0
  | p, x :: l, i => if x = i then p else prevA x l i
def prev (l : List Nat) (i : Nat) : Nat := prevA 0 l i
theorem prevA_left (y i : Nat) : ∀ (l : List Nat) (p : Nat), i ∈ l → prevA p (l ++ [y]) i = prevA p l i
  | [], _, h => by cases h
  | x :: l, p, h => by
    show (if x = i then p else prevA x (l ++ [y]) i) = if x = i then p else prevA x l i
    by_cases hx : x = i
    · rw [if_pos hx, if_pos hx]
    · rw [if_neg hx, if_neg hx]
      rcases List.mem_cons.1 h with h | h
      · exact absurd h.symm hx
      · exact prevA_left y i l x h
theorem prevA_last (i : Nat) : ∀ (l : List Nat) (p : Nat), i ∉ l → prevA p (l ++ [i]) i = l.getLast?.getD p
  | [], p, _ => by show (if i = i then p else _) = _; rw [if_pos rfl]; rfl
  | x :: l, p, h => by
    have hx : ¬ x = i := fun e => h (e ▸ List.mem_cons_self)
    show (if x = i then p else prevA x (l ++ [i]) i) = _
    rw [if_neg hx, prevA_last i l x (fun hm => h (List.mem_cons_of_mem _ hm)), List.getLast?_cons]
    rfl
def page1 : Sheet := ⟨1, none0⟩
def page00 : Sheet := ⟨0, none0⟩
def Ab.init : Ab := ⟨[some page00], [], 0, 0, 0, 0⟩
/- what a page has -/
def Ab.sh (A : Ab) (i : Nat) : Sheet := if i = 0 then A.stt.sheet else match A.pgs[i]? with
  | some (some x) => x
  | _ => freeSheet (prev A.freed i)
structure Sheet.Fine (x : Sheet) : Prop where
  k0 : 1 ≤ x.kind
  k1 : x.kind ≤ 255
  b : x.body.size ≤ 500
structure Ab.Ok (A : Ab) (cnt : Nat) : Prop where
  one : A.pgs[0]? = some (some page00)
  most : A.pgs.length ≤ cnt
  nodup : A.freed.Nodup
  mem : ∀ i, i ∈ A.freed ↔ A.pgs[i]? = some none
  fine : ∀ i x, 1 ≤ i → A.pgs[i]? = some (some x) → x.Fine ∧ x.kind ≤ 254
  r0 : A.r0 ≤ 2147483647
  r1 : A.r1 ≤ 2147483647
  r2 : A.r2 ≤ 2147483647
  r3 : A.r3 ≤ 2147483647
  small : cnt ≤ 1000
theorem init_ok {cnt : Nat} (h : 1 ≤ cnt) (h2 : cnt ≤ 1000) : Ab.init.Ok cnt := by
  refine ⟨rfl, h, List.nodup_nil, fun i => ⟨fun h => (by cases h), fun h => ?_⟩, fun i x hi h => ?_, by decide, by decide, by decide, by decide, h2⟩
  · cases i with
    | zero => cases h
    | succ i => cases h
  · cases i with
    | zero => omega
    | succ i => cases h
section
variable {A : Ab} {cnt : Nat}
theorem Ab.Ok.pos (h : A.Ok cnt) : 0 < A.pgs.length := (List.getElem?_eq_some_iff.1 h.one).1
theorem Ab.Ok.flt (h : A.Ok cnt) {i : Nat} (hi : i ∈ A.freed) : 1 ≤ i ∧ i < A.pgs.length := by
  have h1 := (h.mem i).1 hi
  refine ⟨?_, (List.getElem?_eq_some_iff.1 h1).1⟩
  rcases Nat.eq_zero_or_pos i with rfl | hp
  · rw [h.one] at h1; cases h1
  · exact hp
theorem last_mem_of {l : List Nat} (h : l ≠ []) : l.getLast?.getD 0 ∈ l := by
  rw [List.getLast?_eq_some_getLast h]
  exact List.getLast_mem h
theorem Ab.Ok.last_lt (h : A.Ok cnt) : A.freed.getLast?.getD 0 < A.pgs.length := by
  by_cases hf : A.freed = []
  · rw [hf]; exact h.pos
  · exact (h.flt (last_mem_of hf)).2
theorem nodup_le : ∀ (n : Nat) (l : List Nat), l.Nodup → (∀ i ∈ l, i < n) → l.length ≤ n
  | 0, [], _, _ => Nat.le_refl _
  | 0, x :: l, _, h => absurd (h x List.mem_cons_self) (Nat.not_lt_zero _)
  | n + 1, l, hn, h => by
    by_cases hm : n ∈ l
    · have h1 := nodup_le n (l.erase n) (hn.erase n) (fun i hi => by
        have h2 := h i (List.mem_of_mem_erase hi)
        have h3 : i ≠ n := fun e => by
          rw [e] at hi
          exact (hn.not_mem_erase) hi
        omega)
      rw [List.length_erase_of_mem hm] at h1
      omega
    · exact Nat.le_succ_of_le (nodup_le n l hn (fun i hi => by
        have h2 := h i hi
        have h3 : i ≠ n := fun e => hm (e ▸ hi)
        omega))
theorem nodup_bound {l : List Nat} {n : Nat} (hn : l.Nodup) (hb : ∀ i ∈ l, 1 ≤ i ∧ i < n) (hne : l ≠ []) : l.length < n := by
  have hp : 0 < n := by
    obtain ⟨x, hx⟩ := List.exists_mem_of_ne_nil l hne
    have := hb x hx
    omega
  exact nodup_le n (0 :: l) (List.nodup_cons.2 ⟨fun hm => by have := hb 0 hm; omega, hn⟩) (fun i hi => by
    rcases List.mem_cons.1 hi with rfl | hi
    · exact hp
    · exact (hb i hi).2)
theorem Ab.Ok.free_lt (h : A.Ok cnt) : A.freed.length < A.pgs.length := by
  by_cases hf : A.freed = []
  · rw [hf]; exact h.pos
  · exact nodup_bound h.nodup (fun i hi => h.flt hi) hf
theorem Ab.Ok.small_stt (h : A.Ok cnt) : A.stt.Small cnt := by
  refine ⟨h.most, h.free_lt, h.last_lt, ?_, h.r0, h.r1, h.r2, h.r3⟩
  show A.freed.length = 0 ↔ A.freed.getLast?.getD 0 = 0
  constructor
  · intro e
    rw [List.length_eq_zero_iff.1 e]
    rfl
  · intro e
    by_cases hf : A.freed = []
    · rw [hf]; rfl
    · have := (h.flt (last_mem_of hf)).1
      omega
theorem prevA_lt {n : Nat} : ∀ (l : List Nat) (p i : Nat), p < n → (∀ x ∈ l, x < n) → prevA p l i < n
  | [], p, _, hp, _ => by show 0 < n; omega
  | x :: l, p, i, hp, h => by
    show (if x = i then p else prevA x l i) < n
    split
    · exact hp
    · exact prevA_lt l x i (h x List.mem_cons_self) (fun y hy => h y (List.mem_cons_of_mem _ hy))
theorem Ab.sh_fine (h : A.Ok cnt) (i : Nat) : (A.sh i).Fine := by
  unfold Ab.sh
  split
  · exact ⟨Nat.le_refl _, by show 1 ≤ 255; omega, by show A.stt.text.size ≤ 500; rw [Stt.text_size]; omega⟩
  · split
    · rename_i h0 x hx
      exact (h.fine i x (by omega) hx).1
    · exact ⟨by show 1 ≤ 255; omega, Nat.le_refl _, by show (put _ 4).size ≤ 500; rw [put_size]; omega⟩
theorem Ab.sh_there (h : A.Ok cnt) {i : Nat} {x : Sheet} (h1 : 1 ≤ i) (hx : A.pgs[i]? = some (some x)) : A.sh i = x ∧ x.kind ≠ 255 := by
  refine ⟨?_, by have := (h.fine i x h1 hx).2; omega⟩
  unfold Ab.sh
  rw [if_neg (by omega), hx]
theorem Ab.sh_free {i : Nat} (h1 : 1 ≤ i) (hx : A.pgs[i]? = some none) : A.sh i = freeSheet (prev A.freed i) := by
  unfold Ab.sh
  rw [if_neg (by omega), hx]
theorem Ab.sh_zero (A : Ab) : A.sh 0 = A.stt.sheet := rfl
/- the calls of a transaction -/
def Ab.write (A : Ab) (i : Nat) (x : Sheet) : Ab := { A with pgs := A.pgs.set i (some x) }
def Ab.allocI (A : Ab) : Nat := if A.freed = [] then A.pgs.length else A.freed.getLast?.getD 0
def Ab.alloc (A : Ab) : Ab := if A.freed = [] then { A with pgs := A.pgs ++ [some page1] } else { A with pgs := A.pgs.set (A.freed.getLast?.getD 0) (some page1), freed := A.freed.dropLast }
def Ab.free (A : Ab) (i : Nat) : Ab := { A with pgs := A.pgs.set i none, freed := A.freed ++ [i] }
def Ab.root (A : Ab) (i n : Nat) : Ab := match i with
  | 0 => { A with r0 := n }
  | 1 => { A with r1 := n }
  | 2 => { A with r2 := n }
  | _ => { A with r3 := n }
theorem page1_fine : page1.Fine ∧ page1.kind ≤ 254 := ⟨⟨Nat.le_refl _, by show 1 ≤ 255; omega, Nat.zero_le _⟩, by show 1 ≤ 254; omega⟩
theorem Ab.Ok.write (h : A.Ok cnt) {i : Nat} {x y : Sheet} (h1 : 1 ≤ i) (hy : A.pgs[i]? = some (some y)) (hx : x.Fine ∧ x.kind ≤ 254) : (A.write i x).Ok cnt := by
  have hl := (List.getElem?_eq_some_iff.1 hy).1
  refine ⟨?_, by show (A.pgs.set i (some x)).length ≤ cnt; rw [List.length_set]; exact h.most, h.nodup, fun j => ?_, fun j z hj hz => ?_, h.r0, h.r1, h.r2, h.r3, h.small⟩
  · show (A.pgs.set i (some x))[0]? = _
    rw [List.getElem?_set_ne (by omega)]
    exact h.one
  · show j ∈ A.freed ↔ (A.pgs.set i (some x))[j]? = _
    by_cases e : i = j
    · subst e
      rw [List.getElem?_set_self hl, h.mem i, hy]
      constructor
      · intro e; cases e
      · intro e; cases e
    · rw [List.getElem?_set_ne e]
      exact h.mem j
  · have hz : (A.pgs.set i (some x))[j]? = some (some z) := hz
    by_cases e : i = j
    · subst e
      rw [List.getElem?_set_self hl] at hz
      cases hz
      exact hx
    · rw [List.getElem?_set_ne e] at hz
      exact h.fine j z hj hz
theorem Ab.write_sh (A : Ab) (i j : Nat) (x : Sheet) (h1 : 1 ≤ i) (hl : i < A.pgs.length) : (A.write i x).sh j = if j = i then x else A.sh j := by
  unfold Ab.sh
  by_cases h0 : j = 0
  · rw [if_pos h0, if_neg (by omega), if_pos h0]
    show (Ab.write A i x).stt.sheet = A.stt.sheet
    have : (A.write i x).stt = A.stt := by unfold Ab.stt Ab.write; simp only [List.length_set]
    rw [this]
  · rw [if_neg h0, if_neg h0]
    show (match (A.pgs.set i (some x))[j]? with | some (some x) => x | _ => freeSheet (prev A.freed j)) = _
    by_cases e : j = i
    · subst e
      rw [List.getElem?_set_self hl, if_pos rfl]
    · rw [List.getElem?_set_ne (fun h => e h.symm), if_neg e]
theorem Ab.Ok.alloc (h : A.Ok cnt) (hf : A.freed = [] → A.pgs.length < cnt) : A.alloc.Ok cnt := by
  unfold Ab.alloc
  by_cases e : A.freed = []
  · rw [if_pos e]
    have hlt := hf e
    refine ⟨?_, by show (A.pgs ++ [some page1]).length ≤ cnt; rw [List.length_append]; exact hlt, h.nodup, fun j => ?_, fun j z hj hz => ?_, h.r0, h.r1, h.r2, h.r3, h.small⟩
    · show (A.pgs ++ [some page1])[0]? = _
      rw [List.getElem?_append_left h.pos]
      exact h.one
    · show j ∈ A.freed ↔ (A.pgs ++ [some page1])[j]? = _
      rw [h.mem j]
      rcases Nat.lt_or_ge j A.pgs.length with hl | hl
      · rw [List.getElem?_append_left hl]
      · rw [List.getElem?_append_right hl, List.getElem?_eq_none hl]
        constructor
        · intro e; cases e
        · intro e
          rcases Nat.eq_zero_or_pos (j - A.pgs.length) with h0 | h0
          · rw [h0] at e; cases e
          · rw [List.getElem?_eq_none (by show 1 ≤ _; exact h0)] at e; cases e
    · have hz : (A.pgs ++ [some page1])[j]? = some (some z) := hz
      rcases Nat.lt_or_ge j A.pgs.length with hl | hl
      · rw [List.getElem?_append_left hl] at hz
        exact h.fine j z hj hz
      · rw [List.getElem?_append_right hl] at hz
        rcases Nat.eq_zero_or_pos (j - A.pgs.length) with h0 | h0
        · rw [h0] at hz
          cases hz
          exact page1_fine
        · rw [List.getElem?_eq_none (by show 1 ≤ _; exact h0)] at hz
          cases hz
  · rw [if_neg e]
    have hm := last_mem_of e
    have hfl := h.flt hm
    have hsp : A.freed = A.freed.dropLast ++ [A.freed.getLast?.getD 0] := by
      rw [List.getLast?_eq_some_getLast e]
      exact (List.dropLast_concat_getLast e).symm
    have hnd : A.freed.getLast?.getD 0 ∉ A.freed.dropLast := by
      have := h.nodup
      rw [hsp] at this
      have h2 := (List.nodup_append.1 this).2.2
      intro hm
      exact h2 _ hm _ List.mem_cons_self rfl
    generalize A.freed.getLast?.getD 0 = i at hm hfl hsp hnd
    refine ⟨?_, by show (A.pgs.set i (some page1)).length ≤ cnt; rw [List.length_set]; exact h.most, ?_, fun j => ?_, fun j z hj hz => ?_, h.r0, h.r1, h.r2, h.r3, h.small⟩
    · show (A.pgs.set i (some page1))[0]? = _
      rw [List.getElem?_set_ne (by omega)]
      exact h.one
    · have := h.nodup
      rw [hsp] at this
      exact (List.nodup_append.1 this).1
    · show j ∈ A.freed.dropLast ↔ (A.pgs.set i (some page1))[j]? = _
      by_cases e : i = j
      · subst e
        rw [List.getElem?_set_self hfl.2]
        constructor
        · intro e; exact absurd e hnd
        · intro e; cases e
      · rw [List.getElem?_set_ne e, ← h.mem j]
        constructor
        · intro hj; rw [hsp]; exact List.mem_append_left _ hj
        · intro hj
          rw [hsp] at hj
          rcases List.mem_append.1 hj with hj | hj
          · exact hj
          · exact absurd (List.mem_singleton.1 hj).symm e
    · have hz : (A.pgs.set i (some page1))[j]? = some (some z) := hz
      by_cases e : i = j
      · subst e
        rw [List.getElem?_set_self hfl.2] at hz
        cases hz
        exact page1_fine
      · rw [List.getElem?_set_ne e] at hz
        exact h.fine j z hj hz
theorem Ab.alloc_high (A : Ab) : A.alloc.pgs.length = if A.freed = [] then A.pgs.length + 1 else A.pgs.length := by
  unfold Ab.alloc
  split
  · show (A.pgs ++ [some page1]).length = _
    rw [List.length_append]
    rfl
  · show (A.pgs.set _ _).length = _
    rw [List.length_set]
theorem Ab.allocI_pos (h : A.Ok cnt) : 1 ≤ A.allocI := by
  unfold Ab.allocI
  split
  · exact h.pos
  · rename_i e; exact (h.flt (last_mem_of e)).1
theorem Ab.allocI_lt (h : A.Ok cnt) : A.allocI < A.alloc.pgs.length := by
  rw [Ab.alloc_high]
  unfold Ab.allocI
  split
  · omega
  · rename_i e; exact (h.flt (last_mem_of e)).2
theorem Ab.alloc_sh (h : A.Ok cnt) (j : Nat) (hj : 1 ≤ j) (hjl : j < A.alloc.pgs.length) : A.alloc.sh j = if j = A.allocI then page1 else A.sh j := by
  have h0 : ¬ j = 0 := by omega
  unfold Ab.sh Ab.alloc Ab.allocI
  rw [if_neg h0, if_neg h0]
  by_cases e : A.freed = []
  · rw [if_pos e, if_pos e]
    show (match (A.pgs ++ [some page1])[j]? with | some (some x) => x | _ => freeSheet (prev A.freed j)) = _
    have hle : j ≤ A.pgs.length := by rw [Ab.alloc_high, if_pos e] at hjl; omega
    rcases Nat.lt_or_ge j A.pgs.length with hl | hl
    · rw [List.getElem?_append_left hl, if_neg (by omega)]
    · have : j = A.pgs.length := by omega
      rw [List.getElem?_append_right hl, if_pos this, this, Nat.sub_self]
      rfl
  · rw [if_neg e, if_neg e]
    have hm := last_mem_of e
    have hfl := h.flt hm
    have hsp : A.freed = A.freed.dropLast ++ [A.freed.getLast?.getD 0] := by
      rw [List.getLast?_eq_some_getLast e]
      exact (List.dropLast_concat_getLast e).symm
    show (match (A.pgs.set (A.freed.getLast?.getD 0) (some page1))[j]? with | some (some x) => x | _ => freeSheet (prev A.freed.dropLast j)) = _
    generalize A.freed.getLast?.getD 0 = i at hm hfl hsp
    by_cases e2 : j = i
    · subst e2
      rw [List.getElem?_set_self hfl.2, if_pos rfl]
    · rw [List.getElem?_set_ne (fun h => e2 h.symm), if_neg e2]
      have hlen : j < A.pgs.length := by rw [Ab.alloc_high, if_neg e] at hjl; exact hjl
      cases hx : A.pgs[j]? with
      | none => rw [List.getElem?_eq_getElem hlen] at hx; cases hx
      | some o =>
        cases o with
        | some x => rfl
        | none =>
          have hjm := (h.mem j).2 hx
          show freeSheet _ = freeSheet _
          rw [hsp] at hjm
          have hjd : j ∈ A.freed.dropLast := by
            rcases List.mem_append.1 hjm with hq | hq
            · exact hq
            · exact absurd (List.mem_singleton.1 hq) e2
          have h1 := prevA_left i j A.freed.dropLast 0 hjd
          rw [← hsp] at h1
          unfold prev
          rw [h1]
/- the page that came free last tells the one ahead of it -/
theorem Ab.last_sh (h : A.Ok cnt) (e : A.freed ≠ []) : A.sh (A.freed.getLast?.getD 0) = freeSheet (A.freed.dropLast.getLast?.getD 0) := by
  have hm := last_mem_of e
  have hfl := h.flt hm
  have hsp : A.freed = A.freed.dropLast ++ [A.freed.getLast?.getD 0] := by
    rw [List.getLast?_eq_some_getLast e]
    exact (List.dropLast_concat_getLast e).symm
  have hnd : A.freed.getLast?.getD 0 ∉ A.freed.dropLast := by
    have := h.nodup
    rw [hsp] at this
    intro hm
    exact (List.nodup_append.1 this).2.2 _ hm _ List.mem_cons_self rfl
  rw [Ab.sh_free hfl.1 ((h.mem _).1 hm)]
  generalize A.freed.getLast?.getD 0 = i at hm hfl hsp hnd
  have h1 := prevA_last i A.freed.dropLast 0 hnd
  rw [← hsp] at h1
  unfold prev
  rw [h1]
theorem Ab.Ok.free (h : A.Ok cnt) {i : Nat} {x : Sheet} (h1 : 1 ≤ i) (hx : A.pgs[i]? = some (some x)) : (A.free i).Ok cnt := by
  have hl := (List.getElem?_eq_some_iff.1 hx).1
  have hni : i ∉ A.freed := fun hm => by rw [h.mem i, hx] at hm; cases hm
  refine ⟨?_, by show (A.pgs.set i none).length ≤ cnt; rw [List.length_set]; exact h.most, ?_, fun j => ?_, fun j z hj hz => ?_, h.r0, h.r1, h.r2, h.r3, h.small⟩
  · show (A.pgs.set i none)[0]? = _
    rw [List.getElem?_set_ne (by omega)]
    exact h.one
  · show (A.freed ++ [i]).Nodup
    exact List.nodup_append.2 ⟨h.nodup, by simp, fun a ha b hb => by
      rw [List.mem_singleton.1 hb]
      intro e
      exact hni (e ▸ ha)⟩
  · show j ∈ A.freed ++ [i] ↔ (A.pgs.set i none)[j]? = _
    rw [List.mem_append, List.mem_singleton]
    by_cases e : i = j
    · subst e
      rw [List.getElem?_set_self hl]
      exact ⟨fun _ => rfl, fun _ => .inr rfl⟩
    · rw [List.getElem?_set_ne e, ← h.mem j]
      exact ⟨fun h => h.resolve_right (fun h => e h.symm), .inl⟩
  · have hz : (A.pgs.set i none)[j]? = some (some z) := hz
    by_cases e : i = j
    · subst e
      rw [List.getElem?_set_self hl] at hz
      cases hz
    · rw [List.getElem?_set_ne e] at hz
      exact h.fine j z hj hz
theorem Ab.free_sh (h : A.Ok cnt) {i : Nat} {x : Sheet} (h1 : 1 ≤ i) (hx : A.pgs[i]? = some (some x)) (j : Nat) (hj : 1 ≤ j) (hjl : j < A.pgs.length) : (A.free i).sh j = if j = i then freeSheet (A.freed.getLast?.getD 0) else A.sh j := by
  have hl := (List.getElem?_eq_some_iff.1 hx).1
  have hni : i ∉ A.freed := fun hm => by rw [h.mem i, hx] at hm; cases hm
  have h0 : ¬ j = 0 := by omega
  unfold Ab.sh
  rw [if_neg h0, if_neg h0]
  show (match (A.pgs.set i none)[j]? with | some (some x) => x | _ => freeSheet (prev (A.freed ++ [i]) j)) = _
  by_cases e : j = i
  · subst e
    rw [List.getElem?_set_self hl, if_pos rfl]
    show freeSheet (prevA 0 (A.freed ++ [j]) j) = _
    rw [prevA_last j A.freed 0 hni]
  · rw [List.getElem?_set_ne (fun h => e h.symm), if_neg e]
    cases hz : A.pgs[j]? with
    | none => rw [List.getElem?_eq_getElem hjl] at hz; cases hz
    | some o =>
      cases o with
      | some x => rfl
      | none =>
        show freeSheet (prevA 0 (A.freed ++ [i]) j) = _
        rw [prevA_left i j A.freed 0 ((h.mem j).2 hz)]
        rfl
theorem Ab.Ok.root (h : A.Ok cnt) (i n : Nat) (hn : n ≤ 2147483647) : (A.root i n).Ok cnt := by
  unfold Ab.root
  split
  · exact ⟨h.one, h.most, h.nodup, h.mem, h.fine, hn, h.r1, h.r2, h.r3, h.small⟩
  · exact ⟨h.one, h.most, h.nodup, h.mem, h.fine, h.r0, hn, h.r2, h.r3, h.small⟩
  · exact ⟨h.one, h.most, h.nodup, h.mem, h.fine, h.r0, h.r1, hn, h.r3, h.small⟩
  · exact ⟨h.one, h.most, h.nodup, h.mem, h.fine, h.r0, h.r1, h.r2, hn, h.small⟩
theorem Ab.root_pgs (A : Ab) (i n : Nat) : (A.root i n).pgs = A.pgs ∧ (A.root i n).freed = A.freed := by
  unfold Ab.root
  split <;> exact ⟨rfl, rfl⟩
theorem Ab.root_sh (A : Ab) (i n j : Nat) (hj : 1 ≤ j) : (A.root i n).sh j = A.sh j := by
  unfold Ab.sh
  rw [if_neg (by omega), if_neg (by omega), (A.root_pgs i n).1, (A.root_pgs i n).2]
end
end Pd
/- Proved: plain facts of a log on a disk (stage 8): what a sync and a reset write, and what is found behind a loss of power at any write. No program is named. -/
namespace Wl
/- the k-th 64 bytes -/
def sec (l : List UInt8) (k : Nat) : List UInt8 := (l.drop (64 * k)).take 64
theorem sec_at (l : List UInt8) (k j : Nat) (hj : j < 64) : (sec l k)[j]? = l[64 * k + j]? := by
  unfold sec
  rw [List.getElem?_take_of_lt hj, List.getElem?_drop]
theorem sec_length (l : List UInt8) (k : Nat) : (sec l k).length ≤ 64 := by unfold sec; rw [List.length_take]; omega
def chunk (l : List UInt8) (k : Nat) : ByteArray := Sc.fill (ob (sec l k))
theorem chunk_size (l : List UInt8) (k : Nat) : (chunk l k).size = 64 := Sc.fill_size (by rw [ob_size]; exact sec_length l k)
theorem chunk_at (l : List UInt8) (k j : Nat) (hj : j < 64) (h : 64 * k + j < l.length) : (chunk l k).data.toList[j]? = l[64 * k + j]? := by
  unfold chunk
  rw [Sc.fill_list, ob_list]
  have hl : j < (sec l k).length := by
    unfold sec
    rw [List.length_take, List.length_drop]
    omega
  rw [List.getElem?_append_left hl, sec_at l k j hj]
/- the sectors behind the first one hold these bytes -/
def Holds (kept : List ByteArray) (base : Nat) (b : List UInt8) : Prop := ∀ i j, j < 64 → 64 * i + j < b.length → (kept.getD (base + 1 + i) Sc.zero64).data.toList[j]? = b[64 * i + j]?
theorem Holds.left {kept : List ByteArray} {base : Nat} {a c : List UInt8} (h : Holds kept base (a ++ c)) : Holds kept base a := fun i j hj hl => by
  rw [h i j hj (by rw [List.length_append]; omega), List.getElem?_append_left hl]
theorem Holds.nil (kept : List ByteArray) (base : Nat) : Holds kept base [] := fun i j _ hl => by simp at hl
/- the write of a part of these bytes -/
def Part (base : Nat) (all : List UInt8) (p : Nat × ByteArray) : Prop := ∃ k, p = (base + 1 + k, chunk all k)
theorem keepI_one (b : Nat → Bool) (x : Nat) : ∀ (l : List (Nat × ByteArray)) (n : Nat) (ks : List ByteArray), (Sc.keepI b l n ks).getD x Sc.zero64 = ks.getD x Sc.zero64 ∨ ∃ p ∈ l, p.1 = x ∧ (Sc.keepI b l n ks).getD x Sc.zero64 = p.2
  | [], _, _ => .inl rfl
  | p :: l, n, ks => by
    unfold Sc.keepI
    rcases keepI_one b x l (n + 1) (if b n then ks.set p.1 p.2 else ks) with h | ⟨q, hq, h1, h2⟩
    · by_cases hb : b n = true
      · rw [hb] at h ⊢
        simp only [if_true] at h ⊢
        by_cases hx : p.1 = x
        · by_cases hl : x < ks.length
          · refine .inr ⟨p, List.mem_cons_self, hx, ?_⟩
            rw [h, List.getD_eq_getElem?_getD, hx, List.getElem?_set_self hl]
            rfl
          · refine .inl ?_
            rw [h, hx, List.set_eq_of_length_le (by omega)]
        · refine .inl ?_
          rw [h, List.getD_eq_getElem?_getD, List.getElem?_set_ne hx, ← List.getD_eq_getElem?_getD]
      · have hb' : b n = false := by simpa using hb
        rw [hb'] at h ⊢
        exact .inl h
    · exact .inr ⟨q, List.mem_cons_of_mem _ hq, h1, h2⟩
/- whatever is kept of parts of these bytes, what they begin with is there -/
theorem Holds.kept {kept : List ByteArray} {base : Nat} {old new : List UInt8} (h : Holds kept base old) {l : List (Nat × ByteArray)} (hl : ∀ p ∈ l, Part base (old ++ new) p) (b : Nat → Bool) (n : Nat) : Holds (Sc.keepI b l n kept) base old := fun i j hj hi => by
  rcases keepI_one b (base + 1 + i) l n kept with e | ⟨p, hp, h1, e⟩
  · rw [e]; exact h i j hj hi
  · obtain ⟨k, rfl⟩ := hl p hp
    obtain rfl : k = i := by simp only at h1; omega
    rw [e]
    simp only
    rw [chunk_at _ _ _ hj (by rw [List.length_append]; omega), List.getElem?_append_left hi]
/- the writes of a sync, from the sector on in which the old bytes end -/
def parts (base : Nat) (all : List UInt8) (k m : Nat) : List (Nat × ByteArray) := (List.range m).map fun i => (base + 1 + (k + i), chunk all (k + i))
theorem parts_part (base : Nat) (all : List UInt8) (k m : Nat) : ∀ p ∈ parts base all k m, Part base all p := fun p hp => by
  obtain ⟨i, _, rfl⟩ := List.mem_map.1 hp
  exact ⟨k + i, rfl⟩
theorem parts_succ (base : Nat) (all : List UInt8) (k m : Nat) : parts base all k (m + 1) = parts base all k m ++ [(base + 1 + (k + m), chunk all (k + m))] := by
  unfold parts
  rw [List.range_succ, List.map_append]
  rfl
theorem parts_length (base : Nat) (all : List UInt8) (k m : Nat) : (parts base all k m).length = m := by simp [parts]
theorem last_mem (x : Nat) : ∀ (l : List (Nat × ByteArray)) (y : ByteArray), (∃ p ∈ l, p.1 = x) → ∃ p ∈ l, p.1 = x ∧ Sc.last x l y = p.2
  | [], _, h => by
    obtain ⟨p, hp, _⟩ := h
    cases hp
  | q :: l, y, h => by
    unfold Sc.last
    by_cases hm : ∃ p ∈ l, p.1 = x
    · obtain ⟨p, hp, h1, h2⟩ := last_mem x l (if q.1 = x then q.2 else y) hm
      exact ⟨p, List.mem_cons_of_mem _ hp, h1, h2⟩
    · have hn : ∀ p ∈ l, p.1 ≠ x := fun p hp e => hm ⟨p, hp, e⟩
      obtain ⟨p, hp, h1⟩ := h
      rcases List.mem_cons.1 hp with rfl | hp
      · refine ⟨p, List.mem_cons_self, h1, ?_⟩
        rw [if_pos h1, Sc.last_none x l _ hn]
      · exact absurd h1 (hn p hp)
/- all of them kept: all bytes are there -/
theorem Holds.flushed {kept : List ByteArray} {base : Nat} {old new : List UInt8} {m : Nat} (h : Holds kept base old) (hm : (old ++ new).length ≤ 64 * (old.length / 64 + m)) (hk : base + 1 + (old.length / 64 + m) ≤ kept.length) (n : Nat) : Holds (Sc.keepI (fun _ => true) (parts base (old ++ new) (old.length / 64) m) n kept) base (old ++ new) := fun i j hj hi => by
  by_cases hlo : i < old.length / 64
  · have hne : ∀ p ∈ parts base (old ++ new) (old.length / 64) m, p.1 ≠ base + 1 + i := fun p hp e => by
      obtain ⟨t, _, rfl⟩ := List.mem_map.1 hp
      simp only at e
      omega
    have hol : 64 * i + j < old.length := by
      have := Nat.div_mul_le_self old.length 64
      have : 64 * (i + 1) ≤ 64 * (old.length / 64) := Nat.mul_le_mul_left 64 hlo
      omega
    rw [List.getD_eq_getElem?_getD, Sc.keepI_apart _ _ _ _ _ hne, ← List.getD_eq_getElem?_getD, h i j hj hol, List.getElem?_append_left hol]
  · have him : i < old.length / 64 + m := by omega
    have hex : ∃ p ∈ parts base (old ++ new) (old.length / 64) m, p.1 = base + 1 + i := ⟨(base + 1 + (old.length / 64 + (i - old.length / 64)), chunk (old ++ new) (old.length / 64 + (i - old.length / 64))), List.mem_map.2 ⟨i - old.length / 64, List.mem_range.2 (by omega), rfl⟩, by simp only; omega⟩
    obtain ⟨p, hp, h1, h2⟩ := last_mem (base + 1 + i) _ (kept.getD (base + 1 + i) Sc.zero64) hex
    obtain ⟨t, rfl⟩ := parts_part base (old ++ new) (old.length / 64) m p hp
    obtain rfl : t = i := by simp only at h1; omega
    rw [List.getD_eq_getElem?_getD, Sc.keepI_last (base + 1 + t) _ _ _ (by omega), h2]
    exact chunk_at _ _ _ hj hi
/- the log on a disk: its head, and its bytes -/
def HeadIs (kept : List ByteArray) (base e l : Nat) : Prop := kept.getD base Sc.zero64 = head e l ∨ (kept.getD base Sc.zero64 = Sc.zero64 ∧ e = 0 ∧ l = 0)
structure On (kept : List ByteArray) (base n e : Nat) (b : ByteArray) : Prop where
  head : HeadIs kept base e b.size
  holds : Holds kept base b.data.toList
  room : b.size ≤ 64 * (n - 1)
  fits : base + n ≤ kept.length
  two : 2 ≤ n
  most : e ≤ 4611686018427387904
/- a disk of noughts holds the empty log -/
theorem On.zero {kept : List ByteArray} {base n : Nat} (h : kept.getD base Sc.zero64 = Sc.zero64) (hn : 2 ≤ n) (hf : base + n ≤ kept.length) : On kept base n 0 (ob []) :=
  ⟨.inr ⟨h, rfl, rfl⟩, by rw [ob_list]; exact Holds.nil _ _, by rw [ob_size]; simp, hf, hn, by omega⟩
/- power is lost among the writes of the data -/
theorem On.data {kept : List ByteArray} {base n e : Nat} {b new : ByteArray} (h : On kept base n e b) {l : List (Nat × ByteArray)} (hl : ∀ p ∈ l, Part base (b ++ new).data.toList p) (f : Nat → Bool) (i : Nat) : On (Sc.keepI f l i kept) base n e b := by
  refine ⟨?_, ?_, h.room, by rw [Sc.keepI_length]; exact h.fits, h.two, h.most⟩
  · have e : (Sc.keepI f l i kept).getD base Sc.zero64 = kept.getD base Sc.zero64 := by
      rw [List.getD_eq_getElem?_getD, Sc.keepI_apart f base l i kept (fun p hp hb => by obtain ⟨k, rfl⟩ := hl p hp; simp only at hb; omega), ← List.getD_eq_getElem?_getD]
    unfold HeadIs
    rw [e]
    exact h.head
  · refine Holds.kept (new := new.data.toList) h.holds (fun p hp => ?_) f i
    have := hl p hp
    rwa [app_list] at this
/- a head is written: it is kept, or not -/
theorem On.headed {kept : List ByteArray} {base n e : Nat} {b : ByteArray} (h : On kept base n e b) {e' : Nat} {b' : ByteArray} (hb : Holds kept base b'.data.toList) (hr : b'.size ≤ 64 * (n - 1)) (he : e' ≤ 4611686018427387904) : On (kept.set base (Wl.head e' b'.size)) base n e' b' := by
  have hlen : base < kept.length := by have := h.fits; have := h.two; omega
  refine ⟨.inl ?_, fun i j hj hi => ?_, hr, by rw [List.length_set]; exact h.fits, h.two, he⟩
  · rw [List.getD_eq_getElem?_getD, List.getElem?_set_self hlen]
    rfl
  · rw [List.getD_eq_getElem?_getD, List.getElem?_set_ne (by omega), ← List.getD_eq_getElem?_getD]
    exact hb i j hj hi
theorem On.either {kept : List ByteArray} {base n e : Nat} {b : ByteArray} (h : On kept base n e b) {e' : Nat} {b' : ByteArray} (hb : Holds kept base b'.data.toList) (hr : b'.size ≤ 64 * (n - 1)) (he : e' ≤ 4611686018427387904) (f : Nat → Bool) : On (Sc.keepI f [(base, Wl.head e' b'.size)] 0 kept) base n e b ∨ On (Sc.keepI f [(base, Wl.head e' b'.size)] 0 kept) base n e' b' := by
  unfold Sc.keepI Sc.keepI
  by_cases hf : f 0 = true
  · rw [hf]
    exact .inr (h.headed hb hr he)
  · have hf' : f 0 = false := by simpa using hf
    rw [hf']
    exact .inl h
end Wl
