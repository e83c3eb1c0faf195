/- Proved: keys of paths, and paths of keys, by plain lists. No program, no world. -/
import Derived.Test.YtealbeblkilibaaDoorJ01
import Derived.BigQuiet
import Derived.Laws.AppendOwn
import Derived.Deep.AppendSrc
namespace Go.Proofs.YtealbeblkilibaaDoor
open Go.RowKit
namespace Ino
/- a part of a key: its kind, its number, its text -/
structure Pt where
  kind : Int
  n : Int
  s : ByteArray
def txt (l : Pm.T) : Pt := ⟨2, 0, mk l⟩
def keyL (p : Pm.T) : List Pt := (Pm.split p).map txt
def isT (x : Pt) : Bool := x.kind == 2 && x.n == 0
theorem isT_iff (x : Pt) : isT x = true ↔ x = txt (bl x.s) := by
  obtain ⟨k, n, s⟩ := x
  simp [isT, txt, mk_bl]
def names (key : List Pt) : List Pm.T := key.map fun x => bl x.s
def walkP : Pm.T → List Pt → Option Pm.T
  | p, [] => some p
  | p, x :: r => if (Pm.joined p (bl x.s)).2 = 0 ∧ isT x = true then walkP (Pm.joined p (bl x.s)).1 r else none
def pathS (key : List Pt) : Pm.T := (walkP [] key).getD []
def pathE (key : List Pt) : Nat := if (walkP [] key).isSome = true then 0 else 5
/- the keys that are those of a path -/
def okK (key : List Pt) : Prop := (∀ x ∈ key, isT x = true) ∧ (key = [] ∨ Pm.Path (Pm.join (names key)) ∧ Pm.names (Pm.join (names key)) = names key)
theorem walk_snoc (x : Pt) : ∀ (p : Pm.T) (key : List Pt), walkP p (key ++ [x]) = (walkP p key).bind fun q => if (Pm.joined q (bl x.s)).2 = 0 ∧ isT x = true then some (Pm.joined q (bl x.s)).1 else none
  | p, [] => by
    show walkP p [x] = _
    unfold walkP
    by_cases h : (Pm.joined p (bl x.s)).2 = 0 ∧ isT x = true
    · rw [if_pos h]
      show walkP _ [] = (some p).bind _
      rw [Option.bind_some, if_pos h]; rfl
    · rw [if_neg h]
      show none = (some p).bind _
      rw [Option.bind_some, if_neg h]
  | p, y :: key => by
    show walkP p (y :: (key ++ [x])) = _
    unfold walkP
    by_cases h : (Pm.joined p (bl y.s)).2 = 0 ∧ isT y = true
    · rw [if_pos h, if_pos h]
      exact walk_snoc x _ key
    · rw [if_neg h, if_neg h]; rfl
theorem join_root {L : List Pm.T} (hL : L ≠ []) (h : ∀ n ∈ L, n ≠ []) : Pm.join L ≠ [] := by
  cases L with
  | nil => exact absurd rfl hL
  | cons n r =>
    cases r with
    | nil => exact h n (by simp)
    | cons k r => rw [Pm.join]; simp
theorem chain_snoc {L : List Pm.T} {n : Pm.T} (h : ∀ k ∈ L, k ≠ []) (hn : n ≠ []) : Pm.chain (Pm.join L) n = Pm.join (L ++ [n]) := by
  unfold Pm.chain
  by_cases hL : L = []
  · subst hL
    rw [if_pos (.inl rfl)]; rfl
  · rw [if_neg (fun hh => hh.elim (join_root hL h) hn), Pm.join_append L [n] hL (by simp)]; rfl
theorem names_ne_of {L : List Pm.T} (h : ∀ n ∈ L, Pm.nk n ≠ 0) : ∀ n ∈ L, n ≠ [] := fun n hn e => by
  subst e; exact h _ hn (by decide)
theorem ok_nk {key : List Pt} (h : okK key) : ∀ n ∈ names key, Pm.nk n ≠ 0 := by
  rcases h.2 with h2 | ⟨h2, h3⟩
  · subst h2; intro n hn; cases hn
  · intro n hn
    rw [← h3] at hn
    exact Pm.good_nk h2.ok hn
theorem ok_isP {key : List Pt} (h : okK key) : (Pm.kind (Pm.join (names key))).2 = 0 := by
  have : Pm.isP (Pm.join (names key)) = true := by
    rcases h.2 with h2 | ⟨h2, _⟩
    · subst h2; decide
    · exact (Pm.isP_iff _).2 (.inr h2)
  simpa [Pm.isP] using this
theorem ok_snoc (key : List Pt) (x : Pt) (h : okK key) : ((Pm.joined (Pm.join (names key)) (bl x.s)).2 = 0 ∧ isT x = true) ↔ okK (key ++ [x]) := by
  have hnm : names (key ++ [x]) = names key ++ [bl x.s] := by simp [names]
  have hne := names_ne_of (ok_nk h)
  constructor
  · rintro ⟨hj, ht⟩
    refine ⟨fun y hy => ?_, .inr ?_⟩
    · rcases List.mem_append.1 hy with hy | hy
      · exact h.1 y hy
      · rw [List.mem_singleton.1 hy]; exact ht
    unfold Pm.joined at hj
    rw [if_neg (fun hh => hh (ok_isP h))] at hj
    split at hj
    · cases hj
    · split at hj
      · cases hj
      · rename_i h1 h2
        have hx0 : bl x.s ≠ [] := fun e => h2 (.inl e)
        have hx1 : 47 ∉ bl x.s := fun e => h2 (.inr e)
        rw [chain_snoc hne hx0] at hj
        rw [hnm]
        have hp : Pm.isP (Pm.join (names key ++ [bl x.s])) = true := by
          unfold Pm.checked at hj
          unfold Pm.isP
          split at hj
          · rename_i hk; rw [hk]; rfl
          · rename_i hk; exact absurd hj hk
        have hj0 : Pm.join (names key ++ [bl x.s]) ≠ [] := join_root (by simp) (fun n hn => by
          rcases List.mem_append.1 hn with hn | hn
          · exact hne n hn
          · rw [List.mem_singleton.1 hn]; exact hx0)
        have hnn : Pm.names (Pm.join (names key ++ [bl x.s])) = names key ++ [bl x.s] := Pm.names_join _ (by simp) (fun n hn => by
          rcases List.mem_append.1 hn with hn | hn
          · exact Pm.nk_free (ok_nk h n hn)
          · rw [List.mem_singleton.1 hn]; exact hx1)
        rcases (Pm.isP_iff _).1 hp with h' | h'
        · exact absurd h' hj0
        · exact ⟨h', hnn⟩
  · intro hk
    refine ⟨?_, hk.1 x (by simp)⟩
    have h2 : Pm.Path (Pm.join (names key ++ [bl x.s])) ∧ Pm.names (Pm.join (names key ++ [bl x.s])) = names key ++ [bl x.s] := by
      rcases hk.2 with h' | h'
      · simp at h'
      · rwa [hnm] at h'
    have hgd : Pm.good (names key ++ [bl x.s]) = true := by rw [← h2.2]; exact h2.1.ok
    have hxn : Pm.nk (bl x.s) ≠ 0 := Pm.good_nk hgd (by simp)
    have hx0 : bl x.s ≠ [] := fun e => hxn (by rw [e]; decide)
    have hx1 : 47 ∉ bl x.s := Pm.nk_free hxn
    have hdir : (Pm.kind (Pm.join (names key))).1 ≠ 2 := by
      rcases h.2 with h' | ⟨h', h3⟩
      · subst h'; decide
      · rw [Pm.kind_dir h' (fun n hn => by rw [h3] at hn; exact Pm.good_dir hgd (by simpa using hn))]
        decide
    unfold Pm.joined
    rw [if_neg (fun hh => hh (ok_isP h)), if_neg hdir, if_neg (fun hh => hh.elim hx0 hx1), chain_snoc hne hx0]
    unfold Pm.checked
    have hp : (Pm.kind (Pm.join (names key ++ [bl x.s]))).2 = 0 := by
      have := (Pm.isP_iff (Pm.join (names key ++ [bl x.s]))).2 (.inr h2.1)
      simpa [Pm.isP] using this
    rw [if_pos hp]
theorem ok_join (key : List Pt) (x : Pt) (h : okK key) (h2 : okK (key ++ [x])) : (Pm.joined (Pm.join (names key)) (bl x.s)).1 = Pm.join (names (key ++ [x])) := by
  have hj := ((ok_snoc key x h).2 h2).1
  have hnm : names (key ++ [x]) = names key ++ [bl x.s] := by simp [names]
  have hxn : Pm.nk (bl x.s) ≠ 0 := ok_nk h2 _ (by rw [hnm]; simp)
  have hx0 : bl x.s ≠ [] := fun e => hxn (by rw [e]; decide)
  unfold Pm.joined at hj ⊢
  rw [if_neg (fun hh => hh (ok_isP h))] at hj ⊢
  split at hj
  · cases hj
  · rename_i h1
    rw [if_neg h1]
    split at hj
    · cases hj
    · rename_i h3
      rw [if_neg h3]
      rw [chain_snoc (names_ne_of (ok_nk h)) hx0] at hj ⊢
      unfold Pm.checked at hj ⊢
      split at hj
      · rename_i hk; rw [if_pos hk, hnm]
      · rename_i hk; exact absurd hj hk
theorem ok_init (key : List Pt) (x : Pt) (h : okK (key ++ [x])) : okK key := by
  refine ⟨fun y hy => h.1 y (by simp [hy]), ?_⟩
  by_cases hk : key = []
  · exact .inl hk
  · refine .inr ?_
    have hnm : names (key ++ [x]) = names key ++ [bl x.s] := by simp [names]
    rcases h.2 with h' | ⟨h2, h3⟩
    · simp at h'
    · rw [hnm] at h2 h3
      have hl : 0 < (names key).length := by
        have := List.length_pos_iff.2 hk
        simpa [names] using this
      have hp := Pm.path_take h2 (k := (names key).length) hl (by rw [h3]; simp)
      have e : (Pm.names (Pm.join (names key ++ [bl x.s]))).take (names key).length = names key := by rw [h3]; simp
      rw [e] at hp
      exact ⟨hp.1, hp.2.1⟩
theorem walk_yes (key : List Pt) : okK key → walkP [] key = some (Pm.join (names key)) := by
  suffices hh : ∀ r : List Pt, okK r.reverse → walkP [] r.reverse = some (Pm.join (names r.reverse)) by
    have := hh key.reverse; rwa [List.reverse_reverse] at this
  intro r
  induction r with
  | nil => intro _; rfl
  | cons x r ih =>
    intro h
    rw [List.reverse_cons] at h ⊢
    have h0 := ok_init _ _ h
    rw [walk_snoc, ih h0, Option.bind_some, if_pos ((ok_snoc _ _ h0).2 h), ok_join _ _ h0 h]
theorem walk_no (key : List Pt) : ¬ okK key → walkP [] key = none := by
  suffices hh : ∀ r : List Pt, ¬ okK r.reverse → walkP [] r.reverse = none by
    have := hh key.reverse; rwa [List.reverse_reverse] at this
  intro r
  induction r with
  | nil => intro h; exact absurd ⟨(fun y hy => by cases hy), .inl rfl⟩ h
  | cons x r ih =>
    intro h
    rw [List.reverse_cons] at h ⊢
    rw [walk_snoc]
    by_cases h0 : okK r.reverse
    · rw [walk_yes _ h0, Option.bind_some, if_neg (fun hh => h ((ok_snoc _ _ h0).1 hh))]
    · rw [ih h0]; rfl
/- what the document's Path asks -/
def sam (x y : Pt) : Bool := x.kind == y.kind && (x.n == y.n && x.s.toList == y.s.toList)
theorem sam_iff (x y : Pt) : sam x y = true ↔ x = y := by
  obtain ⟨a1, a2, a3⟩ := x
  obtain ⟨b1, b2, b3⟩ := y
  simp only [sam, Bool.and_eq_true, beq_iff_eq, Pt.mk.injEq]
  have : a3.toList = b3.toList ↔ a3 = b3 := ⟨fun h => bl_inj (by rw [ByteArray.toList_eq, ByteArray.toList_eq] at h; exact h), fun h => by rw [h]⟩
  rw [this]
theorem names_txt (L : List Pm.T) : names (L.map txt) = L := by
  simp [names, txt, bl_mk, Function.comp_def]
theorem ok_key (key : List Pt) : okK key ↔ (Pm.kind (Pm.join (names key))).2 = 0 ∧ keyL (Pm.join (names key)) = key := by
  constructor
  · intro h
    refine ⟨ok_isP h, ?_⟩
    have hs : Pm.split (Pm.join (names key)) = names key := by
      rcases h.2 with h' | ⟨h2, h3⟩
      · subst h'; decide
      · rw [Pm.split_path h2, h3]
    unfold keyL
    rw [hs]
    have : ∀ l : List Pt, (∀ x ∈ l, isT x = true) → (names l).map txt = l := by
      intro l
      induction l with
      | nil => intro _; rfl
      | cons x l ih =>
        intro hl
        show txt (bl x.s) :: (names l).map txt = x :: l
        rw [ih (fun y hy => hl y (by simp [hy])), ← (isT_iff x).1 (hl x (by simp))]
    exact this key h.1
  · rintro ⟨h1, h2⟩
    refine ⟨fun x hx => ?_, ?_⟩
    · rw [← h2] at hx
      obtain ⟨l, _, rfl⟩ := List.mem_map.1 hx
      rfl
    · have hp : Pm.isP (Pm.join (names key)) = true := by simpa [Pm.isP] using h1
      rcases (Pm.isP_iff _).1 hp with h' | h'
      · rw [h'] at h2
        exact .inl (by rw [← h2]; rfl)
      · refine .inr ⟨h', ?_⟩
        have := congrArg names h2
        unfold keyL at this
        rw [names_txt, Pm.split_path h'] at this
        exact this
theorem path_key {p : Pm.T} (h : (Pm.kind p).2 = 0) : walkP [] (keyL p) = some p := by
  have hp : Pm.isP p = true := by simpa [Pm.isP] using h
  have hj : Pm.join (names (keyL p)) = p := by
    unfold keyL
    rw [names_txt]
    rcases (Pm.isP_iff _).1 hp with h' | h'
    · subst h'; decide
    · rw [Pm.split_path h', Pm.join_names]
  have hk : okK (keyL p) := (ok_key _).2 (by rw [hj]; exact ⟨h, rfl⟩)
  rw [walk_yes _ hk, hj]
end Ino
end Go.Proofs.YtealbeblkilibaaDoor
/- Proved: Kind answers whose path a text is, or why it is none; checked and isPath lean on it. -/
namespace Go.Proofs.YtealbeblkilibaaDoor
open Go.RowKit
/- texts that lie in memory, one behind the other -/
def TextsAt (w : World) (b o : Nat) (l : List Pm.T) : Prop := ∀ (j : Nat) x, l[j]? = some x → w.cell? ⟨b, o + j, none⟩ = some (.string (mk x))
def scells (l : List Pm.T) : List Value := l.map fun x => .string (mk x)
theorem TextsAt.below {w w' : World} {b o B : Nat} {l : List Pm.T} (h : TextsAt w b o l) (hb : Below B w w') (hB : b < B) : TextsAt w' b o l := fun j x hj => (hb.cell (p := ⟨b, o + j, none⟩) hB).trans (h j x hj)
theorem textsAt_new (w : World) (l : List Pm.T) (t : TypeId) : TextsAt (w.alloc (.cells (scells l).toArray t)) w.heap.size 0 l := fun j x hj => by
  rw [cell_of_row _ _ (0 + j) _ t (0, 0) (heap_alloc_new w _), Nat.zero_add, List.getElem?_toArray, scells, List.getElem?_map, hj]; rfl
theorem parts_eq (s : ByteArray) : (Lib.splitB ⟨#[47]⟩ 0 (Lib.countB s ⟨#[47]⟩) s).map Value.string = scells (Pm.names (bl s)) ∧ Lib.countB s ⟨#[47]⟩ + 1 = (Pm.names (bl s)).length := by
  have h1 : (Lib.splitB ⟨#[47]⟩ 0 (Lib.countB s ⟨#[47]⟩) s).map bl = Pm.names (bl s) := by
    rw [← Pm.split_names _ (bl s) (Nat.le_refl _)]
    exact Lib.splitB_data ⟨#[47]⟩ 0 _ s
  refine ⟨?_, ?_⟩
  · rw [scells, ← h1, List.map_map]; rfl
  · rw [← h1, List.length_map, Lib.splitB_all ⟨#[47]⟩ (by decide) 0 _ s rfl]
theorem split_any (s : ByteArray) (w : World) (hs : s.size < 4294967281) (hT : Tab w) :
    Calls Tryd.prog 56 #[.string s, .string ⟨#[47]⟩] w fun e w' => e = .returned (.slice (some ⟨w.heap.size, 0, none⟩) (Pm.names (bl s)).length (Pm.names (bl s)).length) ∧ w' = w.alloc (.cells (scells (Pm.names (bl s))).toArray 9) := by
  obtain ⟨m, hm⟩ := hT.max
  have h := Tryd.strings_Split s ⟨#[47]⟩ m w hs hm (by decide)
  rw [(parts_eq s).1, (parts_eq s).2] at h
  exact h
theorem names_size (s : ByteArray) : (Pm.names (bl s)).length ≤ s.size + 1 := by
  rw [Pm.names_length, ← bl_length s]
  have := List.count_le_length (a := (47 : UInt8)) (l := bl s)
  omega
theorem name_size (s : ByteArray) {n : Pm.T} (h : n ∈ Pm.names (bl s)) : n.length ≤ s.size := by
  rw [← bl_length s]
  suffices hh : ∀ (l : List Pm.T), n ∈ l → n.length ≤ (Pm.join l).length by
    have := hh _ h
    rwa [Pm.join_names] at this
  intro l
  induction l with
  | nil => intro h; cases h
  | cons a r ih =>
    intro h
    cases r with
    | nil => rw [List.mem_singleton] at h; subst h; exact Nat.le_refl _
    | cons b r =>
      rw [Pm.join]
      rcases List.mem_cons.1 h with rfl | h
      · simp
      · have := ih h
        simp; omega
theorem getD_mem {l : List Pm.T} {k : Nat} (h : k < l.length) : l.getD k [] ∈ l := by
  rw [List.getD_eq_getElem?_getD, List.getElem?_eq_getElem h]; exact List.getElem_mem h
theorem getD_some {l : List Pm.T} {k : Nat} (h : k < l.length) : l[k]? = some (l.getD k []) := by
  rw [List.getD_eq_getElem?_getD, List.getElem?_eq_getElem h]; rfl
theorem getLastD_at (l : List Pm.T) : l.getLastD [] = l.getD (l.length - 1) [] := by
  rw [List.getLastD_eq_getLast?, List.getLast?_eq_getElem?, List.getD_eq_getElem?_getD]
theorem good_no {l : List Pm.T} {k : Nat} (hk : k < l.length - 1) (h : Pm.nk (l.getD k []) ≠ 1) : Pm.good l = false := by
  unfold Pm.good
  rw [Bool.and_eq_false_iff]
  refine .inl ?_
  rw [List.all_eq_false]
  refine ⟨l.getD k [], ?_, by simpa using h⟩
  rw [List.dropLast_eq_take]
  refine List.mem_of_getElem? (i := k) ?_
  rw [List.getElem?_take_of_lt hk, getD_some (by omega)]
theorem good_by {l : List Pm.T} (hd : ∀ j, j < l.length - 1 → Pm.nk (l.getD j []) = 1) : Pm.good l = (Pm.nk (l.getLastD []) != 0) := by
  unfold Pm.good
  have : (l.dropLast.all fun x => Pm.nk x == 1) = true := by
    rw [List.all_eq_true]
    intro x hx
    obtain ⟨j, hj, rfl⟩ := List.getElem_of_mem hx
    rw [List.length_dropLast] at hj
    have := hd j hj
    rw [List.getD_eq_getElem?_getD, List.getElem?_eq_getElem (by omega)] at this
    rw [List.getElem_dropLast]
    simpa using this
  rw [this, Bool.true_and]
set_option maxHeartbeats 1000000 in
set_option maxRecDepth 20000 in
theorem kind_any (s : ByteArray) (w : World) (hs : s.size < 4294967281) (hT : Tab w) :
    Calls Tryd.prog 35 #[.string s] w fun e w' => e = .returned (.tuple #[.int .i64 ((Pm.kind (bl s)).1 : Nat), .int .i64 ((Pm.kind (bl s)).2 : Nat)]) ∧ Below w.heap.size w w' := by
  have HT : Hid (Tab w) := hT
  have HK : Is (Pm.kind (bl s)) (if 96 < s.size then (0, 3) else if bl s = [] then (1, 0) else if Pm.good (Pm.names (bl s)) = false then (0, 18) else if 8 < (Pm.names (bl s)).length then (0, 7) else (Pm.nk ((Pm.names (bl s)).getLastD []), 0)) := ⟨by rw [← bl_length s]; rfl⟩
  clear hT
  by_cases h96 : 96 < s.size
  · have h96' : (96 : Int) < (s.size : Int) := by omega
    rw [if_pos h96] at HK
    go_enter Tryd.func35, Tryd.ntmps35
    go_wp2
    go_ret2
    exact ⟨by rw [HK.eq]; rfl, Below.refl _ _⟩
  · have h96' : ¬ (96 : Int) < (s.size : Int) := by omega
    rw [if_neg h96] at HK
    by_cases he : bl s = []
    · rw [if_pos he] at HK
      obtain rfl : s = ⟨#[]⟩ := bl_inj he
      go_enter Tryd.func35, Tryd.ntmps35
      go_wp2
      go_ret2
      exact ⟨by rw [HK.eq]; rfl, Below.refl _ _⟩
    · rw [if_neg he] at HK
      have hte : s.toList.isEmpty = false := te_bl he
      have HNS : Hid (∀ n ∈ Pm.names (bl s), n.length < 4294967281) := fun n hn => by have := name_size s hn; omega
      have hL0 : 0 < (Pm.names (bl s)).length := List.length_pos_iff.2 (Pm.names_ne _)
      have hL1 := names_size s
      have HNE : Hid (Pm.names (bl s) ≠ []) := Pm.names_ne _
      go_enter Tryd.func35, Tryd.ntmps35
      go_wp2_with fail
      refine (split_any s w hs HT.out).mono ?_
      rintro e w1 ⟨rfl, rfl⟩
      generalize Pm.names (bl s) = L at *
      have HX : Hid (TextsAt (w.alloc (.cells (scells L).toArray 9)) w.heap.size 0 L) := textsAt_new w L _
      have HB1 : Hid (Below w.heap.size w (w.alloc (.cells (scells L).toArray 9))) := (Below.refl _ w).alloc (Nat.le_refl _) _
      have hz1 : (w.alloc (.cells (scells L).toArray 9)).heap.size = w.heap.size + 1 := by simp
      generalize w.alloc (.cells (scells L).toArray 9) = w1 at *
      have HT1 : Hid (Tab w1) := HT.out.below HB1.out
      obtain ⟨n, hn⟩ : ∃ n, L.length = n + 1 := ⟨L.length - 1, by omega⟩
      have HLn : Is L.length (n + 1) := ⟨hn⟩
      rw [hn] at hL1
      have HBz : Hid (∀ W : World, Below w1.heap.size w1 W → Below w.heap.size w W) := fun W hW => HB1.out.trans (hW.mono (by omega))
      have HNK : Hid (∀ k, k < n + 1 → ∀ W : World, Tab W → Calls Tryd.prog 57 #[.string (mk (L.getD k []))] W fun e w' => e = .returned (.int .i64 (Pm.nk (L.getD k []) : Nat)) ∧ Below W.heap.size W w') := fun k hk W hW => nameKind_any (mk (L.getD k [])) W (HNS.out _ (getD_mem (by rw [HLn.eq]; exact hk))) hW
      have HCL : Hid (∀ k, k < n + 1 → ∀ W : World, Below w1.heap.size w1 W → W.cell? ⟨w.heap.size, k, none⟩ = some (.string (mk (L.getD k [])))) := fun k hk W hW => by
        have h := (HX.out.below hW (by omega)) k _ (getD_some (by rw [HLn.eq]; exact hk))
        rwa [Nat.zero_add] at h
      clear hL0 hz1
      go_wp2_with fail
      go_loopw [7, 25] (fun _ i wr => ∃ k : Nat, k ≤ n ∧ i = .int .i64 k ∧ (∀ j, j < k → Pm.nk (L.getD j []) = 1) ∧ Below w1.heap.size w1 wr) (fun _ i _ => n - (intOf i).toNat)
      case atStart => exact ⟨0, by omega, rfl, fun j hj => by omega, Below.refl _ _⟩
      case round =>
        obtain ⟨k, hk, rfl, hd, hB⟩ := hrel
        have HB : Hid (Below w1.heap.size w1 wr) := hB
        have HD : Hid (∀ j, j < k → Pm.nk (L.getD j []) = 1) := hd
        have HTr : Hid (Tab wr) := HT1.out.below hB
        clear hd
        by_cases hlt : k < n
        · have i0 : (k : Int) < (n : Int) := by omega
          have j0 : (0 : Int) ≤ (k : Int) := Int.natCast_nonneg _
          have c0 := HCL.out k (by omega) wr hB
          have CN := HNK.out k (by omega) wr HTr.out
          have hsz := hB.size
          clear hB
          by_cases h1 : Pm.nk (L.getD k []) = 1
          · have HD' : Hid (∀ j, j < k + 1 → Pm.nk (L.getD j []) = 1) := fun j hj => by
              by_cases h : j = k
              · subst h; exact h1
              · exact HD.out j (by omega)
            rw [h1] at CN
            clear h1
            generalize mk (L.getD k []) = x at *
            go_wp2_with (first | (go_at_call 57; refine CN.mono ?_; rintro e w2 ⟨rfl, hB2⟩))
            go_roundw
            case rel => exact ⟨k + 1, by omega, by go_num, HD'.out, HB.out.trans (hB2.mono hsz)⟩
            case measure => (simp [intOf]) <;> omega
          · have hG : Pm.good L = false := good_no (by rw [HLn.eq]; omega) h1
            rw [if_pos hG] at HK
            clear hG
            have h1' : ¬ ((Pm.nk (L.getD k []) : Nat) : Int) = 1 := by omega
            clear h1
            generalize Pm.nk (L.getD k []) = kk at *
            generalize mk (L.getD k []) = x at *
            go_wp2_with (first | (go_at_call 57; refine CN.mono ?_; rintro e w2 ⟨rfl, hB2⟩))
            go_ret2
            exact ⟨by rw [HK.eq]; rfl, HBz.out _ (HB.out.trans (hB2.mono hsz))⟩
        · obtain rfl : k = n := by omega
          have i0 : ¬ (k : Int) < (k : Int) := by omega
          have j0 : (0 : Int) ≤ (k : Int) := Int.natCast_nonneg _
          have i1 : (k : Int) < (k : Int) + 1 := by omega
          have c0 := HCL.out k (by omega) wr hB
          have CN := HNK.out k (by omega) wr HTr.out
          have hsz := hB.size
          have HG : Is (Pm.good L) (Pm.nk (L.getD k []) != 0) := ⟨by
            rw [good_by (fun j hj => HD.out j (by rw [HLn.eq] at hj; omega)), getLastD_at, HLn.eq, Nat.add_sub_cancel]⟩
          have HGL : Is (L.getLastD []) (L.getD k []) := ⟨by rw [getLastD_at, HLn.eq, Nat.add_sub_cancel]⟩
          rw [HG.eq, HGL.eq, HLn.eq] at HK
          clear hB hn HG HGL
          generalize Pm.nk (L.getD k []) = kk at *
          generalize mk (L.getD k []) = x at *
          by_cases h0 : kk = 0
          · subst h0
            rw [if_pos (by rfl)] at HK
            go_wp2_with (first | (go_at_call 57; refine CN.mono ?_; rintro e w2 ⟨rfl, hB2⟩))
            go_ret2
            exact ⟨by rw [HK.eq]; rfl, HBz.out _ (HB.out.trans (hB2.mono hsz))⟩
          · have h0' : ¬ ((kk : Nat) : Int) = 0 := by omega
            rw [if_neg (by simp [h0])] at HK
            by_cases h8 : 8 < k + 1
            · have h8' : (8 : Int) < (k : Int) + 1 := by omega
              rw [if_pos h8] at HK
              go_wp2_with (first | (go_at_call 57; refine CN.mono ?_; rintro e w2 ⟨rfl, hB2⟩))
              go_ret2
              exact ⟨by rw [HK.eq]; rfl, HBz.out _ (HB.out.trans (hB2.mono hsz))⟩
            · have h8' : ¬ (8 : Int) < (k : Int) + 1 := by omega
              rw [if_neg h8] at HK
              go_wp2_with (first | (go_at_call 57; refine CN.mono ?_; rintro e w2 ⟨rfl, hB2⟩))
              go_ret2
              exact ⟨by rw [HK.eq]; rfl, HBz.out _ (HB.out.trans (hB2.mono hsz))⟩
end Go.Proofs.YtealbeblkilibaaDoor
/- Proved: checked and isPath, the order of two texts, and the law's own cut. -/
namespace Go.Proofs.YtealbeblkilibaaDoor
open Go.RowKit
theorem below_drewN {B : Nat} {w W : World} (h : Below B w W) (n : Nat) : Below B w (W.drewN n) := ⟨h.os, h.tape, h.output, h.size, h.block⟩
theorem kind_lt (p : Pm.T) : (Pm.kind p).2 < 4294967296 := by
  unfold Pm.kind
  (repeat' split) <;> simp
set_option maxHeartbeats 1000000 in
set_option maxRecDepth 20000 in
theorem checked_any (s : ByteArray) (w : World) (hs : s.size < 4294967281) (hT : Tab w) :
    Calls Tryd.prog 63 #[.string s] w fun e w' => e = .returned (.tuple #[.string (mk (Pm.checked (bl s)).1), .int .i64 ((Pm.checked (bl s)).2 : Nat)]) ∧ Below w.heap.size w w' := by
  have HC : Is (Pm.checked (bl s)) (if (Pm.kind (bl s)).2 = 0 then (bl s, 0) else ([], (Pm.kind (bl s)).2)) := ⟨rfl⟩
  have HKN : Hid (∀ W : World, Tab W → Calls Tryd.prog 35 #[.string s] W fun e w' => e = .returned (.tuple #[.int .i64 ((Pm.kind (bl s)).1 : Nat), .int .i64 ((Pm.kind (bl s)).2 : Nat)]) ∧ Below W.heap.size W w') := fun W hW => kind_any s W hs hW
  have HT : Hid (Tab w) := hT
  clear hT
  generalize (Pm.kind (bl s)).1 = k1 at *
  generalize (Pm.kind (bl s)).2 = k2 at *
  go_enter Tryd.func63, Tryd.ntmps63
  by_cases h0 : k2 = 0
  · subst h0
    rw [if_pos rfl] at HC
    go_wp2_with (first | (go_at_call 35; refine (HKN.out _ HT.out).mono ?_; rintro e w1 ⟨rfl, hB1⟩))
    go_ret2
    exact ⟨by rw [HC.eq]; rfl, hB1⟩
  · rw [if_neg h0] at HC
    have h0' : ¬ ((k2 : Nat) : Int) = 0 := by omega
    go_wp2_with (first | (go_at_call 35; refine (HKN.out _ HT.out).mono ?_; rintro e w1 ⟨rfl, hB1⟩))
    go_ret2
    exact ⟨by rw [HC.eq]; rfl, hB1⟩
set_option maxHeartbeats 1000000 in
set_option maxRecDepth 20000 in
theorem isPath_any (s : ByteArray) (w : World) (hs : s.size < 4294967281) (hT : Tab w) :
    Calls Tryd.prog 58 #[.string s] w fun e w' => e = .returned (.bool (Pm.isP (bl s))) ∧ Below w.heap.size w w' := by
  have HC : Is (Pm.isP (bl s)) ((Pm.kind (bl s)).2 == 0) := ⟨rfl⟩
  have HKN : Hid (∀ W : World, Tab W → Calls Tryd.prog 35 #[.string s] W fun e w' => e = .returned (.tuple #[.int .i64 ((Pm.kind (bl s)).1 : Nat), .int .i64 ((Pm.kind (bl s)).2 : Nat)]) ∧ Below W.heap.size W w') := fun W hW => kind_any s W hs hW
  have HT : Hid (Tab w) := hT
  clear hT
  generalize (Pm.kind (bl s)).1 = k1 at *
  generalize (Pm.kind (bl s)).2 = k2 at *
  go_enter Tryd.func58, Tryd.ntmps58
  by_cases h0 : k2 = 0
  · subst h0
    go_wp2_with (first | (go_at_call 35; refine (HKN.out _ HT.out).mono ?_; rintro e w1 ⟨rfl, hB1⟩))
    go_ret
    exact ⟨by rw [HC.eq]; rfl, hB1⟩
  · have h0' : ¬ ((k2 : Nat) : Int) = 0 := by omega
    have h0'' : (((k2 : Nat) : Int) == 0) = false := by simpa using h0
    go_wp2_with (first | (go_at_call 35; refine (HKN.out _ HT.out).mono ?_; rintro e w1 ⟨rfl, hB1⟩))
    go_ret
    exact ⟨by rw [HC.eq, show (k2 == 0) = false by simpa using h0]; rfl, hB1⟩
theorem cmp_step {a b : Pm.T} {k : Nat} {x : UInt8} (ha : a[k]? = some x) (hb : b[k]? = some x) : Pm.cmp (a.drop k) (b.drop k) = Pm.cmp (a.drop (k + 1)) (b.drop (k + 1)) := by
  obtain ⟨h1, e1⟩ := List.getElem?_eq_some_iff.1 ha
  obtain ⟨h2, e2⟩ := List.getElem?_eq_some_iff.1 hb
  rw [List.drop_eq_getElem_cons h1, List.drop_eq_getElem_cons h2, e1, e2, Pm.cmp, if_pos rfl]
theorem cmp_stop {a b : Pm.T} {k : Nat} {x y : UInt8} (ha : a[k]? = some x) (hb : b[k]? = some y) (h : x ≠ y) : Pm.cmp (a.drop k) (b.drop k) = Lib.compareInt (Pm.rank x) (Pm.rank y) := by
  obtain ⟨h1, e1⟩ := List.getElem?_eq_some_iff.1 ha
  obtain ⟨h2, e2⟩ := List.getElem?_eq_some_iff.1 hb
  rw [List.drop_eq_getElem_cons h1, List.drop_eq_getElem_cons h2, e1, e2, Pm.cmp, if_neg h]
theorem cmp_end {a b : Pm.T} {k : Nat} (h : k = a.length ∨ k = b.length) (ha : k ≤ a.length) (hb : k ≤ b.length) : Pm.cmp (a.drop k) (b.drop k) = Lib.compareInt (a.length : Int) (b.length : Int) := by
  unfold Lib.compareInt
  by_cases h1 : a.length = k
  · rw [List.drop_of_length_le (by omega)]
    by_cases h2 : b.length = k
    · rw [List.drop_of_length_le (by omega), if_neg (by omega), if_neg (by omega)]; rfl
    · rw [List.drop_eq_getElem_cons (show k < b.length by omega), if_pos (by omega)]; rfl
  · rw [List.drop_eq_getElem_cons (show k < a.length by omega), List.drop_of_length_le (show b.length ≤ k by omega), if_neg (by omega), if_pos (by omega)]; rfl
end Go.Proofs.YtealbeblkilibaaDoor
/- Proved: how a list of texts of a call's own is lengthened and shortened. -/
namespace Go.Proofs.YtealbeblkilibaaDoor
open Go.RowKit
theorem bl_append (a b : ByteArray) : bl (a ++ b) = bl a ++ bl b := by
  rw [bl, ByteArray.data_append, Array.toList_append]
theorem info9 : Tryd.prog.info? 9 = some Tryd.t9 := by kernel_rfl
structure Grew (w : World) (v : Value) (w' : World) (v' : Value) : Prop where
  by_ : w.grownBy w' v.ownBlock
  row : v'.ownBlock = v.ownBlock ∨ ∃ g, v'.ownBlock = some g ∧ w.heap.size ≤ g
theorem Grew.below {w w' : World} {v v' : Value} {N n : Nat} {vs : List Value} {e : TypeId} {k : Nat} (h : Grew w v w' v') (hown : w.ownsRow N e k v n vs) (hN : N ≤ w.heap.size) : Below N w w' := by
  refine (Below.refl _ _).grown h.by_ hN (fun k hk => ?_)
  rcases hown.2 with ⟨hv, _⟩ | ⟨g, cap', cur, hv, hNg, _⟩
  · subst hv; cases hk
  · subst hv
    have : g = k := Option.some.inj hk
    omega
theorem own_row {w : World} {N n : Nat} {v : Value} {vs : List Value} {e : TypeId} {k : Nat} (h : w.ownsRow N e k v n vs) {g : Nat} (hg : v.ownBlock = some g) : N ≤ g ∧ g < w.heap.size := by
  rcases h.2 with ⟨hv, _⟩ | ⟨g', cap', cur, hv, hNg, hh, _⟩
  · subst hv; cases hg
  · subst hv
    have : g' = g := Option.some.inj hg
    subst this
    exact ⟨hNg, (Array.getElem?_eq_some_iff.1 hh).1⟩
theorem str_new (w : World) (s : ByteArray) : ∀ j u, [Value.string s][j]? = some u → (w.alloc (.cells #[.string s] 9)).cell? ((⟨w.heap.size, 0, none⟩ : Addr).add j) = some u := fun j u hj => by
  rw [Go.WideShapes.add_plain, cell_of_row _ _ (0 + j) _ 9 (0, 0) (heap_alloc_new w _), Nat.zero_add]
  show [Value.string s].toArray[j]? = some u
  rw [List.getElem?_toArray]; exact hj
theorem own_below {w w' : World} {N n : Nat} {v : Value} {vs : List Value} {e : TypeId} {k : Nat} (h : w.ownsRow N e k v n vs) (hb : Below w.heap.size w w') : w'.ownsRow N e k v n vs := by
  obtain ⟨h0, h1⟩ := h
  refine ⟨h0, ?_⟩
  rcases h1 with h1 | ⟨g, cap', cur, hv, hN, hh, r⟩
  · exact .inl h1
  · exact .inr ⟨g, cap', cur, hv, hN, (hb.block g (Array.getElem?_eq_some_iff.1 hh).1).trans hh, r⟩
theorem own_alloc1 {w : World} {N n : Nat} {v : Value} {vs : List Value} {e : TypeId} {k : Nat} (h : w.ownsRow N e k v n vs) (o : Obj) : (w.alloc o).ownsRow N e k v n vs := own_below h ((Below.refl _ w).alloc (Nat.le_refl _) o)
theorem owns_base {w : World} {N M n : Nat} {v : Value} {vs : List Value} {e : TypeId} {k : Nat} (h : w.ownsRow M e k v n vs) (hN : N ≤ M) : w.ownsRow N e k v n vs := by
  obtain ⟨h0, h1⟩ := h
  refine ⟨h0, ?_⟩
  rcases h1 with h1 | ⟨g, cap', cur, hv, hM, r⟩
  · exact .inl h1
  · exact .inr ⟨g, cap', cur, hv, Nat.le_trans hN hM, r⟩
/- one text behind a list of the call's own -/
theorem append_str {ops : Array Oper} {rest : List Oper} {o : Oper} {a : Act} {Q : Exit → Act → World → Prop} (hgd : o.guard = none) (s x : Operand)
    (ho : o.op = .call { callee := .builtin .append, args := #[s, x], argTypes := #[72, 72] }) (W : World) (N : Nat) (v : Value) (n : Nat) (vs : List Value) (hs : a.eval s = v) (hown : W.ownsRow N 9 1 v n vs)
    (ad : Addr) (c : Nat) (t : ByteArray) (hx : a.eval x = .slice (some ad) 1 c) (hnews : ∀ j u, [Value.string t][j]? = some u → W.cell? (ad.add j) = some u) (hb : n + 1 ≤ 50000) (hN : N ≤ W.heap.size)
    (h : ∀ v' w', w'.ownsRow N 9 1 v' (n + 1) (vs ++ [.string t]) → Grew W v w' v' → wpList Tryd.prog ops Q rest (a.put o.dst v') w') : wpList Tryd.prog ops Q (o :: rest) a W := by
  obtain ⟨v', w', hr, h2, h3, h4, h5⟩ := run_append_own_at (P := Tryd.prog) W N 72 o.type 9 Tryd.t9 (.string ByteArray.empty) 1 16 Tryd.underlying72 info9 rfl rfl rfl rfl (by omega) v n vs hown ad 1 c [.string t] rfl hnews (fun u hu => by rw [List.mem_singleton.1 hu]; rfl) (by unfold maxLen; omega) (by omega) hN
  refine wpList_plain hgd fun K hK => ?_
  unfold Oper.wp execOp
  simp only [ho, resolve, invoke, builtin, Sem.run_bind, Sem.run_pure, Result.andThen_ok, List.map_toArray, List.map_cons, List.map_nil, hs, hx, hr]
  exact hK _ _ (h v' w' h2 ⟨h3, h5.imp id (fun h => ⟨_, h, Nat.le_refl _⟩)⟩)
/- what a list of texts of the call's own is -/
theorem own_shape {w : World} {N : Nat} {v : Value} {l : List Pm.T} (h : w.ownsRow N 9 1 v l.length (scells l)) : (v = .slice none 0 0 ∧ l = []) ∨ ∃ g cap, v = .slice (some ⟨g, 0, none⟩) l.length cap ∧ N ≤ g ∧ g < w.heap.size ∧ l.length ≤ cap ∧ cap ≤ 9223372036854775807 ∧ TextsAt w g 0 l := by
  rcases h.2 with ⟨h1, h2⟩ | ⟨g, cap, cur, hv, hN, hh, hc, hm, hs, ht⟩
  · exact .inl ⟨h1, List.eq_nil_of_length_eq_zero h2⟩
  · unfold maxLen at hm
    refine .inr ⟨g, cap, hv, hN, (Array.getElem?_eq_some_iff.1 hh).1, hc, by omega, fun j x hj => ?_⟩
    have hjl : j < l.length := (List.getElem?_eq_some_iff.1 hj).1
    rw [cell_of_row w g (0 + j) cur 9 (0, 0) hh, Nat.zero_add, ← Array.getElem?_toList]
    have e : (cur.toList.take (l.length * 1))[j]? = (scells l)[j]? := by rw [ht]
    rw [List.getElem?_take_of_lt (by omega)] at e
    rw [e, scells, List.getElem?_map, hj]; rfl
/- .. without its last one -/
theorem own_short {w : World} {N : Nat} {g cap : Nat} {l : List Pm.T} (h : w.ownsRow N 9 1 (.slice (some ⟨g, 0, none⟩) l.length cap) l.length (scells l)) : w.ownsRow N 9 1 (.slice (some ⟨g, 0, none⟩) (l.length - 1) cap) l.dropLast.length (scells l.dropLast) := by
  refine ⟨by simp [scells], ?_⟩
  rcases h.2 with ⟨h1, _⟩ | ⟨g', cap', cur, hv, hN, hh, hc, hm, hs, ht⟩
  · cases h1
  · cases hv
    refine .inr ⟨g, cap, cur, by rw [List.length_dropLast], hN, hh, by rw [List.length_dropLast]; omega, hm, hs, ?_⟩
    have e : cur.toList.take (l.dropLast.length * 1) = (cur.toList.take (l.length * 1)).take (l.dropLast.length * 1) := by rw [List.take_take, Nat.min_eq_left (by rw [List.length_dropLast]; omega)]
    rw [e, ht, scells, scells, List.dropLast_eq_take, List.length_take, ← List.map_take]
    congr 1
    rw [Nat.mul_one, Nat.min_eq_left (by omega)]
theorem join_short : ∀ (l : List Pm.T) (m : Nat), (∀ n ∈ l, n.length ≤ m) → (Pm.join l).length ≤ l.length * (m + 1)
  | [], _, _ => by simp [Pm.join]
  | [n], m, h => by have := h n (List.mem_cons_self ..); simp [Pm.join]; omega
  | n :: k :: r, m, h => by
    have h1 := h n (List.mem_cons_self ..)
    have h2 := join_short (k :: r) m fun x hx => h x (List.mem_cons_of_mem _ hx)
    rw [Pm.join, List.length_append, List.length_cons, List.length_cons (a := n), Nat.succ_mul]
    omega
end Go.Proofs.YtealbeblkilibaaDoor
/- Proved: Parent, Name and Split answer a path's directory, last name and names. -/
namespace Go.Proofs.YtealbeblkilibaaDoor
open Go.RowKit
theorem wrapN (k : Nat) (h : k ≤ 9223372036854775807) : IntKind.i64.wrap (k : Int) = (k : Int) := by rw [IntKind.wrap_i64]; omega
theorem last_root : Pm.last [] = [] := by decide
theorem last_no {p : Pm.T} (h : Pm.isP p = false) : Pm.last p = [] := by rw [Pm.last, if_neg (by rw [h]; decide)]
theorem extract_nil (s : ByteArray) : s.extract 0 0 = ⟨#[]⟩ := bl_inj (by rw [bl, Lib.extract_from_zero, List.take_zero])
theorem extract_head {s : ByteArray} {a b : Pm.T} (e : bl s = a ++ b) : s.extract 0 a.length = mk a := bl_inj (by rw [bl, Lib.extract_from_zero]; show (bl s).take _ = a; rw [e]; simp)
theorem extract_tail {s : ByteArray} {a b : Pm.T} {k : Nat} (e : bl s = a ++ b) (hk : k = a.length) : s.extract k s.size = mk b := bl_inj (by subst hk; rw [bl, Lib.extract_to_end]; show (bl s).drop _ = b; rw [e]; simp)
theorem extract_all (s : ByteArray) : s.extract 0 s.size = s := bl_inj (by rw [bl, Lib.extract_to_end]; rfl)
theorem owns_new (w : World) (N : Nat) (l : List Pm.T) (hl : l.length ≤ 9223372036854775807) (hN : N ≤ w.heap.size) : (w.alloc (.cells (scells l).toArray 9)).ownsRow N 9 1 (.slice (some ⟨w.heap.size, 0, none⟩) l.length l.length) l.length (scells l) :=
  ⟨by simp [scells], .inr ⟨w.heap.size, l.length, _, rfl, hN, heap_alloc_new w _, Nat.le_refl _, by unfold maxLen; omega, by simp [scells], by rw [List.take_of_length_le (by simp [scells])]⟩⟩
set_option maxHeartbeats 2000000 in
set_option maxRecDepth 20000 in
theorem psplit_any (s : ByteArray) (w : World) (hs : s.size < 4294967281) (hT : Tab w) :
    Calls Tryd.prog 36 #[.string s] w fun e w' => ∃ v, e = .returned v ∧ w'.ownsRow w.heap.size 9 1 v (Pm.split (bl s)).length (scells (Pm.split (bl s))) ∧ Below w.heap.size w w' := by
  have HT : Hid (Tab w) := hT
  clear hT
  rcases Pm.cases_isP (bl s) with h0 | hn | hp
  · obtain rfl : s = ⟨#[]⟩ := bl_inj h0
    go_enter Tryd.func36, Tryd.ntmps36
    go_wp2
    go_ret
    exact ⟨_, rfl, ⟨rfl, .inl ⟨rfl, rfl⟩⟩, Below.refl _ _⟩
  · have HI : Hid (Calls Tryd.prog 58 #[.string s] w fun e w' => e = .returned (.bool false) ∧ Below w.heap.size w w') := by
      have h := isPath_any s w hs HT.out
      rw [hn] at h; exact h
    have HP : Is (Pm.split (bl s)) [] := ⟨Pm.split_no hn⟩
    have hte : s.toList.isEmpty = false := te_bl (fun e => by rw [e, Pm.isP_root] at hn; cases hn)
    clear hn
    go_enter Tryd.func36, Tryd.ntmps36
    go_wp2_with (first | (go_at_call 58; refine (show Calls _ _ _ _ _ from HI.out).mono ?_; rintro e w1 ⟨rfl, hB1⟩))
    go_ret
    rw [HP.eq]
    exact ⟨_, rfl, ⟨rfl, .inl ⟨rfl, rfl⟩⟩, hB1⟩
  · have HI : Hid (Calls Tryd.prog 58 #[.string s] w fun e w' => e = .returned (.bool true) ∧ Below w.heap.size w w') := by
      have h := isPath_any s w hs HT.out
      rw [(Pm.isP_iff _).2 (.inr hp)] at h; exact h
    have hte : s.toList.isEmpty = false := te_bl hp.ne
    have HP : Is (Pm.split (bl s)) (Pm.names (bl s)) := ⟨Pm.split_path hp⟩
    have HSP : Hid (∀ W : World, Tab W → Calls Tryd.prog 56 #[.string s, .string ⟨#[47]⟩] W fun e w' => e = .returned (.slice (some ⟨W.heap.size, 0, none⟩) (Pm.names (bl s)).length (Pm.names (bl s)).length) ∧ w' = W.alloc (.cells (scells (Pm.names (bl s))).toArray 9)) := fun W hW => split_any s W hs hW
    have hln := names_size s
    clear hp
    go_enter Tryd.func36, Tryd.ntmps36
    go_wp2_with fail
    refine (show Calls _ _ _ _ _ from HI.out).mono ?_
    rintro e w1 ⟨rfl, hB1⟩
    have HB1 : Hid (Below w.heap.size w w1) := hB1
    have HT1 : Hid (Tab w1) := HT.out.below hB1
    have hz1 := hB1.size
    clear hB1
    go_wp2_with fail
    refine (HSP.out _ HT1.out).mono ?_
    rintro e w2 ⟨rfl, rfl⟩
    go_wp2_with fail
    go_ret
    rw [HP.eq]
    exact ⟨_, rfl, owns_new w1 _ _ (by omega) hz1, HB1.out.trans (((Below.refl _ w1).alloc (Nat.le_refl _) _).mono hz1)⟩
end Go.Proofs.YtealbeblkilibaaDoor
/- Proved: Join answers the path of what has a name in a directory, or refuses. -/
namespace Go.Proofs.YtealbeblkilibaaDoor
open Go.RowKit
set_option maxHeartbeats 1000000 in
set_option maxRecDepth 20000 in
theorem chain_any (p n : ByteArray) (w : World) (hp : p.size ≤ 4294967296) (hn : n.size ≤ 4294967296) :
    Calls Tryd.prog 64 #[.string p, .string n] w fun e w' => e = .returned (.string (mk (Pm.chain (bl p) (bl n)))) ∧ w' = w := by
  have A1 : ∀ W : World, (Op.stringOp .add p n).run Tryd.prog W = .ok (.string (p ++ n)) W := fun W => run_string_add_sum W _ _ (by omega)
  have A2 : ∀ W : World, (Op.stringOp .add p ⟨#[47]⟩).run Tryd.prog W = .ok (.string (p ++ ⟨#[47]⟩)) W := fun W => run_string_add_sum W _ _ (by show _ + 1 ≤ _; omega)
  have A3 : ∀ W : World, (Op.stringOp .add (p ++ ⟨#[47]⟩) n).run Tryd.prog W = .ok (.string (p ++ ⟨#[47]⟩ ++ n)) W := fun W => run_string_add_sum W _ _ (by rw [ByteArray.size_append]; show _ + 1 + _ ≤ _; omega)
  by_cases h : bl p = [] ∨ bl n = []
  · have HC : Is (mk (Pm.chain (bl p) (bl n))) (p ++ n) := ⟨bl_inj (by rw [bl_mk, bl_append, Pm.chain, if_pos h])⟩
    rcases h with h | h
    · have e1 : p.toList.isEmpty = true := by rw [ByteArray.toList_eq]; show (bl p).isEmpty = true; rw [h]; rfl
      clear h
      go_enter Tryd.func64, Tryd.ntmps64
      go_wp2
      go_ret
      exact ⟨by rw [HC.eq]; rfl, rfl⟩
    · have e1 : n.toList.isEmpty = true := by rw [ByteArray.toList_eq]; show (bl n).isEmpty = true; rw [h]; rfl
      clear h
      cases e0 : p.toList.isEmpty with
      | true =>
        go_enter Tryd.func64, Tryd.ntmps64
        go_wp2
        go_ret
        exact ⟨by rw [HC.eq]; rfl, rfl⟩
      | false =>
        go_enter Tryd.func64, Tryd.ntmps64
        go_wp2
        go_ret
        exact ⟨by rw [HC.eq]; rfl, rfl⟩
  · have HC : Is (mk (Pm.chain (bl p) (bl n))) (p ++ ⟨#[47]⟩ ++ n) := ⟨bl_inj (by rw [bl_mk, bl_append, bl_append, Pm.chain, if_neg h]; show _ = bl p ++ [47] ++ bl n; simp)⟩
    have e0 : p.toList.isEmpty = false := te_bl fun e => h (.inl e)
    have e1 : n.toList.isEmpty = false := te_bl fun e => h (.inr e)
    clear h
    go_enter Tryd.func64, Tryd.ntmps64
    go_wp2
    go_ret
    exact ⟨by rw [HC.eq]; rfl, rfl⟩
theorem chain_length (a b : Pm.T) : (Pm.chain a b).length ≤ a.length + b.length + 1 := by
  unfold Pm.chain
  split <;> simp <;> omega
theorem idx_mem (l : Pm.T) : decide (0 ≤ Lib.indexByte l 47) = decide (47 ∈ l) := by
  rcases Pm.indexByte_one l 47 with ⟨e, h⟩ | ⟨a, b, e, rfl, _⟩
  · rw [e, decide_eq_false h]; rfl
  · rw [e]; exact (decide_eq_true (by omega)).trans (decide_eq_true (by simp)).symm
set_option maxHeartbeats 2000000 in
set_option maxRecDepth 20000 in
theorem joined_any (d n : ByteArray) (w : World) (hd : d.size ≤ 4000) (hn : n.size ≤ 4000) (hT : Tab w) :
    Calls Tryd.prog 40 #[.string d, .string n] w fun e w' => e = .returned (.tuple #[.string (mk (Pm.joined (bl d) (bl n)).1), .int .i64 ((Pm.joined (bl d) (bl n)).2 : Nat)]) ∧ Below w.heap.size w w' := by
  have HM : Is (Pm.joined (bl d) (bl n)) (if (Pm.kind (bl d)).2 ≠ 0 then ([], (Pm.kind (bl d)).2) else if (Pm.kind (bl d)).1 = 2 then ([], 13) else if bl n = [] ∨ 47 ∈ bl n then ([], 18) else Pm.checked (Pm.chain (bl d) (bl n))) := ⟨rfl⟩
  have KD : Hid (∀ W : World, Tab W → Calls Tryd.prog 35 #[.string d] W fun e w' => e = .returned (.tuple #[.int .i64 ((Pm.kind (bl d)).1 : Nat), .int .i64 ((Pm.kind (bl d)).2 : Nat)]) ∧ Below W.heap.size W w') := fun W hW => kind_any d W (by omega) hW
  have CN : Hid (∀ W : World, Calls Tryd.prog 62 #[.string n, .string ⟨#[47]⟩] W fun e w' => e = .returned (.bool (decide (47 ∈ bl n))) ∧ w' = W) := fun W => by
    have h := Tryd.strings_Contains_one n 47 W
    rw [show decide (0 ≤ Lib.indexByte n.data.toList 47) = _ from idx_mem (bl n)] at h; exact h
  have CH : Hid (∀ W : World, Calls Tryd.prog 64 #[.string d, .string n] W fun e w' => e = .returned (.string (mk (Pm.chain (bl d) (bl n)))) ∧ w' = W) := fun W => chain_any d n W (by omega) (by omega)
  have hcl := chain_length (bl d) (bl n)
  have hdl := bl_length d
  have hnl := bl_length n
  have CK : Hid (∀ W : World, Tab W → Calls Tryd.prog 63 #[.string (mk (Pm.chain (bl d) (bl n)))] W fun e w' => e = .returned (.tuple #[.string (mk (Pm.checked (Pm.chain (bl d) (bl n))).1), .int .i64 ((Pm.checked (Pm.chain (bl d) (bl n))).2 : Nat)]) ∧ Below W.heap.size W w') := fun W hW => checked_any (mk (Pm.chain (bl d) (bl n))) W (by rw [mk_size]; omega) hW
  have EN : Is n.toList.isEmpty (decide (bl n = [])) := ⟨by rw [ByteArray.toList_eq]; show (bl n).isEmpty = _; cases bl n <;> simp⟩
  have HB0 : Hid (Below w.heap.size w w) := Below.refl _ _
  have HT0 : Hid (Tab w) := hT
  have hz0 : w.heap.size ≤ w.heap.size := Nat.le_refl _
  clear hT hcl hdl hnl
  go_enter Tryd.func40, Tryd.ntmps40
  by_cases h0 : (Pm.kind (bl d)).2 = 0
  · rw [h0] at KD
    rw [if_neg (fun h => h h0)] at HM
    clear h0
    by_cases h2 : (Pm.kind (bl d)).1 = 2
    · rw [h2] at KD
      rw [if_pos h2] at HM
      clear h2
      go_wp2_with fail
      refine (KD.out _ HT0.out).mono ?_
      rintro e w1 ⟨rfl, hB1⟩
      have HB1 : Hid (Below w.heap.size w w1) := HB0.out.trans (hB1.mono hz0)
      have HT1 : Hid (Tab w1) := HT0.out.below hB1
      have hz1 := HB1.out.size
      clear hB1
      go_wp2_with fail
      go_ret2
      exact ⟨by rw [HM.eq]; rfl, HB1.out⟩
    · rw [if_neg h2] at HM
      have k1 : ¬ (((Pm.kind (bl d)).1 : Nat) : Int) = 2 := by omega
      have k2 : ((((Pm.kind (bl d)).1 : Nat) : Int) == 2) = false := by simp only [beq_eq_false_iff_ne, ne_eq]; exact k1
      clear h2
      generalize (Pm.kind (bl d)).1 = kk at *
      go_wp2_with fail
      refine (KD.out _ HT0.out).mono ?_
      rintro e w1 ⟨rfl, hB1⟩
      have HB1 : Hid (Below w.heap.size w w1) := HB0.out.trans (hB1.mono hz0)
      have HT1 : Hid (Tab w1) := HT0.out.below hB1
      have hz1 := HB1.out.size
      clear hB1
      by_cases hn0 : bl n = []
      · have en : n.toList.isEmpty = true := by rw [EN.eq, decide_eq_true hn0]
        rw [if_pos (.inl hn0)] at HM
        clear hn0 EN
        go_wp2_with fail
        go_ret2
        exact ⟨by rw [HM.eq]; rfl, HB1.out⟩
      · have en : n.toList.isEmpty = false := by rw [EN.eq, decide_eq_false hn0]
        by_cases hns : 47 ∈ bl n
        · rw [if_pos (.inr hns)] at HM
          rw [decide_eq_true hns] at CN
          clear hn0 EN hns
          go_wp2_with fail
          refine (CN.out _).mono ?_
          rintro e wS ⟨rfl, hwS⟩
          rw [hwS]
          clear hwS wS
          go_wp2_with fail
          go_ret2
          exact ⟨by rw [HM.eq]; rfl, HB1.out⟩
        · rw [if_neg (fun h => h.elim hn0 hns)] at HM
          rw [decide_eq_false hns] at CN
          clear hn0 EN hns
          generalize Pm.checked (Pm.chain (bl d) (bl n)) = C at *
          generalize mk (Pm.chain (bl d) (bl n)) = X at *
          go_wp2_with fail
          refine (CN.out _).mono ?_
          rintro e wS ⟨rfl, hwS⟩
          rw [hwS]
          clear hwS wS
          go_wp2_with fail
          refine (CH.out _).mono ?_
          rintro e wS ⟨rfl, hwS⟩
          rw [hwS]
          clear hwS wS
          go_wp2_with fail
          refine (CK.out _ HT1.out).mono ?_
          rintro e w2 ⟨rfl, hB2⟩
          have HB2 : Hid (Below w.heap.size w w2) := HB1.out.trans (hB2.mono hz1)
          have HT2 : Hid (Tab w2) := HT1.out.below hB2
          have hz2 := HB2.out.size
          clear hB2
          go_wp2_with fail
          go_ret2
          exact ⟨by rw [HM.eq]; rfl, HB2.out⟩
  · rw [if_pos h0] at HM
    have k1 : ¬ (((Pm.kind (bl d)).2 : Nat) : Int) = 0 := by omega
    have k2 : ((((Pm.kind (bl d)).2 : Nat) : Int) == 0) = false := by simp only [beq_eq_false_iff_ne, ne_eq]; exact k1
    clear h0
    generalize (Pm.kind (bl d)).1 = kk at *
    generalize (Pm.kind (bl d)).2 = ke at *
    go_wp2_with fail
    refine (KD.out _ HT0.out).mono ?_
    rintro e w1 ⟨rfl, hB1⟩
    have HB1 : Hid (Below w.heap.size w w1) := HB0.out.trans (hB1.mono hz0)
    have HT1 : Hid (Tab w1) := HT0.out.below hB1
    have hz1 := HB1.out.size
    clear hB1
    go_wp2_with fail
    go_ret2
    exact ⟨by rw [HM.eq]; rfl, HB1.out⟩
end Go.Proofs.YtealbeblkilibaaDoor
/- Proved: parts of keys in memory; a part appended to a slice of the call's own; keycode.Text. -/
namespace Go.Proofs.YtealbeblkilibaaDoor
open Go.RowKit
open Ino (Pt)
def pcells (x : Pt) : List Value := [.int .i64 x.kind, .int .i64 x.n, .string x.s]
abbrev pv (x : Pt) : Value := .agg #[.int .i64 x.kind, .int .i64 x.n, .string x.s]
theorem info24 : Tryd.prog.info? 24 = some Tryd.t24 := by kernel_rfl
theorem size24 : (Tryd.prog.info? 24).map (·.size) = some 3 := by kernel_rfl
theorem pcells_one (ps : List Pt) : ∀ v ∈ ps.flatMap pcells, v.oneCell' = true := fun v hv => by
  obtain ⟨x, _, hx⟩ := List.mem_flatMap.1 hv
  simp only [pcells, List.mem_cons, List.not_mem_nil, or_false] at hx
  rcases hx with rfl | rfl | rfl <;> rfl
theorem pcells_length (ps : List Pt) : (ps.flatMap pcells).length = ps.length * 3 := by
  induction ps with
  | nil => rfl
  | cons x l ih => rw [List.flatMap_cons, List.length_append, ih, List.length_cons]; simp [pcells]; omega
structure PartAt (w : World) (b off : Nat) (x : Pt) : Prop where
  kind : w.cell? ⟨b, off, none⟩ = some (.int .i64 x.kind)
  n : w.cell? ⟨b, off + 1, none⟩ = some (.int .i64 x.n)
  s : w.cell? ⟨b, off + 2, none⟩ = some (.string x.s)
theorem PartAt.below {w w' : World} {b off B : Nat} {x : Pt} (h : PartAt w b off x) (hb : Below B w w') (hl : b < B) : PartAt w' b off x :=
  ⟨(hb.cell (p := ⟨b, off, none⟩) hl).trans h.kind, (hb.cell (p := ⟨b, off + 1, none⟩) hl).trans h.n, (hb.cell (p := ⟨b, off + 2, none⟩) hl).trans h.s⟩
def pt0 : Pt := ⟨0, 0, ⟨#[]⟩⟩
def PartsL (w : World) (a : Option Addr) (len : Nat) (ps : List Pt) : Prop :=
  ps.length = len ∧ (len = 0 ∨ ∃ b off, a = some ⟨b, off, none⟩ ∧ ∀ i, i < len → PartAt w b (off + i * 3) (ps.getD i pt0))
theorem PartsL.below {w w' : World} {a : Option Addr} {len : Nat} {ps : List Pt} (h : PartsL w a len ps) (hb : Below w.heap.size w w') : PartsL w' a len ps := by
  refine ⟨h.1, ?_⟩
  rcases h.2 with h0 | ⟨b, off, e, hc⟩
  · exact .inl h0
  · exact .inr ⟨b, off, e, fun i hi => (hc i hi).below hb (block_lt_of_cell (hc i hi).kind)⟩
theorem part_new (w : World) (x : Pt) : ∀ j u, (pcells x)[j]? = some u → (w.alloc (.cells #[.int .i64 x.kind, .int .i64 x.n, .string x.s] 24)).cell? ((⟨w.heap.size, 0, none⟩ : Addr).add j) = some u := fun j u hj => by
  rw [Go.WideShapes.add_plain, cell_of_row _ _ (0 + j) _ 24 (0, 0) (heap_alloc_new w _), Nat.zero_add]
  show (pcells x).toArray[j]? = some u
  rw [List.getElem?_toArray]; exact hj
theorem append_part {ops : Array Oper} {rest : List Oper} {o : Oper} {a : Act} {Q : Exit → Act → World → Prop} (hgd : o.guard = none) (s x : Operand)
    (ho : o.op = .call { callee := .builtin .append, args := #[s, x], argTypes := #[22, 22] }) (W : World) (N : Nat) (v : Value) (n : Nat) (fs : List Pt) (hs : a.eval s = v) (hown : W.ownsRow N 24 3 v n (fs.flatMap pcells))
    (ad : Addr) (c : Nat) (f : Pt) (hx : a.eval x = .slice (some ad) 1 c) (hnews : ∀ j u, (pcells f)[j]? = some u → W.cell? (ad.add j) = some u) (hb : n + 1 ≤ 40000) (hN : N ≤ W.heap.size)
    (h : ∀ v' w', w'.ownsRow N 24 3 v' (n + 1) ((fs ++ [f]).flatMap pcells) → Below N W w' → wpList Tryd.prog ops Q rest (a.put o.dst v') w') : wpList Tryd.prog ops Q (o :: rest) a W := by
  obtain ⟨v', w', hr, h2, h3, h4, h5⟩ := run_append_own_at (P := Tryd.prog) W N 22 o.type 24 Tryd.t24 (.agg #[.int .i64 0, .int .i64 0, .string ByteArray.empty]) 3 32 Tryd.underlying22 info24 rfl rfl rfl rfl (by omega) v n (fs.flatMap pcells) hown ad 1 c (pcells f) (by simp [pcells]) hnews (fun u hu => pcells_one [f] u (by simpa using hu)) (by unfold maxLen; omega) (by omega) hN
  refine wpList_plain hgd fun K hK => ?_
  unfold Oper.wp execOp
  simp only [ho, resolve, invoke, builtin, Sem.run_bind, Sem.run_pure, Result.andThen_ok, List.map_toArray, List.map_cons, List.map_nil, hs, hx, hr]
  refine hK _ _ (h v' w' (by simpa using h2) ((Below.refl _ _).grown h3 hN (fun k hk => ?_)))
  rcases hown.2 with ⟨hv, _⟩ | ⟨g, cap', cur, hv, hNg, _⟩
  · subst hv; cases hk
  · subst hv
    have : g = k := Option.some.inj hk
    omega
theorem flatP_at : ∀ (fs : List Pt) (i j : Nat), i < fs.length → j < 3 → (fs.flatMap pcells)[i * 3 + j]? = (pcells (fs.getD i pt0))[j]?
  | [], i, j, hi, _ => by simp at hi
  | f :: fs, 0, j, _, hj => by
    rw [List.flatMap_cons, Nat.zero_mul, Nat.zero_add, List.getElem?_append_left (by simpa [pcells] using hj)]
    rfl
  | f :: fs, i + 1, j, hi, hj => by
    rw [List.flatMap_cons, List.getElem?_append_right (by simp [pcells]; omega)]
    have e : (i + 1) * 3 + j - (pcells f).length = i * 3 + j := by simp [pcells]; omega
    rw [e, flatP_at fs i j (by simpa using hi) hj]
    rfl
theorem partsL_block {w : World} {b : Nat} {cs : Array Value} {t : TypeId} {fr : Nat × Nat} {fs : List Pt} (h : w.heap[b]? = some (.cells cs t fr)) (hcs : cs.toList.take (fs.length * 3) = fs.flatMap pcells) : PartsL w (some ⟨b, 0, none⟩) fs.length fs := by
  refine ⟨rfl, .inr ⟨b, 0, rfl, fun i hi => ?_⟩⟩
  have at_ : ∀ j, j < 3 → w.cell? ⟨b, 0 + i * 3 + j, none⟩ = (pcells (fs.getD i pt0))[j]? := fun j hj => by
    rw [cell_of_row w b _ cs t fr h, Nat.zero_add, ← Array.getElem?_toList, ← flatP_at fs i j hi hj, ← hcs, List.getElem?_take_of_lt (by omega)]
  exact ⟨at_ 0 (by omega), at_ 1 (by omega), at_ 2 (by omega)⟩
theorem own_parts {w : World} {N n : Nat} {v : Value} {fs : List Pt} (h : w.ownsRow N 24 3 v n (fs.flatMap pcells)) : ∃ a cap, v = .slice a n cap ∧ n ≤ cap ∧ PartsL w a n fs := by
  have hl : fs.length = n := by
    have := h.1
    rw [pcells_length] at this
    omega
  subst hl
  rcases h.2 with ⟨hv, hn⟩ | ⟨g, cap, cur, hv, _, hh, hc, _, _, ht⟩
  · rw [hn]
    exact ⟨none, 0, hv, Nat.le_refl _, by simpa using hn, .inl rfl⟩
  · exact ⟨_, cap, hv, hc, partsL_block hh ht⟩
theorem text_any (s : ByteArray) (w : World) : Calls Tryd.prog 37 #[.string s] w fun e w' => e = .returned (.agg #[.int .i64 2, .int .i64 0, .string s]) ∧ Below w.heap.size w w' := by
  go_enter Tryd.func37, Tryd.ntmps37
  go_wp2_with fail
  refine bodyPost_ret (results_cell_row rfl _ _ w.heap.size 24 _ (0, 0) _ rfl (heap_alloc_new w _) Tryd.underlying24 rfl (by rw [size24]; rfl)) rfl ?_
  exact ⟨rfl, (Below.refl _ w).alloc (Nat.le_refl _) _⟩
/- a list of texts of the call's own, as it lies in memory -/
theorem own_slice {w : World} {N : Nat} {v : Value} {l : List Pm.T} (h : w.ownsRow N 9 1 v l.length (scells l)) : ∃ ad c, v = .slice ad l.length c ∧ (0 < l.length → ∃ g, ad = some ⟨g, 0, none⟩ ∧ g < w.heap.size ∧ TextsAt w g 0 l) := by
  rcases own_shape h with ⟨rfl, rfl⟩ | ⟨g, cap, rfl, _, hg, _, _, ht⟩
  · exact ⟨none, 0, rfl, fun h => by simp at h⟩
  · exact ⟨_, _, rfl, fun _ => ⟨g, rfl, hg, ht⟩⟩
theorem split_small (p : Pm.T) : (Pm.split p).length ≤ 8 := by
  rcases Pm.cases_isP p with h | h | h
  · subst h; decide
  · rw [Pm.split_no h]; simp
  · rw [Pm.split_path h]; exact h.deep
theorem split_err {p : Pm.T} (h : (Pm.kind p).2 ≠ 0) : Pm.split p = [] := Pm.split_no (by unfold Pm.isP; simpa using h)
theorem keyL_length (p : Pm.T) : (Ino.keyL p).length = (Pm.split p).length := by simp [Ino.keyL]
theorem own_nil (w : World) (N : Nat) : w.ownsRow N 24 3 (.slice none 0 0) 0 (([] : List Pt).flatMap pcells) := ⟨rfl, .inl ⟨rfl, rfl⟩⟩
end Go.Proofs.YtealbeblkilibaaDoor
