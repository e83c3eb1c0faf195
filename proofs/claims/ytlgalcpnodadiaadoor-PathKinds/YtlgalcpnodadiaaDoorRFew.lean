/- Proved: the document's SameTexts, Parent, Name and Ups. -/
import Derived.Test.YtlgalcpnodadiaaDoorRJn
namespace Go.Proofs.YtlgalcpnodadiaaDoor
open Go.RowKit
theorem TextsAt.take {w : World} {b o : Nat} {l : List Pm.T} (h : TextsAt w b o l) (n : Nat) : TextsAt w b o (l.take n) := fun j x hj => h j x (by
  rw [List.getElem?_take] at hj
  split at hj
  · exact hj
  · cases hj)
set_option maxHeartbeats 2000000 in
set_option maxRecDepth 20000 in
theorem rsame_yes (ad1 ad2 : Option Addr) (c1 c2 : Nat) (l : List Pm.T) (w : World) (hl : l.length ≤ 1000000) (h1 : 0 < l.length → ∃ g, ad1 = some ⟨g, 0, none⟩ ∧ TextsAt w g 0 l) (h2 : 0 < l.length → ∃ g, ad2 = some ⟨g, 0, none⟩ ∧ TextsAt w g 0 l) :
    Calls Tryd.prog 16 #[.slice ad1 l.length c1, .slice ad2 l.length c2] w fun e w' => e = .returned (.bool true) ∧ Below w.heap.size w w' := by
  have H1 := (show Hid _ from h1)
  have H2 := (show Hid _ from h2)
  obtain ⟨n, hn⟩ : ∃ n, l.length = n := ⟨_, rfl⟩
  have HN : Is l.length n := ⟨hn⟩
  rw [hn] at hl
  rw [hn]
  clear h1 h2 hn
  go_enter Tryd.func16, Tryd.ntmps16
  go_wp2_with fail
  go_loopw [5] (fun i wr => ∃ k : Nat, k ≤ n ∧ i = .int .i64 k ∧ Below w.heap.size w wr) (fun i _ => n - (intOf i).toNat)
  case atStart => exact ⟨0, by omega, rfl, Below.refl _ _⟩
  case round =>
    obtain ⟨k, hk, rfl, hB⟩ := hrel
    have HB : Hid (Below w.heap.size w wr) := hB
    have hsz := hB.size
    by_cases hlt : k < n
    · have i0 : (k : Int) < (n : Int) := by omega
      have j0 : (0 : Int) ≤ (k : Int) := Int.natCast_nonneg _
      obtain ⟨g1, he1, t1⟩ := H1.out (by rw [HN.eq]; omega)
      obtain ⟨g2, he2, t2⟩ := H2.out (by rw [HN.eq]; omega)
      subst he1 he2
      have d0 := t1 k _ (getD_some (by rw [HN.eq]; exact hlt))
      have d1 := t2 k _ (getD_some (by rw [HN.eq]; exact hlt))
      rw [Nat.zero_add] at d0 d1
      have c0 := (hB.cell (p := ⟨g1, k, none⟩) (block_lt_of_cell d0)).trans d0
      have c1 := (hB.cell (p := ⟨g2, k, none⟩) (block_lt_of_cell d1)).trans d1
      have E1 : ((mk (l.getD k [])).toList == (mk (l.getD k [])).toList) = true := by simp
      clear t1 t2 hB d0 d1 H1 H2
      generalize mk (l.getD k []) = sx at *
      go_wp2_with fail
      go_region
      go_wp2_with fail
      go_roundw
      case rel => exact ⟨k + 1, by omega, by go_num, HB.out.trans (((Below.refl _ _).drew).mono hsz)⟩
      case measure => (simp [intOf]) <;> omega
    · obtain rfl : k = n := by omega
      have i0 : ¬ (k : Int) < (k : Int) := by omega
      clear hB
      go_wp2_with fail
      go_ret
      exact ⟨rfl, HB.out⟩
theorem rsplit_row (s : ByteArray) (w : World) (hs : s.size ≤ 30000) :
    Calls Tryd.prog 18 #[.string s] w fun e w' => ∃ ad c, e = .returned (.slice ad (Pm.split (bl s)).length c) ∧ (Pm.split (bl s)).length ≤ c ∧ c ≤ 9223372036854775807 ∧ (0 < (Pm.split (bl s)).length → ∃ g, ad = some ⟨g, 0, none⟩ ∧ g < w'.heap.size ∧ TextsAt w' g 0 (Pm.split (bl s))) ∧ Below w.heap.size w w' := by
  refine (rsplit_any s w hs).mono fun e w' ⟨v, he, ho, hb⟩ => ?_
  rcases own_shape ho with ⟨hv, h0⟩ | ⟨g, cap, hv, _, hg, hc, hm, ht⟩
  · refine ⟨none, 0, ?_, ?_, by omega, fun h => ?_, hb⟩
    · rw [he, hv, h0]; rfl
    · rw [h0]; exact Nat.le_refl _
    · rw [h0] at h; cases h
  · exact ⟨_, cap, by rw [he, hv], hc, hm, fun _ => ⟨g, rfl, hg, ht⟩, hb⟩
theorem split_nil {p : Pm.T} (h : Pm.split p = []) : Pm.parent p = none ∧ Pm.last p = [] := by
  rcases Pm.cases_isP p with rfl | h' | h'
  · exact ⟨Pm.parent_root, last_root⟩
  · exact ⟨Pm.parent_no h', last_no h'⟩
  · rw [Pm.split_path h'] at h; exact absurd h (Pm.names_ne p)
theorem split_cons {p : Pm.T} (h : Pm.split p ≠ []) : Pm.parent p = some (Pm.join (Pm.split p).dropLast) ∧ Pm.last p = (Pm.split p).getLastD [] := by
  rcases Pm.cases_isP p with rfl | h' | h'
  · exact absurd Pm.split_root h
  · exact absurd (Pm.split_no h') h
  · rw [Pm.split_path h']
    exact ⟨Pm.parent_path h', by rw [Pm.last, if_pos ((Pm.isP_iff p).2 (.inr h'))]⟩
theorem split_size (p : Pm.T) : (Pm.split p).length ≤ 8 ∧ (Pm.join (Pm.split p)).length ≤ 96 := by
  rcases Pm.cases_isP p with rfl | h' | h'
  · rw [Pm.split_root]; exact ⟨by simp, by simp [Pm.join]⟩
  · rw [Pm.split_no h']; exact ⟨by simp, by simp [Pm.join]⟩
  · rw [Pm.split_path h', Pm.join_names]; exact ⟨h'.deep, h'.len⟩
set_option maxHeartbeats 1000000 in
set_option maxRecDepth 20000 in
theorem rparent_any (s : ByteArray) (w : World) (hs : s.size ≤ 30000) :
    Calls Tryd.prog 15 #[.string s] w fun e w' => e = .returned (.tuple #[.string (mk ((Pm.parent (bl s)).getD [])), .bool (Pm.parent (bl s)).isSome]) ∧ Below w.heap.size w w' := by
  have hsz := split_size (bl s)
  have SP := (show Hid _ from rsplit_row s w hs)
  by_cases h0 : Pm.split (bl s) = []
  · have HP : Is (Pm.parent (bl s)) none := ⟨(split_nil h0).1⟩
    rw [h0] at SP
    clear h0 hsz
    go_enter Tryd.func15, Tryd.ntmps15
    go_wp2_with fail
    refine (show Calls _ _ _ _ _ from SP.out).mono ?_
    rintro e w1 ⟨ad, c, rfl, _, _, _, hB⟩
    go_wp2_with fail
    go_ret2
    exact ⟨by rw [HP.eq]; rfl, hB⟩
  · have HP : Is (Pm.parent (bl s)) (some (Pm.join (Pm.split (bl s)).dropLast)) := ⟨(split_cons h0).1⟩
    have hpos : 0 < (Pm.split (bl s)).length := List.length_pos_iff.2 h0
    generalize Pm.split (bl s) = l at *
    obtain ⟨n, hn⟩ : ∃ n, l.length = n + 1 := ⟨l.length - 1, by omega⟩
    rw [List.dropLast_eq_take, hn, Nat.add_sub_cancel] at HP
    have hjl := Pm.join_take_length l n
    have htl : (l.take n).length = n := by rw [List.length_take]; omega
    have JN := (show Hid (∀ g c W, TextsAt W g 0 l → Calls Tryd.prog 39 #[.slice (some ⟨g, 0, none⟩) n c] W fun e w' => e = .returned (.string (mk (Pm.join (l.take n)))) ∧ w' = W) from fun g c W ht => by
      have h := rjn_any (some ⟨g, 0, none⟩) c (l.take n) W (fun _ => ⟨g, rfl, ht.take n⟩) (by omega) (by omega)
      rw [htl] at h; exact h)
    rw [hn] at SP
    have f0 : ¬ ((n : Int) + 1 = 0) := by omega
    have f3 : (0 : Int) ≤ (n : Int) := by omega
    clear h0 hsz hpos hjl htl hn
    go_enter Tryd.func15, Tryd.ntmps15
    go_wp2_with fail
    refine (show Calls _ _ _ _ _ from SP.out).mono ?_
    rintro e w1 ⟨ad, c, rfl, hc, hcm, ht, hB⟩
    obtain ⟨g, rfl, hg, t⟩ := ht (by omega)
    have J := (show Hid _ from JN.out g c w1 t)
    have HB : Hid (Below w.heap.size w w1) := hB
    have f2 : (n : Int) ≤ (c : Int) := by omega
    clear hB ht t JN
    obtain ⟨X, hX⟩ : ∃ X, mk (Pm.join (l.take n)) = X := ⟨_, rfl⟩
    have HX : Is (mk (Pm.join (l.take n))) X := ⟨hX⟩
    rw [hX] at J
    clear hX
    go_wp2_with fail
    refine (show Calls _ _ _ _ _ from J.out).mono ?_
    rintro e w2 ⟨rfl, hw2⟩
    rw [hw2]
    go_wp2_with fail
    go_ret2
    exact ⟨by rw [HP.eq, Option.getD_some, HX.eq]; rfl, HB.out⟩
set_option maxHeartbeats 1000000 in
set_option maxRecDepth 20000 in
theorem rnm_any (s : ByteArray) (w : World) (hs : s.size ≤ 30000) :
    Calls Tryd.prog 20 #[.string s] w fun e w' => e = .returned (.string (mk (Pm.last (bl s)))) ∧ Below w.heap.size w w' := by
  have hsz := split_size (bl s)
  have SP := (show Hid _ from rsplit_row s w hs)
  by_cases h0 : Pm.split (bl s) = []
  · have HP : Is (Pm.last (bl s)) [] := ⟨(split_nil h0).2⟩
    rw [h0] at SP
    clear h0 hsz
    go_enter Tryd.func20, Tryd.ntmps20
    go_wp2_with fail
    refine (show Calls _ _ _ _ _ from SP.out).mono ?_
    rintro e w1 ⟨ad, c, rfl, _, _, _, hB⟩
    go_wp2_with fail
    go_ret
    exact ⟨by rw [HP.eq]; rfl, hB⟩
  · have HP : Is (Pm.last (bl s)) ((Pm.split (bl s)).getD ((Pm.split (bl s)).length - 1) []) := ⟨by rw [(split_cons h0).2, getLastD_at]⟩
    have hpos : 0 < (Pm.split (bl s)).length := List.length_pos_iff.2 h0
    generalize Pm.split (bl s) = l at *
    obtain ⟨n, hn⟩ : ∃ n, l.length = n + 1 := ⟨l.length - 1, by omega⟩
    rw [hn, Nat.add_sub_cancel] at HP
    have HLn : Is l.length (n + 1) := ⟨hn⟩
    rw [hn] at SP
    have f0 : ¬ ((n : Int) + 1 = 0) := by omega
    have f3 : (0 : Int) ≤ (n : Int) := by omega
    have f4 : (n : Int) < (n : Int) + 1 := by omega
    clear h0 hsz hpos hn
    go_enter Tryd.func20, Tryd.ntmps20
    go_wp2_with fail
    refine (show Calls _ _ _ _ _ from SP.out).mono ?_
    rintro e w1 ⟨ad, c, rfl, hc, hcm, ht, hB⟩
    obtain ⟨g, rfl, hg, t⟩ := ht (by omega)
    have HB : Hid (Below w.heap.size w w1) := hB
    have c0 := t n _ (getD_some (by rw [HLn.eq]; omega))
    rw [Nat.zero_add] at c0
    clear hB ht t
    obtain ⟨X, hX⟩ : ∃ X, mk (l.getD n []) = X := ⟨_, rfl⟩
    have HX : Is (mk (l.getD n [])) X := ⟨hX⟩
    rw [hX] at c0
    clear hX
    go_wp2_with fail
    go_ret
    exact ⟨by rw [HP.eq, HX.eq]; rfl, HB.out⟩
set_option maxHeartbeats 2000000 in
set_option maxRecDepth 20000 in
theorem rups_any (s : ByteArray) (w : World) (hs : s.size ≤ 30000) :
    Calls Tryd.prog 22 #[.string s] w fun e w' => ∃ v, e = .returned v ∧ w'.ownsRow w.heap.size 9 1 v (Pm.ups (bl s)).length (scells (Pm.ups (bl s))) ∧ Below w.heap.size w w' := by
  have hsz := split_size (bl s)
  have SP := (show Hid _ from rsplit_row s w hs)
  have HU : Is (Pm.ups (bl s)) (Pm.upsAt (Pm.split (bl s)) (Pm.split (bl s)).length) := ⟨rfl⟩
  have hjt : Hid (∀ m, (Pm.join ((Pm.split (bl s)).take m)).length ≤ 96) := fun m => Nat.le_trans (Pm.join_take_length _ m) hsz.2
  generalize Pm.split (bl s) = l at *
  obtain ⟨n, hn⟩ : ∃ n, l.length = n := ⟨_, rfl⟩
  have HLn : Is l.length n := ⟨hn⟩
  rw [hn] at SP HU hsz
  rw [HU.eq]
  have JN := (show Hid (∀ m g c W, m ≤ n → TextsAt W g 0 l → Calls Tryd.prog 39 #[.slice (some ⟨g, 0, none⟩) m c] W fun e w' => e = .returned (.string (mk (Pm.join (l.take m)))) ∧ w' = W) from fun m g c W hm ht => by
    have htl : (l.take m).length = m := by rw [List.length_take]; omega
    have h := rjn_any (some ⟨g, 0, none⟩) c (l.take m) W (fun _ => ⟨g, rfl, ht.take m⟩) (by omega) (by have := hjt.out m; omega)
    rw [htl] at h; exact h)
  have hn8 : n ≤ 8 := hsz.1
  have w0 : IntKind.i64.wrap ((n : Int) - 1) = (n : Int) - 1 := by rw [IntKind.wrap_i64]; omega
  clear hsz hn HU hjt
  go_enter Tryd.func22, Tryd.ntmps22
  go_wp2_with fail
  refine (show Calls _ _ _ _ _ from SP.out).mono ?_
  rintro e w1 ⟨ad, c, rfl, hc, hcm, ht, hB⟩
  have HT := (show Hid _ from ht)
  have HB1 : Hid (Below w.heap.size w w1) := hB
  have hz1 := hB.size
  clear hB ht SP
  go_wp2_with fail
  go_loopw [4, 5] (fun v i wr => ∃ (m : Nat) (st : List Pm.T), m ≤ n ∧ i = .int .i64 ((m : Int) - 1) ∧ st ++ Pm.upsAt l m = Pm.upsAt l n ∧ st.length ≤ n ∧ wr.ownsRow w1.heap.size 9 1 v st.length (scells st) ∧ Below w1.heap.size w1 wr) (fun _ i _ => (intOf i + 1).toNat)
  case atStart => exact ⟨n, [], by omega, rfl, rfl, by simp, ⟨rfl, .inl ⟨rfl, rfl⟩⟩, Below.refl _ _⟩
  case round =>
    obtain ⟨m, st, hm, rfl, hst, hsl, ho, hB⟩ := hrel
    have HB : Hid (Below w1.heap.size w1 wr) := hB
    have HO := (show Hid _ from ho)
    have hsz := hB.size
    have hsh := own_shape ho
    have hv : ∃ ad n c, u4 = .slice ad n c := by
      rcases hsh with ⟨h, _⟩ | ⟨g, cap, h, _⟩
      · exact ⟨_, _, _, h⟩
      · exact ⟨_, _, _, h⟩
    obtain ⟨ad4, nn, cc, rfl⟩ := hv
    cases m with
    | zero =>
      rw [Pm.upsAt, List.append_nil] at hst
      have HS : Is (Pm.upsAt l n) st := ⟨hst.symm⟩
      have e0 : ((0 : Nat) : Int) - 1 = -1 := rfl
      clear hst ho hsh hB
      go_wp2_with fail
      go_ret
      exact ⟨_, rfl, by rw [HS.eq]; exact own_mono HO.out hz1, HB1.out.trans (HB.out.mono hz1)⟩
    | succ m =>
      obtain ⟨g, he, hg, t⟩ := HT.out (by omega)
      subst he
      have HST : Is ((st ++ [Pm.join (l.take m)]) ++ Pm.upsAt l m) (Pm.upsAt l n) := ⟨by rw [List.append_assoc]; exact hst⟩
      have J := (show Hid _ from JN.out m g c wr (by omega) (t.below hB hg))
      have hstl : st.length < n := by
        have h := congrArg List.length hst
        rw [List.length_append, upsAt_length, upsAt_length] at h
        omega
      have HSC : Is (scells (st ++ [Pm.join (l.take m)])) (scells st ++ [.string (mk (Pm.join (l.take m)))]) := ⟨by rw [scells, scells, List.map_append]; rfl⟩
      have e1 : (((m + 1 : Nat) : Int) - 1) = (m : Int) := by omega
      rw [e1]
      have f1 : (0 : Int) ≤ (m : Int) := by omega
      have f2 : (m : Int) ≤ (c : Int) := by omega
      have w1' : IntKind.i64.wrap ((m : Int) - 1) = (m : Int) - 1 := by rw [IntKind.wrap_i64]; omega
      clear ho hsh hB hst t e1
      generalize mk (Pm.join (l.take m)) = X at *
      go_wp2_with (first | (go_at_call 39; refine (show Calls _ _ _ _ _ from J.out).mono ?_; rintro e wS ⟨rfl, hwS⟩; rw [hwS]; clear hwS wS) | (refine append_str rfl (.tmp 15) (.tmp 20) rfl _ w1.heap.size _ st.length (scells st) rfl (own_alloc1 HO.out _) ⟨wr.heap.size, 0, none⟩ 1 X rfl (str_new wr X) (by omega) (by simp; omega) ?_; intro v' w' hO2 hG2; have HO2 := (show Hid (w'.ownsRow w1.heap.size 9 1 v' (st.length + 1) (scells st ++ [.string X])) from hO2); have HB2 : Hid (Below w1.heap.size w1 w') := HB.out.trans ((((Below.refl _ wr).alloc (Nat.le_refl _) _).mono hsz).trans (hG2.below (own_alloc1 HO.out _) (by simp; omega))); clear hO2 hG2))
      go_roundw
      case rel => exact ⟨m, st ++ [Pm.join (l.take m)], by omega, rfl, HST.eq, by simp; omega, by rw [HSC.eq, List.length_append]; exact HO2.out, HB2.out⟩
      case measure => (simp [intOf]) <;> omega
end Go.Proofs.YtlgalcpnodadiaaDoor
