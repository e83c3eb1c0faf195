/- Proved: the walk of the law PathParts. -/
import Derived.Test.YtlgalcpnodadiaaDoorUpsL
import Derived.Test.YtlgalcpnodadiaaDoorJoinF
import Derived.Test.YtlgalcpnodadiaaDoorThere
namespace Go.Proofs.YtlgalcpnodadiaaDoor
open Go.RowKit
theorem upsAt_length (l : List Pm.T) (n : Nat) : (Pm.upsAt l n).length = n := by
  induction n with
  | zero => rfl
  | succ n ih => rw [Pm.upsAt, List.length_cons, ih]
theorem ups_length (p : Pm.T) : (Pm.ups p).length = (Pm.split p).length := upsAt_length _ _
theorem parent_none {p : Pm.T} (h : Pm.parent p = none) : Pm.split p = [] ∧ Pm.last p = [] := by
  rcases Pm.cases_isP p with rfl | h' | h'
  · exact ⟨Pm.split_root, last_root⟩
  · exact ⟨Pm.split_no h', last_no h'⟩
  · rw [Pm.parent_path h'] at h; cases h
theorem parent_isPath {p u : Pm.T} (h : Pm.parent p = some u) : Pm.Path p := by
  rcases Pm.cases_isP p with rfl | h' | h'
  · rw [Pm.parent_root] at h; cases h
  · rw [Pm.parent_no h'] at h; cases h
  · exact h'
theorem upsAt_last (l : List Pm.T) : ∀ n, 0 < n → (Pm.upsAt l n).getD (n - 1) [1] = []
  | 0, h => by omega
  | 1, _ => by simp [Pm.upsAt, Pm.join]
  | n + 2, _ => by
    have ih := upsAt_last l (n + 1) (by omega)
    rw [Pm.upsAt]
    simpa using ih
theorem ups_last {p : Pm.T} (h : 0 < (Pm.ups p).length) : (Pm.ups p).getD ((Pm.ups p).length - 1) [1] = [] := by
  unfold Pm.ups at h ⊢
  rw [upsAt_length] at h ⊢
  exact upsAt_last _ _ h
/- a path is its parent, joined with its last name -/
theorem join_parent {p u : Pm.T} (h : Pm.parent p = some u) : Pm.joined u (Pm.last p) = (p, 0) := by
  have hP := parent_isPath h
  have hi : Pm.isP p = true := (Pm.isP_iff p).2 (.inr hP)
  rcases Pm.parent_cut hP with ⟨hn, h1, h2⟩ | ⟨a, b, e, hn, h1, h2⟩
  · rw [h1, Option.some.injEq] at h
    subst h
    rw [h2, Pm.joined, Pm.kind_root, if_neg (by simp), if_neg (by simp), if_neg (fun hh => hh.elim hP.ne hn), show Pm.chain [] p = p by simp [Pm.chain], checked_ok hi]
  · rw [h1, Option.some.injEq] at h
    subst h
    have ha : a ≠ [] := by
      rintro rfl
      obtain ⟨c, r, e', hc⟩ := path_head hP
      rw [e, List.nil_append, List.cons.injEq] at e'
      exact hc e'.1.symm
    have hb : b ≠ [] := by
      have h' := hP
      rw [e] at h'
      exact path_rest h'
    have hk : Pm.kind a = (1, 0) := by
      have hl : (Pm.names p).length = (Pm.names a).length + 1 := by rw [e, Pm.names_slash, Pm.names_free hn]; simp
      have h0 := List.length_pos_iff.2 (Pm.names_ne a)
      obtain ⟨q1, q2, q3⟩ := Pm.path_take hP (k := (Pm.names a).length) h0 (by omega)
      have e3 : (Pm.names p).take (Pm.names a).length = Pm.names a := by rw [e, Pm.names_slash, List.take_left' rfl]
      rw [e3, Pm.join_names] at q1
      rw [e3] at q3
      exact Pm.kind_dir q1 q3
    rw [h2, Pm.joined, hk, if_neg (by simp), if_neg (by simp), if_neg (fun hh => hh.elim hb hn), show Pm.chain a b = p by rw [e]; simp [Pm.chain, ha, hb], checked_ok hi]
theorem last_len (p : Pm.T) : (Pm.last p).length ≤ 96 := by
  rcases Pm.cases_isP p with rfl | h | h
  · rw [last_root]; simp
  · rw [last_no h]; simp
  · rcases Pm.parent_cut h with ⟨_, _, h2⟩ | ⟨a, b, e, _, _, h2⟩
    · rw [h2]; exact h.len
    · rw [h2]; have := h.len; rw [e] at this; simp at this; omega
theorem contains_take (xs : List Pm.T) (d : Pm.T) (k : Nat) (hk : k < xs.length) : (xs.take (k + 1)).contains d = ((xs.take k).contains d || decide (xs.getD k [] = d)) := by
  rw [List.take_add_one, getD_some hk]
  simp only [Option.toList_some, List.contains_append]
  congr 1
  by_cases h : xs.getD k [] = d
  · rw [decide_eq_true h, h]; simp
  · rw [decide_eq_false h]
    simp
    intro e
    exact h e.symm
theorem own_slice {w : World} {N : Nat} {v : Value} {l : List Pm.T} (h : w.ownsRow N 9 1 v l.length (scells l)) : ∃ ad c, v = .slice ad l.length c ∧ (0 < l.length → ∃ g, ad = some ⟨g, 0, none⟩ ∧ g < w.heap.size ∧ TextsAt w g 0 l) := by
  rcases own_shape h with ⟨rfl, rfl⟩ | ⟨g, cap, rfl, _, hg, _, _, ht⟩
  · exact ⟨none, 0, rfl, fun h => by simp at h⟩
  · exact ⟨_, _, rfl, fun _ => ⟨g, rfl, hg, ht⟩⟩
theorem ups_list (s : ByteArray) (most : Nat) (w : World) (hs : s.size < 4294967281) (hm : most ≤ 100) (hm1 : 1 ≤ most) (hT : Tab w) :
    Calls Tryd.prog 21 #[.string s, .int .i64 (most : Int)] w fun e w' => ∃ ad c, e = .returned (.slice ad ((Pm.ups (bl s)).take most).length c) ∧ (0 < ((Pm.ups (bl s)).take most).length → ∃ g, ad = some ⟨g, 0, none⟩ ∧ g < w'.heap.size ∧ TextsAt w' g 0 ((Pm.ups (bl s)).take most)) ∧ Below w.heap.size w w' := by
  refine (ups_any s most w hs hm hm1 hT).mono fun e w' ⟨v, he, ho, hb⟩ => ?_
  obtain ⟨ad, c, hv, ht⟩ := own_slice ho
  exact ⟨ad, c, by rw [he, hv], ht, hb⟩
set_option maxHeartbeats 4000000 in
set_option maxRecDepth 20000 in
theorem parts_walk (s1 s2 : ByteArray) (w : World) (hs1 : s1.size ≤ 9223372036854775807) (hs2 : s2.size ≤ 9223372036854775807) (hT : Tab w) :
    Calls Tryd.prog 6 #[.string s1, .string s2] w fun e w' => e = .returned (.bool true) ∧ Below w.heap.size w w' := by
  have HF1 : Hid (∀ W : World, Calls Tryd.prog 9 #[.string s1] W fun e w' => e = .returned (.string (mk (few (bl s1)))) ∧ w' = W) := fun W => few_any s1 W hs1
  have HF2 : Hid (∀ W : World, Calls Tryd.prog 9 #[.string s2] W fun e w' => e = .returned (.string (mk (few (bl s2)))) ∧ w' = W) := fun W => few_any s2 W hs2
  have hp := few_length (bl s1)
  have hd := few_length (bl s2)
  generalize few (bl s1) = p at *
  generalize few (bl s2) = d at *
  have PA : Hid (∀ W : World, Tab W → Calls Tryd.prog 14 #[.string (mk p)] W fun e w' => e = .returned (.tuple #[.string (mk ((Pm.parent p).getD [])), .bool (Pm.parent p).isSome]) ∧ Below W.heap.size W w') := fun W hW => parent_any (mk p) W (by rw [mk_size]; omega) hW
  have NA : Hid (∀ W : World, Tab W → Calls Tryd.prog 19 #[.string (mk p)] W fun e w' => e = .returned (.string (mk (Pm.last p))) ∧ Below W.heap.size W w') := fun W hW => name_any (mk p) W (by rw [mk_size]; omega) hW
  have SP : Hid (∀ W : World, Tab W → Calls Tryd.prog 17 #[.string (mk p)] W fun e w' => ∃ ad c, e = .returned (.slice ad (Pm.split p).length c) ∧ Below W.heap.size W w') := fun W hW => psplit_slice (mk p) W (by rw [mk_size]; omega) hW
  have t100 : (Pm.ups p).take 100 = Pm.ups p := List.take_of_length_le (by have := ups_short p; omega)
  have U100 : Hid (∀ W : World, Tab W → Calls Tryd.prog 21 #[.string (mk p), .int .i64 100] W fun e w' => ∃ ad c, e = .returned (.slice ad (Pm.ups p).length c) ∧ (0 < (Pm.ups p).length → ∃ g, ad = some ⟨g, 0, none⟩ ∧ g < w'.heap.size ∧ TextsAt w' g 0 (Pm.ups p)) ∧ Below W.heap.size W w') := fun W hW => by
    have h := ups_list (mk p) 100 W (by rw [mk_size]; omega) (by omega) (by omega) hW
    rw [show (Pm.ups (bl (mk p))).take 100 = _ from t100] at h
    exact h
  have U1 : Hid (∀ W : World, Tab W → Calls Tryd.prog 21 #[.string (mk p), .int .i64 1] W fun e w' => ∃ ad c, e = .returned (.slice ad ((Pm.ups p).take 1).length c) ∧ Below W.heap.size W w') := fun W hW => (ups_list (mk p) 1 W (by rw [mk_size]; omega) (by omega) (by omega) hW).mono fun e w' ⟨ad, c, h1, _, h2⟩ => ⟨ad, c, h1, h2⟩
  have HW : Hid (∀ W : World, Tab W → Calls Tryd.prog 23 #[] W fun e w' => e = .returned (.bool true) ∧ Below W.heap.size W w') := fun W hW => works_any W hW
  have HB0 : Hid (Below w.heap.size w w) := Below.refl _ _
  have HT0 : Hid (Tab w) := hT
  have hz0 : w.heap.size ≤ w.heap.size := Nat.le_refl _
  clear hs1 hs2 hT t100
  go_enter Tryd.func6, Tryd.ntmps6
  go_wp2_with fail
  refine (HF1.out _).mono ?_
  rintro e wS ⟨rfl, hwS⟩
  rw [hwS]
  clear hwS wS
  go_wp2_with fail
  refine (HF2.out _).mono ?_
  rintro e wS ⟨rfl, hwS⟩
  rw [hwS]
  clear hwS wS
  clear HF1 HF2
  go_wp2_with fail
  refine (PA.out _ HT0.out).mono ?_
  rintro e w1 ⟨rfl, hB1⟩
  have HB1 : Hid (Below w.heap.size w w1) := HB0.out.trans (hB1.mono hz0)
  have HT1 : Hid (Tab w1) := HT0.out.below hB1
  have hz1 := HB1.out.size
  clear hB1
  cases hpp : Pm.parent p with
  | none =>
    have e1 : Pm.ups p = [] := Pm.ups_none hpp
    obtain ⟨e2, e3⟩ := parent_none hpp
    rw [e1] at U100
    rw [e2] at SP
    rw [e3] at NA
    have e4 : (mk []).toList.isEmpty = true := by rw [ByteArray.toList_eq]; rfl
    simp only [Option.getD_none, Option.isSome_none]
    clear e1 e2 e3 hpp
    generalize mk [] = X at *
    go_wp2_with fail
    refine (U100.out _ HT1.out).mono ?_
    rintro e w2 ⟨ad2, c2, rfl, _, hB2⟩
    have HB2 : Hid (Below w.heap.size w w2) := HB1.out.trans (hB2.mono hz1)
    have HT2 : Hid (Tab w2) := HT1.out.below hB2
    have hz2 := HB2.out.size
    clear hB2
    go_wp2_with fail
    refine (SP.out _ HT2.out).mono ?_
    rintro e w3 ⟨ad3, cp3, rfl, hB3⟩
    have HB3 : Hid (Below w.heap.size w w3) := HB2.out.trans (hB3.mono hz2)
    have HT3 : Hid (Tab w3) := HT2.out.below hB3
    have hz3 := HB3.out.size
    clear hB3
    go_wp2_with fail
    refine (NA.out _ HT3.out).mono ?_
    rintro e w4 ⟨rfl, hB4⟩
    have HB4 : Hid (Below w.heap.size w w4) := HB3.out.trans (hB4.mono hz3)
    have HT4 : Hid (Tab w4) := HT3.out.below hB4
    have hz4 := HB4.out.size
    clear hB4
    go_wp2_with fail
    refine (HW.out _ HT4.out).mono ?_
    rintro e w5 ⟨rfl, hB5⟩
    have HB5 : Hid (Below w.heap.size w w5) := HB4.out.trans (hB5.mono hz4)
    have HT5 : Hid (Tab w5) := HT4.out.below hB5
    have hz5 := HB5.out.size
    clear hB5
    go_wp2_with fail
    go_ret
    exact ⟨rfl, HB5.out⟩
  | some u =>
    simp only [Option.getD_some, Option.isSome_some]
    have hul := parent_len hpp
    have hll := last_len p
    have JN : Hid (∀ W : World, Tab W → Calls Tryd.prog 24 #[.string (mk u), .string (mk (Pm.last p))] W fun e w' => e = .returned (.tuple #[.string (mk p), .int .i64 0]) ∧ Below W.heap.size W w') := fun W hW => by
      have h := joined_any (mk u) (mk (Pm.last p)) W (by rw [mk_size]; omega) (by rw [mk_size]; omega) hW
      rw [show Pm.joined (bl (mk u)) (bl (mk (Pm.last p))) = _ from join_parent hpp] at h
      exact h
    have hus := Pm.ups_some hpp
    have hlen := ups_length p
    have hpos : 0 < (Pm.ups p).length := by rw [hus]; simp
    have hla := ups_last hpos
    have hsh := ups_short p
    have hu1 : ((Pm.ups p).take 1).length = 1 := by rw [hus]; simp
    rw [hu1] at U1
    rw [← hlen] at SP
    have BD : Hid (∀ W : World, Tab W → Calls Tryd.prog 26 #[.string (mk d), .string (mk p)] W fun e w' => e = .returned (.bool ((Pm.ups p).contains d)) ∧ Below W.heap.size W w') := fun W hW => below_any (mk d) (mk p) W (by rw [mk_size]; omega) hW
    have BX : Hid (∀ k, k < (Pm.ups p).length → ∀ W : World, Tab W → Calls Tryd.prog 26 #[.string (mk ((Pm.ups p).getD k [])), .string (mk p)] W fun e w' => e = .returned (.bool true) ∧ Below W.heap.size W w') := fun k hk W hW => by
      have h := below_any (mk ((Pm.ups p).getD k [])) (mk p) W (by rw [mk_size]; omega) hW
      rw [show Pm.below (bl (mk ((Pm.ups p).getD k []))) (bl (mk p)) = true by show (Pm.ups p).contains _ = true; rw [List.contains_eq_mem, decide_eq_true_eq]; exact getD_mem hk] at h
      exact h
    have H0 : Is ((Pm.ups p).getD 0 []) u := ⟨by rw [hus]; rfl⟩
    have HLA : Is ((Pm.ups p).getD ((Pm.ups p).length - 1) []) [] := ⟨by
      have h1 : (Pm.ups p)[(Pm.ups p).length - 1]? = some ((Pm.ups p).getD ((Pm.ups p).length - 1) []) := getD_some (by omega)
      rw [List.getD_eq_getElem?_getD, h1] at hla
      exact hla⟩
    clear hlen hu1 hla hus hpp
    generalize Pm.ups p = xs at *
    obtain ⟨m, hm⟩ : ∃ m, xs.length = m + 1 := ⟨xs.length - 1, by omega⟩
    have HLX : Is xs.length (m + 1) := ⟨hm⟩
    rw [hm] at SP U100 BX hsh
    rw [hm, Nat.add_sub_cancel] at HLA
    clear hpos hm
    have ee : (mk []).toList.isEmpty = true := by rw [ByteArray.toList_eq]; rfl
    go_wp2_with fail
    refine (NA.out _ HT1.out).mono ?_
    rintro e w2 ⟨rfl, hB2⟩
    have HB2 : Hid (Below w.heap.size w w2) := HB1.out.trans (hB2.mono hz1)
    have HT2 : Hid (Tab w2) := HT1.out.below hB2
    have hz2 := HB2.out.size
    clear hB2
    go_wp2_with fail
    refine (JN.out _ HT2.out).mono ?_
    rintro e w3 ⟨rfl, hB3⟩
    have HB3 : Hid (Below w.heap.size w w3) := HB2.out.trans (hB3.mono hz2)
    have HT3 : Hid (Tab w3) := HT2.out.below hB3
    have hz3 := HB3.out.size
    clear hB3
    go_wp2_with fail
    refine (U100.out _ HT3.out).mono ?_
    rintro e w4 ⟨ad4, c4, rfl, hg4, hB4⟩
    obtain ⟨g, rfl, hgl, htx⟩ := hg4 (by omega)
    have HB4 : Hid (Below w.heap.size w w4) := HB3.out.trans (hB4.mono hz3)
    have HT4 : Hid (Tab w4) := HT3.out.below hB4
    have hz4 := HB4.out.size
    have HTX : Hid (TextsAt w4 g 0 xs) := htx
    clear hB4 hg4 htx HB1 HT1 hz1 HB2 HT2 hz2 HB3 HT3 hz3 NA JN PA U100
    go_wp2_with fail
    refine (SP.out _ HT4.out).mono ?_
    rintro e w5 ⟨ad5, cp5, rfl, hB5⟩
    have HB5 : Hid (Below w.heap.size w w5) := HB4.out.trans (hB5.mono hz4)
    have HT5 : Hid (Tab w5) := HT4.out.below hB5
    have hz5 := HB5.out.size
    have HTX5 : Hid (TextsAt w5 g 0 xs) := HTX.out.below hB5 hgl
    have hgl5 : g < w5.heap.size := by have := hB5.size; omega
    clear hB5 HTX HB4 HT4 hz4 hgl SP
    have HCL : Hid (∀ k, k < m + 1 → ∀ W : World, Below w5.heap.size w5 W → W.cell? ⟨g, k, none⟩ = some (.string (mk (xs.getD k [])))) := fun k hk W hW => by
      have h := (HTX5.out.below hW hgl5) k _ (getD_some (by rw [HLX.eq]; exact hk))
      rwa [Nat.zero_add] at h
    have c0 := HCL.out 0 (by omega) w5 (Below.refl _ _)
    have cm := HCL.out m (by omega) w5 (Below.refl _ _)
    rw [H0.eq] at c0
    rw [HLA.eq] at cm
    have wm : IntKind.i64.wrap (m : Int) = (m : Int) := wrapN m (by omega)
    have j0 : (0 : Int) ≤ (m : Int) := Int.natCast_nonneg _
    have j1 : (m : Int) < (m : Int) + 1 := by omega
    have j2 : (0 : Int) < (m : Int) + 1 := by omega
    go_wp2_with fail
    clear c0 cm ee
    go_loopw [10, 12, 84] (fun s10 _ i wr => ∃ k : Nat, k ≤ m + 1 ∧ i = .int .i64 k ∧ s10 = .bool ((xs.take k).contains d) ∧ Below w5.heap.size w5 wr) (fun _ _ i _ => m + 1 - (intOf i).toNat)
    case atStart => exact ⟨0, by omega, rfl, rfl, Below.refl _ _⟩
    case round =>
      obtain ⟨k, hk, rfl, rfl, hB⟩ := hrel
      have HB : Hid (Below w5.heap.size w5 wr) := hB
      have HTr : Hid (Tab wr) := HT5.out.below hB
      have hsz := hB.size
      by_cases hlt : k < m + 1
      · have i0 : (k : Int) < (m : Int) + 1 := by omega
        have j3 : (0 : Int) ≤ (k : Int) := Int.natCast_nonneg _
        have ck := HCL.out k hlt wr hB
        have BK : Hid (∀ W : World, Tab W → Calls Tryd.prog 26 #[.string (mk (xs.getD k [])), .string (mk p)] W fun e w' => e = .returned (.bool true) ∧ Below W.heap.size W w') := BX.out k hlt
        have HCT : Is ((xs.take (k + 1)).contains d) ((xs.take k).contains d || decide (xs.getD k [] = d)) := ⟨contains_take xs d k (by rw [HLX.eq]; exact hlt)⟩
        have HEQ : Is ((mk (xs.getD k [])).toList == (mk d).toList) (decide (xs.getD k [] = d)) := ⟨str_eq' _ (mk d)⟩
        clear hB
        generalize (xs.take k).contains d = b0 at *
        generalize decide (xs.getD k [] = d) = b1 at *
        have heq : ((mk (xs.getD k [])).toList == (mk d).toList) = b1 := HEQ.eq
        clear HEQ
        generalize mk (xs.getD k []) = X at *
        generalize mk d = D at *
        generalize mk p = P at *
        cases b0 with
        | true =>
          go_wp2_with (first | (go_at_call 26; refine (BK.out _ HTr.out).mono ?_; rintro e w6 ⟨rfl, hB6⟩))
          go_roundw
          case rel => exact ⟨k + 1, by omega, by go_num, by rw [HCT.eq]; rfl, HB.out.trans (hB6.mono hsz)⟩
          case measure => (simp [intOf]) <;> omega
        | false =>
          go_wp2_with (first | (go_at_call 26; refine (BK.out _ HTr.out).mono ?_; rintro e w6 ⟨rfl, hB6⟩))
          go_roundw
          case rel => exact ⟨k + 1, by omega, by go_num, by rw [HCT.eq]; simp, HB.out.trans (hB6.mono hsz)⟩
          case measure => (simp [intOf]) <;> omega
      · obtain rfl : k = m + 1 := by omega
        have i0 : ¬ ((m : Int) + 1 < (m : Int) + 1) := by omega
        have HTA : Is (xs.take (m + 1)) xs := ⟨List.take_of_length_le (by rw [HLX.eq]; omega)⟩
        rw [HTA.eq]
        have HBr : Hid (Below w.heap.size w wr) := HB5.out.trans (hB.mono hz5)
        have hzr := HBr.out.size
        clear hB
        generalize xs.contains d = b0 at *
        generalize mk d = D at *
        generalize mk p = P at *
        go_wp2_with fail
        refine (BD.out _ HTr.out).mono ?_
        rintro e w6 ⟨rfl, hB6⟩
        have HB6 : Hid (Below w.heap.size w w6) := HBr.out.trans (hB6.mono hzr)
        have HT6 : Hid (Tab w6) := HTr.out.below hB6
        have hz6 := HB6.out.size
        clear hB6
        go_wp2_with fail
        refine (U1.out _ HT6.out).mono ?_
        rintro e w7 ⟨ad7, cp7, rfl, hB7⟩
        have HB7 : Hid (Below w.heap.size w w7) := HB6.out.trans (hB7.mono hz6)
        have HT7 : Hid (Tab w7) := HT6.out.below hB7
        have hz7 := HB7.out.size
        clear hB7
        go_wp2_with fail
        refine (HW.out _ HT7.out).mono ?_
        rintro e w8 ⟨rfl, hB8⟩
        have HB8 : Hid (Below w.heap.size w w8) := HB7.out.trans (hB8.mono hz7)
        have HT8 : Hid (Tab w8) := HT7.out.below hB8
        have hz8 := HB8.out.size
        clear hB8
        go_wp2_with fail
        go_ret
        exact ⟨rfl, HB8.out⟩
end Go.Proofs.YtlgalcpnodadiaaDoor
