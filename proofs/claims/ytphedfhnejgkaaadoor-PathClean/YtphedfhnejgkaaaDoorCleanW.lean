/- Proved: the walk of the law PathClean. -/
import Derived.Test.YtphedfhnejgkaaaDoorMathL
import Derived.Test.YtphedfhnejgkaaaDoorWorks
namespace Go.Proofs.YtphedfhnejgkaaaDoor
open Go.RowKit
theorem wrapN' (k : Nat) (h : k ≤ 9223372036854775807) : IntKind.i64.wrap (k : Int) = (k : Int) := by rw [IntKind.wrap_i64]; omega
theorem libjoin_short : ∀ (l : List Pm.T), (Lib.join l [47, 47]).length ≤ 2 * l.length + (Pm.join l).length
  | [] => by simp [Lib.join_nil]
  | [n] => by rw [Lib.join_one]; simp [Pm.join]
  | n :: m :: r => by
    have ih := libjoin_short (m :: r)
    have e : Lib.join (n :: m :: r) [47, 47] = n ++ 47 :: 47 :: Lib.join (m :: r) [47, 47] := by
      rw [Lib.join_cons, Lib.join_cons]
      simp [Lib.joinTail]
    rw [e, Pm.join]
    simp only [List.length_append, List.length_cons] at ih ⊢
    omega
theorem join_parts (l : List Pm.T) (k : Nat) : (Pm.join (l.take k)).length ≤ (Pm.join l).length ∧ (Pm.join (l.drop k)).length ≤ (Pm.join l).length := by
  refine ⟨Pm.join_take_length l k, ?_⟩
  by_cases h : k < l.length
  · by_cases h0 : k = 0
    · subst h0; simp
    · have h1 : l.take k ≠ [] := by intro hh; rw [List.take_eq_nil_iff] at hh; rcases hh with h' | h'; exact h0 h'; subst h'; simp at h
      have h2 : l.drop k ≠ [] := by intro hh; rw [List.drop_eq_nil_iff] at hh; omega
      have e : (Pm.join l).length = (Pm.join (l.take k ++ l.drop k)).length := by rw [List.take_append_drop]
      rw [e, Pm.join_append _ _ h1 h2]; simp; omega
  · rw [List.drop_of_length_le (by omega)]; simp [Pm.join]
theorem joinT_any (g o cap : Nat) (l : List Pm.T) (sep : ByteArray) (w : World) (ht : TextsAt w g o l) (hg : g < w.heap.size) (hc : l.length ≤ cap) (hl : l.length ≤ 5000) (hj : (Lib.join l (bl sep)).length ≤ 100000) :
    Calls Tryd.prog 9 #[.slice (some ⟨g, o, none⟩) l.length cap, .string sep] w fun e w' => e = .returned (.string (mk (Lib.join l (bl sep)))) ∧ Below w.heap.size w w' := by
  have e1 : (l.map mk).map (fun x => x.data.toList) = l := by rw [List.map_map]; exact List.map_id _
  have c := Tryd.strings_Join g o cap (l.map mk) sep w (fun j x hj => by
    rw [List.getElem?_map] at hj
    obtain ⟨y, hy, rfl⟩ := Option.map_eq_some_iff.1 hj
    exact ht j y hy) hg (by rw [List.length_map]; omega) (by rw [List.length_map]; exact hc) (by rw [e1]; show (Lib.join l (bl sep)).length ≤ _; omega)
  rw [e1, List.length_map] at c
  exact c
theorem names_8 {c : Pm.T} (h : Pm.isP c = true) : (Pm.names c).length ≤ 8 ∧ c.length ≤ 96 := by
  rcases (Pm.isP_iff c).1 h with rfl | h
  · decide
  · exact ⟨h.deep, h.len⟩
theorem pick_mod (at_ : Int) (n : Nat) (h0 : 0 < n) : ∃ k : Nat, k < n ∧ (Int.tmod (Int.tmod at_ n + n) n) = (k : Int) ∧ -(n : Int) < Int.tmod at_ n ∧ Int.tmod at_ n < n := by
  have hn : (n : Int) ≠ 0 := by omega
  have h1 : Int.tmod at_ n < n := Int.tmod_lt_of_pos _ (by omega)
  have h2 : -(n : Int) < Int.tmod at_ n := Int.lt_tmod_of_pos _ (by omega)
  have h3 : Int.tmod (Int.tmod at_ n + n) n < n := Int.tmod_lt_of_pos _ (by omega)
  have h4 : 0 ≤ Int.tmod (Int.tmod at_ n + n) n := Int.tmod_nonneg _ (by omega)
  exact ⟨(Int.tmod (Int.tmod at_ n + n) n).toNat, by omega, by omega, h2, h1⟩
set_option maxHeartbeats 4000000 in
set_option maxRecDepth 20000 in
theorem clean_walk (s1 : ByteArray) (at_ : Int) (w : World) (hs1 : s1.size ≤ 9223372036854775807) (_hat : -9223372036854775808 ≤ at_ ∧ at_ ≤ 9223372036854775807) (hT : Tab w) :
    Calls Tryd.prog 3 #[.string s1, .int .i64 at_] w fun e w' => e = .returned (.bool true) ∧ Below w.heap.size w w' := by
  have HF1 : Hid (∀ W : World, Calls Tryd.prog 4 #[.string s1] W fun e w' => e = .returned (.string (mk (few (bl s1)))) ∧ w' = W) := fun W => few_any s1 W hs1
  have hp := few_length (bl s1)
  generalize few (bl s1) = p at *
  have C1 : Hid (∀ W : World, Tab W → Calls Tryd.prog 5 #[.string (mk p)] W fun e w' => e = .returned (.tuple #[.string (mk (Pm.clean p).1), .int .i64 ((Pm.clean p).2 : Nat)]) ∧ Below W.heap.size W w') := fun W hW => clean_any (mk p) W (by rw [mk_size]; omega) hW
  have HW : Hid (∀ W : World, Tab W → Calls Tryd.prog 6 #[] W fun e w' => e = .returned (.bool true) ∧ Below W.heap.size W w') := fun W hW => works_any W hW
  have HB0 : Hid (Below w.heap.size w w) := Below.refl _ _
  have HT0 : Hid (Tab w) := hT
  have hz0 : w.heap.size ≤ w.heap.size := Nat.le_refl _
  clear hs1 hT
  go_enter Tryd.func3, Tryd.ntmps3
  go_wp2_with fail
  refine (HF1.out _).mono ?_
  rintro e wS ⟨rfl, hwS⟩
  rw [hwS]
  clear hwS wS
  clear HF1
  go_wp2_with fail
  refine (C1.out _ HT0.out).mono ?_
  rintro e w1 ⟨rfl, hB1⟩
  have HB1 : Hid (Below w.heap.size w w1) := HB0.out.trans (hB1.mono hz0)
  have HT1 : Hid (Tab w1) := HT0.out.below hB1
  have hz1 := HB1.out.size
  clear hB1
  by_cases h0 : (Pm.clean p).2 = 0
  · have hi := clean_isP h0
    rw [h0]
    clear h0 C1
    generalize (Pm.clean p).1 = c at *
    obtain ⟨hn8, hc96⟩ := names_8 hi
    have hn0 : 0 < (Pm.names c).length := List.length_pos_iff.2 (Pm.names_ne c)
    have C2 : Hid (∀ W : World, Tab W → Calls Tryd.prog 5 #[.string (mk c)] W fun e w' => e = .returned (.tuple #[.string (mk c), .int .i64 0]) ∧ Below W.heap.size W w') := fun W hW => by
      have h := clean_any (mk c) W (by rw [mk_size]; omega) hW
      rw [show Pm.clean (bl (mk c)) = _ from clean_self hi] at h; exact h
    have K2 : Hid (∀ W : World, Tab W → Calls Tryd.prog 7 #[.string (mk c)] W fun e w' => e = .returned (.tuple #[.int .i64 ((Pm.kind c).1 : Nat), .int .i64 0]) ∧ Below W.heap.size W w') := fun W hW => by
      have h := kind_any (mk c) W (by rw [mk_size]; omega) hW
      have hi0 : (Pm.kind c).2 = 0 := by unfold Pm.isP at hi; simpa using hi
      rw [show (Pm.kind (bl (mk c))).2 = 0 from hi0] at h; exact h
    have SP : Hid (∀ W : World, Tab W → Calls Tryd.prog 8 #[.string (mk c), .string ⟨#[47]⟩] W fun e w' => e = .returned (.slice (some ⟨W.heap.size, 0, none⟩) (Pm.names c).length (Pm.names c).length) ∧ w' = W.alloc (.cells (scells (Pm.names c)).toArray 9)) := fun W hW => split_any (mk c) W (by rw [mk_size]; omega) hW
    obtain ⟨k, hk, hkm, hm1, hm2⟩ := pick_mod at_ (Pm.names c).length hn0
    obtain ⟨q1, q2⟩ := join_parts (Pm.names c) k
    rw [Pm.join_names] at q1 q2
    have q3 := libjoin_short ((Pm.names c).drop k)
    have q4 : ((Pm.names c).drop k).length ≤ 8 := by rw [List.length_drop]; omega
    have hlen : (noisy (Pm.names c) k).length ≤ 4096 := by
      unfold noisy
      simp only [List.length_append, List.length_cons, List.length_nil]
      omega
    have C3 : Hid (∀ W : World, Tab W → Calls Tryd.prog 5 #[.string (mk (noisy (Pm.names c) k))] W fun e w' => e = .returned (.tuple #[.string (mk c), .int .i64 0]) ∧ Below W.heap.size W w') := fun W hW => by
      have h := clean_any (mk (noisy (Pm.names c) k)) W (by rw [mk_size]; omega) hW
      rw [show Pm.clean (bl (mk (noisy (Pm.names c) k))) = _ from clean_noisy hi hk hlen] at h; exact h
    have J1 : Hid (∀ (g : Nat) (W : World), TextsAt W g 0 (Pm.names c) → g < W.heap.size → Calls Tryd.prog 9 #[.slice (some ⟨g, 0, none⟩) k (Pm.names c).length, .string ⟨#[47]⟩] W fun e w' => e = .returned (.string (mk (Pm.join ((Pm.names c).take k)))) ∧ Below W.heap.size W w') := fun g W ht hg => by
      have hlk : ((Pm.names c).take k).length = k := by rw [List.length_take]; omega
      have h := joinT_any g 0 (Pm.names c).length ((Pm.names c).take k) ⟨#[47]⟩ W (fun j x hj => ht j x (by
        have hjk : j < k := by
          rw [← hlk]
          exact (List.getElem?_eq_some_iff.1 hj).1
        rwa [List.getElem?_take_of_lt hjk] at hj)) hg (by omega) (by omega) (by show (Lib.join _ [47]).length ≤ _; rw [Pm.join_lib]; omega)
      rw [hlk, show Lib.join ((Pm.names c).take k) (bl ⟨#[47]⟩) = _ from Pm.join_lib _] at h
      exact h
    have J2 : Hid (∀ (g : Nat) (W : World), TextsAt W g 0 (Pm.names c) → g < W.heap.size → Calls Tryd.prog 9 #[.slice (some ⟨g, k, none⟩) ((Pm.names c).length - k) ((Pm.names c).length - k), .string ⟨#[47, 47]⟩] W fun e w' => e = .returned (.string (mk (Lib.join ((Pm.names c).drop k) [47, 47]))) ∧ Below W.heap.size W w') := fun g W ht hg => by
      have hlk : ((Pm.names c).drop k).length = (Pm.names c).length - k := by rw [List.length_drop]
      have h := joinT_any g k ((Pm.names c).length - k) ((Pm.names c).drop k) ⟨#[47, 47]⟩ W (fun j x hj => by
        rw [List.getElem?_drop] at hj
        have := ht (k + j) x hj
        rwa [Nat.zero_add] at this) hg (by omega) (by omega) (by show (Lib.join _ [47, 47]).length ≤ _; omega)
      rw [hlk] at h
      exact h
    have HX : Is ((⟨#[47, 47]⟩ : ByteArray) ++ mk (Pm.join ((Pm.names c).take k)) ++ ⟨#[47, 46, 47, 120, 47, 46, 46, 47]⟩ ++ mk (Lib.join ((Pm.names c).drop k) [47, 47]) ++ ⟨#[47]⟩) (mk (noisy (Pm.names c) k)) := ⟨bl_inj (by
      rw [bl_append, bl_append, bl_append, bl_append]; rfl)⟩
    rw [← HX.eq] at C3
    have z1 : (mk (Pm.join ((Pm.names c).take k))).size ≤ 96 := by rw [mk_size]; omega
    have z2 : (mk (Lib.join ((Pm.names c).drop k) [47, 47])).size ≤ 200 := by rw [mk_size]; omega
    have TX : Hid (∀ W : World, TextsAt (W.alloc (.cells (scells (Pm.names c)).toArray 9)) W.heap.size 0 (Pm.names c)) := fun W => textsAt_new W _ _
    clear HX hlen q1 q2 q3 q4 hi hc96
    generalize mk (Pm.join ((Pm.names c).take k)) = X1 at *
    generalize mk (Lib.join ((Pm.names c).drop k) [47, 47]) = X2 at *
    have A1 : ∀ W : World, (Op.stringOp .add ⟨#[47, 47]⟩ X1).run Tryd.prog W = .ok (.string (⟨#[47, 47]⟩ ++ X1)) W := fun W => run_string_add_sum W _ _ (by show 2 + _ ≤ _; omega)
    have A2 : ∀ W : World, (Op.stringOp .add (⟨#[47, 47]⟩ ++ X1) ⟨#[47, 46, 47, 120, 47, 46, 46, 47]⟩).run Tryd.prog W = .ok (.string (⟨#[47, 47]⟩ ++ X1 ++ ⟨#[47, 46, 47, 120, 47, 46, 46, 47]⟩)) W := fun W => run_string_add_sum W _ _ (by rw [ByteArray.size_append]; show 2 + _ + 8 ≤ _; omega)
    have A3 : ∀ W : World, (Op.stringOp .add (⟨#[47, 47]⟩ ++ X1 ++ ⟨#[47, 46, 47, 120, 47, 46, 46, 47]⟩) X2).run Tryd.prog W = .ok (.string (⟨#[47, 47]⟩ ++ X1 ++ ⟨#[47, 46, 47, 120, 47, 46, 46, 47]⟩ ++ X2)) W := fun W => run_string_add_sum W _ _ (by rw [ByteArray.size_append, ByteArray.size_append]; show 2 + _ + 8 + _ ≤ _; omega)
    have A4 : ∀ W : World, (Op.stringOp .add (⟨#[47, 47]⟩ ++ X1 ++ ⟨#[47, 46, 47, 120, 47, 46, 46, 47]⟩ ++ X2) ⟨#[47]⟩).run Tryd.prog W = .ok (.string (⟨#[47, 47]⟩ ++ X1 ++ ⟨#[47, 46, 47, 120, 47, 46, 46, 47]⟩ ++ X2 ++ ⟨#[47]⟩)) W := fun W => run_string_add_sum W _ _ (by rw [ByteArray.size_append, ByteArray.size_append, ByteArray.size_append]; show 2 + _ + 8 + _ + 1 ≤ _; omega)
    clear z1 z2
    generalize (Pm.kind c).1 = kk at *
    generalize mk c = CC at *
    go_wp2_with fail
    refine (C2.out _ HT1.out).mono ?_
    rintro e w2 ⟨rfl, hB2⟩
    have HB2 : Hid (Below w.heap.size w w2) := HB1.out.trans (hB2.mono hz1)
    have HT2 : Hid (Tab w2) := HT1.out.below hB2
    have hz2 := HB2.out.size
    clear hB2
    go_wp2_with fail
    refine (K2.out _ HT2.out).mono ?_
    rintro e w3 ⟨rfl, hB3⟩
    have HB3 : Hid (Below w.heap.size w w3) := HB2.out.trans (hB3.mono hz2)
    have HT3 : Hid (Tab w3) := HT2.out.below hB3
    have hz3 := HB3.out.size
    clear hB3
    go_wp2_with fail
    refine (SP.out _ HT3.out).mono ?_
    rintro e wS ⟨rfl, hwS⟩
    rw [hwS]
    clear hwS wS SP
    have htx := TX.out w3
    have hbA : Below w3.heap.size w3 (w3.alloc (.cells (scells (Pm.names c)).toArray 9)) := (Below.refl _ w3).alloc (Nat.le_refl _) _
    have hzA : (w3.alloc (.cells (scells (Pm.names c)).toArray 9)).heap.size = w3.heap.size + 1 := by simp
    generalize w3.alloc (.cells (scells (Pm.names c)).toArray 9) = w4 at *
    have HB4 : Hid (Below w.heap.size w w4) := HB3.out.trans (hbA.mono hz3)
    have HT4 : Hid (Tab w4) := HT3.out.below hbA
    have hz4 := HB4.out.size
    have HTX : Hid (TextsAt w4 w3.heap.size 0 (Pm.names c)) := htx
    have HZ : Hid (w3.heap.size < w4.heap.size) := by show _ < _; omega
    clear htx hbA hzA TX HB1 HT1 hz1 HB2 HT2 hz2 HB3 HT3 hz3
    generalize hN : (Pm.names c).length = n at *
    generalize w3.heap.size = g at *
    clear hN
    have i1 : (k : Int) ≤ (n : Int) := by omega
    have i2 : (0 : Int) ≤ (k : Int) := by omega
    have i3 : ¬ k = n := by omega
    have i4 : k ≤ n := by omega
    go_wp2_with fail
    clear hm1 hm2 hkm
    go_region_held3 (fun w' => Below w4.heap.size w4 w') (first | exact (Below.refl _ _).drew | assumption)
      (first
        | (go_at_call_of 9 (Value.string ⟨#[47]⟩); refine (J1.out g _ ?_ ?_).mono ?_; exact HTX.out.below (by assumption) HZ.out; exact Nat.lt_of_lt_of_le HZ.out (Below.size (by assumption)); rintro e w5 ⟨rfl, hb5⟩; have hb6 : Below w4.heap.size w4 w5 := Below.trans (by assumption) (hb5.mono (Below.size (by assumption))))
        | (go_at_call_of 9 (Value.string ⟨#[47, 47]⟩); refine (J2.out g _ ?_ ?_).mono ?_; exact HTX.out.below (by assumption) HZ.out; exact Nat.lt_of_lt_of_le HZ.out (Below.size (by assumption)); rintro e w7 ⟨rfl, hb7⟩; have hb8 : Below w4.heap.size w4 w7 := Below.trans (by assumption) (hb7.mono (Below.size (by assumption))))
        | (go_at_call 5; refine (C3.out _ ?_).mono ?_; exact HT4.out.below (by assumption); rintro e w9 ⟨rfl, hb9⟩; have hb10 : Below w4.heap.size w4 w9 := Below.trans (by assumption) (hb9.mono (Below.size (by assumption)))))
    have HB9 : Hid (Below w.heap.size w w9) := HB4.out.trans (hb10.mono hz4)
    have HT9 : Hid (Tab w9) := HT4.out.below hb10
    have hz9 := HB9.out.size
    clear hb5 hb6 hb7 hb8 hb9 hb10
    go_wp2_with fail
    refine (HW.out _ HT9.out).mono ?_
    rintro e w10 ⟨rfl, hB10⟩
    have HB10 : Hid (Below w.heap.size w w10) := HB9.out.trans (hB10.mono hz9)
    have HT10 : Hid (Tab w10) := HT9.out.below hB10
    have hz10 := HB10.out.size
    clear hB10
    go_wp2_with fail
    go_ret
    exact ⟨rfl, HB10.out⟩
  · have e0 := clean_err h0
    rw [e0]
    have hA1 : ¬ (((Pm.clean p).2 : Nat) : Int) = 0 := by omega
    have hA2 : ((((Pm.clean p).2 : Nat) : Int) == 0) = false := by simp only [beq_eq_false_iff_ne, ne_eq]; exact hA1
    clear h0 e0
    generalize (Pm.clean p).2 = ea at *
    have e1 : (mk []).toList.isEmpty = true := by rw [ByteArray.toList_eq]; rfl
    generalize mk [] = X at *
    go_wp2_with fail
    refine (HW.out _ HT1.out).mono ?_
    rintro e w2 ⟨rfl, hB2⟩
    have HB2 : Hid (Below w.heap.size w w2) := HB1.out.trans (hB2.mono hz1)
    have HT2 : Hid (Tab w2) := HT1.out.below hB2
    have hz2 := HB2.out.size
    clear hB2
    go_wp2_with fail
    go_ret
    exact ⟨rfl, HB2.out⟩
end Go.Proofs.YtphedfhnejgkaaaDoor
