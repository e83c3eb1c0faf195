/- Proved: the document's Names parts a text at each /. -/
import Derived.Test.YtealbeblkilibaaDoorJ02
namespace Go.Proofs.YtealbeblkilibaaDoor
open Go.RowKit
theorem names_snoc_slash (l : Pm.T) : Pm.names (l ++ [47]) = Pm.names l ++ [[]] := by rw [Pm.names_slash]; rfl
theorem names_snoc (l : Pm.T) {c : UInt8} (h : c ≠ 47) : Pm.names (l ++ [c]) = (Pm.names l).dropLast ++ [(Pm.names l).getLastD [] ++ [c]] := by
  induction l with
  | nil => rw [List.nil_append, Pm.names_free (by simp; exact fun e => h e.symm)]; rfl
  | cons d l ih =>
    by_cases hd : d = 47
    · subst hd
      rw [List.cons_append, Pm.names, if_pos rfl, ih, Pm.names, if_pos rfl]
      obtain ⟨n, r, e⟩ : ∃ n r, Pm.names l = n :: r := by
        cases e : Pm.names l with
        | nil => exact absurd e (Pm.names_ne l)
        | cons n r => exact ⟨n, r, rfl⟩
      rw [e]; rfl
    · obtain ⟨n, r, e1, e2⟩ := Pm.names_cons d l hd
      obtain ⟨n', r', e1', e2'⟩ := Pm.names_cons d (l ++ [c]) hd
      rw [List.cons_append, e2', e2]
      rw [ih, e1] at e1'
      cases r with
      | nil =>
        simp only [List.dropLast_singleton, List.nil_append, List.cons.injEq] at e1'
        obtain ⟨rfl, rfl⟩ := e1'
        rfl
      | cons k r =>
        rw [List.dropLast_cons_cons, List.cons_append, List.cons.injEq] at e1'
        obtain ⟨rfl, rfl⟩ := e1'
        rfl
theorem own_setLast {w : World} {N g cap m : Nat} {l : List Pm.T} {y : Pm.T} (h : w.ownsRow N 9 1 (.slice (some ⟨g, 0, none⟩) (m + 1) cap) (m + 1) (scells l)) (hl : l.length = m + 1) :
    (w.setCell ⟨g, m, none⟩ (.string (mk y))).ownsRow N 9 1 (.slice (some ⟨g, 0, none⟩) (m + 1) cap) (l.dropLast ++ [y]).length (scells (l.dropLast ++ [y])) := by
  have hl2 : (l.dropLast ++ [y]).length = m + 1 := by simp; omega
  refine ⟨by simp [scells], ?_⟩
  rcases h.2 with ⟨h1, _⟩ | ⟨g', cap', cur, hv, hN, hh, hc, hm, hs, ht⟩
  · cases h1
  · cases hv
    refine .inr ⟨g, cap, cur.setIfInBounds m (.string (mk y)), by rw [hl2], hN, heap_setCell_same w g m cur 9 _ hh, by rw [hl2]; omega, hm, by simpa using hs, ?_⟩
    rw [hl2]
    have e1 : (cur.setIfInBounds m (.string (mk y))).toList = cur.toList.set m (.string (mk y)) := by simp
    rw [e1]
    have hlen : m + 1 ≤ cur.toList.length := by rw [Array.length_toList, hs]; omega
    have e2 : (cur.toList.set m (.string (mk y))).take ((m + 1) * 1) = (cur.toList.take ((m + 1) * 1)).set m (.string (mk y)) := by rw [List.take_set]
    rw [e2, ht]
    have e3 : l = l.dropLast ++ [l.getLastD []] := by
      have hne : l ≠ [] := by intro e; rw [e] at hl; simp at hl
      rw [List.getLastD_eq_getLast?, List.getLast?_eq_some_getLast hne]
      exact (List.dropLast_concat_getLast hne).symm
    have hdl : (scells l.dropLast).length = m := by simp [scells]; omega
    have e4 : scells l = scells l.dropLast ++ [.string (mk (l.getLastD []))] := by
      conv => lhs; rw [e3]
      rw [scells, scells, List.map_append]; rfl
    rw [e4, List.set_append_right _ _ (by omega), hdl, Nat.sub_self]
    rw [scells, scells, List.map_append]; rfl
set_option maxHeartbeats 2000000 in
set_option maxRecDepth 20000 in
theorem rnames_any (s : ByteArray) (w : World) (hs : s.size ≤ 30000) :
    Calls Tryd.prog 59 #[.string s] w fun e w' => ∃ v, e = .returned v ∧ w'.ownsRow w.heap.size 9 1 v (Pm.names (bl s)).length (scells (Pm.names (bl s))) ∧ Below w.heap.size w w' := by
  have H1 : Hid ((w.alloc (.cells #[.string ⟨#[]⟩] 9)).ownsRow w.heap.size 9 1 (.slice (some ⟨w.heap.size, 0, none⟩) 1 1) 1 (scells [[]])) := owns_new w w.heap.size [[]] (by simp) (Nat.le_refl _)
  have HB1 : Hid (Below w.heap.size w (w.alloc (.cells #[.string ⟨#[]⟩] 9))) := (Below.refl _ w).alloc (Nat.le_refl _) _
  go_enter Tryd.func59, Tryd.ntmps59
  go_wp2_with fail
  generalize w.alloc (.cells #[.string ⟨#[]⟩] 9) = w1 at *
  go_loopw [3, 4] (fun v i wr => ∃ k : Nat, k ≤ s.size ∧ i = .int .i64 k ∧ wr.ownsRow w.heap.size 9 1 v (Pm.names ((bl s).take k)).length (scells (Pm.names ((bl s).take k))) ∧ Below w.heap.size w wr) (fun _ i _ => s.size - (intOf i).toNat)
  case atStart => exact ⟨0, by omega, rfl, H1.out, HB1.out⟩
  case round =>
    obtain ⟨k, hk, rfl, ho, hB⟩ := hrel
    have HB : Hid (Below w.heap.size w wr) := hB
    have HO : Hid (wr.ownsRow w.heap.size 9 1 u3 (Pm.names ((bl s).take k)).length (scells (Pm.names ((bl s).take k)))) := ho
    have hsz := hB.size
    obtain ⟨g, cap, hv, hgN, hgl, hcap, hcm, htx⟩ : ∃ g cap, u3 = .slice (some ⟨g, 0, none⟩) (Pm.names ((bl s).take k)).length cap ∧ w.heap.size ≤ g ∧ g < wr.heap.size ∧ (Pm.names ((bl s).take k)).length ≤ cap ∧ cap ≤ 9223372036854775807 ∧ TextsAt wr g 0 (Pm.names ((bl s).take k)) := by
      rcases own_shape ho with ⟨_, h⟩ | h
      · exact absurd h (Pm.names_ne _)
      · exact h
    clear hB ho H1 HB1
    subst hv
    by_cases hlt : k < s.size
    · have i0 : (k : Int) < (s.size : Int) := by omega
      have j0 : (0 : Int) ≤ (k : Int) := Int.natCast_nonneg _
      have HG : Is ((bl s)[k]?) (some (s[k]'hlt)) := ⟨bl_get s k hlt⟩
      have HTK : Is ((bl s).take (k + 1)) ((bl s).take k ++ [s[k]'hlt]) := ⟨by rw [List.take_add_one, HG.eq]; rfl⟩
      have hnl : (Pm.names ((bl s).take k)).length ≤ k + 1 := by
        rw [Pm.names_length]
        have := List.count_le_length (a := (47 : UInt8)) (l := (bl s).take k)
        rw [List.length_take] at this
        omega
      have HXL : Hid (∀ n ∈ Pm.names ((bl s).take k), n.length ≤ 30000) := fun n hn => by
        have h := name_size (mk ((bl s).take k)) (n := n) hn
        rw [mk_size, List.length_take] at h
        omega
      have HEX : Is (s.extract k (k + 1)) (mk [s[k]'hlt]) := ⟨bl_inj (by
        rw [bl_mk, bl, Lib.extract_data]
        have hkl : k < (bl s).length := by rw [bl_length]; exact hlt
        show ((bl s).drop k).take (k + 1 - k) = _
        rw [Nat.add_sub_cancel_left, List.drop_eq_getElem_cons hkl]
        have e := HG.eq
        rw [List.getElem?_eq_getElem hkl] at e
        rw [Option.some.inj e]; rfl)⟩
      obtain ⟨b, hb⟩ : ∃ b, s[k]'hlt = b := ⟨_, rfl⟩
      have gb : (s[k]'hlt).toNat = b.toNat := by rw [hb]
      rw [hb] at HTK HEX
      clear HG hb
      have HNE : Hid (Pm.names ((bl s).take k) ≠ []) := Pm.names_ne _
      by_cases h47 : b = 47
      · subst h47
        have HNX : Is (Pm.names ((bl s).take (k + 1))) (Pm.names ((bl s).take k) ++ [[]]) := ⟨by rw [HTK.eq, names_snoc_slash]⟩
        generalize Pm.names ((bl s).take k) = L at *
        have gb' : (s[k]'hlt).toNat = 47 := gb
        clear gb HEX
        go_wp2_with (first | (refine append_str rfl (.tmp 16) (.tmp 17) rfl _ w.heap.size _ L.length (scells L) rfl (own_alloc1 HO.out _) ⟨wr.heap.size, 0, none⟩ 1 ⟨#[]⟩ rfl (str_new wr ⟨#[]⟩) (by omega) (by simp; omega) ?_; intro v' w' hO2 hG2; have HO2 := (show Hid (w'.ownsRow w.heap.size 9 1 v' (L.length + 1) (scells L ++ [.string ⟨#[]⟩])) from hO2); have HB2 : Hid (Below w.heap.size w w') := HB.out.trans ((((Below.refl _ wr).alloc (Nat.le_refl _) _).mono hsz).trans (hG2.below (own_alloc1 HO.out _) (by simp; omega))); clear hO2 hG2))
        go_roundw
        case rel => exact ⟨k + 1, by omega, by go_num, by rw [HNX.eq, List.length_append, scells, List.map_append]; exact HO2.out, HB2.out⟩
        case measure => (simp [intOf]) <;> omega
      · have HNX : Is (Pm.names ((bl s).take (k + 1))) ((Pm.names ((bl s).take k)).dropLast ++ [(Pm.names ((bl s).take k)).getLastD [] ++ [b]]) := ⟨by rw [HTK.eq, names_snoc _ h47]⟩
        have hn47 : ¬ ((b.toNat : Int) = 47) := fun e => h47 (UInt8.toNat.inj (by show b.toNat = 47; omega))
        have hn47' : (((b.toNat : Int)) == 47) = false := by simp only [beq_eq_false_iff_ne, ne_eq]; exact hn47
        generalize Pm.names ((bl s).take k) = L at *
        obtain ⟨m, hm⟩ : ∃ m, L.length = m + 1 := ⟨L.length - 1, by have := List.length_pos_iff.2 HNE.out; omega⟩
        have hcell := htx m (L.getD m []) (getD_some (by omega))
        have HLD : Is (L.getLastD []) (L.getD m []) := ⟨by rw [getLastD_at, hm, Nat.add_sub_cancel]⟩
        rw [HLD.eq] at HNX
        have hxl := HXL.out _ (getD_mem (l := L) (k := m) (by omega))
        have hfz : wr.frozen? ⟨g, m, none⟩ = false := by
          rcases HO.out.2 with ⟨h, _⟩ | ⟨g', cap', cur, hv, _, hh, _⟩
          · cases h
          · cases hv
            exact frozen_of_row wr g m cur 9 hh
        have HML : Is L.length (m + 1) := ⟨hm⟩
        have HOS : Hid ((wr.setCell ⟨g, m, none⟩ (.string (mk (L.getD m [] ++ [b])))).ownsRow w.heap.size 9 1 (.slice (some ⟨g, 0, none⟩) (m + 1) cap) (L.dropLast ++ [L.getD m [] ++ [b]]).length (scells (L.dropLast ++ [L.getD m [] ++ [b]]))) := own_setLast (by have h := HO.out; rw [hm] at h; exact h) hm
        have HMK : Is (mk (L.getD m []) ++ mk [b]) (mk (L.getD m [] ++ [b])) := ⟨bl_inj (by rw [bl_append]; rfl)⟩
        have A1 : ∀ W : World, (Op.stringOp .add (mk (L.getD m [])) (s.extract k (k + 1))).run Tryd.prog W = .ok (.string (mk (L.getD m [] ++ [b]))) W := fun W => by
          rw [run_string_add_sum W _ _ (by rw [ByteArray.size_extract, mk_size]; omega), HEX.eq, HMK.eq]
        rw [Nat.zero_add] at hcell
        generalize mk (L.getD m []) = X at *
        generalize mk (L.getD m [] ++ [b]) = Y at *
        generalize b.toNat = nb at *
        have wm : IntKind.i64.wrap (m : Int) = (m : Int) := wrapN m (by omega)
        have wk : IntKind.i64.wrap ((k : Int) + 1) = (k : Int) + 1 := by rw [show (k : Int) + 1 = ((k + 1 : Nat) : Int) by omega]; exact wrapN _ (by omega)
        have j1 : (0 : Int) ≤ (m : Int) := Int.natCast_nonneg _
        have j2 : (m : Int) < (m : Int) + 1 := by omega
        have j3 : (k : Int) ≤ (k : Int) + 1 := by omega
        have j4 : (k : Int) + 1 ≤ (s.size : Int) := by omega
        clear htx HXL HEX HMK HLD hn47 hnl
        rw [hm]
        clear hm
        go_wp2_with fail
        go_region
        go_wp2_with fail
        go_roundw
        case rel => exact ⟨k + 1, by omega, by go_num, by rw [HNX.eq]; exact HOS.out, (HB.out.setCell (p := ⟨g, m, none⟩) hgN _).drew⟩
        case measure => (simp [intOf]) <;> omega
    · obtain rfl : k = s.size := by omega
      have i0 : ¬ (s.size : Int) < (s.size : Int) := by omega
      have HTA : Is ((bl s).take s.size) (bl s) := ⟨List.take_of_length_le (by rw [bl_length]; omega)⟩
      rw [HTA.eq] at HO
      rw [HTA.eq]
      go_wp2_with fail
      go_ret
      exact ⟨_, rfl, HO.out, HB.out⟩
end Go.Proofs.YtealbeblkilibaaDoor
/- Proved: the document's sign and name answer as the program's own. -/
namespace Go.Proofs.YtealbeblkilibaaDoor
open Go.RowKit
/- a name's kind by its points -/
theorem nk_bad {l : Pm.T} {c : UInt8} (hc : c ∈ l) (hs : Pm.sign c = false) (hd : c ≠ 46) : Pm.nk l = 0 := by
  rcases Pm.nk_cases l with e | e | e
  · exact e
  · have := Pm.plain_mem (Pm.nk_one e).2 hc
    rw [hs] at this; cases this
  · obtain ⟨_, a, b, rfl, ha, hb⟩ := Pm.nk_two e
    simp only [List.mem_append, List.mem_cons] at hc
    rcases hc with hc | hc | hc
    · have := Pm.plain_mem ha hc
      rw [hs] at this; cases this
    · exact absurd hc hd
    · have := Pm.plain_mem hb hc
      rw [hs] at this; cases this
theorem nk_first (l : Pm.T) : Pm.nk (46 :: l) = 0 := by
  rcases Pm.nk_cases (46 :: l) with e | e | e
  · exact e
  · exact absurd (List.mem_cons_self ..) (Pm.plain_free (Pm.nk_one e).2)
  · obtain ⟨_, a, b, h, ha, _⟩ := Pm.nk_two e
    cases a with
    | nil => exact absurd rfl (Pm.plain_ne ha)
    | cons x a =>
      rw [List.cons_append, List.cons.injEq] at h
      exact absurd (by rw [h.1]; exact List.mem_cons_self ..) (Pm.plain_free ha)
theorem nk_end (l : Pm.T) : Pm.nk (l ++ [46]) = 0 := by
  rcases Pm.nk_cases (l ++ [46]) with e | e | e
  · exact e
  · exact absurd (by simp) (Pm.plain_free (Pm.nk_one e).2)
  · obtain ⟨_, a, b, h, _, hb⟩ := Pm.nk_two e
    have hne := Pm.plain_ne hb
    rw [← List.dropLast_concat_getLast hne, ← List.cons_append, ← List.append_assoc] at h
    have h2 := (List.append_inj' h rfl).2
    rw [List.cons.injEq] at h2
    exact absurd (by rw [h2.1]; exact List.getLast_mem hne) (Pm.plain_free hb)
theorem nk_long {l : Pm.T} (h : 24 < l.length) : Pm.nk l = 0 := by unfold Pm.nk; rw [if_pos h]
theorem nk_many {l : Pm.T} (h : 1 < l.count 46) : Pm.nk l = 0 := by
  rcases Pm.nk_cases l with e | e | e
  · exact e
  · rw [List.count_eq_zero_of_not_mem (Pm.plain_free (Pm.nk_one e).2)] at h; omega
  · obtain ⟨_, a, b, rfl, ha, hb⟩ := Pm.nk_two e
    rw [List.count_append, List.count_cons_self, List.count_eq_zero_of_not_mem (Pm.plain_free ha), List.count_eq_zero_of_not_mem (Pm.plain_free hb)] at h
    omega
/- no fault in it -/
structure Fine (l : Pm.T) : Prop where
  each : ∀ c ∈ l, Pm.sign c = true ∨ c = 46
  first : ∀ t, l ≠ 46 :: t
  last : ∀ t, l ≠ t ++ [46]
theorem nk_fine {l : Pm.T} (h : Fine l) (h0 : l ≠ []) (h24 : l.length ≤ 24) (hc : l.count 46 ≤ 1) : Pm.nk l = 1 + l.count 46 := by
  have hpl : ∀ a : Pm.T, a ≠ [] → (∀ c ∈ a, c ∈ l) → 46 ∉ a → Pm.plain a = true := fun a hne hin hn => by
    unfold Pm.plain
    rw [Bool.and_eq_true]
    refine ⟨List.all_eq_true.2 fun c hc => ?_, by cases a; exact absurd rfl hne; rfl⟩
    rcases h.each c (hin c hc) with h1 | h1
    · exact h1
    · subst h1; exact absurd hc hn
  rcases Pm.index_one l 46 with ⟨_, hn⟩ | ⟨a, b, _, rfl, hn⟩
  · rw [List.count_eq_zero_of_not_mem hn, Pm.nk_of_plain (hpl l h0 (fun _ h => h) hn) h24]
  · rw [List.count_append, List.count_cons_self, List.count_eq_zero_of_not_mem hn] at hc ⊢
    have hb0 : b.count 46 = 0 := by omega
    have hbn : 46 ∉ b := List.count_eq_zero.1 hb0
    rw [hb0, Pm.nk_of_two (hpl a (fun e => h.first b (by rw [e]; rfl)) (fun c hc => by simp [hc]) hn) (hpl b (fun e => h.last a (by rw [e])) (fun c hc => by simp [hc]) hbn) h24]
set_option maxHeartbeats 1000000 in
set_option maxRecDepth 20000 in
theorem rsign_nat (n : Nat) (w : World) (hn : n < 256) :
    Calls Tryd.prog 79 #[.int .u8 (n : Int)] w fun e w' => e = .returned (.bool (signN n)) ∧ w' = w := by
  by_cases h0 : 97 ≤ n
  · skip
    by_cases h2 : n ≤ 122
    · skip
      have ge97 : ((97 : Int) ≤ (n : Int)) := by omega
      have dge97 : decide ((97 : Int) ≤ (n : Int)) = true := decide_eq_true ge97
      have le122 : ((n : Int) ≤ 122) := by omega
      have dle122 : decide ((n : Int) ≤ (122 : Int)) = true := decide_eq_true le122
      have hv : signN n = true := by
        unfold signN
        simp only [Bool.or_eq_true, Bool.and_eq_true, decide_eq_true_eq]
        omega
      rw [hv]
      clear hv
      go_enter Tryd.func79, Tryd.ntmps79
      go_wp2
      go_ret
      exact ⟨rfl, rfl⟩
    · skip
      by_cases h17 : n = 126
      · skip
        have ge97 : ((97 : Int) ≤ (n : Int)) := by omega
        have dge97 : decide ((97 : Int) ≤ (n : Int)) = true := decide_eq_true ge97
        have le122 : ¬ ((n : Int) ≤ 122) := by omega
        have dle122 : decide ((n : Int) ≤ (122 : Int)) = false := decide_eq_false le122
        have ge48 : ((48 : Int) ≤ (n : Int)) := by omega
        have dge48 : decide ((48 : Int) ≤ (n : Int)) = true := decide_eq_true ge48
        have le57 : ¬ ((n : Int) ≤ 57) := by omega
        have dle57 : decide ((n : Int) ≤ (57 : Int)) = false := decide_eq_false le57
        have eq95 : ((n : Int) == 95) = false := by simp only [beq_eq_false_iff_ne, ne_eq]; omega
        have eq45 : ((n : Int) == 45) = false := by simp only [beq_eq_false_iff_ne, ne_eq]; omega
        have eq126 : ((n : Int) == 126) = true := by simp only [beq_iff_eq]; omega
        have hv : signN n = true := by
          unfold signN
          simp only [Bool.or_eq_true, Bool.and_eq_true, decide_eq_true_eq]
          omega
        rw [hv]
        clear hv
        go_enter Tryd.func79, Tryd.ntmps79
        go_wp2
        go_ret
        exact ⟨rfl, rfl⟩
      · skip
        have ge97 : ((97 : Int) ≤ (n : Int)) := by omega
        have dge97 : decide ((97 : Int) ≤ (n : Int)) = true := decide_eq_true ge97
        have le122 : ¬ ((n : Int) ≤ 122) := by omega
        have dle122 : decide ((n : Int) ≤ (122 : Int)) = false := decide_eq_false le122
        have ge48 : ((48 : Int) ≤ (n : Int)) := by omega
        have dge48 : decide ((48 : Int) ≤ (n : Int)) = true := decide_eq_true ge48
        have le57 : ¬ ((n : Int) ≤ 57) := by omega
        have dle57 : decide ((n : Int) ≤ (57 : Int)) = false := decide_eq_false le57
        have eq95 : ((n : Int) == 95) = false := by simp only [beq_eq_false_iff_ne, ne_eq]; omega
        have eq45 : ((n : Int) == 45) = false := by simp only [beq_eq_false_iff_ne, ne_eq]; omega
        have eq126 : ((n : Int) == 126) = false := by simp only [beq_eq_false_iff_ne, ne_eq]; omega
        have hv : signN n = false := by
          unfold signN
          simp only [Bool.or_eq_false_iff, Bool.and_eq_false_iff, decide_eq_false_iff_not]
          omega
        rw [hv]
        clear hv
        go_enter Tryd.func79, Tryd.ntmps79
        go_wp2
        go_ret
        exact ⟨rfl, rfl⟩
  · skip
    by_cases h59 : 48 ≤ n
    · skip
      by_cases h61 : n ≤ 57
      · skip
        have ge97 : ¬ ((97 : Int) ≤ (n : Int)) := by omega
        have dge97 : decide ((97 : Int) ≤ (n : Int)) = false := decide_eq_false ge97
        have ge48 : ((48 : Int) ≤ (n : Int)) := by omega
        have dge48 : decide ((48 : Int) ≤ (n : Int)) = true := decide_eq_true ge48
        have le57 : ((n : Int) ≤ 57) := by omega
        have dle57 : decide ((n : Int) ≤ (57 : Int)) = true := decide_eq_true le57
        have hv : signN n = true := by
          unfold signN
          simp only [Bool.or_eq_true, Bool.and_eq_true, decide_eq_true_eq]
          omega
        rw [hv]
        clear hv
        go_enter Tryd.func79, Tryd.ntmps79
        go_wp2
        go_ret
        exact ⟨rfl, rfl⟩
      · skip
        by_cases h78 : n = 95
        · skip
          have ge97 : ¬ ((97 : Int) ≤ (n : Int)) := by omega
          have dge97 : decide ((97 : Int) ≤ (n : Int)) = false := decide_eq_false ge97
          have ge48 : ((48 : Int) ≤ (n : Int)) := by omega
          have dge48 : decide ((48 : Int) ≤ (n : Int)) = true := decide_eq_true ge48
          have le57 : ¬ ((n : Int) ≤ 57) := by omega
          have dle57 : decide ((n : Int) ≤ (57 : Int)) = false := decide_eq_false le57
          have eq95 : ((n : Int) == 95) = true := by simp only [beq_iff_eq]; omega
          have hv : signN n = true := by
            unfold signN
            simp only [Bool.or_eq_true, Bool.and_eq_true, decide_eq_true_eq]
            omega
          rw [hv]
          clear hv
          go_enter Tryd.func79, Tryd.ntmps79
          go_wp2
          go_ret
          exact ⟨rfl, rfl⟩
        · skip
          have ge97 : ¬ ((97 : Int) ≤ (n : Int)) := by omega
          have dge97 : decide ((97 : Int) ≤ (n : Int)) = false := decide_eq_false ge97
          have ge48 : ((48 : Int) ≤ (n : Int)) := by omega
          have dge48 : decide ((48 : Int) ≤ (n : Int)) = true := decide_eq_true ge48
          have le57 : ¬ ((n : Int) ≤ 57) := by omega
          have dle57 : decide ((n : Int) ≤ (57 : Int)) = false := decide_eq_false le57
          have eq95 : ((n : Int) == 95) = false := by simp only [beq_eq_false_iff_ne, ne_eq]; omega
          have eq45 : ((n : Int) == 45) = false := by simp only [beq_eq_false_iff_ne, ne_eq]; omega
          have eq126 : ((n : Int) == 126) = false := by simp only [beq_eq_false_iff_ne, ne_eq]; omega
          have hv : signN n = false := by
            unfold signN
            simp only [Bool.or_eq_false_iff, Bool.and_eq_false_iff, decide_eq_false_iff_not]
            omega
          rw [hv]
          clear hv
          go_enter Tryd.func79, Tryd.ntmps79
          go_wp2
          go_ret
          exact ⟨rfl, rfl⟩
    · skip
      by_cases h114 : n = 45
      · skip
        have ge97 : ¬ ((97 : Int) ≤ (n : Int)) := by omega
        have dge97 : decide ((97 : Int) ≤ (n : Int)) = false := decide_eq_false ge97
        have ge48 : ¬ ((48 : Int) ≤ (n : Int)) := by omega
        have dge48 : decide ((48 : Int) ≤ (n : Int)) = false := decide_eq_false ge48
        have eq95 : ((n : Int) == 95) = false := by simp only [beq_eq_false_iff_ne, ne_eq]; omega
        have eq45 : ((n : Int) == 45) = true := by simp only [beq_iff_eq]; omega
        have hv : signN n = true := by
          unfold signN
          simp only [Bool.or_eq_true, Bool.and_eq_true, decide_eq_true_eq]
          omega
        rw [hv]
        clear hv
        go_enter Tryd.func79, Tryd.ntmps79
        go_wp2
        go_ret
        exact ⟨rfl, rfl⟩
      · skip
        have ge97 : ¬ ((97 : Int) ≤ (n : Int)) := by omega
        have dge97 : decide ((97 : Int) ≤ (n : Int)) = false := decide_eq_false ge97
        have ge48 : ¬ ((48 : Int) ≤ (n : Int)) := by omega
        have dge48 : decide ((48 : Int) ≤ (n : Int)) = false := decide_eq_false ge48
        have eq95 : ((n : Int) == 95) = false := by simp only [beq_eq_false_iff_ne, ne_eq]; omega
        have eq45 : ((n : Int) == 45) = false := by simp only [beq_eq_false_iff_ne, ne_eq]; omega
        have eq126 : ((n : Int) == 126) = false := by simp only [beq_eq_false_iff_ne, ne_eq]; omega
        have hv : signN n = false := by
          unfold signN
          simp only [Bool.or_eq_false_iff, Bool.and_eq_false_iff, decide_eq_false_iff_not]
          omega
        rw [hv]
        clear hv
        go_enter Tryd.func79, Tryd.ntmps79
        go_wp2
        go_ret
        exact ⟨rfl, rfl⟩
theorem rsign_any (b : UInt8) (w : World) : Calls Tryd.prog 79 #[.int .u8 (b.toNat : Int)] w fun e w' => e = .returned (.bool (Pm.sign b)) ∧ w' = w := rsign_nat b.toNat w b.toNat_lt
end Go.Proofs.YtealbeblkilibaaDoor
/- Proved: the document's name and Kind answer as the program's own. -/
namespace Go.Proofs.YtealbeblkilibaaDoor
open Go.RowKit
/- what has been seen of a name without a fault -/
structure FineTo (l : Pm.T) (k : Nat) : Prop where
  each : ∀ c ∈ l.take k, Pm.sign c = true ∨ c = 46
  first : 0 < k → ∀ t, l ≠ 46 :: t
  last : k = l.length → ∀ t, l ≠ t ++ [46]
theorem fine_all {l : Pm.T} (h : FineTo l l.length) : Fine l := by
  refine ⟨fun c hc => h.each c (by rw [List.take_length]; exact hc), fun t e => ?_, h.last rfl⟩
  have : 0 < l.length := by rw [e]; simp
  exact h.first this t e
theorem fine_next {l : Pm.T} {k : Nat} {c : UInt8} (h : FineTo l k) (hc : l[k]? = some c) (hs : Pm.sign c = true ∨ (c = 46 ∧ k ≠ 0 ∧ k ≠ l.length - 1)) : FineTo l (k + 1) := by
  have hk : k < l.length := (List.getElem?_eq_some_iff.1 hc).1
  refine ⟨fun d hd => ?_, fun _ t e => ?_, fun hk1 t e => ?_⟩
  · rw [List.take_add_one, hc] at hd
    rcases List.mem_append.1 hd with hd | hd
    · exact h.each d hd
    · rw [show d = c by simpa using hd]
      rcases hs with hs | hs
      · exact .inl hs
      · exact .inr hs.1
  · by_cases h0 : k = 0
    · subst h0
      rw [e] at hc
      have : (46 : UInt8) = c := by simpa using hc
      subst this
      rcases hs with hs | hs
      · rw [Pm.sign_dot] at hs; cases hs
      · exact hs.2.1 rfl
    · exact h.first (by omega) t e
  · have hl : k = t.length := by rw [e] at hk1; simp at hk1; omega
    rw [e, hl, List.getElem?_append_right (Nat.le_refl _), Nat.sub_self] at hc
    have : (46 : UInt8) = c := by simpa using hc
    subst this
    rcases hs with hs | hs
    · rw [Pm.sign_dot] at hs; cases hs
    · exact hs.2.2 (by omega)
theorem count_next {l : Pm.T} {k : Nat} {c : UInt8} (hc : l[k]? = some c) : (l.take (k + 1)).count 46 = (l.take k).count 46 + if c = 46 then 1 else 0 := by
  rw [List.take_add_one, hc, List.count_append]
  congr 1
  by_cases h : c = 46
  · subst h; rfl
  · rw [if_neg h]; simp [h]
theorem dot_at_end {l : Pm.T} {k : Nat} (hc : l[k]? = some 46) (h : k = 0 ∨ k = l.length - 1) : Pm.nk l = 0 := by
  have hk : k < l.length := (List.getElem?_eq_some_iff.1 hc).1
  rcases h with rfl | h
  · cases l with
    | nil => simp at hk
    | cons d l =>
      have : d = 46 := by simpa using hc
      rw [this]; exact nk_first l
  · have hne : l ≠ [] := by rintro rfl; simp at hk
    have e : l.getLast hne = 46 := by
      rw [List.getLast_eq_getElem]
      rw [h, List.getElem?_eq_getElem (by omega)] at hc
      exact Option.some.inj hc
    rw [← List.dropLast_concat_getLast hne, e]
    exact nk_end _
set_option maxHeartbeats 2000000 in
set_option maxRecDepth 20000 in
theorem rname_any (s : ByteArray) (w : World) (hs : s.size < 4294967281) :
    Calls Tryd.prog 60 #[.string s] w fun e w' => e = .returned (.int .i64 (Pm.nk (bl s) : Nat)) ∧ w' = w := by
  go_enter Tryd.func60, Tryd.ntmps60
  go_wp2_with fail
  go_loopw [3, 4] (fun s3 s4 wr => ∃ k : Nat, k ≤ s.size ∧ s4 = .int .i64 k ∧ s3 = .int .i64 (((bl s).take k).count 46 : Nat) ∧ FineTo (bl s) k ∧ wr = w) (fun _ s4 _ => s.size - (intOf s4).toNat)
  case atStart => exact ⟨0, by omega, rfl, rfl, ⟨by simp, fun h => by omega, fun h t e => by rw [e] at h; simp at h⟩, rfl⟩
  case round =>
    obtain ⟨k, hk, rfl, rfl, hf, rfl⟩ := hrel
    have HF : Hid (FineTo (bl s) k) := hf
    have hcl : ((bl s).take k).count 46 ≤ k := by
      have := List.count_le_length (a := (46 : UInt8)) (l := (bl s).take k)
      rw [List.length_take] at this; omega
    have hbl := bl_length s
    clear hf
    by_cases hlt : k < s.size
    · have i0 : (k : Int) < (s.size : Int) := by omega
      have j0 : (0 : Int) ≤ (k : Int) := Int.natCast_nonneg _
      have HG : Is ((bl s)[k]?) (some (s[k]'hlt)) := ⟨bl_get s k hlt⟩
      obtain ⟨b, hb⟩ : ∃ b, s[k]'hlt = b := ⟨_, rfl⟩
      have gb : (s[k]'hlt).toNat = b.toNat := by rw [hb]
      rw [hb] at HG
      have HCN := (show Is _ _ from ⟨count_next (l := bl s) HG.eq⟩)
      have RS : Hid (∀ W : World, Calls Tryd.prog 79 #[.int .u8 (b.toNat : Int)] W fun e w' => e = .returned (.bool (Pm.sign b)) ∧ w' = W) := fun W => rsign_any b W
      clear hb
      by_cases h46 : b = 46
      · rw [if_pos h46] at HCN
        subst h46
        have gb' : (s[k]'hlt).toNat = 46 := gb
        have w1 : IntKind.i64.wrap ((((bl s).take k).count 46 : Nat) + 1 : Int) = ((((bl s).take k).count 46 : Nat) : Int) + 1 := by rw [IntKind.wrap_i64]; omega
        have w2 : IntKind.i64.wrap ((s.size : Int) - 1) = (s.size : Int) - 1 := by rw [IntKind.wrap_i64]; omega
        clear gb
        by_cases he : k = 0 ∨ k = s.size - 1
        · have HN : Is (Pm.nk (bl s)) 0 := ⟨dot_at_end HG.eq (by rw [hbl]; exact he)⟩
          clear HG HCN hbl HF RS
          generalize ((bl s).take k).count 46 = cn at *
          by_cases hk0 : k = 0
          · have k1 : ((k : Int) == 0) = true := by simp only [beq_iff_eq]; omega
            clear he hk0 hcl
            go_wp2_with fail
            go_ret
            exact ⟨by rw [HN.eq]; rfl, rfl⟩
          · have k1 : ((k : Int) == 0) = false := by simp only [beq_eq_false_iff_ne, ne_eq]; omega
            have k2 : ((k : Int) == (s.size : Int) - 1) = true := by simp only [beq_iff_eq]; omega
            clear he hk0 hcl
            go_wp2_with fail
            go_ret
            exact ⟨by rw [HN.eq]; rfl, rfl⟩
        · have k0 : ¬ k = 0 := fun e => he (.inl e)
          have k9 : ¬ k = s.size - 1 := fun e => he (.inr e)
          have HF' : Hid (FineTo (bl s) (k + 1)) := fine_next HF.out HG.eq (.inr ⟨rfl, k0, by rw [hbl]; exact k9⟩)
          have k1 : ((k : Int) == 0) = false := by simp only [beq_eq_false_iff_ne, ne_eq]; omega
          have k2 : ((k : Int) == (s.size : Int) - 1) = false := by simp only [beq_eq_false_iff_ne, ne_eq]; omega
          clear HG he k0 k9 hbl HF RS
          go_wp2_with fail
          go_roundw
          case rel => exact ⟨k + 1, by omega, by go_num, by rw [HCN.eq]; rfl, HF'.out, by first | rfl | trivial⟩
          case measure => (simp [intOf]) <;> omega
      · rw [if_neg h46] at HCN
        have n46 : ¬ ((b.toNat : Int) = 46) := fun e => h46 (UInt8.toNat.inj (by show b.toNat = 46; omega))
        have n46' : ((b.toNat : Int) == 46) = false := by simp only [beq_eq_false_iff_ne, ne_eq]; exact n46
        cases hsg : Pm.sign b with
        | true =>
          have HF' : Hid (FineTo (bl s) (k + 1)) := fine_next HF.out HG.eq (.inl hsg)
          rw [hsg] at RS
          clear HG hbl h46 n46 hsg
          generalize b.toNat = nb at *
          go_wp2_with fail
          refine (RS.out _).mono ?_
          rintro e wS ⟨rfl, hwS⟩
          rw [hwS]
          clear hwS wS
          go_wp2_with fail
          go_roundw
          case rel => exact ⟨k + 1, by omega, by go_num, by rw [HCN.eq]; rfl, HF'.out, by first | rfl | trivial⟩
          case measure => (simp [intOf]) <;> omega
        | false =>
          have HN : Is (Pm.nk (bl s)) 0 := ⟨nk_bad (List.mem_of_getElem? HG.eq) hsg h46⟩
          rw [hsg] at RS
          clear HG hbl h46 n46 hsg HCN
          generalize b.toNat = nb at *
          go_wp2_with fail
          refine (RS.out _).mono ?_
          rintro e wS ⟨rfl, hwS⟩
          rw [hwS]
          clear hwS wS
          go_wp2_with fail
          go_ret
          exact ⟨by rw [HN.eq]; rfl, rfl⟩
    · obtain rfl : k = s.size := by omega
      have i0 : ¬ (s.size : Int) < (s.size : Int) := by omega
      have HTA : Is ((bl s).take s.size) (bl s) := ⟨List.take_of_length_le (by rw [bl_length]; omega)⟩
      rw [HTA.eq] at hcl
      rw [HTA.eq]
      have hfine : Fine (bl s) := fine_all (by rw [hbl]; exact HF.out)
      by_cases h0 : s.size = 0
      · have HN : Is (Pm.nk (bl s)) 0 := ⟨by have : bl s = [] := List.eq_nil_of_length_eq_zero (by rw [hbl, h0]); rw [this]; decide⟩
        have i1 : ((s.size : Int) == 0) = true := by simp only [beq_iff_eq]; omega
        clear hfine hbl
        generalize (bl s).count 46 = cn at *
        go_wp2_with fail
        go_ret
        exact ⟨by rw [HN.eq]; rfl, rfl⟩
      · have i1 : ((s.size : Int) == 0) = false := by simp only [beq_eq_false_iff_ne, ne_eq]; omega
        by_cases h24 : 24 < s.size
        · have HN : Is (Pm.nk (bl s)) 0 := ⟨nk_long (by rw [hbl]; exact h24)⟩
          have i2 : (24 : Int) < (s.size : Int) := by omega
          clear hfine hbl h0
          generalize (bl s).count 46 = cn at *
          go_wp2_with fail
          go_ret
          exact ⟨by rw [HN.eq]; rfl, rfl⟩
        · have i2 : ¬ (24 : Int) < (s.size : Int) := by omega
          have i2' : decide ((24 : Int) < (s.size : Int)) = false := decide_eq_false i2
          by_cases h1 : 1 < (bl s).count 46
          · have HN : Is (Pm.nk (bl s)) 0 := ⟨nk_many h1⟩
            have i3 : (1 : Int) < ((((bl s).count 46 : Nat)) : Int) := by omega
            clear hfine hbl h0
            generalize (bl s).count 46 = cn at *
            go_wp2_with fail
            go_ret
            exact ⟨by rw [HN.eq]; rfl, rfl⟩
          · have HN : Is (Pm.nk (bl s)) (1 + (bl s).count 46) := ⟨nk_fine hfine (by intro e; rw [e] at hbl; simp at hbl; omega) (by omega) (by omega)⟩
            have i3 : ¬ (1 : Int) < ((((bl s).count 46 : Nat)) : Int) := by omega
            have w1 : IntKind.i64.wrap (1 + (((bl s).count 46 : Nat) : Int)) = 1 + (((bl s).count 46 : Nat) : Int) := by rw [IntKind.wrap_i64]; omega
            clear hfine hbl h0
            generalize (bl s).count 46 = cn at *
            go_wp2_with fail
            go_ret
            exact ⟨by rw [HN.eq]; rfl, rfl⟩
end Go.Proofs.YtealbeblkilibaaDoor
/- Proved: the document's Kind answers as the program's. -/
namespace Go.Proofs.YtealbeblkilibaaDoor
open Go.RowKit
theorem rnames_row (s : ByteArray) (w : World) (hs : s.size ≤ 30000) :
    Calls Tryd.prog 59 #[.string s] w fun e w' => ∃ g cap, e = .returned (.slice (some ⟨g, 0, none⟩) (Pm.names (bl s)).length cap) ∧ w.heap.size ≤ g ∧ g < w'.heap.size ∧ (Pm.names (bl s)).length ≤ cap ∧ cap ≤ 9223372036854775807 ∧ TextsAt w' g 0 (Pm.names (bl s)) ∧ Below w.heap.size w w' := by
  refine (rnames_any s w hs).mono ?_
  rintro e w' ⟨v, rfl, ho, hb⟩
  rcases own_shape ho with ⟨_, h⟩ | ⟨g, cap, hv, h1, h2, h3, h4, h5⟩
  · exact absurd h (Pm.names_ne _)
  · subst hv
    exact ⟨g, cap, rfl, h1, h2, h3, h4, h5, hb⟩
set_option maxHeartbeats 2000000 in
set_option maxRecDepth 20000 in
theorem rkind_any (s : ByteArray) (w : World) (hs : s.size ≤ 30000) :
    Calls Tryd.prog 38 #[.string s] w fun e w' => e = .returned (.tuple #[.int .i64 ((Pm.kind (bl s)).1 : Nat), .int .i64 ((Pm.kind (bl s)).2 : Nat)]) ∧ Below w.heap.size w w' := by
  have HK : Is (Pm.kind (bl s)) (if 96 < s.size then (0, 3) else if bl s = [] then (1, 0) else if Pm.good (Pm.names (bl s)) = false then (0, 18) else if 8 < (Pm.names (bl s)).length then (0, 7) else (Pm.nk ((Pm.names (bl s)).getLastD []), 0)) := ⟨by rw [← bl_length s]; rfl⟩
  by_cases h96 : 96 < s.size
  · have h96' : (96 : Int) < (s.size : Int) := by omega
    rw [if_pos h96] at HK
    go_enter Tryd.func38, Tryd.ntmps38
    go_wp2
    go_ret2
    exact ⟨by rw [HK.eq]; rfl, Below.refl _ _⟩
  · have h96' : ¬ (96 : Int) < (s.size : Int) := by omega
    rw [if_neg h96] at HK
    by_cases he : bl s = []
    · rw [if_pos he] at HK
      obtain rfl : s = ⟨#[]⟩ := bl_inj he
      go_enter Tryd.func38, Tryd.ntmps38
      go_wp2
      go_ret2
      exact ⟨by rw [HK.eq]; rfl, Below.refl _ _⟩
    · rw [if_neg he] at HK
      have hte : s.toList.isEmpty = false := te_bl he
      have HNS : Hid (∀ n ∈ Pm.names (bl s), n.length < 4294967281) := fun n hn => by have := name_size s hn; omega
      have hL0 : 0 < (Pm.names (bl s)).length := List.length_pos_iff.2 (Pm.names_ne _)
      have hL1 := names_size s
      go_enter Tryd.func38, Tryd.ntmps38
      go_wp2_with fail
      refine (rnames_row s w hs).mono ?_
      rintro e w1 ⟨g, cap, rfl, hg0, hg1, hcap, hcm, hX, hB⟩
      have HB : Hid (Below w.heap.size w w1) := hB
      generalize Pm.names (bl s) = L at *
      obtain ⟨n, hn⟩ : ∃ n, L.length = n + 1 := ⟨L.length - 1, by omega⟩
      have HLn : Is L.length (n + 1) := ⟨hn⟩
      rw [hn] at hL1
      have HNM : Hid (∀ k, k < n + 1 → ∀ W : World, Calls Tryd.prog 60 #[.string (mk (L.getD k []))] W fun e w' => e = .returned (.int .i64 (Pm.nk (L.getD k []) : Nat)) ∧ w' = W) := fun k hk W => rname_any (mk (L.getD k [])) W (HNS.out _ (getD_mem (by rw [HLn.eq]; exact hk)))
      have HCL : Hid (∀ k, k < n + 1 → w1.cell? ⟨g, k, none⟩ = some (.string (mk (L.getD k [])))) := fun k hk => by
        have h := hX k _ (getD_some (by rw [HLn.eq]; exact hk))
        rwa [Nat.zero_add] at h
      rw [hn]
      rw [HLn.eq] at HK
      clear hL0 hX hB hcap hcm hg0 hg1 hn HNS
      go_wp2_with fail
      go_loopw [5] (fun i wr => ∃ k : Nat, k ≤ n + 1 ∧ i = .int .i64 k ∧ ((∀ j, j < k → j < n → Pm.nk (L.getD j []) = 1) ∧ (k = n + 1 → Pm.nk (L.getD n []) ≠ 0)) ∧ wr = w1) (fun i _ => n + 1 - (intOf i).toNat)
      case atStart => exact ⟨0, by omega, rfl, ⟨fun j hj => by omega, fun h => by omega⟩, rfl⟩
      case round =>
        obtain ⟨k, hk, rfl, hd, rfl⟩ := hrel
        have HD : Hid ((∀ j, j < k → j < n → Pm.nk (L.getD j []) = 1) ∧ (k = n + 1 → Pm.nk (L.getD n []) ≠ 0)) := hd
        clear hd
        by_cases hlt : k < n + 1
        · have i0 : (k : Int) < (n : Int) + 1 := by omega
          have j0 : (0 : Int) ≤ (k : Int) := Int.natCast_nonneg _
          have c0 := HCL.out k hlt
          have CN : Hid (∀ W : World, Calls Tryd.prog 60 #[.string (mk (L.getD k []))] W fun e w' => e = .returned (.int .i64 (Pm.nk (L.getD k []) : Nat)) ∧ w' = W) := HNM.out k hlt
          have wk : IntKind.i64.wrap ((k : Int) + 1) = (k : Int) + 1 := by rw [show (k : Int) + 1 = ((k + 1 : Nat) : Int) by omega]; exact wrapN _ (by omega)
          rcases Pm.nk_cases (L.getD k []) with h1 | h1 | h1
          · have hG : Pm.good L = false := by
              by_cases hkn : k < n
              · exact good_no (k := k) (by rw [HLn.eq]; omega) (by rw [h1]; decide)
              · obtain rfl : k = n := by omega
                rw [good_by (fun j hj => HD.out.1 j (by rw [HLn.eq] at hj; omega) (by rw [HLn.eq] at hj; omega)), getLastD_at, HLn.eq, Nat.add_sub_cancel, h1]; rfl
            rw [if_pos hG] at HK
            clear hG
            rw [h1] at CN
            clear h1 HD HCL HNM
            generalize mk (L.getD k []) = x at *
            go_wp2_with fail
            refine (CN.out _).mono ?_
            rintro e wS ⟨rfl, hwS⟩
            rw [hwS]
            clear hwS wS
            go_wp2_with fail
            go_ret2
            exact ⟨by rw [HK.eq]; rfl, HB.out⟩
          · have HD' : Hid ((∀ j, j < k + 1 → j < n → Pm.nk (L.getD j []) = 1) ∧ (k + 1 = n + 1 → Pm.nk (L.getD n []) ≠ 0)) := ⟨fun j hj hjn => by
              by_cases h : j = k
              · subst h; exact h1
              · exact HD.out.1 j (by omega) hjn, fun e => by obtain rfl : k = n := by omega
                                                             rw [h1]; decide⟩
            rw [h1] at CN
            clear h1 HD HCL HNM
            generalize mk (L.getD k []) = x at *
            go_wp2_with fail
            refine (CN.out _).mono ?_
            rintro e wS ⟨rfl, hwS⟩
            rw [hwS]
            clear hwS wS
            go_wp2_with fail
            refine (CN.out _).mono ?_
            rintro e wS ⟨rfl, hwS⟩
            rw [hwS]
            clear hwS wS
            go_wp2_with fail
            go_roundw
            case rel => exact ⟨k + 1, by omega, by go_num, HD'.out, by first | rfl | trivial⟩
            case measure => (simp [intOf]) <;> omega
          · by_cases hkn : k < n
            · have hG : Pm.good L = false := good_no (k := k) (by rw [HLn.eq]; omega) (by rw [h1]; decide)
              rw [if_pos hG] at HK
              have i1 : (k : Int) + 1 < (n : Int) + 1 := by omega
              have i2 : decide ((k : Int) + 1 < (n : Int) + 1) = true := decide_eq_true i1
              clear hG
              rw [h1] at CN
              clear h1 HD HCL HNM
              generalize mk (L.getD k []) = x at *
              go_wp2_with fail
              refine (CN.out _).mono ?_
              rintro e wS ⟨rfl, hwS⟩
              rw [hwS]
              clear hwS wS
              go_wp2_with fail
              refine (CN.out _).mono ?_
              rintro e wS ⟨rfl, hwS⟩
              rw [hwS]
              clear hwS wS
              go_wp2_with fail
              go_ret2
              exact ⟨by rw [HK.eq]; rfl, HB.out⟩
            · have HD' : Hid ((∀ j, j < k + 1 → j < n → Pm.nk (L.getD j []) = 1) ∧ (k + 1 = n + 1 → Pm.nk (L.getD n []) ≠ 0)) := ⟨fun j hj hjn => HD.out.1 j (by omega) hjn, fun e => by
                obtain rfl : k = n := by omega
                rw [h1]; decide⟩
              have i1 : ¬ (k : Int) + 1 < (n : Int) + 1 := by omega
              have i2 : decide ((k : Int) + 1 < (n : Int) + 1) = false := decide_eq_false i1
              rw [h1] at CN
              clear h1 HD HCL HNM
              generalize mk (L.getD k []) = x at *
              go_wp2_with fail
              refine (CN.out _).mono ?_
              rintro e wS ⟨rfl, hwS⟩
              rw [hwS]
              clear hwS wS
              go_wp2_with fail
              refine (CN.out _).mono ?_
              rintro e wS ⟨rfl, hwS⟩
              rw [hwS]
              clear hwS wS
              go_wp2_with fail
              go_roundw
              case rel => exact ⟨k + 1, by omega, by go_num, HD'.out, by first | rfl | trivial⟩
              case measure => (simp [intOf]) <;> omega
        · obtain rfl : k = n + 1 := by omega
          have i0 : ¬ ((n : Int) + 1 < (n : Int) + 1) := by omega
          have i1 : (n : Int) < (n : Int) + 1 := by omega
          have j0 : (0 : Int) ≤ (n : Int) := Int.natCast_nonneg _
          have c0 := HCL.out n (by omega)
          have CN : Hid (∀ W : World, Calls Tryd.prog 60 #[.string (mk (L.getD n []))] W fun e w' => e = .returned (.int .i64 (Pm.nk (L.getD n []) : Nat)) ∧ w' = W) := HNM.out n (by omega)
          have HG : Is (Pm.good L) true := ⟨by
            rw [good_by (fun j hj => HD.out.1 j (by rw [HLn.eq] at hj; omega) (by rw [HLn.eq] at hj; omega)), getLastD_at, HLn.eq, Nat.add_sub_cancel]
            have := HD.out.2 rfl
            simpa using this⟩
          have HGL : Is (L.getLastD []) (L.getD n []) := ⟨by rw [getLastD_at, HLn.eq, Nat.add_sub_cancel]⟩
          rw [if_neg (by rw [HG.eq]; decide), HGL.eq] at HK
          clear HG HGL HD HCL HNM
          generalize Pm.nk (L.getD n []) = kk at *
          generalize mk (L.getD n []) = x at *
          by_cases h8 : 8 < n + 1
          · have h8' : (8 : Int) < (n : Int) + 1 := by omega
            rw [if_pos h8] at HK
            go_wp2_with fail
            go_ret2
            exact ⟨by rw [HK.eq]; rfl, HB.out⟩
          · have h8' : ¬ (8 : Int) < (n : Int) + 1 := by omega
            rw [if_neg h8] at HK
            go_wp2_with fail
            refine (CN.out _).mono ?_
            rintro e wS ⟨rfl, hwS⟩
            rw [hwS]
            clear hwS wS
            go_wp2_with fail
            go_ret2
            exact ⟨by rw [HK.eq]; rfl, HB.out⟩
end Go.Proofs.YtealbeblkilibaaDoor
/- Proved: the document's sure, Is and Split answer as the program's own. -/
namespace Go.Proofs.YtealbeblkilibaaDoor
open Go.RowKit
theorem own_mono {w : World} {N M n : Nat} {v : Value} {vs : List Value} {e : TypeId} {k : Nat} (h : w.ownsRow N e k v n vs) (hM : M ≤ N) : w.ownsRow M e k v n vs := by
  refine ⟨h.1, ?_⟩
  rcases h.2 with h2 | ⟨g, cap, cur, hv, hN, hr⟩
  · exact .inl h2
  · exact .inr ⟨g, cap, cur, hv, Nat.le_trans hM hN, hr⟩
set_option maxHeartbeats 1000000 in
set_option maxRecDepth 20000 in
theorem ris_any (s : ByteArray) (w : World) (hs : s.size ≤ 30000) :
    Calls Tryd.prog 61 #[.string s] w fun e w' => e = .returned (.bool (Pm.isP (bl s))) ∧ Below w.heap.size w w' := by
  have HC : Is (Pm.isP (bl s)) ((Pm.kind (bl s)).2 == 0) := ⟨rfl⟩
  have HKN : Hid (∀ W : World, Calls Tryd.prog 38 #[.string s] W fun e w' => e = .returned (.tuple #[.int .i64 ((Pm.kind (bl s)).1 : Nat), .int .i64 ((Pm.kind (bl s)).2 : Nat)]) ∧ Below W.heap.size W w') := fun W => rkind_any s W hs
  generalize (Pm.kind (bl s)).1 = k1 at *
  generalize (Pm.kind (bl s)).2 = k2 at *
  go_enter Tryd.func61, Tryd.ntmps61
  by_cases h0 : k2 = 0
  · subst h0
    go_wp2_with (first | (go_at_call 38; refine (HKN.out _).mono ?_; rintro e w1 ⟨rfl, hB1⟩))
    go_ret
    exact ⟨by rw [HC.eq]; rfl, hB1⟩
  · have h0' : (((k2 : Nat) : Int) == 0) = false := by simp only [beq_eq_false_iff_ne, ne_eq]; omega
    have h0'' : (k2 == 0) = false := by simp only [beq_eq_false_iff_ne, ne_eq]; omega
    rw [h0''] at HC
    clear h0 h0''
    go_wp2_with (first | (go_at_call 38; refine (HKN.out _).mono ?_; rintro e w1 ⟨rfl, hB1⟩))
    go_ret
    exact ⟨by rw [HC.eq]; rfl, hB1⟩
set_option maxHeartbeats 1000000 in
set_option maxRecDepth 20000 in
theorem rsplit_any (s : ByteArray) (w : World) (hs : s.size ≤ 30000) :
    Calls Tryd.prog 39 #[.string s] w fun e w' => ∃ v, e = .returned v ∧ w'.ownsRow w.heap.size 9 1 v (Pm.split (bl s)).length (scells (Pm.split (bl s))) ∧ Below w.heap.size w w' := by
  rcases Pm.cases_isP (bl s) with h0 | hn | hp
  · obtain rfl : s = ⟨#[]⟩ := bl_inj h0
    have HI : Hid (Calls Tryd.prog 61 #[.string ⟨#[]⟩] w fun e w' => e = .returned (.bool true) ∧ Below w.heap.size w w') := ris_any ⟨#[]⟩ w hs
    go_enter Tryd.func39, Tryd.ntmps39
    go_wp2_with (first | (go_at_call 61; refine (show Calls _ _ _ _ _ from HI.out).mono ?_; rintro e w1 ⟨rfl, hB1⟩))
    go_ret
    exact ⟨_, rfl, ⟨rfl, .inl ⟨rfl, rfl⟩⟩, hB1⟩
  · have HI : Hid (Calls Tryd.prog 61 #[.string s] w fun e w' => e = .returned (.bool false) ∧ Below w.heap.size w w') := by
      have h := ris_any s w hs
      rw [hn] at h; exact h
    have HP : Is (Pm.split (bl s)) [] := ⟨Pm.split_no hn⟩
    clear hn
    go_enter Tryd.func39, Tryd.ntmps39
    go_wp2_with (first | (go_at_call 61; refine (show Calls _ _ _ _ _ from HI.out).mono ?_; rintro e w1 ⟨rfl, hB1⟩))
    go_ret
    rw [HP.eq]
    exact ⟨_, rfl, ⟨rfl, .inl ⟨rfl, rfl⟩⟩, hB1⟩
  · have HI : Hid (Calls Tryd.prog 61 #[.string s] w fun e w' => e = .returned (.bool true) ∧ Below w.heap.size w w') := by
      have h := ris_any s w hs
      rw [(Pm.isP_iff _).2 (.inr hp)] at h; exact h
    have hte : s.toList.isEmpty = false := te_bl hp.ne
    have HP : Is (Pm.split (bl s)) (Pm.names (bl s)) := ⟨Pm.split_path hp⟩
    have HSP := (show Hid (∀ W : World, Calls Tryd.prog 59 #[.string s] W fun e w' => ∃ v, e = .returned v ∧ w'.ownsRow W.heap.size 9 1 v (Pm.names (bl s)).length (scells (Pm.names (bl s))) ∧ Below W.heap.size W w') from fun W => rnames_any s W hs)
    clear hp
    go_enter Tryd.func39, Tryd.ntmps39
    go_wp2_with fail
    refine (show Calls _ _ _ _ _ from HI.out).mono ?_
    rintro e w1 ⟨rfl, hB1⟩
    have HB1 : Hid (Below w.heap.size w w1) := hB1
    have hz1 := hB1.size
    clear hB1
    go_wp2_with fail
    refine (HSP.out _).mono ?_
    rintro e w2 ⟨v, rfl, ho, hB2⟩
    have HO : Hid (w2.ownsRow w1.heap.size 9 1 v (Pm.names (bl s)).length (scells (Pm.names (bl s)))) := ho
    have HB2 : Hid (Below w.heap.size w w2) := HB1.out.trans (hB2.mono hz1)
    clear ho hB2
    go_wp2_with fail
    go_ret
    rw [HP.eq]
    exact ⟨v, rfl, own_mono HO.out hz1, HB2.out⟩
end Go.Proofs.YtealbeblkilibaaDoor
/- Proved: Key answers the parts of a path's names, the program's and the document's. -/
namespace Go.Proofs.YtealbeblkilibaaDoor
open Go.RowKit
open Ino (Pt)
set_option maxHeartbeats 1000000 in
set_option maxRecDepth 20000 in
theorem key_any (s : ByteArray) (w : World) (hs : s.size ≤ 30000) (hT : Tab w) : Calls Tryd.prog 9 #[.string s] w fun e w' => ∃ v, e = .returned (.tuple #[v, .int .i64 ((Pm.kind (bl s)).2 : Nat)]) ∧ w'.ownsRow w.heap.size 24 3 v (Ino.keyL (bl s)).length ((Ino.keyL (bl s)).flatMap pcells) ∧ Below w.heap.size w w' := by
  have KD : Hid (∀ W : World, Tab W → Calls Tryd.prog 35 #[.string s] W fun e w' => e = .returned (.tuple #[.int .i64 ((Pm.kind (bl s)).1 : Nat), .int .i64 ((Pm.kind (bl s)).2 : Nat)]) ∧ Below W.heap.size W w') := fun W hW => kind_any s W (by omega) hW
  have SP : Hid (∀ W : World, Tab W → Calls Tryd.prog 36 #[.string s] W fun e w' => ∃ v, e = .returned v ∧ w'.ownsRow W.heap.size 9 1 v (Pm.split (bl s)).length (scells (Pm.split (bl s))) ∧ Below W.heap.size W w') := fun W hW => psplit_any s W (by omega) hW
  have HT : Hid (Tab w) := hT
  clear hT
  have hL8 := split_small (bl s)
  have HKL : Is (Ino.keyL (bl s)) ((Pm.split (bl s)).map Ino.txt) := ⟨rfl⟩
  by_cases h0 : (Pm.kind (bl s)).2 = 0
  · rw [h0] at KD ⊢
    clear h0
    generalize (Pm.kind (bl s)).1 = k1 at *
    generalize Ino.keyL (bl s) = KL at *
    generalize Pm.split (bl s) = L at *
    go_enter Tryd.func9, Tryd.ntmps9
    go_wp2_with fail
    refine (KD.out _ HT.out).mono ?_
    rintro e w1 ⟨rfl, hB1⟩
    have HB1 : Hid (Below w.heap.size w w1) := hB1
    have hz1 := hB1.size
    have HT1 : Hid (Tab w1) := HT.out.below hB1
    clear hB1
    go_wp2_with fail
    refine (SP.out _ HT1.out).mono ?_
    rintro e w2 ⟨v, rfl, ho, hB2⟩
    obtain ⟨ad, cp, rfl, hat⟩ := own_slice ho
    have HB2 : Hid (Below w.heap.size w w2) := HB1.out.trans (hB2.mono hz1)
    have hz2 := HB2.out.size
    have HAT : Hid (0 < L.length → ∃ g, ad = some ⟨g, 0, none⟩ ∧ g < w2.heap.size ∧ TextsAt w2 g 0 L) := hat
    clear ho hB2 hat
    obtain ⟨n, hn⟩ : ∃ n, n = L.length := ⟨_, rfl⟩
    have HLn : Is n L.length := ⟨hn⟩
    rw [← hn] at hL8
    rw [← hn]
    rw [← hn] at HAT
    clear hn
    go_wp2_with fail
    go_loopw [6, 20] (fun v6 i wr => ∃ (k : Nat) (V : Value), k ≤ n ∧ i = .int .i64 k ∧ V = v6 ∧ wr.ownsRow w2.heap.size 24 3 V k (((L.take k).map Ino.txt).flatMap pcells) ∧ Below w2.heap.size w2 wr) (fun _ i _ => n - (intOf i).toNat)
    case atStart => exact ⟨0, _, by omega, rfl, rfl, own_nil _ _, Below.refl _ _⟩
    case round =>
      obtain ⟨k, V, hk, rfl, rfl, hO, hB⟩ := hrel
      have HO : Hid (wr.ownsRow w2.heap.size 24 3 V k (((L.take k).map Ino.txt).flatMap pcells)) := hO
      have HB : Hid (Below w2.heap.size w2 wr) := hB
      have hsz := hB.size
      clear hO hB
      by_cases hlt : k < n
      · have i0 : (k : Int) < (n : Int) := by omega
        have j0 : (0 : Int) ≤ (k : Int) := Int.natCast_nonneg _
        obtain ⟨g, rfl, hg, hX⟩ := HAT.out (by omega)
        have c0 : wr.cell? ⟨g, k, none⟩ = some (.string (mk (L.getD k []))) := by
          have h := (hX.below HB.out hg) k _ (getD_some (by rw [← HLn.eq]; exact hlt))
          rwa [Nat.zero_add] at h
        have HE : Is ((L.take (k + 1)).map Ino.txt) ((L.take k).map Ino.txt ++ [⟨2, 0, mk (L.getD k [])⟩]) := ⟨by
          have hkl : k < L.length := by rw [← HLn.eq]; exact hlt
          rw [List.take_succ_eq_append_getElem hkl, List.map_append, List.getD_eq_getElem?_getD, List.getElem?_eq_getElem hkl]; rfl⟩
        clear hX HAT
        generalize mk (L.getD k []) = x at *
        go_wp2_with fail
        refine (text_any x wr).mono ?_
        rintro e w5 ⟨rfl, hB5⟩
        have HO5 : Hid (w5.ownsRow w2.heap.size 24 3 V k (((L.take k).map Ino.txt).flatMap pcells)) := own_below HO.out hB5
        have HB5 : Hid (Below w2.heap.size w2 w5) := HB.out.trans (hB5.mono hsz)
        have hz5 := HB5.out.size
        clear hB5 HO HB hsz c0
        go_wp2_with (first | (at_builtin; refine append_part rfl (.tmp 24) (.tmp 27) rfl _ w2.heap.size _ k _ rfl (own_alloc1 HO5.out _) ⟨w5.heap.size, 0, none⟩ 1 ⟨2, 0, x⟩ rfl (part_new w5 ⟨2, 0, x⟩) (by omega) (by simp; omega) ?_; intro v8 w8 hO8 hB8; rw [← HE.eq] at hO8; have HF : Hid (w8.ownsRow w2.heap.size 24 3 v8 (k + 1) (((L.take (k + 1)).map Ino.txt).flatMap pcells)) := hO8; have HBF : Hid (Below w2.heap.size w2 w8) := HB5.out.trans ((((Below.refl _ w5).alloc (Nat.le_refl _) _).mono hz5).trans hB8); clear hO8 hB8))
        go_roundw
        case rel => exact ⟨k + 1, _, by omega, by go_num, rfl, HF.out, HBF.out⟩
        case measure => (simp [intOf]) <;> omega
      · obtain rfl : k = n := by omega
        have i0 : ¬ (k : Int) < (k : Int) := by omega
        have HW : Hid (wr.ownsRow w.heap.size 24 3 V KL.length (KL.flatMap pcells)) := by
          have h := HO.out
          rw [HLn.eq, List.take_length, ← HKL.eq] at h
          rw [show L.length = KL.length by rw [HKL.eq, List.length_map]] at h
          exact own_mono h hz2
        have HBW : Hid (Below w.heap.size w wr) := HB2.out.trans (HB.out.mono hz2)
        go_wp2_with fail
        go_ret2
        exact ⟨_, rfl, HW.out, HBW.out⟩
  · have hL : Ino.keyL (bl s) = [] := by rw [HKL.eq, split_err h0]; rfl
    have k1 : ¬ (((Pm.kind (bl s)).2 : Nat) : Int) = 0 := by omega
    have k2 : ((((Pm.kind (bl s)).2 : Nat) : Int) == 0) = false := by simp only [beq_eq_false_iff_ne, ne_eq]; exact k1
    rw [hL]
    clear h0 hL SP HKL hL8
    generalize (Pm.kind (bl s)).1 = kk at *
    generalize (Pm.kind (bl s)).2 = ke at *
    go_enter Tryd.func9, Tryd.ntmps9
    go_wp2_with fail
    refine (KD.out _ HT.out).mono ?_
    rintro e w1 ⟨rfl, hB1⟩
    have HB1 : Hid (Below w.heap.size w w1) := hB1
    clear hB1
    go_wp2_with fail
    go_ret2
    exact ⟨_, rfl, own_nil _ _, HB1.out⟩
set_option maxHeartbeats 1000000 in
set_option maxRecDepth 20000 in
theorem rkey_any (s : ByteArray) (w : World) (hs : s.size ≤ 30000) : Calls Tryd.prog 10 #[.string s] w fun e w' => ∃ v, e = .returned (.tuple #[v, .int .i64 ((Pm.kind (bl s)).2 : Nat)]) ∧ w'.ownsRow w.heap.size 24 3 v (Ino.keyL (bl s)).length ((Ino.keyL (bl s)).flatMap pcells) ∧ Below w.heap.size w w' := by
  have KD : Hid (∀ W : World, Calls Tryd.prog 38 #[.string s] W fun e w' => e = .returned (.tuple #[.int .i64 ((Pm.kind (bl s)).1 : Nat), .int .i64 ((Pm.kind (bl s)).2 : Nat)]) ∧ Below W.heap.size W w') := fun W => rkind_any s W hs
  have SP : Hid (∀ W : World, Calls Tryd.prog 39 #[.string s] W fun e w' => ∃ v, e = .returned v ∧ w'.ownsRow W.heap.size 9 1 v (Pm.split (bl s)).length (scells (Pm.split (bl s))) ∧ Below W.heap.size W w') := fun W => rsplit_any s W hs
  have hL8 := split_small (bl s)
  have HKL : Is (Ino.keyL (bl s)) ((Pm.split (bl s)).map Ino.txt) := ⟨rfl⟩
  by_cases h0 : (Pm.kind (bl s)).2 = 0
  · rw [h0] at KD ⊢
    clear h0
    generalize (Pm.kind (bl s)).1 = k1 at *
    generalize Ino.keyL (bl s) = KL at *
    generalize Pm.split (bl s) = L at *
    go_enter Tryd.func10, Tryd.ntmps10
    go_wp2_with fail
    refine (KD.out _).mono ?_
    rintro e w1 ⟨rfl, hB1⟩
    have HB1 : Hid (Below w.heap.size w w1) := hB1
    have hz1 := hB1.size
    clear hB1
    go_wp2_with fail
    refine (SP.out _).mono ?_
    rintro e w2 ⟨v, rfl, ho, hB2⟩
    obtain ⟨ad, cp, rfl, hat⟩ := own_slice ho
    have HB2 : Hid (Below w.heap.size w w2) := HB1.out.trans (hB2.mono hz1)
    have hz2 := HB2.out.size
    have HAT : Hid (0 < L.length → ∃ g, ad = some ⟨g, 0, none⟩ ∧ g < w2.heap.size ∧ TextsAt w2 g 0 L) := hat
    clear ho hB2 hat
    obtain ⟨n, hn⟩ : ∃ n, n = L.length := ⟨_, rfl⟩
    have HLn : Is n L.length := ⟨hn⟩
    rw [← hn] at hL8
    rw [← hn]
    rw [← hn] at HAT
    clear hn
    go_wp2_with fail
    go_loopw [7, 8] (fun v6 i wr => ∃ (k : Nat) (V : Value), k ≤ n ∧ i = .int .i64 k ∧ V = v6 ∧ wr.ownsRow w2.heap.size 24 3 V k (((L.take k).map Ino.txt).flatMap pcells) ∧ Below w2.heap.size w2 wr) (fun _ i _ => n - (intOf i).toNat)
    case atStart => exact ⟨0, _, by omega, rfl, rfl, own_nil _ _, Below.refl _ _⟩
    case round =>
      obtain ⟨k, V, hk, rfl, rfl, hO, hB⟩ := hrel
      have HO : Hid (wr.ownsRow w2.heap.size 24 3 V k (((L.take k).map Ino.txt).flatMap pcells)) := hO
      have HB : Hid (Below w2.heap.size w2 wr) := hB
      have hsz := hB.size
      clear hO hB
      by_cases hlt : k < n
      · have i0 : (k : Int) < (n : Int) := by omega
        have j0 : (0 : Int) ≤ (k : Int) := Int.natCast_nonneg _
        obtain ⟨g, rfl, hg, hX⟩ := HAT.out (by omega)
        have c0 : wr.cell? ⟨g, k, none⟩ = some (.string (mk (L.getD k []))) := by
          have h := (hX.below HB.out hg) k _ (getD_some (by rw [← HLn.eq]; exact hlt))
          rwa [Nat.zero_add] at h
        have HE : Is ((L.take (k + 1)).map Ino.txt) ((L.take k).map Ino.txt ++ [⟨2, 0, mk (L.getD k [])⟩]) := ⟨by
          have hkl : k < L.length := by rw [← HLn.eq]; exact hlt
          rw [List.take_succ_eq_append_getElem hkl, List.map_append, List.getD_eq_getElem?_getD, List.getElem?_eq_getElem hkl]; rfl⟩
        clear hX HAT
        generalize mk (L.getD k []) = x at *
        clear hsz
        have hz5 := HB.out.size
        go_wp2_with (first | (at_builtin; refine append_part rfl (.tmp 25) (.tmp 31) rfl _ w2.heap.size _ k _ rfl (own_alloc1 HO.out _) ⟨wr.heap.size, 0, none⟩ 1 ⟨2, 0, x⟩ rfl (part_new wr ⟨2, 0, x⟩) (by omega) (by simp; omega) ?_; intro v8 w8 hO8 hB8; rw [← HE.eq] at hO8; have HF : Hid (w8.ownsRow w2.heap.size 24 3 v8 (k + 1) (((L.take (k + 1)).map Ino.txt).flatMap pcells)) := hO8; have HBF : Hid (Below w2.heap.size w2 w8) := HB.out.trans ((((Below.refl _ wr).alloc (Nat.le_refl _) _).mono hz5).trans hB8); clear hO8 hB8))
        go_roundw
        case rel => exact ⟨k + 1, _, by omega, by go_num, rfl, HF.out, HBF.out⟩
        case measure => (simp [intOf]) <;> omega
      · obtain rfl : k = n := by omega
        have i0 : ¬ (k : Int) < (k : Int) := by omega
        have HW : Hid (wr.ownsRow w.heap.size 24 3 V KL.length (KL.flatMap pcells)) := by
          have h := HO.out
          rw [HLn.eq, List.take_length, ← HKL.eq] at h
          rw [show L.length = KL.length by rw [HKL.eq, List.length_map]] at h
          exact own_mono h hz2
        have HBW : Hid (Below w.heap.size w wr) := HB2.out.trans (HB.out.mono hz2)
        go_wp2_with fail
        go_ret2
        exact ⟨_, rfl, HW.out, HBW.out⟩
  · have hL : Ino.keyL (bl s) = [] := by rw [HKL.eq, split_err h0]; rfl
    have k1 : ¬ (((Pm.kind (bl s)).2 : Nat) : Int) = 0 := by omega
    have k2 : ((((Pm.kind (bl s)).2 : Nat) : Int) == 0) = false := by simp only [beq_eq_false_iff_ne, ne_eq]; exact k1
    rw [hL]
    clear h0 hL SP HKL hL8
    generalize (Pm.kind (bl s)).1 = kk at *
    generalize (Pm.kind (bl s)).2 = ke at *
    go_enter Tryd.func10, Tryd.ntmps10
    go_wp2_with fail
    refine (KD.out _).mono ?_
    rintro e w1 ⟨rfl, hB1⟩
    have HB1 : Hid (Below w.heap.size w w1) := hB1
    clear hB1
    go_wp2_with fail
    go_ret2
    exact ⟨_, rfl, own_nil _ _, HB1.out⟩
end Go.Proofs.YtealbeblkilibaaDoor
