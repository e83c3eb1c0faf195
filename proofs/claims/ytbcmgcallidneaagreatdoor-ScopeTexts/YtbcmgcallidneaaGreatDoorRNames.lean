/- Proved: the document's Names parts a text at each /. -/
import Derived.Test.YtbcmgcallidneaaGreatDoorOwn
import Derived.Test.YtbcmgcallidneaaGreatDoorParent
namespace Go.Proofs.YtbcmgcallidneaaGreatDoor
open Go.RowKit
theorem names_snoc_slash (l : Pm.T) : Pm.names (l ++ [47]) = Pm.names l ++ [[]] := by rw [Pm.names_slash]; rfl
theorem names_snoc (l : Pm.T) {c : UInt8} (h : c ≠ 47) : Pm.names (l ++ [c]) = (Pm.names l).dropLast ++ [(Pm.names l).getLastD [] ++ [c]] := by
  induction l with
  | nil => rw [List.nil_append, Pm.names_free (by simp; exact fun e => h e.symm)]; rfl
  | cons d l ih =>
    by_cases hd : d = 47
    · subst hd
      rw [List.cons_append, Pm.names, if_pos rfl, ih, Pm.names, if_pos rfl]
      obtain ⟨n, r, e⟩ : ∃ n r, Pm.names l = n :: r := by
        cases e : Pm.names l with
        | nil => exact absurd e (Pm.names_ne l)
        | cons n r => exact ⟨n, r, rfl⟩
      rw [e]; rfl
    · obtain ⟨n, r, e1, e2⟩ := Pm.names_cons d l hd
      obtain ⟨n', r', e1', e2'⟩ := Pm.names_cons d (l ++ [c]) hd
      rw [List.cons_append, e2', e2]
      rw [ih, e1] at e1'
      cases r with
      | nil =>
        simp only [List.dropLast_singleton, List.nil_append, List.cons.injEq] at e1'
        obtain ⟨rfl, rfl⟩ := e1'
        rfl
      | cons k r =>
        rw [List.dropLast_cons_cons, List.cons_append, List.cons.injEq] at e1'
        obtain ⟨rfl, rfl⟩ := e1'
        rfl
theorem own_setLast {w : World} {N g cap m : Nat} {l : List Pm.T} {y : Pm.T} (h : w.ownsRow N 9 1 (.slice (some ⟨g, 0, none⟩) (m + 1) cap) (m + 1) (scells l)) (hl : l.length = m + 1) :
    (w.setCell ⟨g, m, none⟩ (.string (mk y))).ownsRow N 9 1 (.slice (some ⟨g, 0, none⟩) (m + 1) cap) (l.dropLast ++ [y]).length (scells (l.dropLast ++ [y])) := by
  have hl2 : (l.dropLast ++ [y]).length = m + 1 := by simp; omega
  refine ⟨by simp [scells], ?_⟩
  rcases h.2 with ⟨h1, _⟩ | ⟨g', cap', cur, hv, hN, hh, hc, hm, hs, ht⟩
  · cases h1
  · cases hv
    refine .inr ⟨g, cap, cur.setIfInBounds m (.string (mk y)), by rw [hl2], hN, heap_setCell_same w g m cur 9 _ hh, by rw [hl2]; omega, hm, by simpa using hs, ?_⟩
    rw [hl2]
    have e1 : (cur.setIfInBounds m (.string (mk y))).toList = cur.toList.set m (.string (mk y)) := by simp
    rw [e1]
    have hlen : m + 1 ≤ cur.toList.length := by rw [Array.length_toList, hs]; omega
    have e2 : (cur.toList.set m (.string (mk y))).take ((m + 1) * 1) = (cur.toList.take ((m + 1) * 1)).set m (.string (mk y)) := by rw [List.take_set]
    rw [e2, ht]
    have e3 : l = l.dropLast ++ [l.getLastD []] := by
      have hne : l ≠ [] := by intro e; rw [e] at hl; simp at hl
      rw [List.getLastD_eq_getLast?, List.getLast?_eq_some_getLast hne]
      exact (List.dropLast_concat_getLast hne).symm
    have hdl : (scells l.dropLast).length = m := by simp [scells]; omega
    have e4 : scells l = scells l.dropLast ++ [.string (mk (l.getLastD []))] := by
      conv => lhs; rw [e3]
      rw [scells, scells, List.map_append]; rfl
    rw [e4, List.set_append_right _ _ (by omega), hdl, Nat.sub_self]
    rw [scells, scells, List.map_append]; rfl
set_option maxHeartbeats 2000000 in
set_option maxRecDepth 20000 in
theorem rnames_any (s : ByteArray) (w : World) (hs : s.size ≤ 30000) :
    Calls Tryz.prog 59 #[.string s] w fun e w' => ∃ v, e = .returned v ∧ w'.ownsRow w.heap.size 9 1 v (Pm.names (bl s)).length (scells (Pm.names (bl s))) ∧ Below w.heap.size w w' := by
  have H1 : Hid ((w.alloc (.cells #[.string ⟨#[]⟩] 9)).ownsRow w.heap.size 9 1 (.slice (some ⟨w.heap.size, 0, none⟩) 1 1) 1 (scells [[]])) := owns_new w w.heap.size [[]] (by simp) (Nat.le_refl _)
  have HB1 : Hid (Below w.heap.size w (w.alloc (.cells #[.string ⟨#[]⟩] 9))) := (Below.refl _ w).alloc (Nat.le_refl _) _
  go_enter Tryz.func59, Tryz.ntmps59
  go_wp2_with fail
  generalize w.alloc (.cells #[.string ⟨#[]⟩] 9) = w1 at *
  go_loopw [3, 4] (fun v i wr => ∃ k : Nat, k ≤ s.size ∧ i = .int .i64 k ∧ wr.ownsRow w.heap.size 9 1 v (Pm.names ((bl s).take k)).length (scells (Pm.names ((bl s).take k))) ∧ Below w.heap.size w wr) (fun _ i _ => s.size - (intOf i).toNat)
  case atStart => exact ⟨0, by omega, rfl, H1.out, HB1.out⟩
  case round =>
    obtain ⟨k, hk, rfl, ho, hB⟩ := hrel
    have HB : Hid (Below w.heap.size w wr) := hB
    have HO : Hid (wr.ownsRow w.heap.size 9 1 u3 (Pm.names ((bl s).take k)).length (scells (Pm.names ((bl s).take k)))) := ho
    have hsz := hB.size
    obtain ⟨g, cap, hv, hgN, hgl, hcap, hcm, htx⟩ : ∃ g cap, u3 = .slice (some ⟨g, 0, none⟩) (Pm.names ((bl s).take k)).length cap ∧ w.heap.size ≤ g ∧ g < wr.heap.size ∧ (Pm.names ((bl s).take k)).length ≤ cap ∧ cap ≤ 9223372036854775807 ∧ TextsAt wr g 0 (Pm.names ((bl s).take k)) := by
      rcases own_shape ho with ⟨_, h⟩ | h
      · exact absurd h (Pm.names_ne _)
      · exact h
    clear hB ho H1 HB1
    subst hv
    by_cases hlt : k < s.size
    · have i0 : (k : Int) < (s.size : Int) := by omega
      have j0 : (0 : Int) ≤ (k : Int) := Int.natCast_nonneg _
      have HG : Is ((bl s)[k]?) (some (s[k]'hlt)) := ⟨bl_get s k hlt⟩
      have HTK : Is ((bl s).take (k + 1)) ((bl s).take k ++ [s[k]'hlt]) := ⟨by rw [List.take_add_one, HG.eq]; rfl⟩
      have hnl : (Pm.names ((bl s).take k)).length ≤ k + 1 := by
        rw [Pm.names_length]
        have := List.count_le_length (a := (47 : UInt8)) (l := (bl s).take k)
        rw [List.length_take] at this
        omega
      have HXL : Hid (∀ n ∈ Pm.names ((bl s).take k), n.length ≤ 30000) := fun n hn => by
        have h := name_size (mk ((bl s).take k)) (n := n) hn
        rw [mk_size, List.length_take] at h
        omega
      have HEX : Is (s.extract k (k + 1)) (mk [s[k]'hlt]) := ⟨bl_inj (by
        rw [bl_mk, bl, Lib.extract_data]
        have hkl : k < (bl s).length := by rw [bl_length]; exact hlt
        show ((bl s).drop k).take (k + 1 - k) = _
        rw [Nat.add_sub_cancel_left, List.drop_eq_getElem_cons hkl]
        have e := HG.eq
        rw [List.getElem?_eq_getElem hkl] at e
        rw [Option.some.inj e]; rfl)⟩
      obtain ⟨b, hb⟩ : ∃ b, s[k]'hlt = b := ⟨_, rfl⟩
      have gb : (s[k]'hlt).toNat = b.toNat := by rw [hb]
      rw [hb] at HTK HEX
      clear HG hb
      have HNE : Hid (Pm.names ((bl s).take k) ≠ []) := Pm.names_ne _
      by_cases h47 : b = 47
      · subst h47
        have HNX : Is (Pm.names ((bl s).take (k + 1))) (Pm.names ((bl s).take k) ++ [[]]) := ⟨by rw [HTK.eq, names_snoc_slash]⟩
        generalize Pm.names ((bl s).take k) = L at *
        have gb' : (s[k]'hlt).toNat = 47 := gb
        clear gb HEX
        go_wp2_with (first | (refine append_str rfl (.tmp 16) (.tmp 17) rfl _ w.heap.size _ L.length (scells L) rfl (own_alloc1 HO.out _) ⟨wr.heap.size, 0, none⟩ 1 ⟨#[]⟩ rfl (str_new wr ⟨#[]⟩) (by omega) (by simp; omega) ?_; intro v' w' hO2 hG2; have HO2 := (show Hid (w'.ownsRow w.heap.size 9 1 v' (L.length + 1) (scells L ++ [.string ⟨#[]⟩])) from hO2); have HB2 : Hid (Below w.heap.size w w') := HB.out.trans ((((Below.refl _ wr).alloc (Nat.le_refl _) _).mono hsz).trans (hG2.below (own_alloc1 HO.out _) (by simp; omega))); clear hO2 hG2))
        go_roundw
        case rel => exact ⟨k + 1, by omega, by go_num, by rw [HNX.eq, List.length_append, scells, List.map_append]; exact HO2.out, HB2.out⟩
        case measure => (simp [intOf]) <;> omega
      · have HNX : Is (Pm.names ((bl s).take (k + 1))) ((Pm.names ((bl s).take k)).dropLast ++ [(Pm.names ((bl s).take k)).getLastD [] ++ [b]]) := ⟨by rw [HTK.eq, names_snoc _ h47]⟩
        have hn47 : ¬ ((b.toNat : Int) = 47) := fun e => h47 (UInt8.toNat.inj (by show b.toNat = 47; omega))
        have hn47' : (((b.toNat : Int)) == 47) = false := by simp only [beq_eq_false_iff_ne, ne_eq]; exact hn47
        generalize Pm.names ((bl s).take k) = L at *
        obtain ⟨m, hm⟩ : ∃ m, L.length = m + 1 := ⟨L.length - 1, by have := List.length_pos_iff.2 HNE.out; omega⟩
        have hcell := htx m (L.getD m []) (getD_some (by omega))
        have HLD : Is (L.getLastD []) (L.getD m []) := ⟨by rw [getLastD_at, hm, Nat.add_sub_cancel]⟩
        rw [HLD.eq] at HNX
        have hxl := HXL.out _ (getD_mem (l := L) (k := m) (by omega))
        have hfz : wr.frozen? ⟨g, m, none⟩ = false := by
          rcases HO.out.2 with ⟨h, _⟩ | ⟨g', cap', cur, hv, _, hh, _⟩
          · cases h
          · cases hv
            exact frozen_of_row wr g m cur 9 hh
        have HML : Is L.length (m + 1) := ⟨hm⟩
        have HOS : Hid ((wr.setCell ⟨g, m, none⟩ (.string (mk (L.getD m [] ++ [b])))).ownsRow w.heap.size 9 1 (.slice (some ⟨g, 0, none⟩) (m + 1) cap) (L.dropLast ++ [L.getD m [] ++ [b]]).length (scells (L.dropLast ++ [L.getD m [] ++ [b]]))) := own_setLast (by have h := HO.out; rw [hm] at h; exact h) hm
        have HMK : Is (mk (L.getD m []) ++ mk [b]) (mk (L.getD m [] ++ [b])) := ⟨bl_inj (by rw [bl_append]; rfl)⟩
        have A1 : ∀ W : World, (Op.stringOp .add (mk (L.getD m [])) (s.extract k (k + 1))).run Tryz.prog W = .ok (.string (mk (L.getD m [] ++ [b]))) W := fun W => by
          rw [run_string_add_sum W _ _ (by rw [ByteArray.size_extract, mk_size]; omega), HEX.eq, HMK.eq]
        rw [Nat.zero_add] at hcell
        generalize mk (L.getD m []) = X at *
        generalize mk (L.getD m [] ++ [b]) = Y at *
        generalize b.toNat = nb at *
        have wm : IntKind.i64.wrap (m : Int) = (m : Int) := wrapN m (by omega)
        have wk : IntKind.i64.wrap ((k : Int) + 1) = (k : Int) + 1 := by rw [show (k : Int) + 1 = ((k + 1 : Nat) : Int) by omega]; exact wrapN _ (by omega)
        have j1 : (0 : Int) ≤ (m : Int) := Int.natCast_nonneg _
        have j2 : (m : Int) < (m : Int) + 1 := by omega
        have j3 : (k : Int) ≤ (k : Int) + 1 := by omega
        have j4 : (k : Int) + 1 ≤ (s.size : Int) := by omega
        clear htx HXL HEX HMK HLD hn47 hnl
        rw [hm]
        clear hm
        go_wp2_with fail
        go_region
        go_wp2_with fail
        go_roundw
        case rel => exact ⟨k + 1, by omega, by go_num, by rw [HNX.eq]; exact HOS.out, (HB.out.setCell (p := ⟨g, m, none⟩) hgN _).drew⟩
        case measure => (simp [intOf]) <;> omega
    · obtain rfl : k = s.size := by omega
      have i0 : ¬ (s.size : Int) < (s.size : Int) := by omega
      have HTA : Is ((bl s).take s.size) (bl s) := ⟨List.take_of_length_le (by rw [bl_length]; omega)⟩
      rw [HTA.eq] at HO
      rw [HTA.eq]
      go_wp2_with fail
      go_ret
      exact ⟨_, rfl, HO.out, HB.out⟩
end Go.Proofs.YtbcmgcallidneaaGreatDoor
