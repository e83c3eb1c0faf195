/- Proved: the document's Meet. -/
import Derived.Test.YtbcmgcallidneaaGreatDoorRMk
import Derived.Test.YtbcmgcallidneaaGreatDoorWithin
namespace Go.Proofs.YtbcmgcallidneaaGreatDoor
open Go.RowKit
set_option maxHeartbeats 8000000 in
set_option maxRecDepth 20000 in
theorem rmeet_any (ad : Option Addr) (c : Nat) (a : List Pm.T) (bd : Option Addr) (d : Nat) (b : List Pm.T) (w : World) (hA : TxtA w ad a) (hB0 : TxtA w bd b) (hla : a.length ≤ 500) (hlb : b.length ≤ 500) (hxa : ∀ x ∈ a, x.length ≤ 4000) (hxb : ∀ x ∈ b, x.length ≤ 4000) :
    Calls Tryz.prog 16 #[.slice ad a.length c, .slice bd b.length d] w fun e w' => ∃ ad' c', e = .returned (.slice ad' (Sm.meet a b).length c') ∧ TxtA w' ad' (Sm.meet a b) ∧ Below w.heap.size w w' := by
  have HMa : Hid (∀ W : World, Below w.heap.size w W → Calls Tryz.prog 11 #[.slice ad a.length c] W fun e w' => e = .returned (.bool (Sm.may a)) ∧ Below W.heap.size W w') := fun W hb => rmay_any ad c a W (hA.below hb) (by omega) hxa
  have HMb : Hid (∀ W : World, Below w.heap.size w W → Calls Tryz.prog 11 #[.slice bd b.length d] W fun e w' => e = .returned (.bool (Sm.may b)) ∧ Below W.heap.size W w') := fun W hb => rmay_any bd d b W (hB0.below hb) (by omega) hxb
  have HHb : Hid (∀ (k : Nat) (W : World), k < a.length → Below w.heap.size w W → Calls Tryz.prog 30 #[.slice bd b.length d, .string (mk (a.getD k []))] W fun e w' => e = .returned (.bool (Sm.has b (a.getD k []))) ∧ Below W.heap.size W w') := fun k W hk hb => rhas_any bd d b (mk (a.getD k [])) W (hB0.below hb) (by omega) hxb (by rw [mk_size]; exact hxa _ (getD_mem hk))
  have HHa : Hid (∀ (k : Nat) (W : World), k < b.length → Below w.heap.size w W → Calls Tryz.prog 30 #[.slice ad a.length c, .string (mk (b.getD k []))] W fun e w' => e = .returned (.bool (Sm.has a (b.getD k []))) ∧ Below W.heap.size W w') := fun k W hk hb => rhas_any ad c a (mk (b.getD k [])) W (hA.below hb) (by omega) hxa (by rw [mk_size]; exact hxb _ (getD_mem hk))
  have HU : Is (Sm.meet a b) (if Sm.may a = false ∨ Sm.may b = false then [] else Sm.outer (a.filter (Sm.has b) ++ b.filter (Sm.has a))) := ⟨by
    unfold Sm.meet
    split
    · rfl
    · exact Sm.outer_congr fun x => by rw [List.mem_append, List.mem_append, or_comm]⟩
  have HX : Hid (∀ x ∈ a.filter (Sm.has b) ++ b.filter (Sm.has a), x.length ≤ 4000) := fun x hx => by
    rcases List.mem_append.1 hx with h | h
    · exact hxa x (List.mem_filter.1 h).1
    · exact hxb x (List.mem_filter.1 h).1
  have HP : Hid (Sm.may a = true → Sm.may b = true → ∀ x ∈ a.filter (Sm.has b) ++ b.filter (Sm.has a), Pm.isP x = true) := fun h1 h2 x hx => by
    rcases List.mem_append.1 hx with h | h
    · exact Sm.fault_isP (Sm.may_iff.1 h1).1 x (List.mem_filter.1 h).1
    · exact Sm.fault_isP (Sm.may_iff.1 h2).1 x (List.mem_filter.1 h).1
  have HLf : Hid ((a.filter (Sm.has b) ++ b.filter (Sm.has a)).length ≤ 1000) := by
    show (a.filter (Sm.has b) ++ b.filter (Sm.has a)).length ≤ 1000
    rw [List.length_append]
    have h1 := List.length_filter_le (Sm.has b) a
    have h2 := List.length_filter_le (Sm.has a) b
    omega
  have HAa : Hid (TxtA w ad a) := hA
  have HAb : Hid (TxtA w bd b) := hB0
  obtain ⟨n, hn⟩ : ∃ n, a.length = n := ⟨_, rfl⟩
  obtain ⟨m, hm⟩ : ∃ m, b.length = m := ⟨_, rfl⟩
  have HN : Is a.length n := ⟨hn⟩
  have HM : Is b.length m := ⟨hm⟩
  rw [hn] at hla HMa HHb HHa
  rw [hm] at hlb HMb HHa HHb
  rw [hn, hm]
  clear hA hB0 hxa hxb hn hm
  cases h1 : Sm.may a with
  | false =>
    rw [h1] at HMa HU
    rw [if_pos (.inl rfl)] at HU
    go_enter Tryz.func16, Tryz.ntmps16
    go_wp2_with fail
    refine (HMa.out _ (Below.refl _ _)).mono ?_
    rintro e w1 ⟨rfl, hB1⟩
    go_wp2_with fail
    go_ret
    rw [HU.eq]
    first | exact ⟨_, ⟨_, rfl⟩, TxtA.nil _ _, hB1⟩ | exact ⟨_, _, rfl, TxtA.nil _ _, hB1⟩
  | true =>
    rw [h1] at HMa HU
    cases h2 : Sm.may b with
    | false =>
      rw [h2] at HMb HU
      rw [if_pos (.inr rfl)] at HU
      go_enter Tryz.func16, Tryz.ntmps16
      go_wp2_with fail
      refine (HMa.out _ (Below.refl _ _)).mono ?_
      rintro e w1 ⟨rfl, hB1⟩
      go_wp2_with fail
      refine (HMb.out _ hB1).mono ?_
      rintro e w2 ⟨rfl, hB2⟩
      go_wp2_with fail
      go_ret
      rw [HU.eq]
      first | exact ⟨_, ⟨_, rfl⟩, TxtA.nil _ _, hB1.trans (hB2.mono hB1.size)⟩ | exact ⟨_, _, rfl, TxtA.nil _ _, hB1.trans (hB2.mono hB1.size)⟩
    | true =>
      rw [h2] at HMb HU
      rw [if_neg (by simp)] at HU
      have HP2 := (show Hid _ from HP.out h1 h2)
      clear h1 h2 HP
      go_enter Tryz.func16, Tryz.ntmps16
      go_wp2_with fail
      refine (HMa.out _ (Below.refl _ _)).mono ?_
      rintro e w1 ⟨rfl, hB1⟩
      go_wp2_with fail
      refine (HMb.out _ hB1).mono ?_
      rintro e w2 ⟨rfl, hB2⟩
      have HB2 : Hid (Below w.heap.size w w2) := hB1.trans (hB2.mono hB1.size)
      clear hB1 hB2 HMa HMb
      go_wp2_with fail
      go_loopw [5, 6] (fun v i wr => ∃ (k : Nat) (st : List Pm.T), k ≤ n ∧ i = .int .i64 k ∧ st = (a.take k).filter (Sm.has b) ∧ st.length ≤ k ∧ wr.ownsRow w.heap.size 9 1 v st.length (scells st) ∧ Below w.heap.size w wr) (fun _ i _ => n - (intOf i).toNat)
      case atStart => exact ⟨0, [], by omega, rfl, rfl, Nat.le_refl _, own_nil _ _, HB2.out⟩
      case round =>
        obtain ⟨k, st, hk, rfl, hst, hsl, ho, hB⟩ := hrel
        have HS : Is st ((a.take k).filter (Sm.has b)) := ⟨hst⟩
        have HO : Hid (wr.ownsRow w.heap.size 9 1 u5 st.length (scells st)) := ho
        have HB : Hid (Below w.heap.size w wr) := hB
        have hsz := hB.size
        obtain ⟨ad5, c5, hv5, _, _, _⟩ := own_txt ho
        subst hv5
        by_cases hlt : k < n
        · have i0 : (k : Int) < (n : Int) := by omega
          have j0 : (0 : Int) ≤ (k : Int) := Int.natCast_nonneg _
          obtain ⟨g, he, hg, ht⟩ := HAa.out (by rw [HN.eq]; omega)
          subst he
          have c0 := (hB.cell (p := ⟨g, k, none⟩) hg).trans (ht.get k (by rw [HN.eq]; exact hlt))
          have HC := (show Hid _ from HHb.out k wr hlt hB)
          have HCell : Hid (∀ W : World, Below wr.heap.size wr W → W.cell? ⟨g, k, none⟩ = some (.string (mk (a.getD k [])))) := fun W hb => (hb.cell (p := ⟨g, k, none⟩) (block_lt_of_cell c0)).trans c0
          have HF : Is ((a.take (k + 1)).filter (Sm.has b)) (st ++ (if Sm.has b (a.getD k []) then [a.getD k []] else [])) := ⟨by rw [HS.eq]; exact filter_snoc (by rw [HN.eq]; exact hlt)⟩
          clear hst hB ht ho HS
          cases hr : Sm.has b (a.getD k []) with
          | false =>
            rw [hr] at HC HF
            replace HF : Is ((a.take (k + 1)).filter (Sm.has b)) st := ⟨by rw [HF.eq, if_neg (by simp), List.append_nil]⟩
            generalize mk (a.getD k []) = sx at *
            clear hr
            go_wp2_with (first | (go_at_call 30; refine (show Calls _ _ _ _ _ from HC.out).mono ?_; rintro e w3 ⟨rfl, hB3⟩))
            go_roundw
            case rel => exact ⟨k + 1, st, by omega, by go_num, HF.eq.symm, by omega, own_below HO.out hB3, HB.out.trans (hB3.mono hsz)⟩
            case measure => (simp [intOf]) <;> omega
          | true =>
            rw [hr] at HC HF
            replace HF : Is ((a.take (k + 1)).filter (Sm.has b)) (st ++ [a.getD k []]) := ⟨by rw [HF.eq, if_pos rfl]⟩
            have HSC : Is (scells (st ++ [a.getD k []])) (scells st ++ [.string (mk (a.getD k []))]) := ⟨by rw [scells, scells, List.map_append]; rfl⟩
            generalize mk (a.getD k []) = sx at *
            clear hr
            go_wp2_with (first
              | (go_at_call 30; refine (show Calls _ _ _ _ _ from HC.out).mono ?_; rintro e w3 ⟨rfl, hB3⟩; have c3 := HCell.out w3 hB3; have HO3 := (show Hid _ from own_below HO.out hB3); have HB3 : Hid (Below w.heap.size w w3) := HB.out.trans (hB3.mono hsz); have hz3 := HB3.out.size; clear hB3)
              | (refine append_str rfl (.tmp 28) (.tmp 33) rfl _ w.heap.size _ st.length (scells st) rfl (own_alloc1 HO3.out _) ⟨w3.heap.size, 0, none⟩ 1 sx rfl (str_new w3 sx) (by omega) (by simp; omega) ?_; intro v' w' hO4 hG4; have HO4 := (show Hid (w'.ownsRow w.heap.size 9 1 v' (st.length + 1) (scells st ++ [.string sx])) from hO4); have HB4 : Hid (Below w.heap.size w w') := (HB3.out.alloc (by omega) _).trans (hG4.below (own_alloc1 HO3.out _) (by simp; omega)); clear hO4 hG4))
            go_roundw
            case rel => exact ⟨k + 1, st ++ [a.getD k []], by omega, by go_num, HF.eq.symm, by rw [List.length_append]; simp; omega, by rw [HSC.eq, List.length_append]; exact HO4.out, HB4.out⟩
            case measure => (simp [intOf]) <;> omega
        · obtain rfl : k = n := by omega
          have i0 : ¬ (k : Int) < (k : Int) := by omega
          have HM1 : Is (a.filter (Sm.has b)) st := ⟨by rw [HS.eq, List.take_of_length_le (by rw [HN.eq]; omega)]⟩
          rw [HM1.eq] at HU HX HLf HP2
          clear hst hB ho HS
          go_wp2_with fail
          go_loopw [5, 7] (fun v i wr => ∃ (j : Nat) (su : List Pm.T), j ≤ m ∧ i = .int .i64 j ∧ su = st ++ (b.take j).filter (Sm.has a) ∧ su.length ≤ k + j ∧ wr.ownsRow w.heap.size 9 1 v su.length (scells su) ∧ Below w.heap.size w wr) (fun _ i _ => m - (intOf i).toNat)
          case atStart => exact ⟨0, st, by omega, rfl, by simp, by omega, HO.out, HB.out⟩
          case round =>
            obtain ⟨j, su, hj, rfl, hsu, hsl2, ho, hB⟩ := hrel
            have HS2 : Is su (st ++ (b.take j).filter (Sm.has a)) := ⟨hsu⟩
            have HO2 : Hid (wr.ownsRow w.heap.size 9 1 u5 su.length (scells su)) := ho
            have HB2 : Hid (Below w.heap.size w wr) := hB
            have hsz2 := hB.size
            obtain ⟨ad6, c6, hv6, _, _, hA6⟩ := own_txt ho
            subst hv6
            by_cases hlt : j < m
            · have i1 : (j : Int) < (m : Int) := by omega
              have j1 : (0 : Int) ≤ (j : Int) := Int.natCast_nonneg _
              obtain ⟨g, he, hg, ht⟩ := HAb.out (by rw [HM.eq]; omega)
              subst he
              have c0 := (hB.cell (p := ⟨g, j, none⟩) hg).trans (ht.get j (by rw [HM.eq]; exact hlt))
              have HC := (show Hid _ from HHa.out j wr hlt hB)
              have HCell : Hid (∀ W : World, Below wr.heap.size wr W → W.cell? ⟨g, j, none⟩ = some (.string (mk (b.getD j [])))) := fun W hb => (hb.cell (p := ⟨g, j, none⟩) (block_lt_of_cell c0)).trans c0
              have HF : Is (st ++ (b.take (j + 1)).filter (Sm.has a)) (su ++ (if Sm.has a (b.getD j []) then [b.getD j []] else [])) := ⟨by rw [HS2.eq, filter_snoc (by rw [HM.eq]; exact hlt), List.append_assoc]⟩
              clear hsu hB ht ho HS2 hA6
              cases hr : Sm.has a (b.getD j []) with
              | false =>
                rw [hr] at HC HF
                replace HF : Is (st ++ (b.take (j + 1)).filter (Sm.has a)) su := ⟨by rw [HF.eq, if_neg (by simp), List.append_nil]⟩
                generalize mk (b.getD j []) = sx at *
                clear hr
                go_wp2_with (first | (go_at_call 30; refine (show Calls _ _ _ _ _ from HC.out).mono ?_; rintro e w3 ⟨rfl, hB3⟩))
                go_roundw
                case rel => exact ⟨j + 1, su, by omega, by go_num, HF.eq.symm, by omega, own_below HO2.out hB3, HB2.out.trans (hB3.mono hsz2)⟩
                case measure => (simp [intOf]) <;> omega
              | true =>
                rw [hr] at HC HF
                replace HF : Is (st ++ (b.take (j + 1)).filter (Sm.has a)) (su ++ [b.getD j []]) := ⟨by rw [HF.eq, if_pos rfl]⟩
                have HSC : Is (scells (su ++ [b.getD j []])) (scells su ++ [.string (mk (b.getD j []))]) := ⟨by rw [scells, scells, List.map_append]; rfl⟩
                generalize mk (b.getD j []) = sx at *
                clear hr
                go_wp2_with (first
                  | (go_at_call 30; refine (show Calls _ _ _ _ _ from HC.out).mono ?_; rintro e w3 ⟨rfl, hB3⟩; have c3 := HCell.out w3 hB3; have HO3 := (show Hid _ from own_below HO2.out hB3); have HB3 : Hid (Below w.heap.size w w3) := HB2.out.trans (hB3.mono hsz2); have hz3 := HB3.out.size; clear hB3)
                  | (refine append_str rfl (.tmp 47) (.tmp 52) rfl _ w.heap.size _ su.length (scells su) rfl (own_alloc1 HO3.out _) ⟨w3.heap.size, 0, none⟩ 1 sx rfl (str_new w3 sx) (by omega) (by simp; omega) ?_; intro v' w' hO4 hG4; have HO4 := (show Hid (w'.ownsRow w.heap.size 9 1 v' (su.length + 1) (scells su ++ [.string sx])) from hO4); have HB4 : Hid (Below w.heap.size w w') := (HB3.out.alloc (by omega) _).trans (hG4.below (own_alloc1 HO3.out _) (by simp; omega)); clear hO4 hG4))
                go_roundw
                case rel => exact ⟨j + 1, su ++ [b.getD j []], by omega, by go_num, HF.eq.symm, by rw [List.length_append]; simp; omega, by rw [HSC.eq, List.length_append]; exact HO4.out, HB4.out⟩
                case measure => (simp [intOf]) <;> omega
            · obtain rfl : j = m := by omega
              have i1 : ¬ (j : Int) < (j : Int) := by omega
              have HM2 : Is (st ++ b.filter (Sm.has a)) su := ⟨by rw [HS2.eq, List.take_of_length_le (by rw [HM.eq]; omega)]⟩
              rw [HM2.eq] at HU HX HLf HP2
              have HRe := (show Hid (Calls Tryz.prog 25 #[.slice ad6 su.length c6] wr fun e w' => ∃ v, e = .returned v ∧ w'.ownsRow wr.heap.size 9 1 v (Sm.outer su).length (scells (Sm.outer su)) ∧ Below wr.heap.size wr w') from reduce_any ad6 c6 su wr hA6 HLf.out HX.out HP2.out)
              clear hsu hB ho HS2 hA6
              go_wp2_with (first
                | (go_at_call 25; refine (show Calls _ _ _ _ _ from HRe.out).mono ?_; rintro e w3 ⟨v, rfl, ho3, hB3⟩; obtain ⟨ad7, c7, hv7, _, _, hA7⟩ := own_txt ho3; subst hv7; clear ho3))
              go_ret
              rw [HU.eq]
              first | exact ⟨_, ⟨_, rfl⟩, hA7, HB2.out.trans (hB3.mono hsz2)⟩ | exact ⟨_, _, rfl, hA7, HB2.out.trans (hB3.mono hsz2)⟩
end Go.Proofs.YtbcmgcallidneaaGreatDoor
