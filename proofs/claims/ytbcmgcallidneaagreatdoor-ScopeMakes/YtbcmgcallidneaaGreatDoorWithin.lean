/- Proved: within answers those of a list that lie in another one, in memory of its own. -/
import Derived.Test.YtbcmgcallidneaaGreatDoorHasF
namespace Go.Proofs.YtbcmgcallidneaaGreatDoor
open Go.RowKit
theorem filter_snoc {f : Pm.T → Bool} {l : List Pm.T} {k : Nat} (hk : k < l.length) : (l.take (k + 1)).filter f = (l.take k).filter f ++ (if f (l.getD k []) then [l.getD k []] else []) := by
  rw [List.take_add_one, getD_some hk, List.filter_append]
  congr 1
  simp only [Option.toList]
  by_cases h : f (l.getD k []) = true
  · rw [if_pos h, List.filter_cons_of_pos h]; rfl
  · rw [if_neg h, List.filter_cons_of_neg h]; rfl
set_option maxHeartbeats 2000000 in
set_option maxRecDepth 20000 in
theorem within_any (ad : Option Addr) (c : Nat) (a : List Pm.T) (bd : Option Addr) (d : Nat) (b : List Pm.T) (w : World) (hA : TxtA w ad a) (hB0 : TxtA w bd b) (hla : a.length ≤ 1000000) (hlb : b.length ≤ 1000) (hx : ∀ x ∈ b, x.length ≤ 1000000) (hT : Tab w) :
    Calls Tryz.prog 29 #[.slice ad a.length c, .slice bd b.length d] w fun e w' => ∃ v, e = .returned v ∧ w'.ownsRow w.heap.size 9 1 v (b.filter (Sm.has a)).length (scells (b.filter (Sm.has a))) ∧ Below w.heap.size w w' := by
  have HH : Hid (∀ (k : Nat) (W : World), k < b.length → Below w.heap.size w W → Calls Tryz.prog 27 #[.slice ad a.length c, .string (mk (b.getD k []))] W fun e w' => e = .returned (.bool (Sm.has a (b.getD k []))) ∧ Below W.heap.size W w') :=
    fun k W hk hB => has_any ad c a (mk (b.getD k [])) W (hA.below hB) hla (by rw [mk_size]; have := hx _ (getD_mem hk); omega) (hT.below hB)
  have HA : Hid (TxtA w bd b) := hB0
  obtain ⟨n, hn⟩ : ∃ n, b.length = n := ⟨_, rfl⟩
  have HN : Is b.length n := ⟨hn⟩
  rw [hn] at hlb HH
  rw [hn]
  clear hA hB0 hT hn hx
  generalize a.length = m at *
  go_enter Tryz.func29, Tryz.ntmps29
  go_wp2_with fail
  go_loopw [5, 7, 10] (fun v _ i wr => ∃ (k : Nat) (st : List Pm.T), k ≤ n ∧ i = .int .i64 k ∧ st = (b.take k).filter (Sm.has a) ∧ st.length ≤ k ∧ wr.ownsRow w.heap.size 9 1 v st.length (scells st) ∧ Below w.heap.size w wr) (fun _ _ i _ => n - (intOf i).toNat)
  case atStart => exact ⟨0, [], by omega, rfl, rfl, Nat.le_refl _, own_nil _ _, Below.refl _ _⟩
  case round =>
    obtain ⟨k, st, hk, rfl, hst, hsl, ho, hB⟩ := hrel
    have HS : Is st ((b.take k).filter (Sm.has a)) := ⟨hst⟩
    have HO : Hid (wr.ownsRow w.heap.size 9 1 u5 st.length (scells st)) := ho
    have HB : Hid (Below w.heap.size w wr) := hB
    have hsz := hB.size
    obtain ⟨ad5, c5, hv5, _, _, _⟩ := own_txt ho
    subst hv5
    by_cases hlt : k < n
    · have i0 : (k : Int) < (n : Int) := by omega
      have j0 : (0 : Int) ≤ (k : Int) := Int.natCast_nonneg _
      obtain ⟨g, he, hg, ht⟩ := HA.out (by rw [HN.eq]; omega)
      subst he
      have c0 := (hB.cell (p := ⟨g, k, none⟩) hg).trans (ht.get k (by rw [HN.eq]; exact hlt))
      have HC := (show Hid _ from HH.out k wr hlt hB)
      have HF : Is ((b.take (k + 1)).filter (Sm.has a)) (st ++ (if Sm.has a (b.getD k []) then [b.getD k []] else [])) := ⟨by rw [HS.eq]; exact filter_snoc (by rw [HN.eq]; exact hlt)⟩
      clear hst hB ht ho HS
      cases hr : Sm.has a (b.getD k []) with
      | false =>
        rw [hr] at HC HF
        replace HF : Is ((b.take (k + 1)).filter (Sm.has a)) st := ⟨by rw [HF.eq, if_neg (by simp), List.append_nil]⟩
        generalize mk (b.getD k []) = sx at *
        clear hr
        go_wp2_with (first | (go_at_call 27; refine (show Calls _ _ _ _ _ from HC.out).mono ?_; rintro e w1 ⟨rfl, hB1⟩))
        go_roundw
        case rel => exact ⟨k + 1, st, by omega, by go_num, HF.eq.symm, by omega, own_below HO.out hB1, HB.out.trans (hB1.mono hsz)⟩
        case measure => (simp [intOf]) <;> omega
      | true =>
        rw [hr] at HC HF
        replace HF : Is ((b.take (k + 1)).filter (Sm.has a)) (st ++ [b.getD k []]) := ⟨by rw [HF.eq, if_pos rfl]⟩
        have HSC : Is (scells (st ++ [b.getD k []])) (scells st ++ [.string (mk (b.getD k []))]) := ⟨by rw [scells, scells, List.map_append]; rfl⟩
        generalize mk (b.getD k []) = sx at *
        clear hr
        go_wp2_with (first
          | (go_at_call 27; refine (show Calls _ _ _ _ _ from HC.out).mono ?_; rintro e w1 ⟨rfl, hB1⟩; have HO1 := (show Hid _ from own_below HO.out hB1); have HB1 : Hid (Below w.heap.size w w1) := HB.out.trans (hB1.mono hsz); have hsz1 := HB1.out.size; clear hB1)
          | (refine append_str rfl (.tmp 17) (.tmp 19) rfl _ w.heap.size _ st.length (scells st) rfl (own_alloc1 HO1.out _) ⟨w1.heap.size, 0, none⟩ 1 sx rfl (str_new w1 sx) (by omega) (by simp; omega) ?_; intro v' w' hO2 hG2; have HO2 := (show Hid (w'.ownsRow w.heap.size 9 1 v' (st.length + 1) (scells st ++ [.string sx])) from hO2); have HB2 : Hid (Below w.heap.size w w') := (HB1.out.alloc (by omega) _).trans (hG2.below (own_alloc1 HO1.out _) (by simp; omega)); clear hO2 hG2))
        go_roundw
        case rel => exact ⟨k + 1, st ++ [b.getD k []], by omega, by go_num, HF.eq.symm, by rw [List.length_append]; simp; omega, by rw [HSC.eq, List.length_append]; exact HO2.out, HB2.out⟩
        case measure => (simp [intOf]) <;> omega
    · obtain rfl : k = n := by omega
      have i0 : ¬ (k : Int) < (k : Int) := by omega
      have HM : Is (b.filter (Sm.has a)) st := ⟨by rw [HS.eq, List.take_of_length_le (by rw [HN.eq]; omega)]⟩
      clear hst hB ho
      go_wp2_with fail
      go_ret
      exact ⟨_, rfl, by rw [HM.eq]; exact HO.out, HB.out⟩
end Go.Proofs.YtbcmgcallidneaaGreatDoor
