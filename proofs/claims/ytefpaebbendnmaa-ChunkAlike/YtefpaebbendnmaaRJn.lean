/- Proved: what the document's Join answers. -/
import Derived.Test.YtefpaebbendnmaaRSam
namespace Go.Proofs.Ytefpaebbendnmaa
open Go.RowKit
open Ck (T cnt cntZ zs chunks jok joinE joinT Ok)
theorem joinE_jok {l : List T} {n : Nat} (hn : n ≤ 4096) : joinE l n = if jok l n = true then 0 else 5 := by
  unfold joinE
  rw [if_neg (by omega), show (n : Int).toNat = n by omega]
theorem flat_le (l : List T) (k : Nat) : (l.take k).flatten.length ≤ l.flatten.length := by
  conv => rhs; rw [← List.take_append_drop k l, List.flatten_append, List.length_append]
  omega
set_option maxHeartbeats 4000000 in
set_option maxRecDepth 20000 in
theorem rjoin_any (v : Value) (l : List T) (z : Int) (w : World) (hv : Txts w v l) (hl : l.length ≤ 1000000) (hx : ∀ x ∈ l, x.length ≤ 1000000) :
    Calls Try.prog 12 #[v, .int .i64 z] w fun e w' => e = .returned (.tuple #[.string (mk (joinT l z)), .int .i64 (joinE l z : Nat)]) ∧ Below w.heap.size w w' := by
  have HV0 : Hid (Txts w v l) := hv
  obtain ⟨ad, cap, rfl, hc1, hc2, hcell⟩ := hv.sl
  by_cases h1 : z < 0 ∨ 4096 < z
  · have e : joinE l z = 2 := by unfold joinE; rw [if_pos h1]
    have e2 : joinT l z = [] := joinT_no (by rw [e]; omega)
    rw [e, e2]
    clear e e2 hv hcell
    by_cases b1 : z < 0
    · clear h1
      go_enter Try.func12, Try.ntmps12
      go_wp2
      go_ret2
      exact ⟨rfl, Below.refl _ _⟩
    · have b2 : 4096 < z := by omega
      clear h1
      go_enter Try.func12, Try.ntmps12
      go_wp2
      go_ret2
      exact ⟨rfl, Below.refl _ _⟩
  · obtain ⟨n, rfl⟩ : ∃ n : Nat, z = (n : Int) := ⟨z.toNat, by omega⟩
    have hn : n ≤ 4096 := by omega
    have a1 : decide ((n : Int) < 0) = false := decide_eq_false (by omega)
    have a2 : decide ((4096 : Int) < (n : Int)) = false := decide_eq_false (by omega)
    have HV := (show Hid _ from hcell)
    have HJ : Is (joinE l n) (if jok l n = true then 0 else 5) := ⟨joinE_jok hn⟩
    have HX : Hid (∀ x ∈ l, x.length ≤ 1000000) := hx
    have HFIVE : Hid (jok l n = false → joinE l n = 5 ∧ joinT l n = []) := fun h => by
      have e : joinE l n = 5 := by rw [HJ.eq, h]; rfl
      exact ⟨e, joinT_no (by rw [e]; omega)⟩
    clear hv hcell h1 hx HJ
    obtain ⟨c, hcl⟩ : ∃ c, l.length = c := ⟨_, rfl⟩
    have HL : Is l.length c := ⟨hcl⟩
    rw [hcl] at hc1 hl HV0 ⊢
    clear hcl
    go_enter Try.func12, Try.ntmps12
    go_wp2_with fail
    go_loopw [6, 7] (fun s6 s7 wr => ∃ k : Nat, k ≤ c ∧ s7 = .int .i64 (k : Int) ∧ s6 = .string (mk (l.take k).flatten) ∧ (l.take k).flatten.length ≤ 4160 ∧ wr = w) (fun _ s7 _ => c - (intOf s7).toNat)
    case atStart => exact ⟨0, by omega, rfl, by simp; rfl, by simp, rfl⟩
    case round =>
      obtain ⟨k, hk, rfl, rfl, hfl, hw⟩ := hrel
      subst hw
      have hms := mk_size (l.take k).flatten
      by_cases hlt : k < c
      · have i0 : (k : Int) < (c : Int) := by omega
        have j0 : (0 : Int) ≤ (k : Int) := Int.natCast_nonneg _
        obtain ⟨g, off, rfl, hg, hcl⟩ := HV.out (by rw [HL.eq]; omega)
        obtain ⟨t, ht⟩ : ∃ t, l[k]? = some t := ⟨_, List.getElem?_eq_getElem (by rw [HL.eq]; exact hlt)⟩
        have HT : Hid (l[k]? = some t) := ht
        have hld : wr.cell? ⟨g, off + k, none⟩ = some (.string (mk t)) := hcl k t ht
        have hmt := mk_size t
        have htl := HX.out t (List.mem_of_getElem? ht)
        have HTK : Hid ((l.take (k + 1)).flatten = (l.take k).flatten ++ t) := by
          show _ = _
          obtain ⟨h1, h2⟩ := List.getElem?_eq_some_iff.1 ht
          rw [List.take_succ_eq_append_getElem h1, h2, List.flatten_append]
          simp
        clear ht hcl
        by_cases b1 : 64 < t.length
        · have HF := HFIVE.out (Ck.jok_no (fun h => by have := h.2 k t HT.out; omega))
          have HF := (show Hid _ from HF)
          have d1 : decide ((64 : Int) < ((mk t).size : Int)) = true := decide_eq_true (by omega)
          generalize mk (l.take k).flatten = X at *
          generalize mk t = Y at *
          clear HTK HT hmt hms htl b1
          go_wp2
          go_ret2
          rw [HF.out.1, HF.out.2]
          exact ⟨rfl, Below.refl _ _⟩
        · have d1 : decide ((64 : Int) < ((mk t).size : Int)) = false := decide_eq_false (by omega)
          by_cases b2 : 4096 < (l.take k).flatten.length
          · have HF := HFIVE.out (Ck.jok_no (fun h => by have := Ck.ok_len h; have := flat_le l k; omega))
            have HF := (show Hid _ from HF)
            have d2 : decide ((4096 : Int) < ((mk (l.take k).flatten).size : Int)) = true := decide_eq_true (by omega)
            generalize mk (l.take k).flatten = X at *
            generalize mk t = Y at *
            clear HTK HT hmt hms htl b1 b2
            go_wp2
            go_ret2
            rw [HF.out.1, HF.out.2]
            exact ⟨rfl, Below.refl _ _⟩
          · have d2 : decide ((4096 : Int) < ((mk (l.take k).flatten).size : Int)) = false := decide_eq_false (by omega)
            have A1 : ∀ W : World, (Op.stringOp .add (mk (l.take k).flatten) (mk t)).run Try.prog W = .ok (.string (mk (l.take (k + 1)).flatten)) W := fun W => by
              rw [run_string_add_sum W _ _ (by rw [hms, hmt]; omega), mk_append, HTK.out]
            have HLN : Hid ((l.take (k + 1)).flatten.length ≤ 4160) := by
              show (l.take (k + 1)).flatten.length ≤ 4160
              rw [HTK.out, List.length_append]; omega
            clear hmt hms htl b1 b2 HTK
            generalize mk (l.take k).flatten = X at *
            generalize hY : mk (l.take (k + 1)).flatten = Y at *
            have HY : Is (mk (l.take (k + 1)).flatten) Y := ⟨hY⟩
            clear hY
            generalize mk t = Z at *
            go_wp2
            go_roundw
            case rel => exact ⟨k + 1, by omega, by go_num, by rw [HY.eq], HLN.out, by trivial⟩
            case measure => (simp [intOf]) <;> omega
      · obtain rfl : k = c := by omega
        have i0 : ¬ (k : Int) < (k : Int) := by omega
        have HTA : Is (l.take k) l := ⟨List.take_of_length_le (by rw [HL.eq]; exact Nat.le_refl _)⟩
        rw [HTA.eq] at hfl hms ⊢
        clear HTA HV
        by_cases b1 : l.flatten.length = n
        · have d1 : (((mk l.flatten).size : Int) != (n : Int)) = false := by simp; omega
          have HSP : Hid (∀ W, Calls Try.prog 15 #[.string (mk l.flatten)] W fun e w' => ∃ v, e = .returned v ∧ OwnT w' W.heap.size v (chunks l.flatten) ∧ Below W.heap.size W w') := fun W => rsplit_any (mk l.flatten) W (by rw [hms]; omega)
          have HSM : Hid (∀ W v, Txts W v (chunks l.flatten) → Below wr.heap.size wr W → Calls Try.prog 13 #[v, .slice ad k cap] W fun e w' => e = .returned (.bool (chunks l.flatten == l)) ∧ Below W.heap.size W w') := fun W v h1 h2 => rtexts_any v (.slice ad k cap) (chunks l.flatten) l W h1 (HV0.out.below h2)
          have HJK : Is (jok l n) ((chunks l.flatten == l) && true) := ⟨by unfold jok; rw [b1]; simp⟩
          have HB1 : Is n l.flatten.length := ⟨b1.symm⟩
          by_cases b2 : (chunks l.flatten == l) = true
          · rw [b2] at HSM HJK
            have HF : Hid (joinE l n = 0 ∧ joinT l n = l.flatten) := by
              have e : joinE l n = 0 := by rw [joinE_jok hn, HJK.eq]; rfl
              exact ⟨e, joinT_yes e⟩
            clear HJK b2 hms hfl b1
            generalize hX : mk l.flatten = X at *
            have HXX : Is (mk l.flatten) X := ⟨hX⟩
            clear hX
            go_wp2_with (first
              | (go_at_call 15
                 refine (HSP.out _).mono ?_
                 rintro e w1 ⟨v1, rfl, hO1, hB1⟩
                 have HS1 := (show Hid _ from HSM.out w1 v1 hO1.txts hB1)
                 have HB9 := (show Hid _ from hB1)
                 clear hO1 hB1 HSM HSP)
              | (go_at_call 13
                 refine (show Calls _ _ _ _ _ from HS1.out).mono ?_
                 rintro e w2 ⟨rfl, hB2⟩
                 have HB10 := (show Hid _ from below_next HB9.out hB2 HB9.out.size)
                 clear hB2))
            go_ret2
            rw [HF.out.1, HF.out.2, HXX.eq]
            exact ⟨rfl, HB10.out⟩
          · have b3 : (chunks l.flatten == l) = false := by simpa using b2
            rw [b3] at HSM HJK
            have HF := (show Hid _ from HFIVE.out (by rw [HJK.eq]; rfl))
            clear HJK b2 b3 hms hfl b1
            generalize hX : mk l.flatten = X at *
            have HXX : Is (mk l.flatten) X := ⟨hX⟩
            clear hX
            go_wp2_with (first
              | (go_at_call 15
                 refine (HSP.out _).mono ?_
                 rintro e w1 ⟨v1, rfl, hO1, hB1⟩
                 have HS1 := (show Hid _ from HSM.out w1 v1 hO1.txts hB1)
                 have HB9 := (show Hid _ from hB1)
                 clear hO1 hB1 HSM HSP)
              | (go_at_call 13
                 refine (show Calls _ _ _ _ _ from HS1.out).mono ?_
                 rintro e w2 ⟨rfl, hB2⟩
                 have HB10 := (show Hid _ from below_next HB9.out hB2 HB9.out.size)
                 clear hB2))
            go_ret2
            rw [HF.out.1, HF.out.2]
            exact ⟨rfl, HB10.out⟩
        · have d1 : (((mk l.flatten).size : Int) != (n : Int)) = true := by simp; omega
          have HF := (show Hid _ from HFIVE.out (Ck.jok_no (fun h => b1 (Ck.ok_len h))))
          generalize mk l.flatten = X at *
          clear hms hfl b1
          go_wp2
          go_ret2
          rw [HF.out.1, HF.out.2]
          exact ⟨rfl, Below.refl _ _⟩
end Go.Proofs.Ytefpaebbendnmaa
