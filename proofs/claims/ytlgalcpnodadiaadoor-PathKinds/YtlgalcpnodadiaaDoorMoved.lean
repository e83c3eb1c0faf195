/- Proved: chain and Moved answer what they should. -/
import Derived.Test.YtlgalcpnodadiaaDoorBelowF
import Derived.Test.YtlgalcpnodadiaaDoorMathM
namespace Go.Proofs.YtlgalcpnodadiaaDoor
open Go.RowKit
set_option maxHeartbeats 1000000 in
set_option maxRecDepth 20000 in
theorem chain_any (p n : ByteArray) (w : World) (hp : p.size ≤ 4294967296) (hn : n.size ≤ 4294967296) :
    Calls Tryd.prog 46 #[.string p, .string n] w fun e w' => e = .returned (.string (mk (Pm.chain (bl p) (bl n)))) ∧ w' = w := by
  have A1 : ∀ W : World, (Op.stringOp .add p n).run Tryd.prog W = .ok (.string (p ++ n)) W := fun W => run_string_add_sum W _ _ (by omega)
  have A2 : ∀ W : World, (Op.stringOp .add p ⟨#[47]⟩).run Tryd.prog W = .ok (.string (p ++ ⟨#[47]⟩)) W := fun W => run_string_add_sum W _ _ (by show _ + 1 ≤ _; omega)
  have A3 : ∀ W : World, (Op.stringOp .add (p ++ ⟨#[47]⟩) n).run Tryd.prog W = .ok (.string (p ++ ⟨#[47]⟩ ++ n)) W := fun W => run_string_add_sum W _ _ (by rw [ByteArray.size_append]; show _ + 1 + _ ≤ _; omega)
  by_cases h : bl p = [] ∨ bl n = []
  · have HC : Is (mk (Pm.chain (bl p) (bl n))) (p ++ n) := ⟨bl_inj (by rw [bl_mk, bl_append, Pm.chain, if_pos h])⟩
    rcases h with h | h
    · have e1 : p.toList.isEmpty = true := by rw [ByteArray.toList_eq]; show (bl p).isEmpty = true; rw [h]; rfl
      clear h
      go_enter Tryd.func46, Tryd.ntmps46
      go_wp2
      go_ret
      exact ⟨by rw [HC.eq]; rfl, rfl⟩
    · have e1 : n.toList.isEmpty = true := by rw [ByteArray.toList_eq]; show (bl n).isEmpty = true; rw [h]; rfl
      clear h
      cases e0 : p.toList.isEmpty with
      | true =>
        go_enter Tryd.func46, Tryd.ntmps46
        go_wp2
        go_ret
        exact ⟨by rw [HC.eq]; rfl, rfl⟩
      | false =>
        go_enter Tryd.func46, Tryd.ntmps46
        go_wp2
        go_ret
        exact ⟨by rw [HC.eq]; rfl, rfl⟩
  · have HC : Is (mk (Pm.chain (bl p) (bl n))) (p ++ ⟨#[47]⟩ ++ n) := ⟨bl_inj (by rw [bl_mk, bl_append, bl_append, Pm.chain, if_neg h]; show _ = bl p ++ [47] ++ bl n; simp)⟩
    have e0 : p.toList.isEmpty = false := te_bl fun e => h (.inl e)
    have e1 : n.toList.isEmpty = false := te_bl fun e => h (.inr e)
    clear h
    go_enter Tryd.func46, Tryd.ntmps46
    go_wp2
    go_ret
    exact ⟨by rw [HC.eq]; rfl, rfl⟩
theorem chain_length (a b : Pm.T) : (Pm.chain a b).length ≤ a.length + b.length + 1 := by
  unfold Pm.chain
  split <;> simp <;> omega
theorem trim_length (l : Pm.T) : (Lib.trimPrefix l [47]).length ≤ l.length := by
  unfold Lib.trimPrefix
  split <;> simp
set_option maxHeartbeats 2000000 in
set_option maxRecDepth 20000 in
theorem moved_any (p f t : ByteArray) (w : World) (hp : p.size ≤ 4000) (hf : f.size ≤ 4000) (ht : t.size ≤ 4000) (hT : Tab w) :
    Calls Tryd.prog 31 #[.string p, .string f, .string t] w fun e w' => e = .returned (.tuple #[.string (mk (Pm.moved (bl p) (bl f) (bl t)).1), .int .i64 ((Pm.moved (bl p) (bl f) (bl t)).2 : Nat)]) ∧ Below w.heap.size w w' := by
  have HM : Is (Pm.moved (bl p) (bl f) (bl t)) (if Pm.isP (bl f) = false ∨ Pm.isP (bl t) = false then ([], 2) else if bl p ≠ bl f ∧ Pm.below (bl f) (bl p) = false then ([], 18) else if bl f = [] ∧ bl t ≠ [] then ([], 2) else Pm.checked (Pm.chain (bl t) (Lib.trimPrefix ((bl p).drop (bl f).length) [47]))) := ⟨rfl⟩
  have PF : Hid (∀ W : World, Tab W → Calls Tryd.prog 40 #[.string f] W fun e w' => e = .returned (.bool (Pm.isP (bl f))) ∧ Below W.heap.size W w') := fun W hW => isPath_any f W (by omega) hW
  have PT : Hid (∀ W : World, Tab W → Calls Tryd.prog 40 #[.string t] W fun e w' => e = .returned (.bool (Pm.isP (bl t))) ∧ Below W.heap.size W w') := fun W hW => isPath_any t W (by omega) hW
  have BF : Hid (∀ W : World, Tab W → Calls Tryd.prog 26 #[.string f, .string p] W fun e w' => e = .returned (.bool (Pm.below (bl f) (bl p))) ∧ Below W.heap.size W w') := fun W hW => below_any f p W (by omega) hW
  have EPF : Is (p.toList == f.toList) (decide (bl p = bl f)) := ⟨str_eq' (bl p) f⟩
  have hfl := bl_length f
  have HLP : Hid (bl p = bl f ∨ Pm.below (bl f) (bl p) = true → f.size ≤ p.size) := fun h => by
    rw [← bl_length f, ← bl_length p]
    rcases h with h | h
    · rw [h]; omega
    · obtain ⟨_, h | ⟨r, h⟩⟩ := (below_iff _ _).1 h
      · rw [h]; simp
      · rw [h]; simp
  have HX : Is (bl (p.extract f.size p.size)) ((bl p).drop (bl f).length) := ⟨by rw [bl_length, bl, Lib.extract_to_end]⟩
  have hxl : (p.extract f.size p.size).size ≤ 4000 := by rw [ByteArray.size_extract]; omega
  have TR : Hid (∀ W : World, Calls Tryd.prog 51 #[.string (p.extract f.size p.size), .string ⟨#[47]⟩] W fun e w' => e = .returned (.string (mk (Lib.trimPrefix ((bl p).drop (bl f).length) [47]))) ∧ w' = W) := fun W => by
    have h := Tryd.strings_TrimPrefix (p.extract f.size p.size) ⟨#[47]⟩ W
    rw [show (p.extract f.size p.size).data.toList = _ from HX.eq] at h
    exact h
  have hrl : (Lib.trimPrefix ((bl p).drop (bl f).length) [47]).length ≤ 4000 := by
    have := trim_length ((bl p).drop (bl f).length)
    rw [← HX.eq, bl_length] at this
    rw [← HX.eq]; omega
  clear HX hfl
  generalize Lib.trimPrefix ((bl p).drop (bl f).length) [47] = R at *
  have CH : Hid (∀ W : World, Calls Tryd.prog 46 #[.string t, .string (mk R)] W fun e w' => e = .returned (.string (mk (Pm.chain (bl t) R))) ∧ w' = W) := fun W => chain_any t (mk R) W (by omega) (by rw [mk_size]; omega)
  have hcl := chain_length (bl t) R
  have htl := bl_length t
  have CK : Hid (∀ W : World, Tab W → Calls Tryd.prog 36 #[.string (mk (Pm.chain (bl t) R))] W fun e w' => e = .returned (.tuple #[.string (mk (Pm.checked (Pm.chain (bl t) R)).1), .int .i64 ((Pm.checked (Pm.chain (bl t) R)).2 : Nat)]) ∧ Below W.heap.size W w') := fun W hW => checked_any (mk (Pm.chain (bl t) R)) W (by rw [mk_size]; omega) hW
  clear hcl htl hrl
  have HB0 : Hid (Below w.heap.size w w) := Below.refl _ _
  have HT0 : Hid (Tab w) := hT
  have hz0 : w.heap.size ≤ w.heap.size := Nat.le_refl _
  have EF : Is f.toList.isEmpty (decide (bl f = [])) := ⟨by rw [ByteArray.toList_eq]; show (bl f).isEmpty = _; cases bl f <;> simp⟩
  have ET : Is t.toList.isEmpty (decide (bl t = [])) := ⟨by rw [ByteArray.toList_eq]; show (bl t).isEmpty = _; cases bl t <;> simp⟩
  generalize mk R = X at *
  clear hT
  go_enter Tryd.func31, Tryd.ntmps31
  cases hif : Pm.isP (bl f) with
  | false =>
    rw [hif] at PF HM
    rw [if_pos (.inl rfl)] at HM
    go_wp2_with fail
    refine (PF.out _ HT0.out).mono ?_
    rintro e w1 ⟨rfl, hB1⟩
    have HB1 : Hid (Below w.heap.size w w1) := HB0.out.trans (hB1.mono hz0)
    have HT1 : Hid (Tab w1) := HT0.out.below hB1
    have hz1 := HB1.out.size
    clear hB1
    go_wp2_with fail
    go_ret2
    exact ⟨by rw [HM.eq]; rfl, HB1.out⟩
  | true =>
    rw [hif] at PF HM
    cases hit : Pm.isP (bl t) with
    | false =>
      rw [hit] at PT HM
      rw [if_pos (.inr rfl)] at HM
      go_wp2_with fail
      refine (PF.out _ HT0.out).mono ?_
      rintro e w1 ⟨rfl, hB1⟩
      have HB1 : Hid (Below w.heap.size w w1) := HB0.out.trans (hB1.mono hz0)
      have HT1 : Hid (Tab w1) := HT0.out.below hB1
      have hz1 := HB1.out.size
      clear hB1
      go_wp2_with fail
      refine (PT.out _ HT1.out).mono ?_
      rintro e w2 ⟨rfl, hB2⟩
      have HB2 : Hid (Below w.heap.size w w2) := HB1.out.trans (hB2.mono hz1)
      have HT2 : Hid (Tab w2) := HT1.out.below hB2
      have hz2 := HB2.out.size
      clear hB2
      go_wp2_with fail
      go_ret2
      exact ⟨by rw [HM.eq]; rfl, HB2.out⟩
    | true =>
      rw [hit] at PT HM
      rw [if_neg (by simp)] at HM
      go_wp2_with fail
      refine (PF.out _ HT0.out).mono ?_
      rintro e w1 ⟨rfl, hB1⟩
      have HB1 : Hid (Below w.heap.size w w1) := HB0.out.trans (hB1.mono hz0)
      have HT1 : Hid (Tab w1) := HT0.out.below hB1
      have hz1 := HB1.out.size
      clear hB1
      go_wp2_with fail
      refine (PT.out _ HT1.out).mono ?_
      rintro e w2 ⟨rfl, hB2⟩
      have HB2 : Hid (Below w.heap.size w w2) := HB1.out.trans (hB2.mono hz1)
      have HT2 : Hid (Tab w2) := HT1.out.below hB2
      have hz2 := HB2.out.size
      clear hB2
      clear PF PT
      by_cases hpf : bl p = bl f
      · have epf : (p.toList == f.toList) = true := by rw [EPF.eq, decide_eq_true hpf]
        have hle := HLP.out (.inl hpf)
        rw [if_neg (fun h => h.1 hpf)] at HM
        clear EPF hpf HLP BF
        have i1 : (f.size : Int) ≤ (p.size : Int) := by omega
        have i2 : (0 : Int) ≤ (f.size : Int) := by omega
        by_cases hrf : bl f = []
        · have ef : f.toList.isEmpty = true := by rw [EF.eq, decide_eq_true hrf]
          by_cases hrt : bl t = []
          · have et : t.toList.isEmpty = true := by rw [ET.eq, decide_eq_true hrt]
            rw [if_neg (fun h => h.2 hrt)] at HM
            clear EF ET hrf hrt
            go_wp2_with fail
            refine (TR.out _).mono ?_
            rintro e wS ⟨rfl, hwS⟩
            rw [hwS]
            clear hwS wS
            go_wp2_with fail
            refine (CH.out _).mono ?_
            rintro e wS ⟨rfl, hwS⟩
            rw [hwS]
            clear hwS wS
            go_wp2_with fail
            refine (CK.out _ HT2.out).mono ?_
            rintro e w3 ⟨rfl, hB3⟩
            have HB3 : Hid (Below w.heap.size w w3) := HB2.out.trans (hB3.mono hz2)
            have HT3 : Hid (Tab w3) := HT2.out.below hB3
            have hz3 := HB3.out.size
            clear hB3
            go_wp2_with fail
            go_ret2
            exact ⟨by rw [HM.eq]; rfl, HB3.out⟩
          · have et : t.toList.isEmpty = false := by rw [ET.eq, decide_eq_false hrt]
            rw [if_pos ⟨hrf, hrt⟩] at HM
            clear EF ET hrf hrt
            go_wp2_with fail
            go_ret2
            exact ⟨by rw [HM.eq]; rfl, HB2.out⟩
        · have ef : f.toList.isEmpty = false := by rw [EF.eq, decide_eq_false hrf]
          rw [if_neg (fun h => hrf h.1)] at HM
          clear EF ET hrf
          go_wp2_with fail
          refine (TR.out _).mono ?_
          rintro e wS ⟨rfl, hwS⟩
          rw [hwS]
          clear hwS wS
          go_wp2_with fail
          refine (CH.out _).mono ?_
          rintro e wS ⟨rfl, hwS⟩
          rw [hwS]
          clear hwS wS
          go_wp2_with fail
          refine (CK.out _ HT2.out).mono ?_
          rintro e w3 ⟨rfl, hB3⟩
          have HB3 : Hid (Below w.heap.size w w3) := HB2.out.trans (hB3.mono hz2)
          have HT3 : Hid (Tab w3) := HT2.out.below hB3
          have hz3 := HB3.out.size
          clear hB3
          go_wp2_with fail
          go_ret2
          exact ⟨by rw [HM.eq]; rfl, HB3.out⟩
      · have epf : (p.toList == f.toList) = false := by rw [EPF.eq, decide_eq_false hpf]
        cases hbb : Pm.below (bl f) (bl p) with
        | false =>
          rw [hbb] at BF HM
          rw [if_pos ⟨hpf, rfl⟩] at HM
          clear EPF hpf HLP
          go_wp2_with fail
          refine (BF.out _ HT2.out).mono ?_
          rintro e w3 ⟨rfl, hB3⟩
          have HB3 : Hid (Below w.heap.size w w3) := HB2.out.trans (hB3.mono hz2)
          have HT3 : Hid (Tab w3) := HT2.out.below hB3
          have hz3 := HB3.out.size
          clear hB3
          go_wp2_with fail
          go_ret2
          exact ⟨by rw [HM.eq]; rfl, HB3.out⟩
        | true =>
          have hle := HLP.out (.inr hbb)
          rw [hbb] at BF HM
          rw [if_neg (by simp)] at HM
          clear EPF hpf HLP
          go_wp2_with fail
          refine (BF.out _ HT2.out).mono ?_
          rintro e w3 ⟨rfl, hB3⟩
          have HB3 : Hid (Below w.heap.size w w3) := HB2.out.trans (hB3.mono hz2)
          have HT3 : Hid (Tab w3) := HT2.out.below hB3
          have hz3 := HB3.out.size
          clear hB3
          clear HB2 HT2 hz2
          have i1 : (f.size : Int) ≤ (p.size : Int) := by omega
          have i2 : (0 : Int) ≤ (f.size : Int) := by omega
          by_cases hrf : bl f = []
          · have ef : f.toList.isEmpty = true := by rw [EF.eq, decide_eq_true hrf]
            by_cases hrt : bl t = []
            · have et : t.toList.isEmpty = true := by rw [ET.eq, decide_eq_true hrt]
              rw [if_neg (fun h => h.2 hrt)] at HM
              clear EF ET hrf hrt
              go_wp2_with fail
              refine (TR.out _).mono ?_
              rintro e wS ⟨rfl, hwS⟩
              rw [hwS]
              clear hwS wS
              go_wp2_with fail
              refine (CH.out _).mono ?_
              rintro e wS ⟨rfl, hwS⟩
              rw [hwS]
              clear hwS wS
              go_wp2_with fail
              refine (CK.out _ HT3.out).mono ?_
              rintro e w4 ⟨rfl, hB4⟩
              have HB4 : Hid (Below w.heap.size w w4) := HB3.out.trans (hB4.mono hz3)
              have HT4 : Hid (Tab w4) := HT3.out.below hB4
              have hz4 := HB4.out.size
              clear hB4
              go_wp2_with fail
              go_ret2
              exact ⟨by rw [HM.eq]; rfl, HB4.out⟩
            · have et : t.toList.isEmpty = false := by rw [ET.eq, decide_eq_false hrt]
              rw [if_pos ⟨hrf, hrt⟩] at HM
              clear EF ET hrf hrt
              go_wp2_with fail
              go_ret2
              exact ⟨by rw [HM.eq]; rfl, HB3.out⟩
          · have ef : f.toList.isEmpty = false := by rw [EF.eq, decide_eq_false hrf]
            rw [if_neg (fun h => hrf h.1)] at HM
            clear EF ET hrf
            go_wp2_with fail
            refine (TR.out _).mono ?_
            rintro e wS ⟨rfl, hwS⟩
            rw [hwS]
            clear hwS wS
            go_wp2_with fail
            refine (CH.out _).mono ?_
            rintro e wS ⟨rfl, hwS⟩
            rw [hwS]
            clear hwS wS
            go_wp2_with fail
            refine (CK.out _ HT3.out).mono ?_
            rintro e w4 ⟨rfl, hB4⟩
            have HB4 : Hid (Below w.heap.size w w4) := HB3.out.trans (hB4.mono hz3)
            have HT4 : Hid (Tab w4) := HT3.out.below hB4
            have hz4 := HB4.out.size
            clear hB4
            go_wp2_with fail
            go_ret2
            exact ⟨by rw [HM.eq]; rfl, HB4.out⟩
end Go.Proofs.YtlgalcpnodadiaaDoor
