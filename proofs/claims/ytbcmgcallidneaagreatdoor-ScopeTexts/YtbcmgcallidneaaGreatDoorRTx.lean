/- Proved: the document's Text and Parse. -/
import Derived.Test.YtbcmgcallidneaaGreatDoorRMk
import Derived.Test.YtbcmgcallidneaaGreatDoorTextF
namespace Go.Proofs.YtbcmgcallidneaaGreatDoor
open Go.RowKit
set_option maxHeartbeats 4000000 in
set_option maxRecDepth 20000 in
theorem rtext_any (ad : Option Addr) (c : Nat) (l : List Pm.T) (w : World) (hA : TxtA w ad l) (hl : l.length ≤ 500) (hx : ∀ x ∈ l, x.length ≤ 4000) :
    Calls Tryz.prog 18 #[.slice ad l.length c] w fun e w' => e = .returned (.tuple #[.string (mk (Sm.texts l).1), .int .i64 ((Sm.texts l).2 : Nat)]) ∧ Below w.heap.size w w' := by
  have HM := (show Hid (Calls Tryz.prog 11 #[.slice ad l.length c] w fun e w' => e = .returned (.bool (Sm.may l)) ∧ Below w.heap.size w w') from rmay_any ad c l w hA (by omega) hx)
  have HA : Hid (TxtA w ad l) := hA
  have HL : Hid (∀ k, (Sm.text (l.take k)).length ≤ 600000000) := fun k => by
    have h1 := text_len (l.take k) 4000 fun y hy => hx y (List.mem_of_mem_take hy)
    have h2 : (l.take k).length ≤ 500 := by rw [List.length_take]; omega
    have h3 : (l.take k).length * (4000 + 1) ≤ 500 * (4000 + 1) := Nat.mul_le_mul_right _ h2
    omega
  have HXk : Hid (∀ k, k < l.length → (l.getD k []).length ≤ 4000) := fun k hk => hx _ (getD_mem hk)
  have HR : Is (Sm.texts l) (if Sm.may l = false then ([], 2) else (Sm.text l, 0)) := ⟨rfl⟩
  obtain ⟨n, hn⟩ : ∃ n, l.length = n := ⟨_, rfl⟩
  have HN : Is l.length n := ⟨hn⟩
  rw [hn] at hl HM HXk
  rw [hn]
  clear hA hn hx
  cases hm : Sm.may l with
  | false =>
    rw [hm] at HM HR
    rw [if_pos rfl] at HR
    go_enter Tryz.func18, Tryz.ntmps18
    go_wp2_with fail
    refine (show Calls _ _ _ _ _ from HM.out).mono ?_
    rintro e w1 ⟨rfl, hB1⟩
    go_wp2_with fail
    go_ret2
    exact ⟨by rw [HR.eq]; rfl, hB1⟩
  | true =>
    rw [hm] at HM HR
    rw [if_neg (by simp)] at HR
    go_enter Tryz.func18, Tryz.ntmps18
    go_wp2_with fail
    refine (show Calls _ _ _ _ _ from HM.out).mono ?_
    rintro e w1 ⟨rfl, hB1⟩
    have HB1 : Hid (Below w.heap.size w w1) := hB1
    have HA1 : Hid (TxtA w1 ad l) := HA.out.below hB1
    clear hB1 HM hm
    go_wp2_with fail
    go_loopw [4, 5] (fun v i wr => ∃ k : Nat, k ≤ n ∧ i = .int .i64 k ∧ v = .string (mk (Sm.text (l.take k))) ∧ wr = w1) (fun _ i _ => n - (intOf i).toNat)
    case atStart => exact ⟨0, by omega, rfl, rfl, rfl⟩
    case round =>
      obtain ⟨k, hk, rfl, rfl, hwr⟩ := hrel
      replace hwr := hwr.symm
      subst hwr
      by_cases hlt : k < n
      · have i0 : (k : Int) < (n : Int) := by omega
        have j0 : (0 : Int) ≤ (k : Int) := Int.natCast_nonneg _
        obtain ⟨g, he, hg, ht⟩ := HA1.out (by rw [HN.eq]; omega)
        subst he
        have c0 := ht.get k (by rw [HN.eq]; exact hlt)
        have hlk := HL.out k
        have hxk := HXk.out k hlt
        have HT2 : Is (Sm.text (l.take (k + 1))) (Sm.text (l.take k) ++ l.getD k [] ++ [10]) := ⟨text_snoc (by rw [HN.eq]; exact hlt)⟩
        have A1 : ∀ W : World, (Op.stringOp .add (mk (Sm.text (l.take k))) (mk (l.getD k []))).run Tryz.prog W = .ok (.string (mk (Sm.text (l.take k) ++ l.getD k []))) W := fun W => by
          rw [run_string_add_sum W _ _ (by rw [mk_size, mk_size]; omega)]
          rw [show mk (Sm.text (l.take k)) ++ mk (l.getD k []) = mk (Sm.text (l.take k) ++ l.getD k []) from bl_inj (by rw [bl_append]; rfl)]
        have A2 : ∀ W : World, (Op.stringOp .add (mk (Sm.text (l.take k) ++ l.getD k [])) ⟨#[10]⟩).run Tryz.prog W = .ok (.string (mk (Sm.text (l.take k) ++ l.getD k [] ++ [10]))) W := fun W => by
          rw [run_string_add_sum W _ _ (by rw [mk_size, List.length_append]; show _ + 1 ≤ _; omega)]
          rw [show mk (Sm.text (l.take k) ++ l.getD k []) ++ ⟨#[10]⟩ = mk (Sm.text (l.take k) ++ l.getD k [] ++ [10]) from bl_inj (by rw [bl_append]; rfl)]
        have HZ : Is (mk (Sm.text (l.take (k + 1)))) (mk (Sm.text (l.take k) ++ l.getD k [] ++ [10])) := ⟨by rw [HT2.eq]⟩
        clear ht hlk hxk HT2
        generalize mk (Sm.text (l.take k) ++ l.getD k [] ++ [10]) = Z at *
        generalize mk (Sm.text (l.take k) ++ l.getD k []) = Y at *
        generalize mk (Sm.text (l.take k)) = S at *
        generalize mk (l.getD k []) = X at *
        go_wp2_with fail
        go_roundw
        case rel => exact ⟨k + 1, by omega, by go_num, by rw [HZ.eq], by first | rfl | trivial⟩
        case measure => (simp [intOf]) <;> omega
      · obtain rfl : k = n := by omega
        have i0 : ¬ (k : Int) < (k : Int) := by omega
        have HE : Is (l.take k) l := ⟨List.take_of_length_le (by rw [HN.eq]; exact Nat.le_refl _)⟩
        rw [HE.eq]
        go_wp2_with fail
        go_ret2
        exact ⟨by rw [HR.eq]; rfl, HB1.out⟩
theorem rl_step10 {st : List Pm.T} {ln t : Pm.T} {k : Nat} (h : t[k]? = some 10) : Sm.rl st ln (t.drop k) = Sm.rl (st ++ [ln]) [] (t.drop (k + 1)) := by
  obtain ⟨hk, e⟩ := List.getElem?_eq_some_iff.1 h
  rw [List.drop_eq_getElem_cons hk, e, Sm.rl, if_pos rfl]
theorem rl_step {st : List Pm.T} {ln t : Pm.T} {k : Nat} {c : UInt8} (h : t[k]? = some c) (hc : c ≠ 10) : Sm.rl st ln (t.drop k) = Sm.rl st (ln ++ [c]) (t.drop (k + 1)) := by
  obtain ⟨hk, e⟩ := List.getElem?_eq_some_iff.1 h
  rw [List.drop_eq_getElem_cons hk, e, Sm.rl, if_neg hc]
theorem extract_byte (s : ByteArray) (k : Nat) (hlt : k < s.size) : s.extract k (k + 1) = mk [s[k]'hlt] := bl_inj (by
        rw [bl_mk, bl, Lib.extract_data]
        have hkl : k < (bl s).length := by rw [bl_length]; exact hlt
        show ((bl s).drop k).take (k + 1 - k) = _
        rw [Nat.add_sub_cancel_left, List.drop_eq_getElem_cons hkl]
        have e := bl_get s k hlt
        rw [List.getElem?_eq_getElem hkl] at e
        rw [Option.some.inj e]; rfl)
set_option maxHeartbeats 4000000 in
set_option maxRecDepth 20000 in
theorem rparse_any (t : ByteArray) (w : World) (ht : t.size ≤ 1000) :
    Calls Tryz.prog 20 #[.string t] w fun e w' => ∃ ad' c', e = .returned (.tuple #[.slice ad' (Sm.parse (bl t)).1.length c', .int .i64 ((Sm.parse (bl t)).2 : Nat)]) ∧ TxtA w' ad' (Sm.parse (bl t)).1 ∧ Below w.heap.size w w' := by
  have HP : Is (Sm.parse (bl t)) (if (Sm.rl [] [] (bl t)).2 ≠ [] ∨ Sm.may (Sm.rl [] [] (bl t)).1 = false then ([], 5) else ((Sm.rl [] [] (bl t)).1, 0)) := ⟨rfl⟩
  go_enter Tryz.func20, Tryz.ntmps20
  go_wp2_with fail
  go_loopw [4, 5, 6] (fun v ln i wr => ∃ (k : Nat) (st : List Pm.T) (lx : Pm.T), k ≤ t.size ∧ i = .int .i64 k ∧ ln = .string (mk lx) ∧ Sm.rl [] [] (bl t) = Sm.rl st lx ((bl t).drop k) ∧ st.length ≤ k ∧ lx.length ≤ k ∧ (∀ x ∈ st, x.length ≤ 1000) ∧ wr.ownsRow w.heap.size 9 1 v st.length (scells st) ∧ Below w.heap.size w wr) (fun _ _ i _ => t.size - (intOf i).toNat)
  case atStart => exact ⟨0, [], [], by omega, rfl, rfl, rfl, Nat.le_refl _, Nat.le_refl _, fun x hx => (by cases hx), own_nil _ _, Below.refl _ _⟩
  case round =>
    obtain ⟨k, st, lx, hk, rfl, rfl, hrl, hsl, hll, hsx, ho, hB⟩ := hrel
    have HRl : Is (Sm.rl [] [] (bl t)) (Sm.rl st lx ((bl t).drop k)) := ⟨hrl⟩
    have HSx : Hid (∀ x ∈ st, x.length ≤ 1000) := hsx
    have HO : Hid (wr.ownsRow w.heap.size 9 1 u4 st.length (scells st)) := ho
    have HB : Hid (Below w.heap.size w wr) := hB
    have hsz := hB.size
    obtain ⟨ad4, c4, hv4, _, _, hA4⟩ := own_txt ho
    subst hv4
    by_cases hlt : k < t.size
    · have i0 : (k : Int) < (t.size : Int) := by omega
      have j0 : (0 : Int) ≤ (k : Int) := Int.natCast_nonneg _
      obtain ⟨b, hb⟩ : ∃ b, t[k]'hlt = b := ⟨_, rfl⟩
      have HG : Is ((bl t)[k]?) (some b) := ⟨by rw [bl_get t k hlt, hb]⟩
      have gb : (t[k]'hlt).toNat = b.toNat := by rw [hb]
      have HEx : Is (t.extract k (k + 1)) (mk [b]) := ⟨by rw [extract_byte t k hlt, hb]⟩
      clear hrl hsx hB ho hA4 hb
      by_cases h10 : b = 10
      · subst h10
        have gb' : (t[k]'hlt).toNat = 10 := gb
        have HNx : Is (Sm.rl [] [] (bl t)) (Sm.rl (st ++ [lx]) [] ((bl t).drop (k + 1))) := ⟨by rw [HRl.eq, rl_step10 HG.eq]⟩
        have HSC : Is (scells (st ++ [lx])) (scells st ++ [.string (mk lx)]) := ⟨by rw [scells, scells, List.map_append]; rfl⟩
        have HSx2 : Hid (∀ x ∈ st ++ [lx], x.length ≤ 1000) := fun x hx => by
          rcases List.mem_append.1 hx with h | h
          · exact HSx.out x h
          · rw [List.mem_singleton.1 h]; omega
        clear gb HEx
        generalize mk lx = sx at *
        go_wp2_with (first
          | (refine append_str rfl (.tmp 17) (.tmp 19) rfl _ w.heap.size _ st.length (scells st) rfl (own_alloc1 HO.out _) ⟨wr.heap.size, 0, none⟩ 1 sx rfl (str_new wr sx) (by omega) (by simp; omega) ?_; intro v' w' hO4 hG4; have HO4 := (show Hid (w'.ownsRow w.heap.size 9 1 v' (st.length + 1) (scells st ++ [.string sx])) from hO4); have HB4 : Hid (Below w.heap.size w w') := (HB.out.alloc (by omega) _).trans (hG4.below (own_alloc1 HO.out _) (by simp; omega)); clear hO4 hG4))
        go_roundw
        case rel => exact ⟨k + 1, st ++ [lx], [], by omega, by go_num, rfl, HNx.eq, by rw [List.length_append]; simp; omega, by simp, HSx2.out, by rw [HSC.eq, List.length_append]; exact HO4.out, HB4.out⟩
        case measure => (simp [intOf]) <;> omega
      · have HNx : Is (Sm.rl [] [] (bl t)) (Sm.rl st (lx ++ [b]) ((bl t).drop (k + 1))) := ⟨by rw [HRl.eq, rl_step HG.eq h10]⟩
        have hn10 : ¬ ((b.toNat : Int) = 10) := fun e => h10 (UInt8.toNat.inj (by show b.toNat = 10; omega))
        have hn10' : (((b.toNat : Int)) == 10) = false := by simp only [beq_eq_false_iff_ne, ne_eq]; exact hn10
        have A1 : ∀ W : World, (Op.stringOp .add (mk lx) (mk [b])).run Tryz.prog W = .ok (.string (mk (lx ++ [b]))) W := fun W => by
          rw [run_string_add_sum W _ _ (by rw [mk_size, mk_size]; simp; omega)]
          rw [show mk lx ++ mk [b] = mk (lx ++ [b]) from bl_inj (by rw [bl_append]; rfl)]
        have hex : t.extract k (k + 1) = mk [b] := HEx.eq
        have k1 : wrap64 ((k : Int) + 1) = ((k + 1 : Nat) : Int) := by unfold wrap64; omega
        have k2 : ((k + 1 : Nat) : Int) ≤ (t.size : Int) := by omega
        have k3 : (k : Int) ≤ ((k + 1 : Nat) : Int) := by omega
        clear h10 HEx
        generalize hz : mk (lx ++ [b]) = Z at *
        have HZ : Is (mk (lx ++ [b])) Z := ⟨hz⟩
        clear hz
        generalize mk [b] = Y at *
        generalize mk lx = sx at *
        go_wp2_with fail
        go_roundw
        case rel => exact ⟨k + 1, st, lx ++ [b], by omega, by go_num, by rw [HZ.eq], HNx.eq, by omega, by rw [List.length_append]; simp; omega, HSx.out, HO.out, HB.out⟩
        case measure => (simp [intOf]) <;> omega
    · obtain rfl : k = t.size := by omega
      have i0 : ¬ (t.size : Int) < (t.size : Int) := by omega
      have HE : Is (Sm.rl [] [] (bl t)) (st, lx) := ⟨by rw [HRl.eq, List.drop_of_length_le (by rw [bl_length]; exact Nat.le_refl _)]; rfl⟩
      rw [HE.eq] at HP
      have HM := (show Hid (Calls Tryz.prog 11 #[.slice ad4 st.length c4] wr fun e w' => e = .returned (.bool (Sm.may st)) ∧ Below wr.heap.size wr w') from rmay_any ad4 c4 st wr hA4 (by omega) (fun x hx => by have := HSx.out x hx; omega))
      have HA4 : Hid (TxtA wr ad4 st) := hA4
      clear hrl hsx hB ho hA4
      by_cases hy : lx = []
      · subst hy
        have e0 : (mk ([] : Pm.T)).toList.isEmpty = true := by rw [ByteArray.toList_eq]; rfl
        have e1 : (mk ([] : Pm.T)).toList = [] := by rw [ByteArray.toList_eq]; rfl
        cases hmy : Sm.may st with
        | false =>
          rw [hmy] at HM HP
          rw [if_pos (.inr rfl)] at HP
          go_wp2_with (first | (go_at_call 11; refine (show Calls _ _ _ _ _ from HM.out).mono ?_; rintro e w2 ⟨rfl, hB2⟩))
          go_ret2
          rw [HP.eq]
          first | exact ⟨_, _, rfl, TxtA.nil _ _, HB.out.trans (hB2.mono hsz)⟩ | exact ⟨_, ⟨_, rfl⟩, TxtA.nil _ _, HB.out.trans (hB2.mono hsz)⟩
        | true =>
          rw [hmy] at HM HP
          rw [if_neg (by rintro (h | h); exact h rfl; cases h)] at HP
          go_wp2_with (first | (go_at_call 11; refine (show Calls _ _ _ _ _ from HM.out).mono ?_; rintro e w2 ⟨rfl, hB2⟩))
          go_ret2
          rw [HP.eq]
          first | exact ⟨ad4, c4, rfl, HA4.out.below hB2, HB.out.trans (hB2.mono hsz)⟩ | exact ⟨ad4, ⟨c4, rfl⟩, HA4.out.below hB2, HB.out.trans (hB2.mono hsz)⟩
      · rw [if_pos (.inl hy)] at HP
        have ey : (mk lx).toList.isEmpty = false := te_bl hy
        clear hy
        generalize mk lx = sy at *
        go_wp2_with fail
        go_ret2
        rw [HP.eq]
        first | exact ⟨_, _, rfl, TxtA.nil _ _, HB.out⟩ | exact ⟨_, ⟨_, rfl⟩, TxtA.nil _ _, HB.out⟩
end Go.Proofs.YtbcmgcallidneaaGreatDoor
