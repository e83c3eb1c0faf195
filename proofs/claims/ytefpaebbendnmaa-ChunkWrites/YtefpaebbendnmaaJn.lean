/- Proved: what chunk's Join answers for all lists and numbers. -/
import Derived.Test.YtefpaebbendnmaaSpl
namespace Go.Proofs.Ytefpaebbendnmaa
open Go.RowKit
open Ck (T cnt cntZ zs pc chunks Ok jok joinE joinT)
/- so far the lengths fit -/
def OkTo (l : List T) (n k : Nat) : Prop := ∀ i t, i < k → l[i]? = some t → t.length = min 64 (n - 64 * i)
theorem okto_len {l : List T} {n : Nat} : ∀ k, k ≤ l.length → OkTo l n k → (l.take k).flatten.length = min n (64 * k)
  | 0, _, _ => by simp
  | k + 1, hk, h => by
    have ih := okto_len k (by omega) (fun i t hi ht => h i t (by omega) ht)
    have h1 := h k (l[k]'(by omega)) (by omega) (List.getElem?_eq_getElem (by omega))
    rw [List.take_succ_eq_append_getElem (by omega), List.flatten_append, List.length_append, ih]
    simp only [List.flatten_cons, List.flatten_nil, List.append_nil]
    omega
theorem joinE_yes {l : List T} {n : Nat} (h : Ok l n) (hn : n ≤ 4096) : joinE l n = 0 := by
  unfold joinE
  rw [if_neg (by omega), show (n : Int).toNat = n by omega, (Ck.jok_iff l n).2 h, if_pos rfl]
theorem joinE_no {l : List T} {n : Nat} (h : ¬ Ok l n) (hn : n ≤ 4096) : joinE l n = 5 := by
  unfold joinE
  rw [if_neg (by omega), show (n : Int).toNat = n by omega, Ck.jok_no h]
  rfl
theorem joinT_no {l : List T} {z : Int} (h : joinE l z ≠ 0) : joinT l z = [] := by unfold joinT; rw [if_neg h]
theorem joinT_yes {l : List T} {z : Int} (h : joinE l z = 0) : joinT l z = l.flatten := by unfold joinT; rw [if_pos h]
theorem splice_jn (a : T) (t : T) (n : Nat) (_h : a.length + t.length ≤ n) : splice (a ++ zs (n - a.length)) a.length t = (a ++ t) ++ zs (n - (a ++ t).length) := by
  unfold splice
  rw [List.take_left' rfl, List.drop_append, List.drop_eq_nil_of_le (by omega), List.nil_append, show a.length + t.length - a.length = t.length by omega, Ck.zs_drop, List.length_append, show n - a.length - t.length = n - (a.length + t.length) by omega]
set_option maxHeartbeats 4000000 in
set_option maxRecDepth 20000 in
theorem join_len (v : Value) (l : List T) (n : Nat) (w : World) (hv : Txts w v l) (hn : n ≤ 4096) (hl : l.length = cnt n) :
    Calls Try.prog 11 #[v, .int .i64 (n : Int)] w fun e w' => e = .returned (.tuple #[.string (mk (joinT l n)), .int .i64 (joinE l n : Nat)]) ∧ Below w.heap.size w w' := by
  obtain ⟨ad, cap, rfl, hc1, hc2, hcell⟩ := hv.sl
  have HV : Hid (0 < l.length → ∃ g off, ad = some ⟨g, off, none⟩ ∧ g < w.heap.size ∧ ∀ i r, l[i]? = some r → w.cell? ⟨g, off + i, none⟩ = some (tv r)) := hcell
  obtain ⟨c, hc⟩ : ∃ c, cnt n = c := ⟨_, rfl⟩
  have HC : Hid (∀ W, Calls Try.prog 16 #[.int .i64 (n : Int)] W fun e w' => e = .returned (.int .i64 (c : Int)) ∧ w' = W) := fun W => by rw [← hc]; exact count_nat n W (by omega)
  have HL : Is l.length c := ⟨by rw [hl, hc]⟩
  have HQ : Hid (∀ k, k < c → 64 * k < n) := fun k hk => by unfold cnt at hc; omega
  have HQ2 : Hid (n ≤ 64 * c) := by show n ≤ 64 * c; unfold cnt at hc; omega
  have HQ3 : Hid (c = cnt n) := hc.symm
  have hc9 : c ≤ 64 := by unfold cnt at hc; omega
  have a1 : decide ((n : Int) < 0) = false := decide_eq_false (by omega)
  have a2 : decide ((4096 : Int) < (n : Int)) = false := decide_eq_false (by omega)
  have ane : ((c : Int) != (c : Int)) = false := by simp
  rw [HL.eq] at hc1 ⊢
  have HW : Hid (w.heap.size = w.heap.size) := rfl
  clear hc hl hv hcell
  go_enter Try.func11, Try.ntmps11
  go_wp2_with fail
  refine (HC.out w).mono ?_
  rintro e wS ⟨rfl, hwS⟩
  rw [hwS]
  clear hwS wS HC
  go_wp2_with (first
    | (refine make_bytes rfl _ _ rfl n rfl rfl (by omega) ?_
       intro w1 hR1 hB1 hz1
       have HR1 : Hid (Brow w1 w.heap.size (zs n)) := hR1
       have HB1 : Hid (Below w.heap.size w w1) := hB1
       generalize hh : w.heap.size = h0 at *
       have HH : Hid (w.heap.size = h0) := hh
       clear hR1 hB1 hz1 hh))
  go_loopw [7, 8, 9, 10, 28] (fun _ _ _ _ s28 wr => ∃ k : Nat, k ≤ c ∧ s28 = .int .i64 (k : Int) ∧ Brow wr h0 ((l.take k).flatten ++ zs (n - (l.take k).flatten.length)) ∧ OkTo l n k ∧ Below h0 w wr) (fun _ _ _ _ s28 _ => c - (intOf s28).toNat)
  case atStart => exact ⟨0, by omega, rfl, by simpa using HR1.out, fun i t hi => absurd hi (by omega), HB1.out⟩
  case round =>
    obtain ⟨k, hk, rfl, hR, hO, hB⟩ := hrel
    have HR : Hid (Brow wr h0 ((l.take k).flatten ++ zs (n - (l.take k).flatten.length))) := hR
    have HO : Hid (OkTo l n k) := hO
    have HB : Hid (Below h0 w wr) := hB
    clear hR hO hB HR1 HB1
    by_cases hlt : k < c
    · have i0 : (k : Int) < (c : Int) := by omega
      have j0 : (0 : Int) ≤ (k : Int) := Int.natCast_nonneg _
      have q := HQ.out k hlt
      obtain ⟨g, off, rfl, hg, hcl⟩ := HV.out (by rw [HL.eq]; omega)
      obtain ⟨t, ht⟩ : ∃ t, l[k]? = some t := ⟨_, List.getElem?_eq_getElem (by rw [HL.eq]; exact hlt)⟩
      have HT : Hid (l[k]? = some t) := ht
      have hld := (HB.out.cell (p := ⟨g, off + k, none⟩) (by exact hg)).trans (hcl k t ht)
      have hld2 : wr.cell? ⟨g, off + k, none⟩ = some (.string (mk t)) := hld
      have HE := (show Hid _ from ends_nat n k wr (by omega) (by omega))
      have HP : Hid ((l.take k).flatten.length = 64 * k) := by
        show _ = _
        rw [okto_len k (by rw [HL.eq]; omega) HO.out]; omega
      have HTK : Hid ((l.take (k + 1)).flatten = (l.take k).flatten ++ t) := by
        show _ = _
        obtain ⟨h1, h2⟩ := List.getElem?_eq_some_iff.1 ht
        rw [List.take_succ_eq_append_getElem h1, h2, List.flatten_append]
        simp
      clear ht hcl hld
      by_cases hsz : t.length = min 64 (n - 64 * k)
      · have HN : Hid (Brow (wr.setCells h0 (64 * k) (bc t)) h0 ((l.take (k + 1)).flatten ++ zs (n - (l.take (k + 1)).flatten.length))) := by
          have h := HR.out.set (o := 64 * k) (x := t) (by rw [List.length_append, Ck.zs_length, HP.out]; omega)
          have e := splice_jn (l.take k).flatten t n (by rw [HP.out]; omega)
          rw [HP.out] at e h
          rw [e] at h
          rw [HTK.out]
          exact h
        have HBN : Hid (Below h0 w (wr.setCells h0 (64 * k) (bc t))) := below_setCells (Nat.le_refl _) _ _ _ HB.out
        have HTH := (show Hid _ from HR.out.there (o := 64 * k) (n := t.length) (by rw [List.length_append, Ck.zs_length, HP.out]; omega))
        have HON : Hid (OkTo l n (k + 1)) := fun i x hi hx => by
          by_cases hik : i = k
          · subst hik
            rw [HT.out] at hx
            rw [← Option.some.inj hx]
            exact hsz
          · exact HO.out i x (by omega) hx
        have e0 : 64 * k + min 64 (n - 64 * k) = 64 * k + t.length := by omega
        rw [e0] at HE
        have t0 : 0 < t.length := by omega
        have l1 : 64 * k + t.length ≤ n := by omega
        clear e0 hsz HT HTK HP q
        have hms := mk_size t
        have k1 : (0 : Int) ≤ ((64 * k : Nat) : Int) := by omega
        have k2 : ((64 * k : Nat) : Int) ≤ ((64 * k + t.length : Nat) : Int) := by omega
        have k3 : ((64 * k + t.length : Nat) : Int) ≤ (n : Int) := by omega
        have k4 : ¬ 64 * k + t.length = 64 * k := by omega
        have k5 : 64 * k + t.length - 64 * k = t.length := by omega
        have k6 : ((64 * k + t.length : Nat) : Int) - ((64 * k : Nat) : Int) = (t.length : Int) := by omega
        have k7 : ((t.length : Int) != (t.length : Int)) = false := by simp
        generalize 64 * k + t.length = hi at *
        generalize 64 * k = lo at *
        go_wp2_with fail
        refine (show Calls _ _ _ _ _ from HE.out).mono ?_
        rintro e wS ⟨rfl, hwS⟩
        rw [hwS]
        clear hwS wS HE
        go_wp2_with (first
          | (refine copy_str rfl _ _ 47 9 rfl 5 Try.underlying47 size_u8 h0 lo t.length t.length rfl (mk t) rfl t.length (by rw [hms]; omega) HTH.out ?_
             rw [show (bl (mk t)).take t.length = t from List.take_length]))
        go_roundw
        case rel => exact ⟨k + 1, by omega, by go_num, HN.out, HON.out, HBN.out⟩
        case measure => (simp [intOf]) <;> omega
      · have HF : Hid (joinE l n = 5 ∧ joinT l n = []) := by
          have e : joinE l n = 5 := joinE_no (fun h => hsz (h.2 k t HT.out)) hn
          exact ⟨e, joinT_no (by rw [e]; omega)⟩
        have hms := mk_size t
        have k6 : ((64 * k + min 64 (n - 64 * k) : Nat) : Int) - ((64 * k : Nat) : Int) = ((min 64 (n - 64 * k) : Nat) : Int) := by omega
        have k7 : ((t.length : Int) != ((min 64 (n - 64 * k) : Nat) : Int)) = true := by simp; omega
        have k8 : ((64 * k + min 64 (n - 64 * k) : Nat) : Int) ≤ 5000 := by omega
        have k9 : (0 : Int) ≤ ((64 * k : Nat) : Int) := by omega
        have k10 : ((64 * k : Nat) : Int) ≤ ((64 * k + min 64 (n - 64 * k) : Nat) : Int) := by omega
        clear HT HTK HP q hsz
        generalize 64 * k + min 64 (n - 64 * k) = hi at *
        generalize min 64 (n - 64 * k) = mm at *
        generalize 64 * k = lo at *
        go_wp2_with fail
        refine (show Calls _ _ _ _ _ from HE.out).mono ?_
        rintro e wS ⟨rfl, hwS⟩
        rw [hwS]
        clear hwS wS HE
        go_wp2
        go_ret2
        rw [HH.out, HF.out.1, HF.out.2]
        exact ⟨rfl, HB.out⟩
    · obtain rfl : k = c := by omega
      have i0 : ¬ (k : Int) < (k : Int) := by omega
      have HF : Hid (joinE l n = 0 ∧ joinT l n = l.flatten ∧ Brow wr h0 l.flatten ∧ l.flatten.length = n) := by
        have hok : Ok l n := ⟨by rw [HL.eq]; exact HQ3.out, fun i t ht => HO.out i t (by have := (List.getElem?_eq_some_iff.1 ht).1; rw [HL.eq] at this; exact this) ht⟩
        have e := joinE_yes hok hn
        have h := HR.out
        rw [List.take_of_length_le (by rw [HL.eq]; omega), Ck.ok_len hok, Nat.sub_self, show zs 0 = [] from rfl, List.append_nil] at h
        exact ⟨e, joinT_yes e, h, Ck.ok_len hok⟩
      have hcv := str_all HF.out.2.2.1.rd n HF.out.2.2.2.symm n
      go_wp2
      go_ret2
      rw [HH.out, HF.out.1, HF.out.2.1]
      exact ⟨rfl, HB.out⟩
set_option maxHeartbeats 1000000 in
theorem join_any (v : Value) (l : List T) (z : Int) (w : World) (hv : Txts w v l) (hz : z ≤ 9223372036854775807) :
    Calls Try.prog 11 #[v, .int .i64 z] w fun e w' => e = .returned (.tuple #[.string (mk (joinT l z)), .int .i64 (joinE l z : Nat)]) ∧ Below w.heap.size w w' := by
  by_cases h1 : z < 0 ∨ 4096 < z
  · have e : joinE l z = 2 := by unfold joinE; rw [if_pos h1]
    have e2 : joinT l z = [] := joinT_no (by rw [e]; omega)
    rw [e, e2]
    clear e e2
    obtain ⟨ad, cap, rfl, hc1, hc2, hcell⟩ := hv.sl
    clear hv hcell
    by_cases b1 : z < 0
    · clear h1
      go_enter Try.func11, Try.ntmps11
      go_wp2
      go_ret2
      exact ⟨rfl, Below.refl _ _⟩
    · have b2 : 4096 < z := by omega
      clear h1
      go_enter Try.func11, Try.ntmps11
      go_wp2
      go_ret2
      exact ⟨rfl, Below.refl _ _⟩
  · obtain ⟨n, rfl⟩ : ∃ n : Nat, z = (n : Int) := ⟨z.toNat, by omega⟩
    have hn : n ≤ 4096 := by omega
    by_cases hl : l.length = cnt n
    · exact join_len v l n w hv hn hl
    · have e : joinE l n = 5 := joinE_no (fun h => hl h.1) hn
      have e2 : joinT l n = [] := joinT_no (by rw [e]; omega)
      rw [e, e2]
      clear e e2 h1
      obtain ⟨ad, cap, rfl, hc1, hc2, hcell⟩ := hv.sl
      have HC : Hid (∀ W, Calls Try.prog 16 #[.int .i64 (n : Int)] W fun e w' => e = .returned (.int .i64 (cnt n : Nat)) ∧ w' = W) := fun W => count_nat n W (by omega)
      have a1 : decide ((n : Int) < 0) = false := decide_eq_false (by omega)
      have a2 : decide ((4096 : Int) < (n : Int)) = false := decide_eq_false (by omega)
      have ane : ((l.length : Int) != (cnt n : Int)) = true := by simp; omega
      clear hv hcell hl
      generalize cnt n = c at *
      generalize l.length = len at *
      go_enter Try.func11, Try.ntmps11
      go_wp2_with fail
      refine (HC.out w).mono ?_
      rintro e wS ⟨rfl, hwS⟩
      rw [hwS]
      clear hwS wS HC
      go_wp2
      go_ret2
      exact ⟨rfl, Below.refl _ _⟩
end Go.Proofs.Ytefpaebbendnmaa
