/- Proved: what chunk's Split answers: the chunks, in a list of the call's own. -/
import Derived.Test.YtefpaebbendnmaaDoorWrt
namespace Go.Proofs.YtefpaebbendnmaaDoor
open Go.RowKit
open Ck (T cnt cntZ zs pc chunks)
/- block g is a row of these texts -/
def Trow (w : World) (g : Nat) (l : List T) : Prop := w.heap[g]? = some (.cells (l.map tv).toArray 9 (0, 0))
theorem Trow.lt {w : World} {g : Nat} {l : List T} (h : Trow w g l) : g < w.heap.size := (Array.getElem?_eq_some_iff.1 h).1
theorem Trow.next {w w' : World} {g : Nat} {l : List T} (h : Trow w g l) (hb : Below w.heap.size w w') : Trow w' g l := (hb.block g h.lt).trans h
theorem Trow.set {w : World} {g : Nat} {l : List T} (h : Trow w g l) (i : Nat) (t : T) : Trow (w.setCell ⟨g, i, none⟩ (tv t)) g (l.set i t) := by
  unfold Trow at h ⊢
  rw [heap_setCell_same w g i _ _ _ h, List.setIfInBounds_toArray, List.map_set]
theorem Trow.there {w : World} {g : Nat} {l : List T} (h : Trow w g l) {i : Nat} (hi : i < l.length) : (w.cell? ⟨g, i, none⟩).isSome = true ∧ w.frozen? ⟨g, i, none⟩ = false := by
  refine ⟨?_, frozen_of_row w g _ _ _ h⟩
  rw [cell_of_row w g i _ _ (0, 0) h, List.getElem?_toArray, List.getElem?_map, List.getElem?_eq_getElem hi]
  rfl
theorem Trow.cell {w : World} {g : Nat} {l : List T} (h : Trow w g l) {i : Nat} {t : T} (hi : l[i]? = some t) : w.cell? ⟨g, i, none⟩ = some (tv t) := by
  rw [cell_of_row w g i _ _ (0, 0) h, List.getElem?_toArray, List.getElem?_map, hi]; rfl
theorem Trow.own {w : World} {g N : Nat} {l : List T} (h : Trow w g l) (hN : N ≤ g) (n : Nat) (hn : n = l.length) (hl : l.length ≤ 1000000) : OwnT w N (.slice (some ⟨g, 0, none⟩) n n) l := by
  subst hn
  exact ⟨by simp, .inr ⟨g, l.length, _, rfl, hN, h, Nat.le_refl _, by unfold maxLen; omega, by simp, by simp [List.take_of_length_le]⟩⟩
theorem made_texts (n : Nat) : madeCells #[tv []] n = ((List.replicate n ([] : T)).map tv).toArray := by
  rw [List.map_replicate, ← Array.toList_inj, toList_madeCells_one]
theorem make_texts {ops : Array Oper} {rest : List Oper} {o : Oper} {a : Act} {w : World} {Q : Exit → Act → World → Prop}
    (hg : o.guard = none) (l c : Operand) (hop : o.op = Op.makeSlice 38 l c) (n : Nat) (hl : a.eval l = .int .i64 (n : Int)) (hc : a.eval c = .int .i64 (n : Int)) (hn : n ≤ 1000000)
    (hK : ∀ w', Trow w' w.heap.size (List.replicate n []) → Below w.heap.size w w' → w'.heap.size = w.heap.size + 1 → wpList Tryd.prog ops Q rest (a.put o.dst (.slice (some ⟨w.heap.size, 0, none⟩) n n)) w') :
    wpList Tryd.prog ops Q (o :: rest) a w := by
  refine wpList_make_row w hg l c 38 hop 9 Tryd.t9 (tv []) Tryd.underlying38 info_str rfl rfl rfl .i64 .i64 n hl hc (by show 16 * n ≤ _; omega) (by omega) ?_
  refine hK _ ?_ ((Below.refl _ _).alloc (Nat.le_refl _) _) (by simp)
  show (World.alloc w _).heap[w.heap.size]? = _
  rw [heap_alloc_new, made_texts]
theorem fill_next (L : List T) (k : Nat) (t : T) (h : L[k]? = some t) : (L.take k ++ List.replicate (L.length - k) ([] : T)).set k t = L.take (k + 1) ++ List.replicate (L.length - (k + 1)) [] := by
  obtain ⟨hk, e⟩ := List.getElem?_eq_some_iff.1 h
  rw [List.set_append_right _ _ (by rw [List.length_take]; omega), List.length_take, show k - min k L.length = 0 by omega, show L.length - k = (L.length - (k + 1)) + 1 by omega, List.replicate_succ, List.set_cons_zero, List.take_succ_eq_append_getElem hk, e, List.append_assoc]
  rfl
theorem below_set {N : Nat} {w wr : World} (h : Below N w wr) (g i : Nat) (v : Value) (hg : N ≤ g) : Below N w (wr.setCell ⟨g, i, none⟩ v) := h.setCell (by exact hg) v
theorem Rd.set {w : World} {g : Nat} {l : T} (h : Rd w g l) (g' i : Nat) (v : Value) (hne : g' ≠ g) : Rd (w.setCell ⟨g', i, none⟩ v) g l := fun j u hu => by
  rw [← h j u hu]
  exact World.cell?_of_block (Below.heap_setCell _ _ _ _ (fun e => hne e.symm))
set_option maxHeartbeats 2000000 in
set_option maxRecDepth 20000 in
theorem split_any (s : ByteArray) (w : World) (hs : s.size ≤ 100000) :
    Calls Tryd.prog 15 #[.string s] w fun e w' => ∃ v, e = .returned v ∧ OwnT w' w.heap.size v (chunks (bl s)) ∧ Below w.heap.size w w' := by
  obtain ⟨c, hc⟩ : ∃ c, cnt s.size = c := ⟨_, rfl⟩
  have HC : Hid (∀ W, Calls Tryd.prog 20 #[.int .i64 (s.size : Int)] W fun e w' => e = .returned (.int .i64 (c : Int)) ∧ w' = W) := fun W => by rw [← hc]; exact count_nat s.size W (by omega)
  have HL : Hid ((chunks (bl s)).length = c) := by show (chunks (bl s)).length = c; rw [Ck.chunks_length, bl_length, hc]
  have HG : Hid (∀ k, k < c → (chunks (bl s))[k]? = some (pc (bl s) k)) := fun k hk => Ck.chunks_get _ (by rw [bl_length, hc]; exact hk)
  have HQ : Hid (∀ k, k < c → 64 * k < s.size) := fun k hk => by unfold cnt at hc; omega
  have hc9 : c ≤ 2000 := by unfold cnt at hc; omega
  clear hc
  go_enter Tryd.func15, Tryd.ntmps15
  go_wp2_with fail
  refine (HC.out w).mono ?_
  rintro e wS ⟨rfl, hwS⟩
  rw [hwS]
  clear hwS wS HC
  go_wp2_with (first
    | (refine make_texts rfl _ _ rfl c rfl rfl (by omega) ?_
       intro w1 hR1 hB1 hz1
       generalize hh : w.heap.size = h0 at *
       obtain ⟨cap, w2, hcv, hcap, hR2, hB2, hz2⟩ := bytes_of w1 s
       have HR2 : Hid (Rd w2 (h0 + 1) (bl s)) := by rw [← hz1]; exact hR2
       have HT2 : Hid (Trow w2 h0 (List.replicate c [])) := hR1.next hB2
       have HB2 : Hid (Below h0 w w2) := below_next hB1 hB2 (by omega)
       have HH : Hid (w.heap.size = h0) := hh
       rw [hz1] at hcv
       clear hR1 hB1 hz1 hR2 hB2 hz2 hh))
  go_loopw [5, 6, 7, 16] (fun _ _ _ s16 wr => ∃ k : Nat, k ≤ c ∧ s16 = .int .i64 (k : Int) ∧ Trow wr h0 ((chunks (bl s)).take k ++ List.replicate ((chunks (bl s)).length - k) []) ∧ Rd wr (h0 + 1) (bl s) ∧ Below h0 w wr) (fun _ _ _ s16 _ => c - (intOf s16).toNat)
  case atStart => exact ⟨0, by omega, rfl, by rw [HL.out]; exact HT2.out, HR2.out, HB2.out⟩
  case round =>
    obtain ⟨k, hk, rfl, hT, hR, hB⟩ := hrel
    have HT : Hid (Trow wr h0 ((chunks (bl s)).take k ++ List.replicate ((chunks (bl s)).length - k) [])) := hT
    have HR : Hid (Rd wr (h0 + 1) (bl s)) := hR
    have HB : Hid (Below h0 w wr) := hB
    clear hT hR hB HT2 HR2 HB2
    by_cases hlt : k < c
    · have i0 : (k : Int) < (c : Int) := by omega
      have j0 : (0 : Int) ≤ (k : Int) := Int.natCast_nonneg _
      have q := HQ.out k hlt
      have HE := (show Hid _ from ends_nat s.size k wr (by omega) (by omega))
      have HCU := (show Hid _ from cut_any (h0 + 1) s.size cap (64 * k) (64 * k + min 64 (s.size - 64 * k)) (bl s) wr HR.out (by omega) (by omega) hcap (bl_length s).symm (by omega))
      have HV : Is (List.take (64 * k + min 64 (s.size - 64 * k) - 64 * k) (List.drop (64 * k) (bl s))) (pc (bl s) k) := ⟨by
        unfold pc
        rw [show 64 * k + min 64 (s.size - 64 * k) - 64 * k = min 64 (s.size - 64 * k) by omega]
        by_cases h : 64 ≤ s.size - 64 * k
        · rw [Nat.min_eq_left h]
        · rw [List.take_of_length_le (by rw [List.length_drop, bl_length]; omega), List.take_of_length_le (by rw [List.length_drop, bl_length]; omega)]⟩
      rw [HV.eq] at HCU
      have HN : Hid (Trow (wr.setCell ⟨h0, k, none⟩ (tv (pc (bl s) k))) h0 ((chunks (bl s)).take (k + 1) ++ List.replicate ((chunks (bl s)).length - (k + 1)) [])) := by
        rw [← fill_next (chunks (bl s)) k _ (HG.out k hlt)]
        exact HT.out.set k _
      have hth1 := HT.out.cell (i := k) (t := []) (by rw [List.getElem?_append_right (by rw [List.length_take]; omega), List.getElem?_replicate, if_pos (by rw [List.length_take, HL.out]; omega)])
      have hth2 := (HT.out.there (i := k) (by rw [List.length_append, List.length_take, List.length_replicate, HL.out]; omega)).2
      clear HV q
      generalize 64 * k + min 64 (s.size - 64 * k) = hi at *
      generalize 64 * k = lo at *
      go_wp2_with fail
      refine (show Calls _ _ _ _ _ from HE.out).mono ?_
      rintro e wS ⟨rfl, hwS⟩
      rw [hwS]
      clear hwS wS HE
      go_wp2_with fail
      refine (show Calls _ _ _ _ _ from HCU.out).mono ?_
      rintro e wS ⟨rfl, hwS⟩
      rw [hwS]
      clear hwS wS HCU
      go_wp2
      go_roundw
      case rel => exact ⟨k + 1, by omega, by go_num, HN.out, HR.out.set _ _ _ (by omega), below_set HB.out _ _ _ (by omega)⟩
      case measure => (simp [intOf]) <;> omega
    · obtain rfl : k = c := by omega
      have i0 : ¬ (k : Int) < (k : Int) := by omega
      have HF : Hid (OwnT wr h0 (.slice (some ⟨h0, 0, none⟩) k k) (chunks (bl s))) := by
        have h := HT.out
        rw [HL.out, show k - k = 0 by omega, List.replicate_zero, List.append_nil, List.take_of_length_le (by rw [HL.out]; omega)] at h
        exact h.own (Nat.le_refl _) k HL.out.symm (by rw [HL.out]; omega)
      go_wp2
      go_ret
      rw [HH.out]
      exact ⟨_, rfl, HF.out, HB.out⟩
end Go.Proofs.YtefpaebbendnmaaDoor
