/- Proved: what slot's appended and spliced answer, for cells, keys and kids (stage 11). -/
import Derived.Test.YtoinaplmgffkpaaOwn
namespace Go.Proofs.Ytoinaplmgffkpaa
open Go.RowKit
open Sl (Cel Nod)
def subA (ad : Option Addr) (l m s : Nat) : Option Addr := if m = l then ad else ad.map (·.add (l * s))
theorem RowAt.sub {w : World} {ad : Option Addr} {vs : List Value} {n to cap s : Nat} (h : RowAt w ad vs) (hl : vs.length = n * s) (hc : n ≤ cap) : RowAt w (subA ad to cap s) (vs.drop (to * s)) := by
  unfold subA
  by_cases e : cap = to
  · rw [if_pos e, List.drop_of_length_le (by rw [hl]; exact Nat.mul_le_mul_right _ (by omega))]
    exact .inl rfl
  · rw [if_neg e]
    rcases h with h | ⟨b, off, rfl, h1, h2⟩
    · rw [h, List.drop_nil]; exact .inl rfl
    · have := RowAt.drop (w := w) (b := b) (off := off) (vs := vs) (.inr ⟨b, off, rfl, h1, h2⟩) (to * s)
      rw [Option.map_some, Addr.add_lit]
      exact this
theorem subA_zero (ad : Option Addr) (m s : Nat) : subA ad 0 m s = ad := by
  unfold subA
  split
  · rfl
  · cases ad with
    | none => rfl
    | some a => obtain ⟨b, o, sp⟩ := a; simp [Addr.add]
theorem sliced_sub (ad : Option Addr) (l h m s : Nat) : sliced ad l h m s = .slice (subA ad l m s) (h - l) (m - l) := rfl
set_option maxRecDepth 20000 in
theorem appC_any (ad : Option Addr) (n c : Nat) (l : List Cel) (ad2 : Option Addr) (m c2 : Nat) (r : List Cel) (w : World) (hA : RowAt w ad (cvals l)) (hA2 : RowAt w ad2 (cvals r)) (hn : l.length = n) (hm : r.length = m) (hlc : n ≤ c) (hl : n + m ≤ 5000) :
    Calls Try.prog 39 #[.slice ad n c, .slice ad2 m c2] w fun e w' => ∃ ad' cap', e = .returned (.slice ad' (n + m) cap') ∧ n + m ≤ cap' ∧ cap' ≤ 9223372036854775807 ∧ RowAt w' ad' (cvals (l ++ r)) ∧ Below w.heap.size w w' ∧ ∀ B, B < w.heap.size → RowBut w B ad (cvals l) → RowBut w' B ad' (cvals (l ++ r)) := by
  obtain ⟨ad', cap', w', hr, h1, h2, h3, h4, h5, _⟩ := app_fullF (P := Try.prog) (w := w) (t := 22) Try.underlying22 infoC (ad := ad) (n := n) (xs := cvals l) hA (by rw [cvals_length, hn]) (ad2 := ad2) (m := m) (c2 := c2) (ys := cvals r) hA2 (by rw [cvals_length, hm]) (cvals_one r) (by omega) (by omega)
  rw [← cvals_append] at h3
  have HFN := (show Hid (RowAt w' ad' (cvals (l ++ r)) ∧ Below w.heap.size w w' ∧ ∀ B, B < w.heap.size → RowBut w B ad (cvals l) → RowBut w' B ad' (cvals (l ++ r))) from ⟨h3, h4, fun B h h' => by rw [cvals_append]; exact h5 B h h'⟩)
  clear hA hA2 h3 h4 h5
  have e0 : (0 : Int) ≤ (n : Int) := by omega
  have e1 : (n : Int) ≤ (c : Int) := by omega
  have e2 : sliced ad 0 n n 4 = .slice ad n n := by rw [sliced_sub, subA_zero]; rfl
  go_enter Try.func39, Try.ntmps39
  go_wp2_with (refine wpList_run_append rfl _ _ 22 rfl _ _ _ _ (by first | exact e2 | rfl) rfl hr ?_)
  go_ret
  exact ⟨ad', cap', rfl, h1, h2, HFN.out⟩
set_option maxHeartbeats 1000000 in
theorem splC_any (ad : Option Addr) (n c : Nat) (l : List Cel) (i j : Nat) (ad2 : Option Addr) (m c2 : Nat) (r : List Cel) (w : World) (hA : RowAt w ad (cvals l)) (hA2 : RowAt w ad2 (cvals r)) (hn : l.length = n) (hm : r.length = m) (hij : i ≤ j) (hjn : j ≤ n) (hlc : n ≤ c) (_hcm : c ≤ 9223372036854775807) (hl : n + m ≤ 4000) :
    Calls Try.prog 29 #[.slice ad n c, .int .i64 (i : Int), .int .i64 (j : Int), .slice ad2 m c2] w fun e w' => ∃ ad' cap', e = .returned (.slice ad' (i + m + (n - j)) cap') ∧ i + m + (n - j) ≤ cap' ∧ cap' ≤ 9223372036854775807 ∧ RowAt w' ad' (cvals (l.take i ++ r ++ l.drop j)) ∧ Below w.heap.size w w' ∧ ∀ B, B < w.heap.size → RowBut w B ad (cvals l) → RowBut w' B ad' (cvals (l.take i ++ r ++ l.drop j)) := by
  have hT : RowAt w ad (cvals (l.take i)) := by rw [cvals_take]; exact hA.take _
  have hD : RowAt w (subA ad j c 4) (cvals (l.drop j)) := by
    have := hA.sub (to := j) (cap := c) (n := n) (s := 4) (by rw [cvals_length, hn]) hlc
    rw [cvals_drop]
    exact this
  have HTB := (show Hid (∀ B, RowBut w B ad (cvals l) → RowBut w B ad (cvals (l.take i))) from fun B h => by rw [cvals_take]; exact h.take _)
  have HC1 := fun (W : World) (h : Below w.heap.size w W) => appC_any ad i c (l.take i) ad2 m c2 r W (hT.below h) (hA2.below h) (by rw [List.length_take]; omega) hm (by omega) (by omega)
  have HC2 := fun (W V : World) (h : Below w.heap.size w W) (ad' : Option Addr) (cap' : Nat) (h' : RowAt W ad' (cvals (l.take i ++ r))) (hc : i + m ≤ cap') => appC_any ad' (i + m) cap' (l.take i ++ r) (subA ad j c 4) (n - j) (c - j) (l.drop j) W h' (hD.below h) (by rw [List.length_append, List.length_take]; omega) (by rw [List.length_drop]; omega) hc (by omega)
  clear hT hD hA hA2
  have e0 : (0 : Int) ≤ (i : Int) := by omega
  have e1 : (i : Int) ≤ (c : Int) := by omega
  have e2 : (0 : Int) ≤ (j : Int) := by omega
  have e3 : (j : Int) ≤ (n : Int) := by omega
  have f1 : sliced ad 0 i c 4 = .slice ad i c := by rw [sliced_sub, subA_zero]; rfl
  have f2 : sliced ad j n c 4 = .slice (subA ad j c 4) (n - j) (c - j) := sliced_sub _ _ _ _ _
  have HS : Hid ((fun _ : World => True) w.drew) := trivial
  have HB0 : Hid (Below w.heap.size w w.drew) := (Below.refl _ _).drew
  go_enter Try.func29, Try.ntmps29
  go_upto_region 1 with fail
  refine wp_region_held_drew (S := fun _ : World => True) (by kernel_rfl) HS.out (fun _ => ?_)
  refine heldTake 0 (some 9) (.slice ad n c) rfl rfl (by kernel_rfl) (by kernel_rfl) (by kernel_rfl) (fun _ _ _ h => h) (Or.inl ⟨by rfl, fun w hS => ?_⟩) HS.out ?_
  · (go_simp)
  simp only [Act.put, List.setIfInBounds_toArray, List.set_cons_zero, List.set_cons_succ]
  refine heldTake 1 (some 10) (.int .i64 (i : Int)) rfl rfl (by kernel_rfl) (by kernel_rfl) (by kernel_rfl) (fun _ _ _ h => h) (Or.inl ⟨by rfl, fun w hS => ?_⟩) HS.out ?_
  · (go_simp)
  simp only [Act.put, List.setIfInBounds_toArray, List.set_cons_zero, List.set_cons_succ]
  refine heldTake 2 (some 11) (.slice ad i c) rfl rfl (by kernel_rfl) (by kernel_rfl) (by kernel_rfl) (fun _ _ _ h => h) (Or.inl ⟨by rfl, fun w hS => ?_⟩) HS.out ?_
  · (go_simp; try (unfold subA at f1); try exact f1)
  simp only [Act.put, List.setIfInBounds_toArray, List.set_cons_zero, List.set_cons_succ]
  refine heldTake 3 (some 12) (.slice ad2 m c2) rfl rfl (by kernel_rfl) (by kernel_rfl) (by kernel_rfl) (fun _ _ _ h => h) (Or.inl ⟨by rfl, fun w hS => ?_⟩) HS.out ?_
  · (go_simp)
  simp only [Act.put, List.setIfInBounds_toArray, List.set_cons_zero, List.set_cons_succ]
  refine heldTake 5 (some 14) (.slice ad n c) rfl rfl (by kernel_rfl) (by kernel_rfl) (by kernel_rfl) (fun _ _ _ h => h) (Or.inl ⟨by rfl, fun w hS => ?_⟩) HS.out ?_
  · (go_simp)
  simp only [Act.put, List.setIfInBounds_toArray, List.set_cons_zero, List.set_cons_succ]
  refine heldTake 6 (some 15) (.int .i64 (j : Int)) rfl rfl (by kernel_rfl) (by kernel_rfl) (by kernel_rfl) (fun _ _ _ h => h) (Or.inl ⟨by rfl, fun w hS => ?_⟩) HS.out ?_
  · (go_simp)
  simp only [Act.put, List.setIfInBounds_toArray, List.set_cons_zero, List.set_cons_succ]
  refine heldTake 7 (some 16) (.slice (subA ad j c 4) (n - j) (c - j)) rfl rfl (by kernel_rfl) (by kernel_rfl) (by kernel_rfl) (fun _ _ _ h => h) (Or.inl ⟨by rfl, fun w hS => ?_⟩) HS.out ?_
  · (go_simp; first | rfl | (simp only [subA, Nat.mul_one]))
  simp only [Act.put, List.setIfInBounds_toArray, List.set_cons_zero, List.set_cons_succ]
  refine heldOne 4 (by kernel_rfl) rfl (by rfl) (fun KK hK => ?_)
  go_simp
  go_at_call 39
  refine (HC1 _ HB0.out).mono ?_
  rintro e w1 ⟨ad', cap', rfl, h1, h2, h3, hB1, hX⟩
  have HB1 : Hid (Below w.heap.size w w1) := HB0.out.trans hB1
  have HX1 := (show Hid (∀ B, B < w.heap.size → RowBut w B ad (cvals l) → RowBut w1 B ad' (cvals (l.take i ++ r))) from fun B hB h => hX B hB ((HTB.out B h).below HB0.out))
  have HC2' := HC2 w1 w1 HB1.out ad' cap' h3 h1
  clear hB1 hX HC1 HC2 h3
  refine hK.out _ _ trivial ?_
  clear hK KK
  try simp only [Act.put, List.setIfInBounds_toArray, List.set_cons_zero, List.set_cons_succ]
  refine heldOne 8 (by kernel_rfl) rfl (by rfl) (fun KK hK => ?_)
  go_simp
  go_at_call 39
  refine HC2'.mono ?_
  rintro e w2 ⟨ad2', cap2', rfl, g1, g2, g3, hB2, hX⟩
  have HFN := (show Hid (RowAt w2 ad2' (cvals (l.take i ++ r ++ l.drop j)) ∧ Below w.heap.size w w2 ∧ ∀ B, B < w.heap.size → RowBut w B ad (cvals l) → RowBut w2 B ad2' (cvals (l.take i ++ r ++ l.drop j))) from ⟨g3, HB1.out.trans (hB2.mono HB1.out.size), fun B hB h => hX B (Nat.lt_of_lt_of_le hB HB1.out.size) (HX1.out B hB h)⟩)
  clear hB2 hX HC2' g3 HB1 HX1
  refine hK.out _ _ trivial ?_
  clear hK KK
  try simp only [Act.put, List.setIfInBounds_toArray, List.set_cons_zero, List.set_cons_succ]
  refine heldTake 9 (some 8) (.slice ad2' (i + m + (n - j)) cap2') rfl rfl (by kernel_rfl) (by kernel_rfl) (by kernel_rfl) (fun _ _ _ h => h) (Or.inl ⟨by rfl, fun w hS => ?_⟩) HS.out ?_
  · (go_simp)
  simp only [Act.put, List.setIfInBounds_toArray, List.set_cons_zero, List.set_cons_succ]
  refine wpAnyH_done (by kernel_rfl) ?_ _
  go_wp2
  go_ret
  refine ⟨ad2', cap2', rfl, g1, g2, ?_⟩
  have h9 := HFN.out
  simp only [List.append_assoc] at h9 ⊢
  exact h9
set_option maxRecDepth 20000 in
theorem appS_any (ad : Option Addr) (n c : Nat) (l : List ByteArray) (ad2 : Option Addr) (m c2 : Nat) (r : List ByteArray) (w : World) (hA : RowAt w ad (kcells l)) (hA2 : RowAt w ad2 (kcells r)) (hn : l.length = n) (hm : r.length = m) (hlc : n ≤ c) (hl : n + m ≤ 5000) :
    Calls Try.prog 42 #[.slice ad n c, .slice ad2 m c2] w fun e w' => ∃ ad' cap', e = .returned (.slice ad' (n + m) cap') ∧ n + m ≤ cap' ∧ cap' ≤ 9223372036854775807 ∧ RowAt w' ad' (kcells (l ++ r)) ∧ Below w.heap.size w w' ∧ ∀ B, B < w.heap.size → RowBut w B ad (kcells l) → RowBut w' B ad' (kcells (l ++ r)) := by
  obtain ⟨ad', cap', w', hr, h1, h2, h3, h4, h5, _⟩ := app_fullF (P := Try.prog) (w := w) (t := 23) Try.underlying23 infoS (ad := ad) (n := n) (xs := kcells l) hA (by rw [kcells_length, hn]) (ad2 := ad2) (m := m) (c2 := c2) (ys := kcells r) hA2 (by rw [kcells_length, hm]) (kcells_one r) (by omega) (by omega)
  rw [← kcells_append] at h3
  have HFN := (show Hid (RowAt w' ad' (kcells (l ++ r)) ∧ Below w.heap.size w w' ∧ ∀ B, B < w.heap.size → RowBut w B ad (kcells l) → RowBut w' B ad' (kcells (l ++ r))) from ⟨h3, h4, fun B h h' => by rw [kcells_append]; exact h5 B h h'⟩)
  clear hA hA2 h3 h4 h5
  have e0 : (0 : Int) ≤ (n : Int) := by omega
  have e1 : (n : Int) ≤ (c : Int) := by omega
  have e2 : sliced ad 0 n n 1 = .slice ad n n := by rw [sliced_sub, subA_zero]; rfl
  go_enter Try.func42, Try.ntmps42
  go_wp2_with (refine wpList_run_append rfl _ _ 23 rfl _ _ _ _ (by first | exact e2 | rfl) rfl hr ?_)
  go_ret
  exact ⟨ad', cap', rfl, h1, h2, HFN.out⟩
set_option maxHeartbeats 1000000 in
theorem splS_any (ad : Option Addr) (n c : Nat) (l : List ByteArray) (i j : Nat) (ad2 : Option Addr) (m c2 : Nat) (r : List ByteArray) (w : World) (hA : RowAt w ad (kcells l)) (hA2 : RowAt w ad2 (kcells r)) (hn : l.length = n) (hm : r.length = m) (hij : i ≤ j) (hjn : j ≤ n) (hlc : n ≤ c) (_hcm : c ≤ 9223372036854775807) (hl : n + m ≤ 4000) :
    Calls Try.prog 41 #[.slice ad n c, .int .i64 (i : Int), .int .i64 (j : Int), .slice ad2 m c2] w fun e w' => ∃ ad' cap', e = .returned (.slice ad' (i + m + (n - j)) cap') ∧ i + m + (n - j) ≤ cap' ∧ cap' ≤ 9223372036854775807 ∧ RowAt w' ad' (kcells (l.take i ++ r ++ l.drop j)) ∧ Below w.heap.size w w' ∧ ∀ B, B < w.heap.size → RowBut w B ad (kcells l) → RowBut w' B ad' (kcells (l.take i ++ r ++ l.drop j)) := by
  have hT : RowAt w ad (kcells (l.take i)) := by rw [kcells_take]; exact hA.take _
  have hD : RowAt w (subA ad j c 1) (kcells (l.drop j)) := by
    have := hA.sub (to := j) (cap := c) (n := n) (s := 1) (by rw [kcells_length, hn]) hlc
    rw [kcells_drop]
    rw [Nat.mul_one] at this; exact this
  have HTB := (show Hid (∀ B, RowBut w B ad (kcells l) → RowBut w B ad (kcells (l.take i))) from fun B h => by rw [kcells_take]; exact h.take _)
  have HC1 := fun (W : World) (h : Below w.heap.size w W) => appS_any ad i c (l.take i) ad2 m c2 r W (hT.below h) (hA2.below h) (by rw [List.length_take]; omega) hm (by omega) (by omega)
  have HC2 := fun (W V : World) (h : Below w.heap.size w W) (ad' : Option Addr) (cap' : Nat) (h' : RowAt W ad' (kcells (l.take i ++ r))) (hc : i + m ≤ cap') => appS_any ad' (i + m) cap' (l.take i ++ r) (subA ad j c 1) (n - j) (c - j) (l.drop j) W h' (hD.below h) (by rw [List.length_append, List.length_take]; omega) (by rw [List.length_drop]; omega) hc (by omega)
  clear hT hD hA hA2
  have e0 : (0 : Int) ≤ (i : Int) := by omega
  have e1 : (i : Int) ≤ (c : Int) := by omega
  have e2 : (0 : Int) ≤ (j : Int) := by omega
  have e3 : (j : Int) ≤ (n : Int) := by omega
  have f1 : sliced ad 0 i c 1 = .slice ad i c := by rw [sliced_sub, subA_zero]; rfl
  have f2 : sliced ad j n c 1 = .slice (subA ad j c 1) (n - j) (c - j) := sliced_sub _ _ _ _ _
  have HS : Hid ((fun _ : World => True) w.drew) := trivial
  have HB0 : Hid (Below w.heap.size w w.drew) := (Below.refl _ _).drew
  go_enter Try.func41, Try.ntmps41
  go_upto_region 1 with fail
  refine wp_region_held_drew (S := fun _ : World => True) (by kernel_rfl) HS.out (fun _ => ?_)
  refine heldTake 0 (some 9) (.slice ad n c) rfl rfl (by kernel_rfl) (by kernel_rfl) (by kernel_rfl) (fun _ _ _ h => h) (Or.inl ⟨by rfl, fun w hS => ?_⟩) HS.out ?_
  · (go_simp)
  simp only [Act.put, List.setIfInBounds_toArray, List.set_cons_zero, List.set_cons_succ]
  refine heldTake 1 (some 10) (.int .i64 (i : Int)) rfl rfl (by kernel_rfl) (by kernel_rfl) (by kernel_rfl) (fun _ _ _ h => h) (Or.inl ⟨by rfl, fun w hS => ?_⟩) HS.out ?_
  · (go_simp)
  simp only [Act.put, List.setIfInBounds_toArray, List.set_cons_zero, List.set_cons_succ]
  refine heldTake 2 (some 11) (.slice ad i c) rfl rfl (by kernel_rfl) (by kernel_rfl) (by kernel_rfl) (fun _ _ _ h => h) (Or.inl ⟨by rfl, fun w hS => ?_⟩) HS.out ?_
  · (go_simp; try (unfold subA at f1); try exact f1)
  simp only [Act.put, List.setIfInBounds_toArray, List.set_cons_zero, List.set_cons_succ]
  refine heldTake 3 (some 12) (.slice ad2 m c2) rfl rfl (by kernel_rfl) (by kernel_rfl) (by kernel_rfl) (fun _ _ _ h => h) (Or.inl ⟨by rfl, fun w hS => ?_⟩) HS.out ?_
  · (go_simp)
  simp only [Act.put, List.setIfInBounds_toArray, List.set_cons_zero, List.set_cons_succ]
  refine heldTake 5 (some 14) (.slice ad n c) rfl rfl (by kernel_rfl) (by kernel_rfl) (by kernel_rfl) (fun _ _ _ h => h) (Or.inl ⟨by rfl, fun w hS => ?_⟩) HS.out ?_
  · (go_simp)
  simp only [Act.put, List.setIfInBounds_toArray, List.set_cons_zero, List.set_cons_succ]
  refine heldTake 6 (some 15) (.int .i64 (j : Int)) rfl rfl (by kernel_rfl) (by kernel_rfl) (by kernel_rfl) (fun _ _ _ h => h) (Or.inl ⟨by rfl, fun w hS => ?_⟩) HS.out ?_
  · (go_simp)
  simp only [Act.put, List.setIfInBounds_toArray, List.set_cons_zero, List.set_cons_succ]
  refine heldTake 7 (some 16) (.slice (subA ad j c 1) (n - j) (c - j)) rfl rfl (by kernel_rfl) (by kernel_rfl) (by kernel_rfl) (fun _ _ _ h => h) (Or.inl ⟨by rfl, fun w hS => ?_⟩) HS.out ?_
  · (go_simp; first | rfl | (simp only [subA, Nat.mul_one]))
  simp only [Act.put, List.setIfInBounds_toArray, List.set_cons_zero, List.set_cons_succ]
  refine heldOne 4 (by kernel_rfl) rfl (by rfl) (fun KK hK => ?_)
  go_simp
  go_at_call 42
  refine (HC1 _ HB0.out).mono ?_
  rintro e w1 ⟨ad', cap', rfl, h1, h2, h3, hB1, hX⟩
  have HB1 : Hid (Below w.heap.size w w1) := HB0.out.trans hB1
  have HX1 := (show Hid (∀ B, B < w.heap.size → RowBut w B ad (kcells l) → RowBut w1 B ad' (kcells (l.take i ++ r))) from fun B hB h => hX B hB ((HTB.out B h).below HB0.out))
  have HC2' := HC2 w1 w1 HB1.out ad' cap' h3 h1
  clear hB1 hX HC1 HC2 h3
  refine hK.out _ _ trivial ?_
  clear hK KK
  try simp only [Act.put, List.setIfInBounds_toArray, List.set_cons_zero, List.set_cons_succ]
  refine heldOne 8 (by kernel_rfl) rfl (by rfl) (fun KK hK => ?_)
  go_simp
  go_at_call 42
  refine HC2'.mono ?_
  rintro e w2 ⟨ad2', cap2', rfl, g1, g2, g3, hB2, hX⟩
  have HFN := (show Hid (RowAt w2 ad2' (kcells (l.take i ++ r ++ l.drop j)) ∧ Below w.heap.size w w2 ∧ ∀ B, B < w.heap.size → RowBut w B ad (kcells l) → RowBut w2 B ad2' (kcells (l.take i ++ r ++ l.drop j))) from ⟨g3, HB1.out.trans (hB2.mono HB1.out.size), fun B hB h => hX B (Nat.lt_of_lt_of_le hB HB1.out.size) (HX1.out B hB h)⟩)
  clear hB2 hX HC2' g3 HB1 HX1
  refine hK.out _ _ trivial ?_
  clear hK KK
  try simp only [Act.put, List.setIfInBounds_toArray, List.set_cons_zero, List.set_cons_succ]
  refine heldTake 9 (some 8) (.slice ad2' (i + m + (n - j)) cap2') rfl rfl (by kernel_rfl) (by kernel_rfl) (by kernel_rfl) (fun _ _ _ h => h) (Or.inl ⟨by rfl, fun w hS => ?_⟩) HS.out ?_
  · (go_simp)
  simp only [Act.put, List.setIfInBounds_toArray, List.set_cons_zero, List.set_cons_succ]
  refine wpAnyH_done (by kernel_rfl) ?_ _
  go_wp2
  go_ret
  refine ⟨ad2', cap2', rfl, g1, g2, ?_⟩
  have h9 := HFN.out
  simp only [List.append_assoc] at h9 ⊢
  exact h9
set_option maxRecDepth 20000 in
theorem appI_any (ad : Option Addr) (n c : Nat) (l : List Int) (ad2 : Option Addr) (m c2 : Nat) (r : List Int) (w : World) (hA : RowAt w ad (icells l)) (hA2 : RowAt w ad2 (icells r)) (hn : l.length = n) (hm : r.length = m) (hlc : n ≤ c) (hl : n + m ≤ 5000) :
    Calls Try.prog 40 #[.slice ad n c, .slice ad2 m c2] w fun e w' => ∃ ad' cap', e = .returned (.slice ad' (n + m) cap') ∧ n + m ≤ cap' ∧ cap' ≤ 9223372036854775807 ∧ RowAt w' ad' (icells (l ++ r)) ∧ Below w.heap.size w w' ∧ ∀ B, B < w.heap.size → RowBut w B ad (icells l) → RowBut w' B ad' (icells (l ++ r)) := by
  obtain ⟨ad', cap', w', hr, h1, h2, h3, h4, h5, _⟩ := app_fullF (P := Try.prog) (w := w) (t := 24) Try.underlying24 infoI (ad := ad) (n := n) (xs := icells l) hA (by rw [icells_length, hn]) (ad2 := ad2) (m := m) (c2 := c2) (ys := icells r) hA2 (by rw [icells_length, hm]) (icells_one r) (by omega) (by omega)
  rw [← icells_append] at h3
  have HFN := (show Hid (RowAt w' ad' (icells (l ++ r)) ∧ Below w.heap.size w w' ∧ ∀ B, B < w.heap.size → RowBut w B ad (icells l) → RowBut w' B ad' (icells (l ++ r))) from ⟨h3, h4, fun B h h' => by rw [icells_append]; exact h5 B h h'⟩)
  clear hA hA2 h3 h4 h5
  have e0 : (0 : Int) ≤ (n : Int) := by omega
  have e1 : (n : Int) ≤ (c : Int) := by omega
  have e2 : sliced ad 0 n n 1 = .slice ad n n := by rw [sliced_sub, subA_zero]; rfl
  go_enter Try.func40, Try.ntmps40
  go_wp2_with (refine wpList_run_append rfl _ _ 24 rfl _ _ _ _ (by first | exact e2 | rfl) rfl hr ?_)
  go_ret
  exact ⟨ad', cap', rfl, h1, h2, HFN.out⟩
end Go.Proofs.Ytoinaplmgffkpaa
