/- Proved: slices.Clone of numbers; slot's own: the same node in memory of its own (stage 11). -/
import Derived.Test.YtoinaplmgffkpaaFar
import Derived.Lib.LazyBuf
namespace Go.Proofs.Ytoinaplmgffkpaa
open Go.RowKit
open Sl (Cel Nod)
set_option maxRecDepth 20000 in
theorem cloneI_any (ad : Option Addr) (c : Nat) (l : List Int) (w : World) (hA : RowAt w ad (icells l)) (hl : l.length ≤ 1000) :
    Calls Try.prog 56 #[.slice ad l.length c] w fun e w' => ∃ ad' cap', e = .returned (.slice ad' l.length cap') ∧ RowFrom w' w.heap.size ad' (icells l) ∧ l.length ≤ cap' ∧ cap' ≤ 9223372036854775807 ∧ Below w.heap.size w w' := by
  cases ad with
  | none =>
    have h0 : l = [] := by
      have := hA.none_nil
      unfold icells at this
      exact List.map_eq_nil_iff.1 this
    subst h0
    have hE : ∀ W : World, (binOp .eql 24 (.slice none 0 c) (.slice none 0 0)).run Try.prog W = .ok (.bool true) W := fun W => run_eql_slice_nil W 24 3 none 0 c Try.underlying24
    go_enter Try.func56, Try.ntmps56
    go_wp2
    go_ret
    exact ⟨none, 0, rfl, .inl rfl, Nat.le_refl _, by omega, Below.refl _ _⟩
  | some a =>
    have HB0 : Hid (Below w.heap.size w (w.alloc (.cells #[] 3))) := below_alloc _ _
    obtain ⟨ad', cap', w', hr, h1, h2, _, h4, _, h3⟩ := app_fullF (P := Try.prog) (w := w.alloc (.cells #[] 3)) (t := 24) Try.underlying24 infoI (ad := some ⟨w.heap.size, 0, none⟩) (n := 0) (xs := []) (.inl rfl) (by simp) (ad2 := some a) (m := l.length) (c2 := c) (ys := icells l) (hA.below HB0.out) (icells_length l) (icells_one l) (by omega) (by omega)
    rw [Nat.zero_add] at hr h1
    replace h3 := (h3 rfl).mono (M := w.heap.size) (by rw [size_alloc1]; omega)
    rw [List.nil_append] at h3
    have HFN : Hid (RowFrom w' w.heap.size ad' (icells l) ∧ Below w.heap.size w w') := ⟨h3, HB0.out.trans (h4.mono (by rw [size_alloc1]; omega))⟩
    clear hA h3 h4
    have hE : ∀ W : World, (binOp .eql 24 (.slice (some a) l.length c) (.slice none 0 0)).run Try.prog W = .ok (.bool false) W := fun W => run_eql_slice_nil W 24 3 (some a) l.length c Try.underlying24
    go_enter Try.func56, Try.ntmps56
    go_wp2_with (refine wpList_run_append rfl _ _ 24 rfl _ _ _ _ rfl rfl hr ?_)
    go_ret
    exact ⟨ad', cap', rfl, HFN.out.1, h1, h2, HFN.out.2⟩
set_option maxHeartbeats 2000000 in
theorem own_any (n : Nod) (p : Pt) (w : World) (hN : Lies w n p) (hF : Fit n) :
    Calls Try.prog 30 #[nv n p] w fun e w' => ∃ p', e = .returned (nv n p') ∧ LiesF w' w.heap.size n p' ∧ Below w.heap.size w w' := by
  have HC1 := fun (W : World) (h : Below w.heap.size w W) => eachCC_any p.a1 p.c1 n.cells W (hN.r1.below h) hF.l1 hF.cells
  have HC2 := fun (W : World) (h : Below w.heap.size w W) => eachSS_any p.a2 p.c2 n.keys W (hN.r2.below h) hF.l2 hF.keys
  have HC3 := fun (W : World) (h : Below w.heap.size w W) => cloneI_any p.a3 p.c3 n.kids W (hN.r3.below h) hF.l3
  clear hN hF
  obtain ⟨lf, cs, ks, ds⟩ := n
  obtain ⟨a1, c1, a2, c2, a3, c3⟩ := p
  unfold nv at *
  simp only at HC1 HC2 HC3 ⊢
  have HB0 : Hid (Below w.heap.size w ((w.alloc (.cells #[.bool lf, .slice a1 cs.length c1, .slice a2 ks.length c2, .slice a3 ds.length c3] 26)).alloc (.cells #[.bool false, .slice none 0 0, .slice none 0 0, .slice none 0 0] 26))) := (below_alloc _ _).alloc (by rw [size_alloc1]; omega) _
  have HS0 : Hid ((fun W : World => Brow W w.heap.size [.bool lf, .slice a1 cs.length c1, .slice a2 ks.length c2, .slice a3 ds.length c3] 26) ((w.alloc (.cells #[.bool lf, .slice a1 cs.length c1, .slice a2 ks.length c2, .slice a3 ds.length c3] 26)).alloc (.cells #[.bool false, .slice none 0 0, .slice none 0 0, .slice none 0 0] 26))) := (Brow.new w [.bool lf, .slice a1 cs.length c1, .slice a2 ks.length c2, .slice a3 ds.length c3] 26).alloc _
  have HZ0 : Hid (Brow ((w.alloc (.cells #[.bool lf, .slice a1 cs.length c1, .slice a2 ks.length c2, .slice a3 ds.length c3] 26)).alloc (.cells #[.bool false, .slice none 0 0, .slice none 0 0, .slice none 0 0] 26)) (w.heap.size + 1) [.bool false, .slice none 0 0, .slice none 0 0, .slice none 0 0] 26) := by
    have := Brow.new (w.alloc (.cells #[.bool lf, .slice a1 cs.length c1, .slice a2 ks.length c2, .slice a3 ds.length c3] 26)) [.bool false, .slice none 0 0, .slice none 0 0, .slice none 0 0] 26
    rwa [size_alloc1] at this
  go_enter Try.func30, Try.ntmps30
  go_upto_region 1 with fail
  refine wp_region_held_drew (S := (fun W : World => Brow W w.heap.size [.bool lf, .slice a1 cs.length c1, .slice a2 ks.length c2, .slice a3 ds.length c3] 26)) (by kernel_rfl) HS0.out.drew (fun _ => ?_)
  have HS : Hid ((fun W : World => Brow W w.heap.size [.bool lf, .slice a1 cs.length c1, .slice a2 ks.length c2, .slice a3 ds.length c3] 26) ((w.alloc (.cells #[.bool lf, .slice a1 cs.length c1, .slice a2 ks.length c2, .slice a3 ds.length c3] 26)).alloc (.cells #[.bool false, .slice none 0 0, .slice none 0 0, .slice none 0 0] 26)).drew) := HS0.out.drew
  have HZ : Hid (Brow ((w.alloc (.cells #[.bool lf, .slice a1 cs.length c1, .slice a2 ks.length c2, .slice a3 ds.length c3] 26)).alloc (.cells #[.bool false, .slice none 0 0, .slice none 0 0, .slice none 0 0] 26)).drew (w.heap.size + 1) [.bool false, .slice none 0 0, .slice none 0 0, .slice none 0 0] 26) := HZ0.out.drew
  have HBD : Hid (Below w.heap.size w ((w.alloc (.cells #[.bool lf, .slice a1 cs.length c1, .slice a2 ks.length c2, .slice a3 ds.length c3] 26)).alloc (.cells #[.bool false, .slice none 0 0, .slice none 0 0, .slice none 0 0] 26)).drew) := HB0.out.drew
  have hsz : w.heap.size + 2 ≤ ((w.alloc (.cells #[.bool lf, .slice a1 cs.length c1, .slice a2 ks.length c2, .slice a3 ds.length c3] 26)).alloc (.cells #[.bool false, .slice none 0 0, .slice none 0 0, .slice none 0 0] 26)).drew.heap.size := by show w.heap.size + 2 ≤ ((w.alloc (.cells #[.bool lf, .slice a1 cs.length c1, .slice a2 ks.length c2, .slice a3 ds.length c3] 26)).alloc (.cells #[.bool false, .slice none 0 0, .slice none 0 0, .slice none 0 0] 26)).heap.size; rw [size_alloc1, size_alloc1]; omega
  generalize ((w.alloc (.cells #[.bool lf, .slice a1 cs.length c1, .slice a2 ks.length c2, .slice a3 ds.length c3] 26)).alloc (.cells #[.bool false, .slice none 0 0, .slice none 0 0, .slice none 0 0] 26)).drew = w0 at *
  clear HS0 HB0 HZ0
  refine heldTake 0 (some 3) (.pointer (some ⟨w.heap.size, 0, none⟩)) rfl rfl (by kernel_rfl) (by kernel_rfl) (by kernel_rfl) (fun _ _ _ h => h) (Or.inl ⟨by rfl, fun w hS => ?_⟩) HS.out ?_
  · (go_simp)
  simp only [Act.put, List.setIfInBounds_toArray, List.set_cons_zero, List.set_cons_succ]
  refine heldTake 1 (some 4) (.bool lf) rfl rfl (by kernel_rfl) (by kernel_rfl) (by kernel_rfl) (fun _ _ _ h => h) (Or.inl ⟨by rfl, fun w hS => ?_⟩) HS.out ?_
  · (have q := hS.at 0 _ rfl; go_simp)
  simp only [Act.put, List.setIfInBounds_toArray, List.set_cons_zero, List.set_cons_succ]
  refine heldTake 2 (some 5) (.pointer (some ⟨w.heap.size, 1, none⟩)) rfl rfl (by kernel_rfl) (by kernel_rfl) (by kernel_rfl) (fun _ _ _ h => h) (Or.inl ⟨by rfl, fun w hS => ?_⟩) HS.out ?_
  · (go_simp)
  simp only [Act.put, List.setIfInBounds_toArray, List.set_cons_zero, List.set_cons_succ]
  refine heldTake 3 (some 6) (.slice a1 cs.length c1) rfl rfl (by kernel_rfl) (by kernel_rfl) (by kernel_rfl) (fun _ _ _ h => h) (Or.inl ⟨by rfl, fun w hS => ?_⟩) HS.out ?_
  · (have q := hS.at 1 _ rfl; go_simp)
  simp only [Act.put, List.setIfInBounds_toArray, List.set_cons_zero, List.set_cons_succ]
  refine heldTake 5 (some 8) (.pointer (some ⟨w.heap.size, 2, none⟩)) rfl rfl (by kernel_rfl) (by kernel_rfl) (by kernel_rfl) (fun _ _ _ h => h) (Or.inl ⟨by rfl, fun w hS => ?_⟩) HS.out ?_
  · (go_simp)
  simp only [Act.put, List.setIfInBounds_toArray, List.set_cons_zero, List.set_cons_succ]
  refine heldTake 6 (some 9) (.slice a2 ks.length c2) rfl rfl (by kernel_rfl) (by kernel_rfl) (by kernel_rfl) (fun _ _ _ h => h) (Or.inl ⟨by rfl, fun w hS => ?_⟩) HS.out ?_
  · (have q := hS.at 2 _ rfl; go_simp)
  simp only [Act.put, List.setIfInBounds_toArray, List.set_cons_zero, List.set_cons_succ]
  refine heldTake 8 (some 11) (.pointer (some ⟨w.heap.size, 3, none⟩)) rfl rfl (by kernel_rfl) (by kernel_rfl) (by kernel_rfl) (fun _ _ _ h => h) (Or.inl ⟨by rfl, fun w hS => ?_⟩) HS.out ?_
  · (go_simp)
  simp only [Act.put, List.setIfInBounds_toArray, List.set_cons_zero, List.set_cons_succ]
  refine heldTake 9 (some 12) (.slice a3 ds.length c3) rfl rfl (by kernel_rfl) (by kernel_rfl) (by kernel_rfl) (fun _ _ _ h => h) (Or.inl ⟨by rfl, fun w hS => ?_⟩) HS.out ?_
  · (have q := hS.at 3 _ rfl; go_simp)
  simp only [Act.put, List.setIfInBounds_toArray, List.set_cons_zero, List.set_cons_succ]
  refine heldOne 4 (by kernel_rfl) rfl (by rfl) (fun KK hK => ?_)
  go_simp
  go_at_call 53
  refine (HC1 _ HBD.out).mono ?_
  rintro e w1 ⟨v, rfl, hO1, hB1⟩
  obtain ⟨b1, k1, rfl, l1, m1, r1⟩ := own_rowFrom hO1
  have HS1 : Hid ((fun W : World => Brow W w.heap.size [.bool lf, .slice a1 cs.length c1, .slice a2 ks.length c2, .slice a3 ds.length c3] 26) w1) := HS.out.below hB1 (by omega)
  have HZ1 : Hid (Brow w1 (w.heap.size + 1) [.bool false, .slice none 0 0, .slice none 0 0, .slice none 0 0] 26) := HZ.out.below hB1 (by omega)
  have HB1 : Hid (Below w.heap.size w w1) := HBD.out.trans (hB1.mono (by omega))
  have hsz1 : w.heap.size + 2 ≤ w1.heap.size := Nat.le_trans hsz hB1.size
  have R1 : Hid (RowFrom w1 (w.heap.size + 2) b1 (cvals cs)) := r1.mono hsz
  clear hB1 HBD HS HZ hO1 r1 HC1
  refine hK.out _ _ HS1.out ?_
  clear hK KK
  try simp only [Act.put, List.setIfInBounds_toArray, List.set_cons_zero, List.set_cons_succ]
  refine heldOne 7 (by kernel_rfl) rfl (by rfl) (fun KK hK => ?_)
  go_simp
  go_at_call 55
  refine (HC2 _ HB1.out).mono ?_
  rintro e w2 ⟨v, rfl, hO2, hB2⟩
  obtain ⟨b2, k2, rfl, l2, m2, r2⟩ := own_rowFrom hO2
  have HS2 : Hid ((fun W : World => Brow W w.heap.size [.bool lf, .slice a1 cs.length c1, .slice a2 ks.length c2, .slice a3 ds.length c3] 26) w2) := HS1.out.below hB2 (by omega)
  have HZ2 : Hid (Brow w2 (w.heap.size + 1) [.bool false, .slice none 0 0, .slice none 0 0, .slice none 0 0] 26) := HZ1.out.below hB2 (by omega)
  have HB2 : Hid (Below w.heap.size w w2) := HB1.out.trans (hB2.mono (by omega))
  have hsz2 : w.heap.size + 2 ≤ w2.heap.size := Nat.le_trans hsz1 hB2.size
  have R2 : Hid (RowFrom w2 (w.heap.size + 2) b1 (cvals cs) ∧ RowFrom w2 (w.heap.size + 2) b2 (kcells ks)) := ⟨R1.out.below hB2, r2.mono hsz1⟩
  clear hB2 HB1 HS1 HZ1 hO2 r2 R1 HC2
  refine hK.out _ _ HS2.out ?_
  clear hK KK
  try simp only [Act.put, List.setIfInBounds_toArray, List.set_cons_zero, List.set_cons_succ]
  refine heldOne 10 (by kernel_rfl) rfl (by rfl) (fun KK hK => ?_)
  go_simp
  go_at_call 56
  refine (HC3 _ HB2.out).mono ?_
  rintro e w3 ⟨b3, k3, rfl, r3, l3, m3, hB3⟩
  have HS3 : Hid ((fun W : World => Brow W w.heap.size [.bool lf, .slice a1 cs.length c1, .slice a2 ks.length c2, .slice a3 ds.length c3] 26) w3) := HS2.out.below hB3 (by omega)
  have HZ3 : Hid (Brow w3 (w.heap.size + 1) [.bool false, .slice none 0 0, .slice none 0 0, .slice none 0 0] 26) := HZ2.out.below hB3 (by omega)
  have HB3 : Hid (Below w.heap.size w w3) := HB2.out.trans (hB3.mono (by omega))
  have hsz3 : w.heap.size + 2 ≤ w3.heap.size := Nat.le_trans hsz2 hB3.size
  have R3 : Hid (LiesF w3 (w.heap.size + 2) ⟨lf, cs, ks, ds⟩ ⟨b1, k1, b2, k2, b3, k3⟩) := ⟨R2.out.1.below hB3, R2.out.2.below hB3, r3.mono hsz2, l1, l2, l3, m1, m2, m3⟩
  clear hB3 HB2 HS2 HZ2 r3 R2 HC3
  refine hK.out _ _ HS3.out ?_
  clear hK KK
  try simp only [Act.put, List.setIfInBounds_toArray, List.set_cons_zero, List.set_cons_succ]
  refine heldTake 11 (some 14) (.agg #[.bool lf, .slice b1 cs.length k1, .slice b2 ks.length k2, .slice b3 ds.length k3]) rfl rfl (by kernel_rfl) (by kernel_rfl) (by kernel_rfl) (fun _ _ _ h => h) (Or.inl ⟨by rfl, fun w hS => ?_⟩) HS3.out ?_
  · (go_simp)
  simp only [Act.put, List.setIfInBounds_toArray, List.set_cons_zero, List.set_cons_succ]
  have z0 := HZ3.out.fz 0
  have z1 := HZ3.out.fz 1
  have z2 := HZ3.out.fz 2
  have z3 := HZ3.out.fz 3
  have y0 := HZ3.out.at 0 _ rfl
  have y1 := HZ3.out.at 1 _ rfl
  have y2 := HZ3.out.at 2 _ rfl
  have y3 := HZ3.out.at 3 _ rfl
  have H1 : w.heap.size + 1 ≠ w.heap.size := by omega
  have H2 : w.heap.size + 1 < w.heap.size + 2 := by omega
  have H3 : w.heap.size ≤ w.heap.size + 1 := by omega
  have HBW : Hid (Brow ((((w3.setCell ⟨w.heap.size + 1, 0, none⟩ (.bool lf)).setCell ⟨w.heap.size + 1, 1, none⟩ (.slice b1 cs.length k1)).setCell ⟨w.heap.size + 1, 2, none⟩ (.slice b2 ks.length k2)).setCell ⟨w.heap.size + 1, 3, none⟩ (.slice b3 ds.length k3)) w.heap.size [.bool lf, .slice a1 cs.length c1, .slice a2 ks.length c2, .slice a3 ds.length c3] 26) := (((HS3.out.far H1).far H1).far H1).far H1
  have HBX : Hid (Brow ((((w3.setCell ⟨w.heap.size + 1, 0, none⟩ (.bool lf)).setCell ⟨w.heap.size + 1, 1, none⟩ (.slice b1 cs.length k1)).setCell ⟨w.heap.size + 1, 2, none⟩ (.slice b2 ks.length k2)).setCell ⟨w.heap.size + 1, 3, none⟩ (.slice b3 ds.length k3)) (w.heap.size + 1) [.bool lf, .slice b1 cs.length k1, .slice b2 ks.length k2, .slice b3 ds.length k3] 26) := (((HZ3.out.set 0 (.bool lf)).set 1 (.slice b1 cs.length k1)).set 2 (.slice b2 ks.length k2)).set 3 (.slice b3 ds.length k3)
  have HLW : Hid (LiesF ((((w3.setCell ⟨w.heap.size + 1, 0, none⟩ (.bool lf)).setCell ⟨w.heap.size + 1, 1, none⟩ (.slice b1 cs.length k1)).setCell ⟨w.heap.size + 1, 2, none⟩ (.slice b2 ks.length k2)).setCell ⟨w.heap.size + 1, 3, none⟩ (.slice b3 ds.length k3)) w.heap.size ⟨lf, cs, ks, ds⟩ ⟨b1, k1, b2, k2, b3, k3⟩) := ((((R3.out.set H2 _ _).set H2 _ _).set H2 _ _).set H2 _ _).mono (by omega)
  have HBB : Hid (Below w.heap.size w ((((w3.setCell ⟨w.heap.size + 1, 0, none⟩ (.bool lf)).setCell ⟨w.heap.size + 1, 1, none⟩ (.slice b1 cs.length k1)).setCell ⟨w.heap.size + 1, 2, none⟩ (.slice b2 ks.length k2)).setCell ⟨w.heap.size + 1, 3, none⟩ (.slice b3 ds.length k3))) := (((HB3.out.setCell H3 _).setCell H3 _).setCell H3 _).setCell H3 _
  refine heldOne 12 (by kernel_rfl) rfl (by rfl) (fun KK hK => ?_)
  go_simp
  refine hK.out _ _ HBW.out ?_
  clear hK KK
  try simp only [Act.put, List.setIfInBounds_toArray, List.set_cons_zero, List.set_cons_succ]
  refine wpAnyH_done (by kernel_rfl) ?_ _
  go_wp2
  refine bodyPost_ret (res_c rfl _ _ (w.heap.size + 1) 26 _ _ rfl HBX.out Try.underlying26 rfl (by kernel_rfl)) rfl ?_
  exact ⟨⟨b1, k1, b2, k2, b3, k3⟩, rfl, HLW.out, HBB.out⟩
end Go.Proofs.Ytoinaplmgffkpaa
