/- Proved: what slot's input.node answers (stage 11). -/
import Derived.Test.YtoinaplmgffkpaaDecL
import Derived.Test.YtoinaplmgffkpaaDecB
import Derived.Test.YtoinaplmgffkpaaSplit
namespace Go.Proofs.Ytoinaplmgffkpaa
open Go.RowKit
open Sl (Cel Nod)
set_option maxHeartbeats 4000000 in
set_option maxRecDepth 20000 in
theorem nd_in (g : Nat) (s : In) (w : World) (hg : Brow w g (irow s) 76) (hs : Ok8 s) :
    Calls Try.prog 51 #[.pointer (some ⟨g, 0, none⟩)] w (NdPost g w (ndV s) (ndS s)) := by
  have hgl := hg.lt
  have HN := fun (W : World) (h : Brow W g (irow s) 76) => num_in g s 1 W h hs (by omega)
  have HL := fun (W : World) (h : Brow W g (irow (cutS s 1)) 76) => (lf_in g (cutS s 1) W h (hs.cut 1)).mono (fun _ _ hx => hx.ex)
  have HB := fun (W : World) (h : Brow W g (irow (cutS s 1)) 76) => (bn_in g (cutS s 1) W h (hs.cut 1)).mono (fun _ _ hx => hx.ex)
  have HV1 := (show Hid (numV s 1 = 1 → ndV s = lfV (cutS s 1) ∧ ndS s = lfS (cutS s 1)) from fun h => by
    unfold ndV ndS
    rw [if_pos h, if_pos h]
    exact ⟨rfl, rfl⟩)
  have HV2 := (show Hid (numV s 1 = 2 → ndV s = bnV (cutS s 1) ∧ ndS s = bnS (cutS s 1)) from fun h => by
    have h1 : ¬ numV s 1 = 1 := by omega
    unfold ndV ndS
    rw [if_neg h1, if_neg h1, if_pos h, if_pos h]
    exact ⟨rfl, rfl⟩)
  have HV3 := (show Hid (¬ numV s 1 = 1 → ¬ numV s 1 = 2 → ndV s = Sl.nod0 ∧ ndS s = cutS s 1) from fun h h' => by
    unfold ndV ndS
    rw [if_neg h, if_neg h, if_neg h', if_neg h']
    exact ⟨rfl, rfl⟩)
  have HZ0 := (show Hid (Brow (w.alloc (.cells #[.bool false, .slice none 0 0, .slice none 0 0, .slice none 0 0] 26)) g (irow s) 76 ∧ Brow (w.alloc (.cells #[.bool false, .slice none 0 0, .slice none 0 0, .slice none 0 0] 26)) w.heap.size [.bool false, .slice none 0 0, .slice none 0 0, .slice none 0 0] 26 ∧ Chg g w (w.alloc (.cells #[.bool false, .slice none 0 0, .slice none 0 0, .slice none 0 0] 26))) from ⟨hg.alloc _, Brow.new w _ 26, (Chg.refl g w).alloc _⟩)
  clear hg hs
  generalize ndV s = N' at *
  generalize ndS s = S' at *
  generalize lfV (cutS s 1) = N1 at *
  generalize lfS (cutS s 1) = S1 at *
  generalize bnV (cutS s 1) = N2 at *
  generalize bnS (cutS s 1) = S2 at *
  generalize numV s 1 = M at *
  generalize cutS s 1 = s1 at *
  go_enter Try.func51, Try.ntmps51
  go_wp2_with fail
  refine (HN _ HZ0.out.1).mono ?_
  rintro e w1 ⟨rfl, hI1, hB1⟩
  have HZ1 := (show Hid (Brow w1 w.heap.size [.bool false, .slice none 0 0, .slice none 0 0, .slice none 0 0] 26 ∧ Chg g w w1) from ⟨hB1.brow HZ0.out.2.1 (by omega), HZ0.out.2.2.trans hB1⟩)
  have HI1 : Hid (Brow w1 g (irow s1) 76) := hI1
  have hz1 : w.heap.size + 1 ≤ w1.heap.size := HZ1.out.1.lt
  clear hI1 hB1 HZ0 HN
  by_cases hM1 : M = 1
  · subst hM1
    obtain ⟨e1, e2⟩ := HV1.out rfl
    subst e1 e2
    clear HV1 HV2 HV3 HB
    obtain ⟨nf, nc, nk, nd⟩ := N'
    unfold nv at *
    go_wp2_with fail
    refine (HL w1 HI1.out).mono ?_
    rintro e w2 ⟨⟨x1, y1, x2, y2, x3, y3⟩, rfl, hL2, hI2, hB2⟩
    have HZ2 := (show Hid (Brow w2 w.heap.size [.bool false, .slice none 0 0, .slice none 0 0, .slice none 0 0] 26) from hB2.brow HZ1.out.1 (by omega))
    have HI2 := (show Hid (Brow w2 g (irow S') 76 ∧ Chg g w w2) from ⟨hI2, HZ1.out.2.trans hB2⟩)
    have HL2 := (show Hid (LiesF w2 (w.heap.size + 1) ⟨nf, nc, nk, nd⟩ ⟨x1, y1, x2, y2, x3, y3⟩) from hL2.mono (by omega))
    clear hL2 hI2 hB2 HZ1
    have HFR := (show Hid (Brow (setN w2 w.heap.size (.bool nf) (.slice x1 nc.length y1) (.slice x2 nk.length y2) (.slice x3 nd.length y3)) w.heap.size [.bool nf, .slice x1 nc.length y1, .slice x2 nk.length y2, .slice x3 nd.length y3] 26) from setN_row HZ2.out _ _ _ _)
    have HFG := (show Hid (Brow (setN w2 w.heap.size (.bool nf) (.slice x1 nc.length y1) (.slice x2 nk.length y2) (.slice x3 nd.length y3)) g (irow S') 76 ∧ Chg g w (setN w2 w.heap.size (.bool nf) (.slice x1 nc.length y1) (.slice x2 nk.length y2) (.slice x3 nd.length y3))) from ⟨setN_far HI2.out.1 (by omega) _ _ _ _, ((((HI2.out.2.setNew (Nat.le_refl _) 0 _).setNew (Nat.le_refl _) 1 _).setNew (Nat.le_refl _) 2 _).setNew (Nat.le_refl _) 3 _)⟩)
    have HFL := (show Hid (LiesF (setN w2 w.heap.size (.bool nf) (.slice x1 nc.length y1) (.slice x2 nk.length y2) (.slice x3 nd.length y3)) w.heap.size ⟨nf, nc, nk, nd⟩ ⟨x1, y1, x2, y2, x3, y3⟩) from (setN_lies HL2.out (by omega) _ _ _ _).mono (by omega))
    have y_0 := HZ2.out.at 0 _ rfl
    have y_1 := HZ2.out.at 1 _ rfl
    have y_2 := HZ2.out.at 2 _ rfl
    have y_3 := HZ2.out.at 3 _ rfl
    have z_0 := HZ2.out.fz 0
    have z_1 := HZ2.out.fz 1
    have z_2 := HZ2.out.fz 2
    have z_3 := HZ2.out.fz 3
    unfold setN at *
    go_wp2
    refine bodyPost_ret (res_c rfl _ _ (w.heap.size) 26 _ _ rfl HFR.out Try.underlying26 rfl (by kernel_rfl)) rfl ?_
    exact ⟨⟨⟨x1, y1, x2, y2, x3, y3⟩, rfl, HFL.out, HFG.out.1, HFG.out.2⟩⟩
  · by_cases hM2 : M = 2
    · subst hM2
      obtain ⟨e1, e2⟩ := HV2.out rfl
      subst e1 e2
      clear HV1 HV2 HV3 HL hM1
      obtain ⟨nf, nc, nk, nd⟩ := N'
      unfold nv at *
      go_wp2_with fail
      refine (HB w1 HI1.out).mono ?_
      rintro e w2 ⟨⟨x1, y1, x2, y2, x3, y3⟩, rfl, hL2, hI2, hB2⟩
      have HZ2 := (show Hid (Brow w2 w.heap.size [.bool false, .slice none 0 0, .slice none 0 0, .slice none 0 0] 26) from hB2.brow HZ1.out.1 (by omega))
      have HI2 := (show Hid (Brow w2 g (irow S') 76 ∧ Chg g w w2) from ⟨hI2, HZ1.out.2.trans hB2⟩)
      have HL2 := (show Hid (LiesF w2 (w.heap.size + 1) ⟨nf, nc, nk, nd⟩ ⟨x1, y1, x2, y2, x3, y3⟩) from hL2.mono (by omega))
      clear hL2 hI2 hB2 HZ1
      have HFR := (show Hid (Brow (setN w2 w.heap.size (.bool nf) (.slice x1 nc.length y1) (.slice x2 nk.length y2) (.slice x3 nd.length y3)) w.heap.size [.bool nf, .slice x1 nc.length y1, .slice x2 nk.length y2, .slice x3 nd.length y3] 26) from setN_row HZ2.out _ _ _ _)
      have HFG := (show Hid (Brow (setN w2 w.heap.size (.bool nf) (.slice x1 nc.length y1) (.slice x2 nk.length y2) (.slice x3 nd.length y3)) g (irow S') 76 ∧ Chg g w (setN w2 w.heap.size (.bool nf) (.slice x1 nc.length y1) (.slice x2 nk.length y2) (.slice x3 nd.length y3))) from ⟨setN_far HI2.out.1 (by omega) _ _ _ _, ((((HI2.out.2.setNew (Nat.le_refl _) 0 _).setNew (Nat.le_refl _) 1 _).setNew (Nat.le_refl _) 2 _).setNew (Nat.le_refl _) 3 _)⟩)
      have HFL := (show Hid (LiesF (setN w2 w.heap.size (.bool nf) (.slice x1 nc.length y1) (.slice x2 nk.length y2) (.slice x3 nd.length y3)) w.heap.size ⟨nf, nc, nk, nd⟩ ⟨x1, y1, x2, y2, x3, y3⟩) from (setN_lies HL2.out (by omega) _ _ _ _).mono (by omega))
      have y_0 := HZ2.out.at 0 _ rfl
      have y_1 := HZ2.out.at 1 _ rfl
      have y_2 := HZ2.out.at 2 _ rfl
      have y_3 := HZ2.out.at 3 _ rfl
      have z_0 := HZ2.out.fz 0
      have z_1 := HZ2.out.fz 1
      have z_2 := HZ2.out.fz 2
      have z_3 := HZ2.out.fz 3
      unfold setN at *
      go_wp2
      refine bodyPost_ret (res_c rfl _ _ (w.heap.size) 26 _ _ rfl HFR.out Try.underlying26 rfl (by kernel_rfl)) rfl ?_
      exact ⟨⟨⟨x1, y1, x2, y2, x3, y3⟩, rfl, HFL.out, HFG.out.1, HFG.out.2⟩⟩
    · have m1 : ((M : Int) == 1) = false := by simp; omega
      have m2 : ((M : Int) == 2) = false := by simp; omega
      have m3 : ¬ (M : Int) = 1 := by omega
      have m4 : ¬ (M : Int) = 2 := by omega
      obtain ⟨e1, e2⟩ := HV3.out hM1 hM2
      replace e2 := e2.symm
      subst e1 e2
      clear HV1 HV2 HV3 HL HB hM1 hM2
      have HFR := (show Hid (Brow (setN w1 w.heap.size (.bool false) (.slice none 0 0) (.slice none 0 0) (.slice none 0 0)) w.heap.size [.bool false, .slice none 0 0, .slice none 0 0, .slice none 0 0] 26) from setN_row HZ1.out.1 _ _ _ _)
      have HFG := (show Hid (Brow (setN w1 w.heap.size (.bool false) (.slice none 0 0) (.slice none 0 0) (.slice none 0 0)) g (irow s1) 76 ∧ Chg g w (setN w1 w.heap.size (.bool false) (.slice none 0 0) (.slice none 0 0) (.slice none 0 0))) from ⟨setN_far HI1.out (by omega) _ _ _ _, ((((HZ1.out.2.setNew (Nat.le_refl _) 0 _).setNew (Nat.le_refl _) 1 _).setNew (Nat.le_refl _) 2 _).setNew (Nat.le_refl _) 3 _)⟩)
      have y_0 := HZ1.out.1.at 0 _ rfl
      have y_1 := HZ1.out.1.at 1 _ rfl
      have y_2 := HZ1.out.1.at 2 _ rfl
      have y_3 := HZ1.out.1.at 3 _ rfl
      have z_0 := HZ1.out.1.fz 0
      have z_1 := HZ1.out.1.fz 1
      have z_2 := HZ1.out.1.fz 2
      have z_3 := HZ1.out.1.fz 3
      unfold setN at *
      go_wp2
      refine bodyPost_ret (res_c rfl _ _ (w.heap.size) 26 _ _ rfl HFR.out Try.underlying26 rfl (by kernel_rfl)) rfl ?_
      exact ⟨⟨⟨none, 0, none, 0, none, 0⟩, rfl, lies0 _ _, HFG.out.1, HFG.out.2⟩⟩
end Go.Proofs.Ytoinaplmgffkpaa
