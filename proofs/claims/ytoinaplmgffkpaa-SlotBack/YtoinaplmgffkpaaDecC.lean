/- Proved: what slot's input.cell answers (stage 11). -/
import Derived.Test.YtoinaplmgffkpaaDec1
namespace Go.Proofs.Ytoinaplmgffkpaa
open Go.RowKit
open Sl (Cel Nod)
theorem Chg.setNew {g b : Nat} {w w1 : World} (h : Chg g w w1) (hb : w.heap.size ≤ b) (i : Nat) (v : Value) : Chg g w (w1.setCell ⟨b, i, none⟩ v) :=
  ⟨⟨h.by_.os, h.by_.tape, h.by_.output, by rw [size_setCell]; exact h.by_.size, fun j hj hne => (Below.heap_setCell _ _ _ _ (by show j ≠ b; omega)).trans (h.by_.block j hj hne)⟩⟩
theorem Chg.alloc {g : Nat} {w w1 : World} (h : Chg g w w1) (o : Obj) : Chg g w (w1.alloc o) := h.trans (Chg.of g (below_alloc _ _))
set_option maxHeartbeats 4000000 in
set_option maxRecDepth 20000 in
theorem cel_in (g : Nat) (s : In) (w : World) (hg : Brow w g (irow s) 76) (hs : Ok8 s) :
    Calls Try.prog 86 #[.pointer (some ⟨g, 0, none⟩)] w fun e w' => e = .returned (cv (celV s)) ∧ Brow w' g (irow (celS s)) 76 ∧ Chg g w w' := by
  have hgl := hg.lt
  have HT := fun (W : World) (h : Brow W g (irow s) 76) => txt_in g s W h hs
  have HM := fun (W : World) (h : Brow W g (irow (txtS s)) 76) => num_in g (txtS s) 1 W h hs.txt (by omega)
  have HX := fun (W : World) (h : Brow W g (irow (celT s)) 76) => txt_in g (celT s) W h hs.celT
  have HA := fun (W : World) (h : Brow W g (irow (celT s)) 76) => num_in g (celT s) 4 W h hs.celT (by omega)
  have HO := fun (W : World) (h : Brow W g (irow (cutS (celT s) 4)) 76) => num_in g (cutS (celT s) 4) 4 W h (hs.celT.cut 4) (by omega)
  have HV0 := (show Hid (celM s = 0 → celV s = ⟨tb (txtV s), tb (txtV (celT s)), 0, 0⟩ ∧ celS s = txtS (celT s)) from fun h => by
    unfold celV celS
    have h1 : ¬ celM s = 1 := by omega
    rw [if_pos h, if_neg h1, if_neg h1, if_pos h]
    exact ⟨rfl, rfl⟩)
  have HV1 := (show Hid (celM s = 1 → celV s = ⟨tb (txtV s), ⟨#[]⟩, (numV (cutS (celT s) 4) 4 : Int), (numV (celT s) 4 : Int)⟩ ∧ celS s = ⟨(celE s).l, (celE s).bad || decide (numV (cutS (celT s) 4) 4 = 0)⟩) from fun h => by
    unfold celV celS
    have h0 : ¬ celM s = 0 := by omega
    rw [if_neg h0, if_pos h, if_pos h, if_neg h0, if_pos h]
    exact ⟨rfl, rfl⟩)
  have HV2 := (show Hid (¬ celM s = 0 → ¬ celM s = 1 → celV s = ⟨tb (txtV s), ⟨#[]⟩, 0, 0⟩ ∧ celS s = ⟨(celT s).l, true⟩) from fun h h' => by
    unfold celV celS
    rw [if_neg h, if_neg h', if_neg h', if_neg h, if_neg h']
    exact ⟨rfl, rfl⟩)
  have e1 : numV (txtS s) 1 = celM s := rfl
  have e2 : cutS (txtS s) 1 = celT s := rfl
  have e3 : cutS (cutS (celT s) 4) 4 = celE s := rfl
  rw [e1, e2] at HM
  rw [e3] at HO
  have HG0 := (show Hid (Brow (w.alloc (.cells #[.string ⟨#[]⟩, .string ⟨#[]⟩, .int .i64 0, .int .i64 0] 28)) g (irow s) 76 ∧ Brow (w.alloc (.cells #[.string ⟨#[]⟩, .string ⟨#[]⟩, .int .i64 0, .int .i64 0] 28)) w.heap.size [.string ⟨#[]⟩, .string ⟨#[]⟩, .int .i64 0, .int .i64 0] 28 ∧ Chg g w (w.alloc (.cells #[.string ⟨#[]⟩, .string ⟨#[]⟩, .int .i64 0, .int .i64 0] 28))) from ⟨hg.alloc _, Brow.new w _ 28, (Chg.refl g w).alloc _⟩)
  clear hg hs e1 e2 e3
  generalize celV s = V at *
  generalize celS s = S' at *
  generalize tb (txtV s) = K at *
  generalize tb (txtV (celT s)) = X at *
  generalize numV (cutS (celT s) 4) 4 = O at *
  generalize numV (celT s) 4 = A at *
  generalize celM s = M at *
  generalize txtS (celT s) = sX at *
  generalize celE s = sE at *
  generalize cutS (celT s) 4 = sA at *
  generalize celT s = sT at *
  generalize txtS s = s1 at *
  go_enter Try.func86, Try.ntmps86
  go_wp2_with fail
  refine (HT _ HG0.out.1).mono ?_
  rintro e w1 ⟨rfl, hI1, hB1⟩
  have hz1 : w.heap.size + 1 ≤ w1.heap.size := by have := hB1.size; rw [size_alloc1] at this; exact this
  have HS2 := (show Hid (Brow (w1.alloc (.cells #[.string K, .string ⟨#[]⟩, .int .i64 0, .int .i64 0] 28)) g (irow s1) 76 ∧ Brow (w1.alloc (.cells #[.string K, .string ⟨#[]⟩, .int .i64 0, .int .i64 0] 28)) w.heap.size [.string ⟨#[]⟩, .string ⟨#[]⟩, .int .i64 0, .int .i64 0] 28 ∧ Brow (w1.alloc (.cells #[.string K, .string ⟨#[]⟩, .int .i64 0, .int .i64 0] 28)) w1.heap.size [.string K, .string ⟨#[]⟩, .int .i64 0, .int .i64 0] 28 ∧ Chg g w (w1.alloc (.cells #[.string K, .string ⟨#[]⟩, .int .i64 0, .int .i64 0] 28))) from ⟨hI1.alloc _, (hB1.brow HG0.out.2.1 (by omega)).alloc _, Brow.new w1 _ 28, (HG0.out.2.2.trans hB1).alloc _⟩)
  clear hI1 hB1 HG0 HT
  go_upto_region 2 with fail
  generalize (w1.alloc (.cells #[.string K, .string ⟨#[]⟩, .int .i64 0, .int .i64 0] 28)) = w2 at *
  generalize w1.heap.size = C at *
  go_wp2_with fail
  refine (HM w2 HS2.out.1).mono ?_
  rintro e w3 ⟨rfl, hI3, hB3⟩
  have HS3 := (show Hid (Brow w3 g (irow sT) 76 ∧ Brow w3 w.heap.size [.string ⟨#[]⟩, .string ⟨#[]⟩, .int .i64 0, .int .i64 0] 28 ∧ Brow w3 C [.string K, .string ⟨#[]⟩, .int .i64 0, .int .i64 0] 28 ∧ Chg g w w3) from ⟨hI3, hB3.brow HS2.out.2.1 (by omega), hB3.brow HS2.out.2.2.1 (by omega), HS2.out.2.2.2.trans hB3⟩)
  clear hI3 hB3 HS2
  by_cases hM0 : M = 0
  · subst hM0
    obtain ⟨rfl, hS⟩ := HV0.out rfl
    replace hS := hS.symm
    subst hS
    clear HV0 HV1 HV2 HM HA HO
    go_wp2_with fail
    refine (HX w3 HS3.out.1).mono ?_
    rintro e w4 ⟨rfl, hI4, hB4⟩
    have HS4 := (show Hid (Brow w4 g (irow sX) 76 ∧ Brow w4 w.heap.size [.string ⟨#[]⟩, .string ⟨#[]⟩, .int .i64 0, .int .i64 0] 28 ∧ Brow w4 C [.string K, .string ⟨#[]⟩, .int .i64 0, .int .i64 0] 28 ∧ Chg g w w4) from ⟨hI4, hB4.brow HS3.out.2.1 (by omega), hB4.brow HS3.out.2.2.1 (by omega), HS3.out.2.2.2.trans hB4⟩)
    clear hI4 hB4 HS3
    have HS5 := (show Hid (Brow (w4.setCell ⟨C, 1, none⟩ (.string X)) g (irow sX) 76 ∧ Brow (w4.setCell ⟨C, 1, none⟩ (.string X)) w.heap.size [.string ⟨#[]⟩, .string ⟨#[]⟩, .int .i64 0, .int .i64 0] 28 ∧ Brow (w4.setCell ⟨C, 1, none⟩ (.string X)) C [.string K, .string X, .int .i64 0, .int .i64 0] 28 ∧ Chg g w (w4.setCell ⟨C, 1, none⟩ (.string X))) from ⟨HS4.out.1.far (by show C ≠ g; omega), HS4.out.2.1.far (by show C ≠ w.heap.size; omega), HS4.out.2.2.1.set 1 _, HS4.out.2.2.2.setNew (by omega) 1 _⟩)
    have x0 := HS4.out.2.2.1.at 1 _ rfl
    have xz := HS4.out.2.2.1.fz 1
    clear HS4
    go_upto_region 10 with fail
    generalize (w4.setCell ⟨C, 1, none⟩ (.string X)) = w5 at *
    clear x0 xz
    have HFR := (show Hid (Brow (setN w5 w.heap.size (.string K) (.string X) (.int .i64 0) (.int .i64 0)) w.heap.size [.string K, .string X, .int .i64 0, .int .i64 0] 28) from setN_row HS5.out.2.1 _ _ _ _)
    have HFG := (show Hid (Brow (setN w5 w.heap.size (.string K) (.string X) (.int .i64 0) (.int .i64 0)) g (irow sX) 76 ∧ Chg g w (setN w5 w.heap.size (.string K) (.string X) (.int .i64 0) (.int .i64 0))) from ⟨setN_far HS5.out.1 (by omega) _ _ _ _, ((((HS5.out.2.2.2.setNew (Nat.le_refl _) 0 _).setNew (Nat.le_refl _) 1 _).setNew (Nat.le_refl _) 2 _).setNew (Nat.le_refl _) 3 _)⟩)
    have q0 := HS5.out.2.2.1.at 0 _ rfl
    have q1 := HS5.out.2.2.1.at 1 _ rfl
    have q2 := HS5.out.2.2.1.at 2 _ rfl
    have q3 := HS5.out.2.2.1.at 3 _ rfl
    have y0 := HS5.out.2.1.at 0 _ rfl
    have y1 := HS5.out.2.1.at 1 _ rfl
    have y2 := HS5.out.2.1.at 2 _ rfl
    have y3 := HS5.out.2.1.at 3 _ rfl
    have z0 := HS5.out.2.1.fz 0
    have z1 := HS5.out.2.1.fz 1
    have z2 := HS5.out.2.1.fz 2
    have z3 := HS5.out.2.1.fz 3
    unfold setN at HFR HFG
    go_wp2
    refine bodyPost_ret (res_c rfl _ _ (w.heap.size) 28 _ _ rfl HFR.out Try.underlying28 rfl (by kernel_rfl)) rfl ?_
    exact ⟨rfl, HFG.out.1, HFG.out.2⟩
  · have m0 : ((M : Int) == 0) = false := by simp; omega
    by_cases hM1 : M = 1
    · subst hM1
      obtain ⟨rfl, rfl⟩ := HV1.out rfl
      clear HV0 HV1 HV2 HM HX m0
      go_wp2_with fail
      refine (HA w3 HS3.out.1).mono ?_
      rintro e w4 ⟨rfl, hI4, hB4⟩
      have HS4 := (show Hid (Brow w4 g (irow sA) 76 ∧ Brow w4 w.heap.size [.string ⟨#[]⟩, .string ⟨#[]⟩, .int .i64 0, .int .i64 0] 28 ∧ Brow w4 C [.string K, .string ⟨#[]⟩, .int .i64 0, .int .i64 0] 28 ∧ Chg g w w4) from ⟨hI4, hB4.brow HS3.out.2.1 (by omega), hB4.brow HS3.out.2.2.1 (by omega), HS3.out.2.2.2.trans hB4⟩)
      clear hI4 hB4 HS3
      have HS5 := (show Hid (Brow (w4.setCell ⟨C, 3, none⟩ (.int .i64 (A : Int))) g (irow sA) 76 ∧ Brow (w4.setCell ⟨C, 3, none⟩ (.int .i64 (A : Int))) w.heap.size [.string ⟨#[]⟩, .string ⟨#[]⟩, .int .i64 0, .int .i64 0] 28 ∧ Brow (w4.setCell ⟨C, 3, none⟩ (.int .i64 (A : Int))) C [.string K, .string ⟨#[]⟩, .int .i64 0, .int .i64 (A : Int)] 28 ∧ Chg g w (w4.setCell ⟨C, 3, none⟩ (.int .i64 (A : Int)))) from ⟨HS4.out.1.far (by show C ≠ g; omega), HS4.out.2.1.far (by show C ≠ w.heap.size; omega), HS4.out.2.2.1.set 3 _, HS4.out.2.2.2.setNew (by omega) 3 _⟩)
      have x0 := HS4.out.2.2.1.at 3 _ rfl
      have xz := HS4.out.2.2.1.fz 3
      clear HS4
      go_upto_region 8 with fail
      generalize (w4.setCell ⟨C, 3, none⟩ (.int .i64 (A : Int))) = w5 at *
      clear x0 xz
      go_wp2_with fail
      refine (HO w5 HS5.out.1).mono ?_
      rintro e w6 ⟨rfl, hI6, hB6⟩
      have HS6 := (show Hid (Brow w6 g (irow sE) 76 ∧ Brow w6 w.heap.size [.string ⟨#[]⟩, .string ⟨#[]⟩, .int .i64 0, .int .i64 0] 28 ∧ Brow w6 C [.string K, .string ⟨#[]⟩, .int .i64 0, .int .i64 (A : Int)] 28 ∧ Chg g w w6) from ⟨hI6, hB6.brow HS5.out.2.1 (by omega), hB6.brow HS5.out.2.2.1 (by omega), HS5.out.2.2.2.trans hB6⟩)
      clear hI6 hB6 HS5
      have HS7 := (show Hid (Brow (w6.setCell ⟨C, 2, none⟩ (.int .i64 (O : Int))) g (irow sE) 76 ∧ Brow (w6.setCell ⟨C, 2, none⟩ (.int .i64 (O : Int))) w.heap.size [.string ⟨#[]⟩, .string ⟨#[]⟩, .int .i64 0, .int .i64 0] 28 ∧ Brow (w6.setCell ⟨C, 2, none⟩ (.int .i64 (O : Int))) C [.string K, .string ⟨#[]⟩, .int .i64 (O : Int), .int .i64 (A : Int)] 28 ∧ Chg g w (w6.setCell ⟨C, 2, none⟩ (.int .i64 (O : Int)))) from ⟨HS6.out.1.far (by show C ≠ g; omega), HS6.out.2.1.far (by show C ≠ w.heap.size; omega), HS6.out.2.2.1.set 2 _, HS6.out.2.2.2.setNew (by omega) 2 _⟩)
      have x0 := HS6.out.2.2.1.at 2 _ rfl
      have xz := HS6.out.2.2.1.fz 2
      clear HS6
      go_upto_region 9 with fail
      generalize (w6.setCell ⟨C, 2, none⟩ (.int .i64 (O : Int))) = w7 at *
      clear x0 xz
      obtain ⟨le_, be⟩ := sE
      unfold irow at *
      simp only at HS7 ⊢
      cases be with
      | true =>
        have HS8 := (show Hid (Brow (w7.setCell ⟨g, 1, none⟩ (.bool true)) g [.string (tb le_), .bool true] 76 ∧ Brow (w7.setCell ⟨g, 1, none⟩ (.bool true)) w.heap.size [.string ⟨#[]⟩, .string ⟨#[]⟩, .int .i64 0, .int .i64 0] 28 ∧ Brow (w7.setCell ⟨g, 1, none⟩ (.bool true)) C [.string K, .string ⟨#[]⟩, .int .i64 (O : Int), .int .i64 (A : Int)] 28 ∧ Chg g w (w7.setCell ⟨g, 1, none⟩ (.bool true))) from ⟨HS7.out.1.set 1 _, HS7.out.2.1.far (by show g ≠ w.heap.size; omega), HS7.out.2.2.1.far (by show g ≠ C; omega), HS7.out.2.2.2.trans (Chg.set _ _ _ _)⟩)
        have g0 := HS7.out.1.at 0 _ rfl
        have g1 := HS7.out.1.at 1 _ rfl
        have gz := HS7.out.1.fz 1
        have x2 := HS7.out.2.2.1.at 2 _ rfl
        clear HS7
        go_upto_region 10 with fail
        generalize (w7.setCell ⟨g, 1, none⟩ (.bool true)) = w8 at *
        clear g0 g1 gz x2
        have HFR := (show Hid (Brow (setN w8 w.heap.size (.string K) (.string ⟨#[]⟩) (.int .i64 (O : Int)) (.int .i64 (A : Int))) w.heap.size [.string K, .string ⟨#[]⟩, .int .i64 (O : Int), .int .i64 (A : Int)] 28) from setN_row HS8.out.2.1 _ _ _ _)
        have HFG := (show Hid (Brow (setN w8 w.heap.size (.string K) (.string ⟨#[]⟩) (.int .i64 (O : Int)) (.int .i64 (A : Int))) g [.string (tb le_), .bool true] 76 ∧ Chg g w (setN w8 w.heap.size (.string K) (.string ⟨#[]⟩) (.int .i64 (O : Int)) (.int .i64 (A : Int)))) from ⟨setN_far HS8.out.1 (by omega) _ _ _ _, ((((HS8.out.2.2.2.setNew (Nat.le_refl _) 0 _).setNew (Nat.le_refl _) 1 _).setNew (Nat.le_refl _) 2 _).setNew (Nat.le_refl _) 3 _)⟩)
        have q0 := HS8.out.2.2.1.at 0 _ rfl
        have q1 := HS8.out.2.2.1.at 1 _ rfl
        have q2 := HS8.out.2.2.1.at 2 _ rfl
        have q3 := HS8.out.2.2.1.at 3 _ rfl
        have y0 := HS8.out.2.1.at 0 _ rfl
        have y1 := HS8.out.2.1.at 1 _ rfl
        have y2 := HS8.out.2.1.at 2 _ rfl
        have y3 := HS8.out.2.1.at 3 _ rfl
        have z0 := HS8.out.2.1.fz 0
        have z1 := HS8.out.2.1.fz 1
        have z2 := HS8.out.2.1.fz 2
        have z3 := HS8.out.2.1.fz 3
        unfold setN at HFR HFG
        go_wp2
        refine bodyPost_ret (res_c rfl _ _ (w.heap.size) 28 _ _ rfl HFR.out Try.underlying28 rfl (by kernel_rfl)) rfl ?_
        exact ⟨rfl, HFG.out.1, HFG.out.2⟩
      | false =>
        by_cases hO : O = 0
        · subst hO
          have HS8 := (show Hid (Brow (w7.setCell ⟨g, 1, none⟩ (.bool true)) g [.string (tb le_), .bool true] 76 ∧ Brow (w7.setCell ⟨g, 1, none⟩ (.bool true)) w.heap.size [.string ⟨#[]⟩, .string ⟨#[]⟩, .int .i64 0, .int .i64 0] 28 ∧ Brow (w7.setCell ⟨g, 1, none⟩ (.bool true)) C [.string K, .string ⟨#[]⟩, .int .i64 ((0 : Nat) : Int), .int .i64 (A : Int)] 28 ∧ Chg g w (w7.setCell ⟨g, 1, none⟩ (.bool true))) from ⟨HS7.out.1.set 1 _, HS7.out.2.1.far (by show g ≠ w.heap.size; omega), HS7.out.2.2.1.far (by show g ≠ C; omega), HS7.out.2.2.2.trans (Chg.set _ _ _ _)⟩)
          have g0 := HS7.out.1.at 0 _ rfl
          have g1 := HS7.out.1.at 1 _ rfl
          have gz := HS7.out.1.fz 1
          have x2 := HS7.out.2.2.1.at 2 _ rfl
          clear HS7
          go_upto_region 10 with fail
          generalize (w7.setCell ⟨g, 1, none⟩ (.bool true)) = w8 at *
          clear g0 g1 gz x2
          have HFR := (show Hid (Brow (setN w8 w.heap.size (.string K) (.string ⟨#[]⟩) (.int .i64 ((0 : Nat) : Int)) (.int .i64 (A : Int))) w.heap.size [.string K, .string ⟨#[]⟩, .int .i64 ((0 : Nat) : Int), .int .i64 (A : Int)] 28) from setN_row HS8.out.2.1 _ _ _ _)
          have HFG := (show Hid (Brow (setN w8 w.heap.size (.string K) (.string ⟨#[]⟩) (.int .i64 ((0 : Nat) : Int)) (.int .i64 (A : Int))) g [.string (tb le_), .bool true] 76 ∧ Chg g w (setN w8 w.heap.size (.string K) (.string ⟨#[]⟩) (.int .i64 ((0 : Nat) : Int)) (.int .i64 (A : Int)))) from ⟨setN_far HS8.out.1 (by omega) _ _ _ _, ((((HS8.out.2.2.2.setNew (Nat.le_refl _) 0 _).setNew (Nat.le_refl _) 1 _).setNew (Nat.le_refl _) 2 _).setNew (Nat.le_refl _) 3 _)⟩)
          have q0 := HS8.out.2.2.1.at 0 _ rfl
          have q1 := HS8.out.2.2.1.at 1 _ rfl
          have q2 := HS8.out.2.2.1.at 2 _ rfl
          have q3 := HS8.out.2.2.1.at 3 _ rfl
          have y0 := HS8.out.2.1.at 0 _ rfl
          have y1 := HS8.out.2.1.at 1 _ rfl
          have y2 := HS8.out.2.1.at 2 _ rfl
          have y3 := HS8.out.2.1.at 3 _ rfl
          have z0 := HS8.out.2.1.fz 0
          have z1 := HS8.out.2.1.fz 1
          have z2 := HS8.out.2.1.fz 2
          have z3 := HS8.out.2.1.fz 3
          unfold setN at HFR HFG
          go_wp2
          refine bodyPost_ret (res_c rfl _ _ (w.heap.size) 28 _ _ rfl HFR.out Try.underlying28 rfl (by kernel_rfl)) rfl ?_
          exact ⟨rfl, HFG.out.1, HFG.out.2⟩
        · have o1 : ((O : Int) == 0) = false := by simp; omega
          have o2 : ¬ (O : Int) = 0 := by omega
          have HS8 := (show Hid (Brow (w7.setCell ⟨g, 1, none⟩ (.bool false)) g [.string (tb le_), .bool false] 76 ∧ Brow (w7.setCell ⟨g, 1, none⟩ (.bool false)) w.heap.size [.string ⟨#[]⟩, .string ⟨#[]⟩, .int .i64 0, .int .i64 0] 28 ∧ Brow (w7.setCell ⟨g, 1, none⟩ (.bool false)) C [.string K, .string ⟨#[]⟩, .int .i64 (O : Int), .int .i64 (A : Int)] 28 ∧ Chg g w (w7.setCell ⟨g, 1, none⟩ (.bool false))) from ⟨HS7.out.1.set 1 _, HS7.out.2.1.far (by show g ≠ w.heap.size; omega), HS7.out.2.2.1.far (by show g ≠ C; omega), HS7.out.2.2.2.trans (Chg.set _ _ _ _)⟩)
          have g0 := HS7.out.1.at 0 _ rfl
          have g1 := HS7.out.1.at 1 _ rfl
          have gz := HS7.out.1.fz 1
          have x2 := HS7.out.2.2.1.at 2 _ rfl
          clear HS7
          go_upto_region 10 with fail
          generalize (w7.setCell ⟨g, 1, none⟩ (.bool false)) = w8 at *
          clear g0 g1 gz x2
          have HFR := (show Hid (Brow (setN w8 w.heap.size (.string K) (.string ⟨#[]⟩) (.int .i64 (O : Int)) (.int .i64 (A : Int))) w.heap.size [.string K, .string ⟨#[]⟩, .int .i64 (O : Int), .int .i64 (A : Int)] 28) from setN_row HS8.out.2.1 _ _ _ _)
          have HFG := (show Hid (Brow (setN w8 w.heap.size (.string K) (.string ⟨#[]⟩) (.int .i64 (O : Int)) (.int .i64 (A : Int))) g [.string (tb le_), .bool false] 76 ∧ Chg g w (setN w8 w.heap.size (.string K) (.string ⟨#[]⟩) (.int .i64 (O : Int)) (.int .i64 (A : Int)))) from ⟨setN_far HS8.out.1 (by omega) _ _ _ _, ((((HS8.out.2.2.2.setNew (Nat.le_refl _) 0 _).setNew (Nat.le_refl _) 1 _).setNew (Nat.le_refl _) 2 _).setNew (Nat.le_refl _) 3 _)⟩)
          have q0 := HS8.out.2.2.1.at 0 _ rfl
          have q1 := HS8.out.2.2.1.at 1 _ rfl
          have q2 := HS8.out.2.2.1.at 2 _ rfl
          have q3 := HS8.out.2.2.1.at 3 _ rfl
          have y0 := HS8.out.2.1.at 0 _ rfl
          have y1 := HS8.out.2.1.at 1 _ rfl
          have y2 := HS8.out.2.1.at 2 _ rfl
          have y3 := HS8.out.2.1.at 3 _ rfl
          have z0 := HS8.out.2.1.fz 0
          have z1 := HS8.out.2.1.fz 1
          have z2 := HS8.out.2.1.fz 2
          have z3 := HS8.out.2.1.fz 3
          unfold setN at HFR HFG
          go_wp2
          refine bodyPost_ret (res_c rfl _ _ (w.heap.size) 28 _ _ rfl HFR.out Try.underlying28 rfl (by kernel_rfl)) rfl ?_
          exact ⟨rfl, HFG.out.1, HFG.out.2⟩
    · have m1 : ((M : Int) == 1) = false := by simp; omega
      have m2 : ¬ (M : Int) = 0 := by omega
      have m3 : ¬ (M : Int) = 1 := by omega
      obtain ⟨rfl, rfl⟩ := HV2.out hM0 hM1
      clear HV0 HV1 HV2 HM HX HA HO
      obtain ⟨le_, be⟩ := sT
      unfold irow at *
      simp only at HS3 ⊢
      have HS8 := (show Hid (Brow (w3.setCell ⟨g, 1, none⟩ (.bool true)) g [.string (tb le_), .bool true] 76 ∧ Brow (w3.setCell ⟨g, 1, none⟩ (.bool true)) w.heap.size [.string ⟨#[]⟩, .string ⟨#[]⟩, .int .i64 0, .int .i64 0] 28 ∧ Brow (w3.setCell ⟨g, 1, none⟩ (.bool true)) C [.string K, .string ⟨#[]⟩, .int .i64 0, .int .i64 0] 28 ∧ Chg g w (w3.setCell ⟨g, 1, none⟩ (.bool true))) from ⟨HS3.out.1.set 1 _, HS3.out.2.1.far (by show g ≠ w.heap.size; omega), HS3.out.2.2.1.far (by show g ≠ C; omega), HS3.out.2.2.2.trans (Chg.set _ _ _ _)⟩)
      have g0 := HS3.out.1.at 0 _ rfl
      have g1 := HS3.out.1.at 1 _ rfl
      have gz := HS3.out.1.fz 1
      have x2 := HS3.out.2.2.1.at 2 _ rfl
      clear HS3
      go_upto_region 10 with fail
      generalize (w3.setCell ⟨g, 1, none⟩ (.bool true)) = w8 at *
      clear g0 g1 gz x2
      have HFR := (show Hid (Brow (setN w8 w.heap.size (.string K) (.string ⟨#[]⟩) (.int .i64 0) (.int .i64 0)) w.heap.size [.string K, .string ⟨#[]⟩, .int .i64 0, .int .i64 0] 28) from setN_row HS8.out.2.1 _ _ _ _)
      have HFG := (show Hid (Brow (setN w8 w.heap.size (.string K) (.string ⟨#[]⟩) (.int .i64 0) (.int .i64 0)) g [.string (tb le_), .bool true] 76 ∧ Chg g w (setN w8 w.heap.size (.string K) (.string ⟨#[]⟩) (.int .i64 0) (.int .i64 0))) from ⟨setN_far HS8.out.1 (by omega) _ _ _ _, ((((HS8.out.2.2.2.setNew (Nat.le_refl _) 0 _).setNew (Nat.le_refl _) 1 _).setNew (Nat.le_refl _) 2 _).setNew (Nat.le_refl _) 3 _)⟩)
      have q0 := HS8.out.2.2.1.at 0 _ rfl
      have q1 := HS8.out.2.2.1.at 1 _ rfl
      have q2 := HS8.out.2.2.1.at 2 _ rfl
      have q3 := HS8.out.2.2.1.at 3 _ rfl
      have y0 := HS8.out.2.1.at 0 _ rfl
      have y1 := HS8.out.2.1.at 1 _ rfl
      have y2 := HS8.out.2.1.at 2 _ rfl
      have y3 := HS8.out.2.1.at 3 _ rfl
      have z0 := HS8.out.2.1.fz 0
      have z1 := HS8.out.2.1.fz 1
      have z2 := HS8.out.2.1.fz 2
      have z3 := HS8.out.2.1.fz 3
      unfold setN at HFR HFG
      go_wp2
      refine bodyPost_ret (res_c rfl _ _ (w.heap.size) 28 _ _ rfl HFR.out Try.underlying28 rfl (by kernel_rfl)) rfl ?_
      exact ⟨rfl, HFG.out.1, HFG.out.2⟩
end Go.Proofs.Ytoinaplmgffkpaa
