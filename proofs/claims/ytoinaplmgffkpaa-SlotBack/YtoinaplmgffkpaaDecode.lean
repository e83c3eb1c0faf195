/- Proved: what slot's Decode answers (stage 11). -/
import Derived.Test.YtoinaplmgffkpaaDecN
import Derived.Test.YtoinaplmgffkpaaCheck
import Derived.Test.YtoinaplmgffkpaaFind
namespace Go.Proofs.Ytoinaplmgffkpaa
open Go.RowKit
open Sl (Cel Nod)
theorem cel_fit {s : In} (h : Ok8 s) : CelFit (celV s) := by
  have h1 := txtV_len h
  have h2 := txtV_len h.celT
  have h3 : numV (celT s) 4 < 4294967296 := h.celT.num 4
  have h4 : numV (cutS (celT s) 4) 4 < 4294967296 := (h.celT.cut 4).num 4
  refine ⟨?_, ?_, ?_, ?_⟩
  · show (tb (txtV s)).size ≤ _
    rw [tb_size]; omega
  · show (if celM s = 0 then tb (txtV (celT s)) else ⟨#[]⟩).size ≤ _
    split
    · rw [tb_size]; omega
    · exact Nat.zero_le _
  · show In64 (if celM s = 1 then (numV (cutS (celT s) 4) 4 : Int) else 0)
    unfold In64
    split <;> omega
  · show In64 (if celM s = 1 then (numV (celT s) 4 : Int) else 0)
    unfold In64
    split <;> omega
theorem cels_fit {s : In} (h : Ok8 s) : ∀ k, ∀ c ∈ celsV k s, CelFit c
  | 0, c, hc => by cases hc
  | k + 1, c, hc => by
    rw [celsV, List.mem_append, List.mem_singleton] at hc
    rcases hc with hc | rfl
    · exact cels_fit h k c hc
    · exact cel_fit (h.cels k)
theorem brK_fit {s : In} (h : Ok8 s) : ∀ k, ∀ x ∈ brK k s, x.size ≤ 140737488355328
  | 0, c, hc => by cases hc
  | k + 1, c, hc => by
    rw [brK, List.mem_append, List.mem_singleton] at hc
    rcases hc with hc | rfl
    · exact brK_fit h k c hc
    · have := txtV_len (h.br k)
      rw [tb_size]; omega
theorem brD_fit {s : In} (h : Ok8 s) : ∀ k, ∀ x ∈ brD k s, In64 x
  | 0, c, hc => by cases hc
  | k + 1, c, hc => by
    rw [brD, List.mem_append, List.mem_singleton] at hc
    rcases hc with hc | rfl
    · exact brD_fit h k c hc
    · have : numV (txtS (brS k s)) 4 < 4294967296 := (h.br k).txt.num 4
      unfold In64
      omega
theorem nd_fit {s : In} (h : Ok8 s) : Fit (ndV s) := by
  have hc : numV (cutS s 1) 1 < 256 := (h.cut 1).num 1
  unfold ndV
  split
  · refine ⟨cels_fit ((h.cut 1).cut 1) _, fun x hx => (by cases hx), fun x hx => (by cases hx), ?_, Nat.zero_le _, Nat.zero_le _⟩
    show (celsV (numV (cutS s 1) 1) (cutS (cutS s 1) 1)).length ≤ 1000
    rw [celsV_len]; omega
  · split
    · have hd : numV (cutS (cutS s 1) 1) 4 < 4294967296 := ((h.cut 1).cut 1).num 4
      refine ⟨fun x hx => (by cases hx), brK_fit (((h.cut 1).cut 1).cut 4) _, fun x hx => ?_, Nat.zero_le _, ?_, ?_⟩
      · rcases List.mem_append.1 hx with hx | hx
        · rw [List.mem_singleton.1 hx]
          unfold In64
          omega
        · exact brD_fit (((h.cut 1).cut 1).cut 4) _ x hx
      · show (brK (numV (cutS s 1) 1) (cutS (cutS (cutS s 1) 1) 4)).length ≤ 1000
        rw [brK_len]; omega
      · show ([(numV (cutS (cutS s 1) 1) 4 : Int)] ++ brD (numV (cutS s 1) 1) (cutS (cutS (cutS s 1) 1) 4)).length ≤ 1000
        rw [List.length_append, brD_len, List.length_singleton]; omega
    · exact ⟨fun x hx => (by cases hx), fun x hx => (by cases hx), fun x hx => (by cases hx), Nat.zero_le _, Nat.zero_le _, Nat.zero_le _⟩
structure DcPost (w : World) (s : In) (e : Ending) (w' : World) : Prop where
  ex : ∃ p, e = .returned (.tuple #[nv (decN s) p, .int .i64 (decE s)]) ∧ LiesF w' w.heap.size (decN s) p ∧ Below w.heap.size w w'
theorem dc_no {w : World} {s : In} (e : Ending) (w' : World) (h : decOk s = false) (he : e = .returned (.tuple #[nv Sl.nod0 ⟨none, 0, none, 0, none, 0⟩, .int .i64 5])) (hB : Below w.heap.size w w') : DcPost w s e w' :=
  ⟨⟨⟨none, 0, none, 0, none, 0⟩, by unfold decN decE; rw [h]; exact he, by unfold decN; rw [h]; exact lies0 _ _, hB⟩⟩
theorem dc_yes {w : World} {s : In} (e : Ending) (w' : World) (p : Pt) (h : decOk s = true) (he : e = .returned (.tuple #[nv (ndV s) p, .int .i64 0])) (hL : LiesF w' w.heap.size (ndV s) p) (hB : Below w.heap.size w w') : DcPost w s e w' :=
  ⟨⟨p, by unfold decN decE; rw [h]; exact he, by unfold decN; rw [h]; exact hL, hB⟩⟩
theorem tb_ne {l : List Nat} (h : ¬ l = []) : ¬ tb l = ⟨#[]⟩ := fun e => by
  have h1 := congrArg ByteArray.size e
  rw [tb_size] at h1
  exact h (List.eq_nil_of_length_eq_zero h1)
set_option maxHeartbeats 4000000 in
set_option maxRecDepth 20000 in
theorem dec_any (t : ByteArray) (w : World) (ht : t.size ≤ 1000) :
    Calls Try.prog 26 #[.string t] w (DcPost w ⟨bl t, false⟩) := by
  have hs : Ok8 ⟨bl t, false⟩ := ⟨bl_lt t, by show (bl t).length ≤ 1000; rw [bl_length]; exact ht⟩
  have hir : irow ⟨bl t, false⟩ = [.string t, .bool false] := by unfold irow; rw [tb_bl]
  have HND := fun (W : World) (h : Brow W (w.heap.size + 1) [.string t, .bool false] 76) => (nd_in (w.heap.size + 1) ⟨bl t, false⟩ W (by rw [hir]; exact h) hs).mono (fun _ _ hx => hx.ex)
  have HCK := fun (q : Pt) (W : World) (h : Lies W (ndV ⟨bl t, false⟩) q) => check_any (ndV ⟨bl t, false⟩) q W h (nd_fit hs)
  unfold checkE at HCK
  have HNO := (show Hid (∀ (e : Ending) (w' : World), decOk ⟨bl t, false⟩ = false → e = .returned (.tuple #[nv Sl.nod0 ⟨none, 0, none, 0, none, 0⟩, .int .i64 5]) → Below w.heap.size w w' → DcPost w ⟨bl t, false⟩ e w') from fun e w' h he hB => dc_no e w' h he hB)
  have HYE := (show Hid (∀ (e : Ending) (w' : World) (p : Pt), decOk ⟨bl t, false⟩ = true → e = .returned (.tuple #[nv (ndV ⟨bl t, false⟩) p, .int .i64 0]) → LiesF w' w.heap.size (ndV ⟨bl t, false⟩) p → Below w.heap.size w w' → DcPost w ⟨bl t, false⟩ e w') from fun e w' p h he hL hB => dc_yes e w' p h he hL hB)
  have HOK : Is (decOk ⟨bl t, false⟩) (!(ndS ⟨bl t, false⟩).bad && (decide ((ndS ⟨bl t, false⟩).l = []) && Sl.may (ndV ⟨bl t, false⟩))) := ⟨rfl⟩
  generalize decOk ⟨bl t, false⟩ = OK at *
  generalize Sl.may (ndV ⟨bl t, false⟩) = MY at *
  generalize ndV ⟨bl t, false⟩ = N at *
  generalize ndS ⟨bl t, false⟩ = S at *
  clear hs hir ht
  have HZ0 := (show Hid (Brow ((w.alloc (.cells #[.bool false, .slice none 0 0, .slice none 0 0, .slice none 0 0] 26)).alloc (.cells #[.string t, .bool false] 76)) w.heap.size [.bool false, .slice none 0 0, .slice none 0 0, .slice none 0 0] 26 ∧ Brow ((w.alloc (.cells #[.bool false, .slice none 0 0, .slice none 0 0, .slice none 0 0] 26)).alloc (.cells #[.string t, .bool false] 76)) (w.heap.size + 1) [.string t, .bool false] 76 ∧ Below w.heap.size w ((w.alloc (.cells #[.bool false, .slice none 0 0, .slice none 0 0, .slice none 0 0] 26)).alloc (.cells #[.string t, .bool false] 76))) from ⟨(Brow.new w _ 26).alloc _, by
    have := Brow.new (w.alloc (.cells #[.bool false, .slice none 0 0, .slice none 0 0, .slice none 0 0] 26)) [.string t, .bool false] 76
    rwa [size_alloc1] at this, (below_alloc _ _).alloc (by rw [size_alloc1]; omega) _⟩)
  have hz0 : ((w.alloc (.cells #[.bool false, .slice none 0 0, .slice none 0 0, .slice none 0 0] 26)).alloc (.cells #[.string t, .bool false] 76)).heap.size = w.heap.size + 2 := by rw [size_alloc1, size_alloc1]
  obtain ⟨nf, nc, nk, nd⟩ := N
  obtain ⟨sl, sb⟩ := S
  unfold nv irow at *
  simp only at HND HCK HYE HOK
  go_enter Try.func26, Try.ntmps26
  go_wp2_with fail
  refine (HND _ HZ0.out.2.1).mono ?_
  rintro e w1 ⟨⟨x1, y1, x2, y2, x3, y3⟩, rfl, hL1, hI1, hB1⟩
  have hz1 : w.heap.size + 2 ≤ w1.heap.size := by have := hB1.size; omega
  have HS2 := (show Hid (Brow (w1.alloc (.cells #[.bool nf, .slice x1 nc.length y1, .slice x2 nk.length y2, .slice x3 nd.length y3] 26)) (w.heap.size + 1) [.string (tb sl), .bool sb] 76 ∧ Brow (w1.alloc (.cells #[.bool nf, .slice x1 nc.length y1, .slice x2 nk.length y2, .slice x3 nd.length y3] 26)) w.heap.size [.bool false, .slice none 0 0, .slice none 0 0, .slice none 0 0] 26 ∧ Brow (w1.alloc (.cells #[.bool nf, .slice x1 nc.length y1, .slice x2 nk.length y2, .slice x3 nd.length y3] 26)) w1.heap.size [.bool nf, .slice x1 nc.length y1, .slice x2 nk.length y2, .slice x3 nd.length y3] 26 ∧ Below w.heap.size w (w1.alloc (.cells #[.bool nf, .slice x1 nc.length y1, .slice x2 nk.length y2, .slice x3 nd.length y3] 26)) ∧ LiesF (w1.alloc (.cells #[.bool nf, .slice x1 nc.length y1, .slice x2 nk.length y2, .slice x3 nd.length y3] 26)) (w.heap.size + 1) ⟨nf, nc, nk, nd⟩ ⟨x1, y1, x2, y2, x3, y3⟩) from ⟨hI1.alloc _, (hB1.brow HZ0.out.1 (by omega)).alloc _, Brow.new w1 _ 26, (HZ0.out.2.2.trans (hB1.below (by omega) (by omega))).alloc (by omega) _, (hL1.mono (by omega)).below (below_alloc _ _)⟩)
  have hs2 : w1.heap.size + 1 ≤ (w1.alloc (.cells #[.bool nf, .slice x1 nc.length y1, .slice x2 nk.length y2, .slice x3 nd.length y3] 26)).heap.size := by rw [size_alloc1]; omega
  clear hL1 hI1 hB1 HZ0 hz0 HND
  go_upto_region 3 with fail
  generalize (w1.alloc (.cells #[.bool nf, .slice x1 nc.length y1, .slice x2 nk.length y2, .slice x3 nd.length y3] 26)) = w2 at *
  generalize w1.heap.size = X at *
  have i0 := HS2.out.1.at 0 _ rfl
  have i1 := HS2.out.1.at 1 _ rfl
  cases sb with
  | true =>
    clear HYE HCK
    have HFR := (show Hid (Brow (setN w2 w.heap.size (.bool false) (.slice none 0 0) (.slice none 0 0) (.slice none 0 0)) w.heap.size [.bool false, .slice none 0 0, .slice none 0 0, .slice none 0 0] 26) from setN_row HS2.out.2.1 _ _ _ _)
    have HFB := (show Hid (Below w.heap.size w (setN w2 w.heap.size (.bool false) (.slice none 0 0) (.slice none 0 0) (.slice none 0 0))) from setN_below HS2.out.2.2.2.1 (Nat.le_refl _) _ _ _ _)
    have y_0 := HS2.out.2.1.at 0 _ rfl
    have y_1 := HS2.out.2.1.at 1 _ rfl
    have y_2 := HS2.out.2.1.at 2 _ rfl
    have y_3 := HS2.out.2.1.at 3 _ rfl
    have z_0 := HS2.out.2.1.fz 0
    have z_1 := HS2.out.2.1.fz 1
    have z_2 := HS2.out.2.1.fz 2
    have z_3 := HS2.out.2.1.fz 3
    unfold setN at HFR HFB
    go_wp2
    refine bodyPost_ret (res_ct rfl _ _ (w.heap.size) 26 _ _ rfl HFR.out Try.underlying26 rfl (by kernel_rfl)) rfl ?_
    exact HNO.out _ _ (HOK.eq.trans rfl) rfl HFB.out
  | false =>
    by_cases hl : sl = []
    · subst hl
      have HCK2 := HCK ⟨x1, y1, x2, y2, x3, y3⟩ w2 HS2.out.2.2.2.2.lies
      have i2 : w2.cell? ⟨w.heap.size + 1, 0, none⟩ = some (.string ⟨#[]⟩) := i0
      clear i0 HCK
      have q0 := HS2.out.2.2.1.at 0 _ rfl
      have q1 := HS2.out.2.2.1.at 1 _ rfl
      have q2 := HS2.out.2.2.1.at 2 _ rfl
      have q3 := HS2.out.2.2.1.at 3 _ rfl
      go_wp2_with fail
      refine HCK2.mono ?_
      rintro e w3 ⟨rfl, hB3⟩
      have HS3 := (show Hid (Brow w3 (w.heap.size + 1) [.string (tb []), .bool false] 76 ∧ Brow w3 w.heap.size [.bool false, .slice none 0 0, .slice none 0 0, .slice none 0 0] 26 ∧ Brow w3 X [.bool nf, .slice x1 nc.length y1, .slice x2 nk.length y2, .slice x3 nd.length y3] 26 ∧ Below w.heap.size w w3 ∧ LiesF w3 (w.heap.size + 1) ⟨nf, nc, nk, nd⟩ ⟨x1, y1, x2, y2, x3, y3⟩) from ⟨HS2.out.1.below hB3 (by omega), HS2.out.2.1.below hB3 (by omega), HS2.out.2.2.1.below hB3 (by omega), HS2.out.2.2.2.1.trans (hB3.mono (by omega)), HS2.out.2.2.2.2.below hB3⟩)
      have hs3 : X + 1 ≤ w3.heap.size := Nat.le_trans hs2 hB3.size
      clear hB3 HS2 HCK2 i1 i2 q0 q1 q2 q3 hs2
      cases MY with
      | false =>
        clear HYE
        simp only [Bool.false_eq_true, if_false]
        have HFR := (show Hid (Brow (setN w3 w.heap.size (.bool false) (.slice none 0 0) (.slice none 0 0) (.slice none 0 0)) w.heap.size [.bool false, .slice none 0 0, .slice none 0 0, .slice none 0 0] 26) from setN_row HS3.out.2.1 _ _ _ _)
        have HFB := (show Hid (Below w.heap.size w (setN w3 w.heap.size (.bool false) (.slice none 0 0) (.slice none 0 0) (.slice none 0 0))) from setN_below HS3.out.2.2.2.1 (Nat.le_refl _) _ _ _ _)
        have y_0 := HS3.out.2.1.at 0 _ rfl
        have y_1 := HS3.out.2.1.at 1 _ rfl
        have y_2 := HS3.out.2.1.at 2 _ rfl
        have y_3 := HS3.out.2.1.at 3 _ rfl
        have z_0 := HS3.out.2.1.fz 0
        have z_1 := HS3.out.2.1.fz 1
        have z_2 := HS3.out.2.1.fz 2
        have z_3 := HS3.out.2.1.fz 3
        unfold setN at HFR HFB
        go_wp2
        refine bodyPost_ret (res_ct rfl _ _ (w.heap.size) 26 _ _ rfl HFR.out Try.underlying26 rfl (by kernel_rfl)) rfl ?_
        exact HNO.out _ _ (HOK.eq.trans rfl) rfl HFB.out
      | true =>
        simp only [if_true]
        have HFR := (show Hid (Brow (setN w3 w.heap.size (.bool nf) (.slice x1 nc.length y1) (.slice x2 nk.length y2) (.slice x3 nd.length y3)) w.heap.size [.bool nf, .slice x1 nc.length y1, .slice x2 nk.length y2, .slice x3 nd.length y3] 26) from setN_row HS3.out.2.1 _ _ _ _)
        have HFB := (show Hid (Below w.heap.size w (setN w3 w.heap.size (.bool nf) (.slice x1 nc.length y1) (.slice x2 nk.length y2) (.slice x3 nd.length y3))) from setN_below HS3.out.2.2.2.1 (Nat.le_refl _) _ _ _ _)
        have HFL := (show Hid (LiesF (setN w3 w.heap.size (.bool nf) (.slice x1 nc.length y1) (.slice x2 nk.length y2) (.slice x3 nd.length y3)) w.heap.size ⟨nf, nc, nk, nd⟩ ⟨x1, y1, x2, y2, x3, y3⟩) from (setN_lies HS3.out.2.2.2.2 (by omega) _ _ _ _).mono (by omega))
        have q0 := HS3.out.2.2.1.at 0 _ rfl
        have q1 := HS3.out.2.2.1.at 1 _ rfl
        have q2 := HS3.out.2.2.1.at 2 _ rfl
        have q3 := HS3.out.2.2.1.at 3 _ rfl
        have y_0 := HS3.out.2.1.at 0 _ rfl
        have y_1 := HS3.out.2.1.at 1 _ rfl
        have y_2 := HS3.out.2.1.at 2 _ rfl
        have y_3 := HS3.out.2.1.at 3 _ rfl
        have z_0 := HS3.out.2.1.fz 0
        have z_1 := HS3.out.2.1.fz 1
        have z_2 := HS3.out.2.1.fz 2
        have z_3 := HS3.out.2.1.fz 3
        unfold setN at HFR HFB HFL
        go_wp2
        refine bodyPost_ret (res_ct rfl _ _ (w.heap.size) 26 _ _ rfl HFR.out Try.underlying26 rfl (by kernel_rfl)) rfl ?_
        exact HYE.out _ _ ⟨x1, y1, x2, y2, x3, y3⟩ (HOK.eq.trans rfl) rfl HFL.out HFB.out
    · have hne := tb_ne hl
      have HD : Is (decide (sl = [])) false := ⟨decide_eq_false hl⟩
      rw [HD.eq] at HOK
      have h3 : ¬ (tb sl).toList = [] := fun e => hne (Sl.ba_ext (by rw [← ByteArray.toList_eq]; exact e))
      clear HYE HCK HD hl
      generalize tb sl = S0 at *
      have HFR := (show Hid (Brow (setN w2 w.heap.size (.bool false) (.slice none 0 0) (.slice none 0 0) (.slice none 0 0)) w.heap.size [.bool false, .slice none 0 0, .slice none 0 0, .slice none 0 0] 26) from setN_row HS2.out.2.1 _ _ _ _)
      have HFB := (show Hid (Below w.heap.size w (setN w2 w.heap.size (.bool false) (.slice none 0 0) (.slice none 0 0) (.slice none 0 0))) from setN_below HS2.out.2.2.2.1 (Nat.le_refl _) _ _ _ _)
      have y_0 := HS2.out.2.1.at 0 _ rfl
      have y_1 := HS2.out.2.1.at 1 _ rfl
      have y_2 := HS2.out.2.1.at 2 _ rfl
      have y_3 := HS2.out.2.1.at 3 _ rfl
      have z_0 := HS2.out.2.1.fz 0
      have z_1 := HS2.out.2.1.fz 1
      have z_2 := HS2.out.2.1.fz 2
      have z_3 := HS2.out.2.1.fz 3
      unfold setN at HFR HFB
      go_wp2
      refine bodyPost_ret (res_ct rfl _ _ (w.heap.size) 26 _ _ rfl HFR.out Try.underlying26 rfl (by kernel_rfl)) rfl ?_
      exact HNO.out _ _ (HOK.eq.trans rfl) rfl HFB.out
end Go.Proofs.Ytoinaplmgffkpaa
