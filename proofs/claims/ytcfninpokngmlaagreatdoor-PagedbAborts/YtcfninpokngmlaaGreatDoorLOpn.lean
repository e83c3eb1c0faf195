/- Proved: where Open refuses; PagedbOpens' walk. -/
import Derived.Test.YtcfninpokngmlaaGreatDoorDNob
import Derived.Test.YtcfninpokngmlaaGreatDoorDFrame
namespace Go.Proofs.YtcfninpokngmlaaGreatDoor
open Go.RowKit
set_option maxHeartbeats 400000 in
theorem wopen_no (b n : Int) (w : World) : Calls Tryz.prog 54 #[.pointer none, .int .i64 b, .int .i64 n] w fun e w' => e = .returned (.tuple #[.pointer none, .int .i64 1]) ∧ w' = w := by
  have HM := size_no (.pointer none) w (.inl rfl)
  go_enter Tryz.func54, Tryz.ntmps54
  go_wp2_with (go_at_call 55; refine HM.mono ?_; rintro e w' ⟨rfl, rfl⟩)
  go_ret2
  exact ⟨rfl, rfl⟩
set_option maxHeartbeats 400000 in
theorem wopen_down (g kg : Nat) (vp : Value) (s : Sc.St) (b n : Int) (w : World) (hD : Dk w g kg vp s) (hd : s.down = true) : Calls Tryz.prog 54 #[ptr g, .int .i64 b, .int .i64 n] w fun e w' => e = .returned (.tuple #[.pointer none, .int .i64 10]) ∧ w' = w := by
  have HM := size_any g kg vp s w hD
  have HW := down_any g kg vp s w hD
  have h1 := hD.ok.one
  rw [hd] at HW
  have d0 : ¬ ((s.kept.length : Int) = 0) := by omega
  clear hD hd
  unfold ptr at *
  go_enter Tryz.func54, Tryz.ntmps54
  go_wp2_with (first | (go_at_call 55; refine HM.mono ?_; rintro e w' ⟨rfl, rfl⟩) | (go_at_call 37; refine HW.mono ?_; rintro e w' ⟨rfl, rfl⟩))
  go_ret2
  exact ⟨rfl, rfl⟩
set_option maxHeartbeats 400000 in
theorem wopen_arg (g kg : Nat) (vp : Value) (s : Sc.St) (n : Int) (w : World) (hD : Dk w g kg vp s) (hd : s.down = false) (hn : n < 2 ∨ (s.kept.length : Int) < n) : Calls Tryz.prog 54 #[ptr g, .int .i64 0, .int .i64 n] w fun e w' => e = .returned (.tuple #[.pointer none, .int .i64 2]) ∧ w' = w := by
  have HM := size_any g kg vp s w hD
  have HW := down_any g kg vp s w hD
  have h1 := hD.ok.one
  rw [hd] at HW
  have d0 : ¬ ((s.kept.length : Int) = 0) := by omega
  clear hD hd
  unfold ptr at *
  by_cases h2 : n < 2
  · have d1 : decide (n < 2) = true := decide_eq_true h2
    go_enter Tryz.func54, Tryz.ntmps54
    go_wp2_with (first | (go_at_call 55; refine HM.mono ?_; rintro e w' ⟨rfl, rfl⟩) | (go_at_call 37; refine HW.mono ?_; rintro e w' ⟨rfl, rfl⟩))
    go_ret2
    exact ⟨rfl, rfl⟩
  · have d1 : decide (n < 2) = false := decide_eq_false h2
    have d2 : decide ((s.kept.length : Int) < n) = true := decide_eq_true (by omega)
    go_enter Tryz.func54, Tryz.ntmps54
    go_wp2_with (first | (go_at_call 55; refine HM.mono ?_; rintro e w' ⟨rfl, rfl⟩) | (go_at_call 37; refine HW.mono ?_; rintro e w' ⟨rfl, rfl⟩))
    go_ret2
    exact ⟨rfl, rfl⟩
set_option maxHeartbeats 400000 in
theorem dopen_ref (v : Value) (n E : Int) (w : World) (hE : E ≠ 0) (h : Calls Tryz.prog 54 #[v, .int .i64 0, .int .i64 n] w fun e w' => e = .returned (.tuple #[.pointer none, .int .i64 E]) ∧ w' = w) : Calls Tryz.prog 23 #[v, .int .i64 n] w fun e w' => e = .returned (.tuple #[.pointer none, .int .i64 E]) ∧ w' = w := by
  go_enter Tryz.func23, Tryz.ntmps23
  go_wp2_with (go_at_call 54; refine h.mono ?_; rintro e w' ⟨rfl, rfl⟩)
  go_ret2
  exact ⟨rfl, rfl⟩
set_option maxHeartbeats 4000000 in
set_option maxRecDepth 20000 in
theorem dopen_few (g kg N n : Nat) (w : World) (hD : Dk w g kg nil0 (Sc.made N)) (hT : Tab w) (h2 : 2 ≤ n) (hn : n ≤ N) (h4 : (N - n) / 8 < 4) :
    Calls Tryz.prog 23 #[ptr g, .int .i64 (n : Int)] w fun e w' => e = .returned (.tuple #[.pointer none, .int .i64 2]) ∧ Below w.heap.size w w' := by
  have hmo := hD.ok.most
  have hlen : (Sc.made N).kept.length = N := List.length_replicate
  rw [hlen] at hmo
  have HWO : Hid (Calls Tryz.prog 54 #[.pointer (some ⟨g, 0, none⟩), .int .i64 0, .int .i64 (n : Int)] w fun r w' => ∃ q vr, r = .returned (.tuple #[ptr q, .int .i64 0]) ∧ LP w' q g vr nil0 (opened 0 n 0 []) kg nil0 (Sc.made N) ∧ Below w.heap.size w w' ∧ ∀ k ∈ pfoot q vr nil0, w.heap.size ≤ k) := open_any g kg nil0 (Sc.made N) 0 n 0 [] w hD rfl hT (by intro r hr; cases hr) (made_on N 0 n h2 (by omega))
  have hq1 : IntKind.i64.wrap ((N : Int) - (n : Int)) = ((N - n : Nat) : Int) := by rw [IntKind.wrap_i64]; omega
  obtain ⟨cnt, hcn⟩ : ∃ c : Nat, c = (N - n) / 8 := ⟨_, rfl⟩
  have hq2 : ((N - n : Nat) : Int).tdiv 8 = (cnt : Int) := by
    rw [Int.tdiv_eq_ediv_of_nonneg (by omega)]
    omega
  have hq3 : ((N : Int) - (n : Int)).tdiv 8 = (cnt : Int) := by
    rw [Int.tdiv_eq_ediv_of_nonneg (by omega)]
    omega
  have hq4 : ((N - n : Nat) : Int) / 8 = (cnt : Int) := by omega
  have d4 : decide ((cnt : Int) < 4) = true := decide_eq_true (by omega)
  clear hD hT hcn
  unfold ptr
  go_enter Tryz.func23, Tryz.ntmps23
  go_wp2_with fail
  refine HWO.out.mono ?_
  rintro r w1 ⟨q, vr, rfl, hL1, hB1, hab⟩
  have HB1 : Hid (Below w.heap.size w w1) := hB1
  have HSI : Hid (Calls Tryz.prog 55 #[.pointer (some ⟨g, 0, none⟩)] w1 fun e w' => e = .returned (.int .i64 (N : Int)) ∧ w' = w1) := by
    have := size_any g kg nil0 (Sc.made N) w1 hL1.dk
    rw [hlen] at this
    exact this
  clear hL1 hB1 hab HWO
  unfold ptr
  go_wp2_with fail
  refine HSI.out.mono ?_
  rintro r wS ⟨rfl, hwS⟩
  rw [hwS]
  clear hwS wS HSI
  have HB2 : Hid (∀ o, Below w.heap.size w (w1.alloc o)) := fun o => HB1.out.alloc HB1.out.size o
  go_wp2
  go_ret2
  exact ⟨rfl, HB2.out _⟩
theorem mod_pos (n : Int) (m : Nat) (hm : 0 < m) : ∃ K : Nat, K < m ∧ (n.tmod m + m).tmod m = (K : Int) ∧ (n.tmod m + m) % m = (K : Int) ∧ -(m : Int) < n.tmod m ∧ n.tmod m < m := by
  have h1 := Int.tmod_lt_of_pos n (show (0 : Int) < m by omega)
  have h2 : -(m : Int) < n.tmod m := Int.lt_tmod_of_pos n (by omega)
  have h3 : (n.tmod m + m).tmod m = (n.tmod m + m) % m := Int.tmod_eq_emod_of_nonneg (by omega)
  have h4 := Int.emod_nonneg (n.tmod m + m) (show (m : Int) ≠ 0 by omega)
  have h5 := Int.emod_lt_of_pos (n.tmod m + m) (show (0 : Int) < m by omega)
  refine ⟨((n.tmod m + m) % m).toNat, ?_, ?_, ?_, h2, h1⟩
  · omega
  · rw [h3]; omega
  · omega
set_option maxHeartbeats 4000000 in
set_option maxRecDepth 20000 in
theorem opens_walk (sc lg : Int) (off : Bool) (w : World) (_ : In64 sc) (hl : In64 lg) (hT : Tab w) :
    Calls Tryz.prog 4 #[.int .i64 sc, .int .i64 lg, .bool off] w fun e w' => e = .returned (.bool true) ∧ Below w.heap.size w w' := by
  have HT : Hid (Tab w) := hT
  have hpos := hT.pos
  clear hT
  unfold In64 at hl
  obtain ⟨K, hK, e1, e2, b1, b2⟩ := mod_pos sc 100 (by omega)
  have e1 : (sc.tmod 100 + 100).tmod 100 = (K : Int) := e1
  have e2 : (sc.tmod 100 + 100) % 100 = (K : Int) := e2
  have b1 : -100 < sc.tmod 100 := b1
  have b2 : sc.tmod 100 < 100 := b2
  have hwr : IntKind.i64.wrap (sc.tmod 100 + 100) = sc.tmod 100 + 100 := by rw [IntKind.wrap_i64]; omega
  obtain ⟨N, hN⟩ : ∃ N : Nat, N = K + 1 := ⟨_, rfl⟩
  have hq : 1 + (K : Int) = (N : Int) := by omega
  have hN1 : 1 ≤ N := by omega
  have hN2 : N ≤ 100 := by omega
  clear hN hK
  have hlen : (Sc.made N).kept.length = N := List.length_replicate
  have HL : Hid ((Sc.made N).kept.length = N) := hlen
  clear hlen
  cases off with
  | true =>
    go_enter Tryz.func4, Tryz.ntmps4
    go_wp2_with fail
    refine (new_any N w hN1 (by omega)).mono ?_
    rintro e w0 ⟨g, kg, rfl, hD0, hB0, hg, hkg⟩
    have HB0 : Hid (Below w.heap.size w w0) := hB0
    have HF : Hid (∀ k ∈ foot g kg nil0, w.heap.size ≤ k) := fun k hk => by
      simp [foot, Value.ownBlock] at hk
      omega
    have HO := off_any g kg nil0 (Sc.made N) w0 hD0
    clear hD0 hB0 hg hkg
    go_wp2_with fail
    refine HO.mono ?_
    rintro e w1 ⟨vp, rfl, hD1, hT1⟩
    have HB1 : Hid (Below w.heap.size w w1) := HB0.out.trans (hT1.below HF.out HB0.out.size)
    have HP := dopen_ref (ptr g) lg 10 w1 (by decide) (wopen_down g kg vp _ 0 lg w1 hD1 rfl)
    clear hD1 hT1 HO HB0
    go_wp2_with fail
    refine (HP).mono ?_
    rintro e wS ⟨rfl, hwS⟩
    rw [hwS]
    clear hwS wS
    clear HP
    have HN := dopen_ref (.pointer none) lg 1 w1 (by decide) (wopen_no 0 lg w1)
    go_wp2_with fail
    refine (HN).mono ?_
    rintro e wS ⟨rfl, hwS⟩
    rw [hwS]
    clear hwS wS
    clear HN
    have HWK := works_any w1 (HT.out.below HB1.out hpos)
    have HSZ : Hid (w.heap.size ≤ w1.heap.size) := (HB1.out).size
    have HBX : Hid (Below w.heap.size w w1) := HB1.out
    go_wp2_with fail
    refine HWK.mono ?_
    rintro e w9 ⟨rfl, hB9⟩
    have HFN : Hid (Below w.heap.size w w9) := HBX.out.trans (hB9.mono HSZ.out)
    clear hB9 HWK
    go_wp2
    go_ret
    exact ⟨rfl, HFN.out⟩
  | false =>
    have hlg : lg < 2 ∨ (N : Int) < lg ∨ (2 ≤ lg ∧ lg ≤ (N : Int)) := by omega
    rcases hlg with hl2 | hlN | hok
    · have d1 : decide (lg < 2) = true := decide_eq_true hl2
      go_enter Tryz.func4, Tryz.ntmps4
      go_wp2_with fail
      refine (new_any N w hN1 (by omega)).mono ?_
      rintro e w0 ⟨g, kg, rfl, hD0, hB0, hg, hkg⟩
      have HB0 : Hid (Below w.heap.size w w0) := hB0
      have HP := dopen_ref (ptr g) lg 2 w0 (by decide) (wopen_arg g kg nil0 _ lg w0 hD0 rfl (.inl hl2))
      clear hD0 hB0 hg hkg
      go_wp2_with fail
      refine (HP).mono ?_
      rintro e wS ⟨rfl, hwS⟩
      rw [hwS]
      clear hwS wS
      clear HP
      have HN := dopen_ref (.pointer none) lg 1 w0 (by decide) (wopen_no 0 lg w0)
      go_wp2_with fail
      refine (HN).mono ?_
      rintro e wS ⟨rfl, hwS⟩
      rw [hwS]
      clear hwS wS
      clear HN
      have HWK := works_any w0 (HT.out.below HB0.out hpos)
      have HSZ : Hid (w.heap.size ≤ w0.heap.size) := (HB0.out).size
      have HBX : Hid (Below w.heap.size w w0) := HB0.out
      go_wp2_with fail
      refine HWK.mono ?_
      rintro e w9 ⟨rfl, hB9⟩
      have HFN : Hid (Below w.heap.size w w9) := HBX.out.trans (hB9.mono HSZ.out)
      clear hB9 HWK
      go_wp2
      go_ret
      exact ⟨rfl, HFN.out⟩
    · have d1 : decide (lg < 2) = false := decide_eq_false (by omega)
      have d2 : decide ((N : Int) < lg) = true := decide_eq_true hlN
      go_enter Tryz.func4, Tryz.ntmps4
      go_wp2_with fail
      refine (new_any N w hN1 (by omega)).mono ?_
      rintro e w0 ⟨g, kg, rfl, hD0, hB0, hg, hkg⟩
      have HB0 : Hid (Below w.heap.size w w0) := hB0
      have HP := dopen_ref (ptr g) lg 2 w0 (by decide) (wopen_arg g kg nil0 _ lg w0 hD0 rfl (.inr (by rw [HL.out]; exact hlN)))
      clear hD0 hB0 hg hkg
      go_wp2_with fail
      refine (HP).mono ?_
      rintro e wS ⟨rfl, hwS⟩
      rw [hwS]
      clear hwS wS
      clear HP
      have HN := dopen_ref (.pointer none) lg 1 w0 (by decide) (wopen_no 0 lg w0)
      go_wp2_with fail
      refine (HN).mono ?_
      rintro e wS ⟨rfl, hwS⟩
      rw [hwS]
      clear hwS wS
      clear HN
      have HWK := works_any w0 (HT.out.below HB0.out hpos)
      have HSZ : Hid (w.heap.size ≤ w0.heap.size) := (HB0.out).size
      have HBX : Hid (Below w.heap.size w w0) := HB0.out
      go_wp2_with fail
      refine HWK.mono ?_
      rintro e w9 ⟨rfl, hB9⟩
      have HFN : Hid (Below w.heap.size w w9) := HBX.out.trans (hB9.mono HSZ.out)
      clear hB9 HWK
      go_wp2
      go_ret
      exact ⟨rfl, HFN.out⟩
    · obtain ⟨n, rfl⟩ := Int.eq_ofNat_of_zero_le (show 0 ≤ lg by omega)
      have hn2 : 2 ≤ n := by omega
      have hnN : n ≤ N := by omega
      clear hok
      have d1 : decide ((n : Int) < 2) = false := decide_eq_false (by omega)
      have d2 : decide ((N : Int) < (n : Int)) = false := decide_eq_false (by omega)
      have hq1 : IntKind.i64.wrap ((N : Int) - (n : Int)) = ((N - n : Nat) : Int) := by rw [IntKind.wrap_i64]; omega
      obtain ⟨cnt, hcn⟩ : ∃ c : Nat, c = (N - n) / 8 := ⟨_, rfl⟩
      have HCN : Hid (cnt = (N - n) / 8) := hcn
      have hq2 : ((N - n : Nat) : Int).tdiv 8 = (cnt : Int) := by
        rw [Int.tdiv_eq_ediv_of_nonneg (by omega)]
        omega
      have hq3 : ((N : Int) - (n : Int)).tdiv 8 = (cnt : Int) := by
        rw [Int.tdiv_eq_ediv_of_nonneg (by omega)]
        omega
      have hq4 : ((N - n : Nat) : Int) / 8 = (cnt : Int) := by omega
      have hc1 : cnt ≤ 1000 := by omega
      clear hcn
      by_cases h4 : cnt < 4
      · have d4 : decide ((cnt : Int) < 4) = true := decide_eq_true (by omega)
        go_enter Tryz.func4, Tryz.ntmps4
        go_wp2_with fail
        refine (new_any N w hN1 (by omega)).mono ?_
        rintro e w0 ⟨g, kg, rfl, hD0, hB0, hg, hkg⟩
        have HB0 : Hid (Below w.heap.size w w0) := hB0
        have HP := dopen_few g kg N n w0 hD0 (HT.out.below hB0 hpos) hn2 hnN (by rw [← HCN.out]; exact h4)
        clear hD0 hB0 hg hkg
        go_wp2_with fail
        refine HP.mono ?_
        rintro e w1 ⟨rfl, hB1⟩
        have HB1 : Hid (Below w.heap.size w w1) := HB0.out.trans (hB1.mono HB0.out.size)
        clear hB1 HP HB0
        have HN := dopen_ref (.pointer none) (n : Int) 1 w1 (by decide) (wopen_no 0 (n : Int) w1)
        go_wp2_with fail
        refine (HN).mono ?_
        rintro e wS ⟨rfl, hwS⟩
        rw [hwS]
        clear hwS wS
        clear HN
        have HWK := works_any w1 (HT.out.below HB1.out hpos)
        have HSZ : Hid (w.heap.size ≤ w1.heap.size) := (HB1.out).size
        have HBX : Hid (Below w.heap.size w w1) := HB1.out
        go_wp2_with fail
        refine HWK.mono ?_
        rintro e w9 ⟨rfl, hB9⟩
        have HFN : Hid (Below w.heap.size w w9) := HBX.out.trans (hB9.mono HSZ.out)
        clear hB9 HWK
        go_wp2
        go_ret
        exact ⟨rfl, HFN.out⟩
      · have d4 : decide ((cnt : Int) < 4) = false := decide_eq_false (by omega)
        go_enter Tryz.func4, Tryz.ntmps4
        go_wp2_with fail
        refine (new_any N w hN1 (by omega)).mono ?_
        rintro e w0 ⟨g, kg, rfl, hD0, hB0, hg, hkg⟩
        have G0 : Hid (GK w w0 g kg nil0 (Sc.made N) n cnt 0 Pd.Ab.init) := made_gk g kg N n cnt hD0 HT.out hB0 hg hkg hn2 HCN.out hnN (by omega) hc1
        clear hD0 hB0 hg hkg
        go_wp2_with fail
        refine (gopen1 g kg nil0 (Sc.made N) n cnt G0.out (by omega) rfl).mono ?_
        rintro e w1 ⟨A1, d1', rfl, _, _, hG1, _, _, _, _, _⟩
        have HB1 : Hid (Below w.heap.size w w1) := hG1.bel
        clear hG1 G0
        have HN := dopen_ref (.pointer none) (n : Int) 1 w1 (by decide) (wopen_no 0 (n : Int) w1)
        go_wp2_with fail
        refine (HN).mono ?_
        rintro e wS ⟨rfl, hwS⟩
        rw [hwS]
        clear hwS wS
        clear HN
        have HWK := works_any w1 (HT.out.below HB1.out hpos)
        have HSZ : Hid (w.heap.size ≤ w1.heap.size) := (HB1.out).size
        have HBX : Hid (Below w.heap.size w w1) := HB1.out
        go_wp2_with fail
        refine HWK.mono ?_
        rintro e w9 ⟨rfl, hB9⟩
        have HFN : Hid (Below w.heap.size w w9) := HBX.out.trans (hB9.mono HSZ.out)
        clear hB9 HWK
        go_wp2
        go_ret
        exact ⟨rfl, HFN.out⟩
end Go.Proofs.YtcfninpokngmlaaGreatDoor
