/- Proved: what page's Open answers for any number and any bytes. Condition: the table of the sums holds its sixteen numbers. -/
import Derived.Test.YtcfninpokngmlaaGreatDoorCut
namespace Go.Proofs.YtcfninpokngmlaaGreatDoor
open Go.RowKit
theorem toList_beq {a b : ByteArray} (h : a = b) : (a.toList == b.toList) = true := by rw [h]; exact beq_self_eq_true _
/- the pieces of a list of texts, one by one -/
theorem own_at {w : World} {N : Nat} {v : Value} {rs : List ByteArray} (h : OwnS w N v rs) (h0 : 0 < rs.length) : ∃ g cap, v = .slice (some ⟨g, 0, none⟩) rs.length cap ∧ ∀ i r, rs[i]? = some r → w.cell? ⟨g, i, none⟩ = some (.string r) := by
  obtain ⟨a, cap, hv, _, _, h3⟩ := own_strs h
  obtain ⟨g, rfl, _, hc⟩ := h3 h0
  exact ⟨g, cap, hv, hc⟩
theorem pg_tail_list (s : ByteArray) (h : s.size = 512) : (s.extract 508 512).data.toList = Pg.tl4 s := by
  rw [Wl.ext_ext]
  unfold Pg.tl4
  rw [List.take_of_length_le (by rw [← Sc.size_eq]; omega)]
theorem len_list (s : ByteArray) : Wl.getL (s.extract 6 8).data.toList = Pg.len s := by rw [Wl.ext_ext]; unfold Pg.len; rw [List.take_drop]
theorem kd_list (s : ByteArray) : Wl.getL (s.extract 4 5).data.toList = Pg.kd s := by rw [Wl.ext_ext]; unfold Pg.kd; rw [List.take_drop]
theorem kd_lt (s : ByteArray) : Pg.kd s < 256 := by
  unfold Pg.kd
  have := Wl.getL_lt ((s.data.toList.drop 4).take 1)
  have h2 : ((s.data.toList.drop 4).take 1).length ≤ 1 := by rw [List.length_take]; omega
  have h3 : 256 ^ ((s.data.toList.drop 4).take 1).length ≤ 256 ^ 1 := Nat.pow_le_pow_right (by omega) h2
  omega
theorem len_lt (s : ByteArray) : Pg.len s < 65536 := by
  unfold Pg.len
  have := Wl.getL_lt ((s.data.toList.drop 6).take 2)
  have h2 : ((s.data.toList.drop 6).take 2).length ≤ 2 := by rw [List.length_take]; omega
  have h3 : 256 ^ ((s.data.toList.drop 6).take 2).length ≤ 256 ^ 2 := Nat.pow_le_pow_right (by omega) h2
  omega
theorem drewN_below {N : Nat} {w w1 : World} (h : Below N w w1) (n : Nat) : Below N w (w1.drewN n) := ⟨h.os, h.tape, h.output, h.size, h.block⟩
set_option maxHeartbeats 1000000 in
theorem open_short (id : Int) (s : ByteArray) (w : World) (h : s.size ≠ 512) :
    Calls Tryz.prog 83 #[.int .i64 id, .string s] w fun e w' => e = .returned (.tuple #[.int .i64 0, .string ⟨#[]⟩, .int .i64 5]) ∧ w' = w := by
  have h1 : ((s.size : Int) != 512) = true := by rw [bne_iff_ne]; omega
  clear h
  go_enter Tryz.func83, Tryz.ntmps83
  go_wp2
  go_ret3
  exact ⟨rfl, rfl⟩
set_option maxHeartbeats 2000000 in
set_option maxRecDepth 20000 in
theorem open_yes (id : Int) (s : ByteArray) (w : World) (h : s.size = 512) (hT : Tab w) :
    Calls Tryz.prog 83 #[.int .i64 id, .string s] w fun e w' => e = .returned (.tuple #[.int .i64 (Pg.openK id s), .string (Pg.openB id s), .int .i64 (Pg.openE id s)]) ∧ Below w.heap.size w w' := by
  have h1 : ((s.size : Int) != 512) = false := by rw [bne_eq_false_iff_eq]; omega
  have HT : Hid (Tab w) := hT
  have hpos := hT.pos
  have HS : Hid (s.size = 512) := h
  have HB0 : Hid (Below w.heap.size w (w.alloc (.cells #[.int .i64 4] 3))) := (Below.refl _ _).alloc (Nat.le_refl _) _
  have HI0 : Hid (Ints (w.alloc (.cells #[.int .i64 4] 3)) (some ⟨w.heap.size, 0, none⟩) [4]) := .inr ⟨w.heap.size, 0, rfl, fun i x hx => by
    rw [cell_of_row _ _ _ _ _ _ (heap_alloc_new w _)]
    match i, hx with
    | 0, hx => simp at hx; subst hx; rfl
    | i + 1, hx => simp at hx⟩
  clear hT h
  go_enter Tryz.func83, Tryz.ntmps83
  go_wp2_with fail
  generalize World.alloc w _ = w0 at *
  refine (cut_any s 508 [4] _ 1 w0 (by have := HS.out; omega) (by omega) (by omega) (by simp) (by simp) HI0.out (by simp) (by omega)).mono ?_
  rintro e w1 ⟨v1, rfl, hO1, hB1⟩
  rw [Pg.cut_two HS.out] at hO1
  have HB1 : Hid (Below w.heap.size w w1) := below_next HB0.out hB1 HB0.out.size
  clear hB1 HB0 HI0
  obtain ⟨g1, cap1, rfl, hc1⟩ := own_at hO1 (by simp)
  have c10 : w1.cell? ⟨g1, 0, none⟩ = some (.string (Pg.fr s)) := hc1 0 _ rfl
  have c11 : w1.cell? ⟨g1, 1, none⟩ = some (.string (s.extract 508 512)) := hc1 1 _ rfl
  clear hc1 hO1
  have hts : (s.extract 508 512).size = 4 := Pg.ext_size s 508 512 (by have := HS.out; omega)
  have HN1 : Hid (∀ W, Calls Tryz.prog 115 #[.string (s.extract 508 512)] W fun e w' => e = .returned (.int .u32 (Wl.getL (Pg.tl4 s) : Nat)) ∧ w' = W) := fun W => by
    rw [← pg_tail_list s HS.out]; exact pg_number_any _ W (by omega)
  clear hts
  generalize s.extract 508 512 = t4 at *
  go_wp2_with fail
  go_quiet (first | (go_at_call 115; refine Calls.quiet_of_same (HN1.out _)))
  have HB2 : Hid (Below w.heap.size w (w1.drewN nq)) := drewN_below HB1.out nq
  generalize w1.drewN nq = w2 at *
  clear HB1 HN1
  have hfs : (Pg.fr s).size = 508 := Pg.ext_size s 0 508 (by have := HS.out; omega)
  obtain ⟨cap3, w3, hcv, hcap, hby, hB3, hsz3⟩ := bytes_of w2 (Pg.fr s) (by omega)
  have hbr := hby 0 (Pg.fr s).size (by omega)
  rw [List.drop_zero, Sc.size_eq, List.take_length, ← Sc.size_eq] at hbr
  change Bytes w3 _ (Pg.fr s).size (Wl.nb (Pg.fr s)) at hbr
  have HB3 : Hid (Below w.heap.size w w3) := below_next HB2.out hB3 HB2.out.size
  have HSM : Hid (Calls Tryz.prog 116 #[.slice (some ⟨w2.heap.size, 0, none⟩) (Pg.fr s).size cap3] w3 fun r w' => r = .returned (.int .u32 (Crc.sum (Wl.nb (Pg.fr s)) : Nat)) ∧ w' = w3) := sum_any _ _ cap3 _ w3 hbr (HT.out.below HB3.out hpos)
  clear hby hbr hB3 HB2 hfs hcap hsz3
  go_wp2_with fail
  refine HSM.out.mono ?_
  rintro e wS ⟨rfl, hwS⟩
  rw [hwS]
  clear hwS wS HSM hcv
  have HE : Hid (∀ b c d, Pg.openE id s = d → Pg.openK id s = b → Pg.openB id s = c → (Ending.returned (.tuple #[.int .i64 b, .string c, .int .i64 d])) = .returned (.tuple #[.int .i64 (Pg.openK id s), .string (Pg.openB id s), .int .i64 (Pg.openE id s)])) := fun b c d h1 h2 h3 => by rw [h1, h2, h3]
  have HOE : Hid (Pg.openE id s = if Crc.sum (Wl.nb (Pg.fr s)) ≠ Wl.getL (Pg.tl4 s) then 6 else if 500 < Pg.len s then 5 else if Pg.sealE id (Pg.kd s) (Pg.body s) = 0 ∧ Pg.sealS id (Pg.kd s) (Pg.body s) = s then 0 else 5) := by
    show Pg.openE id s = _
    conv => lhs; unfold Pg.openE
    rw [if_neg (by rw [HS.out]; decide)]
  have HF2 : Hid (Pg.cut (Pg.fr s) 4 [1, 1, 2, 500] = [s.extract 0 4, s.extract 4 5, s.extract 5 6, s.extract 6 8, s.extract 8 508]) := Pg.cut_five HS.out
  have hfs : (Pg.fr s).size = 508 := Pg.ext_size s 0 508 (by have := HS.out; omega)
  generalize Crc.sum (Wl.nb (Pg.fr s)) = sm at *
  generalize Wl.getL (Pg.tl4 s) = tn at *
  by_cases h2 : sm = tn
  · have b2 : ((sm : Int) != (tn : Int)) = false := by rw [bne_eq_false_iff_eq]; omega
    rw [if_neg (by rw [h2]; simp)] at HOE
    clear h2
    go_wp2_with fail
    have HB4 : Hid (Below w.heap.size w (w3.alloc (.cells #[.int .i64 1, .int .i64 1, .int .i64 2, .int .i64 500] 3))) := HB3.out.alloc HB3.out.size _
    have HI4 : Hid (Ints (w3.alloc (.cells #[.int .i64 1, .int .i64 1, .int .i64 2, .int .i64 500] 3)) (some ⟨w3.heap.size, 0, none⟩) [1, 1, 2, 500]) := .inr ⟨w3.heap.size, 0, rfl, fun i x hx => by
      rw [cell_of_row _ _ _ _ _ _ (heap_alloc_new w3 _)]
      match i, hx with
      | 0, hx => simp at hx; subst hx; rfl
      | 1, hx => simp at hx; subst hx; rfl
      | 2, hx => simp at hx; subst hx; rfl
      | 3, hx => simp at hx; subst hx; rfl
      | i + 4, hx => simp at hx⟩
    generalize World.alloc w3 _ = w4 at *
    refine (cut_any (Pg.fr s) 4 [1, 1, 2, 500] _ 4 w4 (by omega) (by omega) (by omega) (by simp) (by simp) HI4.out (by simp) (by omega)).mono ?_
    rintro e w5 ⟨v5, rfl, hO5, hB5⟩
    rw [HF2.out] at hO5
    have HB5 : Hid (Below w.heap.size w w5) := below_next HB4.out hB5 HB4.out.size
    clear hB5 HB4 HI4
    obtain ⟨g5, cap5, rfl, hc5⟩ := own_at hO5 (by simp)
    have c51 : w5.cell? ⟨g5, 1, none⟩ = some (.string (s.extract 4 5)) := hc5 1 _ rfl
    have c53 : w5.cell? ⟨g5, 3, none⟩ = some (.string (s.extract 6 8)) := hc5 3 _ rfl
    have c54 : w5.cell? ⟨g5, 4, none⟩ = some (.string (s.extract 8 508)) := hc5 4 _ rfl
    clear hc5 hO5
    have t1 : (s.extract 4 5).size = 1 := Pg.ext_size s 4 5 (by have := HS.out; omega)
    have t3 : (s.extract 6 8).size = 2 := Pg.ext_size s 6 8 (by have := HS.out; omega)
    have HN5 : Hid (∀ W, Calls Tryz.prog 115 #[.string (s.extract 4 5)] W fun e w' => e = .returned (.int .u32 (Pg.kd s : Nat)) ∧ w' = W) := fun W => by
      rw [← kd_list s]; exact pg_number_any _ W (by omega)
    have HN6 : Hid (∀ W, Calls Tryz.prog 115 #[.string (s.extract 6 8)] W fun e w' => e = .returned (.int .u32 (Pg.len s : Nat)) ∧ w' = W) := fun W => by
      rw [← len_list s]; exact pg_number_any _ W (by omega)
    have t4' : (s.extract 8 508).size = 500 := Pg.ext_size s 8 508 (by have := HS.out; omega)
    have hkl := kd_lt s
    have hll := len_lt s
    have HBD : Hid (Pg.len s ≤ 500 → (s.extract 8 508).extract 0 (Pg.len s) = Pg.body s) := fun hl => by
      rw [Pg.ext_ext2 _ _ _ _ _ (by have := HS.out; omega) (by omega)]; rfl
    have HSE : Hid (∀ W, Tab W → Calls Tryz.prog 117 #[.int .i64 id, .int .i64 (Pg.kd s : Nat), .string (Pg.body s)] W fun e w' => e = .returned (.tuple #[.string (Pg.sealS id (Pg.kd s) (Pg.body s)), .int .i64 (Pg.sealE id (Pg.kd s) (Pg.body s))]) ∧ Below W.heap.size W w') := fun W hW => seal_any id _ _ W hW
    have HK : Hid (Pg.openK id s = if Pg.openE id s = 0 then ((Pg.kd s : Nat) : Int) else 0) := rfl
    have HBo : Hid (Pg.openB id s = if Pg.openE id s = 0 then Pg.body s else ⟨#[]⟩) := rfl
    clear t1 t3
    generalize s.extract 4 5 = e1 at *
    generalize s.extract 6 8 = e3 at *
    generalize s.extract 8 508 = e4 at *
    generalize Pg.kd s = kd at *
    generalize Pg.len s = ln at *
    generalize Pg.body s = bd at *
    have m1 : (kd : Int) % 4294967296 = (kd : Int) := by omega
    go_wp2_with fail
    go_quiet (first | (go_at_call 115; refine Calls.quiet_of_same (HN5.out _)))
    have HB6 : Hid (Below w.heap.size w (w5.drewN nq)) := drewN_below HB5.out nq
    have c63 : (w5.drewN nq).cell? ⟨g5, 3, none⟩ = some (.string e3) := c53
    generalize w5.drewN nq = w6 at *
    clear HB5 HN5 c51 c53 c54
    go_wp2_with fail
    refine (HN6.out w6).mono ?_
    rintro e wS ⟨rfl, hwS⟩
    rw [hwS]
    clear hwS wS HN6
    by_cases h5 : 500 < ln
    · have d5 : decide ((500 : Int) < (ln : Int)) = true := decide_eq_true (by omega)
      rw [if_pos h5] at HOE
      have hR := (show Hid _ from HE.out 0 ⟨#[]⟩ 5 HOE.out (by rw [HK.out, HOE.out]; rfl) (by rw [HBo.out, HOE.out]; rfl))
      clear h5
      go_wp2
      go_ret3
      exact ⟨hR.out, HB6.out⟩
    · have d5 : decide ((500 : Int) < (ln : Int)) = false := decide_eq_false (by omega)
      have hbd := HBD.out (by omega)
      rw [if_neg h5] at HOE
      have l0 : (0 : Int) ≤ (ln : Int) := by omega
      have l1 : (ln : Int) ≤ (e4.size : Int) := by omega
      clear h5
      have hT6 := HT.out.below HB6.out hpos
      generalize Pg.sealS id kd bd = ps at *
      generalize Pg.sealE id kd bd = pe at *
      go_wp2_with fail
      refine (HSE.out w6 hT6).mono ?_
      rintro e w7 ⟨rfl, hB7⟩
      have HB7 : Hid (Below w.heap.size w w7) := below_next HB6.out hB7 HB6.out.size
      clear hB7 HB6 HSE hT6
      by_cases h6 : pe = 0
      · subst h6
        by_cases h7 : ps = s
        · have hb7 := toList_beq h7
          rw [if_pos ⟨rfl, h7⟩] at HOE
          have hR := (show Hid _ from HE.out kd bd 0 HOE.out (by rw [HK.out, HOE.out]; rfl) (by rw [HBo.out, HOE.out]; rfl))
          clear h7
          go_wp2
          go_ret3
          exact ⟨hR.out, HB7.out⟩
        · have hb7 := toList_ne h7
          rw [if_neg (fun h => h7 h.2)] at HOE
          have hR := (show Hid _ from HE.out 0 ⟨#[]⟩ 5 HOE.out (by rw [HK.out, HOE.out]; rfl) (by rw [HBo.out, HOE.out]; rfl))
          clear h7
          go_wp2
          go_ret3
          exact ⟨hR.out, HB7.out⟩
      · have hb6 : (pe != 0) = true := by rw [bne_iff_ne]; exact h6
        rw [if_neg (fun h => h6 h.1)] at HOE
        have hR := (show Hid _ from HE.out 0 ⟨#[]⟩ 5 HOE.out (by rw [HK.out, HOE.out]; rfl) (by rw [HBo.out, HOE.out]; rfl))
        clear h6
        go_wp2
        go_ret3
        exact ⟨hR.out, HB7.out⟩
  · have b2 : ((sm : Int) != (tn : Int)) = true := by rw [bne_iff_ne]; omega
    rw [if_pos h2] at HOE
    have hR := (show Hid _ from HE.out 0 ⟨#[]⟩ 6 HOE.out (by unfold Pg.openK; rw [HOE.out]; rfl) (by unfold Pg.openB; rw [HOE.out]; rfl))
    clear h2
    go_wp2
    go_ret3
    exact ⟨hR.out, HB3.out⟩
theorem pg_open_any (id : Int) (s : ByteArray) (w : World) (hT : Tab w) :
    Calls Tryz.prog 83 #[.int .i64 id, .string s] w fun e w' => e = .returned (.tuple #[.int .i64 (Pg.openK id s), .string (Pg.openB id s), .int .i64 (Pg.openE id s)]) ∧ Below w.heap.size w w' := by
  by_cases h : s.size = 512
  · exact open_yes id s w h hT
  · have e := Pg.open_size (id := id) h
    have ek : Pg.openK id s = 0 := by unfold Pg.openK; rw [e]; rfl
    have eb : Pg.openB id s = ⟨#[]⟩ := by unfold Pg.openB; rw [e]; rfl
    rw [e, ek, eb]
    exact (open_short id s w h).mono fun e w' ⟨h1, h2⟩ => ⟨h1, by rw [h2]; exact Below.refl _ _⟩
end Go.Proofs.YtcfninpokngmlaaGreatDoor
