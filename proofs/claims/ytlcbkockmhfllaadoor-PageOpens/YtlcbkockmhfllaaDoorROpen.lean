/- Proved: what the document's Open answers. -/
import Derived.Test.YtlcbkockmhfllaaDoorRSeal
namespace Go.Proofs.YtlcbkockmhfllaaDoor
open Go.RowKit
theorem put_tail {s : ByteArray} (h : s.size = 512) {n : Nat} (hn : n < 4294967296) : (Wl.put n 4 = s.extract 508 s.size) ↔ n = Wl.getL (Pg.tl4 s) := by
  have hl : (Pg.tl4 s).length = 4 := by unfold Pg.tl4; rw [List.length_drop, ← Sc.size_eq]; omega
  have e : (s.extract 508 s.size).data.toList = Pg.tl4 s := by
    rw [Wl.ext_ext, Sc.size_eq, List.take_length]; rfl
  constructor
  · intro h1
    have h2 : (Wl.put n 4).data.toList = Pg.tl4 s := by rw [h1, e]
    rw [← h2, Wl.put_list, Wl.getL_putL 4 n (by omega)]
  · intro h1
    apply Wl.ext_list
    rw [e, Wl.put_list, h1]
    have := Wl.putL_getL (Pg.tl4 s)
    rwa [hl] at this
theorem kd_byte {s : ByteArray} {c : UInt8} (h : s.data.toList[4]? = some c) : Pg.kd s = c.toNat := by
  unfold Pg.kd
  obtain ⟨h1, h2⟩ := List.getElem?_eq_some_iff.1 h
  rw [List.drop_eq_getElem_cons h1, h2]
  simp [Wl.getL]
theorem len_byte {s : ByteArray} {c d : UInt8} (h : s.data.toList[6]? = some c) (h' : s.data.toList[7]? = some d) : Pg.len s = c.toNat + 256 * d.toNat := by
  unfold Pg.len
  obtain ⟨h1, h2⟩ := List.getElem?_eq_some_iff.1 h
  obtain ⟨h3, h4⟩ := List.getElem?_eq_some_iff.1 h'
  rw [List.drop_eq_getElem_cons h1, h2, List.drop_eq_getElem_cons h3, h4]
  simp [Wl.getL]
set_option maxHeartbeats 1000000 in
theorem ropen_short (id : Int) (s : ByteArray) (w : World) (h : s.size ≠ 512) :
    Calls Tryd.prog 13 #[.int .i64 id, .string s] w fun e w' => e = .returned (.tuple #[.int .i64 0, .string ⟨#[]⟩, .int .i64 5]) ∧ w' = w := by
  have h1 : ((s.size : Int) != 512) = true := by rw [bne_iff_ne]; omega
  clear h
  go_enter Tryd.func13, Tryd.ntmps13
  go_wp2
  go_ret3
  exact ⟨rfl, rfl⟩
set_option maxHeartbeats 2000000 in
set_option maxRecDepth 20000 in
theorem ropen_yes (id : Int) (s : ByteArray) (w : World) (h : s.size = 512) :
    Calls Tryd.prog 13 #[.int .i64 id, .string s] w fun e w' => e = .returned (.tuple #[.int .i64 (Pg.openK id s), .string (Pg.openB id s), .int .i64 (Pg.openE id s)]) ∧ Below w.heap.size w w' := by
  have h1 : ((s.size : Int) != 512) = false := by rw [bne_eq_false_iff_eq]; omega
  have HS : Hid (s.size = 512) := h
  have hfs : (Pg.fr s).size = 508 := Pg.ext_size s 0 508 (by omega)
  obtain ⟨cap, w1, hcv, _, hby, hB1, hz1⟩ := bytes_of w.drew (Pg.fr s) (by omega)
  have HSM : Hid (Calls Tryd.prog 22 #[.slice (some ⟨w.drew.heap.size, 0, none⟩) (Pg.fr s).size cap] w1 fun e w' => e = .returned (.int .u32 (Crc.sum (Wl.nb (Pg.fr s)) : Nat)) ∧ w' = w1) := by
    rw [← rsum_eq]; exact rsum_any _ _ cap _ w1 (bytes_all hby)
  have HB1 : Hid (Below w.heap.size w w1) := (Below.refl _ w).drew.trans hB1
  have hsl := Pg.sum_lt (Pg.fr s)
  have HP : Hid (Calls Tryd.prog 21 #[.int .i64 (Crc.sum (Wl.nb (Pg.fr s)) : Nat), .int .i64 4] w1 fun e w' => e = .returned (.string (Wl.put (Crc.sum (Wl.nb (Pg.fr s))) 4)) ∧ Below w1.heap.size w1 w') := rput_any _ 4 w1 (by omega) (by omega)
  have HPT := put_tail h hsl
  have HE : Hid (∀ b c d, Pg.openE id s = d → Pg.openK id s = b → Pg.openB id s = c → (Ending.returned (.tuple #[.int .i64 b, .string c, .int .i64 d])) = .returned (.tuple #[.int .i64 (Pg.openK id s), .string (Pg.openB id s), .int .i64 (Pg.openE id s)])) := fun b c d h1 h2 h3 => by rw [h1, h2, h3]
  have HOE : Hid (Pg.openE id s = if Crc.sum (Wl.nb (Pg.fr s)) ≠ Wl.getL (Pg.tl4 s) then 6 else if 500 < Pg.len s then 5 else if Pg.sealE id (Pg.kd s) (Pg.body s) = 0 ∧ Pg.sealS id (Pg.kd s) (Pg.body s) = s then 0 else 5) := by
    show Pg.openE id s = _
    conv => lhs; unfold Pg.openE
    rw [if_neg (by rw [HS.out]; decide)]
  have HK : Hid (Pg.openK id s = if Pg.openE id s = 0 then ((Pg.kd s : Nat) : Int) else 0) := rfl
  have HBo : Hid (Pg.openB id s = if Pg.openE id s = 0 then Pg.body s else ⟨#[]⟩) := rfl
  have hsl2 := Sc.size_eq s
  obtain ⟨c4, hc4⟩ : ∃ c, s.data.toList[4]? = some c := ⟨_, List.getElem?_eq_getElem (by omega)⟩
  obtain ⟨c6, hc6⟩ : ∃ c, s.data.toList[6]? = some c := ⟨_, List.getElem?_eq_getElem (by omega)⟩
  obtain ⟨c7, hc7⟩ : ∃ c, s.data.toList[7]? = some c := ⟨_, List.getElem?_eq_getElem (by omega)⟩
  have b4 : ∀ h, (s[4]'h) = c4 := fun h => byte_at s 4 c4 hc4 h
  have b6 : ∀ h, (s[6]'h) = c6 := fun h => byte_at s 6 c6 hc6 h
  have b7 : ∀ h, (s[7]'h) = c7 := fun h => byte_at s 7 c7 hc7 h
  have HKD := kd_byte hc4
  have HLN := len_byte hc6 hc7
  have HBD : Hid (s.extract 8 (8 + Pg.len s) = Pg.body s) := rfl
  have HSE : Hid (∀ W, Calls Tryd.prog 10 #[.int .i64 id, .int .i64 (Pg.kd s : Nat), .string (Pg.body s)] W fun e w' => e = .returned (.tuple #[.string (Pg.sealS id (Pg.kd s) (Pg.body s)), .int .i64 (Pg.sealE id (Pg.kd s) (Pg.body s))]) ∧ Below W.heap.size W w') := fun W => rseal_any id _ _ W
  have z5 : (508 : Int) ≤ (s.size : Int) := by omega
  have z6 : (6 : Int) < (s.size : Int) := by omega
  have z7 : (7 : Int) < (s.size : Int) := by omega
  have z4 : (4 : Int) < (s.size : Int) := by omega
  have hc4l := c4.toNat_lt
  have hc6l := c6.toNat_lt
  have hc7l := c7.toNat_lt
  clear hby hB1 hz1 hfs hsl2 hc4 hc6 hc7 h
  have hfe : s.extract 0 508 = Pg.fr s := rfl
  have hln : (c6.toNat : Int) + 256 * (c7.toNat : Int) = ((Pg.len s : Nat) : Int) := by omega
  rw [HKD] at HOE HK HSE
  have hl5 := len_lt s
  clear HKD HLN
  generalize Pg.len s = ln at *
  generalize Pg.body s = bd at *
  generalize Crc.sum (Wl.nb (Pg.fr s)) = sm at *
  generalize Wl.put sm 4 = p4 at *
  generalize Wl.getL (Pg.tl4 s) = tn at *
  generalize Pg.fr s = fr at *
  obtain ⟨r, hr⟩ : ∃ r, (p4.toList == (s.extract 508 s.size).toList) = r := ⟨_, rfl⟩
  have hrt : r = decide (sm = tn) := by
    rw [← hr]
    by_cases e : sm = tn
    · rw [toList_beq (HPT.2 e), decide_eq_true e]
    · rw [toList_ne (fun h => e (HPT.1 h)), decide_eq_false e]
  have HRT : Hid (r = decide (sm = tn)) := hrt
  clear HPT hrt
  have m1 : (sm : Int) % 4294967296 = (sm : Int) := by omega
  go_enter Tryd.func13, Tryd.ntmps13
  go_wp2_with fail
  have HSS : Hid ((fun _ : World => True) w.drew) := trivial
  refine wp_region_held_drew (S := fun _ => True) (by kernel_rfl) HSS.out (fun _ => ?_)
  refine heldTake 0 (some 15) (.string s) rfl rfl (by kernel_rfl) (by kernel_rfl) (by kernel_rfl) (fun _ _ _ h => h) (Or.inl ⟨by rfl, fun w hS => ?_⟩) HSS.out ?_
  · (go_simp)
  simp only [Act.put, List.setIfInBounds_toArray, List.set_cons_zero, List.set_cons_succ]
  refine heldTake 1 (some 16) (.string fr) rfl rfl (by kernel_rfl) (by kernel_rfl) (by kernel_rfl) (fun _ _ _ h => h) (Or.inl ⟨by rfl, fun w hS => ?_⟩) HSS.out ?_
  · (go_simp)
  simp only [Act.put, List.setIfInBounds_toArray, List.set_cons_zero, List.set_cons_succ]
  refine heldTake 6 (some 21) (.string s) rfl rfl (by kernel_rfl) (by kernel_rfl) (by kernel_rfl) (fun _ _ _ h => h) (Or.inl ⟨by rfl, fun w hS => ?_⟩) HSS.out ?_
  · (go_simp)
  simp only [Act.put, List.setIfInBounds_toArray, List.set_cons_zero, List.set_cons_succ]
  refine heldTake 7 (some 22) (.string (s.extract 508 s.size)) rfl rfl (by kernel_rfl) (by kernel_rfl) (by kernel_rfl) (fun _ _ _ h => h) (Or.inl ⟨by rfl, fun w hS => ?_⟩) HSS.out ?_
  · (go_simp)
  simp only [Act.put, List.setIfInBounds_toArray, List.set_cons_zero, List.set_cons_succ]
  refine heldOne 2 (by kernel_rfl) rfl (by rfl) (fun KK hK => ?_)
  go_simp
  refine hK.out _ _ trivial ?_
  clear hK KK
  refine heldOne 3 (by kernel_rfl) rfl (by rfl) (fun KK hK => ?_)
  go_simp
  go_at_call 22
  refine HSM.out.mono ?_
  rintro e wS ⟨rfl, hwS⟩
  rw [hwS]
  clear hwS wS
  refine hK.out _ _ trivial ?_
  clear hK KK
  refine heldTake 4 (some 19) (.int .i64 (sm : Int)) rfl rfl (by kernel_rfl) (by kernel_rfl) (by kernel_rfl) (fun _ _ _ h => h) (Or.inl ⟨by rfl, fun w hS => ?_⟩) HSS.out ?_
  · (go_simp; rw [IntKind.wrap_i64]; omega)
  simp only [Act.put, List.setIfInBounds_toArray, List.set_cons_zero, List.set_cons_succ]
  refine heldOne 5 (by kernel_rfl) rfl (by rfl) (fun KK hK => ?_)
  go_simp
  go_at_call 21
  refine HP.out.mono ?_
  rintro e w2 ⟨rfl, hB2⟩
  have HB2 : Hid (Below w.heap.size w w2) := below_next HB1.out hB2 HB1.out.size
  refine hK.out _ _ trivial ?_
  clear hK KK hB2
  refine heldTake 8 (some 23) (.bool (!r)) rfl rfl (by kernel_rfl) (by kernel_rfl) (by kernel_rfl) (fun _ _ _ h => h) (Or.inl ⟨by rfl, fun w hS => ?_⟩) HSS.out ?_
  · (go_simp)
  simp only [Act.put, List.setIfInBounds_toArray, List.set_cons_zero, List.set_cons_succ]
  refine wpAnyH_done (by kernel_rfl) ?_ _
  clear hr HSM HP HB1 hcv
  cases r with
  | false =>
    have hne : sm ≠ tn := fun e => by have := HRT.out; rw [decide_eq_true e] at this; exact Bool.noConfusion this
    rw [if_pos hne] at HOE
    have hR := (show Hid _ from HE.out 0 ⟨#[]⟩ 6 HOE.out (by rw [HK.out, HOE.out]; rfl) (by rw [HBo.out, HOE.out]; rfl))
    clear hne HRT
    go_wp2
    go_ret3
    exact ⟨hR.out, HB2.out⟩
  | true =>
    have heq : sm = tn := of_decide_eq_true HRT.out.symm
    rw [if_neg (fun h => h heq)] at HOE
    clear heq HRT
    go_wp2_with fail
    go_quiet (fail)
    have HB3 : Hid (Below w.heap.size w (w2.drewN nq)) := drewN_below HB2.out nq
    generalize w2.drewN nq = w3 at *
    clear HB2
    by_cases h5 : 500 < ln
    · have d5 : decide ((500 : Int) < (ln : Int)) = true := decide_eq_true (by omega)
      rw [if_pos h5] at HOE
      have hR := (show Hid _ from HE.out 0 ⟨#[]⟩ 5 HOE.out (by rw [HK.out, HOE.out]; rfl) (by rw [HBo.out, HOE.out]; rfl))
      clear h5
      go_wp2
      go_ret3
      exact ⟨hR.out, HB3.out⟩
    · have d5 : decide ((500 : Int) < (ln : Int)) = false := decide_eq_false (by omega)
      rw [if_neg h5] at HOE
      have hbd := HBD.out
      have l2 : (8 : Int) + (ln : Int) ≤ (s.size : Int) := by have := HS.out; omega
      have l3 : (8 : Int) ≤ (8 : Int) + (ln : Int) := by omega
      have hln2 : ln ≤ 500 := by omega
      have htn : ((8 : Int) + (ln : Int)).toNat = 8 + ln := by omega
      clear h5
      generalize Pg.sealS id c4.toNat bd = ps at *
      generalize Pg.sealE id c4.toNat bd = pe at *
      go_wp2_with fail
      refine (HSE.out w3).mono ?_
      rintro e w7 ⟨rfl, hB7⟩
      have HB7 : Hid (Below w.heap.size w w7) := below_next HB3.out hB7 HB3.out.size
      clear hB7 HB3 HSE
      by_cases h6 : pe = 0
      · subst h6
        by_cases h7 : ps = s
        · have hb7 := toList_beq h7
          rw [if_pos ⟨rfl, h7⟩] at HOE
          have hR := (show Hid _ from HE.out c4.toNat bd 0 HOE.out (by rw [HK.out, HOE.out]; rfl) (by rw [HBo.out, HOE.out]; rfl))
          clear h7
          go_wp2
          go_ret3
          exact ⟨hR.out, HB7.out⟩
        · have hb7 := toList_ne h7
          rw [if_neg (fun h => h7 h.2)] at HOE
          have hR := (show Hid _ from HE.out 0 ⟨#[]⟩ 5 HOE.out (by rw [HK.out, HOE.out]; rfl) (by rw [HBo.out, HOE.out]; rfl))
          clear h7
          go_wp2
          go_ret3
          exact ⟨hR.out, HB7.out⟩
      · have hb6 : (pe != 0) = true := by rw [bne_iff_ne]; exact h6
        rw [if_neg (fun h => h6 h.1)] at HOE
        have hR := (show Hid _ from HE.out 0 ⟨#[]⟩ 5 HOE.out (by rw [HK.out, HOE.out]; rfl) (by rw [HBo.out, HOE.out]; rfl))
        clear h6
        go_wp2
        go_ret3
        exact ⟨hR.out, HB7.out⟩
theorem ropen_any (id : Int) (s : ByteArray) (w : World) :
    Calls Tryd.prog 13 #[.int .i64 id, .string s] w fun e w' => e = .returned (.tuple #[.int .i64 (Pg.openK id s), .string (Pg.openB id s), .int .i64 (Pg.openE id s)]) ∧ Below w.heap.size w w' := by
  by_cases h : s.size = 512
  · exact ropen_yes id s w h
  · have e := Pg.open_size (id := id) h
    have ek : Pg.openK id s = 0 := by unfold Pg.openK; rw [e]; rfl
    have eb : Pg.openB id s = ⟨#[]⟩ := by unfold Pg.openB; rw [e]; rfl
    rw [e, ek, eb]
    exact (ropen_short id s w h).mono fun e w' ⟨h1, h2⟩ => ⟨h1, by rw [h2]; exact Below.refl _ _⟩
end Go.Proofs.YtlcbkockmhfllaaDoor
