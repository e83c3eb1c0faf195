/- Proved: how long the document's bytes of a branch are, and of any node that may be (stage 11). -/
import Derived.Test.YtoinaplmgffkpaaRBtL
import Derived.Deep.Cut
namespace Go.Proofs.Ytoinaplmgffkpaa
open Go.RowKit
open Sl (Cel Nod)
theorem page_nat {d : Int} (h : Sl.isPage d = true) : ∃ D : Nat, d = (D : Int) ∧ D ≤ 4294967295 := by
  unfold Sl.isPage at h
  rw [Bool.and_eq_true, decide_eq_true_eq, decide_eq_true_eq] at h
  exact ⟨d.toNat, by omega, by omega⟩
set_option maxHeartbeats 4000000 in
set_option maxRecDepth 20000 in
theorem rbytes_branch (n : Nod) (p : Pt) (w : World) (hN : Lies w n p) (hf : n.leaf = false) (hk : ∀ k ∈ n.keys, k.size ≤ 140) (hl : n.keys.length ≤ 255) (hkd : n.kids.length = n.keys.length + 1) (hd : ∀ d ∈ n.kids, Sl.isPage d = true) :
    Calls Try.prog 37 #[nv n p] w (Long w (sizeN n)) := by
  have HL : Hid (Lies w n p) := hN
  have HK := (show Hid (∀ k ∈ n.keys, k.size ≤ 140) from hk)
  have HD := (show Hid (∀ d ∈ n.kids, Sl.isPage d = true) from hd)
  have HLE := (show Hid (∀ k, sumN ((n.keys.take k).map fun x => 5 + x.size) ≤ 36975) from ksum_le hk hl)
  have HSN := (show Hid (sizeN n = 6 + sumN (n.keys.map fun x => 5 + x.size)) from by
    show sizeN n = _
    unfold sizeN headN sizes
    rw [hf]
    rfl)
  clear hN hk hd
  generalize sizeN n = Z at *
  obtain ⟨lf, cs, ks, ds⟩ := n
  obtain ⟨a1, c1, a2, c2, a3, c3⟩ := p
  simp only at hf hl HK HD HLE HSN hkd
  subst hf
  have hkd' : ds.length = ks.length + 1 := hkd
  have hdp : 0 < ds.length := by omega
  have hlc : ds.length ≤ 256 := by omega
  have HKD : Is ds.length (ks.length + 1) := ⟨hkd'⟩
  clear hkd hkd'
  obtain ⟨bd, fd, hab, hbw, hcd⟩ := HL.out.r3.intAt hdp
  simp only at hab
  subst hab
  have HCD := (show Hid (∀ i, i < ds.length → w.cell? ⟨bd, fd + i, none⟩ = some (.int .i64 (ds.getD i 0))) from hcd)
  clear hcd
  unfold nv
  simp only
  have hk256 : ks.length < 256 := by omega
  have i0 : (ks.length : Int) ≤ 255 := by omega
  have i1 : (ks.length : Int) % 256 = (ks.length : Int) := by omega
  have i2 : (0 : Int) < (ds.length : Int) := by omega
  have i3 : IntKind.u8.wrap (ks.length : Int) = (ks.length : Int) := by rw [IntKind.wrap_u8]; omega
  have HB0 : Hid (Below w.heap.size w (w.alloc (.cells #[.bool false, .slice a1 cs.length c1, .slice a2 ks.length c2, .slice (some ⟨bd, fd, none⟩) ds.length c3] 26))) := below_alloc _ _
  have HN0 : Hid (Brow (w.alloc (.cells #[.bool false, .slice a1 cs.length c1, .slice a2 ks.length c2, .slice (some ⟨bd, fd, none⟩) ds.length c3] 26)) w.heap.size [.bool false, .slice a1 cs.length c1, .slice a2 ks.length c2, .slice (some ⟨bd, fd, none⟩) ds.length c3] 26) := Brow.new w [.bool false, .slice a1 cs.length c1, .slice a2 ks.length c2, .slice (some ⟨bd, fd, none⟩) ds.length c3] 26
  have hs0 : w.heap.size + 1 ≤ (w.alloc (.cells #[.bool false, .slice a1 cs.length c1, .slice a2 ks.length c2, .slice (some ⟨bd, fd, none⟩) ds.length c3] 26)).heap.size := by rw [size_alloc1]; omega
  go_enter Try.func37, Try.ntmps37
  go_upto_region 11 with fail
  generalize (w.alloc (.cells #[.bool false, .slice a1 cs.length c1, .slice a2 ks.length c2, .slice (some ⟨bd, fd, none⟩) ds.length c3] 26)) = wI at *
  go_cut [6] from 57 (fun s6 wx => ∃ t : ByteArray, s6 = .string t ∧ t.size = 6 ∧ Below wI.heap.size wI wx)
  case first =>
    obtain ⟨D, hD0, hD⟩ := page_nat (HD.out _ (Sl.getD_mem ds 0 0 hdp))
    have hc0 := HCD.out 0 hdp
    rw [hD0, Nat.add_zero] at hc0
    have HS0 := (show Hid ((fun W : World => Brow W w.heap.size [.bool false, .slice a1 cs.length c1, .slice a2 ks.length c2, .slice (some ⟨bd, fd, none⟩) ds.length c3] 26 ∧ W.cell? ⟨bd, fd, none⟩ = some (.int .i64 (D : Int))) wI.drew) from ⟨HN0.out.drew, (HB0.out.drew.cell (p := ⟨bd, fd, none⟩) hbw).trans hc0⟩)
    have hbd : bd < wI.drew.heap.size := Nat.lt_of_lt_of_le hbw HB0.out.size
    have hsd : w.heap.size + 1 ≤ wI.drew.heap.size := hs0
    have HBd := (show Hid (Below wI.heap.size wI wI.drew) from (Below.refl _ _).drew)
    clear HL HK HD HLE HSN HN0 hc0 hD0 HCD HB0 hs0
    have hs0 := hsd
    have HB0 := HBd
    clear hsd HBd
    refine wp_region_held_drew (S := (fun W : World => Brow W w.heap.size [.bool false, .slice a1 cs.length c1, .slice a2 ks.length c2, .slice (some ⟨bd, fd, none⟩) ds.length c3] 26 ∧ W.cell? ⟨bd, fd, none⟩ = some (.int .i64 (D : Int)))) (by kernel_rfl) HS0.out (fun _ => ?_)
    generalize wI.drew = wd at *
    refine heldTake 0 (some 57) (.pointer (some ⟨w.heap.size, 2, none⟩)) rfl rfl (by kernel_rfl) (by kernel_rfl) (by kernel_rfl) (fun _ _ _ h => h) (Or.inl ⟨by rfl, fun w hS => ?_⟩) HS0.out ?_
    · (go_simp)
    simp only [Act.put, List.setIfInBounds_toArray, List.set_cons_zero, List.set_cons_succ]
    refine heldTake 1 (some 58) (.slice a2 ks.length c2) rfl rfl (by kernel_rfl) (by kernel_rfl) (by kernel_rfl) (fun _ _ _ h => h) (Or.inl ⟨by rfl, fun w hS => ?_⟩) HS0.out ?_
    · (have q := hS.1.at 2 _ rfl; go_simp)
    simp only [Act.put, List.setIfInBounds_toArray, List.set_cons_zero, List.set_cons_succ]
    refine heldTake 2 (some 59) (.int .i64 (ks.length : Int)) rfl rfl (by kernel_rfl) (by kernel_rfl) (by kernel_rfl) (fun _ _ _ h => h) (Or.inl ⟨by rfl, fun w hS => ?_⟩) HS0.out ?_
    · (go_simp)
    simp only [Act.put, List.setIfInBounds_toArray, List.set_cons_zero, List.set_cons_succ]
    refine heldTake 3 (some 60) (.int .u8 (ks.length : Int)) rfl rfl (by kernel_rfl) (by kernel_rfl) (by kernel_rfl) (fun _ _ _ h => h) (Or.inl ⟨by rfl, fun w hS => ?_⟩) HS0.out ?_
    · (go_simp)
    simp only [Act.put, List.setIfInBounds_toArray, List.set_cons_zero, List.set_cons_succ]
    refine heldTake 7 (some 64) (.pointer (some ⟨w.heap.size, 3, none⟩)) rfl rfl (by kernel_rfl) (by kernel_rfl) (by kernel_rfl) (fun _ _ _ h => h) (Or.inl ⟨by rfl, fun w hS => ?_⟩) HS0.out ?_
    · (go_simp)
    simp only [Act.put, List.setIfInBounds_toArray, List.set_cons_zero, List.set_cons_succ]
    refine heldTake 8 (some 65) (.slice (some ⟨bd, fd, none⟩) ds.length c3) rfl rfl (by kernel_rfl) (by kernel_rfl) (by kernel_rfl) (fun _ _ _ h => h) (Or.inl ⟨by rfl, fun w hS => ?_⟩) HS0.out ?_
    · (have q := hS.1.at 3 _ rfl; go_simp)
    simp only [Act.put, List.setIfInBounds_toArray, List.set_cons_zero, List.set_cons_succ]
    refine heldTake 9 (some 66) (.pointer (some ⟨bd, fd, none⟩)) rfl rfl (by kernel_rfl) (by kernel_rfl) (by kernel_rfl) (fun _ _ _ h => h) (Or.inl ⟨by rfl, fun w hS => ?_⟩) HS0.out ?_
    · (go_simp)
    simp only [Act.put, List.setIfInBounds_toArray, List.set_cons_zero, List.set_cons_succ]
    refine heldTake 10 (some 67) (.int .i64 (D : Int)) rfl rfl (by kernel_rfl) (by kernel_rfl) (by kernel_rfl) (fun _ _ _ h => h) (Or.inl ⟨by rfl, fun w hS => ?_⟩) HS0.out ?_
    · (have q := hS.2; go_simp)
    simp only [Act.put, List.setIfInBounds_toArray, List.set_cons_zero, List.set_cons_succ]
    refine heldTwo 4 11 (by kernel_rfl) rfl rfl (by rfl) (by rfl) (fun KK hK => ?_) (fun KK hK => ?_)
    · go_simp
      have HS1 := (show Hid ((fun W : World => (fun W : World => Brow W w.heap.size [.bool false, .slice a1 cs.length c1, .slice a2 ks.length c2, .slice (some ⟨bd, fd, none⟩) ds.length c3] 26 ∧ W.cell? ⟨bd, fd, none⟩ = some (.int .i64 (D : Int))) W ∧ Brow W wd.heap.size [.int .u8 (ks.length : Int)] 5) (wd.alloc (.cells #[.int .u8 (ks.length : Int)] 5))) from ⟨⟨HS0.out.1.alloc _, ((below_alloc wd _).cell (p := ⟨bd, fd, none⟩) hbd).trans HS0.out.2⟩, Brow.new wd _ 5⟩)
      have HB1 := (show Hid (Below wI.heap.size wI (wd.alloc (.cells #[.int .u8 (ks.length : Int)] 5))) from HB0.out.alloc HB0.out.size _)
      have hs1 : w.heap.size + 1 ≤ (wd.alloc (.cells #[.int .u8 (ks.length : Int)] 5)).heap.size := by rw [size_alloc1]; omega
      have hbd1 : bd < (wd.alloc (.cells #[.int .u8 (ks.length : Int)] 5)).heap.size := by rw [size_alloc1]; omega
      have hX : wd.heap.size < (wd.alloc (.cells #[.int .u8 (ks.length : Int)] 5)).heap.size := HS1.out.2.lt
      clear HS0 HB0
      refine hK.out _ _ HS1.out.1 ?_
      clear hK KK
      try simp only [Act.put, List.setIfInBounds_toArray, List.set_cons_zero, List.set_cons_succ]
      generalize (wd.alloc (.cells #[.int .u8 (ks.length : Int)] 5)) = w1 at *
      generalize wd.heap.size = X at *
      refine heldMono (S' := (fun W : World => (fun W : World => Brow W w.heap.size [.bool false, .slice a1 cs.length c1, .slice a2 ks.length c2, .slice (some ⟨bd, fd, none⟩) ds.length c3] 26 ∧ W.cell? ⟨bd, fd, none⟩ = some (.int .i64 (D : Int))) W ∧ Brow W X [.int .u8 (ks.length : Int)] 5)) (fun _ h => h.1) _ _ _ _ ?_
      refine heldTake 5 (some 62) (.string (tb [ks.length])) rfl rfl (by kernel_rfl) (by kernel_rfl) (by kernel_rfl) (fun _ _ _ h => h) (Or.inl ⟨by rfl, fun w hS => ?_⟩) HS1.out ?_
      · (have q := conv_one hS.2 hk256; go_simp)
      simp only [Act.put, List.setIfInBounds_toArray, List.set_cons_zero, List.set_cons_succ]
      have h9 : ¬ 9223372036854775807 < (⟨#[2]⟩ : ByteArray).size + (tb [ks.length]).size := by rw [tb_size, List.length_singleton]; decide
      have h8 : ¬ 9223372036854775807 < 1 + (tb [ks.length]).size := by rw [tb_size, List.length_singleton]; decide
      refine heldTake 6 (some 63) (.string (⟨#[2]⟩ ++ tb [ks.length])) rfl rfl (by kernel_rfl) (by kernel_rfl) (by kernel_rfl) (fun _ _ _ h => h) (Or.inl ⟨by rfl, fun w hS => ?_⟩) HS1.out ?_
      · (go_simp)
      simp only [Act.put, List.setIfInBounds_toArray, List.set_cons_zero, List.set_cons_succ]
      refine heldOne 11 (by kernel_rfl) rfl (by rfl) (fun KK hK => ?_)
      go_simp
      go_at_call 66
      refine ((rfour_any D w1 hD).mono (fun _ _ hx => hx.ex)).mono ?_
      rintro e w2 ⟨S1, rfl, hzS1, hB2⟩
      have HZS1 : Hid ((S1 : ByteArray).size = _) := hzS1
      have HS2 := (show Hid ((fun W : World => (fun W : World => Brow W w.heap.size [.bool false, .slice a1 cs.length c1, .slice a2 ks.length c2, .slice (some ⟨bd, fd, none⟩) ds.length c3] 26 ∧ W.cell? ⟨bd, fd, none⟩ = some (.int .i64 (D : Int))) W ∧ Brow W X [.int .u8 (ks.length : Int)] 5) w2) from ⟨⟨HS1.out.1.1.below hB2 (by omega), (hB2.cell (p := ⟨bd, fd, none⟩) hbd1).trans HS1.out.1.2⟩, HS1.out.2.below hB2 hX⟩)
      have HB2 := (show Hid (Below wI.heap.size wI w2) from HB1.out.trans (hB2.mono HB1.out.size))
      clear hB2 hzS1 HS1 HB1
      refine hK.out _ _ HS2.out ?_
      clear hK KK
      try simp only [Act.put, List.setIfInBounds_toArray, List.set_cons_zero, List.set_cons_succ]
      have z1 : ¬ 9223372036854775807 < (⟨#[2]⟩ ++ tb [ks.length] : ByteArray).size + S1.size := by rw [ByteArray.size_append, tb_size, HZS1.out, List.length_singleton]; decide
      have z2 : ¬ 9223372036854775807 < 1 + (tb [ks.length]).size + S1.size := by rw [tb_size, HZS1.out, List.length_singleton]; decide
      refine heldTake 12 (some 69) (.string (⟨#[2]⟩ ++ tb [ks.length] ++ S1)) rfl rfl (by kernel_rfl) (by kernel_rfl) (by kernel_rfl) (fun _ _ _ h => h) (Or.inl ⟨by rfl, fun w hS => ?_⟩) HS2.out ?_
      · (go_simp)
      simp only [Act.put, List.setIfInBounds_toArray, List.set_cons_zero, List.set_cons_succ]
      refine heldTake 13 (some 6) (.string (⟨#[2]⟩ ++ tb [ks.length] ++ S1)) rfl rfl (by kernel_rfl) (by kernel_rfl) (by kernel_rfl) (fun _ _ _ h => h) (Or.inl ⟨by rfl, fun w hS => ?_⟩) HS2.out ?_
      · (go_simp)
      simp only [Act.put, List.setIfInBounds_toArray, List.set_cons_zero, List.set_cons_succ]
      have HFZ' : (⟨#[2]⟩ ++ tb [ks.length] ++ S1 : ByteArray).size = 6 := by rw [ByteArray.size_append, ByteArray.size_append, tb_size, HZS1.out]; rfl
      have HFZ : Hid ((⟨#[2]⟩ ++ tb [ks.length] ++ S1 : ByteArray).size = 6) := HFZ'
      clear HFZ'
      refine wpAnyH_done (by kernel_rfl) ?_ _
      generalize (⟨#[2]⟩ ++ tb [ks.length] ++ S1 : ByteArray) = V at *
      clear z1 z2 h8 h9
      go_wp2_with fail
      go_meet
      case rel => exact ⟨V, rfl, HFZ.out, HB2.out⟩
    · go_simp
      go_at_call 66
      refine ((rfour_any D wd hD).mono (fun _ _ hx => hx.ex)).mono ?_
      rintro e w1 ⟨S1, rfl, hzS1, hB1⟩
      have HZS1 : Hid ((S1 : ByteArray).size = _) := hzS1
      have HS1 := (show Hid ((fun W : World => Brow W w.heap.size [.bool false, .slice a1 cs.length c1, .slice a2 ks.length c2, .slice (some ⟨bd, fd, none⟩) ds.length c3] 26 ∧ W.cell? ⟨bd, fd, none⟩ = some (.int .i64 (D : Int))) w1) from ⟨HS0.out.1.below hB1 (by omega), (hB1.cell (p := ⟨bd, fd, none⟩) hbd).trans HS0.out.2⟩)
      have HB1 := (show Hid (Below wI.heap.size wI w1) from HB0.out.trans (hB1.mono HB0.out.size))
      have hs1 : w.heap.size + 1 ≤ w1.heap.size := Nat.le_trans hs0 hB1.size
      have hbd1 : bd < w1.heap.size := Nat.lt_of_lt_of_le hbd hB1.size
      clear hB1 hzS1 HS0 HB0
      refine hK.out _ _ HS1.out ?_
      clear hK KK
      try simp only [Act.put, List.setIfInBounds_toArray, List.set_cons_zero, List.set_cons_succ]
      refine heldOne 4 (by kernel_rfl) rfl (by rfl) (fun KK hK => ?_)
      go_simp
      have HS2 := (show Hid ((fun W : World => (fun W : World => Brow W w.heap.size [.bool false, .slice a1 cs.length c1, .slice a2 ks.length c2, .slice (some ⟨bd, fd, none⟩) ds.length c3] 26 ∧ W.cell? ⟨bd, fd, none⟩ = some (.int .i64 (D : Int))) W ∧ Brow W w1.heap.size [.int .u8 (ks.length : Int)] 5) (w1.alloc (.cells #[.int .u8 (ks.length : Int)] 5))) from ⟨⟨HS1.out.1.alloc _, ((below_alloc w1 _).cell (p := ⟨bd, fd, none⟩) hbd1).trans HS1.out.2⟩, Brow.new w1 _ 5⟩)
      have HB2 := (show Hid (Below wI.heap.size wI (w1.alloc (.cells #[.int .u8 (ks.length : Int)] 5))) from HB1.out.alloc HB1.out.size _)
      clear HS1 HB1
      refine hK.out _ _ HS2.out.1 ?_
      clear hK KK
      try simp only [Act.put, List.setIfInBounds_toArray, List.set_cons_zero, List.set_cons_succ]
      generalize (w1.alloc (.cells #[.int .u8 (ks.length : Int)] 5)) = w2 at *
      generalize w1.heap.size = X at *
      refine heldMono (S' := (fun W : World => (fun W : World => Brow W w.heap.size [.bool false, .slice a1 cs.length c1, .slice a2 ks.length c2, .slice (some ⟨bd, fd, none⟩) ds.length c3] 26 ∧ W.cell? ⟨bd, fd, none⟩ = some (.int .i64 (D : Int))) W ∧ Brow W X [.int .u8 (ks.length : Int)] 5)) (fun _ h => h.1) _ _ _ _ ?_
      refine heldTake 5 (some 62) (.string (tb [ks.length])) rfl rfl (by kernel_rfl) (by kernel_rfl) (by kernel_rfl) (fun _ _ _ h => h) (Or.inl ⟨by rfl, fun w hS => ?_⟩) HS2.out ?_
      · (have q := conv_one hS.2 hk256; go_simp)
      simp only [Act.put, List.setIfInBounds_toArray, List.set_cons_zero, List.set_cons_succ]
      have h9 : ¬ 9223372036854775807 < (⟨#[2]⟩ : ByteArray).size + (tb [ks.length]).size := by rw [tb_size, List.length_singleton]; decide
      have h8 : ¬ 9223372036854775807 < 1 + (tb [ks.length]).size := by rw [tb_size, List.length_singleton]; decide
      refine heldTake 6 (some 63) (.string (⟨#[2]⟩ ++ tb [ks.length])) rfl rfl (by kernel_rfl) (by kernel_rfl) (by kernel_rfl) (fun _ _ _ h => h) (Or.inl ⟨by rfl, fun w hS => ?_⟩) HS2.out ?_
      · (go_simp)
      simp only [Act.put, List.setIfInBounds_toArray, List.set_cons_zero, List.set_cons_succ]
      have z1 : ¬ 9223372036854775807 < (⟨#[2]⟩ ++ tb [ks.length] : ByteArray).size + S1.size := by rw [ByteArray.size_append, tb_size, HZS1.out, List.length_singleton]; decide
      have z2 : ¬ 9223372036854775807 < 1 + (tb [ks.length]).size + S1.size := by rw [tb_size, HZS1.out, List.length_singleton]; decide
      refine heldTake 12 (some 69) (.string (⟨#[2]⟩ ++ tb [ks.length] ++ S1)) rfl rfl (by kernel_rfl) (by kernel_rfl) (by kernel_rfl) (fun _ _ _ h => h) (Or.inl ⟨by rfl, fun w hS => ?_⟩) HS2.out ?_
      · (go_simp)
      simp only [Act.put, List.setIfInBounds_toArray, List.set_cons_zero, List.set_cons_succ]
      refine heldTake 13 (some 6) (.string (⟨#[2]⟩ ++ tb [ks.length] ++ S1)) rfl rfl (by kernel_rfl) (by kernel_rfl) (by kernel_rfl) (fun _ _ _ h => h) (Or.inl ⟨by rfl, fun w hS => ?_⟩) HS2.out ?_
      · (go_simp)
      simp only [Act.put, List.setIfInBounds_toArray, List.set_cons_zero, List.set_cons_succ]
      have HFZ' : (⟨#[2]⟩ ++ tb [ks.length] ++ S1 : ByteArray).size = 6 := by rw [ByteArray.size_append, ByteArray.size_append, tb_size, HZS1.out]; rfl
      have HFZ : Hid ((⟨#[2]⟩ ++ tb [ks.length] ++ S1 : ByteArray).size = 6) := HFZ'
      clear HFZ'
      refine wpAnyH_done (by kernel_rfl) ?_ _
      generalize (⟨#[2]⟩ ++ tb [ks.length] ++ S1 : ByteArray) = V at *
      clear z1 z2 h8 h9
      go_wp2_with fail
      go_meet
      case rel => exact ⟨V, rfl, HFZ.out, HB2.out⟩
  case rest =>
    obtain ⟨t0, rfl, htz, hBc⟩ := hcut
    have HZ0 : Hid (t0.size = 6) := htz
    have HBc := (show Hid (Below w.heap.size w wc) from HB0.out.trans (hBc.mono (by omega)))
    have HNc := (show Hid (Brow wc w.heap.size [.bool false, .slice a1 cs.length c1, .slice a2 ks.length c2, .slice (some ⟨bd, fd, none⟩) ds.length c3] 26) from HN0.out.below hBc (by omega))
    have hsc : w.heap.size + 1 ≤ wc.heap.size := Nat.le_trans hs0 hBc.size
    clear htz hBc HB0 HN0 hs0
    generalize wc = wI at *
    have q0 := HNc.out.at 0 _ rfl
    have q1 := HNc.out.at 1 _ rfl
    have q2 := HNc.out.at 2 _ rfl
    have q3 := HNc.out.at 3 _ rfl
    go_wp2_with fail
    clear q0 q1 q2 q3
    go_loopw [6, 7] (fun s6 s7 wr => ∃ (k : Nat) (t : ByteArray), k ≤ ks.length ∧ s7 = .int .i64 (k : Int) ∧ s6 = .string t ∧ t.size = 6 + sumN ((ks.take k).map fun x => 5 + x.size) ∧ Below wI.heap.size wI wr) (fun _ s7 _ => ks.length - (intOf s7).toNat)
    case atStart => exact ⟨0, _, by omega, rfl, rfl, HZ0.out, Below.refl _ _⟩
    case round =>
      obtain ⟨k, t, hk, rfl, rfl, htz, hB⟩ := hrel
      have HTZ := (show Hid (t.size = 6 + sumN ((ks.take k).map fun x => 5 + x.size) ∧ sumN ((ks.take k).map fun x => 5 + x.size) ≤ 36975) from ⟨htz, HLE.out k⟩)
      have HBr := (show Hid (Below wI.heap.size wI wr) from hB)
      have HBW := (show Hid (Below w.heap.size w wr) from HBc.out.trans (hB.mono (by omega)))
      have HN := (show Hid (Brow wr w.heap.size [.bool false, .slice a1 cs.length c1, .slice a2 ks.length c2, .slice (some ⟨bd, fd, none⟩) ds.length c3] 26) from HNc.out.below hB (by omega))
      have hsr : wI.heap.size ≤ wr.heap.size := hB.size
      clear htz hB
      have q0 := HN.out.at 0 _ rfl
      have q1 := HN.out.at 1 _ rfl
      have q2 := HN.out.at 2 _ rfl
      have q3 := HN.out.at 3 _ rfl
      by_cases hlt : k < ks.length
      · obtain ⟨bk, fk, hab, hbk, hck⟩ := HL.out.r2.keyAt (Nat.lt_of_le_of_lt (Nat.zero_le _) hlt)
        simp only at hab
        subst hab
        obtain ⟨J, HJ⟩ : ∃ J, Is J (k + 1) := ⟨_, ⟨rfl⟩⟩
        have hJd : J < ds.length := by have := HJ.eq; have := HKD.eq; omega
        obtain ⟨D, hD0, hD⟩ := page_nat (HD.out _ (Sl.getD_mem ds J 0 hJd))
        have hc1 := (HBW.out.cell (p := ⟨bk, fk + k, none⟩) hbk).trans (hck k hlt)
        have hc2 := (HBW.out.cell (p := ⟨bd, fd + J, none⟩) hbw).trans (HCD.out J hJd)
        rw [hD0] at hc2
        have hxk : (ks.getD k ByteArray.empty).size ≤ 255 := by have := HK.out _ (Sl.getD_mem ks k ByteArray.empty hlt); omega
        have d1 : decide ((k : Int) < (ks.length : Int)) = true := decide_eq_true (by omega)
        have j1 : (k : Int) < (ks.length : Int) := by omega
        have j2 : (0 : Int) ≤ (k : Int) := by omega
        have j3 : (k : Int) + 1 = (J : Int) := by have := HJ.eq; omega
        have j4 : (J : Int) < (ds.length : Int) := by omega
        have j5 : (0 : Int) ≤ (J : Int) := by omega
        have j6 : IntKind.i64.wrap ((k : Int) + 1) = (J : Int) := by rw [IntKind.wrap_i64]; omega
        have j7 : IntKind.i64.wrap (J : Int) = (J : Int) := by rw [IntKind.wrap_i64]; omega
        have HNX' : sumN ((ks.take (k + 1)).map fun x => 5 + x.size) = sumN ((ks.take k).map fun x => 5 + x.size) + (5 + (ks.getD k ByteArray.empty).size) := by rw [Sl.take_map (fun x : ByteArray => 5 + x.size) ks k ByteArray.empty hlt, sumN_append]; simp [sumN]
        have HNX : Hid (sumN ((ks.take (k + 1)).map fun x => 5 + x.size) = sumN ((ks.take k).map fun x => 5 + x.size) + (5 + (ks.getD k ByteArray.empty).size)) := HNX'
        clear HNX' hck
        generalize ks.getD k ByteArray.empty = xk at *
        go_upto_region 15 with fail
        have HS0 := (show Hid ((fun W : World => Brow W w.heap.size [.bool false, .slice a1 cs.length c1, .slice (some ⟨bk, fk, none⟩) ks.length c2, .slice (some ⟨bd, fd, none⟩) ds.length c3] 26 ∧ W.cell? ⟨bk, fk + k, none⟩ = some (.string xk) ∧ W.cell? ⟨bd, fd + J, none⟩ = some (.int .i64 (D : Int))) wr.drew) from ⟨HN.out.drew, hc1, hc2⟩)
        have HB0 := (show Hid (Below wI.heap.size wI wr.drew) from HBr.out.drew)
        have hs0 : w.heap.size + 1 ≤ wr.drew.heap.size := Nat.le_trans hsc hsr
        have hbk0 : bk < wr.drew.heap.size := Nat.lt_of_lt_of_le hbk HBW.out.size
        have hbd0 : bd < wr.drew.heap.size := Nat.lt_of_lt_of_le hbw HBW.out.size
        clear HBr HBW HN q0 q1 q2 q3 hc1 hc2 hD0 HJ
        refine wp_region_held_drew (S := (fun W : World => Brow W w.heap.size [.bool false, .slice a1 cs.length c1, .slice (some ⟨bk, fk, none⟩) ks.length c2, .slice (some ⟨bd, fd, none⟩) ds.length c3] 26 ∧ W.cell? ⟨bk, fk + k, none⟩ = some (.string xk) ∧ W.cell? ⟨bd, fd + J, none⟩ = some (.int .i64 (D : Int)))) (by kernel_rfl) HS0.out (fun _ => ?_)
        generalize wr.drew = wd at *
        refine heldTake 0 (some 77) (.string t) rfl rfl (by kernel_rfl) (by kernel_rfl) (by kernel_rfl) (fun _ _ _ h => h) (Or.inl ⟨by rfl, fun w hS => ?_⟩) HS0.out ?_
        · (go_simp)
        simp only [Act.put, List.setIfInBounds_toArray, List.set_cons_zero, List.set_cons_succ]
        refine heldTake 1 (some 78) (.pointer (some ⟨w.heap.size, 2, none⟩)) rfl rfl (by kernel_rfl) (by kernel_rfl) (by kernel_rfl) (fun _ _ _ h => h) (Or.inl ⟨by rfl, fun w hS => ?_⟩) HS0.out ?_
        · (go_simp)
        simp only [Act.put, List.setIfInBounds_toArray, List.set_cons_zero, List.set_cons_succ]
        refine heldTake 2 (some 79) (.slice (some ⟨bk, fk, none⟩) ks.length c2) rfl rfl (by kernel_rfl) (by kernel_rfl) (by kernel_rfl) (fun _ _ _ h => h) (Or.inl ⟨by rfl, fun w hS => ?_⟩) HS0.out ?_
        · (have q := hS.1.at 2 _ rfl; go_simp)
        simp only [Act.put, List.setIfInBounds_toArray, List.set_cons_zero, List.set_cons_succ]
        refine heldTake 3 (some 80) (.int .i64 (k : Int)) rfl rfl (by kernel_rfl) (by kernel_rfl) (by kernel_rfl) (fun _ _ _ h => h) (Or.inl ⟨by rfl, fun w hS => ?_⟩) HS0.out ?_
        · (go_simp)
        simp only [Act.put, List.setIfInBounds_toArray, List.set_cons_zero, List.set_cons_succ]
        refine heldTake 4 (some 81) (.pointer (some ⟨bk, fk + k, none⟩)) rfl rfl (by kernel_rfl) (by kernel_rfl) (by kernel_rfl) (fun _ _ _ h => h) (Or.inl ⟨by rfl, fun w hS => ?_⟩) HS0.out ?_
        · (go_simp)
        simp only [Act.put, List.setIfInBounds_toArray, List.set_cons_zero, List.set_cons_succ]
        refine heldTake 5 (some 82) (.string xk) rfl rfl (by kernel_rfl) (by kernel_rfl) (by kernel_rfl) (fun _ _ _ h => h) (Or.inl ⟨by rfl, fun w hS => ?_⟩) HS0.out ?_
        · (have q := hS.2.1; go_simp)
        simp only [Act.put, List.setIfInBounds_toArray, List.set_cons_zero, List.set_cons_succ]
        refine heldTake 8 (some 85) (.pointer (some ⟨w.heap.size, 3, none⟩)) rfl rfl (by kernel_rfl) (by kernel_rfl) (by kernel_rfl) (fun _ _ _ h => h) (Or.inl ⟨by rfl, fun w hS => ?_⟩) HS0.out ?_
        · (go_simp)
        simp only [Act.put, List.setIfInBounds_toArray, List.set_cons_zero, List.set_cons_succ]
        refine heldTake 9 (some 86) (.slice (some ⟨bd, fd, none⟩) ds.length c3) rfl rfl (by kernel_rfl) (by kernel_rfl) (by kernel_rfl) (fun _ _ _ h => h) (Or.inl ⟨by rfl, fun w hS => ?_⟩) HS0.out ?_
        · (have q := hS.1.at 3 _ rfl; go_simp)
        simp only [Act.put, List.setIfInBounds_toArray, List.set_cons_zero, List.set_cons_succ]
        refine heldTake 10 (some 87) (.int .i64 (k : Int)) rfl rfl (by kernel_rfl) (by kernel_rfl) (by kernel_rfl) (fun _ _ _ h => h) (Or.inl ⟨by rfl, fun w hS => ?_⟩) HS0.out ?_
        · (go_simp)
        simp only [Act.put, List.setIfInBounds_toArray, List.set_cons_zero, List.set_cons_succ]
        refine heldTake 11 (some 88) (.int .i64 (J : Int)) rfl rfl (by kernel_rfl) (by kernel_rfl) (by kernel_rfl) (fun _ _ _ h => h) (Or.inl ⟨by rfl, fun w hS => ?_⟩) HS0.out ?_
        · (go_simp)
        simp only [Act.put, List.setIfInBounds_toArray, List.set_cons_zero, List.set_cons_succ]
        refine heldTake 12 (some 89) (.pointer (some ⟨bd, fd + J, none⟩)) rfl rfl (by kernel_rfl) (by kernel_rfl) (by kernel_rfl) (fun _ _ _ h => h) (Or.inl ⟨by rfl, fun w hS => ?_⟩) HS0.out ?_
        · (go_simp)
        simp only [Act.put, List.setIfInBounds_toArray, List.set_cons_zero, List.set_cons_succ]
        refine heldTake 13 (some 90) (.int .i64 (D : Int)) rfl rfl (by kernel_rfl) (by kernel_rfl) (by kernel_rfl) (fun _ _ _ h => h) (Or.inl ⟨by rfl, fun w hS => ?_⟩) HS0.out ?_
        · (have q := hS.2.2; go_simp)
        simp only [Act.put, List.setIfInBounds_toArray, List.set_cons_zero, List.set_cons_succ]
        refine heldOne 6 (by kernel_rfl) rfl (by rfl) (fun KK hK => ?_)
        go_simp
        go_at_call 65
        refine ((rtext_any xk wd hxk).mono (fun _ _ hx => hx.ex)).mono ?_
        rintro e w1 ⟨S1, rfl, hzS1, hB1⟩
        have HZS1 : Hid ((S1 : ByteArray).size = _) := hzS1
        have HS1 := (show Hid ((fun W : World => Brow W w.heap.size [.bool false, .slice a1 cs.length c1, .slice (some ⟨bk, fk, none⟩) ks.length c2, .slice (some ⟨bd, fd, none⟩) ds.length c3] 26 ∧ W.cell? ⟨bk, fk + k, none⟩ = some (.string xk) ∧ W.cell? ⟨bd, fd + J, none⟩ = some (.int .i64 (D : Int))) w1) from ⟨HS0.out.1.below hB1 (by omega), (hB1.cell (p := ⟨bk, fk + k, none⟩) hbk0).trans HS0.out.2.1, (hB1.cell (p := ⟨bd, fd + J, none⟩) hbd0).trans HS0.out.2.2⟩)
        have HB1 := (show Hid (Below wI.heap.size wI w1) from HB0.out.trans (hB1.mono HB0.out.size))
        have hs1 : w.heap.size + 1 ≤ w1.heap.size := Nat.le_trans hs0 hB1.size
        have hbk1 : bk < w1.heap.size := Nat.lt_of_lt_of_le hbk0 hB1.size
        have hbd1 : bd < w1.heap.size := Nat.lt_of_lt_of_le hbd0 hB1.size
        clear hB1 hzS1 HS0 HB0
        refine hK.out _ _ HS1.out ?_
        clear hK KK
        try simp only [Act.put, List.setIfInBounds_toArray, List.set_cons_zero, List.set_cons_succ]
        have z1 : ¬ 9223372036854775807 < t.size + S1.size := by have := HZS1.out; have := HTZ.out; omega
        refine heldTake 7 (some 84) (.string (t ++ S1)) rfl rfl (by kernel_rfl) (by kernel_rfl) (by kernel_rfl) (fun _ _ _ h => h) (Or.inl ⟨by rfl, fun w hS => ?_⟩) HS1.out ?_
        · (go_simp)
        simp only [Act.put, List.setIfInBounds_toArray, List.set_cons_zero, List.set_cons_succ]
        refine heldOne 14 (by kernel_rfl) rfl (by rfl) (fun KK hK => ?_)
        go_simp
        go_at_call 66
        refine ((rfour_any D w1 hD).mono (fun _ _ hx => hx.ex)).mono ?_
        rintro e w2 ⟨S2, rfl, hzS2, hB2⟩
        have HZS2 : Hid ((S2 : ByteArray).size = _) := hzS2
        have HS2 := (show Hid ((fun W : World => Brow W w.heap.size [.bool false, .slice a1 cs.length c1, .slice (some ⟨bk, fk, none⟩) ks.length c2, .slice (some ⟨bd, fd, none⟩) ds.length c3] 26 ∧ W.cell? ⟨bk, fk + k, none⟩ = some (.string xk) ∧ W.cell? ⟨bd, fd + J, none⟩ = some (.int .i64 (D : Int))) w2) from ⟨HS1.out.1.below hB2 (by omega), (hB2.cell (p := ⟨bk, fk + k, none⟩) hbk1).trans HS1.out.2.1, (hB2.cell (p := ⟨bd, fd + J, none⟩) hbd1).trans HS1.out.2.2⟩)
        have HB2 := (show Hid (Below wI.heap.size wI w2) from HB1.out.trans (hB2.mono HB1.out.size))
        clear hB2 hzS2 HS1 HB1
        refine hK.out _ _ HS2.out ?_
        clear hK KK
        try simp only [Act.put, List.setIfInBounds_toArray, List.set_cons_zero, List.set_cons_succ]
        have z2 : ¬ 9223372036854775807 < (t ++ S1).size + S2.size := by rw [ByteArray.size_append]; have := HZS1.out; have := HZS2.out; have := HTZ.out; omega
        have z3 : ¬ 9223372036854775807 < t.size + S1.size + S2.size := by have := HZS1.out; have := HZS2.out; have := HTZ.out; omega
        refine heldTake 15 (some 92) (.string (t ++ S1 ++ S2)) rfl rfl (by kernel_rfl) (by kernel_rfl) (by kernel_rfl) (fun _ _ _ h => h) (Or.inl ⟨by rfl, fun w hS => ?_⟩) HS2.out ?_
        · (go_simp)
        simp only [Act.put, List.setIfInBounds_toArray, List.set_cons_zero, List.set_cons_succ]
        refine heldTake 16 (some 6) (.string (t ++ S1 ++ S2)) rfl rfl (by kernel_rfl) (by kernel_rfl) (by kernel_rfl) (fun _ _ _ h => h) (Or.inl ⟨by rfl, fun w hS => ?_⟩) HS2.out ?_
        · (go_simp)
        simp only [Act.put, List.setIfInBounds_toArray, List.set_cons_zero, List.set_cons_succ]
        have HVZ' : (t ++ S1 ++ S2).size = t.size + (5 + xk.size) := by rw [ByteArray.size_append, ByteArray.size_append, HZS1.out, HZS2.out]; omega
        have HVZ : Hid ((t ++ S1 ++ S2).size = t.size + (5 + xk.size)) := HVZ'
        clear HVZ'
        clear z1 z2 z3 HZS1 HZS2
        generalize t ++ S1 ++ S2 = V at *
        generalize w2 = wE at *
        have HBE : Hid (Below wI.heap.size wI wE) := HB2.out
        clear HB2 HS2
        refine wpAnyH_done (by kernel_rfl) ?_ _
        have HREL := (show Hid (∃ (k' : Nat) (t' : ByteArray), k' ≤ ks.length ∧ Value.int .i64 ((k : Int) + 1) = .int .i64 (k' : Int) ∧ Value.string V = .string t' ∧ t'.size = 6 + sumN ((ks.take k').map fun x => 5 + x.size) ∧ Below wI.heap.size wI wE) from ⟨k + 1, V, by omega, by go_num, rfl, by
          have e1 := HVZ.out
          have e2 := HTZ.out.1
          have e3 := HNX.out
          omega, HBE.out⟩)
        clear HBE HVZ HTZ HNX
        go_wp2_with fail
        go_roundw
        case rel =>
          obtain ⟨k', t', h1, h2, h3, h4, h5⟩ := HREL.out
          exact ⟨k', t', h1, by rw [← j3]; exact h2, h3, h4, h5⟩
        case measure => (simp [intOf]) <;> omega
      · have hkl : ¬ (k : Int) < (ks.length : Int) := by omega
        have HFZ' : t.size = Z := by rw [HSN.out, HTZ.out.1, List.take_of_length_le (by omega)]
        have HFZ : Hid (t.size = Z) := HFZ'
        clear HFZ' HTZ HSN HBr HN
        go_wp2
        go_ret
        exact ⟨⟨t, rfl, HFZ.out, HBW.out⟩⟩
theorem rbytes_any (n : Nod) (p : Pt) (w : World) (hN : Lies w n p) (hm : Sl.may n = true) :
    Calls Try.prog 37 #[nv n p] w (Long w (sizeN n)) := by
  cases hf : n.leaf with
  | true => exact rbytes_leaf n p w hN hf (may_leaf hm hf).1 (may_leaf hm hf).2.1
  | false =>
    obtain ⟨h1, h2, _, _, h5, h6⟩ := may_branch hm hf
    exact rbytes_branch n p w hN hf (fun k hk => by
      have := h1 k hk
      unfold Sl.isKey at this
      rw [Bool.and_eq_true, decide_eq_true_eq, decide_eq_true_eq] at this
      exact this.2) h2 h5 h6
end Go.Proofs.Ytoinaplmgffkpaa
