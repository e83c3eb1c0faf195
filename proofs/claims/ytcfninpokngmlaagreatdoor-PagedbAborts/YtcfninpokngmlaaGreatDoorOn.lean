/- Proved: what On makes of a disk. -/
import Derived.Test.YtcfninpokngmlaaGreatDoorFlush
namespace Go.Proofs.YtcfninpokngmlaaGreatDoor
open Go.RowKit
/- a slice of bools that lies outside the blocks fs -/
def Bools (fs : List Nat) (w : World) (a : Option Addr) (len : Nat) (m : Nat → Bool) : Prop :=
  len = 0 ∨ ∃ b off, a = some ⟨b, off, none⟩ ∧ b ∉ fs ∧ ∀ i, i < len → w.cell? ⟨b, off + i, none⟩ = some (.bool (m i))
theorem Bools.keep {fs : List Nat} {w w' : World} {a : Option Addr} {len : Nat} {m : Nat → Bool} (h : Bools fs w a len m) (hc : Chg fs w w') : Bools fs w' a len m := by
  rcases h with h | ⟨b, off, h1, h2, h3⟩
  · exact .inl h
  · refine .inr ⟨b, off, h1, h2, fun i hi => ?_⟩
    have := h3 i hi
    rw [← this]
    exact World.cell?_of_block (hc.block b (block_lt_of_cell this) h2)
/- which writes are kept -/
def marks (len : Nat) (m : Nat → Bool) (i : Nat) : Bool := decide (i < len) && m i
set_option maxHeartbeats 4000000 in
set_option maxRecDepth 20000 in
theorem on_any (g kg : Nat) (v : Value) (s : Sc.St) (a : Option Addr) (len cp : Nat) (m : Nat → Bool) (w : World) (H : Dk w g kg v s) (hB : Bools (foot g kg v) w a len m) (hlen : len ≤ cp) (hcp : cp ≤ 9223372036854775807) :
    Calls Tryz.prog 38 #[ptr g, .slice a len cp] w (Does w g kg v (Sc.onS s (marks len m)) (Sc.onE s)) := by
  have HR := made_yes g kg v s w H
  have HH : Hid (Dk w g kg v s) := H
  have HBL : Hid (Bools (foot g kg v) w a len m) := hB
  have hz := zeroWr
  have c2 := H.c2
  have c1 := H.c1
  clear H hB
  unfold Sc.onS Sc.onE
  cases hd : s.down
  · rw [hd] at c2
    simp only [Bool.false_eq_true, if_false]
    clear c1
    go_enter Tryz.func38, Tryz.ntmps38
    go_wp2_with (first | (go_at_call 69; refine HR.mono ?_; rintro e w' ⟨rfl, rfl⟩))
    go_ret
    exact ⟨_, rfl, HH.out, Turn.refl _ _⟩
  · rw [hd] at c2
    simp only [if_true]
    have OK : Hid (Sc.Ok (Sc.back s (marks len m))) := Sc.back_ok HH.out.ok _
    have HK : Hid ((Sc.back s (marks len m)).kept = (mid (marks len m) s s.pend.length).kept) := (mid_all _ _).symm
    obtain ⟨pa, cap, hv⟩ := HH.out.pval
    rw [hv] at c1
    have HV : Hid (v = Value.slice pa s.pend.length cap) := hv
    clear hv
    go_enter Tryz.func38, Tryz.ntmps38
    go_wp2_with (first | (go_at_call 69; refine HR.mono ?_; rintro e w' ⟨rfl, rfl⟩))
    clear HR c1 c2
    go_loopw [22] (fun s22 wr => ∃ k : Nat, k ≤ s.pend.length ∧ s22 = .int .i64 (k : Int) ∧ Dk wr g kg v (mid (marks len m) s k) ∧ Turn (foot g kg v) (foot g kg v) w' wr) (fun s22 _ => s.pend.length - (intOf s22).toNat)
    case atStart => exact ⟨0, by omega, rfl, HH.out, Turn.refl _ _⟩
    case round =>
      obtain ⟨k, hk, rfl, hD, hT⟩ := hrel
      have HD : Hid (Dk wr g kg v (mid (marks len m) s k)) := hD
      have HT : Hid (Turn (foot g kg v) (foot g kg v) w' wr) := hT
      clear hD hT
      by_cases hkl : k < s.pend.length
      · have dk : decide ((k : Int) < (s.pend.length : Int)) = true := by simp; omega
        obtain ⟨pg, cap', i, x, hv', hcap, hc63, hp, hi, hx, hr⟩ := HD.out.nth (k := k) hkl
        have HRG : Hid (wr.rangeAt pg (k * 65) (wc (i, x))) := hr
        have HP : Hid (s.pend[k]? = some (i, x)) := hp
        have ea : pa = some ⟨pg, 0, none⟩ := by
          rw [HV.out] at hv'
          exact (Value.slice.inj hv').1
        have hpm : s.pend.length ≤ 9223372036854775807 := Nat.le_trans hcap hc63
        subst ea
        clear hr hp hv'
        have k0 : (0 : Int) ≤ (k : Int) := by omega
        have k1 : (k : Int) < (s.pend.length : Int) := by omega
        have HIW : Hid ((Tryz.prog.info? 111).map (·.size) = some (wc (i, x)).length) := by show _ = _; rw [wc_length hx]; exact sizeWr
        have HIA : Hid ((Tryz.prog.info? 111).map (·.size) = some (wA (i, x)).size) := wA_info hx
        have HZA : Hid (zwr.size = (wA (i, x)).size) := by show _ = _; rw [wA_size hx]; exact zwr_size
        have HBA : Hid (Below wr.heap.size wr ((wr.alloc (.cells zwr 111)).setRow wr.heap.size (wA (i, x)))) := below_setRow ((Below.refl _ _).alloc (Nat.le_refl _) _) (Nat.le_refl _) _
        have HA : Hid (Dk ((wr.alloc (.cells zwr 111)).setRow wr.heap.size (wA (i, x))) g kg v (mid (marks len m) s k)) := HD.out.below HBA.out
        have HTA : Hid (Turn (foot g kg v) (foot g kg v) w' ((wr.alloc (.cells zwr 111)).setRow wr.heap.size (wA (i, x)))) := HT.out.trans (Turn.of_below HBA.out)
        have HBB : Hid (Bools (foot g kg v) ((wr.alloc (.cells zwr 111)).setRow wr.heap.size (wA (i, x))) a len m) := HBL.out.keep HTA.out.chg
        by_cases hlt : k < len
        · have dl : decide ((k : Int) < (len : Int)) = true := by simp; omega
          have l1 : (k : Int) < (len : Int) := by omega
          obtain ⟨bb, boff, ha, hbb, hbc⟩ : ∃ b off, a = some ⟨b, off, none⟩ ∧ b ∉ foot g kg v ∧ ∀ j, j < len → ((wr.alloc (.cells zwr 111)).setRow wr.heap.size (wA (i, x))).cell? ⟨b, off + j, none⟩ = some (.bool (m j)) := by
            rcases HBB.out with h | h
            · omega
            · exact h
          have hbk := hbc k hlt
          subst ha
          clear hbc hbb
          cases hm : m k
          · rw [hm] at hbk
            have HMK : Hid (marks len m k = false) := by show marks len m k = false; unfold marks; rw [hm, Bool.and_false]
            have HFN : ∃ k' : Nat, k' ≤ s.pend.length ∧ Value.int .i64 ((k : Int) + 1) = .int .i64 (k' : Int) ∧ Dk ((wr.alloc (.cells zwr 111)).setRow wr.heap.size (wA (i, x))) g kg v (mid (marks len m) s k') ∧ Turn (foot g kg v) (foot g kg v) w' ((wr.alloc (.cells zwr 111)).setRow wr.heap.size (wA (i, x))) := ⟨k + 1, by omega, by go_num, by rw [mid_skip _ _ _ (i, x) HP.out HMK.out]; exact HA.out, HTA.out⟩
            go_wp2_with (first | (refine wpList_load_mid rfl 111 _ rfl pg (k * 65) (by first | rfl | (show Value.pointer _ = _; simp)) (wc (i, x)) _ HRG.out Tryz.underlying111 rfl HIW.out ?_) | (refine store_row rfl rfl 111 _ _ rfl wr.heap.size (wA (i, x)) rfl rfl 111 zwr (heap_alloc_new _ _) HIA.out HZA.out (wA_one _) ?_))
            go_roundw
            case rel => first | exact HFN | ((repeat apply Exists.intro); exact ⟨HFN, rfl⟩)
            case measure => (simp [intOf]) <;> omega
          · rw [hm] at hbk
            have HMK : Hid (marks len m k = true) := by show marks len m k = true; unfold marks; rw [hm, Bool.and_true]; simpa using hlt
            have HKP : Hid (Calls Tryz.prog 70 #[ptr g, .agg (wA (i, x))] ((wr.alloc (.cells zwr 111)).setRow wr.heap.size (wA (i, x))) fun e w' => e = .returned (.tuple #[]) ∧ Dk w' g kg v { mid (marks len m) s k with kept := (mid (marks len m) s k).kept.set i x } ∧ Turn (foot g kg v) (foot g kg v) ((wr.alloc (.cells zwr 111)).setRow wr.heap.size (wA (i, x))) w') := keep_any g kg v _ i x _ HA.out hi hx
            go_wp2_with (first | (refine wpList_load_mid rfl 111 _ rfl pg (k * 65) (by first | rfl | (show Value.pointer _ = _; simp)) (wc (i, x)) _ HRG.out Tryz.underlying111 rfl HIW.out ?_) | (refine store_row rfl rfl 111 _ _ rfl wr.heap.size (wA (i, x)) rfl rfl 111 zwr (heap_alloc_new _ _) HIA.out HZA.out (wA_one _) ?_) | (refine wpList_load_row rfl 111 _ rfl wr.heap.size rfl 111 (wA (i, x)) (0, 0) _ (setRow_heap _ _ _ _ _ _ (heap_alloc_new _ _)) Tryz.underlying111 rfl HIA.out ?_) | (go_at_call 70; refine HKP.out.mono ?_; rintro e w3 ⟨rfl, hD3, hT3⟩))
            have HFN : ∃ k' : Nat, k' ≤ s.pend.length ∧ Value.int .i64 ((k : Int) + 1) = .int .i64 (k' : Int) ∧ Dk w3 g kg v (mid (marks len m) s k') ∧ Turn (foot g kg v) (foot g kg v) w' w3 := ⟨k + 1, by omega, by go_num, by rw [mid_next _ _ _ i x HP.out HMK.out]; exact hD3, HTA.out.trans hT3⟩
            clear hD3 hT3
            go_roundw
            case rel => first | exact HFN | ((repeat apply Exists.intro); exact ⟨HFN, rfl⟩)
            case measure => (simp [intOf]) <;> omega
        · have dl : decide ((k : Int) < (len : Int)) = false := by simp; omega
          have HMK : Hid (marks len m k = false) := by show marks len m k = false; unfold marks; simp [hlt]
          have HFN : ∃ k' : Nat, k' ≤ s.pend.length ∧ Value.int .i64 ((k : Int) + 1) = .int .i64 (k' : Int) ∧ Dk ((wr.alloc (.cells zwr 111)).setRow wr.heap.size (wA (i, x))) g kg v (mid (marks len m) s k') ∧ Turn (foot g kg v) (foot g kg v) w' ((wr.alloc (.cells zwr 111)).setRow wr.heap.size (wA (i, x))) := ⟨k + 1, by omega, by go_num, by rw [mid_skip _ _ _ (i, x) HP.out HMK.out]; exact HA.out, HTA.out⟩
          go_wp2_with (first | (refine wpList_load_mid rfl 111 _ rfl pg (k * 65) (by first | rfl | (show Value.pointer _ = _; simp)) (wc (i, x)) _ HRG.out Tryz.underlying111 rfl HIW.out ?_) | (refine store_row rfl rfl 111 _ _ rfl wr.heap.size (wA (i, x)) rfl rfl 111 zwr (heap_alloc_new _ _) HIA.out HZA.out (wA_one _) ?_))
          go_roundw
          case rel => first | exact HFN | ((repeat apply Exists.intro); exact ⟨HFN, rfl⟩)
          case measure => (simp [intOf]) <;> omega
      · have hke : k = s.pend.length := by omega
        have dk : decide ((k : Int) < (s.pend.length : Int)) = false := by simp; omega
        have c1 := HD.out.c1
        have f1 := HD.out.fz 1
        have f2 := HD.out.fz 2
        have f3 := HD.out.fz 3
        have c2 := HD.out.c2
        have c3 := HD.out.c3
        have HFN : Hid (Does w' g kg v (Sc.back s (marks len m)) 0 (.returned (.int .i64 0)) (((wr.setCell ⟨g, 1, none⟩ (.slice none 0 0)).setCell ⟨g, 2, none⟩ (.bool false)).setCell ⟨g, 3, none⟩ (.int .i64 (-1)))) := by
          have h1 : Dk (wr.setCell ⟨g, 1, none⟩ (.slice none 0 0)) g kg (.slice none 0 0) { Sc.back s (marks len m) with down := true, left := s.left } := HD.out.clear (by rw [hke]; exact HK.out) rfl hd.symm rfl rfl ⟨OK.out.one, OK.out.most, OK.out.size, OK.out.pat, OK.out.psize, HH.out.ok.left⟩
          have h2 : Dk ((wr.setCell ⟨g, 1, none⟩ (.slice none 0 0)).setCell ⟨g, 2, none⟩ (.bool false)) g kg (.slice none 0 0) { Sc.back s (marks len m) with left := s.left } := h1.setSame 2 _ rfl rfl rfl ⟨OK.out.one, OK.out.most, OK.out.size, OK.out.pat, OK.out.psize, HH.out.ok.left⟩
          exact ⟨_, rfl, h2.setSame 3 _ rfl rfl rfl OK.out, (HT.out.trans (foot_nil _ _ _ _ _ _)).trans ((foot_set _ _ _ _ _ _).trans (foot_set _ _ _ _ _ _))⟩
        clear hke
        go_wp2
        go_ret
        exact HFN.out
end Go.Proofs.YtcfninpokngmlaaGreatDoor
