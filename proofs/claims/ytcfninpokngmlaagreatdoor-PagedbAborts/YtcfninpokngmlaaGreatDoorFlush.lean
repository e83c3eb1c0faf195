/- Proved: what Flush and On make of a disk. -/
import Derived.Test.YtcfninpokngmlaaGreatDoorWrite
namespace Go.Proofs.YtcfninpokngmlaaGreatDoor
open Go.RowKit
/- the first k of the writes that are pending are kept, as far as b marks them -/
def mid (b : Nat → Bool) (s : Sc.St) (k : Nat) : Sc.St := { s with kept := Sc.keepI b (s.pend.take k) 0 s.kept }
theorem mid_zero (b : Nat → Bool) (s : Sc.St) : mid b s 0 = s := rfl
theorem mid_next (b : Nat → Bool) (s : Sc.St) (k : Nat) (i : Nat) (x : ByteArray) (h : s.pend[k]? = some (i, x)) (hb : b k = true) : mid b s (k + 1) = { mid b s k with kept := (mid b s k).kept.set i x } := by
  unfold mid
  rw [Sc.keepI_take b s.pend s.kept k (i, x) h, if_pos hb]
theorem mid_skip (b : Nat → Bool) (s : Sc.St) (k : Nat) (p : Nat × ByteArray) (h : s.pend[k]? = some p) (hb : b k = false) : mid b s (k + 1) = mid b s k := by
  unfold mid
  rw [Sc.keepI_take b s.pend s.kept k p h, if_neg (by rw [hb]; decide)]
theorem mid_all (b : Nat → Bool) (s : Sc.St) : (mid b s s.pend.length).kept = Sc.keepI b s.pend 0 s.kept := by
  unfold mid
  simp only
  rw [List.take_length]
section
variable {w : World} {g kg : Nat} {v : Value}
/- of a disk in the midst of it the k-th write that is pending is read -/
theorem Dk.nth {s : Sc.St} (H : Dk w g kg v s) {k : Nat} (hk : k < s.pend.length) : ∃ pg cap i x, v = .slice (some ⟨pg, 0, none⟩) s.pend.length cap ∧ s.pend.length ≤ cap ∧ cap ≤ 9223372036854775807 ∧ s.pend[k]? = some (i, x) ∧ i < s.kept.length ∧ x.size = 64 ∧ w.rangeAt pg (k * 65) (wc (i, x)) := by
  rcases H.open with ⟨_, h⟩ | ⟨pg, cap, h1, h2, h3, h4⟩
  · rw [h] at hk; simp at hk
  · have hm : s.pend[k] ∈ s.pend := List.getElem_mem hk
    refine ⟨pg, cap, s.pend[k].1, s.pend[k].2, h1, h2, h3, List.getElem?_eq_getElem hk, H.ok.pat _ hm, H.ok.psize _ hm, h4 k _ (List.getElem?_eq_getElem hk)⟩
/- nothing is pending any more -/
theorem Dk.clear {s t : Sc.St} (H : Dk w g kg v s) (hk : t.kept = s.kept) (hp : t.pend = []) (hd : t.down = s.down) (hl : t.left = s.left) (hn : t.dn = s.dn) (ok : Sc.Ok t) : Dk (w.setCell ⟨g, 1, none⟩ (.slice none 0 0)) g kg (.slice none 0 0) t :=
  H.set 1 _ (by unfold dcells; rw [hk, hd, hl, hn]; rfl) hk (by rw [hp]; exact World.ownsRow_nil _ _ _ _) (by simp [Value.ownBlock]) (by simp [Value.ownBlock]) ok
end
theorem foot_nil (g kg : Nat) (v : Value) (w : World) (i : Nat) (x : Value) : Turn (foot g kg v) (foot g kg (.slice none 0 0)) w (w.setCell ⟨g, i, none⟩ x) := ⟨(Chg.setCell w g i x).mono (fun k hk => by rw [List.mem_singleton.1 hk]; simp [foot]), fun k hk => .inl (by
  simp only [foot, List.mem_cons, Value.ownBlock, Option.mem_toList] at hk ⊢
  rcases hk with h | h | h
  · exact .inl h
  · exact .inr (.inl h)
  · cases h)⟩
set_option maxHeartbeats 4000000 in
set_option maxRecDepth 20000 in
theorem flush_any (g kg : Nat) (v : Value) (s : Sc.St) (w : World) (H : Dk w g kg v s) (hn : s.dn ≤ 1000000000) :
    Calls Tryz.prog 79 #[ptr g] w (Does w g kg v (Sc.flushS s) (Sc.flushE s)) := by
  have HR := ready_any g kg v s w H
  have HH : Hid (Dk w g kg v s) := H
  have HSP : Hid (Calls Tryz.prog 108 #[ptr g] w fun e w' => e = .returned (.int .i64 (spendE s)) ∧ Dk w' g kg v (spendS s) ∧ Turn (foot g kg v) (foot g kg v) w w') := spend_any g kg v s w H hn
  have hz := zeroWr
  clear H
  unfold Sc.liveE at HR
  unfold Sc.flushS Sc.flushE
  unfold spendE spendS at HSP
  cases hd : s.down
  · rw [hd] at HR
    simp only [Bool.false_eq_true, if_false] at *
    by_cases h0 : s.left = 0
    · simp only [h0, if_true] at HSP ⊢
      go_enter Tryz.func79, Tryz.ntmps79
      go_wp2_with (first | (go_at_call 53; refine HR.mono ?_; rintro e w' ⟨rfl, rfl⟩) | (go_at_call 108; refine HSP.out.mono ?_; rintro e w1 ⟨rfl, hD1, hT1⟩))
      go_ret
      exact ⟨_, rfl, hD1, hT1⟩
    · simp only [h0, if_false] at HSP ⊢
      have OK : Hid (Sc.Ok (Sc.flushed s)) := Sc.flushed_ok HH.out.ok
      have HK : Hid ((Sc.flushed s).kept = (mid (fun _ => true) (Sc.spent s) (Sc.spent s).pend.length).kept) := (mid_all _ _).symm
      obtain ⟨pa, cap, hv⟩ := HH.out.pval
      have hpl : (Sc.spent s).pend.length = s.pend.length := rfl
      go_enter Tryz.func79, Tryz.ntmps79
      go_wp2_with (first | (go_at_call 53; refine HR.mono ?_; rintro e w' ⟨rfl, rfl⟩) | (go_at_call 108; refine HSP.out.mono ?_; rintro e w1 ⟨rfl, hD1, hT1⟩; have HD1 : Hid (Dk w1 g kg v (Sc.spent s)) := hD1; have HT1 := (show Hid (Turn (foot g kg v) (foot g kg v) _ w1) from hT1); have c1 := hD1.c1; rw [hv] at c1; clear hD1 hT1))
      have HV : Hid (v = Value.slice pa s.pend.length cap) := hv
      clear HSP HR HH c1 hv
      go_loopw [22] (fun s22 wr => ∃ k : Nat, k ≤ s.pend.length ∧ s22 = .int .i64 (k : Int) ∧ Dk wr g kg v (mid (fun _ => true) (Sc.spent s) k) ∧ Turn (foot g kg v) (foot g kg v) w' wr) (fun s22 _ => s.pend.length - (intOf s22).toNat)
      case atStart => exact ⟨0, by omega, rfl, HD1.out, HT1.out⟩
      case round =>
        obtain ⟨k, hk, rfl, hD, hT⟩ := hrel
        have HD : Hid (Dk wr g kg v (mid (fun _ => true) (Sc.spent s) k)) := hD
        have HT : Hid (Turn (foot g kg v) (foot g kg v) w' wr) := hT
        clear hD hT HD1 HT1
        by_cases hkl : k < s.pend.length
        · have dk : decide ((k : Int) < (s.pend.length : Int)) = true := by simp; omega
          obtain ⟨pg, cap', i, x, hv', hcap, hc63, hp, hi, hx, hr⟩ := HD.out.nth (k := k) hkl
          have HRG : Hid (wr.rangeAt pg (k * 65) (wc (i, x))) := hr
          have HP : Hid ((Sc.spent s).pend[k]? = some (i, x)) := hp
          have ea : pa = some ⟨pg, 0, none⟩ := by
            rw [HV.out] at hv'
            exact (Value.slice.inj hv').1
          have hpm : s.pend.length ≤ 9223372036854775807 := Nat.le_trans hcap hc63
          subst ea
          clear hr hp hv'
          have k0 : (0 : Int) ≤ (k : Int) := by omega
          have k1 : (k : Int) < (s.pend.length : Int) := by omega
          have HIW : Hid ((Tryz.prog.info? 111).map (·.size) = some (wc (i, x)).length) := by show _ = _; rw [wc_length hx]; exact sizeWr
          have HIA : Hid ((Tryz.prog.info? 111).map (·.size) = some (wA (i, x)).size) := wA_info hx
          have HZA : Hid (zwr.size = (wA (i, x)).size) := by show _ = _; rw [wA_size hx]; exact zwr_size
          have HA : Hid (Dk ((wr.alloc (.cells zwr 111)).setRow wr.heap.size (wA (i, x))) g kg v (mid (fun _ => true) (Sc.spent s) k)) := HD.out.below (below_setRow ((Below.refl _ _).alloc (Nat.le_refl _) _) (Nat.le_refl _) _)
          have HTA : Hid (Turn (foot g kg v) (foot g kg v) w' ((wr.alloc (.cells zwr 111)).setRow wr.heap.size (wA (i, x)))) := HT.out.trans (Turn.of_below (below_setRow ((Below.refl _ _).alloc (Nat.le_refl _) _) (Nat.le_refl _) _))
          have HKP : Hid (Calls Tryz.prog 70 #[ptr g, .agg (wA (i, x))] ((wr.alloc (.cells zwr 111)).setRow wr.heap.size (wA (i, x))) fun e w' => e = .returned (.tuple #[]) ∧ Dk w' g kg v { mid (fun _ => true) (Sc.spent s) k with kept := (mid (fun _ => true) (Sc.spent s) k).kept.set i x } ∧ Turn (foot g kg v) (foot g kg v) ((wr.alloc (.cells zwr 111)).setRow wr.heap.size (wA (i, x))) w') := keep_any g kg v _ i x _ HA.out hi hx
          go_wp2_with (first | (refine wpList_load_mid rfl 111 _ rfl pg (k * 65) (by first | rfl | (show Value.pointer _ = _; simp)) (wc (i, x)) _ HRG.out Tryz.underlying111 rfl HIW.out ?_) | (refine store_row rfl rfl 111 _ _ rfl wr.heap.size (wA (i, x)) rfl rfl 111 zwr (heap_alloc_new _ _) HIA.out HZA.out (wA_one _) ?_) | (refine wpList_load_row rfl 111 _ rfl wr.heap.size rfl 111 (wA (i, x)) (0, 0) _ (setRow_heap _ _ _ _ _ _ (heap_alloc_new _ _)) Tryz.underlying111 rfl HIA.out ?_) | (go_at_call 70; refine HKP.out.mono ?_; rintro e w3 ⟨rfl, hD3, hT3⟩))
          have HFN : ∃ k' : Nat, k' ≤ s.pend.length ∧ Value.int .i64 ((k : Int) + 1) = .int .i64 (k' : Int) ∧ Dk w3 g kg v (mid (fun _ => true) (Sc.spent s) k') ∧ Turn (foot g kg v) (foot g kg v) w' w3 := ⟨k + 1, by omega, by go_num, by rw [mid_next _ _ _ i x HP.out rfl]; exact hD3, HTA.out.trans hT3⟩
          clear hD3 hT3
          go_roundw
          case rel => first | exact HFN | ((repeat apply Exists.intro); exact ⟨HFN, rfl⟩)
          case measure => (simp [intOf]) <;> omega
        · have hke : k = s.pend.length := by omega
          have dk : decide ((k : Int) < (s.pend.length : Int)) = false := by simp; omega
          have c1 := HD.out.c1
          have f1 := HD.out.fz 1
          have HFN : Hid (Does w' g kg v (Sc.flushed s) 0 (.returned (.int .i64 0)) (wr.setCell ⟨g, 1, none⟩ (.slice none 0 0))) := ⟨_, rfl, HD.out.clear (by rw [HK.out, hpl, hke]) rfl rfl rfl rfl OK.out, HT.out.trans (foot_nil _ _ _ _ _ _)⟩
          have hkd : ¬ ((k : Int) < (s.pend.length : Int)) := by omega
          clear hke hkl
          go_wp2
          go_ret
          exact HFN.out
  · rw [hd] at HR
    simp only [if_true] at *
    go_enter Tryz.func79, Tryz.ntmps79
    go_wp2_with (first | (go_at_call 53; refine HR.mono ?_; rintro e w' ⟨rfl, rfl⟩))
    go_ret
    exact ⟨_, rfl, HH.out, Turn.refl _ _⟩
end Go.Proofs.YtcfninpokngmlaaGreatDoor
