/- Proved: what pagedb's recordText answers. -/
import Derived.Test.YtcfninpokngmlaaGreatDoorDWst
namespace Go.Proofs.YtcfninpokngmlaaGreatDoor
open Go.RowKit
theorem builder0 (w : World) : (zeroValue 151).run Tryz.prog w = .ok (.agg #[.pointer none, .slice none 0 0]) w := by kernel_rfl
theorem MpAt.obj {w : World} {b : Nat} {m : Pd.Mp} (h : MpAt w b m) : ∃ es c, w.heap[b]? = some (.map es c) := by
  obtain ⟨es, c, hb, _⟩ := h.own
  exact ⟨es, c, hb⟩
theorem take_succ_mp {m : Pd.Mp} {k : Nat} {p : Nat × Pd.Sheet} (h : m[k]? = some p) : Pd.entries (m.take (k + 1)) = Pd.entries (m.take k) ++ Wl.put p.1 4 ++ Pd.pageOf p.1 p.2 := by
  obtain ⟨hk, e⟩ := List.getElem?_eq_some_iff.1 h
  rw [List.take_succ_eq_append_getElem hk, e, Pd.entries_snoc, Pd.app_assoc]
  rfl
set_option maxHeartbeats 4000000 in
set_option maxRecDepth 100000 in
theorem rtext_any (n b cnt : Nat) (m : Pd.Mp) (w : World) (hM : MpAt w b m) (hF : Pd.Fine cnt m) (hc : cnt ≤ 1000) (hl : m.length ≤ 1000) (hT : Tab w) :
    Calls Tryz.prog 94 #[.int .i64 (n : Int), .map (some b)] w fun e w' => e = .returned (.string (Pd.recText n m)) ∧ Below w.heap.size w w' := by
  have hz := builder0
  have hpos := hT.pos
  have hbl := hM.lt
  have HBD0 : Hid (Bd w.heap.size w.heap.size nil0 Pd.none0 (w.alloc (.cells #[.pointer none, .slice none 0 0] 151))) := Bd.new w
  have HB0 : Hid (Below w.heap.size w (w.alloc (.cells #[.pointer none, .slice none 0 0] 151))) := (Below.refl _ _).alloc (Nat.le_refl _) _
  have HM : Hid (MpAt w b m ∧ Tab w ∧ Pd.Fine cnt m) := ⟨hM, hT, hF⟩
  have HN : Hid (∀ (k : Nat) W, Calls Tryz.prog 90 #[.int .i64 (k : Int)] W fun e w' => e = .returned (.string (Wl.put k 4)) ∧ Below W.heap.size W w') := fun k W => ntext_any k W
  clear hM hT hF
  go_enter Tryz.func94, Tryz.ntmps94
  go_wp2_with fail
  generalize hw0 : World.alloc w _ = w0 at *
  clear hw0
  refine (HN.out n w0).mono ?_
  rintro e w1 ⟨rfl, hB1⟩
  have HBD1 : Hid (Bd w.heap.size w.heap.size nil0 Pd.none0 w1) := HBD0.out.below hB1
  have HB1 : Hid (Below w.heap.size w w1) := below_next HB0.out hB1 HB0.out.size
  clear hB1 HBD0 HB0
  have hps := Wl.put_size n 4
  have e0 : Pd.none0 ++ Wl.put n 4 = Wl.put n 4 := Pd.none_app _
  have HW1 : Hid (Calls Tryz.prog 112 #[.pointer (some ⟨w.heap.size, 0, none⟩), .string (Wl.put n 4)] w1 fun e w' => ∃ v', e = .returned (.tuple #[.int .i64 (Wl.put n 4).size, .nilIface]) ∧ Bd w.heap.size w.heap.size v' (Pd.none0 ++ Wl.put n 4) w' ∧ Below w.heap.size w1 w' ∧ Chg (w.heap.size :: nil0.ownBlock.toList) w1 w') := wstr_t w.heap.size w.heap.size nil0 Pd.none0 (Wl.put n 4) w1 HBD1.out (by rw [Pd.none0_size]; omega) HB1.out.size
  rw [e0] at HW1
  clear e0
  go_wp2_with fail
  refine HW1.out.mono ?_
  rintro e w2 ⟨v2, rfl, hD2, hB2, _⟩
  have HBD2 : Hid (Bd w.heap.size w.heap.size v2 (Wl.put n 4) w2) := hD2
  have HB2 : Hid (Below w.heap.size w w2) := HB1.out.trans hB2
  clear hD2 hB2 HW1 HBD1 HB1
  have HRI : Hid (Calls Tryz.prog 77 #[.map (some b)] w2 fun e w' => ∃ g cap cur, e = .returned (.slice (some ⟨g, 0, none⟩) m.length cap) ∧ m.length ≤ cap ∧ cap ≤ maxLen ∧ w2.heap.size ≤ g ∧ w'.heap[g]? = some (.cells cur 3 (0, 0)) ∧ (∀ (i : Nat) (p : Nat × Pd.Sheet), m[i]? = some p → cur[i]? = some (.int .i64 (p.1 : Int))) ∧ Below w2.heap.size w2 w') := rising_any b m w2 (HM.out.1.keep (HB2.out.block b hbl)) (by omega)
  go_wp2_with fail
  refine HRI.out.mono ?_
  rintro e w3 ⟨g, cap, cur, rfl, _, _, _, hg3, hcur, hB3⟩
  have HCU : Hid (∀ (i : Nat) (p : Nat × Pd.Sheet), m[i]? = some p → cur[i]? = some (.int .i64 (p.1 : Int))) := hcur
  have HG3 : Hid (w3.heap[g]? = some (.cells cur 3 (0, 0))) := hg3
  have HBD3 : Hid (Bd w.heap.size w.heap.size v2 (Wl.put n 4 ++ Pd.entries (m.take 0)) w3) := by
    have e : Wl.put n 4 ++ Pd.entries (m.take 0) = Wl.put n 4 := Pd.app_none _
    rw [e]
    exact HBD2.out.below hB3
  have HB3 : Hid (Below w.heap.size w w3) := below_next HB2.out hB3 HB2.out.size
  clear hcur hg3 hB3 HRI HBD2 HB2
  go_wp2_with fail
  go_loopw [7, 14] (fun _ s14 wr => ∃ (k : Nat) (v : Value), k ≤ m.length ∧ s14 = .int .i64 (k : Int) ∧ Bd w.heap.size w.heap.size v (Wl.put n 4 ++ Pd.entries (m.take k)) wr ∧ wr.heap[g]? = some (.cells cur 3 (0, 0)) ∧ Below w.heap.size w wr) (fun _ s14 _ => m.length - (intOf s14).toNat)
  case atStart => exact ⟨0, v2, by omega, rfl, HBD3.out, HG3.out, HB3.out⟩
  case round =>
    obtain ⟨k, v, hk, rfl, hD, hg, hB⟩ := hrel
    have HD : Hid (Bd w.heap.size w.heap.size v (Wl.put n 4 ++ Pd.entries (m.take k)) wr) := hD
    have HG : Hid (wr.heap[g]? = some (.cells cur 3 (0, 0))) := hg
    have HB : Hid (Below w.heap.size w wr) := hB
    have hfk : Pd.Fine cnt (m.take k) := fun p hp => HM.out.2.2 p (List.mem_of_mem_take hp)
    have hsz : (Wl.put n 4 ++ Pd.entries (m.take k)).size ≤ 1000000 := by
      rw [ByteArray.size_append, hps, Pd.entries_size hfk, List.length_take]
      omega
    clear hD hg hB hfk HBD3 HG3 HB3
    by_cases hkl : k < m.length
    · obtain ⟨p, hp⟩ : ∃ p, m[k]? = some p := ⟨_, List.getElem?_eq_getElem hkl⟩
      have hpm : p ∈ m := List.mem_of_getElem? hp
      have hpf := HM.out.2.2 p hpm
      have hgp : Pd.get m p.1 = some p.2 := Pd.mem_get HM.out.1.up hpm
      have hts := take_succ_mp hp
      have hcell : wr.cell? ⟨g, k, none⟩ = some (.int .i64 (p.1 : Int)) := by rw [cell_of_row _ _ _ _ _ (0, 0) HG.out]; exact HCU.out k p hp
      have dk : decide ((k : Int) < (m.length : Int)) = true := decide_eq_true (by omega)
      have k0 : (0 : Int) ≤ (k : Int) := by omega
      have k1 : (k : Int) < (m.length : Int) := by omega
      have HP : Hid (m[k]? = some p ∧ p ∈ m ∧ p.1 < cnt ∧ p.2.Fine ∧ Pd.get m p.1 = some p.2) := ⟨hp, hpm, hpf.1, hpf.2, hgp⟩
      have HTS : Hid (Wl.put n 4 ++ Pd.entries (m.take (k + 1)) = Wl.put n 4 ++ Pd.entries (m.take k) ++ Wl.put p.1 4 ++ Pd.pageOf p.1 p.2) := by
        show _ = _
        rw [hts]
        simp only [Pd.app_assoc]
      have hp4 := Wl.put_size p.1 4
      have hpg := Pd.pageOf_size (i := p.1) hpf.2
      clear hp hpm hpf hgp hts
      go_wp2_with fail
      refine (HN.out p.1 wr).mono ?_
      rintro e u1 ⟨rfl, hB1⟩
      have HDa : Hid (Bd w.heap.size w.heap.size v (Wl.put n 4 ++ Pd.entries (m.take k)) u1) := HD.out.below hB1
      have HGa : Hid (u1.heap[g]? = some (.cells cur 3 (0, 0))) := heap_next HG.out hB1
      have HBa : Hid (Below w.heap.size w u1) := below_next HB.out hB1 HB.out.size
      clear hB1 hcell HD HG HB
      have HWa : Hid (Calls Tryz.prog 112 #[.pointer (some ⟨w.heap.size, 0, none⟩), .string (Wl.put p.1 4)] u1 fun e w' => ∃ v', e = .returned (.tuple #[.int .i64 (Wl.put p.1 4).size, .nilIface]) ∧ Bd w.heap.size w.heap.size v' (Wl.put n 4 ++ Pd.entries (m.take k) ++ Wl.put p.1 4) w' ∧ Below w.heap.size u1 w' ∧ Chg (w.heap.size :: v.ownBlock.toList) u1 w') := wstr_t w.heap.size w.heap.size v _ (Wl.put p.1 4) u1 HDa.out (by omega) HBa.out.size
      go_wp2_with fail
      refine HWa.out.mono ?_
      rintro e u2 ⟨va, rfl, hD2, hB2, hC2⟩
      have HDb : Hid (Bd w.heap.size w.heap.size va (Wl.put n 4 ++ Pd.entries (m.take k) ++ Wl.put p.1 4) u2) := hD2
      have HGb : Hid (u2.heap[g]? = some (.cells cur 3 (0, 0))) := (hC2.block g (Array.getElem?_eq_some_iff.1 HGa.out).1 (HDa.out.apart HGa.out (by intro cs fr e; cases e) (by intro cs fr e; cases e))).trans HGa.out
      have HBb : Hid (Below w.heap.size w u2) := HBa.out.trans hB2
      clear hD2 hB2 hC2 HWa HDa HGa HBa
      have HMb : Hid (MpAt u2 b m) := HM.out.1.keep (HBb.out.block b hbl)
      have HSe : Hid (Calls Tryz.prog 105 #[.int .i64 (p.1 : Int), shV p.2] u2 fun e w' => e = .returned (.string (Pd.pageOf p.1 p.2)) ∧ Below u2.heap.size u2 w') := sealed_any p.1 p.2 u2 (HM.out.2.1.below HBb.out hpos) HP.out.2.2.2.1 (by have := HP.out.2.2.1; omega)
      have hget : (Pd.get m p.1).getD sh00 = p.2 := by rw [HP.out.2.2.2.2]; rfl
      have HHG : Hid ((Pd.get m p.1).getD sh00 = p.2) := hget
      clear hget
      go_wp2_with (at_lookup; refine mp_look _ rfl _ _ rfl b m rfl HMb.out p.1 (by have := HP.out.2.2.1; omega) rfl ?_; rw [HHG.out])
      refine HSe.out.mono ?_
      rintro e u3 ⟨rfl, hB3⟩
      have HDc : Hid (Bd w.heap.size w.heap.size va (Wl.put n 4 ++ Pd.entries (m.take k) ++ Wl.put p.1 4) u3) := HDb.out.below hB3
      have HGc : Hid (u3.heap[g]? = some (.cells cur 3 (0, 0))) := heap_next HGb.out hB3
      have HBc : Hid (Below w.heap.size w u3) := below_next HBb.out hB3 HBb.out.size
      clear hB3 HSe HDb HGb HBb HMb
      have HWc : Hid (Calls Tryz.prog 112 #[.pointer (some ⟨w.heap.size, 0, none⟩), .string (Pd.pageOf p.1 p.2)] u3 fun e w' => ∃ v', e = .returned (.tuple #[.int .i64 (Pd.pageOf p.1 p.2).size, .nilIface]) ∧ Bd w.heap.size w.heap.size v' (Wl.put n 4 ++ Pd.entries (m.take k) ++ Wl.put p.1 4 ++ Pd.pageOf p.1 p.2) w' ∧ Below w.heap.size u3 w' ∧ Chg (w.heap.size :: va.ownBlock.toList) u3 w') := wstr_t w.heap.size w.heap.size va _ (Pd.pageOf p.1 p.2) u3 HDc.out (by rw [ByteArray.size_append]; omega) HBc.out.size
      rw [← HTS.out] at HWc
      go_wp2_with fail
      refine HWc.out.mono ?_
      rintro e u4 ⟨vb, rfl, hD4, hB4, hC4⟩
      have HDd : Hid (Bd w.heap.size w.heap.size vb (Wl.put n 4 ++ Pd.entries (m.take (k + 1))) u4) := hD4
      have HGd : Hid (u4.heap[g]? = some (.cells cur 3 (0, 0))) := (hC4.block g (Array.getElem?_eq_some_iff.1 HGc.out).1 (HDc.out.apart HGc.out (by intro cs fr e; cases e) (by intro cs fr e; cases e))).trans HGc.out
      have HBd : Hid (Below w.heap.size w u4) := HBc.out.trans hB4
      clear hD4 hB4 hC4 HWc HDc HGc HBc
      go_wp2
      go_roundw
      case rel => exact ⟨k + 1, vb, by omega, by go_num, HDd.out, HGd.out, HBd.out⟩
      case measure => (simp [intOf]) <;> omega
    · obtain rfl : k = m.length := by omega
      have dk : decide ((m.length : Int) < (m.length : Int)) = false := decide_eq_false (by omega)
      have HS := (show Hid (Calls Tryz.prog 113 #[.pointer (some ⟨w.heap.size, 0, none⟩)] wr fun e w' => e = .returned (.string (Wl.put n 4 ++ Pd.entries (m.take m.length))) ∧ Below w.heap.size wr w') from bstr_t w.heap.size w.heap.size v _ wr HD.out HB.out.size)
      have e : Wl.put n 4 ++ Pd.entries (m.take m.length) = Pd.recText n m := by rw [List.take_length]; rfl
      rw [e] at HS
      clear e
      go_wp2_with fail
      refine HS.out.mono ?_
      rintro e u1 ⟨rfl, hB1⟩
      have HB1 : Hid (Below w.heap.size w u1) := HB.out.trans hB1
      clear hB1
      go_wp2
      go_ret
      exact ⟨rfl, HB1.out⟩
end Go.Proofs.YtcfninpokngmlaaGreatDoor
