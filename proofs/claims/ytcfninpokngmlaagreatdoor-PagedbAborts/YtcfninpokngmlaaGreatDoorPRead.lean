/- Proved: what a log's read tells of the disk. -/
import Derived.Test.YtcfninpokngmlaaGreatDoorPAdd
import Derived.Test.YtcfninpokngmlaaGreatDoorPFrames
namespace Go.Proofs.YtcfninpokngmlaaGreatDoor
open Go.RowKit
theorem read_up {s : Sc.St} {i : Nat} (hd : s.down = false) (hi : i < s.kept.length) : Sc.readV s (i : Int) = Sc.now s i ∧ Sc.readE s (i : Int) = 0 := by
  have hh : Sc.has s (i : Int) = true := Sc.has_iff.2 ⟨by omega, by omega⟩
  unfold Sc.readV Sc.readE
  rw [hd, hh]
  simp only [Bool.false_eq_true, Bool.true_eq_false, if_false, Int.toNat_natCast]
  exact ⟨trivial, trivial⟩
/- one sector more -/
theorem read_step {b x : ByteArray} {i n : Nat} (hn : b.size = n) (h : 64 * i < n) (hx : x.size = 64) (hb : ∀ j, j < 64 → 64 * i + j < n → x.data.toList[j]? = b.data.toList[64 * i + j]?) :
    b.extract 0 (64 * i) ++ x.extract 0 (min (n - 64 * i) 64) = b.extract 0 (min (64 * (i + 1)) n) := by
  have hbl := Sc.size_eq b
  have hxl := Sc.size_eq x
  apply Wl.ext_list
  rw [Wl.app_list, Wl.ext_ext, Wl.ext_ext, Wl.ext_ext, List.drop_zero, List.drop_zero, List.drop_zero]
  have hl1 : (b.data.toList.take (64 * i)).length = 64 * i := by rw [List.length_take]; omega
  apply List.ext_getElem?
  intro j
  by_cases h1 : j < 64 * i
  · rw [List.getElem?_append_left (by rw [List.length_take]; omega), List.getElem?_take_of_lt h1, List.getElem?_take_of_lt (by omega)]
  · rw [List.getElem?_append_right (by omega), hl1]
    by_cases h2 : j < min (64 * (i + 1)) n
    · rw [List.getElem?_take_of_lt (by omega), List.getElem?_take_of_lt h2, hb (j - 64 * i) (by omega) (by omega), show 64 * i + (j - 64 * i) = j by omega]
    · rw [List.getElem?_eq_none (by rw [List.length_take]; omega), List.getElem?_eq_none (by rw [List.length_take]; omega)]
theorem ext_zero (b : ByteArray) : b.extract 0 0 = ⟨#[]⟩ := by
  apply Wl.ext_list
  rw [Wl.ext_ext]
  rfl
theorem ext_all (b : ByteArray) {k : Nat} (h : b.size ≤ k) : b.extract 0 k = b := by
  apply Wl.ext_list
  rw [Wl.ext_ext, List.drop_zero, List.take_of_length_le (by rw [← Sc.size_eq]; exact h)]
set_option maxHeartbeats 4000000 in
set_option maxRecDepth 20000 in
theorem lread_any (q g kg : Nat) (vp : Value) (s : Sc.St) (k0 n : Nat) (b : ByteArray) (w : World) (hc0 : w.cell? ⟨q, 0, none⟩ = some (ptr g)) (hD : Dk w g kg vp s) (hd : s.down = false) (hn : b.size = n) (hm : n ≤ 10000000) (hk0 : k0 ≤ 10000000) (hat : ∀ i, 64 * i < n → k0 + i < s.kept.length) (hb : ∀ i j, j < 64 → 64 * i + j < n → (Sc.now s (k0 + i)).data.toList[j]? = b.data.toList[64 * i + j]?) :
    Calls Tryz.prog 98 #[ptr q, .int .i64 (k0 : Int), .int .i64 (n : Int)] w fun e w' => ∃ v, e = .returned (.tuple #[v, .int .i64 0]) ∧ OwnB w' w.heap.size v b ∧ Below w.heap.size w w' := by
  have HD : Hid (Dk w g kg vp s) := hD
  have HC0 : Hid (w.cell? ⟨q, 0, none⟩ = some (ptr g)) := hc0
  have hq : q < w.heap.size := block_lt_of_cell hc0
  have HAT : Hid (∀ i, 64 * i < n → k0 + i < s.kept.length) := hat
  have HBB : Hid (∀ i j, j < 64 → 64 * i + j < n → (Sc.now s (k0 + i)).data.toList[j]? = b.data.toList[64 * i + j]?) := hb
  clear hD hc0 hat hb
  have hb1 : Tryz.t5.bytes = 1 := rfl
  go_enter Tryz.func98, Tryz.ntmps98
  go_wp2_with (first | (at_make; refine wpList_make_own w rfl _ _ 138 rfl w.heap.size 5 Tryz.t5 (.int .u8 0) 1 Tryz.underlying138 info_u8 rfl rfl .i64 .i64 (n : Int) n rfl rfl rfl (by rw [hb1]; omega) (by unfold maxLen; omega) (Nat.le_refl _) ?_; intro w1 hO1 hG1; have HO1 := (show Hid (OwnB w1 w.heap.size _ (b.extract 0 (64 * 0))) from (by show World.ownsRow _ _ _ _ _ _ _; rw [ext_zero]; exact hO1)); have HB1 : Hid (Below w.heap.size w w1) := ⟨hG1.os, hG1.tape, hG1.output, hG1.size, fun k hk => hG1.block k hk (by simp)⟩; clear hO1 hG1))
  go_loopw [1, 8, 9, 10] (fun s1 s8 _ _ wr => ∃ i : Nat, i ≤ n ∧ s1 = .int .i64 ((k0 + i : Nat) : Int) ∧ OwnB wr w.heap.size s8 (b.extract 0 (min (64 * i) n)) ∧ Below w.heap.size w wr) (fun s1 _ _ _ _ => k0 + n - (intOf s1).toNat)
  case atStart => exact ⟨0, by omega, rfl, (by rw [show min (64 * 0) n = 64 * 0 by omega]; exact HO1.out), HB1.out⟩
  case round =>
    obtain ⟨i, hi, rfl, hO, hB⟩ := hrel
    have HB : Hid (Below w.heap.size w wr) := hB
    have HO := (show Hid (OwnB wr w.heap.size _ (b.extract 0 (min (64 * i) n))) from hO)
    obtain ⟨va, vc, hv⟩ : ∃ va vc, _ = Value.slice va (b.extract 0 (min (64 * i) n)).size vc := own_slice hO
    have hlen : (b.extract 0 (min (64 * i) n)).size = min (64 * i) n := by simp; omega
    rw [hlen] at hv
    have hsz := hB.size
    clear HO1 HB1 hO hB
    by_cases hin : 64 * i < n
    · have HY : Hid (b.extract 0 (min (64 * i) n) = b.extract 0 (64 * i)) := by rw [Nat.min_eq_left (by omega)]; trivial
      rw [HY.out] at HO hlen
      rw [Nat.min_eq_left (by omega)] at hv hlen
      have hk := HAT.out i hin
      have hrd := read_any g kg vp s ((k0 + i : Nat) : Int) wr (HD.out.below HB.out)
      obtain ⟨e1, e2⟩ := read_up hd hk
      rw [e1, e2] at hrd
      have hxs : (Sc.now s (k0 + i)).size = 64 := Sc.now_size HD.out.ok (k0 + i)
      have hst := read_step hn hin hxs (HBB.out i)
      generalize Sc.now s (k0 + i) = x at *
      have c0 : wr.cell? ⟨q, 0, none⟩ = some (ptr g) := (HB.out.cell (p := ⟨q, 0, none⟩) hq).trans HC0.out
      have d1 : decide (((64 * i : Nat) : Int) < (n : Int)) = true := decide_eq_true (by omega)
      have d2 : 64 * i < n := hin
      have hcut : (x.extract 0 (min (n - 64 * i) 64)).size = min (n - 64 * i) 64 := by simp; omega
      have HST : Hid (b.extract 0 (64 * i) ++ x.extract 0 (min (n - 64 * i) 64) = b.extract 0 (min (64 * (i + 1)) n)) := hst
      clear hst e1 e2
      have HV := (show Hid _ from hv)
      have HB2' : Hid True := trivial
      clear HBB HAT
      generalize hm2 : min (n - 64 * i) 64 = m2 at *
      have hmin : min ((n : Int) - 64 * (i : Int)) 64 = (m2 : Int) := by omega
      have hm3 : m2 ≤ 64 := by omega
      subst hv
      go_wp2_with fail
      refine hrd.mono ?_
      rintro e w2 ⟨rfl, hB2⟩
      have HBq : Hid (Below w.heap.size w w2) := HB.out.trans (hB2.mono hsz)
      have HOq := (show Hid (OwnB w2 w.heap.size _ (b.extract 0 (64 * i))) from own_below HO.out hB2)
      have hs2 := HBq.out.size
      clear hB2 hrd
      have hq1 : (b.extract 0 (64 * i)).size + (x.extract 0 m2).size ≤ 1000000000 := by rw [hlen, hcut]; omega
      go_wp2_with (first | (refine app_text rfl (.tmp 31) (.tmp 40) rfl _ w.heap.size _ (b.extract 0 (64 * i)) rfl HOq.out (x.extract 0 m2) rfl hq1 hs2 ?_; intro v3 w3 hO3 hB3))
      have HFN : Hid (∃ i' : Nat, i' ≤ n ∧ Value.int .i64 ((k0 : Int) + (i : Int) + 1) = .int .i64 ((k0 + i' : Nat) : Int) ∧ OwnB w3 w.heap.size v3 (b.extract 0 (min (64 * i') n)) ∧ Below w.heap.size w w3) := ⟨i + 1, (by omega), (by congr 1), (by rw [← HST.out]; exact hO3), HBq.out.trans hB3⟩
      clear hO3 hB3
      go_roundw
      case rel => first | exact HFN.out | ((repeat apply Exists.intro); exact ⟨HFN.out, rfl⟩)
      case measure => (simp [intOf]) <;> omega
    · have d1 : decide (((min (64 * i) n : Nat) : Int) < (n : Int)) = false := decide_eq_false (by omega)
      have d2 : ¬ min (64 * i) n < n := by omega
      have HFN : Hid (OwnB wr w.heap.size (.slice va (min (64 * i) n) vc) b) := by
        have e1 : b.extract 0 (min (64 * i) n) = b := ext_all b (by omega)
        have := HO.out
        rw [e1, hv] at this
        exact this
      subst hv
      generalize min (64 * i) n = k at *
      clear HO
      go_wp2
      go_ret2
      exact ⟨_, rfl, HFN.out, HB.out⟩
end Go.Proofs.YtcfninpokngmlaaGreatDoor
