/- Proved: the law of disks that are armed. -/
import Derived.Test.YtbhbfnnlpkikbaaFrame
import Derived.Test.YtbhbfnnlpkikbaaLive
import Derived.BigQuiet
import Derived.Shelf.Abstract
namespace Go.Proofs.Ytbhbfnnlpkikbaa
open Go.RowKit
def txtX : ByteArray := ⟨#[120]⟩
def txtY : ByteArray := ⟨#[121]⟩
/- a disk that was armed with N, behind k writes or flushes -/
structure Armed (N k : Nat) (s : Sc.St) : Prop where
  low : k ≤ N → s.left = (N : Int) - k ∧ s.dn = k ∧ s.down = false
  high : N < k → s.down = true ∧ s.dn = N
  pend : s.pend.length ≤ k
  three : s.kept.length = 3
theorem Armed.flush {N k : Nat} {s : Sc.St} (h : Armed N k s) : Armed N (k + 1) (Sc.flushS s) ∧ Sc.flushE s = (if k < N then 0 else 10) := by
  have hs := Sc.flushS_step s
  by_cases h1 : k < N
  · obtain ⟨l, d, dn⟩ := h.low (by omega)
    have h0 : ¬ s.left = 0 := by omega
    have hp : 0 < s.left := by omega
    refine ⟨⟨fun _ => ?_, fun h => by omega, by have := hs.pend; have := h.pend; omega, hs.len.trans h.three⟩, ?_⟩
    · unfold Sc.flushS Sc.flushed Sc.spent
      simp only [dn, h0, hp, if_false, if_true, Bool.false_eq_true]
      exact ⟨by omega, by omega, trivial⟩
    · unfold Sc.flushE
      simp only [dn, h0, h1, if_false, if_true, Bool.false_eq_true]
  · by_cases h2 : k ≤ N
    · obtain ⟨l, d, dn⟩ := h.low h2
      have h0 : s.left = 0 := by omega
      refine ⟨⟨fun h => by omega, fun _ => ?_, by have := hs.pend; have := h.pend; omega, hs.len.trans h.three⟩, ?_⟩
      · unfold Sc.flushS Sc.fell
        simp only [dn, h0, if_false, if_true, Bool.false_eq_true]
        exact ⟨trivial, by omega⟩
      · unfold Sc.flushE
        simp only [dn, h0, h1, if_false, if_true, Bool.false_eq_true]
    · obtain ⟨dn, d⟩ := h.high (by omega)
      refine ⟨⟨fun h => by omega, fun _ => ?_, by have := hs.pend; have := h.pend; omega, hs.len.trans h.three⟩, ?_⟩
      · unfold Sc.flushS
        simp only [dn, if_true]
        exact ⟨trivial, d⟩
      · unfold Sc.flushE
        simp only [dn, h1, if_false, if_true]
theorem Armed.write {N k : Nat} {s : Sc.St} (h : Armed N k s) {i : Int} (hi0 : 0 ≤ i) (hi3 : i < 3) {x : ByteArray} (hx : x.size ≤ 64) : Armed N (k + 1) (Sc.writeS s i x) ∧ Sc.writeE s i x = (if k < N then 0 else 10) := by
  have hs := Sc.writeS_step s i x
  have hh : Sc.has s i = true := Sc.has_iff.2 ⟨hi0, by rw [h.three]; omega⟩
  have hx' : ¬ 64 < x.size := by omega
  by_cases h1 : k < N
  · obtain ⟨l, d, dn⟩ := h.low (by omega)
    have h0 : ¬ s.left = 0 := by omega
    have hp : 0 < s.left := by omega
    refine ⟨⟨fun _ => ?_, fun h => by omega, by have := hs.pend; have := h.pend; omega, hs.len.trans h.three⟩, ?_⟩
    · unfold Sc.writeS Sc.put Sc.spent
      simp only [dn, hh, hx', h0, hp, if_false, if_true, Bool.false_eq_true, Bool.true_eq_false]
      exact ⟨by omega, by omega, trivial⟩
    · unfold Sc.writeE
      simp only [dn, hh, hx', h0, h1, if_false, if_true, Bool.false_eq_true, Bool.true_eq_false]
  · by_cases h2 : k ≤ N
    · obtain ⟨l, d, dn⟩ := h.low h2
      have h0 : s.left = 0 := by omega
      refine ⟨⟨fun h => by omega, fun _ => ?_, by have := hs.pend; have := h.pend; omega, hs.len.trans h.three⟩, ?_⟩
      · unfold Sc.writeS Sc.fell
        simp only [dn, hh, hx', h0, if_false, if_true, Bool.false_eq_true, Bool.true_eq_false]
        exact ⟨trivial, by omega⟩
      · unfold Sc.writeE
        simp only [dn, hh, hx', h0, h1, if_false, if_true, Bool.false_eq_true, Bool.true_eq_false]
    · obtain ⟨dn, d⟩ := h.high (by omega)
      refine ⟨⟨fun h => by omega, fun _ => ?_, by have := hs.pend; have := h.pend; omega, hs.len.trans h.three⟩, ?_⟩
      · unfold Sc.writeS
        simp only [dn, if_true]
        exact ⟨trivial, d⟩
      · unfold Sc.writeE
        simp only [dn, h1, if_false, if_true]
/- what is known at the head of a round: the round's number lies in block ib, the disk's pointer in block b5 -/
structure ARel (w : World) (N g kg b5 k ib : Nat) (v : Value) (s : Sc.St) (wr : World) : Prop where
  ic : wr.heap[ib]? = some (.cells #[.int .i64 (k : Int)] 3 (0, 0))
  dc : wr.heap[b5]? = some (.cells #[ptr g] 23 (0, 0))
  dk : Dk wr g kg v s
  ar : Armed N k s
  nif : ib ∉ foot g kg v
  n5f : b5 ∉ foot g kg v
  i5 : ib ≠ b5
  bel : Below w.heap.size w wr
  abv : ∀ k ∈ foot g kg v, w.heap.size ≤ k
  ni : w.heap.size ≤ ib
theorem Dk.drewN {w : World} {g kg : Nat} {v : Value} {s : Sc.St} (H : Dk w g kg v s) (n : Nat) : Dk (w.drewN n) g kg v s := ⟨H.row, H.kept, H.pend, H.gk, H.gp, H.kp, H.ok⟩
def cellN (wr : World) (v : Value) : Nat := match v with
  | .pointer (some a) => match wr.cell? a with
    | some (.int _ z) => z.toNat
    | _ => 0
  | _ => 0
theorem one_cell {w : World} {b : Nat} {v : Value} {t : TypeId} (h : w.heap[b]? = some (.cells #[v] t (0, 0))) : w.cell? ⟨b, 0, none⟩ = some v ∧ w.frozen? ⟨b, 0, none⟩ = false := ⟨by rw [cell_of_row w b 0 _ t (0, 0) h]; rfl, frozen_of_row w b 0 _ t h⟩
theorem cellN_of {wr : World} {b : Nat} {z : Int} (h : wr.cell? ⟨b, 0, none⟩ = some (.int .i64 z)) : cellN wr (.pointer (some ⟨b, 0, none⟩)) = z.toNat := by
  unfold cellN
  simp only [h]
theorem ARel.next {w w4 : World} {N g kg b5 k : Nat} {v : Value} {s : Sc.St} (hD : Dk w4 g kg v s) (ha : Armed N (k + 1) s) (hd : w4.heap[b5]? = some (.cells #[ptr g] 23 (0, 0))) (hn : b5 ∉ foot g kg v) (hb : Below w.heap.size w w4) (hab : ∀ k ∈ foot g kg v, w.heap.size ≤ k) :
    ARel w N g kg b5 (k + 1) w4.heap.size v s (w4.alloc (.cells #[.int .i64 ((k : Int) + 1)] 3)) := by
  have l5 : b5 < w4.heap.size := (Array.getElem?_eq_some_iff.1 hd).1
  have hnf : w4.heap.size ∉ foot g kg v := fun h => by have := hD.lt _ h; omega
  refine ⟨?_, ?_, hD.alloc _, ha, hnf, hn, by omega, hb.alloc hb.size _, hab, hb.size⟩
  · rw [heap_alloc_new]
    simp
  · rw [Below.heap_alloc _ _ _ l5]; exact hd
theorem cellN_next (w4 : World) (k : Nat) (t : TypeId) : cellN (w4.alloc (.cells #[.int .i64 ((k : Int) + 1)] t)) (.pointer (some ⟨w4.heap.size, 0, none⟩)) = k + 1 := by
  rw [cellN_of (one_cell (heap_alloc_new w4 _)).1]
  omega
theorem wrap_next (k : Nat) (h : k ≤ 1000) : IntKind.i64.wrap ((k : Int) + 1) = (k : Int) + 1 := by rw [IntKind.wrap_i64]; omega
theorem Armed.small {N k : Nat} {s : Sc.St} (h : Armed N k s) : s.dn ≤ N + k := by
  by_cases h1 : k ≤ N
  · have := (h.low h1).2.1; omega
  · have := (h.high (by omega)).2; omega
/- the closure of the law: a write to the sector that the round's number tells -/
set_option maxHeartbeats 1000000 in
theorem clo_any (g kg b5 ib k : Nat) (v : Value) (s : Sc.St) (w : World) (H : Dk w g kg v s) (hd : w.heap[b5]? = some (.cells #[ptr g] 23 (0, 0))) (hi : w.heap[ib]? = some (.cells #[.int .i64 (k : Int)] 3 (0, 0))) (hn : s.dn ≤ 1000000000) (hl : s.pend.length ≤ 30000) (hk : k ≤ 1000) :
    Calls Try.prog 26 #[.pointer (some ⟨b5, 0, none⟩), .pointer (some ⟨ib, 0, none⟩)] w (Does w g kg v (Sc.writeS s ((k : Int).tmod 3) txtX) (Sc.writeE s ((k : Int).tmod 3) txtX)) := by
  have c5 := (one_cell hd).1
  have ci := (one_cell hi).1
  have HW : Hid (Calls Try.prog 18 #[ptr g, .int .i64 ((k : Int).tmod 3), .string txtX] w (Does w g kg v (Sc.writeS s ((k : Int).tmod 3) txtX) (Sc.writeE s ((k : Int).tmod 3) txtX))) := write_any g kg v s _ _ w H hn hl
  clear H hd hi
  go_enter Try.func26, Try.ntmps26
  go_wp2_with fail
  refine HW.out.mono ?_
  rintro e w1 ⟨v1, rfl, hD, hT⟩
  go_wp2
  go_ret
  exact ⟨v1, rfl, hD, hT⟩
theorem entersF : ∀ args w, (callFunc 19 args).run Try.prog w = .ok (.enter 19 args) w := enters_of Try.func19 (by kernel_rfl) rfl
theorem entersC : ∀ args w, (callFunc 26 args).run Try.prog w = .ok (.enter 26 args) w := enters_of Try.func26 (by kernel_rfl) rfl
theorem mod20 (n : Int) : ∃ N : Nat, N < 20 ∧ (n.tmod 20 + 20).tmod 20 = (N : Int) ∧ -20 < n.tmod 20 ∧ n.tmod 20 < 20 := by
  have h1 := Int.tmod_lt_of_pos n (show (0 : Int) < 20 by omega)
  have h2 : -20 < n.tmod 20 := by
    have := Int.lt_tmod_of_pos n (show (0 : Int) < 20 by omega)
    omega
  refine ⟨((n.tmod 20 + 20).tmod 20).toNat, ?_, ?_, h2, h1⟩
  · have := Int.tmod_lt_of_pos (n.tmod 20 + 20) (show (0 : Int) < 20 by omega)
    omega
  · have := Int.tmod_nonneg 20 (show 0 ≤ n.tmod 20 + 20 by omega)
    omega
set_option maxHeartbeats 4000000 in
set_option maxRecDepth 20000 in
theorem arms_walk (n : Int) (a : Option Addr) (len cap : Nat) (m : Nat → Bool) (w : World) (_hn : -9223372036854775808 ≤ n ∧ n ≤ 9223372036854775807) (hB : InB w a len m) (_hlc : len ≤ cap) (_hcm : cap ≤ 9223372036854775807) :
    Calls Try.prog 7 #[.int .i64 n, .slice a len cap] w fun e w' => e = .returned (.bool true) ∧ Below w.heap.size w w' := by
  obtain ⟨N, hN, hmod, hm1, hm2⟩ := mod20 n
  have HBS : Hid (InB w a len m) := hB
  clear hB
  go_enter Try.func7, Try.ntmps7
  go_wp2_with fail
  refine (new_any 3 w (by omega) (by omega)).mono ?_
  rintro e w0 ⟨g, kg, rfl, hD0, hB0, hg, hkg⟩
  have HB0 : Hid (Below w.heap.size w w0) := hB0
  have HA0 : Hid (∀ k ∈ foot g kg (.slice none 0 0), w.heap.size ≤ k) := fun k hk => by
    simp [foot, Value.ownBlock] at hk
    omega
  have HD0 : Hid (Dk w0 g kg (.slice none 0 0) (Sc.made 3)) := hD0
  clear hB0 hD0 hg hkg
  go_wp2_with fail
  have HDA : Hid (Dk (w0.alloc (.cells #[ptr g] 23)) g kg (.slice none 0 0) (Sc.made 3)) := HD0.out.alloc _
  have HBA : Hid (Below w.heap.size w (w0.alloc (.cells #[ptr g] 23))) := HB0.out.alloc HB0.out.size _
  have H5A : Hid ((w0.alloc (.cells #[ptr g] 23)).heap[w0.heap.size]? = some (.cells #[ptr g] 23 (0, 0))) := heap_alloc_new _ _
  have H5F : Hid (w0.heap.size ∉ foot g kg (.slice none 0 0)) := fun h => by have := HD0.out.lt _ h; omega
  refine (arm_any g kg _ _ (N : Int) _ HDA.out (by omega)).mono ?_
  rw [show Sc.liveE (Sc.made 3) = 0 from rfl]
  rintro e w1 ⟨v1, rfl, hD1, hT1⟩
  have HB1 : Hid (Below w.heap.size w w1) := HBA.out.trans (hT1.below HA0.out HBA.out.size)
  have HA1 : Hid (∀ k ∈ foot g kg v1, w.heap.size ≤ k) := hT1.above HA0.out HBA.out.size
  have H51 : Hid (w1.heap[w0.heap.size]? = some (.cells #[ptr g] 23 (0, 0))) := (hT1.chg.block _ (Array.getElem?_eq_some_iff.1 H5A.out).1 H5F.out).trans H5A.out
  have H5G : Hid (w0.heap.size ∉ foot g kg v1) := hT1.apart (rs := [w0.heap.size]) (fun k hk => by rw [List.mem_singleton.1 hk]; exact H5F.out) (fun k hk => by rw [List.mem_singleton.1 hk]; exact (Array.getElem?_eq_some_iff.1 H5A.out).1) _ (List.mem_singleton.2 rfl)
  have HD1 : Hid (Dk w1 g kg v1 (Sc.armS (Sc.made 3) N)) := hD1
  have H5N : w.heap.size ≤ w0.heap.size := HB0.out.size
  have HAR : Hid (Armed N 0 (Sc.armS (Sc.made 3) N)) := ⟨fun _ => ⟨by show (if (N : Int) < 0 then -1 else (N : Int)) = _; rw [if_neg (by omega)]; omega, rfl, rfl⟩, fun h => by omega, by exact Nat.le_refl 0, rfl⟩
  clear hD1 hT1 HDA HBA H5A H5F HD0 HB0 HA0
  generalize w0.heap.size = b5 at *
  generalize Sc.armS (Sc.made 3) N = s1 at *
  go_wp2_with fail
  have HR0 : Hid (ARel w N g kg b5 0 w1.heap.size v1 s1 (w1.alloc (.cells #[.int .i64 0] 3))) := by
    have l5 : b5 < w1.heap.size := (Array.getElem?_eq_some_iff.1 H51.out).1
    refine ⟨heap_alloc_new _ _, (Below.heap_alloc _ _ _ l5).trans H51.out, HD1.out.alloc _, HAR.out, fun h => ?_, H5G.out, by omega, HB1.out.alloc HB1.out.size _, HA1.out, HB1.out.size⟩
    have := HD1.out.lt _ h
    omega
  have hw1 : w.heap.size ≤ w1.heap.size := HB1.out.size
  generalize World.alloc w1 _ = w2 at *
  generalize w1.heap.size = ib0 at *
  clear HB1 HA1 H51 H5G HD1 HAR
  go_loopw [7] (fun s7 wr => ∃ k ib v s, k ≤ 40 ∧ k ≤ len ∧ s7 = .pointer (some ⟨ib, 0, none⟩) ∧ ARel w N g kg b5 k ib v s wr) (fun s7 wr => 40 - cellN wr s7)
  case atStart => exact ⟨0, ib0, v1, s1, by omega, by omega, rfl, HR0.out⟩
  case round =>
    obtain ⟨k, ib, v, s, hk40, hkl, rfl, hR⟩ := hrel
    have HR : Hid (ARel w N g kg b5 k ib v s wr) := hR
    have ci := (one_cell hR.ic).1
    have HCK : Hid (cellN wr (.pointer (some ⟨ib, 0, none⟩)) = k) := by
      show cellN wr _ = k
      rw [cellN_of ci]
      omega
    have fi := (one_cell hR.ic).2
    have c5 := (one_cell hR.dc).1
    clear hR HR0
    by_cases hin : k < len ∧ k < 40
    · obtain ⟨hl1, hl2⟩ := hin
      have d1 : decide ((k : Int) < (len : Int)) = true := by simp; omega
      have d2 : decide ((k : Int) < 40) = true := by simp; omega
      have k0 : (0 : Int) ≤ (k : Int) := by omega
      have k1 : (k : Int) < (len : Int) := by omega
      obtain ⟨bb, boff, rfl, hbc⟩ : ∃ b off, a = some ⟨b, off, none⟩ ∧ ∀ i, i < len → w.cell? ⟨b, off + i, none⟩ = some (.bool (m i)) := by
        rcases HBS.out with h | h
        · omega
        · exact h
      have hbk : wr.cell? ⟨bb, boff + k, none⟩ = some (.bool (m k)) := (HR.out.bel.cell (p := ⟨bb, boff + k, none⟩) (block_lt_of_cell (hbc k hl1))).trans (hbc k hl1)
      clear hbc
      have hwr := wrap_next k (by omega)
      have eF := entersF
      have eC := entersC
      have hdn : s.dn ≤ 1000000000 := by have := HR.out.ar.small; omega
      have hpn : s.pend.length ≤ 30000 := by have := HR.out.ar.pend; omega
      cases hm : m k
      · rw [hm] at hbk
        have HC := flush_any g kg v s wr HR.out.dk hdn
        rw [HR.out.ar.flush.2] at HC
        have HA : Hid (Armed N (k + 1) (Sc.flushS s)) := HR.out.ar.flush.1
        generalize Sc.flushS s = s' at *
        go_wp2_with fail
        refine HC.mono ?_
        rintro e w3 ⟨v', rfl, hD3, hT3⟩
        have l5 : b5 < wr.heap.size := (Array.getElem?_eq_some_iff.1 HR.out.dc).1
        have li : ib < wr.heap.size := (Array.getElem?_eq_some_iff.1 HR.out.ic).1
        have ic3 : w3.heap[ib]? = some (.cells #[.int .i64 (k : Int)] 3 (0, 0)) := (hT3.chg.block _ li HR.out.nif).trans HR.out.ic
        have dc3 : w3.heap[b5]? = some (.cells #[ptr g] 23 (0, 0)) := (hT3.chg.block _ l5 HR.out.n5f).trans HR.out.dc
        have HN5 : Hid (b5 ∉ foot g kg v') := hT3.apart (rs := [b5]) (fun k hk => by rw [List.mem_singleton.1 hk]; exact HR.out.n5f) (fun k hk => by rw [List.mem_singleton.1 hk]; exact l5) _ (List.mem_singleton.2 rfl)
        have HDC : Hid (w3.heap[b5]? = some (.cells #[ptr g] 23 (0, 0))) := dc3
        have HB3 : Hid (Below w.heap.size w w3) := HR.out.bel.trans (hT3.below HR.out.abv HR.out.bel.size)
        have HA3 : Hid (∀ k ∈ foot g kg v', w.heap.size ≤ k) := hT3.above HR.out.abv HR.out.bel.size
        have HD3 : Hid (Dk w3 g kg v' s') := hD3
        have ci3 := (one_cell ic3).1
        have c53 := (one_cell dc3).1
        clear hD3 hT3 ic3 dc3 ci fi c5 HR HC l5 li hbk
        by_cases hkN : k < N
        · have dn1 : decide ((k : Int) < (N : Int)) = true := by simp; omega
          have dn2 : decide ((N : Int) ≤ (k : Int)) = false := by simp; omega
          have mn : min ((k : Int) + 1) (N : Int) = (k : Int) + 1 := by omega
          have ml : ¬ (N : Int) < (k : Int) + 1 := by omega
          have ST := HA.out.low (by omega)
          have hdown : s'.down = false := ST.2.2
          have hdone : (s'.dn : Int) = (k : Int) + 1 := by have := ST.2.1; omega
          simp only [hkN, if_true]
          have QD : Hid (∀ W, Dk W g kg v' s' → Calls Try.prog 12 #[ptr g] W fun e w' => e = .returned (.bool false) ∧ w' = W) := fun W h => by have := down_any g kg v' s' W h; rwa [hdown] at this
          have QN : Hid (∀ W, Dk W g kg v' s' → Calls Try.prog 13 #[ptr g] W fun e w' => e = .returned (.int .i64 ((k : Int) + 1)) ∧ w' = W) := fun W h => by have := done_any g kg v' s' W h; rwa [hdone] at this
          clear hdown hdone ST
          go_wp2_with fail
          go_quiet (first
            | (go_at_call 12; refine Calls.quiet_of_same (QD.out _ (HD3.out.drewN _)))
            | (go_at_call 13; refine Calls.quiet_of_same (QN.out _ (HD3.out.drewN _))))
          have HD4 : Hid (Dk (w3.drewN nq) g kg v' s') := HD3.out.drewN _
          have HB4 : Hid (Below w.heap.size w (w3.drewN nq)) := ⟨HB3.out.os, HB3.out.tape, HB3.out.output, HB3.out.size, HB3.out.block⟩
          have HC4 : Hid ((w3.drewN nq).heap[b5]? = some (.cells #[ptr g] 23 (0, 0))) := HDC.out
          have ci4 : (w3.drewN nq).cell? ⟨ib, 0, none⟩ = some (.int .i64 (k : Int)) := ci3
          clear ci3 c53 HD3 HB3 HDC
          generalize w3.drewN nq = w4 at *
          have HFN : Hid (∃ k' ib' v s, k' ≤ 40 ∧ k' ≤ len ∧ Value.pointer (some ⟨w4.heap.size, 0, none⟩) = .pointer (some ⟨ib', 0, none⟩) ∧ ARel w N g kg b5 k' ib' v s (w4.alloc (.cells #[.int .i64 ((k : Int) + 1)] 3))) := ⟨k + 1, _, v', s', by omega, by omega, rfl, ARel.next HD4.out HA.out HC4.out HN5.out HB4.out HA3.out⟩
          go_wp2
          · exfalso
            rename_i hbad
            rcases hbad with h | h
            · omega
            · rw [if_neg (by omega)] at h; simp at h
          go_roundw
          case rel => first | exact HFN.out | ((repeat apply Exists.intro); exact ⟨HFN.out, rfl⟩)
          case measure =>
            have e1 := cellN_next w4 k 3
            have e2 := HCK.out
            simp
            omega
        · have dn1 : decide ((k : Int) < (N : Int)) = false := by simp; omega
          have dn2 : decide ((N : Int) ≤ (k : Int)) = true := by simp; omega
          have mn : min ((k : Int) + 1) (N : Int) = (N : Int) := by omega
          have ml : (N : Int) < (k : Int) + 1 := by omega
          have hNk : N ≤ k := by omega
          have ST := HA.out.high (by omega)
          have hdown : s'.down = true := ST.1
          have hdone : (s'.dn : Int) = (N : Int) := by have := ST.2; omega
          simp only [hkN, if_false]
          have QD : Hid (∀ W, Dk W g kg v' s' → Calls Try.prog 12 #[ptr g] W fun e w' => e = .returned (.bool true) ∧ w' = W) := fun W h => by have := down_any g kg v' s' W h; rwa [hdown] at this
          have QN : Hid (∀ W, Dk W g kg v' s' → Calls Try.prog 13 #[ptr g] W fun e w' => e = .returned (.int .i64 (N : Int)) ∧ w' = W) := fun W h => by have := done_any g kg v' s' W h; rwa [hdone] at this
          clear hdown hdone ST
          go_wp2_with fail
          go_quiet (first
            | (go_at_call 12; refine Calls.quiet_of_same (QD.out _ (HD3.out.drewN _)))
            | (go_at_call 13; refine Calls.quiet_of_same (QN.out _ (HD3.out.drewN _))))
          have HD4 : Hid (Dk (w3.drewN nq) g kg v' s') := HD3.out.drewN _
          have HB4 : Hid (Below w.heap.size w (w3.drewN nq)) := ⟨HB3.out.os, HB3.out.tape, HB3.out.output, HB3.out.size, HB3.out.block⟩
          have HC4 : Hid ((w3.drewN nq).heap[b5]? = some (.cells #[ptr g] 23 (0, 0))) := HDC.out
          have ci4 : (w3.drewN nq).cell? ⟨ib, 0, none⟩ = some (.int .i64 (k : Int)) := ci3
          clear ci3 c53 HD3 HB3 HDC
          generalize w3.drewN nq = w4 at *
          have HFN : Hid (∃ k' ib' v s, k' ≤ 40 ∧ k' ≤ len ∧ Value.pointer (some ⟨w4.heap.size, 0, none⟩) = .pointer (some ⟨ib', 0, none⟩) ∧ ARel w N g kg b5 k' ib' v s (w4.alloc (.cells #[.int .i64 ((k : Int) + 1)] 3))) := ⟨k + 1, _, v', s', by omega, by omega, rfl, ARel.next HD4.out HA.out HC4.out HN5.out HB4.out HA3.out⟩
          go_wp2
          go_roundw
          case rel => first | exact HFN.out | ((repeat apply Exists.intro); exact ⟨HFN.out, rfl⟩)
          case measure =>
            have e1 := cellN_next w4 k 3
            have e2 := HCK.out
            simp
            omega
      · rw [hm] at hbk
        have HC := clo_any g kg b5 ib k v s wr HR.out.dk HR.out.dc HR.out.ic hdn hpn (by omega)
        have hwr3 := HR.out.ar.write (i := (k : Int).tmod 3) (Int.tmod_nonneg 3 (by omega)) (Int.tmod_lt_of_pos _ (by omega)) (x := txtX) (by decide)
        rw [hwr3.2] at HC
        have HA : Hid (Armed N (k + 1) (Sc.writeS s ((k : Int).tmod 3) txtX)) := hwr3.1
        clear hwr3
        generalize Sc.writeS s ((k : Int).tmod 3) txtX = s' at *
        go_wp2_with fail
        refine HC.mono ?_
        rintro e w3 ⟨v', rfl, hD3, hT3⟩
        have l5 : b5 < wr.heap.size := (Array.getElem?_eq_some_iff.1 HR.out.dc).1
        have li : ib < wr.heap.size := (Array.getElem?_eq_some_iff.1 HR.out.ic).1
        have ic3 : w3.heap[ib]? = some (.cells #[.int .i64 (k : Int)] 3 (0, 0)) := (hT3.chg.block _ li HR.out.nif).trans HR.out.ic
        have dc3 : w3.heap[b5]? = some (.cells #[ptr g] 23 (0, 0)) := (hT3.chg.block _ l5 HR.out.n5f).trans HR.out.dc
        have HN5 : Hid (b5 ∉ foot g kg v') := hT3.apart (rs := [b5]) (fun k hk => by rw [List.mem_singleton.1 hk]; exact HR.out.n5f) (fun k hk => by rw [List.mem_singleton.1 hk]; exact l5) _ (List.mem_singleton.2 rfl)
        have HDC : Hid (w3.heap[b5]? = some (.cells #[ptr g] 23 (0, 0))) := dc3
        have HB3 : Hid (Below w.heap.size w w3) := HR.out.bel.trans (hT3.below HR.out.abv HR.out.bel.size)
        have HA3 : Hid (∀ k ∈ foot g kg v', w.heap.size ≤ k) := hT3.above HR.out.abv HR.out.bel.size
        have HD3 : Hid (Dk w3 g kg v' s') := hD3
        have ci3 := (one_cell ic3).1
        have c53 := (one_cell dc3).1
        clear hD3 hT3 ic3 dc3 ci fi c5 HR HC l5 li hbk
        by_cases hkN : k < N
        · have dn1 : decide ((k : Int) < (N : Int)) = true := by simp; omega
          have dn2 : decide ((N : Int) ≤ (k : Int)) = false := by simp; omega
          have mn : min ((k : Int) + 1) (N : Int) = (k : Int) + 1 := by omega
          have ml : ¬ (N : Int) < (k : Int) + 1 := by omega
          have ST := HA.out.low (by omega)
          have hdown : s'.down = false := ST.2.2
          have hdone : (s'.dn : Int) = (k : Int) + 1 := by have := ST.2.1; omega
          simp only [hkN, if_true]
          have QD : Hid (∀ W, Dk W g kg v' s' → Calls Try.prog 12 #[ptr g] W fun e w' => e = .returned (.bool false) ∧ w' = W) := fun W h => by have := down_any g kg v' s' W h; rwa [hdown] at this
          have QN : Hid (∀ W, Dk W g kg v' s' → Calls Try.prog 13 #[ptr g] W fun e w' => e = .returned (.int .i64 ((k : Int) + 1)) ∧ w' = W) := fun W h => by have := done_any g kg v' s' W h; rwa [hdone] at this
          clear hdown hdone ST
          go_wp2_with fail
          go_quiet (first
            | (go_at_call 12; refine Calls.quiet_of_same (QD.out _ (HD3.out.drewN _)))
            | (go_at_call 13; refine Calls.quiet_of_same (QN.out _ (HD3.out.drewN _))))
          have HD4 : Hid (Dk (w3.drewN nq) g kg v' s') := HD3.out.drewN _
          have HB4 : Hid (Below w.heap.size w (w3.drewN nq)) := ⟨HB3.out.os, HB3.out.tape, HB3.out.output, HB3.out.size, HB3.out.block⟩
          have HC4 : Hid ((w3.drewN nq).heap[b5]? = some (.cells #[ptr g] 23 (0, 0))) := HDC.out
          have ci4 : (w3.drewN nq).cell? ⟨ib, 0, none⟩ = some (.int .i64 (k : Int)) := ci3
          clear ci3 c53 HD3 HB3 HDC
          generalize w3.drewN nq = w4 at *
          have HFN : Hid (∃ k' ib' v s, k' ≤ 40 ∧ k' ≤ len ∧ Value.pointer (some ⟨w4.heap.size, 0, none⟩) = .pointer (some ⟨ib', 0, none⟩) ∧ ARel w N g kg b5 k' ib' v s (w4.alloc (.cells #[.int .i64 ((k : Int) + 1)] 3))) := ⟨k + 1, _, v', s', by omega, by omega, rfl, ARel.next HD4.out HA.out HC4.out HN5.out HB4.out HA3.out⟩
          go_wp2
          · exfalso
            rename_i hbad
            rcases hbad with h | h
            · omega
            · rw [if_neg (by omega)] at h; simp at h
          go_roundw
          case rel => first | exact HFN.out | ((repeat apply Exists.intro); exact ⟨HFN.out, rfl⟩)
          case measure =>
            have e1 := cellN_next w4 k 3
            have e2 := HCK.out
            simp
            omega
        · have dn1 : decide ((k : Int) < (N : Int)) = false := by simp; omega
          have dn2 : decide ((N : Int) ≤ (k : Int)) = true := by simp; omega
          have mn : min ((k : Int) + 1) (N : Int) = (N : Int) := by omega
          have ml : (N : Int) < (k : Int) + 1 := by omega
          have hNk : N ≤ k := by omega
          have ST := HA.out.high (by omega)
          have hdown : s'.down = true := ST.1
          have hdone : (s'.dn : Int) = (N : Int) := by have := ST.2; omega
          simp only [hkN, if_false]
          have QD : Hid (∀ W, Dk W g kg v' s' → Calls Try.prog 12 #[ptr g] W fun e w' => e = .returned (.bool true) ∧ w' = W) := fun W h => by have := down_any g kg v' s' W h; rwa [hdown] at this
          have QN : Hid (∀ W, Dk W g kg v' s' → Calls Try.prog 13 #[ptr g] W fun e w' => e = .returned (.int .i64 (N : Int)) ∧ w' = W) := fun W h => by have := done_any g kg v' s' W h; rwa [hdone] at this
          clear hdown hdone ST
          go_wp2_with fail
          go_quiet (first
            | (go_at_call 12; refine Calls.quiet_of_same (QD.out _ (HD3.out.drewN _)))
            | (go_at_call 13; refine Calls.quiet_of_same (QN.out _ (HD3.out.drewN _))))
          have HD4 : Hid (Dk (w3.drewN nq) g kg v' s') := HD3.out.drewN _
          have HB4 : Hid (Below w.heap.size w (w3.drewN nq)) := ⟨HB3.out.os, HB3.out.tape, HB3.out.output, HB3.out.size, HB3.out.block⟩
          have HC4 : Hid ((w3.drewN nq).heap[b5]? = some (.cells #[ptr g] 23 (0, 0))) := HDC.out
          have ci4 : (w3.drewN nq).cell? ⟨ib, 0, none⟩ = some (.int .i64 (k : Int)) := ci3
          clear ci3 c53 HD3 HB3 HDC
          generalize w3.drewN nq = w4 at *
          have HFN : Hid (∃ k' ib' v s, k' ≤ 40 ∧ k' ≤ len ∧ Value.pointer (some ⟨w4.heap.size, 0, none⟩) = .pointer (some ⟨ib', 0, none⟩) ∧ ARel w N g kg b5 k' ib' v s (w4.alloc (.cells #[.int .i64 ((k : Int) + 1)] 3))) := ⟨k + 1, _, v', s', by omega, by omega, rfl, ARel.next HD4.out HA.out HC4.out HN5.out HB4.out HA3.out⟩
          go_wp2
          go_roundw
          case rel => first | exact HFN.out | ((repeat apply Exists.intro); exact ⟨HFN.out, rfl⟩)
          case measure =>
            have e1 := cellN_next w4 k 3
            have e2 := HCK.out
            simp
            omega
    · clear fi HCK
      by_cases hl2 : k < len
      · have hk4 : ¬ k < 40 := by omega
        have d1 : decide ((k : Int) < (len : Int)) = true := by simp; omega
        have d2 : decide ((k : Int) < 40) = false := by simp; omega
        have HDW := down_any g kg v s wr HR.out.dk
        have hpn0 : s.pend.length ≤ 40 := by have := HR.out.ar.pend; omega
        have hdn0 : s.dn ≤ 60 := by have := HR.out.ar.small; omega
        go_wp2_with fail
        refine HDW.mono ?_
        rintro e wS ⟨rfl, hwS⟩
        rw [hwS]
        clear hwS wS
        clear HDW
        cases hdn2 : s.down
        · have HLV : Hid (s.down = false ∧ s.kept.length = 3) := ⟨hdn2, HR.out.ar.three⟩
          go_wp2_with fail
          refine (arm_any g kg v s (-1) wr HR.out.dk (by omega)).mono ?_
          rw [show Sc.liveE s = 0 by unfold Sc.liveE; rw [HLV.out.1]; rfl]
          rintro e w6 ⟨v6, rfl, hD6, hT6⟩
          have HL6 : Hid (Live 3 (Sc.armS s (-1))) := by
            show Live 3 _
            unfold Sc.armS
            rw [HLV.out.1]
            exact ⟨HLV.out.1, rfl, HLV.out.2⟩
          have HP6 : Hid ((Sc.armS s (-1)).pend.length ≤ 50 ∧ (Sc.armS s (-1)).dn ≤ 100) := by
            have hs := Sc.armS_step s (-1)
            have h1 := hs.pend
            have h2 := hs.dn
            exact ⟨by omega, by omega⟩
          have HB6 : Hid (Below w.heap.size w w6) := (HR.out.bel).trans (hT6.below HR.out.abv (HR.out.bel).size)
          have HA6 : Hid (∀ k ∈ foot g kg v6, w.heap.size ≤ k) := hT6.above HR.out.abv (HR.out.bel).size
          have HC6 : Hid (w6.heap[b5]? = some (.cells #[ptr g] 23 (0, 0))) := (hT6.chg.block _ (Array.getElem?_eq_some_iff.1 HR.out.dc).1 HR.out.n5f).trans HR.out.dc
          have HN6 : Hid (b5 ∉ foot g kg v6) := hT6.apart (rs := [b5]) (fun k hk => by rw [List.mem_singleton.1 hk]; exact HR.out.n5f) (fun k hk => by rw [List.mem_singleton.1 hk]; exact (Array.getElem?_eq_some_iff.1 HR.out.dc).1) _ (List.mem_singleton.2 rfl)
          have HD6 : Hid (Dk w6 g kg v6 (Sc.armS s (-1))) := hD6
          clear hD6 hT6
          generalize Sc.armS s (-1) = s6 at *
          go_wp2_with fail
          go_loopw [86] (fun s86 wq => ∃ (j : Nat) (v : Value) (t : Sc.St), j ≤ 30 ∧ s86 = .int .i64 (j : Int) ∧ Dk wq g kg v t ∧ Live 3 t ∧ t.pend.length ≤ 50 + j ∧ t.dn ≤ 100 + j ∧ wq.heap[b5]? = some (.cells #[ptr g] 23 (0, 0)) ∧ b5 ∉ foot g kg v ∧ Below w.heap.size w wq ∧ ∀ k ∈ foot g kg v, w.heap.size ≤ k) (fun s86 _ => 30 - (intOf s86).toNat)
          case atStart => exact ⟨0, v6, s6, by omega, rfl, HD6.out, HL6.out, HP6.out.1, HP6.out.2, HC6.out, HN6.out, HB6.out, HA6.out⟩
          case round =>
            rename World => wq
            obtain ⟨j, v9, t, hj, rfl, hD, hL, hpn, hdn9, hc, hn5, hb, ha⟩ := hrel
            have HD : Hid (Dk wq g kg v9 t) := hD
            have HL : Hid (Live 3 t) := hL
            have HC : Hid (wq.heap[b5]? = some (.cells #[ptr g] 23 (0, 0))) := hc
            have HN : Hid (b5 ∉ foot g kg v9) := hn5
            have HB : Hid (Below w.heap.size w wq) := hb
            have HA : Hid (∀ k ∈ foot g kg v9, w.heap.size ≤ k) := ha
            have c5 := (one_cell hc).1
            clear hD hL hc hn5 hb ha HD6 HL6 HC6 HN6 HB6 HA6
            by_cases hj3 : j < 30
            · have dj : decide ((j : Int) < 30) = true := by simp; omega
              have HW := write_any g kg v9 t 0 txtY wq HD.out (by omega) (by omega)
              have hwl := HL.out.write (i := 0) (by omega) (by omega) (x := txtY) (by decide)
              rw [hwl.2.2] at HW
              have HL2 : Hid (Live 3 (Sc.writeS t 0 txtY)) := hwl.2.1
              have hst := Sc.writeS_step t 0 txtY
              have hs1 := hst.pend
              have hs2 := hst.dn
              clear hwl hst
              generalize Sc.writeS t 0 txtY = t' at *
              go_wp2_with fail
              refine HW.mono ?_
              rintro e w7 ⟨v7, rfl, hD7, hT7⟩
              have HFN : Hid (∃ (j' : Nat) (v : Value) (t : Sc.St), j' ≤ 30 ∧ Value.int .i64 ((j : Int) + 1) = .int .i64 (j' : Int) ∧ Dk w7 g kg v t ∧ Live 3 t ∧ t.pend.length ≤ 50 + j' ∧ t.dn ≤ 100 + j' ∧ w7.heap[b5]? = some (.cells #[ptr g] 23 (0, 0)) ∧ b5 ∉ foot g kg v ∧ Below w.heap.size w w7 ∧ ∀ k ∈ foot g kg v, w.heap.size ≤ k) := ⟨j + 1, v7, t', by omega, by go_num, hD7, HL2.out, by omega, by omega, (hT7.chg.block _ (Array.getElem?_eq_some_iff.1 HC.out).1 HN.out).trans HC.out, hT7.apart (rs := [b5]) (fun k hk => by rw [List.mem_singleton.1 hk]; exact HN.out) (fun k hk => by rw [List.mem_singleton.1 hk]; exact (Array.getElem?_eq_some_iff.1 HC.out).1) _ (List.mem_singleton.2 rfl), HB.out.trans (hT7.below HA.out HB.out.size), hT7.above HA.out HB.out.size⟩
              clear hD7 hT7
              go_wp2
              go_roundw
              case rel => first | exact HFN.out | ((repeat apply Exists.intro); exact ⟨HFN.out, rfl⟩)
              case measure => (simp [intOf]) <;> omega
            · have dj : decide ((j : Int) < 30) = false := by simp; omega
              go_wp2_with (go_at_call 17; refine (works_any _).mono ?_; rintro e w8 ⟨rfl, hB8⟩)
              go_ret
              exact ⟨rfl, HB.out.trans (hB8.mono HB.out.size)⟩
        · have HON := on_any g kg v s none 0 0 (fun _ => false) wr HR.out.dk (.inl rfl) (by omega) (by omega)
          rw [show Sc.onE s = 0 by unfold Sc.onE; rw [hdn2]; rfl] at HON
          have HLV : Hid ((Sc.onS s (marks 0 fun _ => false)).down = false ∧ (Sc.onS s (marks 0 fun _ => false)).kept.length = 3) := by
            show _ ∧ _
            unfold Sc.onS
            rw [hdn2]
            simp only [if_true]
            exact ⟨rfl, by simp only [Sc.back, Sc.keepI_length]; exact HR.out.ar.three⟩
          have hso := Sc.onS_step s (marks 0 fun _ => false)
          have hso1 := hso.pend
          have hso2 := hso.dn
          clear hso
          generalize Sc.onS s (marks 0 fun _ => false) = s5 at *
          go_wp2_with fail
          refine HON.mono ?_
          rintro e w5 ⟨v5, rfl, hD5, hT5⟩
          have HD5 : Hid (Dk w5 g kg v5 s5) := hD5
          have HB5 : Hid (Below w.heap.size w w5) := HR.out.bel.trans (hT5.below HR.out.abv HR.out.bel.size)
          have HA5 : Hid (∀ k ∈ foot g kg v5, w.heap.size ≤ k) := hT5.above HR.out.abv HR.out.bel.size
          have HC5 : Hid (w5.heap[b5]? = some (.cells #[ptr g] 23 (0, 0))) := (hT5.chg.block _ (Array.getElem?_eq_some_iff.1 HR.out.dc).1 HR.out.n5f).trans HR.out.dc
          have HN5 : Hid (b5 ∉ foot g kg v5) := hT5.apart (rs := [b5]) (fun k hk => by rw [List.mem_singleton.1 hk]; exact HR.out.n5f) (fun k hk => by rw [List.mem_singleton.1 hk]; exact (Array.getElem?_eq_some_iff.1 HR.out.dc).1) _ (List.mem_singleton.2 rfl)
          have c55 := (one_cell HC5.out).1
          clear hD5 hT5 HON c5
          go_wp2_with fail
          refine (arm_any g kg v5 s5 (-1) w5 HD5.out (by omega)).mono ?_
          rw [show Sc.liveE s5 = 0 by unfold Sc.liveE; rw [HLV.out.1]; rfl]
          rintro e w6 ⟨v6, rfl, hD6, hT6⟩
          have HL6 : Hid (Live 3 (Sc.armS s5 (-1))) := by
            show Live 3 _
            unfold Sc.armS
            rw [HLV.out.1]
            exact ⟨HLV.out.1, rfl, HLV.out.2⟩
          have HP6 : Hid ((Sc.armS s5 (-1)).pend.length ≤ 50 ∧ (Sc.armS s5 (-1)).dn ≤ 100) := by
            have hs := Sc.armS_step s5 (-1)
            have h1 := hs.pend
            have h2 := hs.dn
            exact ⟨by omega, by omega⟩
          have HB6 : Hid (Below w.heap.size w w6) := (HB5.out).trans (hT6.below HA5.out (HB5.out).size)
          have HA6 : Hid (∀ k ∈ foot g kg v6, w.heap.size ≤ k) := hT6.above HA5.out (HB5.out).size
          have HC6 : Hid (w6.heap[b5]? = some (.cells #[ptr g] 23 (0, 0))) := (hT6.chg.block _ (Array.getElem?_eq_some_iff.1 HC5.out).1 HN5.out).trans HC5.out
          have HN6 : Hid (b5 ∉ foot g kg v6) := hT6.apart (rs := [b5]) (fun k hk => by rw [List.mem_singleton.1 hk]; exact HN5.out) (fun k hk => by rw [List.mem_singleton.1 hk]; exact (Array.getElem?_eq_some_iff.1 HC5.out).1) _ (List.mem_singleton.2 rfl)
          have HD6 : Hid (Dk w6 g kg v6 (Sc.armS s5 (-1))) := hD6
          clear hD6 hT6
          generalize Sc.armS s5 (-1) = s6 at *
          go_wp2_with fail
          go_loopw [86] (fun s86 wq => ∃ (j : Nat) (v : Value) (t : Sc.St), j ≤ 30 ∧ s86 = .int .i64 (j : Int) ∧ Dk wq g kg v t ∧ Live 3 t ∧ t.pend.length ≤ 50 + j ∧ t.dn ≤ 100 + j ∧ wq.heap[b5]? = some (.cells #[ptr g] 23 (0, 0)) ∧ b5 ∉ foot g kg v ∧ Below w.heap.size w wq ∧ ∀ k ∈ foot g kg v, w.heap.size ≤ k) (fun s86 _ => 30 - (intOf s86).toNat)
          case atStart => exact ⟨0, v6, s6, by omega, rfl, HD6.out, HL6.out, HP6.out.1, HP6.out.2, HC6.out, HN6.out, HB6.out, HA6.out⟩
          case round =>
            rename World => wq
            obtain ⟨j, v9, t, hj, rfl, hD, hL, hpn, hdn9, hc, hn5, hb, ha⟩ := hrel
            have HD : Hid (Dk wq g kg v9 t) := hD
            have HL : Hid (Live 3 t) := hL
            have HC : Hid (wq.heap[b5]? = some (.cells #[ptr g] 23 (0, 0))) := hc
            have HN : Hid (b5 ∉ foot g kg v9) := hn5
            have HB : Hid (Below w.heap.size w wq) := hb
            have HA : Hid (∀ k ∈ foot g kg v9, w.heap.size ≤ k) := ha
            have c5 := (one_cell hc).1
            clear hD hL hc hn5 hb ha HD6 HL6 HC6 HN6 HB6 HA6
            by_cases hj3 : j < 30
            · have dj : decide ((j : Int) < 30) = true := by simp; omega
              have HW := write_any g kg v9 t 0 txtY wq HD.out (by omega) (by omega)
              have hwl := HL.out.write (i := 0) (by omega) (by omega) (x := txtY) (by decide)
              rw [hwl.2.2] at HW
              have HL2 : Hid (Live 3 (Sc.writeS t 0 txtY)) := hwl.2.1
              have hst := Sc.writeS_step t 0 txtY
              have hs1 := hst.pend
              have hs2 := hst.dn
              clear hwl hst
              generalize Sc.writeS t 0 txtY = t' at *
              go_wp2_with fail
              refine HW.mono ?_
              rintro e w7 ⟨v7, rfl, hD7, hT7⟩
              have HFN : Hid (∃ (j' : Nat) (v : Value) (t : Sc.St), j' ≤ 30 ∧ Value.int .i64 ((j : Int) + 1) = .int .i64 (j' : Int) ∧ Dk w7 g kg v t ∧ Live 3 t ∧ t.pend.length ≤ 50 + j' ∧ t.dn ≤ 100 + j' ∧ w7.heap[b5]? = some (.cells #[ptr g] 23 (0, 0)) ∧ b5 ∉ foot g kg v ∧ Below w.heap.size w w7 ∧ ∀ k ∈ foot g kg v, w.heap.size ≤ k) := ⟨j + 1, v7, t', by omega, by go_num, hD7, HL2.out, by omega, by omega, (hT7.chg.block _ (Array.getElem?_eq_some_iff.1 HC.out).1 HN.out).trans HC.out, hT7.apart (rs := [b5]) (fun k hk => by rw [List.mem_singleton.1 hk]; exact HN.out) (fun k hk => by rw [List.mem_singleton.1 hk]; exact (Array.getElem?_eq_some_iff.1 HC.out).1) _ (List.mem_singleton.2 rfl), HB.out.trans (hT7.below HA.out HB.out.size), hT7.above HA.out HB.out.size⟩
              clear hD7 hT7
              go_wp2
              go_roundw
              case rel => first | exact HFN.out | ((repeat apply Exists.intro); exact ⟨HFN.out, rfl⟩)
              case measure => (simp [intOf]) <;> omega
            · have dj : decide ((j : Int) < 30) = false := by simp; omega
              go_wp2_with (go_at_call 17; refine (works_any _).mono ?_; rintro e w8 ⟨rfl, hB8⟩)
              go_ret
              exact ⟨rfl, HB.out.trans (hB8.mono HB.out.size)⟩
      · have d1 : decide ((k : Int) < (len : Int)) = false := by simp; omega
        have HDW := down_any g kg v s wr HR.out.dk
        have hpn0 : s.pend.length ≤ 40 := by have := HR.out.ar.pend; omega
        have hdn0 : s.dn ≤ 60 := by have := HR.out.ar.small; omega
        go_wp2_with fail
        refine HDW.mono ?_
        rintro e wS ⟨rfl, hwS⟩
        rw [hwS]
        clear hwS wS
        clear HDW
        cases hdn2 : s.down
        · have HLV : Hid (s.down = false ∧ s.kept.length = 3) := ⟨hdn2, HR.out.ar.three⟩
          go_wp2_with fail
          refine (arm_any g kg v s (-1) wr HR.out.dk (by omega)).mono ?_
          rw [show Sc.liveE s = 0 by unfold Sc.liveE; rw [HLV.out.1]; rfl]
          rintro e w6 ⟨v6, rfl, hD6, hT6⟩
          have HL6 : Hid (Live 3 (Sc.armS s (-1))) := by
            show Live 3 _
            unfold Sc.armS
            rw [HLV.out.1]
            exact ⟨HLV.out.1, rfl, HLV.out.2⟩
          have HP6 : Hid ((Sc.armS s (-1)).pend.length ≤ 50 ∧ (Sc.armS s (-1)).dn ≤ 100) := by
            have hs := Sc.armS_step s (-1)
            have h1 := hs.pend
            have h2 := hs.dn
            exact ⟨by omega, by omega⟩
          have HB6 : Hid (Below w.heap.size w w6) := (HR.out.bel).trans (hT6.below HR.out.abv (HR.out.bel).size)
          have HA6 : Hid (∀ k ∈ foot g kg v6, w.heap.size ≤ k) := hT6.above HR.out.abv (HR.out.bel).size
          have HC6 : Hid (w6.heap[b5]? = some (.cells #[ptr g] 23 (0, 0))) := (hT6.chg.block _ (Array.getElem?_eq_some_iff.1 HR.out.dc).1 HR.out.n5f).trans HR.out.dc
          have HN6 : Hid (b5 ∉ foot g kg v6) := hT6.apart (rs := [b5]) (fun k hk => by rw [List.mem_singleton.1 hk]; exact HR.out.n5f) (fun k hk => by rw [List.mem_singleton.1 hk]; exact (Array.getElem?_eq_some_iff.1 HR.out.dc).1) _ (List.mem_singleton.2 rfl)
          have HD6 : Hid (Dk w6 g kg v6 (Sc.armS s (-1))) := hD6
          clear hD6 hT6
          generalize Sc.armS s (-1) = s6 at *
          go_wp2_with fail
          go_loopw [86] (fun s86 wq => ∃ (j : Nat) (v : Value) (t : Sc.St), j ≤ 30 ∧ s86 = .int .i64 (j : Int) ∧ Dk wq g kg v t ∧ Live 3 t ∧ t.pend.length ≤ 50 + j ∧ t.dn ≤ 100 + j ∧ wq.heap[b5]? = some (.cells #[ptr g] 23 (0, 0)) ∧ b5 ∉ foot g kg v ∧ Below w.heap.size w wq ∧ ∀ k ∈ foot g kg v, w.heap.size ≤ k) (fun s86 _ => 30 - (intOf s86).toNat)
          case atStart => exact ⟨0, v6, s6, by omega, rfl, HD6.out, HL6.out, HP6.out.1, HP6.out.2, HC6.out, HN6.out, HB6.out, HA6.out⟩
          case round =>
            rename World => wq
            obtain ⟨j, v9, t, hj, rfl, hD, hL, hpn, hdn9, hc, hn5, hb, ha⟩ := hrel
            have HD : Hid (Dk wq g kg v9 t) := hD
            have HL : Hid (Live 3 t) := hL
            have HC : Hid (wq.heap[b5]? = some (.cells #[ptr g] 23 (0, 0))) := hc
            have HN : Hid (b5 ∉ foot g kg v9) := hn5
            have HB : Hid (Below w.heap.size w wq) := hb
            have HA : Hid (∀ k ∈ foot g kg v9, w.heap.size ≤ k) := ha
            have c5 := (one_cell hc).1
            clear hD hL hc hn5 hb ha HD6 HL6 HC6 HN6 HB6 HA6
            by_cases hj3 : j < 30
            · have dj : decide ((j : Int) < 30) = true := by simp; omega
              have HW := write_any g kg v9 t 0 txtY wq HD.out (by omega) (by omega)
              have hwl := HL.out.write (i := 0) (by omega) (by omega) (x := txtY) (by decide)
              rw [hwl.2.2] at HW
              have HL2 : Hid (Live 3 (Sc.writeS t 0 txtY)) := hwl.2.1
              have hst := Sc.writeS_step t 0 txtY
              have hs1 := hst.pend
              have hs2 := hst.dn
              clear hwl hst
              generalize Sc.writeS t 0 txtY = t' at *
              go_wp2_with fail
              refine HW.mono ?_
              rintro e w7 ⟨v7, rfl, hD7, hT7⟩
              have HFN : Hid (∃ (j' : Nat) (v : Value) (t : Sc.St), j' ≤ 30 ∧ Value.int .i64 ((j : Int) + 1) = .int .i64 (j' : Int) ∧ Dk w7 g kg v t ∧ Live 3 t ∧ t.pend.length ≤ 50 + j' ∧ t.dn ≤ 100 + j' ∧ w7.heap[b5]? = some (.cells #[ptr g] 23 (0, 0)) ∧ b5 ∉ foot g kg v ∧ Below w.heap.size w w7 ∧ ∀ k ∈ foot g kg v, w.heap.size ≤ k) := ⟨j + 1, v7, t', by omega, by go_num, hD7, HL2.out, by omega, by omega, (hT7.chg.block _ (Array.getElem?_eq_some_iff.1 HC.out).1 HN.out).trans HC.out, hT7.apart (rs := [b5]) (fun k hk => by rw [List.mem_singleton.1 hk]; exact HN.out) (fun k hk => by rw [List.mem_singleton.1 hk]; exact (Array.getElem?_eq_some_iff.1 HC.out).1) _ (List.mem_singleton.2 rfl), HB.out.trans (hT7.below HA.out HB.out.size), hT7.above HA.out HB.out.size⟩
              clear hD7 hT7
              go_wp2
              go_roundw
              case rel => first | exact HFN.out | ((repeat apply Exists.intro); exact ⟨HFN.out, rfl⟩)
              case measure => (simp [intOf]) <;> omega
            · have dj : decide ((j : Int) < 30) = false := by simp; omega
              go_wp2_with (go_at_call 17; refine (works_any _).mono ?_; rintro e w8 ⟨rfl, hB8⟩)
              go_ret
              exact ⟨rfl, HB.out.trans (hB8.mono HB.out.size)⟩
        · have HON := on_any g kg v s none 0 0 (fun _ => false) wr HR.out.dk (.inl rfl) (by omega) (by omega)
          rw [show Sc.onE s = 0 by unfold Sc.onE; rw [hdn2]; rfl] at HON
          have HLV : Hid ((Sc.onS s (marks 0 fun _ => false)).down = false ∧ (Sc.onS s (marks 0 fun _ => false)).kept.length = 3) := by
            show _ ∧ _
            unfold Sc.onS
            rw [hdn2]
            simp only [if_true]
            exact ⟨rfl, by simp only [Sc.back, Sc.keepI_length]; exact HR.out.ar.three⟩
          have hso := Sc.onS_step s (marks 0 fun _ => false)
          have hso1 := hso.pend
          have hso2 := hso.dn
          clear hso
          generalize Sc.onS s (marks 0 fun _ => false) = s5 at *
          go_wp2_with fail
          refine HON.mono ?_
          rintro e w5 ⟨v5, rfl, hD5, hT5⟩
          have HD5 : Hid (Dk w5 g kg v5 s5) := hD5
          have HB5 : Hid (Below w.heap.size w w5) := HR.out.bel.trans (hT5.below HR.out.abv HR.out.bel.size)
          have HA5 : Hid (∀ k ∈ foot g kg v5, w.heap.size ≤ k) := hT5.above HR.out.abv HR.out.bel.size
          have HC5 : Hid (w5.heap[b5]? = some (.cells #[ptr g] 23 (0, 0))) := (hT5.chg.block _ (Array.getElem?_eq_some_iff.1 HR.out.dc).1 HR.out.n5f).trans HR.out.dc
          have HN5 : Hid (b5 ∉ foot g kg v5) := hT5.apart (rs := [b5]) (fun k hk => by rw [List.mem_singleton.1 hk]; exact HR.out.n5f) (fun k hk => by rw [List.mem_singleton.1 hk]; exact (Array.getElem?_eq_some_iff.1 HR.out.dc).1) _ (List.mem_singleton.2 rfl)
          have c55 := (one_cell HC5.out).1
          clear hD5 hT5 HON c5
          go_wp2_with fail
          refine (arm_any g kg v5 s5 (-1) w5 HD5.out (by omega)).mono ?_
          rw [show Sc.liveE s5 = 0 by unfold Sc.liveE; rw [HLV.out.1]; rfl]
          rintro e w6 ⟨v6, rfl, hD6, hT6⟩
          have HL6 : Hid (Live 3 (Sc.armS s5 (-1))) := by
            show Live 3 _
            unfold Sc.armS
            rw [HLV.out.1]
            exact ⟨HLV.out.1, rfl, HLV.out.2⟩
          have HP6 : Hid ((Sc.armS s5 (-1)).pend.length ≤ 50 ∧ (Sc.armS s5 (-1)).dn ≤ 100) := by
            have hs := Sc.armS_step s5 (-1)
            have h1 := hs.pend
            have h2 := hs.dn
            exact ⟨by omega, by omega⟩
          have HB6 : Hid (Below w.heap.size w w6) := (HB5.out).trans (hT6.below HA5.out (HB5.out).size)
          have HA6 : Hid (∀ k ∈ foot g kg v6, w.heap.size ≤ k) := hT6.above HA5.out (HB5.out).size
          have HC6 : Hid (w6.heap[b5]? = some (.cells #[ptr g] 23 (0, 0))) := (hT6.chg.block _ (Array.getElem?_eq_some_iff.1 HC5.out).1 HN5.out).trans HC5.out
          have HN6 : Hid (b5 ∉ foot g kg v6) := hT6.apart (rs := [b5]) (fun k hk => by rw [List.mem_singleton.1 hk]; exact HN5.out) (fun k hk => by rw [List.mem_singleton.1 hk]; exact (Array.getElem?_eq_some_iff.1 HC5.out).1) _ (List.mem_singleton.2 rfl)
          have HD6 : Hid (Dk w6 g kg v6 (Sc.armS s5 (-1))) := hD6
          clear hD6 hT6
          generalize Sc.armS s5 (-1) = s6 at *
          go_wp2_with fail
          go_loopw [86] (fun s86 wq => ∃ (j : Nat) (v : Value) (t : Sc.St), j ≤ 30 ∧ s86 = .int .i64 (j : Int) ∧ Dk wq g kg v t ∧ Live 3 t ∧ t.pend.length ≤ 50 + j ∧ t.dn ≤ 100 + j ∧ wq.heap[b5]? = some (.cells #[ptr g] 23 (0, 0)) ∧ b5 ∉ foot g kg v ∧ Below w.heap.size w wq ∧ ∀ k ∈ foot g kg v, w.heap.size ≤ k) (fun s86 _ => 30 - (intOf s86).toNat)
          case atStart => exact ⟨0, v6, s6, by omega, rfl, HD6.out, HL6.out, HP6.out.1, HP6.out.2, HC6.out, HN6.out, HB6.out, HA6.out⟩
          case round =>
            rename World => wq
            obtain ⟨j, v9, t, hj, rfl, hD, hL, hpn, hdn9, hc, hn5, hb, ha⟩ := hrel
            have HD : Hid (Dk wq g kg v9 t) := hD
            have HL : Hid (Live 3 t) := hL
            have HC : Hid (wq.heap[b5]? = some (.cells #[ptr g] 23 (0, 0))) := hc
            have HN : Hid (b5 ∉ foot g kg v9) := hn5
            have HB : Hid (Below w.heap.size w wq) := hb
            have HA : Hid (∀ k ∈ foot g kg v9, w.heap.size ≤ k) := ha
            have c5 := (one_cell hc).1
            clear hD hL hc hn5 hb ha HD6 HL6 HC6 HN6 HB6 HA6
            by_cases hj3 : j < 30
            · have dj : decide ((j : Int) < 30) = true := by simp; omega
              have HW := write_any g kg v9 t 0 txtY wq HD.out (by omega) (by omega)
              have hwl := HL.out.write (i := 0) (by omega) (by omega) (x := txtY) (by decide)
              rw [hwl.2.2] at HW
              have HL2 : Hid (Live 3 (Sc.writeS t 0 txtY)) := hwl.2.1
              have hst := Sc.writeS_step t 0 txtY
              have hs1 := hst.pend
              have hs2 := hst.dn
              clear hwl hst
              generalize Sc.writeS t 0 txtY = t' at *
              go_wp2_with fail
              refine HW.mono ?_
              rintro e w7 ⟨v7, rfl, hD7, hT7⟩
              have HFN : Hid (∃ (j' : Nat) (v : Value) (t : Sc.St), j' ≤ 30 ∧ Value.int .i64 ((j : Int) + 1) = .int .i64 (j' : Int) ∧ Dk w7 g kg v t ∧ Live 3 t ∧ t.pend.length ≤ 50 + j' ∧ t.dn ≤ 100 + j' ∧ w7.heap[b5]? = some (.cells #[ptr g] 23 (0, 0)) ∧ b5 ∉ foot g kg v ∧ Below w.heap.size w w7 ∧ ∀ k ∈ foot g kg v, w.heap.size ≤ k) := ⟨j + 1, v7, t', by omega, by go_num, hD7, HL2.out, by omega, by omega, (hT7.chg.block _ (Array.getElem?_eq_some_iff.1 HC.out).1 HN.out).trans HC.out, hT7.apart (rs := [b5]) (fun k hk => by rw [List.mem_singleton.1 hk]; exact HN.out) (fun k hk => by rw [List.mem_singleton.1 hk]; exact (Array.getElem?_eq_some_iff.1 HC.out).1) _ (List.mem_singleton.2 rfl), HB.out.trans (hT7.below HA.out HB.out.size), hT7.above HA.out HB.out.size⟩
              clear hD7 hT7
              go_wp2
              go_roundw
              case rel => first | exact HFN.out | ((repeat apply Exists.intro); exact ⟨HFN.out, rfl⟩)
              case measure => (simp [intOf]) <;> omega
            · have dj : decide ((j : Int) < 30) = false := by simp; omega
              go_wp2_with (go_at_call 17; refine (works_any _).mono ?_; rintro e w8 ⟨rfl, hB8⟩)
              go_ret
              exact ⟨rfl, HB.out.trans (hB8.mono HB.out.size)⟩
end Go.Proofs.Ytbhbfnnlpkikbaa
