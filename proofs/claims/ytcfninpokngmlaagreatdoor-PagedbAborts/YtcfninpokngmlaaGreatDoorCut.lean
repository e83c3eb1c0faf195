/- Proved: what page's cut and Sectors answer: a text in pieces. -/
import Derived.Test.YtcfninpokngmlaaGreatDoorPClone
import Derived.Test.YtcfninpokngmlaaGreatDoorMathG
import Derived.Test.YtcfninpokngmlaaGreatDoorSeal
namespace Go.Proofs.YtcfninpokngmlaaGreatDoor
open Go.RowKit
/- numbers in a slice -/
def Ints (w : World) (a : Option Addr) (ms : List Nat) : Prop := ms.length = 0 ∨ ∃ g off, a = some ⟨g, off, none⟩ ∧ ∀ (i x : Nat), ms[i]? = some x → w.cell? ⟨g, off + i, none⟩ = some (.int .i64 (x : Int))
theorem cell_below {N : Nat} {w wr : World} (h : Below N w wr) {g o : Nat} {v : Value} (hc : w.cell? ⟨g, o, none⟩ = some v) (hN : g < N) : wr.cell? ⟨g, o, none⟩ = some v := by
  rw [← hc]; exact World.cell?_of_block (h.block g hN)
theorem not_empty {s : ByteArray} (h : s.size ≠ 0) : s.toList.isEmpty = false := by
  rw [ByteArray.toList_eq]
  cases e : s.data.toList with
  | nil => exact absurd (by have := congrArg List.length e; rw [← Sc.size_eq] at this; exact this) h
  | cons c t => rfl
theorem is_empty {s : ByteArray} (h : s.size = 0) : s.toList.isEmpty = true := by
  rw [ByteArray.toList_eq]
  cases e : s.data.toList with
  | nil => rfl
  | cons c t => have := congrArg List.length e; rw [← Sc.size_eq, h] at this; simp at this
structure CutR (w : World) (s : ByteArray) (k : Nat) (ms : List Nat) (s0 s1 s2 s7 : Value) (wr : World) (s' : ByteArray) (k' : Nat) (ms' : List Nat) (rs : List ByteArray) (a' : Option Addr) (cap' : Nat) : Prop where
  e0 : s0 = .string s'
  e1 : s1 = .int .i64 (k' : Int)
  e2 : s2 = .slice a' ms'.length cap'
  own : OwnS wr w.heap.size s7 rs
  bel : Below w.heap.size w wr
  cut : Pg.cut s k ms = rs ++ Pg.cut s' k' ms'
  size : rs.length + s'.size ≤ s.size
  k0 : 0 < k'
  k1 : k' ≤ 100000
  m0 : ∀ x ∈ ms', 0 < x
  m1 : ∀ x ∈ ms', x ≤ 100000
  ints : Ints w a' ms'
  mc : ms'.length ≤ cap'
  cm : cap' ≤ 1000
set_option maxHeartbeats 2000000 in
set_option maxRecDepth 20000 in
theorem cut_any (s : ByteArray) (k : Nat) (ms : List Nat) (a : Option Addr) (cap : Nat) (w : World) (hs : s.size ≤ 100000) (hk0 : 0 < k) (hk1 : k ≤ 100000) (hm0 : ∀ x ∈ ms, 0 < x) (hm1 : ∀ x ∈ ms, x ≤ 100000) (hI : Ints w a ms) (hc : ms.length ≤ cap) (hc1 : cap ≤ 1000) :
    Calls Tryz.prog 114 #[.string s, .int .i64 (k : Int), .slice a ms.length cap] w fun e w' => ∃ v, e = .returned v ∧ OwnS w' w.heap.size v (Pg.cut s k ms) ∧ Below w.heap.size w w' := by
  have HI : Hid (Ints w a ms) := hI
  have HM : Hid ((∀ x ∈ ms, 0 < x) ∧ ∀ x ∈ ms, x ≤ 100000) := ⟨hm0, hm1⟩
  clear hI hm0 hm1
  go_enter Tryz.func114, Tryz.ntmps114
  go_wp2_with fail
  go_loopw [0, 1, 2, 7, 8] (fun s0 s1 s2 s7 _ wr => ∃ s' k' ms' rs a' cap', CutR w s k ms s0 s1 s2 s7 wr s' k' ms' rs a' cap') (fun s0 _ _ _ _ _ => match s0 with | .string z => z.size | _ => 0)
  case atStart => exact ⟨s, k, ms, [], a, cap, ⟨rfl, rfl, rfl, World.ownsRow_nil _ _ _ _, Below.refl _ _, rfl, by simp, hk0, hk1, HM.out.1, HM.out.2, HI.out, hc, hc1⟩⟩
  case round =>
    obtain ⟨s', k', ms', rs, a', cap', R⟩ := hrel
    obtain ⟨rfl, rfl, rfl, hO, hB, hcut, hsz, hk0', hk1', hm0', hm1', hI', hmc, hcm⟩ := R
    have HO : Hid (OwnS wr w.heap.size u7 rs) := hO
    have HB : Hid (Below w.heap.size w wr) := hB
    have HC : Hid (Pg.cut s k ms = rs ++ Pg.cut s' k' ms') := hcut
    have HM' : Hid ((∀ x ∈ ms', 0 < x) ∧ ∀ x ∈ ms', x ≤ 100000) := ⟨hm0', hm1'⟩
    have HI' : Hid (Ints w a' ms') := hI'
    clear hO hB hcut hm0' hm1' hI' HI HM
    by_cases h0 : s'.size = 0
    · have hemp := is_empty h0
      have HFN : Hid (OwnS wr w.heap.size u7 (Pg.cut s k ms)) := by
        rw [HC.out, Pg.cut_nil _ _ h0, List.append_nil]; exact HO.out
      go_wp2
      go_ret
      exact ⟨_, rfl, HFN.out, HB.out⟩
    · have hemp := not_empty h0
      have HCC : Hid (Pg.cut s k ms = (rs ++ [s'.extract 0 (min k' s'.size)]) ++ Pg.cut (s'.extract (min k' s'.size) s'.size) (ms'.headD k') ms'.tail) := by
        rw [HC.out, Pg.cut_cons hk0' HM'.out.1 h0, List.append_assoc]; rfl
      have hmin : min (k' : Int) (s'.size : Int) = ((min k' s'.size : Nat) : Int) := by omega
      have hn0 : 0 < min k' s'.size := by omega
      have hn1 : min k' s'.size ≤ s'.size := by omega
      generalize min k' s'.size = n at *
      have hes := Pg.ext_size s' n s'.size (Nat.le_refl _)
      have HZ : Hid ((s'.extract n s'.size).size = s'.size - n) := hes
      have hx0 := Pg.ext_size s' 0 n hn1
      have n0 : (0 : Int) ≤ (n : Int) := by omega
      have n1 : (n : Int) ≤ (s'.size : Int) := by omega
      have HCL := sclone_any (s'.extract 0 n) wr (by omega)
      clear hes hx0
      go_wp2_with fail
      refine HCL.mono ?_
      rintro e W ⟨rfl, hBW⟩
      clear HCL
      have HOq : Hid (OwnS W w.heap.size u7 rs) := own_below HO.out hBW
      have HBq : Hid (Below w.heap.size w W) := below_next HB.out hBW HB.out.size
      have hwq := HBq.out.size
      clear hBW HO HB HC
      have q1 : rs.length + [s'.extract 0 n].length ≤ 10000000 := by simp; omega
      have q2 : ∀ o, w.heap.size ≤ (W.alloc o).heap.size := fun o => by simp; omega
      have hsz2 : rs.length + s'.size ≤ 100000 := by omega
      generalize HP : s'.extract 0 n = pc at *
      have HPC : Hid (s'.extract 0 n = pc) := HP
      clear HP
      cases ms' with
      | nil =>
        clear HI' HM'
        go_wp2_with (refine app_many rfl (.tmp 15) (.tmp 20) rfl _ w.heap.size _ _ rs [pc] rfl (own_alloc HOq.out _) rfl (own_new W pc) q1 (q2 _) ?_; intro v3 w3 hO3 hG3 _; have HB3 : Hid (Below w.heap.size w w3) := HBq.out.trans (((Below.refl _ _).alloc hwq _).trans (below_grown hG3 (own_alloc HOq.out _) (q2 _))); have HO3 : Hid (OwnS w3 w.heap.size v3 (rs ++ [pc])) := hO3; clear hO3 hG3)
        go_roundw
        case rel => exact ⟨_, k', [], rs ++ [pc], a', cap', ⟨rfl, rfl, rfl, HO3.out, HB3.out, HCC.out, by rw [HZ.out, List.length_append]; simp; omega, hk0', hk1', by simp, by simp, .inl rfl, by simp, hcm⟩⟩
        case measure =>
          simp only [HZ.out]
          omega
      | cons x ms2 =>
        have hlen : (x :: ms2).length = ms2.length + 1 := rfl
        rcases HI'.out with h1 | ⟨g, off, rfl, hcl⟩
        · simp at h1
        have hc0 : w.cell? ⟨g, off, none⟩ = some (.int .i64 (x : Int)) := hcl 0 x rfl
        have HI2 : Hid (∀ (i y : Nat), ms2[i]? = some y → w.cell? ⟨g, off + 1 + i, none⟩ = some (.int .i64 (y : Int))) := fun i y hy => by
          have := hcl (i + 1) y hy
          rwa [show off + (i + 1) = off + 1 + i by omega] at this
        have hgN : g < w.heap.size := block_lt_of_cell hc0
        rw [hlen] at hmc
        have c1 : (1 : Int) ≤ (cap' : Int) := by omega
        have d1 : decide ((0 : Int) < ((ms2.length + 1 : Nat) : Int)) = true := decide_eq_true (by omega)
        clear hcl HI'
        rw [hlen]
        go_wp2_with (refine app_many rfl (.tmp 15) (.tmp 20) rfl _ w.heap.size _ _ rs [pc] rfl (own_alloc HOq.out _) rfl (own_new W pc) q1 (q2 _) ?_; intro v3 w3 hO3 hG3 _; have HB3 : Hid (Below w.heap.size w w3) := HBq.out.trans (((Below.refl _ _).alloc hwq _).trans (below_grown hG3 (own_alloc HOq.out _) (q2 _))); have HO3 : Hid (OwnS w3 w.heap.size v3 (rs ++ [pc])) := hO3; have hc3 := cell_below HB3.out hc0 hgN; clear hO3 hG3)
        go_quiet (fail)
        have HB4 : Hid (Below w.heap.size w (w3.drewN nq)) := ⟨HB3.out.os, HB3.out.tape, HB3.out.output, HB3.out.size, HB3.out.block⟩
        have HO4 : Hid (OwnS (w3.drewN nq) w.heap.size v3 (rs ++ [pc])) := own_keep HO3.out (fun _ _ => rfl)
        generalize w3.drewN nq = w4 at *
        go_wp2
        go_roundw
        case rel =>
          refine ⟨_, x, ms2, rs ++ [pc], _, cap' - 1, ⟨rfl, rfl, by first | rfl | (congr 1; omega), HO4.out, HB4.out, HCC.out, by rw [HZ.out, List.length_append]; simp; omega, HM'.out.1 x List.mem_cons_self, HM'.out.2 x List.mem_cons_self, fun y hy => HM'.out.1 y (List.mem_cons_of_mem _ hy), fun y hy => HM'.out.2 y (List.mem_cons_of_mem _ hy), ?_, by omega, by omega⟩⟩
          by_cases hl0 : ms2.length = 0
          · exact .inl hl0
          · refine .inr ⟨g, off + 1, ?_, HI2.out⟩
            rw [if_neg (by omega)]
        case measure =>
          simp only [HZ.out]
          omega
end Go.Proofs.YtcfninpokngmlaaGreatDoor
