/- Proved: the walk of the law CastagnoliLinear answers true for any three slices of bytes. Condition: the table holds its sixteen numbers. -/
import Derived.Test.YtojgjgldheenkaaDoorZeros
import Derived.Test.YtojgjgldheenkaaDoorBurst
import Derived.Test.YtojgjgldheenkaaDoorMathL
import Derived.Deep.RegionHeld3
namespace Go.Proofs.YtojgjgldheenkaaDoor
open Go.RowKit
theorem made_mine (W : World) (n : Nat) (hn : n ≤ 2000) : Mine (W.alloc (.cells (madeCells #[.int .u8 0] n) 5)) W.heap.size (some ⟨W.heap.size, 0, none⟩) n n (List.replicate n 0) := by
  refine ⟨⟨by simp, .inr ⟨W.heap.size, n, _, rfl, Nat.le_refl _, heap_alloc_new W _, Nat.le_refl _, by unfold maxLen; omega, by rw [size_madeCells, Nat.mul_one], ?_⟩⟩, ?_, Nat.le_refl _⟩
  · rw [made_eq, List.take_of_length_le (by simp)]; rfl
  · intro x hx; rw [List.eq_of_mem_replicate hx]; decide
theorem Bytes.at {w : World} {a : Option Addr} {len : Nat} {bs : List Nat} (h : Bytes w a len bs) (i : Nat) (hi : i < len) : ∃ b off, a = some ⟨b, off, none⟩ ∧ w.cell? ⟨b, off + i, none⟩ = some (.int .u8 (bs.getD i 0 : Nat)) ∧ b < w.heap.size := by
  obtain ⟨_, _, _, h3⟩ := h
  rcases h3 with h3 | ⟨b, off, ha, hc⟩
  · omega
  · exact ⟨b, off, ha, hc i hi, block_lt_of_cell (hc i hi)⟩
theorem Bytes.first {w : World} {a : Option Addr} {len : Nat} {bs : List Nat} (h : Bytes w a len bs) (n : Nat) (hn : n ≤ len) : Bytes w a n (bs.take n) := by
  obtain ⟨h0, h1, h2, h3⟩ := h
  refine ⟨by simp; omega, fun x hx => h1 x (List.mem_of_mem_take hx), by omega, ?_⟩
  rcases h3 with h3 | ⟨b, off, ha, hc⟩
  · exact .inl (by omega)
  · refine .inr ⟨b, off, ha, fun i hi => ?_⟩
    rw [hc i (by omega), List.getD_eq_getElem?_getD, List.getD_eq_getElem?_getD, List.getElem?_take_of_lt hi]
theorem getD_take (L : List Nat) (n k : Nat) (h : k < n) : (L.take n).getD k 0 = L.getD k 0 := by
  rw [List.getD_eq_getElem?_getD, List.getD_eq_getElem?_getD, List.getElem?_take_of_lt h]
theorem three_set {w : World} {x y z a : Addr} {u v t s : Value} (h : w.cell? x = some u ∧ w.cell? y = some v ∧ w.cell? z = some t) (hx : x.block ≠ a.block) (hy : y.block ≠ a.block) (hz : z.block ≠ a.block) :
    (w.setCell a s).cell? x = some u ∧ (w.setCell a s).cell? y = some v ∧ (w.setCell a s).cell? z = some t := by
  have e : ∀ p : Addr, p.block ≠ a.block → (w.setCell a s).cell? p = w.cell? p := fun p hp => World.cell?_of_block (w := w) (heap_setCell_other w a p.block s hp)
  rw [e x hx, e y hy, e z hz]; exact h
set_option maxHeartbeats 800000 in
theorem linear_walk (a : Option Addr) (len cap : Nat) (bs : List Nat) (a2 : Option Addr) (len2 cap2 : Nat) (bs2 : List Nat) (a3 : Option Addr) (len3 cap3 : Nat) (bs3 : List Nat) (w : World)
    (hB : Bytes w a len bs) (hc : len ≤ cap) (hc' : cap ≤ 9223372036854775807) (hB2 : Bytes w a2 len2 bs2) (hc2 : len2 ≤ cap2) (hc2' : cap2 ≤ 9223372036854775807) (hB3 : Bytes w a3 len3 bs3) (hc3 : len3 ≤ cap3) (hc3' : cap3 ≤ 9223372036854775807) (hT : Tab w) (h0 : 0 < w.heap.size) :
    Calls Tryd.prog 7 #[.slice a len cap, .slice a2 len2 cap2, .slice a3 len3 cap3] w fun e w' => e = .returned (.bool true) ∧ Below w.heap.size w w' := by
  go_enter Tryd.func7, Tryd.ntmps7
  go_wp2_with fail
  refine (few_any a len cap bs w hB hc hc').mono ?_
  rintro e w1 ⟨g, cap', rfl, hM, hb⟩
  have hl : min len 2000 ≤ 2000 := by omega
  clear hB
  generalize min len 2000 = l at *
  generalize bs.take 2000 = cs at *
  obtain ⟨q, hq, hql, hq2⟩ : ∃ q : Nat, (if len2 < l then (len2 : Int) else (l : Int)) = (q : Int) ∧ q ≤ l ∧ q ≤ len2 := by
    by_cases h : len2 < l
    · exact ⟨len2, if_pos h, by omega, by omega⟩
    · exact ⟨l, if_neg h, by omega, by omega⟩
  obtain ⟨n, hn, hnq, hn3⟩ : ∃ n : Nat, (if len3 < q then (len3 : Int) else (q : Int)) = (n : Int) ∧ n ≤ q ∧ n ≤ len3 := by
    by_cases h : len3 < q
    · exact ⟨len3, if_pos h, by omega, by omega⟩
    · exact ⟨q, if_neg h, by omega, by omega⟩
  have hmk : ∀ W : World, (Instr.makeSlice 23 (.int .i64 (n : Int)) (.int .i64 (n : Int))).run Tryd.prog W = .ok (.slice (some ⟨W.heap.size, 0, none⟩) n n) (W.alloc (.cells (madeCells #[.int .u8 0] n) 5)) :=
    fun W => run_make_row' 23 5 (.int .u8 0) 1 Tryd.underlying23 (by kernel_rfl) rfl .i64 .i64 n (by omega) (by omega) W
  go_wp2_with fail
  obtain ⟨L, hL⟩ : ∃ L, L = Crc.mix (cs.take n) (bs2.take n) (bs3.take n) := ⟨_, rfl⟩
  have hcl := hM.length
  have hcl2 := hB2.1
  have hcl3 := hB3.1
  have hLn : L.length = n := by rw [hL, Crc.mix_length _ _ _ (by simp; omega) (by simp; omega)]; simp; omega
  have hLk : Hid (∀ k, k < n → L.getD k 0 = cs.getD k 0 ^^^ bs2.getD k 0 ^^^ bs3.getD k 0) := fun k hk => by
    rw [hL, Crc.mix_getD _ _ _ (by simp; omega) (by simp; omega) k (by simp; omega), getD_take _ _ _ hk, getD_take _ _ _ hk, getD_take _ _ _ hk]
  have hLs : Hid (Crc.sum L = Crc.sum (cs.take n) ^^^ Crc.sum (bs2.take n) ^^^ Crc.sum (bs3.take n)) := by
    show Crc.sum L = _
    rw [hL]; exact Crc.sum_mix _ _ _ (by simp; omega) (by simp; omega)
  have HLn : Hid (L.length = n) := hLn
  have hg : l ≠ 0 → g < w1.heap.size := fun h => block_lt_of_cell (hM.at 0 (by omega)).1
  clear hL hLn hcl hcl2 hcl3
  go_loopw [9, 22] (fun _ s22 wr => ∃ k : Nat, k ≤ n ∧ s22 = .int .i64 k ∧ Mine wr w1.heap.size (some ⟨w1.heap.size, 0, none⟩) n n (Crc.upTo L k) ∧ Below w1.heap.size w1 wr) (fun _ s22 _ => n - (intOf s22).toNat)
  case atStart => exact ⟨0, by omega, rfl, by rw [Crc.upTo_zero, HLn.out]; exact made_mine w1 n (by omega), (Below.refl _ _).alloc (Nat.le_refl _) _⟩
  case round =>
    obtain ⟨k, hk, rfl, hMd, hbr⟩ := hrel
    by_cases hlt : k < n
    · have hkn : (k : Int) < (n : Int) := by omega
      have hk0 : (0 : Int) ≤ (k : Int) := Int.natCast_nonneg _
      have hkl : (k : Int) < (l : Int) := by omega
      have hkl2 : (k : Int) < (len2 : Int) := by omega
      have hkl3 : (k : Int) < (len3 : Int) := by omega
      obtain ⟨b2, off2, rfl, hcb, hb2⟩ := hB2.at k (by omega)
      obtain ⟨b3, off3, rfl, hcc, hb3⟩ := hB3.at k (by omega)
      obtain ⟨hca, _, _⟩ := hM.at k (by omega)
      have hg' := hg (by omega)
      have hws := hb.size
      have hsz : Hid (w.heap.size ≤ w1.heap.size) := hb.size
      have hS : wr.cell? ⟨g, k, none⟩ = some (.int .u8 (cs.getD k 0 : Nat)) ∧ wr.cell? ⟨b2, off2 + k, none⟩ = some (.int .u8 (bs2.getD k 0 : Nat)) ∧ wr.cell? ⟨b3, off3 + k, none⟩ = some (.int .u8 (bs3.getD k 0 : Nat)) :=
        ⟨(hbr.cell (p := ⟨g, k, none⟩) hg').trans hca, (hbr.cell (p := ⟨b2, off2 + k, none⟩) (by show b2 < _; omega)).trans ((hb.cell (p := ⟨b2, off2 + k, none⟩) hb2).trans hcb), (hbr.cell (p := ⟨b3, off3 + k, none⟩) (by show b3 < _; omega)).trans ((hb.cell (p := ⟨b3, off3 + k, none⟩) hb3).trans hcc)⟩
      obtain ⟨hcd, hfd, _⟩ := hMd.at k hlt
      have hv := hLk.out k hlt
      have hxa := Crc.getD_lt8 hM.2.1 k
      have hxb := Crc.getD_lt8 hB2.2.1 k
      have hxc := Crc.getD_lt8 hB3.2.1 k
      have hset := Crc.upTo_set L k (by rw [HLn.out]; exact hlt)
      have HSET : Hid ((Crc.upTo L k).set k (L.getD k 0) = Crc.upTo L (k + 1)) := hset
      clear hset hca hcb hcc
      generalize cs.getD k 0 = x at *
      generalize bs2.getD k 0 = y at *
      generalize bs3.getD k 0 = z at *
      have e1 := u8_xor_nat x y hxa hxb
      have e2 := u8_xor_nat (x ^^^ y) z (Crc.xor_lt8 hxa hxb) hxc
      have HV : Hid (L.getD k 0 = x ^^^ y ^^^ z) := hv
      have HL8 : Hid (x ^^^ y ^^^ z < 256) := Crc.xor_lt8 (Crc.xor_lt8 hxa hxb) hxc
      have HS : Hid (wr.cell? ⟨g, k, none⟩ = some (.int .u8 (x : Nat)) ∧ wr.cell? ⟨b2, off2 + k, none⟩ = some (.int .u8 (y : Nat)) ∧ wr.cell? ⟨b3, off3 + k, none⟩ = some (.int .u8 (z : Nat))) := hS
      clear hv hS hws
      go_wp2_with fail
      go_region_held3 (fun w' => w'.cell? ⟨g, k, none⟩ = some (.int .u8 (x : Nat)) ∧ w'.cell? ⟨b2, off2 + k, none⟩ = some (.int .u8 (y : Nat)) ∧ w'.cell? ⟨b3, off3 + k, none⟩ = some (.int .u8 (z : Nat)))
        (first | exact HS.out | exact three_set (by exact HS.out) (by show g ≠ w1.heap.size; omega) (by show b2 ≠ w1.heap.size; have := hsz.out; omega) (by show b3 ≠ w1.heap.size; have := hsz.out; omega)) (fail)
      go_wp2
      go_roundw
      case rel =>
        have hnew := hMd.set k (x ^^^ y ^^^ z) HL8.out
        rw [← HV.out, HSET.out, HV.out] at hnew
        exact ⟨k + 1, by omega, by go_num, hnew, (hbr.setCell (Nat.le_refl _) _).drew⟩
      case measure => (simp [intOf]) <;> omega
    · have hkn : k = n := by omega
      subst hkn
      have hbw := hb.trans (hbr.mono hb.size)
      have hTr := hT.below h0 hbw
      have hr0 : 0 < wr.heap.size := by have := hbw.size; omega
      rw [show Crc.upTo L k = L from by have := Crc.upTo_all L; rw [HLn.out] at this; exact this] at hMd
      have dB := hMd.bytes (by omega)
      have aB := ((hM.bytes (by omega)).below hbr rfl).first k (by omega)
      have bB := (hB2.below hbw rfl).first k (by omega)
      have cB := (hB3.below hbw rfl).first k (by omega)
      have xa := sum_lt aB.2.1
      have xb := sum_lt bB.2.1
      have xc := sum_lt cB.2.1
      have e1 := u32_xor_nat _ _ xa xb
      have e2 := u32_xor_nat _ _ (Crc.xor_lt xa xb) xc
      rw [← hLs.out] at e2
      have DB : Hid (Bytes wr (some ⟨w1.heap.size, 0, none⟩) k L) := dB
      have AB : Hid (Bytes wr (some ⟨g, 0, none⟩) k (cs.take k)) := aB
      have BB : Hid (Bytes wr a2 k (bs2.take k)) := bB
      have CB : Hid (Bytes wr a3 k (bs3.take k)) := cB
      have hcap := hM.2.2
      have hk0 : (0 : Int) ≤ (k : Int) := Int.natCast_nonneg _
      have hka : (k : Int) ≤ (cap' : Int) := by omega
      have hkb : (k : Int) ≤ (cap2 : Int) := by omega
      have hkc : (k : Int) ≤ (cap3 : Int) := by omega
      clear dB aB bB cB hMd
      generalize cs.take k = da at *
      generalize bs2.take k = db at *
      generalize bs3.take k = dc at *
      go_wp2_with fail
      go_region_held3 (fun w' => Below wr.heap.size wr w') (first | exact (Below.refl _ _).drew | assumption)
        (first
          | (go_at_call_of 10 (Value.slice (some ⟨w1.heap.size, 0, none⟩) k k); refine (sum_any _ k k L _ ?_ ?_).mono ?_; exact DB.out.below (by assumption) rfl; exact hTr.below hr0 (by assumption); rintro e w' ⟨rfl, rfl⟩)
          | (go_at_call_of 10 (Value.slice (some ⟨g, 0, none⟩) k cap'); refine (sum_any _ k cap' da _ ?_ ?_).mono ?_; exact AB.out.below (by assumption) rfl; exact hTr.below hr0 (by assumption); rintro e w' ⟨rfl, rfl⟩)
          | (go_at_call_of 10 (Value.slice a2 k cap2); refine (sum_any _ k cap2 db _ ?_ ?_).mono ?_; exact BB.out.below (by assumption) rfl; exact hTr.below hr0 (by assumption); rintro e w' ⟨rfl, rfl⟩)
          | (go_at_call_of 10 (Value.slice a3 k cap3); refine (sum_any _ k cap3 dc _ ?_ ?_).mono ?_; exact CB.out.below (by assumption) rfl; exact hTr.below hr0 (by assumption); rintro e w' ⟨rfl, rfl⟩)
          | (go_at_call 14; refine (works_any _ ?_ ?_).mono ?_; exact hTr.below hr0 (by assumption); exact Nat.lt_of_lt_of_le hr0 (Below.size (by assumption)); rintro e w' ⟨rfl, hb6⟩; have hb7 : Below wr.heap.size wr w' := Below.trans (by assumption) (hb6.mono (Below.size (by assumption)))))
      all_goals go_wp2
      all_goals (go_ret; exact ⟨rfl, hbw.trans (Below.mono (by assumption) hbw.size)⟩)
end Go.Proofs.YtojgjgldheenkaaDoor
