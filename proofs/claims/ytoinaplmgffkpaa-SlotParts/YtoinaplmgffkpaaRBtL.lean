/- Proved: how long the document's bytes of a leaf are (stage 11). -/
import Derived.Test.YtoinaplmgffkpaaRBtH
namespace Go.Proofs.Ytoinaplmgffkpaa
open Go.RowKit
open Sl (Cel Nod)
set_option maxHeartbeats 4000000 in
set_option maxRecDepth 20000 in
theorem rbytes_leaf (n : Nod) (p : Pt) (w : World) (hN : Lies w n p) (hf : n.leaf = true) (hc : ∀ c ∈ n.cells, celOk c = true) (hl : n.cells.length ≤ 255) :
    Calls Try.prog 37 #[nv n p] w (Long w (sizeN n)) := by
  have HL : Hid (Lies w n p) := hN
  have HC := (show Hid (∀ c ∈ n.cells, celOk c = true) from hc)
  have HLE := (show Hid (∀ k, sumN ((n.cells.take k).map csize) ≤ 40800) from csum_le hc hl)
  have HSN := (show Hid (sizeN n = 2 + sumN (n.cells.map csize)) from by
    show sizeN n = _
    unfold sizeN headN sizes
    rw [if_pos hf, if_pos hf])
  clear hN hc
  generalize sizeN n = Z at *
  obtain ⟨lf, cs, ks, ds⟩ := n
  obtain ⟨a1, c1, a2, c2, a3, c3⟩ := p
  simp only at hf hl HC HLE HSN
  subst hf
  unfold nv
  simp only
  have HB0 : Hid (Below w.heap.size w (w.alloc (.cells #[.bool true, .slice a1 cs.length c1, .slice a2 ks.length c2, .slice a3 ds.length c3] 26))) := below_alloc _ _
  have HN0 : Hid (Brow (w.alloc (.cells #[.bool true, .slice a1 cs.length c1, .slice a2 ks.length c2, .slice a3 ds.length c3] 26)) w.heap.size [.bool true, .slice a1 cs.length c1, .slice a2 ks.length c2, .slice a3 ds.length c3] 26) := Brow.new w [.bool true, .slice a1 cs.length c1, .slice a2 ks.length c2, .slice a3 ds.length c3] 26
  have hs0 : w.heap.size + 1 ≤ (w.alloc (.cells #[.bool true, .slice a1 cs.length c1, .slice a2 ks.length c2, .slice a3 ds.length c3] 26)).heap.size := by rw [size_alloc1]; omega
  have i0 : (cs.length : Int) ≤ 255 := by omega
  have i1 : (cs.length : Int) % 256 = (cs.length : Int) := by omega
  have hcv := str_of_own (one_own (w.alloc (.cells #[.bool true, .slice a1 cs.length c1, .slice a2 ks.length c2, .slice a3 ds.length c3] 26)) (cs.length : Int) cs.length rfl) (fun x hx => by rw [List.mem_singleton.1 hx]; omega)
  rw [size_alloc1] at hcv
  have HZ : Hid ((⟨#[1]⟩ ++ tb [cs.length] : ByteArray).size = 2) := by
    show (⟨#[1]⟩ ++ tb [cs.length] : ByteArray).size = 2
    rw [ByteArray.size_append, tb_size]; rfl
  have h9 : ¬ 9223372036854775807 < (⟨#[1]⟩ : ByteArray).size + (tb [cs.length]).size := by rw [tb_size, List.length_singleton]; decide
  have h8 : ¬ 9223372036854775807 < 1 + (tb [cs.length]).size := by rw [tb_size, List.length_singleton]; decide
  generalize tb [cs.length] = S0 at *
  have HB1 : Hid (Below w.heap.size w ((w.alloc (.cells #[.bool true, .slice a1 cs.length c1, .slice a2 ks.length c2, .slice a3 ds.length c3] 26)).alloc (.cells #[.int .u8 (cs.length : Int)] 5))) := HB0.out.alloc (by omega) _
  have HN1 : Hid (Brow ((w.alloc (.cells #[.bool true, .slice a1 cs.length c1, .slice a2 ks.length c2, .slice a3 ds.length c3] 26)).alloc (.cells #[.int .u8 (cs.length : Int)] 5)) w.heap.size [.bool true, .slice a1 cs.length c1, .slice a2 ks.length c2, .slice a3 ds.length c3] 26) := HN0.out.alloc _
  have hs1 : w.heap.size + 1 ≤ ((w.alloc (.cells #[.bool true, .slice a1 cs.length c1, .slice a2 ks.length c2, .slice a3 ds.length c3] 26)).alloc (.cells #[.int .u8 (cs.length : Int)] 5)).heap.size := by rw [size_alloc1]; omega
  clear HB0 HN0
  go_enter Try.func37, Try.ntmps37
  go_wp2_with fail
  generalize ((w.alloc (.cells #[.bool true, .slice a1 cs.length c1, .slice a2 ks.length c2, .slice a3 ds.length c3] 26)).alloc (.cells #[.int .u8 (cs.length : Int)] 5)) = wI at *
  clear hcv h9 h8 i1 hs0
  go_loopw [3, 4] (fun s3 s4 wr => ∃ (k : Nat) (t : ByteArray), k ≤ cs.length ∧ s4 = .int .i64 (k : Int) ∧ s3 = .string t ∧ t.size = 2 + sumN ((cs.take k).map csize) ∧ Below wI.heap.size wI wr) (fun _ s4 _ => cs.length - (intOf s4).toNat)
  case atStart => exact ⟨0, _, by omega, rfl, rfl, HZ.out, Below.refl _ _⟩
  case round =>
    obtain ⟨k, t, hk, rfl, rfl, htz, hB⟩ := hrel
    have HTZ := (show Hid (t.size = 2 + sumN ((cs.take k).map csize) ∧ sumN ((cs.take k).map csize) ≤ 40800) from ⟨htz, HLE.out k⟩)
    have HBr := (show Hid (Below wI.heap.size wI wr) from hB)
    have HBW := (show Hid (Below w.heap.size w wr) from HB1.out.trans (hB.mono (by omega)))
    have HN := (show Hid (Brow wr w.heap.size [.bool true, .slice a1 cs.length c1, .slice a2 ks.length c2, .slice a3 ds.length c3] 26) from HN1.out.below hB (by omega))
    have hsr : wI.heap.size ≤ wr.heap.size := hB.size
    clear htz hB
    have q0 := HN.out.at 0 _ rfl
    have q1 := HN.out.at 1 _ rfl
    have q2 := HN.out.at 2 _ rfl
    have q3 := HN.out.at 3 _ rfl
    by_cases hlt : k < cs.length
    · obtain ⟨b, off, hab, hb, hc⟩ := HL.out.r1.cell (Nat.lt_of_le_of_lt (Nat.zero_le _) hlt)
      simp only at hab
      subst hab
      obtain ⟨g0, g1, g2, g3⟩ := (hc k hlt).below HBW.out hb
      clear hc
      have d1 : decide ((k : Int) < (cs.length : Int)) = true := decide_eq_true (by omega)
      have j1 : (k : Int) < (cs.length : Int) := by omega
      have j2 : (0 : Int) ≤ (k : Int) := by omega
      have hok := HC.out _ (Sl.getD_mem cs k Sl.cel0 hlt)
      have HNX' : sumN ((cs.take (k + 1)).map csize) = sumN ((cs.take k).map csize) + csize (cs.getD k Sl.cel0) := by rw [Sl.take_map csize cs k Sl.cel0 hlt, sumN_append]; simp [sumN]
      have HNX : Hid (sumN ((cs.take (k + 1)).map csize) = sumN ((cs.take k).map csize) + csize (cs.getD k Sl.cel0)) := HNX'
      clear HNX'
      generalize cs.getD k Sl.cel0 = x at *
      obtain ⟨xk, xx, xo, xl⟩ := x
      simp only at g0 g1 g2 g3
      by_cases ho : xo = 0
      · have hp := celOk_plain hok ho
        simp only at hp
        obtain ⟨hxk0, hxx0, _, _, hl0⟩ := hp
        subst hl0 ho
        have hxk : xk.size ≤ 255 := by omega
        have hxx : xx.size ≤ 255 := by omega
        have hcz : csize ⟨xk, xx, 0, 0⟩ = 3 + xk.size + xx.size := rfl
        rw [hcz] at HNX
        clear hok hcz hxk0 hxx0
        go_upto_region 9 with fail
        have HS0 := (show Hid ((fun W : World => Brow W wr.heap.size [.string xk, .string xx, .int .i64 0, .int .i64 0] 28) (wr.alloc (.cells #[.string xk, .string xx, .int .i64 0, .int .i64 0] 28)).drew) from (Brow.new wr _ 28).drew)
        have HB0 := (show Hid (Below wI.heap.size wI (wr.alloc (.cells #[.string xk, .string xx, .int .i64 0, .int .i64 0] 28)).drew) from (HBr.out.alloc hsr _).drew)
        clear HBr HBW HN q0 q1 q2 q3 g0 g1 g2 g3
        refine wp_region_held_drew (S := (fun W : World => Brow W wr.heap.size [.string xk, .string xx, .int .i64 0, .int .i64 0] 28)) (by kernel_rfl) HS0.out (fun _ => ?_)
        generalize (wr.alloc (.cells #[.string xk, .string xx, .int .i64 0, .int .i64 0] 28)).drew = wd at *
        refine heldTake 0 (some 46) (.string t) rfl rfl (by kernel_rfl) (by kernel_rfl) (by kernel_rfl) (fun _ _ _ h => h) (Or.inl ⟨by rfl, fun w hS => ?_⟩) HS0.out ?_
        · (go_simp)
        simp only [Act.put, List.setIfInBounds_toArray, List.set_cons_zero, List.set_cons_succ]
        refine heldTake 1 (some 47) (.pointer (some ⟨wr.heap.size, 0, none⟩)) rfl rfl (by kernel_rfl) (by kernel_rfl) (by kernel_rfl) (fun _ _ _ h => h) (Or.inl ⟨by rfl, fun w hS => ?_⟩) HS0.out ?_
        · (go_simp)
        simp only [Act.put, List.setIfInBounds_toArray, List.set_cons_zero, List.set_cons_succ]
        refine heldTake 2 (some 48) (.string xk) rfl rfl (by kernel_rfl) (by kernel_rfl) (by kernel_rfl) (fun _ _ _ h => h) (Or.inl ⟨by rfl, fun w hS => ?_⟩) HS0.out ?_
        · (have q := hS.at 0 _ rfl; go_simp)
        simp only [Act.put, List.setIfInBounds_toArray, List.set_cons_zero, List.set_cons_succ]
        refine heldTake 6 (some 52) (.pointer (some ⟨wr.heap.size, 1, none⟩)) rfl rfl (by kernel_rfl) (by kernel_rfl) (by kernel_rfl) (fun _ _ _ h => h) (Or.inl ⟨by rfl, fun w hS => ?_⟩) HS0.out ?_
        · (go_simp)
        simp only [Act.put, List.setIfInBounds_toArray, List.set_cons_zero, List.set_cons_succ]
        refine heldTake 7 (some 53) (.string xx) rfl rfl (by kernel_rfl) (by kernel_rfl) (by kernel_rfl) (fun _ _ _ h => h) (Or.inl ⟨by rfl, fun w hS => ?_⟩) HS0.out ?_
        · (have q := hS.at 1 _ rfl; go_simp)
        simp only [Act.put, List.setIfInBounds_toArray, List.set_cons_zero, List.set_cons_succ]
        refine heldOne 3 (by kernel_rfl) rfl (by rfl) (fun KK hK => ?_)
        go_simp
        go_at_call 65
        refine ((rtext_any xk wd hxk).mono (fun _ _ hx => hx.ex)).mono ?_
        rintro e w1 ⟨S1, rfl, hzS1, hB1⟩
        have HZS1 : Hid ((S1 : ByteArray).size = _) := hzS1
        have HS1 := (show Hid ((fun W : World => Brow W wr.heap.size [.string xk, .string xx, .int .i64 0, .int .i64 0] 28) w1) from HS0.out.below hB1 (by have := HS0.out.lt; exact this))
        have HB1 := (show Hid (Below wI.heap.size wI w1) from HB0.out.trans (hB1.mono HB0.out.size))
        clear hB1 hzS1 HS0 HB0
        refine hK.out _ _ HS1.out ?_
        clear hK KK
        try simp only [Act.put, List.setIfInBounds_toArray, List.set_cons_zero, List.set_cons_succ]
        have z1 : ¬ 9223372036854775807 < t.size + S1.size := by have := HZS1.out; have := HTZ.out; omega
        refine heldTake 4 (some 50) (.string (t ++ S1)) rfl rfl (by kernel_rfl) (by kernel_rfl) (by kernel_rfl) (fun _ _ _ h => h) (Or.inl ⟨by rfl, fun w hS => ?_⟩) HS1.out ?_
        · (go_simp)
        simp only [Act.put, List.setIfInBounds_toArray, List.set_cons_zero, List.set_cons_succ]
        have z2 : ¬ 9223372036854775807 < (t ++ S1).size + (⟨#[0]⟩ : ByteArray).size := by rw [ByteArray.size_append]; have h5 : (⟨#[0]⟩ : ByteArray).size = 1 := rfl; have := HZS1.out; have := HTZ.out; omega
        have z2' : ¬ 9223372036854775807 < t.size + S1.size + 1 := by have := HZS1.out; have := HTZ.out; omega
        refine heldTake 5 (some 51) (.string (t ++ S1 ++ ⟨#[0]⟩)) rfl rfl (by kernel_rfl) (by kernel_rfl) (by kernel_rfl) (fun _ _ _ h => h) (Or.inl ⟨by rfl, fun w hS => ?_⟩) HS1.out ?_
        · (go_simp)
        simp only [Act.put, List.setIfInBounds_toArray, List.set_cons_zero, List.set_cons_succ]
        obtain ⟨U, HU⟩ : ∃ U, Is U (t ++ S1 ++ ⟨#[0]⟩) := ⟨_, ⟨rfl⟩⟩
        have HUZ' : U.size = t.size + (xk.size + 1) + 1 := by rw [HU.eq, ByteArray.size_append, ByteArray.size_append, HZS1.out]; rfl
        have HUZ : Hid (U.size = t.size + (xk.size + 1) + 1) := HUZ'
        clear HUZ'
        rw [← HU.eq]
        clear z1 z2 z2' HU HZS1
        refine heldOne 8 (by kernel_rfl) rfl (by rfl) (fun KK hK => ?_)
        go_simp
        go_at_call 65
        refine ((rtext_any xx w1 hxx).mono (fun _ _ hx => hx.ex)).mono ?_
        rintro e w2 ⟨S2, rfl, hzS2, hB2⟩
        have HZS2 : Hid ((S2 : ByteArray).size = _) := hzS2
        have HS2 := (show Hid ((fun W : World => Brow W wr.heap.size [.string xk, .string xx, .int .i64 0, .int .i64 0] 28) w2) from HS1.out.below hB2 (by have := HS1.out.lt; exact this))
        have HB2 := (show Hid (Below wI.heap.size wI w2) from HB1.out.trans (hB2.mono HB1.out.size))
        clear hB2 hzS2 HS1 HB1
        refine hK.out _ _ HS2.out ?_
        clear hK KK
        try simp only [Act.put, List.setIfInBounds_toArray, List.set_cons_zero, List.set_cons_succ]
        have z3 : ¬ 9223372036854775807 < U.size + S2.size := by have := HZS2.out; have := HUZ.out; have := HTZ.out; omega
        refine heldTake 9 (some 55) (.string (U ++ S2)) rfl rfl (by kernel_rfl) (by kernel_rfl) (by kernel_rfl) (fun _ _ _ h => h) (Or.inl ⟨by rfl, fun w hS => ?_⟩) HS2.out ?_
        · (go_simp)
        simp only [Act.put, List.setIfInBounds_toArray, List.set_cons_zero, List.set_cons_succ]
        refine heldTake 10 (some 3) (.string (U ++ S2)) rfl rfl (by kernel_rfl) (by kernel_rfl) (by kernel_rfl) (fun _ _ _ h => h) (Or.inl ⟨by rfl, fun w hS => ?_⟩) HS2.out ?_
        · (go_simp)
        simp only [Act.put, List.setIfInBounds_toArray, List.set_cons_zero, List.set_cons_succ]
        have HVZ' : (U ++ S2).size = t.size + (3 + xk.size + xx.size) := by rw [ByteArray.size_append, HUZ.out, HZS2.out]; omega
        have HVZ : Hid ((U ++ S2).size = t.size + (3 + xk.size + xx.size)) := HVZ'
        clear HVZ'
        clear z3 HUZ HZS2
        generalize U ++ S2 = V at *
        generalize w2 = wE at *
        have HBE : Hid (Below wI.heap.size wI wE) := HB2.out
        clear HB2 HS2
        refine wpAnyH_done (by kernel_rfl) ?_ _
        have HREL := (show Hid (∃ (k' : Nat) (t' : ByteArray), k' ≤ cs.length ∧ Value.int .i64 ((k : Int) + 1) = .int .i64 (k' : Int) ∧ Value.string V = .string t' ∧ t'.size = 2 + sumN ((cs.take k').map csize) ∧ Below wI.heap.size wI wE) from ⟨k + 1, V, by omega, by go_num, rfl, by
          have e1 := HVZ.out
          have e2 := HTZ.out.1
          have e3 := HNX.out
          omega, HBE.out⟩)
        clear HBE HVZ HTZ HNX
        go_wp2_with fail
        go_roundw
        case rel => first | exact HREL.out | (obtain ⟨k', t', h1, h2, h3, h4, h5⟩ := HREL.out; exact ⟨k', t', h1, h2, h3, h4, h5⟩)
        case measure => (simp [intOf]) <;> omega
      · have hp := celOk_over hok ho
        simp only at hp
        obtain ⟨hxk0, _, ho1, ho2, hl0, hl1', hv0⟩ := hp
        obtain ⟨O, rfl⟩ := Int.eq_ofNat_of_zero_le (show (0 : Int) ≤ xo by omega)
        obtain ⟨N, rfl⟩ := Int.eq_ofNat_of_zero_le hl0
        have hxk : xk.size ≤ 255 := by omega
        have hcz : csize ⟨xk, xx, (O : Int), (N : Int)⟩ = 10 + xk.size := if_neg ho
        rw [hcz] at HNX
        have o1 : (0 : Int) < (O : Int) := by omega
        have o2 : decide ((0 : Int) < (O : Int)) = true := decide_eq_true o1
        have o3 : 0 < O := by omega
        have hO : O ≤ 4294967295 := by omega
        have hN : N ≤ 4294967295 := by omega
        clear hok hcz hxk0 hv0 ho
        go_upto_region 8 with fail
        have HS0 := (show Hid ((fun W : World => Brow W wr.heap.size [.string xk, .string xx, .int .i64 (O : Int), .int .i64 (N : Int)] 28) (wr.alloc (.cells #[.string xk, .string xx, .int .i64 (O : Int), .int .i64 (N : Int)] 28)).drew) from (Brow.new wr _ 28).drew)
        have HB0 := (show Hid (Below wI.heap.size wI (wr.alloc (.cells #[.string xk, .string xx, .int .i64 (O : Int), .int .i64 (N : Int)] 28)).drew) from (HBr.out.alloc hsr _).drew)
        clear HBr HBW HN q0 q1 q2 q3 g0 g1 g2 g3
        refine wp_region_held_drew (S := (fun W : World => Brow W wr.heap.size [.string xk, .string xx, .int .i64 (O : Int), .int .i64 (N : Int)] 28)) (by kernel_rfl) HS0.out (fun _ => ?_)
        generalize (wr.alloc (.cells #[.string xk, .string xx, .int .i64 (O : Int), .int .i64 (N : Int)] 28)).drew = wd at *
        refine heldTake 0 (some 32) (.string t) rfl rfl (by kernel_rfl) (by kernel_rfl) (by kernel_rfl) (fun _ _ _ h => h) (Or.inl ⟨by rfl, fun w hS => ?_⟩) HS0.out ?_
        · (go_simp)
        simp only [Act.put, List.setIfInBounds_toArray, List.set_cons_zero, List.set_cons_succ]
        refine heldTake 1 (some 33) (.pointer (some ⟨wr.heap.size, 0, none⟩)) rfl rfl (by kernel_rfl) (by kernel_rfl) (by kernel_rfl) (fun _ _ _ h => h) (Or.inl ⟨by rfl, fun w hS => ?_⟩) HS0.out ?_
        · (go_simp)
        simp only [Act.put, List.setIfInBounds_toArray, List.set_cons_zero, List.set_cons_succ]
        refine heldTake 2 (some 34) (.string xk) rfl rfl (by kernel_rfl) (by kernel_rfl) (by kernel_rfl) (fun _ _ _ h => h) (Or.inl ⟨by rfl, fun w hS => ?_⟩) HS0.out ?_
        · (have q := hS.at 0 _ rfl; go_simp)
        simp only [Act.put, List.setIfInBounds_toArray, List.set_cons_zero, List.set_cons_succ]
        refine heldTake 6 (some 38) (.pointer (some ⟨wr.heap.size, 3, none⟩)) rfl rfl (by kernel_rfl) (by kernel_rfl) (by kernel_rfl) (fun _ _ _ h => h) (Or.inl ⟨by rfl, fun w hS => ?_⟩) HS0.out ?_
        · (go_simp)
        simp only [Act.put, List.setIfInBounds_toArray, List.set_cons_zero, List.set_cons_succ]
        refine heldTake 7 (some 39) (.int .i64 (N : Int)) rfl rfl (by kernel_rfl) (by kernel_rfl) (by kernel_rfl) (fun _ _ _ h => h) (Or.inl ⟨by rfl, fun w hS => ?_⟩) HS0.out ?_
        · (have q := hS.at 3 _ rfl; go_simp)
        simp only [Act.put, List.setIfInBounds_toArray, List.set_cons_zero, List.set_cons_succ]
        refine heldTake 10 (some 42) (.pointer (some ⟨wr.heap.size, 2, none⟩)) rfl rfl (by kernel_rfl) (by kernel_rfl) (by kernel_rfl) (fun _ _ _ h => h) (Or.inl ⟨by rfl, fun w hS => ?_⟩) HS0.out ?_
        · (go_simp)
        simp only [Act.put, List.setIfInBounds_toArray, List.set_cons_zero, List.set_cons_succ]
        refine heldTake 11 (some 43) (.int .i64 (O : Int)) rfl rfl (by kernel_rfl) (by kernel_rfl) (by kernel_rfl) (fun _ _ _ h => h) (Or.inl ⟨by rfl, fun w hS => ?_⟩) HS0.out ?_
        · (have q := hS.at 2 _ rfl; go_simp)
        simp only [Act.put, List.setIfInBounds_toArray, List.set_cons_zero, List.set_cons_succ]
        refine heldOne 3 (by kernel_rfl) rfl (by rfl) (fun KK hK => ?_)
        go_simp
        go_at_call 65
        refine ((rtext_any xk wd hxk).mono (fun _ _ hx => hx.ex)).mono ?_
        rintro e w1 ⟨S1, rfl, hzS1, hB1⟩
        have HZS1 : Hid ((S1 : ByteArray).size = _) := hzS1
        have HS1 := (show Hid ((fun W : World => Brow W wr.heap.size [.string xk, .string xx, .int .i64 (O : Int), .int .i64 (N : Int)] 28) w1) from HS0.out.below hB1 (by have := HS0.out.lt; exact this))
        have HB1 := (show Hid (Below wI.heap.size wI w1) from HB0.out.trans (hB1.mono HB0.out.size))
        clear hB1 hzS1 HS0 HB0
        refine hK.out _ _ HS1.out ?_
        clear hK KK
        try simp only [Act.put, List.setIfInBounds_toArray, List.set_cons_zero, List.set_cons_succ]
        have z1 : ¬ 9223372036854775807 < t.size + S1.size := by have := HZS1.out; have := HTZ.out; omega
        refine heldTake 4 (some 36) (.string (t ++ S1)) rfl rfl (by kernel_rfl) (by kernel_rfl) (by kernel_rfl) (fun _ _ _ h => h) (Or.inl ⟨by rfl, fun w hS => ?_⟩) HS1.out ?_
        · (go_simp)
        simp only [Act.put, List.setIfInBounds_toArray, List.set_cons_zero, List.set_cons_succ]
        have z2 : ¬ 9223372036854775807 < (t ++ S1).size + (⟨#[1]⟩ : ByteArray).size := by rw [ByteArray.size_append]; have h5 : (⟨#[1]⟩ : ByteArray).size = 1 := rfl; have := HZS1.out; have := HTZ.out; omega
        have z2' : ¬ 9223372036854775807 < t.size + S1.size + 1 := by have := HZS1.out; have := HTZ.out; omega
        refine heldTake 5 (some 37) (.string (t ++ S1 ++ ⟨#[1]⟩)) rfl rfl (by kernel_rfl) (by kernel_rfl) (by kernel_rfl) (fun _ _ _ h => h) (Or.inl ⟨by rfl, fun w hS => ?_⟩) HS1.out ?_
        · (go_simp)
        simp only [Act.put, List.setIfInBounds_toArray, List.set_cons_zero, List.set_cons_succ]
        obtain ⟨U, HU⟩ : ∃ U, Is U (t ++ S1 ++ ⟨#[1]⟩) := ⟨_, ⟨rfl⟩⟩
        have HUZ' : U.size = t.size + (xk.size + 1) + 1 := by rw [HU.eq, ByteArray.size_append, ByteArray.size_append, HZS1.out]; rfl
        have HUZ : Hid (U.size = t.size + (xk.size + 1) + 1) := HUZ'
        clear HUZ'
        rw [← HU.eq]
        clear z1 z2 z2' HU HZS1
        refine heldOne 8 (by kernel_rfl) rfl (by rfl) (fun KK hK => ?_)
        go_simp
        go_at_call 66
        refine ((rfour_any N w1 hN).mono (fun _ _ hx => hx.ex)).mono ?_
        rintro e w2 ⟨S2, rfl, hzS2, hB2⟩
        have HZS2 : Hid ((S2 : ByteArray).size = _) := hzS2
        have HS2 := (show Hid ((fun W : World => Brow W wr.heap.size [.string xk, .string xx, .int .i64 (O : Int), .int .i64 (N : Int)] 28) w2) from HS1.out.below hB2 (by have := HS1.out.lt; exact this))
        have HB2 := (show Hid (Below wI.heap.size wI w2) from HB1.out.trans (hB2.mono HB1.out.size))
        clear hB2 hzS2 HS1 HB1
        refine hK.out _ _ HS2.out ?_
        clear hK KK
        try simp only [Act.put, List.setIfInBounds_toArray, List.set_cons_zero, List.set_cons_succ]
        have z3 : ¬ 9223372036854775807 < U.size + S2.size := by have := HZS2.out; have := HUZ.out; have := HTZ.out; omega
        refine heldTake 9 (some 41) (.string (U ++ S2)) rfl rfl (by kernel_rfl) (by kernel_rfl) (by kernel_rfl) (fun _ _ _ h => h) (Or.inl ⟨by rfl, fun w hS => ?_⟩) HS2.out ?_
        · (go_simp)
        simp only [Act.put, List.setIfInBounds_toArray, List.set_cons_zero, List.set_cons_succ]
        refine heldOne 12 (by kernel_rfl) rfl (by rfl) (fun KK hK => ?_)
        go_simp
        go_at_call 66
        refine ((rfour_any O w2 hO).mono (fun _ _ hx => hx.ex)).mono ?_
        rintro e w3 ⟨S3, rfl, hzS3, hB3⟩
        have HZS3 : Hid ((S3 : ByteArray).size = _) := hzS3
        have HS3 := (show Hid ((fun W : World => Brow W wr.heap.size [.string xk, .string xx, .int .i64 (O : Int), .int .i64 (N : Int)] 28) w3) from HS2.out.below hB3 (by have := HS2.out.lt; exact this))
        have HB3 := (show Hid (Below wI.heap.size wI w3) from HB2.out.trans (hB3.mono HB2.out.size))
        clear hB3 hzS3 HS2 HB2
        refine hK.out _ _ HS3.out ?_
        clear hK KK
        try simp only [Act.put, List.setIfInBounds_toArray, List.set_cons_zero, List.set_cons_succ]
        have z4 : ¬ 9223372036854775807 < (U ++ S2).size + S3.size := by rw [ByteArray.size_append]; have := HZS2.out; have := HZS3.out; have := HUZ.out; have := HTZ.out; omega
        have z4' : ¬ 9223372036854775807 < U.size + S2.size + S3.size := by have := HZS2.out; have := HZS3.out; have := HUZ.out; have := HTZ.out; omega
        refine heldTake 13 (some 45) (.string (U ++ S2 ++ S3)) rfl rfl (by kernel_rfl) (by kernel_rfl) (by kernel_rfl) (fun _ _ _ h => h) (Or.inl ⟨by rfl, fun w hS => ?_⟩) HS3.out ?_
        · (go_simp)
        simp only [Act.put, List.setIfInBounds_toArray, List.set_cons_zero, List.set_cons_succ]
        refine heldTake 14 (some 3) (.string (U ++ S2 ++ S3)) rfl rfl (by kernel_rfl) (by kernel_rfl) (by kernel_rfl) (fun _ _ _ h => h) (Or.inl ⟨by rfl, fun w hS => ?_⟩) HS3.out ?_
        · (go_simp)
        simp only [Act.put, List.setIfInBounds_toArray, List.set_cons_zero, List.set_cons_succ]
        have HVZ' : (U ++ S2 ++ S3).size = t.size + (10 + xk.size) := by rw [ByteArray.size_append, ByteArray.size_append, HUZ.out, HZS2.out, HZS3.out]; omega
        have HVZ : Hid ((U ++ S2 ++ S3).size = t.size + (10 + xk.size)) := HVZ'
        clear HVZ'
        clear z3 z4 z4' HUZ HZS2 HZS3
        generalize U ++ S2 ++ S3 = V at *
        generalize w3 = wE at *
        have HBE : Hid (Below wI.heap.size wI wE) := HB3.out
        clear HB3 HS3
        refine wpAnyH_done (by kernel_rfl) ?_ _
        have HREL := (show Hid (∃ (k' : Nat) (t' : ByteArray), k' ≤ cs.length ∧ Value.int .i64 ((k : Int) + 1) = .int .i64 (k' : Int) ∧ Value.string V = .string t' ∧ t'.size = 2 + sumN ((cs.take k').map csize) ∧ Below wI.heap.size wI wE) from ⟨k + 1, V, by omega, by go_num, rfl, by
          have e1 := HVZ.out
          have e2 := HTZ.out.1
          have e3 := HNX.out
          omega, HBE.out⟩)
        clear HBE HVZ HTZ HNX
        go_wp2_with fail
        go_roundw
        case rel => first | exact HREL.out | (obtain ⟨k', t', h1, h2, h3, h4, h5⟩ := HREL.out; exact ⟨k', t', h1, h2, h3, h4, h5⟩)
        case measure => (simp [intOf]) <;> omega
    · have hkl : ¬ (k : Int) < (cs.length : Int) := by omega
      have HFZ' : t.size = Z := by rw [HSN.out, HTZ.out.1, List.take_of_length_le (by omega)]
      have HFZ : Hid (t.size = Z) := HFZ'
      clear HFZ'
      clear HTZ HSN HBr HN
      go_wp2
      go_ret
      exact ⟨⟨t, rfl, HFZ.out, HBW.out⟩⟩
end Go.Proofs.Ytoinaplmgffkpaa
