/- Proved: the document's digest of any bytes is the one of the mathematics (Bl.digest), in a slice of the call's own. Condition: the slice that comes in has just these bytes. -/
import Derived.Test.YtefpaebbendnmaaDoorKRBlk
import Derived.Test.YtefpaebbendnmaaDoorKRApp
namespace Go.Proofs.YtefpaebbendnmaaDoor.BK
open Go.RowKit
theorem Bytes.part {w : World} {b off len : Nat} {bs : List Nat} (h : Bytes w (some ⟨b, off, none⟩) len bs) (i n : Nat) (hi : i + n ≤ len) : Bytes w (some ⟨b, off + i, none⟩) n ((bs.drop i).take n) := by
  obtain ⟨h0, h1, h2, h3⟩ := h
  refine ⟨by simp; omega, fun x hx => h1 x (List.mem_of_mem_drop (List.mem_of_mem_take hx)), by omega, ?_⟩
  rcases h3 with h3 | ⟨b', off', ha, hc⟩
  · exact .inl (by omega)
  · cases ha
    refine .inr ⟨b, off + i, rfl, fun j hj => ?_⟩
    have := hc (i + j) (by omega)
    rw [← Nat.add_assoc] at this
    rw [this, List.getD_eq_getElem?_getD, List.getD_eq_getElem?_getD, List.getElem?_take_of_lt hj, List.getElem?_drop]
theorem Bytes.le {w w' : World} {a : Option Addr} {len : Nat} {bs : List Nat} {B : Nat} (h : Bytes w a len bs) (hb : Below B w w') (hl : ∀ x, a = some x → 0 < len → x.block < B) : Bytes w' a len bs := by
  obtain ⟨h0, h1, h2, h3⟩ := h
  refine ⟨h0, h1, h2, ?_⟩
  rcases h3 with h3 | ⟨b, off, ha, hc⟩
  · exact .inl h3
  · by_cases hn : 0 < len
    · refine .inr ⟨b, off, ha, fun j hj => ?_⟩
      have := hl _ ha hn
      rw [hb.cell (p := ⟨b, off + j, none⟩) this]; exact hc j hj
    · exact .inl (by omega)
theorem row_cells {w : World} {g : Nat} {v : List Nat} {tl : List Value} (h : Row w g 59 v tl) (hl : v.length = 8) : ∀ i, i < 8 → w.cell? ⟨g, 0 + i, none⟩ = some (.int .u32 (v.getD i 0 : Nat)) := fun i hi => by
  rw [Nat.zero_add]; exact (h.at i (by omega)).1
theorem bytes_take (h : List Nat) (k : Nat) (hk : k < 8) : (Bl.bytes h).take (4 * k + 4) = (Bl.bytes h).take (4 * k) ++ [h.getD k 0 % 256, h.getD k 0 / 256 % 256, h.getD k 0 / 65536 % 256, h.getD k 0 / 16777216 % 256] := by
  have hl : (Bl.bytes h).length = 32 := by simp [Bl.bytes]
  have e : ∀ i, i < 32 → (Bl.bytes h)[i]? = some (h.getD (i / 4) 0 / 2 ^ (i % 4 * 8) % 256) := fun i hi => by
    unfold Bl.bytes
    rw [List.getElem?_map, List.getElem?_range hi]; rfl
  refine List.ext_getElem? fun j => ?_
  by_cases hj : j < 4 * k
  · rw [List.getElem?_take_of_lt (by omega), List.getElem?_append_left (by rw [List.length_take]; omega), List.getElem?_take_of_lt hj]
  · rw [List.getElem?_append_right (by rw [List.length_take]; omega), List.length_take, hl, show min (4 * k) 32 = 4 * k by omega]
    by_cases h4 : j < 4 * k + 4
    · rw [List.getElem?_take_of_lt h4, e j (by omega)]
      have : j = 4 * k ∨ j = 4 * k + 1 ∨ j = 4 * k + 2 ∨ j = 4 * k + 3 := by omega
      rcases this with rfl | rfl | rfl | rfl
      · rw [show (4 * k) / 4 = k by omega, show 4 * k % 4 * 8 = 0 by omega, Nat.sub_self]; simp
      · rw [show (4 * k + 1) / 4 = k by omega, show (4 * k + 1) % 4 * 8 = 8 by omega, show 4 * k + 1 - 4 * k = 1 by omega]; rfl
      · rw [show (4 * k + 2) / 4 = k by omega, show (4 * k + 2) % 4 * 8 = 16 by omega, show 4 * k + 2 - 4 * k = 2 by omega]; rfl
      · rw [show (4 * k + 3) / 4 = k by omega, show (4 * k + 3) % 4 * 8 = 24 by omega, show 4 * k + 3 - 4 * k = 3 by omega]; rfl
    · rw [List.getElem?_eq_none (by rw [List.length_take, hl]; omega), List.getElem?_eq_none (by simp; omega)]
theorem four_at (w : World) {z0 z1 z2 z3 : Int} {x0 x1 x2 x3 : Nat} (h0 : z0 = (x0 : Int)) (h1 : z1 = (x1 : Int)) (h2 : z2 = (x2 : Int)) (h3 : z3 = (x3 : Int)) : ∀ j u, ([x0, x1, x2, x3].map V8)[j]? = some u → (w.alloc (.cells #[.int .u8 z0, .int .u8 z1, .int .u8 z2, .int .u8 z3] 5)).drew.cell? ((⟨w.heap.size, 0, none⟩ : Addr).add j) = some u := by
  subst h0 h1 h2 h3
  intro j u hj
  have e : (w.alloc (.cells #[.int .u8 x0, .int .u8 x1, .int .u8 x2, .int .u8 x3] 5)).cell? ⟨w.heap.size, 0 + j, none⟩ = some u := by
    rw [cell_of_row _ _ (0 + j) _ 5 (0, 0) (heap_alloc_new w _), Nat.zero_add]
    show ([x0, x1, x2, x3].map V8).toArray[j]? = some u
    rw [List.getElem?_toArray]; exact hj
  rw [Addr.add_mid]
  exact e
theorem zeros_succ (n : Nat) : Bl.zeros (n + 1) = Bl.zeros n ++ [0] := by
  unfold Bl.zeros; rw [List.replicate_succ']
theorem one_new8 (w : World) : Bytes (w.alloc (.cells #[.int .u8 0] 5)) (some ⟨w.heap.size, 0, none⟩) 1 [0] := by
  refine ⟨rfl, by decide, by omega, .inr ⟨_, _, rfl, fun i hi => ?_⟩⟩
  obtain rfl : i = 0 := by omega
  rw [cell_of_row _ _ _ _ 5 (0, 0) (heap_alloc_new w _)]; rfl
theorem xor_first : bits .xor .u32 (1779033703 : Int) 16842784 = 1795745351 := by
  have := u32_xor_nat 1779033703 16842784 (by decide) (by decide)
  exact this.trans (by decide)
theorem first_row (w : World) : Row (w.alloc (.cells (arr Bl.first) 59)) w.heap.size 59 Bl.first [] := row_arr.2 (heap_alloc_new w _)
theorem init_row (w : World) : Row ((w.alloc (.cells (arr Bl.first) 59)).setCell ⟨w.heap.size, 0, none⟩ (.int .u32 (1795745351 : Int))) w.heap.size 59 Bl.init [] := by
  have h := (first_row w).set 0 1795745351 (by decide)
  exact h
def slen : Value → Nat
  | .slice _ n _ => n
  | _ => 0
theorem one_cell_new {w : World} {p : Addr} {a : Value} {o : Obj} (h : w.cell? p = some a) (hp : p.block < w.heap.size) : (w.alloc o).drew.cell? p = some a := by
  have hB : Below w.heap.size w (w.alloc o).drew := ((Below.refl _ _).alloc (Nat.le_refl _) _).drew
  exact (hB.cell hp).trans h
theorem one_cell_below {w w' : World} {N : Nat} {p : Addr} {a : Value} {o : Obj} (h : w.cell? p = some a) (hp : p.block < N) (hN : N ≤ w.heap.size) (hB : Below N (w.alloc o).drew w') : w'.cell? p = some a := (hB.cell hp).trans (one_cell_new h (by omega))
/- what stands behind the loop over whole blocks, in whatever way the last bytes came -/
set_option maxHeartbeats 4000000 in
set_option maxRecDepth 20000 in
theorem rof_any (a : Option Addr) (len cap : Nat) (bs : List Nat) (w : World) (hB : Bytes w a len bs) (ha : (a = none ∧ cap = 0) ∨ ∃ b off, a = some ⟨b, off, none⟩) (hc : len ≤ cap) (hcm : cap ≤ 9223372036854775807) :
    Calls Tryd.prog 17 #[.slice a len cap] w fun e w' => ∃ g cap', e = .returned (.slice (some ⟨g, 0, none⟩) 32 cap') ∧ Mine w' w.heap.size (some ⟨g, 0, none⟩) 32 cap' (Bl.digest bs) ∧ Below w.heap.size w w' := by
  have HA : Hid ((a = none ∧ cap = 0) ∨ ∃ b off, a = some ⟨b, off, none⟩) := ha
  have HB : Hid (Bytes w a len bs) := hB
  have HBL : Hid (∀ x, a = some x → 0 < len → x.block < w.heap.size) := fun x hx hn => by
    rcases hB.2.2.2 with h0 | ⟨b', off', ha, hc⟩
    · omega
    · rw [ha] at hx; cases hx; exact block_lt_of_cell (hc 0 hn)
  have H8 : Hid (∀ x ∈ bs, x < 256) := hB.2.1
  have HLN : Hid (bs.length = len) := hB.1
  clear hB ha
  have xf := xor_first
  have HI := init_row w
  have HI0 : Hid (Row ((w.alloc (.cells (arr Bl.first) 59)).setCell ⟨w.heap.size, 0, none⟩ (.int .u32 (1795745351 : Int))) w.heap.size 59 Bl.init []) := HI
  have c0 : (w.alloc (.cells (arr Bl.first) 59)).cell? ⟨w.heap.size, 0, none⟩ = some (.int .u32 1779033703) := ((first_row w).at 0 (by decide)).1
  have f0 : (w.alloc (.cells (arr Bl.first) 59)).frozen? ⟨w.heap.size, 0, none⟩ = false := ((first_row w).at 0 (by decide)).2
  have hB0 : Below w.heap.size w ((w.alloc (.cells (arr Bl.first) 59)).setCell ⟨w.heap.size, 0, none⟩ (.int .u32 (1795745351 : Int))) := ((Below.refl _ _).alloc (Nat.le_refl _) _).setCell (Nat.le_refl _) _
  have HB0 : Hid (Below w.heap.size w ((w.alloc (.cells (arr Bl.first) 59)).setCell ⟨w.heap.size, 0, none⟩ (.int .u32 (1795745351 : Int)))) := hB0
  clear HI hB0
  go_enter Tryd.func17, Tryd.ntmps17
  go_upto_region 2 with (first | (go_at_call 33; refine (first_any _).mono ?_; rintro e w2 ⟨rfl, rfl⟩))
  generalize (w.alloc (.cells (arr Bl.first) 59)) = wa at *
  go_wp2_with fail
  clear c0 f0 xf
  generalize World.setCell wa _ _ = w0 at *
  go_loopw [3, 4] (fun s3 s4 wr => ∃ q t g cap3 : Nat, t = 64 * q ∧ t ≤ len ∧ (q = 0 ∨ t < len) ∧ s3 = .slice (some ⟨g, 0, none⟩) 8 cap3 ∧ s4 = .int .i64 t ∧ (∃ tl, Row wr g 59 (Bl.chain bs q) tl) ∧ Below w.heap.size w wr) (fun _ s4 _ => len - (intOf s4).toNat)
  case atStart => exact ⟨0, 0, w.heap.size, 8, rfl, by omega, .inl rfl, rfl, rfl, ⟨[], HI0.out⟩, HB0.out⟩
  case round =>
    obtain ⟨q, t, g, cap3, ht, htl, hq, rfl, rfl, ⟨tl, hR⟩, hBw⟩ := hrel
    have HR : Hid (Row wr g 59 (Bl.chain bs q) tl) := hR
    have HBW : Hid (Below w.heap.size w wr) := hBw
    have HCW : Hid (Bl.Words 8 (Bl.chain bs q)) := Bl.chain_words H8.out q (by omega)
    have HBR : Hid (Bytes wr a len bs) := HB.out.le hBw HBL.out
    obtain ⟨d, hd⟩ : ∃ d : Nat, d = len - t := ⟨_, rfl⟩
    have ed : (len : Int) - (t : Int) = (d : Int) := by omega
    have wd := wrap64 d (by omega)
    have HT : Is t (64 * q) := ⟨ht⟩
    have hsz := hBw.size
    clear hR hBw ht HI0 HB0 hd
    by_cases hlt : 64 < d
    · have hlt' : (64 : Int) < (d : Int) := by omega
      obtain ⟨b, off, rfl⟩ : ∃ b off, a = some ⟨b, off, none⟩ := by
        rcases HA.out with ⟨_, h⟩ | h
        · omega
        · exact h
      obtain ⟨t2, ht2⟩ : ∃ t2 : Nat, t2 = t + 64 := ⟨_, rfl⟩
      have et : (t : Int) + 64 = (t2 : Int) := by omega
      have wt := wrap64 t2 (by omega)
      have i0 : (t : Int) ≤ (t2 : Int) := by omega
      have i1 : (t2 : Int) ≤ (cap : Int) := by omega
      have i2 : ¬ (t : Int) = (cap : Int) := by omega
      have i2' : ¬ t = cap := by omega
      have j0 : (0 : Int) ≤ (t : Int) := Int.natCast_nonneg _
      have j1 : (0 : Int) ≤ (t2 : Int) := Int.natCast_nonneg _
      have hsub : t2 - t = 64 := by omega
      have HP : Hid (Bytes wr (some ⟨b, off + t, none⟩) 64 (Bl.blk bs q)) := by
        have e := HBR.out.part t 64 (by omega)
        rw [HT.eq] at e ⊢
        exact e
      have HP8 : Hid (Bl.Bytes8 64 (Bl.blk bs q)) := ⟨HP.out.1, HP.out.2.1⟩
      have HNX : Is (Bl.chain bs (q + 1)) (Bl.taken (Bl.chain bs q) (Bl.blk bs q) t2 false) := ⟨by rw [show t2 = 64 * (q + 1) by rw [ht2, HT.eq]; omega]; rfl⟩
      have HCALL : Hid (Calls Tryd.prog 34 #[.slice (some ⟨g, 0, none⟩) 8 cap3, .slice (some ⟨b, off + t, none⟩) 64 (cap - t), .int .i64 (t2 : Int), .bool false] wr fun e w' => ∃ g cap, e = .returned (.slice (some ⟨g, 0, none⟩) 8 cap) ∧ w'.ownsRow wr.heap.size 59 1 (.slice (some ⟨g, 0, none⟩) 8 cap) 8 ((Bl.taken (Bl.chain bs q) (Bl.blk bs q) t2 false).map V32) ∧ Below wr.heap.size wr w') :=
        block_any g 0 cap3 (Bl.chain bs q) (Bl.blk bs q) b (off + t) (cap - t) t2 false wr HCW.out (row_cells HR.out HCW.out.1) (by omega) HP8.out HP.out
      clear ht2
      go_wp2_with (first | (go_at_call 34; refine HCALL.out.mono ?_; rintro e w5 ⟨g5, cap5, rfl, hO5, hB5⟩))
      go_roundw
      case rel =>
        obtain ⟨g6, cap6, tl6, e6, _, _, _, hR6⟩ := own_row hO5 (by omega)
        cases e6
        rw [← HNX.eq] at hR6
        exact ⟨q + 1, t2, g5, cap5, by have := HT.eq; omega, by omega, .inr (by omega), rfl, by go_num, ⟨tl6, hR6⟩, HBW.out.trans (hB5.mono hsz)⟩
      case measure => (simp [intOf]) <;> omega
    · have hle : d ≤ 64 := by omega
      have hnl : ¬ (64 : Int) < (d : Int) := by omega
      have HQ : Is q (Bl.full len) := ⟨by unfold Bl.full; have := HT.eq; omega⟩
      have HDL : Hid ((bs.drop t).length = d) := by show _ = _; rw [List.length_drop, HLN.out]; omega
      have HD8 : Hid (∀ x ∈ bs.drop t, x < 256) := fun x hx => H8.out x (List.mem_of_mem_drop hx)
      have HDS : Hid (∀ b off, a = some ⟨b, off, none⟩ → Bytes wr (some ⟨b, off + t, none⟩) d (bs.drop t)) := fun b off e => by
        subst e
        have e := HBR.out.part t d (by omega)
        rw [List.take_of_length_le (by rw [List.length_drop, HLN.out]; omega)] at e
        exact e
      have HDG : Is (Bl.digest bs) (Bl.bytes (Bl.taken (Bl.chain bs q) (Bl.pad (bs.drop t)) len true)) := ⟨by rw [HT.eq, HQ.eq, ← HLN.out]; rfl⟩
      rename World => w1
      clear HQ HB HBL HBR
      generalize Bl.chain bs q = ch at *
      generalize bs.drop t = ds at *
      have hgl : g < w1.heap.size := HR.out.lt
      go_upto_region 7 with fail
      go_cut [5] from 31 (fun s wx => ∃ g5 cap5, s = .slice (some ⟨g5, 0, none⟩) d cap5 ∧ Mine wx w1.heap.size (some ⟨g5, 0, none⟩) d cap5 ds ∧ Below w1.heap.size w1 wx)
      case first =>
        by_cases htc : t = cap
        · have hd0 : d = 0 := by omega
          have hds0 : ds = [] := List.eq_nil_of_length_eq_zero (by rw [HDL.out, hd0])
          subst htc
          have hdl : (d : Int) = 0 := by omega
          have HN : Hid (Bytes (w1.alloc (.cells #[] 5)) a 0 ds) := by rw [hds0]; exact Bytes.nil _ _
          have hlt : len = t := by omega
          subst hlt
          subst hd0
          clear hds0
          go_wp2_with (first | (refine append_copy rfl _ _ rfl (w1.alloc (.cells #[] 5)) w1.heap.size w1.heap.size (by simp) (Nat.le_refl _) (heap_alloc_new w1 _) rfl a 0 0 ds rfl HN.out (by omega) ?_; intro g' cap' w' hM hb'))
          go_meet
          case rel => exact ⟨g', cap', rfl, hM, ((Below.refl _ _).alloc (Nat.le_refl _) _).trans hb'⟩
        · obtain ⟨b, off, rfl⟩ : ∃ b off, a = some ⟨b, off, none⟩ := by
            rcases HA.out with ⟨_, h⟩ | h
            · omega
            · exact h
          have HDS1 : Hid (Bytes (w1.alloc (.cells #[] 5)) (some ⟨b, off + t, none⟩) d ds) := (HDS.out b off rfl).below ((Below.refl _ _).alloc (Nat.le_refl _) _) rfl
          have i2 : ¬ (t : Int) = (cap : Int) := by omega
          have i0 : (t : Int) ≤ (len : Int) := by omega
          have i1 : (len : Int) ≤ (cap : Int) := by omega
          have j0 : (0 : Int) ≤ (t : Int) := Int.natCast_nonneg _
          have hsub : len - t = d := by omega
          go_wp2_with (first | (refine append_copy rfl _ _ rfl (w1.alloc (.cells #[] 5)) w1.heap.size w1.heap.size (by simp) (Nat.le_refl _) (heap_alloc_new w1 _) rfl (some ⟨b, off + t, none⟩) d (cap - t) ds rfl HDS1.out (by omega) ?_; intro g' cap' w' hM hb'))
          go_meet
          case rel => exact ⟨g', cap', rfl, hM, ((Below.refl _ _).alloc (Nat.le_refl _) _).trans hb'⟩
      case rest =>
        obtain ⟨g5, cap5, rfl, hM5, hB5⟩ := hcut
        have HM5 : Hid (Mine wc w1.heap.size (some ⟨g5, 0, none⟩) d cap5 ds) := hM5
        have HB5 : Hid (Below w1.heap.size w1 wc) := hB5
        clear hM5 hB5 HDS
        rename World => w3
        go_wp2_with fail
        go_loopw [5] (fun s wq => ∃ k g5 cap5 : Nat, d ≤ k ∧ k ≤ 64 ∧ s = .slice (some ⟨g5, 0, none⟩) k cap5 ∧ Mine wq w1.heap.size (some ⟨g5, 0, none⟩) k cap5 (ds ++ Bl.zeros (k - d)) ∧ Below w1.heap.size w1 wq) (fun s _ => 64 - slen s)
        case atStart => exact ⟨d, g5, cap5, Nat.le_refl _, hle, rfl, by rw [Nat.sub_self]; simpa [Bl.zeros] using HM5.out, HB5.out⟩
        case round =>
          obtain ⟨k, g6, cap6, hdk, hk, rfl, hM, hBk⟩ := hrel
          have hs1 := hBk.size
          by_cases hlt : k < 64
          · have hlt' : (k : Int) < 64 := by omega
            have HO : Hid ((wr.alloc (.cells #[.int .u8 0] 5)).ownsRow w1.heap.size 5 1 (.slice (some ⟨g6, 0, none⟩) k cap6) k ((ds ++ Bl.zeros (k - d)).map V8)) := owns8_alloc hM.1 _
            have HM8 : Hid (∀ x ∈ ds ++ Bl.zeros (k - d), x < 256) := hM.2.1
            have HBK : Hid (Below w1.heap.size w1 wr) := hBk
            clear hM hBk HM5 HB5
            go_wp2_with (first | (refine append_bytes rfl (.tmp 39) (.tmp 40) rfl (wr.alloc (.cells #[.int .u8 0] 5)) w1.heap.size _ k _ rfl HO.out ⟨wr.heap.size, 0, none⟩ 1 1 [0] rfl rfl (news8 (one_new8 wr)) (by omega) (by rw [World.size_alloc']; omega) ?_; intro v' w' hO' hB'))
            have hz : (ds ++ Bl.zeros (k - d)) ++ [0] = ds ++ Bl.zeros (k + 1 - d) := by rw [show k + 1 - d = (k - d) + 1 by omega, zeros_succ, List.append_assoc]
            rw [hz] at hO'
            obtain ⟨g7, cap7, rfl, hM7⟩ := own_bytes hO' (by rw [← hz]; intro x hx; rcases List.mem_append.1 hx with h | h; exact HM8.out x h; have := List.mem_singleton.1 h; omega) (by omega)
            have HF : ∃ k' g5 cap5 : Nat, d ≤ k' ∧ k' ≤ 64 ∧ Value.slice (some ⟨g7, 0, none⟩) (k + 1) cap7 = .slice (some ⟨g5, 0, none⟩) k' cap5 ∧ Mine w' w1.heap.size (some ⟨g5, 0, none⟩) k' cap5 (ds ++ Bl.zeros (k' - d)) ∧ Below w1.heap.size w1 w' := ⟨k + 1, g7, cap7, by omega, by omega, rfl, hM7, HBK.out.trans ((((Below.refl _ _).alloc (Nat.le_refl _) _).mono hs1).trans hB')⟩
            go_wp2_with fail
            go_roundw
            case rel => first | exact HF | ((repeat apply Exists.intro); exact ⟨HF, rfl⟩)
            case measure => (simp [slen]) <;> omega
          · have hk64 : k = 64 := by omega
            subst hk64
            have HPD : Is (ds ++ Bl.zeros (64 - d)) (Bl.pad ds) := ⟨by unfold Bl.pad; rw [HDL.out]⟩
            rw [HPD.eq] at hM
            have HPB : Hid (Bytes wr (some ⟨g6, 0, none⟩) 64 (Bl.pad ds)) := hM.bytes (by omega)
            have HP8 : Hid (Bl.Bytes8 64 (Bl.pad ds)) := ⟨HPB.out.1, HPB.out.2.1⟩
            have HRr : Hid (Row wr g 59 ch tl) := HR.out.below hBk hgl
            have HBr : Hid (Below w.heap.size w wr) := HBW.out.trans (hBk.mono hsz)
            have hsr : w.heap.size ≤ wr.heap.size := by omega
            have HCALL : Hid (Calls Tryd.prog 34 #[.slice (some ⟨g, 0, none⟩) 8 cap3, .slice (some ⟨g6, 0, none⟩) 64 cap6, .int .i64 (len : Int), .bool true] wr fun e w' => ∃ g cap, e = .returned (.slice (some ⟨g, 0, none⟩) 8 cap) ∧ w'.ownsRow wr.heap.size 59 1 (.slice (some ⟨g, 0, none⟩) 8 cap) 8 ((Bl.taken ch (Bl.pad ds) len true).map V32) ∧ Below wr.heap.size wr w') :=
              block_any g 0 cap3 ch (Bl.pad ds) g6 0 cap6 len true wr HCW.out (row_cells HRr.out HCW.out.1) (by omega) HP8.out HPB.out
            have HHW : Hid (Bl.Words 8 (Bl.taken ch (Bl.pad ds) len true)) := Bl.taken_words HCW.out HP8.out (by omega) true
            clear hM hBk HPB HP8 HRr HM5 HB5 HPD HR HDL HD8
            generalize Bl.taken ch (Bl.pad ds) len true = H at *
            go_wp2_with (first | (go_at_call 34; refine HCALL.out.mono ?_; rintro e w5 ⟨g8, cap8, rfl, hO5, hB5⟩))
            obtain ⟨g9, cap9, tl9, e9, hg9, hc9, hl9, hR9⟩ := own_row hO5 (by omega)
            cases e9
            have HR9 : Hid (Row w5 g8 59 H tl9) := hR9
            have HB9 : Hid (Below w.heap.size w w5) := HBr.out.trans (hB5.mono hsr)
            have hg8 : g8 < w5.heap.size := hR9.lt
            have hs5 : w.heap.size ≤ w5.heap.size := HB9.out.size
            have HL9 : Hid (H.length = 8) := hl9
            clear hO5 hB5 hR9 hl9 HCALL HBr
            go_loopw [6, 7] (fun s i wq => ∃ k : Nat, k ≤ 8 ∧ i = .int .i64 k ∧ wq.ownsRow w5.heap.size 5 1 s (4 * k) (((Bl.bytes H).take (4 * k)).map V8) ∧ Below w5.heap.size w5 wq) (fun _ i _ => 8 - (intOf i).toNat)
            case atStart => exact ⟨0, by omega, rfl, ⟨rfl, .inl ⟨rfl, rfl⟩⟩, Below.refl _ _⟩
            case round =>
              obtain ⟨k, hk, rfl, hO0, hBr⟩ := hrel
              have hO := (show Hid (wr.ownsRow w5.heap.size 5 1 _ (4 * k) (((Bl.bytes H).take (4 * k)).map V8)) from hO0)
              clear hO0
              have hszr := hBr.size
              by_cases hlt8 : k < 8
              · have hcl := ((HR9.out.below hBr hg8).at k (by rw [HL9.out]; omega)).1
                have lx := HHW.out.at k
                have HNX : Is ((Bl.bytes H).take (4 * k + 4)) ((Bl.bytes H).take (4 * k) ++ [H.getD k 0 % 256, H.getD k 0 / 256 % 256, H.getD k 0 / 65536 % 256, H.getD k 0 / 16777216 % 256]) := ⟨bytes_take H k hlt8⟩
                generalize H.getD k 0 = x at *
                have HC : Hid (wr.cell? ⟨g8, k, none⟩ = some (.int .u32 (x : Int))) := hcl
                clear hcl
                have i0 : (k : Int) < 8 := by omega
                have j0 : (0 : Int) ≤ (k : Int) := Int.natCast_nonneg _
                go_wp2_with fail
                go_region_held3 (fun w' => w'.cell? ⟨g8, k, none⟩ = some (.int .u32 (x : Int)))
                  (first | exact HC.out | assumption | exact one_cell_new (by exact HC.out) (show g8 < _ by omega) | exact one_cell_below (by exact HC.out) (show g8 < _ by omega) hszr hB')
                  (first | (refine step_append_bytes rfl (.tmp 51) (.tmp 75) rfl w5.heap.size _ (4 * k) _ rfl (owns8_new hO.out _) ⟨wr.heap.size, 0, none⟩ 4 4 [x % 256, x / 256 % 256, x / 65536 % 256, x / 16777216 % 256] rfl rfl (four_at wr (by simp only [IntKind.wrap_u8]; omega) (by simp only [IntKind.wrap_u8]; omega) (by simp only [IntKind.wrap_u8]; omega) (by simp only [IntKind.wrap_u8]; omega)) (by omega) (by simp; omega) ?_; intro v' w' hO' hB'))
                rw [← HNX.eq] at hO'
                have HF : ∃ k' : Nat, k' ≤ 8 ∧ Value.int .i64 ((k : Int) + 1) = .int .i64 k' ∧ w'.ownsRow w5.heap.size 5 1 v' (4 * k') (((Bl.bytes H).take (4 * k')).map V8) ∧ Below w5.heap.size w5 w' := ⟨k + 1, by omega, by go_num, hO', hBr.trans ((((Below.refl _ _).alloc (Nat.le_refl _) _).drew.mono hszr).trans hB')⟩
                go_wp2
                go_roundw
                case rel => first | exact HF | ((repeat apply Exists.intro); exact ⟨HF, rfl⟩)
                case measure => (simp [intOf]) <;> omega
              · have hk8 : k = 8 := by omega
                subst hk8
                have hb32 := Bl.bytes_bytes H
                rw [List.take_of_length_le (by rw [hb32.1]; omega)] at hO
                obtain ⟨go, capo, rfl, hMo⟩ := own_bytes hO.out hb32.2 (by omega)
                go_wp2_with fail
                go_ret
                exact ⟨go, capo, rfl, by rw [HDG.eq]; exact hMo.mono hs5, HB9.out.trans (hBr.mono hs5)⟩
end Go.Proofs.YtefpaebbendnmaaDoor.BK
