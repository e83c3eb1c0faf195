/- Proved: the walk of the law BlakeOf answers true for any bytes. Condition: the two tables. -/
import Derived.Test.YtaeeibllmpaebaaDoorRReg
namespace Go.Proofs.YtaeeibllmpaebaaDoor
open Go.RowKit
set_option maxHeartbeats 4000000 in
set_option maxRecDepth 20000 in
theorem of_walk (a : Option Addr) (len cap : Nat) (bs : List Nat) (w : World) (hB : Bytes w a len bs) (hc : len ≤ cap) (hc' : cap ≤ 9223372036854775807) (hT : Tab w) (h0 : 1 < w.heap.size) :
    Calls Tryd.prog 3 #[.slice a len cap] w fun e w' => e = .returned (.bool true) ∧ Below w.heap.size w w' := by
  have HT : Hid (Tab w) := hT
  clear hT
  go_enter Tryd.func3, Tryd.ntmps3
  go_wp2_with fail
  refine (few_any a len cap bs w hB hc hc').mono ?_
  rintro e w1 ⟨g, c1, rfl, hM1, hb1⟩
  have hm : min len 1500 ≤ 1500 := by omega
  clear hB
  generalize min len 1500 = m at *
  generalize bs.take 1500 = cs at *
  have hz1 := hb1.size
  have hcm := hM1.2.2
  have hcap1 : c1 ≤ 9223372036854775807 := by
    rcases hM1.1.2 with ⟨hv, _⟩ | ⟨g', cap', cur, hv, _, _, _, hmx, _, _⟩
    · cases hv
    · cases hv; unfold maxLen at hmx; omega
  have HM1 : Hid (Mine w1 w.heap.size (some ⟨g, 0, none⟩) m c1 cs) := hM1
  have HB1 : Hid (Below w.heap.size w w1) := hb1
  obtain ⟨D, hD⟩ : ∃ D, D = Bl.digest cs := ⟨_, rfl⟩
  have HD8 : Hid (Bl.Bytes8 32 D) := by show Bl.Bytes8 32 D; rw [hD]; exact Bl.digest_bytes cs
  have OF1 : Hid (∀ W ad cc, Bytes W ad m cs → m ≤ cc → Tab W → 1 < W.heap.size → Calls Tryd.prog 10 #[.slice ad m cc] W fun e w' => e = .returned (.agg (arr8 D)) ∧ Below W.heap.size W w') := fun W ad cc h1 h2 h3 h4 => by rw [hD]; exact of_any ad m cc cs W h1 h2 h3 h4
  have ROF : Hid (∀ W b off cc, Bytes W (some ⟨b, off, none⟩) m cs → m ≤ cc → cc ≤ 9223372036854775807 → Calls Tryd.prog 11 #[.slice (some ⟨b, off, none⟩) m cc] W fun e w' => ∃ g cap', e = .returned (.slice (some ⟨g, 0, none⟩) 32 cap') ∧ Mine w' W.heap.size (some ⟨g, 0, none⟩) 32 cap' D ∧ Below W.heap.size W w') := fun W b off cc h1 h2 h3 => by rw [hD]; exact rof_any _ m cc cs W h1 (.inr ⟨b, off, rfl⟩) h2 h3
  clear hM1 hb1 hD
  go_wp2_with fail
  refine (OF1.out w1 _ c1 (HM1.out.bytes (by omega)) hcm (HT.out.below h0 HB1.out) (by omega)).mono ?_
  rintro e w3 ⟨rfl, hb3⟩
  have hz3 := hb3.size
  have HB3 : Hid (Below w.heap.size w w3) := HB1.out.trans (hb3.mono hz1)
  have HM3 : Hid (Mine w3 w.heap.size (some ⟨g, 0, none⟩) m c1 cs) := HM1.out.below hb3 rfl
  have hi : Hid ((Tryd.prog.info? 24).map (·.size) = some (arr8 D).size) := hi24 HD8.out.1
  have he : Hid (32 = (arr8 D).size) := by show _ = _; rw [arr8_size, HD8.out.1]
  have H1 : Hid ((arr8 D).all (·.oneCell') = true) := arr8_one _
  clear hb3 HM1 HB1
  go_upto_region 3 with (first | (refine store_row rfl rfl 24 _ _ rfl w3.heap.size (arr8 D) rfl rfl 24 _ (heap_alloc_new w3 _) hi.out (by exact he.out) H1.out ?_))
  generalize hw4 : World.setRow (World.alloc w3 _) w3.heap.size (arr8 D) = w4
  have R4 : Row8 w4 w3.heap.size 24 D := by rw [← hw4]; exact setRow_heap _ _ _ _ _ _ (heap_alloc_new w3 _)
  have b4 : Below w3.heap.size w3 w4 := by rw [← hw4]; exact below_setRow ((Below.refl _ _).alloc (Nat.le_refl _) _) (Nat.le_refl _) _
  have HR4 : Hid (w4.rangeAt w3.heap.size 0 (D.map V8)) := range_of_row8 R4
  have hz4 : w3.heap.size < w4.heap.size := (Array.getElem?_eq_some_iff.1 R4).1
  have HB4 : Hid (Below w.heap.size w w4) := HB3.out.trans (b4.mono (by omega))
  have BY4 : Hid (Bytes w4 (some ⟨g, 0, none⟩) m cs) := (HM3.out.below b4 rfl).bytes (by omega)
  have HT4 : Hid (Tab w4) := HT.out.below h0 HB4.out
  have hp4 : 1 < w4.heap.size := by omega
  have u24 := Tryd.underlying24
  have i24 : (Tryd.prog.info? 24).map (·.size) = some (D.map V8).length := by rw [size24, List.length_map, HD8.out.1]
  have HHX : Hid (∀ W, Calls Tryd.prog 12 #[.agg (D.map V8).toArray] W fun e w' => e = .returned (.string (Bl.toBytes (Bl.hex D))) ∧ Below W.heap.size W w') := fun W => hex_any D W HD8.out
  have RHX : Hid (∀ W ad cc, Bytes W ad 32 D → Calls Tryd.prog 13 #[.slice ad 32 cc] W fun e w' => e = .returned (.string (Bl.toBytes (Bl.hex D))) ∧ Below W.heap.size W w') := fun W ad cc h => rhex_of D ad cc W HD8.out h
  generalize Bl.toBytes (Bl.hex D) = HX at *
  have hcv : ∀ W : World, (W.rangeAt w3.heap.size 0 (D.map V8) ∧ Below w4.heap.size w4 W) → (convert 22 9 (.slice (some ⟨w3.heap.size, 0, none⟩) 32 32)).run Tryd.prog W = .ok (.string (Bl.toBytes D)) W := fun W h => str_of_bytes (hold_bytes h HD8.out) (by omega) 32
  clear R4 b4 hw4 HM3 HB3 hi he H1
  have HS : Hid ((fun w' : World => w'.rangeAt w3.heap.size 0 (D.map V8) ∧ Below w4.heap.size w4 w') w4.drew) := ⟨HR4.out, (Below.refl _ _).drew⟩
  refine wp_region_held_drew (S := fun w' => w'.rangeAt w3.heap.size 0 (D.map V8) ∧ Below w4.heap.size w4 w') (by kernel_rfl) HS.out (fun _ => ?_)
  refine heldTake 0 (some 8) (.slice (some ⟨w3.heap.size, 0, none⟩) 32 32) rfl rfl (by kernel_rfl) (by kernel_rfl) (by kernel_rfl) (fun _ _ _ h => h) (Or.inl ⟨by rfl, fun w hS => ?_⟩) HS.out ?_
  · (go_simp)
  simp only [Act.put, List.setIfInBounds_toArray, List.set_cons_zero, List.set_cons_succ]
  refine heldTake 1 (some 9) (.string (Bl.toBytes D)) rfl rfl (by kernel_rfl) (by kernel_rfl) (by kernel_rfl) (fun _ _ _ h => h) (Or.inl ⟨by rfl, fun w hS => ?_⟩) HS.out ?_
  · (have e := hcv w hS; go_simp)
  simp only [Act.put, List.setIfInBounds_toArray, List.set_cons_zero, List.set_cons_succ]
  refine heldTake 2 (some 10) (.slice (some ⟨g, 0, none⟩) m c1) rfl rfl (by kernel_rfl) (by kernel_rfl) (by kernel_rfl) (fun _ _ _ h => h) (Or.inl ⟨by rfl, fun w hS => ?_⟩) HS.out ?_
  · (go_simp)
  simp only [Act.put, List.setIfInBounds_toArray, List.set_cons_zero, List.set_cons_succ]
  refine heldOne 3 (by kernel_rfl) rfl (by rfl) (fun KK hK => ?_)
  go_simp
  go_at_call 11
  refine (ROF.out _ _ _ c1 (BY4.out.below (hold_bel HS.out) rfl) hcm hcap1).mono ?_
  rintro e w5 ⟨go, co, rfl, hMo, hbw5⟩
  have HSw5 : Hid ((fun w' : World => w'.rangeAt w3.heap.size 0 (D.map V8) ∧ Below w4.heap.size w4 w') w5) := hold_call HS.out hz4 hbw5
  have hcvo := str_of_bytes (hMo.bytes (by omega)) (by omega) co
  refine hK.out _ _ HSw5.out ?_
  clear hK KK
  try simp only [Act.put, List.setIfInBounds_toArray, List.set_cons_zero, List.set_cons_succ]
  refine heldOne 4 (by kernel_rfl) rfl (by rfl) (fun KK hK => ?_)
  go_simp
  refine hK.out _ _ HSw5.out ?_
  clear hK KK
  try simp only [Act.put, List.setIfInBounds_toArray, List.set_cons_zero, List.set_cons_succ]
  clear hcvo hcv
  refine heldTake 5 (some 13) (.bool true) rfl rfl (by kernel_rfl) (by kernel_rfl) (by kernel_rfl) (fun _ _ _ h => h) (Or.inl ⟨by rfl, fun w hS => ?_⟩) HSw5.out ?_
  · (go_simp)
  simp only [Act.put, List.setIfInBounds_toArray, List.set_cons_zero, List.set_cons_succ]
  refine heldTake 6 (some 14) (.bool true) rfl rfl (by kernel_rfl) (by kernel_rfl) (by kernel_rfl) (fun _ _ _ h => h) (Or.inl ⟨by rfl, fun w hS => ?_⟩) HSw5.out ?_
  · (go_simp)
  simp only [Act.put, List.setIfInBounds_toArray, List.set_cons_zero, List.set_cons_succ]
  refine heldTake 7 (some 15) (.agg (D.map V8).toArray) rfl rfl (by kernel_rfl) (by kernel_rfl) (by kernel_rfl) (fun _ _ _ h => h) (yieldsIf_load_mid (by rfl) _ _ rfl _ _ rfl (D.map V8) _ (fun w hS => hS.1) u24 rfl i24) HSw5.out ?_
  simp only [Act.put, List.setIfInBounds_toArray, List.set_cons_zero, List.set_cons_succ]
  refine heldTake 9 (some 17) (.slice (some ⟨w3.heap.size, 0, none⟩) 32 32) rfl rfl (by kernel_rfl) (by kernel_rfl) (by kernel_rfl) (fun _ _ _ h => h) (Or.inl ⟨by rfl, fun w hS => ?_⟩) HSw5.out ?_
  · (go_simp)
  simp only [Act.put, List.setIfInBounds_toArray, List.set_cons_zero, List.set_cons_succ]
  refine heldOne 8 (by kernel_rfl) rfl (by rfl) (fun KK hK => ?_)
  go_simp
  go_at_call 12
  refine (HHX.out _).mono ?_
  rintro e w6 ⟨rfl, hbw6⟩
  have HSw6 : Hid ((fun w' : World => w'.rangeAt w3.heap.size 0 (D.map V8) ∧ Below w4.heap.size w4 w') w6) := hold_call HSw5.out hz4 hbw6
  refine hK.out _ _ HSw6.out ?_
  clear hK KK
  try simp only [Act.put, List.setIfInBounds_toArray, List.set_cons_zero, List.set_cons_succ]
  refine heldOne 10 (by kernel_rfl) rfl (by rfl) (fun KK hK => ?_)
  go_simp
  go_at_call 13
  refine (RHX.out _ _ _ (hold_bytes HSw6.out HD8.out)).mono ?_
  rintro e w7 ⟨rfl, hbw7⟩
  have HSw7 : Hid ((fun w' : World => w'.rangeAt w3.heap.size 0 (D.map V8) ∧ Below w4.heap.size w4 w') w7) := hold_call HSw6.out hz4 hbw7
  refine hK.out _ _ HSw7.out ?_
  clear hK KK
  try simp only [Act.put, List.setIfInBounds_toArray, List.set_cons_zero, List.set_cons_succ]
  refine heldTake 11 (some 19) (.bool true) rfl rfl (by kernel_rfl) (by kernel_rfl) (by kernel_rfl) (fun _ _ _ h => h) (Or.inl ⟨by rfl, fun w hS => ?_⟩) HSw7.out ?_
  · (go_simp)
  simp only [Act.put, List.setIfInBounds_toArray, List.set_cons_zero, List.set_cons_succ]
  refine heldTake 12 (some 20) (.bool true) rfl rfl (by kernel_rfl) (by kernel_rfl) (by kernel_rfl) (fun _ _ _ h => h) (Or.inl ⟨by rfl, fun w hS => ?_⟩) HSw7.out ?_
  · (go_simp)
  simp only [Act.put, List.setIfInBounds_toArray, List.set_cons_zero, List.set_cons_succ]
  refine heldTake 13 (some 21) (.bool true) rfl rfl (by kernel_rfl) (by kernel_rfl) (by kernel_rfl) (fun _ _ _ h => h) (Or.inl ⟨by rfl, fun w hS => ?_⟩) HSw7.out ?_
  · (go_simp)
  simp only [Act.put, List.setIfInBounds_toArray, List.set_cons_zero, List.set_cons_succ]
  refine heldOne 14 (by kernel_rfl) rfl (by rfl) (fun KK hK => ?_)
  go_simp
  go_at_call 14
  refine (works_any _ (HT4.out.below hp4 (hold_bel HSw7.out)) (Nat.lt_of_lt_of_le hp4 (hold_size HSw7.out))).mono ?_
  rintro e w8 ⟨rfl, hbw8⟩
  have HSw8 : Hid ((fun w' : World => w'.rangeAt w3.heap.size 0 (D.map V8) ∧ Below w4.heap.size w4 w') w8) := hold_call HSw7.out hz4 hbw8
  refine hK.out _ _ HSw8.out ?_
  clear hK KK
  try simp only [Act.put, List.setIfInBounds_toArray, List.set_cons_zero, List.set_cons_succ]
  refine heldTake 15 (some 23) (.bool true) rfl rfl (by kernel_rfl) (by kernel_rfl) (by kernel_rfl) (fun _ _ _ h => h) (Or.inl ⟨by rfl, fun w hS => ?_⟩) HSw8.out ?_
  · (go_simp)
  simp only [Act.put, List.setIfInBounds_toArray, List.set_cons_zero, List.set_cons_succ]
  refine heldTake 16 (some 2) (.bool true) rfl rfl (by kernel_rfl) (by kernel_rfl) (by kernel_rfl) (fun _ _ _ h => h) (Or.inl ⟨by rfl, fun w hS => ?_⟩) HSw8.out ?_
  · (go_simp)
  simp only [Act.put, List.setIfInBounds_toArray, List.set_cons_zero, List.set_cons_succ]
  refine wpAnyH_done (by kernel_rfl) ?_ _
  go_wp2
  go_ret
  exact ⟨rfl, HB4.out.trans (Below.mono (hold_bel HSw8.out) (by omega))⟩
end Go.Proofs.YtaeeibllmpaebaaDoor
