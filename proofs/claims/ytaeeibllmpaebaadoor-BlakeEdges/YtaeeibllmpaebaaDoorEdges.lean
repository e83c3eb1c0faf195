/- Proved: the walk of the law BlakeEdges answers true for any number and byte. Condition: the two tables. -/
import Derived.Test.YtaeeibllmpaebaaDoorRReg
import Derived.Deep.OwnRows
namespace Go.Proofs.YtaeeibllmpaebaaDoor
open Go.RowKit
def edge (c i : Nat) : Nat := (c + 7 * i) % 256
def edges (c n : Nat) : List Nat := (List.range n).map (edge c)
theorem edges_set (c n k : Nat) (hk : k < n) : (Bl.part (edges c n) (Bl.zeros n) k).set k (edge c k) = Bl.part (edges c n) (Bl.zeros n) (k + 1) := by
  have hl : (edges c n).length = n := by simp [edges]
  have hz : (Bl.zeros n).length = n := by simp [Bl.zeros]
  have e : (edges c n).getD k 0 = edge c k := by
    unfold edges
    rw [List.getD_eq_getElem?_getD, List.getElem?_map, List.getElem?_range hk]; rfl
  rw [← e]
  exact Bl.part_set hl hz hk
theorem edge_in (z : Int) : ∃ (t : Int) (n : Nat), z.tmod 330 = t ∧ -330 < t ∧ t < 330 ∧ (t + 330).tmod 330 = (n : Int) ∧ (t + 330) % 330 = (n : Int) ∧ n < 330 := place_in z 330 (by omega)
theorem made_arr (k : Nat) : madeCells #[.int .u8 0] k = arr8 (Bl.zeros k) := by
  unfold arr8 Bl.zeros
  refine Array.ext (by simp [madeCells]) fun i h1 h2 => ?_
  simp [madeCells, Nat.mod_one, V8]
theorem edge_bits (c k : Nat) : ((c : Int) + (7 * (k : Int)) % 256) % 256 = ((edge c k : Nat) : Int) := by
  unfold edge; omega
theorem row8_bytes {w : World} {g t n : Nat} {v : List Nat} (h : Row8 w g t v) (hl : v.length = n) (h8 : ∀ x ∈ v, x < 256) (hn : n ≤ 9223372036854775807) : Bytes w (some ⟨g, 0, none⟩) n v :=
  ⟨hl, h8, hn, .inr ⟨g, 0, rfl, fun i hi => by rw [Nat.zero_add]; exact (h.at i (by omega)).1⟩⟩
theorem edges_lt (c n : Nat) : ∀ x ∈ edges c n, x < 256 := fun x hx => by
  obtain ⟨i, _, rfl⟩ := List.mem_map.1 hx
  exact Nat.mod_lt _ (by omega)
set_option maxHeartbeats 4000000 in
set_option maxRecDepth 20000 in
theorem edges_walk (z : Int) (c : Nat) (w : World) (_hz : -9223372036854775808 ≤ z ∧ z ≤ 9223372036854775807) (_hc : c < 256) (hT : Tab w) (h0 : 1 < w.heap.size) :
    Calls Tryd.prog 4 #[.int .i64 z, .int .u8 (c : Int)] w fun e w' => e = .returned (.bool true) ∧ Below w.heap.size w w' := by
  have HT : Hid (Tab w) := hT
  clear hT
  obtain ⟨t, n, ht, hta, htb, hn1, hn2, hn⟩ := edge_in z
  have hmk : ∀ W : World, (Instr.makeSlice 22 (.int .i64 (n : Int)) (.int .i64 (n : Int))).run Tryd.prog W = .ok (.slice (some ⟨W.heap.size, 0, none⟩) n n) (W.alloc (.cells (madeCells #[.int .u8 0] n) 5)) :=
    fun W => run_make_row' 22 5 (.int .u8 0) 1 Tryd.underlying22 (by kernel_rfl) rfl .i64 .i64 n (by omega) (by omega) W
  rw [made_arr] at hmk
  go_enter Tryd.func4, Tryd.ntmps4
  go_wp2_with fail
  have HL : Hid (∀ k, k ≤ n → (Bl.part (edges c n) (Bl.zeros n) k).length = n) := fun k hk => Bl.part_length (by simp [edges]) (by simp [Bl.zeros]) hk
  go_loopw [6, 16] (fun _ s16 wr => ∃ k : Nat, k ≤ n ∧ s16 = .int .i64 k ∧ Row8 wr w.heap.size 5 (Bl.part (edges c n) (Bl.zeros n) k) ∧ Below w.heap.size w wr) (fun _ s16 _ => n - (intOf s16).toNat)
  case atStart => exact ⟨0, by omega, rfl, by rw [Bl.part_zero]; exact heap_alloc_new w _, (Below.refl _ _).alloc (Nat.le_refl _) _⟩
  case round =>
    obtain ⟨k, hk, rfl, hR, hBr⟩ := hrel
    by_cases hlt : k < n
    · obtain ⟨hcl, hfz⟩ := hR.at k (by rw [HL.out k hk]; exact hlt)
      have HR : Hid (Row8 wr w.heap.size 5 (Bl.part (edges c n) (Bl.zeros n) k)) := hR
      have HBr : Hid (Below w.heap.size w wr) := hBr
      have HNX : Is ((Bl.part (edges c n) (Bl.zeros n) k).set k (edge c k)) (Bl.part (edges c n) (Bl.zeros n) (k + 1)) := ⟨edges_set c n k hlt⟩
      have EB := edge_bits c k
      have i0 : (k : Int) < (n : Int) := by omega
      have j0 : (0 : Int) ≤ (k : Int) := Int.natCast_nonneg _
      clear hR hBr
      generalize (Bl.part (edges c n) (Bl.zeros n) k).getD k 0 = old at *
      go_wp2
      go_roundw
      case rel => exact ⟨k + 1, by omega, by go_num, by rw [← HNX.eq]; exact HR.out.set k _, HBr.out.setCell (Nat.le_refl _) _⟩
      case measure => (simp [intOf]) <;> omega
    · have hkn : k = n := by omega
      subst hkn
      rw [Bl.part_all (n := k) (by simp [edges]) (by simp [Bl.zeros])] at hR
      have BY : Bytes wr (some ⟨w.heap.size, 0, none⟩) k (edges c k) := row8_bytes hR (by simp [edges]) (edges_lt c k) (by omega)
      rename World => w1
      have HBY : Hid (Bytes w1 (some ⟨w.heap.size, 0, none⟩) k (edges c k)) := BY
      have HB1 : Hid (Below w.heap.size w w1) := hBr
      have hz1 := hBr.size
      clear BY hR hBr HL
      generalize edges c k = cs at *
      obtain ⟨D, hD⟩ : ∃ D, D = Bl.digest cs := ⟨_, rfl⟩
      have HD8 : Hid (Bl.Bytes8 32 D) := by show Bl.Bytes8 32 D; rw [hD]; exact Bl.digest_bytes cs
      have OF1 : Hid (∀ W ad, Bytes W ad k cs → Tab W → 1 < W.heap.size → Calls Tryd.prog 10 #[.slice ad k k] W fun e w' => e = .returned (.agg (arr8 D)) ∧ Below W.heap.size W w') := fun W ad h1 h3 h4 => by rw [hD]; exact of_any ad k k cs W h1 (Nat.le_refl _) h3 h4
      have ROF : Hid (∀ W b off, Bytes W (some ⟨b, off, none⟩) k cs → Calls Tryd.prog 11 #[.slice (some ⟨b, off, none⟩) k k] W fun e w' => ∃ g cap', e = .returned (.slice (some ⟨g, 0, none⟩) 32 cap') ∧ Mine w' W.heap.size (some ⟨g, 0, none⟩) 32 cap' D ∧ Below W.heap.size W w') := fun W b off h1 => by rw [hD]; exact rof_any _ k k cs W h1 (.inr ⟨b, off, rfl⟩) (Nat.le_refl _) (by omega)
      clear hD hmk
      go_wp2_with fail
      refine (OF1.out w1 _ HBY.out (HT.out.below h0 HB1.out) (by omega)).mono ?_
      rintro e w3 ⟨rfl, hb3⟩
      have hz3 := hb3.size
      have HB3 : Hid (Below w.heap.size w w3) := HB1.out.trans (hb3.mono hz1)
      have BY3 : Hid (Bytes w3 (some ⟨w.heap.size, 0, none⟩) k cs) := HBY.out.below hb3 rfl
      have hi : Hid ((Tryd.prog.info? 24).map (·.size) = some (arr8 D).size) := hi24 HD8.out.1
      have he : Hid (32 = (arr8 D).size) := by show _ = _; rw [arr8_size, HD8.out.1]
      have H1 : Hid ((arr8 D).all (·.oneCell') = true) := arr8_one _
      clear hb3 HBY HB1
      go_upto_region 9 with (first | (refine store_row rfl rfl 24 _ _ rfl w3.heap.size (arr8 D) rfl rfl 24 _ (heap_alloc_new w3 _) hi.out (by exact he.out) H1.out ?_))
      generalize hw4 : World.setRow (World.alloc w3 _) w3.heap.size (arr8 D) = w4
      have R4 : Row8 w4 w3.heap.size 24 D := by rw [← hw4]; exact setRow_heap _ _ _ _ _ _ (heap_alloc_new w3 _)
      have b4 : Below w3.heap.size w3 w4 := by rw [← hw4]; exact below_setRow ((Below.refl _ _).alloc (Nat.le_refl _) _) (Nat.le_refl _) _
      have HR4 : Hid (w4.rangeAt w3.heap.size 0 (D.map V8)) := range_of_row8 R4
      have hz4 : w3.heap.size < w4.heap.size := (Array.getElem?_eq_some_iff.1 R4).1
      have HB4 : Hid (Below w.heap.size w w4) := HB3.out.trans (b4.mono (by omega))
      have BY4 : Hid (Bytes w4 (some ⟨w.heap.size, 0, none⟩) k cs) := BY3.out.below b4 rfl
      have HT4 : Hid (Tab w4) := HT.out.below h0 HB4.out
      have hp4 : 1 < w4.heap.size := by omega
      have hcv : ∀ W : World, (W.rangeAt w3.heap.size 0 (D.map V8) ∧ Below w4.heap.size w4 W) → (convert 22 9 (.slice (some ⟨w3.heap.size, 0, none⟩) 32 32)).run Tryd.prog W = .ok (.string (Bl.toBytes D)) W := fun W h => str_of_bytes (hold_bytes h HD8.out) (by omega) 32
      clear R4 b4 hw4 BY3 HB3 hi he H1
      have HS : Hid ((fun w' : World => w'.rangeAt w3.heap.size 0 (D.map V8) ∧ Below w4.heap.size w4 w') w4.drew) := ⟨HR4.out, (Below.refl _ _).drew⟩
      refine wp_region_held_drew (S := fun w' => w'.rangeAt w3.heap.size 0 (D.map V8) ∧ Below w4.heap.size w4 w') (by kernel_rfl) HS.out (fun _ => ?_)
      refine heldTake 0 (some 30) (.slice (some ⟨w3.heap.size, 0, none⟩) 32 32) rfl rfl (by kernel_rfl) (by kernel_rfl) (by kernel_rfl) (fun _ _ _ h => h) (Or.inl ⟨by rfl, fun w hS => ?_⟩) HS.out ?_
      · (go_simp)
      simp only [Act.put, List.setIfInBounds_toArray, List.set_cons_zero, List.set_cons_succ]
      refine heldTake 1 (some 31) (.string (Bl.toBytes D)) rfl rfl (by kernel_rfl) (by kernel_rfl) (by kernel_rfl) (fun _ _ _ h => h) (Or.inl ⟨by rfl, fun w hS => ?_⟩) HS.out ?_
      · (have e := hcv w hS; go_simp)
      simp only [Act.put, List.setIfInBounds_toArray, List.set_cons_zero, List.set_cons_succ]
      refine heldTake 2 (some 32) (.slice (some ⟨w.heap.size, 0, none⟩) k k) rfl rfl (by kernel_rfl) (by kernel_rfl) (by kernel_rfl) (fun _ _ _ h => h) (Or.inl ⟨by rfl, fun w hS => ?_⟩) HS.out ?_
      · (go_simp)
      simp only [Act.put, List.setIfInBounds_toArray, List.set_cons_zero, List.set_cons_succ]
      refine heldOne 3 (by kernel_rfl) rfl (by rfl) (fun KK hK => ?_)
      go_simp
      go_at_call 11
      refine (ROF.out _ _ _ (BY4.out.below (hold_bel HS.out) rfl)).mono ?_
      rintro e w5 ⟨go, co, rfl, hMo, hbw5⟩
      have HSw5 : Hid ((fun w' : World => w'.rangeAt w3.heap.size 0 (D.map V8) ∧ Below w4.heap.size w4 w') w5) := hold_call HS.out hz4 hbw5
      have hcvo := str_of_bytes (hMo.bytes (by omega)) (by omega) co
      refine hK.out _ _ HSw5.out ?_
      clear hK KK
      try simp only [Act.put, List.setIfInBounds_toArray, List.set_cons_zero, List.set_cons_succ]
      refine heldOne 4 (by kernel_rfl) rfl (by rfl) (fun KK hK => ?_)
      go_simp
      refine hK.out _ _ HSw5.out ?_
      clear hK KK
      try simp only [Act.put, List.setIfInBounds_toArray, List.set_cons_zero, List.set_cons_succ]
      clear hcvo hcv
      refine heldTake 5 (some 35) (.bool true) rfl rfl (by kernel_rfl) (by kernel_rfl) (by kernel_rfl) (fun _ _ _ h => h) (Or.inl ⟨by rfl, fun w hS => ?_⟩) HSw5.out ?_
      · (go_simp)
      simp only [Act.put, List.setIfInBounds_toArray, List.set_cons_zero, List.set_cons_succ]
      refine heldTake 6 (some 36) (.bool true) rfl rfl (by kernel_rfl) (by kernel_rfl) (by kernel_rfl) (fun _ _ _ h => h) (Or.inl ⟨by rfl, fun w hS => ?_⟩) HSw5.out ?_
      · (go_simp)
      simp only [Act.put, List.setIfInBounds_toArray, List.set_cons_zero, List.set_cons_succ]
      refine heldOne 7 (by kernel_rfl) rfl (by rfl) (fun KK hK => ?_)
      go_simp
      go_at_call 14
      refine (works_any _ (HT4.out.below hp4 (hold_bel HSw5.out)) (Nat.lt_of_lt_of_le hp4 (hold_size HSw5.out))).mono ?_
      rintro e w8 ⟨rfl, hbw8⟩
      have HSw8 : Hid ((fun w' : World => w'.rangeAt w3.heap.size 0 (D.map V8) ∧ Below w4.heap.size w4 w') w8) := hold_call HSw5.out hz4 hbw8
      refine hK.out _ _ HSw8.out ?_
      clear hK KK
      try simp only [Act.put, List.setIfInBounds_toArray, List.set_cons_zero, List.set_cons_succ]
      refine heldTake 8 (some 38) (.bool true) rfl rfl (by kernel_rfl) (by kernel_rfl) (by kernel_rfl) (fun _ _ _ h => h) (Or.inl ⟨by rfl, fun w hS => ?_⟩) HSw8.out ?_
      · (go_simp)
      simp only [Act.put, List.setIfInBounds_toArray, List.set_cons_zero, List.set_cons_succ]
      refine heldTake 9 (some 4) (.bool true) rfl rfl (by kernel_rfl) (by kernel_rfl) (by kernel_rfl) (fun _ _ _ h => h) (Or.inl ⟨by rfl, fun w hS => ?_⟩) HSw8.out ?_
      · (go_simp)
      simp only [Act.put, List.setIfInBounds_toArray, List.set_cons_zero, List.set_cons_succ]
      refine wpAnyH_done (by kernel_rfl) ?_ _
      go_wp2
      go_ret
      exact ⟨rfl, HB4.out.trans (Below.mono (hold_bel HSw8.out) (by omega))⟩
end Go.Proofs.YtaeeibllmpaebaaDoor
