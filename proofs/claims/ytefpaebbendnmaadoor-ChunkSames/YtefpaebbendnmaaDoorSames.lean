/- Proved: the law ChunkSames answers true, whatever comes in. Condition: the two tables of blake. -/
import Derived.Test.YtefpaebbendnmaaDoorSumW
import Derived.Test.YtefpaebbendnmaaDoorRSame
import Derived.Test.YtefpaebbendnmaaDoorWorks
import Derived.Test.YtefpaebbendnmaaDoorReg
namespace Go.Proofs.YtefpaebbendnmaaDoor
open Go.RowKit
open Ck (T same)
theorem hold_call {w7 w' w'' : World} {N : Nat} {l : List Value} (h : w'.rangeAt N 0 l ∧ Below w7.heap.size w7 w') (hN : N < w7.heap.size) (hb : Below w'.heap.size w' w'') : w''.rangeAt N 0 l ∧ Below w7.heap.size w7 w'' := by
  have hs := h.2.size
  exact ⟨BK.range_below h.1 hb (by omega), h.2.trans (hb.mono hs)⟩
theorem hold_bel {w7 w' : World} {N : Nat} {l : List Value} (h : w'.rangeAt N 0 l ∧ Below w7.heap.size w7 w') : Below w7.heap.size w7 w' := h.2
theorem hold_bytes {w7 w' : World} {N : Nat} {D : List Nat} (h : w'.rangeAt N 0 (D.map BK.V8) ∧ Below w7.heap.size w7 w') (h8 : Bl.Bytes8 32 D) : BK.Bytes w' (some ⟨N, 0, none⟩) 32 D := by
  refine ⟨h8.1, h8.2, by omega, .inr ⟨N, 0, rfl, fun i hi => ?_⟩⟩
  refine h.1 i _ ?_
  rw [List.getElem?_map, List.getElem?_eq_getElem (by rw [h8.1]; exact hi), List.getD_eq_getElem?_getD, List.getElem?_eq_getElem (by rw [h8.1]; exact hi)]; rfl
theorem str_of_bytes {w : World} {a : Option Addr} {n : Nat} {v : List Nat} (h : BK.Bytes w a n v) (hn : 0 < n) (cap : Nat) : (convert 28 9 (.slice a n cap)).run Tryd.prog w = .ok (.string (Bl.toBytes v)) w := by
  obtain ⟨h0, h8, hm, hc⟩ := h
  rcases hc with hc | ⟨b, off, ha, hc⟩
  · omega
  subst ha
  subst h0
  have e := run_convert_bytes_back (P := Tryd.prog) w 28 9 5 ⟨b, off, none⟩ cap (v.map UInt8.ofNat) Tryd.underlying28 Tryd.underlying5 Tryd.underlying9 (fun j hj => by
    have hj' : j < v.length := by simpa using hj
    rw [Addr.add_mid, hc j hj', List.getElem_map]
    have h1 : v[j] < 256 := h8 _ (List.getElem_mem hj')
    rw [List.getD_eq_getElem?_getD, List.getElem?_eq_getElem hj', Option.getD_some, UInt8.toNat_ofNat', Nat.mod_eq_of_lt h1])
  rw [List.length_map] at e
  exact e
set_option maxHeartbeats 4000000 in
set_option maxRecDepth 20000 in
theorem sames_walk (a b : ByteArray) (w : World) (ha : a.size ≤ 9223372036854775807) (hb : b.size ≤ 9223372036854775807) (hT : BK.Tab w) (h0 : 3 < w.heap.size) :
    Calls Tryd.prog 3 #[.string a, .string b] w fun e w' => e = .returned (.bool true) ∧ Below w.heap.size w w' := by
  have HF1 := (show Hid _ from fun W => few_any a W ha)
  have HF2 := (show Hid _ from fun W => few_any b W hb)
  have hz1 := fewT_size a
  have hz2 := fewT_size b
  generalize fewT a = A at *
  generalize fewT b = B at *
  obtain ⟨D, hD⟩ : ∃ D, D = Bl.digest (nb A) := ⟨_, rfl⟩
  have HD8 : Hid (Bl.Bytes8 32 D) := by show Bl.Bytes8 32 D; rw [hD]; exact Bl.digest_bytes _
  have HSU := (show Hid _ from sum_any A w (by omega) hT h0)
  have HRU := (show Hid _ from fun W => rsum_any A W (by omega))
  rw [← hD] at HSU HRU
  have HSA := (show Hid _ from fun W => same_any A B W (by omega) (by omega))
  have HRA := (show Hid _ from fun W => rsame_any A B W (by omega) (by omega))
  generalize same (bl A) (bl B) = L at *
  have HSN : Hid (∀ W v1 v2, Nums W v1 L → Nums W v2 L → Calls Tryd.prog 7 #[v1, v2] W fun e w' => e = .returned (.bool true) ∧ Below W.heap.size W w') := fun W v1 v2 h1 h2 => by
    have h := rnums_any v1 v2 _ _ W h1 h2
    rwa [show (L == L) = true by simp] at h
  have HX := (show Hid _ from fun W => works_any W)
  have hi : Hid ((Tryd.prog.info? 23).map (·.size) = some (BK.arr8 D).size) := BK.hi24 HD8.out.1
  have he : Hid (32 = (BK.arr8 D).size) := by show _ = _; rw [BK.arr8_size, HD8.out.1]
  have H1 : Hid ((BK.arr8 D).all (·.oneCell') = true) := BK.arr8_one _
  clear hD hT
  go_enter Tryd.func3, Tryd.ntmps3
  go_wp2_with (first
    | (go_at_call 5; refine (HF1.out _).mono ?_; rintro e w1 ⟨rfl, rfl⟩)
    | (go_at_call 5; refine (HF2.out _).mono ?_; rintro e w1 ⟨rfl, rfl⟩)
    | (go_at_call 6; refine (show Calls _ _ _ _ _ from HSU.out).mono ?_; rintro e w3 ⟨rfl, hB⟩; have HB3 := (show Hid _ from hB); clear hB)
    | (refine BK.store_row rfl rfl 23 _ _ rfl w3.heap.size (BK.arr8 D) rfl rfl 23 _ (heap_alloc_new w3 _) hi.out (by exact he.out) H1.out ?_))
  generalize hw4 : World.setRow (World.alloc w3 _) w3.heap.size (BK.arr8 D) = w4
  have R4 : BK.Row8 w4 w3.heap.size 23 D := by rw [← hw4]; exact setRow_heap _ _ _ _ _ _ (heap_alloc_new w3 _)
  have b4 : Below w3.heap.size w3 w4 := by rw [← hw4]; exact BK.below_setRow ((Below.refl _ _).alloc (Nat.le_refl _) _) (Nat.le_refl _) _
  have HR4 : Hid (w4.rangeAt w3.heap.size 0 (D.map BK.V8)) := BK.range_of_row8 R4
  have hz4 : w3.heap.size < w4.heap.size := (Array.getElem?_eq_some_iff.1 R4).1
  have hzw := HB3.out.size
  have HB4 : Hid (Below w1.heap.size w1 w4) := HB3.out.trans (b4.mono hzw)
  have hcv : ∀ W : World, (W.rangeAt w3.heap.size 0 (D.map BK.V8) ∧ Below w4.heap.size w4 W) → (convert 28 9 (.slice (some ⟨w3.heap.size, 0, none⟩) 32 32)).run Tryd.prog W = .ok (.string (Bl.toBytes D)) W := fun W h => str_of_bytes (hold_bytes h HD8.out) (by omega) 32
  have q1 : ((Bl.toBytes D).toList == (Bl.toBytes D).toList) = true := by simp
  clear R4 b4 hw4 hi he H1 HSU
  have HS : Hid ((fun w' : World => w'.rangeAt w3.heap.size 0 (D.map BK.V8) ∧ Below w4.heap.size w4 w') w4.drew) := ⟨HR4.out, (Below.refl _ _).drew⟩
  refine wp_region_held_drew (S := fun w' => w'.rangeAt w3.heap.size 0 (D.map BK.V8) ∧ Below w4.heap.size w4 w') (by kernel_rfl) HS.out (fun _ => ?_)
  refine heldTake 0 (some 12) (.string A) rfl rfl (by kernel_rfl) (by kernel_rfl) (by kernel_rfl) (fun _ _ _ h => h) (Or.inl ⟨by rfl, fun w hS => ?_⟩) HS.out ?_
  · (go_simp)
  simp only [Act.put, List.setIfInBounds_toArray, List.set_cons_zero, List.set_cons_succ]
  refine heldTake 1 (some 13) (.string B) rfl rfl (by kernel_rfl) (by kernel_rfl) (by kernel_rfl) (fun _ _ _ h => h) (Or.inl ⟨by rfl, fun w hS => ?_⟩) HS.out ?_
  · (go_simp)
  simp only [Act.put, List.setIfInBounds_toArray, List.set_cons_zero, List.set_cons_succ]
  refine heldTake 3 (some 15) (.string A) rfl rfl (by kernel_rfl) (by kernel_rfl) (by kernel_rfl) (fun _ _ _ h => h) (Or.inl ⟨by rfl, fun w hS => ?_⟩) HS.out ?_
  · (go_simp)
  simp only [Act.put, List.setIfInBounds_toArray, List.set_cons_zero, List.set_cons_succ]
  refine heldTake 4 (some 16) (.string B) rfl rfl (by kernel_rfl) (by kernel_rfl) (by kernel_rfl) (fun _ _ _ h => h) (Or.inl ⟨by rfl, fun w hS => ?_⟩) HS.out ?_
  · (go_simp)
  simp only [Act.put, List.setIfInBounds_toArray, List.set_cons_zero, List.set_cons_succ]
  refine heldOne 2 (by kernel_rfl) rfl (by rfl) (fun KK hK => ?_)
  go_simp
  go_at_call 8
  refine (HSA.out _).mono ?_
  rintro e w5 ⟨v5, rfl, hO5, hb5⟩
  have HS5 : Hid ((fun w' : World => w'.rangeAt w3.heap.size 0 (D.map BK.V8) ∧ Below w4.heap.size w4 w') w5) := hold_call HS.out hz4 hb5
  have HN5 := (show Hid _ from hO5.nums)
  refine hK.out _ _ HS5.out ?_
  clear hK KK hO5 hb5 HSA
  try simp only [Act.put, List.setIfInBounds_toArray, List.set_cons_zero, List.set_cons_succ]
  refine heldOne 5 (by kernel_rfl) rfl (by rfl) (fun KK hK => ?_)
  go_simp
  go_at_call 9
  refine (HRA.out _).mono ?_
  rintro e w6 ⟨v6, rfl, hO6, hb6⟩
  have HS6 : Hid ((fun w' : World => w'.rangeAt w3.heap.size 0 (D.map BK.V8) ∧ Below w4.heap.size w4 w') w6) := hold_call HS5.out hz4 hb6
  have HN6 := (show Hid _ from hO6.nums)
  have HN7 := (show Hid _ from HN5.out.below hb6)
  refine hK.out _ _ HS6.out ?_
  clear hK KK hO6 hb6 HRA HN5
  try simp only [Act.put, List.setIfInBounds_toArray, List.set_cons_zero, List.set_cons_succ]
  refine heldOne 6 (by kernel_rfl) rfl (by rfl) (fun KK hK => ?_)
  go_simp
  go_at_call 7
  refine (HSN.out _ _ _ HN7.out HN6.out).mono ?_
  rintro e w7 ⟨rfl, hb7⟩
  have HS7 : Hid ((fun w' : World => w'.rangeAt w3.heap.size 0 (D.map BK.V8) ∧ Below w4.heap.size w4 w') w7) := hold_call HS6.out hz4 hb7
  refine hK.out _ _ HS7.out ?_
  clear hK KK hb7 HN6 HN7 HSN
  try simp only [Act.put, List.setIfInBounds_toArray, List.set_cons_zero, List.set_cons_succ]
  refine heldTake 7 (some 19) (.bool true) rfl rfl (by kernel_rfl) (by kernel_rfl) (by kernel_rfl) (fun _ _ _ h => h) (Or.inl ⟨by rfl, fun w hS => ?_⟩) HS7.out ?_
  · (go_simp)
  simp only [Act.put, List.setIfInBounds_toArray, List.set_cons_zero, List.set_cons_succ]
  refine heldTake 8 (some 20) (.slice (some ⟨w3.heap.size, 0, none⟩) 32 32) rfl rfl (by kernel_rfl) (by kernel_rfl) (by kernel_rfl) (fun _ _ _ h => h) (Or.inl ⟨by rfl, fun w hS => ?_⟩) HS7.out ?_
  · (go_simp)
  simp only [Act.put, List.setIfInBounds_toArray, List.set_cons_zero, List.set_cons_succ]
  refine heldTake 10 (some 22) (.string A) rfl rfl (by kernel_rfl) (by kernel_rfl) (by kernel_rfl) (fun _ _ _ h => h) (Or.inl ⟨by rfl, fun w hS => ?_⟩) HS7.out ?_
  · (go_simp)
  simp only [Act.put, List.setIfInBounds_toArray, List.set_cons_zero, List.set_cons_succ]
  refine heldTake 9 (some 21) (.string (Bl.toBytes D)) rfl rfl (by kernel_rfl) (by kernel_rfl) (by kernel_rfl) (fun _ _ _ h => h) (Or.inl ⟨by rfl, fun w hS => ?_⟩) HS7.out ?_
  · (have e := hcv w hS; go_simp)
  simp only [Act.put, List.setIfInBounds_toArray, List.set_cons_zero, List.set_cons_succ]
  refine heldOne 11 (by kernel_rfl) rfl (by rfl) (fun KK hK => ?_)
  go_simp
  go_at_call 10
  refine (HRU.out _).mono ?_
  rintro e w8 ⟨g, cap', rfl, hBY, hb8⟩
  have HS8 : Hid ((fun w' : World => w'.rangeAt w3.heap.size 0 (D.map BK.V8) ∧ Below w4.heap.size w4 w') w8) := hold_call HS7.out hz4 hb8
  have hcvo := str_of_bytes hBY (by omega) cap'
  refine hK.out _ _ HS8.out ?_
  clear hK KK hb8 hBY HRU
  try simp only [Act.put, List.setIfInBounds_toArray, List.set_cons_zero, List.set_cons_succ]
  refine heldOne 12 (by kernel_rfl) rfl (by rfl) (fun KK hK => ?_)
  go_simp
  refine hK.out _ _ HS8.out ?_
  clear hK KK
  try simp only [Act.put, List.setIfInBounds_toArray, List.set_cons_zero, List.set_cons_succ]
  clear hcvo hcv
  refine heldTake 13 (some 25) (.bool true) rfl rfl (by kernel_rfl) (by kernel_rfl) (by kernel_rfl) (fun _ _ _ h => h) (Or.inl ⟨by rfl, fun w hS => ?_⟩) HS8.out ?_
  · (go_simp)
  simp only [Act.put, List.setIfInBounds_toArray, List.set_cons_zero, List.set_cons_succ]
  refine heldTake 14 (some 26) (.bool true) rfl rfl (by kernel_rfl) (by kernel_rfl) (by kernel_rfl) (fun _ _ _ h => h) (Or.inl ⟨by rfl, fun w hS => ?_⟩) HS8.out ?_
  · (go_simp)
  simp only [Act.put, List.setIfInBounds_toArray, List.set_cons_zero, List.set_cons_succ]
  refine heldTake 15 (some 27) (.bool true) rfl rfl (by kernel_rfl) (by kernel_rfl) (by kernel_rfl) (fun _ _ _ h => h) (Or.inl ⟨by rfl, fun w hS => ?_⟩) HS8.out ?_
  · (go_simp)
  simp only [Act.put, List.setIfInBounds_toArray, List.set_cons_zero, List.set_cons_succ]
  refine heldOne 16 (by kernel_rfl) rfl (by rfl) (fun KK hK => ?_)
  go_simp
  go_at_call 11
  refine (HX.out _).mono ?_
  rintro e w9 ⟨rfl, hb9⟩
  have HS9 : Hid ((fun w' : World => w'.rangeAt w3.heap.size 0 (D.map BK.V8) ∧ Below w4.heap.size w4 w') w9) := hold_call HS8.out hz4 hb9
  refine hK.out _ _ HS9.out ?_
  clear hK KK hb9
  try simp only [Act.put, List.setIfInBounds_toArray, List.set_cons_zero, List.set_cons_succ]
  refine heldTake 17 (some 29) (.bool true) rfl rfl (by kernel_rfl) (by kernel_rfl) (by kernel_rfl) (fun _ _ _ h => h) (Or.inl ⟨by rfl, fun w hS => ?_⟩) HS9.out ?_
  · (go_simp)
  simp only [Act.put, List.setIfInBounds_toArray, List.set_cons_zero, List.set_cons_succ]
  refine heldTake 18 (some 4) (.bool true) rfl rfl (by kernel_rfl) (by kernel_rfl) (by kernel_rfl) (fun _ _ _ h => h) (Or.inl ⟨by rfl, fun w hS => ?_⟩) HS9.out ?_
  · (go_simp)
  simp only [Act.put, List.setIfInBounds_toArray, List.set_cons_zero, List.set_cons_succ]
  refine wpAnyH_done (by kernel_rfl) ?_ _
  have HF : Hid (Below w1.heap.size w1 w9) := HB4.out.trans ((hold_bel HS9.out).mono (by omega))
  go_wp2
  go_ret
  exact ⟨rfl, HF.out⟩
end Go.Proofs.YtefpaebbendnmaaDoor
