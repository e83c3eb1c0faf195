/- Proved: what New, Read and keep do. -/
import Derived.Test.YtcfninpokngmlaaGreatDoorNow
import Derived.Test.YtcfninpokngmlaaGreatDoorLast
import Derived.OwnWalk
import Derived.Laws.IdiomStrings
namespace Go.Proofs.YtcfninpokngmlaaGreatDoor
open Go.RowKit
theorem str_of {w : World} {b : Nat} {x : ByteArray} (h : w.rangeAt b 0 (bc x)) (cap : Nat) : (convert 138 9 (.slice (some ⟨b, 0, none⟩) x.size cap)).run Tryz.prog w = .ok (.string x) w := by
  have e := run_convert_bytes_back (P := Tryz.prog) w 138 9 5 ⟨b, 0, none⟩ cap x.data.toList Tryz.underlying138 Tryz.underlying5 Tryz.underlying9 (fun j hj => by
    rw [Addr.add_mid]
    exact h j _ (by rw [bc, List.getElem?_map, List.getElem?_eq_getElem hj]; rfl))
  rw [← Sc.size_eq] at e
  exact e
theorem range_row {w : World} {g : Nat} {t : TypeId} {x : ByteArray} (h : w.heap[g]? = some (.cells (bA x) t (0, 0))) : w.rangeAt g 0 (bc x) := fun j u hu => by
  rw [cell_of_row w g _ _ t (0, 0) h, Nat.zero_add, bA, List.getElem?_toArray]; exact hu
set_option maxHeartbeats 1000000 in
set_option maxRecDepth 20000 in
theorem read_any (g kg : Nat) (v : Value) (s : Sc.St) (i : Int) (w : World) (H : Dk w g kg v s) :
    Calls Tryz.prog 96 #[ptr g, .int .i64 i] w fun e w' => e = .returned (.tuple #[.string (Sc.readV s i), .int .i64 (Sc.readE s i)]) ∧ Below w.heap.size w w' := by
  have HR := ready_any g kg v s w H
  have HS := has_any g kg v s i w H
  have HH : Hid (Dk w g kg v s) := H
  have hz := zeroSec
  clear H
  unfold Sc.liveE at HR
  unfold Sc.readV Sc.readE
  cases hd : s.down
  · rw [hd] at HR
    simp only [Bool.false_eq_true, if_false] at *
    cases hh : Sc.has s i
    · rw [hh] at HS
      simp only [if_true]
      go_enter Tryz.func96, Tryz.ntmps96
      go_wp2_with (first | (go_at_call 53; refine HR.mono ?_; rintro e w' ⟨rfl, rfl⟩) | (go_at_call 122; refine HS.mono ?_; rintro e w' ⟨rfl, rfl⟩))
      go_ret2
      exact ⟨rfl, Below.refl _ _⟩
    · rw [hh] at HS
      simp only [Bool.true_eq_false, if_false]
      obtain ⟨k, rfl⟩ : ∃ k : Nat, i = (k : Int) := ⟨i.toNat, by have := (Sc.has_iff.1 hh).1; omega⟩
      have hk : k < s.kept.length := by have := (Sc.has_iff.1 hh).2; omega
      rw [Int.toNat_natCast]
      have HX : Hid ((Sc.now s k).size = 64) := Sc.now_size HH.out.ok k
      have HNW : Hid (Calls Tryz.prog 123 #[ptr g, .int .i64 (k : Int)] w fun e w' => e = .returned (.agg (bA (Sc.now s k))) ∧ Below w.heap.size w w') := now_any g kg v s k w HH.out hk
      generalize Sc.now s k = x at *
      have HI : Hid ((Tryz.prog.info? 109).map (·.size) = some (bA x).size) := bA_info HX.out
      go_enter Tryz.func96, Tryz.ntmps96
      go_wp2_with (first | (go_at_call 53; refine HR.mono ?_; rintro e w' ⟨rfl, rfl⟩) | (go_at_call 122; refine HS.mono ?_; rintro e w' ⟨rfl, rfl⟩) | (go_at_call 123; refine HNW.out.mono ?_; rintro e w' ⟨rfl, hB⟩) | (refine store_row rfl rfl 109 _ _ rfl _ (bA x) rfl rfl 109 zsec (heap_alloc_new _ _) HI.out (by rw [bA_size HX.out]; exact zsec_size) (bA_one _) ?_; have hcv := str_of (x := x) (range_row (setRow_heap _ _ _ _ _ _ (heap_alloc_new w' (.cells zsec 109)))) 64; rw [HX.out] at hcv))
      go_ret2
      exact ⟨rfl, hB.trans (below_setRow ((Below.refl _ _).alloc (Nat.le_refl _) _) (Nat.le_refl _) _ |>.mono hB.size)⟩
  · rw [hd] at HR
    simp only [if_true] at *
    go_enter Tryz.func96, Tryz.ntmps96
    go_wp2_with (first | (go_at_call 53; refine HR.mono ?_; rintro e w' ⟨rfl, rfl⟩) | (go_at_call 122; refine HS.mono ?_; rintro e w' ⟨rfl, rfl⟩))
    go_ret2
    exact ⟨rfl, Below.refl _ _⟩
theorem made_zero : Tryz.t109.zero = some (.agg zsec) := by kernel_rfl
theorem info_sec : Tryz.prog.info? 109 = some Tryz.t109 := by kernel_rfl
theorem zsec_at (j : Nat) (h : j < 64) : zsec[j]? = some (.int .u8 0) := by
  unfold zsec Sc.zero64 bc
  rw [List.getElem?_toArray, List.getElem?_map]
  show Option.map _ (Array.replicate 64 (0 : UInt8)).toList[j]? = _
  rw [Array.toList_replicate, List.getElem?_replicate, if_pos h]
  rfl
theorem made_cells (n : Nat) : (madeCells zsec (n * 64)).toList = (List.replicate n Sc.zero64).flatMap bc := by
  have hl : ((List.replicate n Sc.zero64).flatMap bc).length = n * 64 := by
    rw [flat_length bc 64 _ (fun x hx => by rw [bc_length, (List.mem_replicate.1 hx).2, Sc.zero64_size])]
    simp
  apply List.ext_getElem?
  intro j
  by_cases hj : j < n * 64
  · have h1 : j % 64 < 64 := Nat.mod_lt _ (by omega)
    have h2 : (List.replicate n Sc.zero64)[j / 64]? = some Sc.zero64 := by rw [List.getElem?_replicate, if_pos (by omega)]
    have e := flat_at bc 64 (List.replicate n Sc.zero64) (j / 64) Sc.zero64 (j % 64) (fun x hx => by rw [bc_length, (List.mem_replicate.1 hx).2, Sc.zero64_size]) h2 h1
    rw [show j / 64 * 64 + j % 64 = j by omega] at e
    have z := zsec_at (j % 64) h1
    rw [e]
    have z2 : (bc Sc.zero64)[j % 64]? = some (.int .u8 0) := by
      unfold zsec at z
      rwa [List.getElem?_toArray] at z
    rw [z2, Array.getElem?_toList]
    unfold madeCells
    rw [Array.getElem?_map, Array.getElem?_eq_getElem (by simpa using hj), Option.map_some]
    congr 1
    simp only [Array.getElem_range]
    rw [zsec_size, getElem!_def, z]
  · rw [List.getElem?_eq_none (by rw [Array.length_toList, size_madeCells]; omega), List.getElem?_eq_none (by omega)]
set_option maxHeartbeats 1000000 in
set_option maxRecDepth 20000 in
theorem new_any (n : Nat) (w : World) (h1 : 1 ≤ n) (h2 : n ≤ 65536) :
    Calls Tryz.prog 21 #[.int .i64 (n : Int)] w fun e w' => ∃ g kg, e = .returned (.tuple #[ptr g, .int .i64 0]) ∧ Dk w' g kg (.slice none 0 0) (Sc.made n) ∧ Below w.heap.size w w' ∧ w.heap.size ≤ g ∧ w.heap.size ≤ kg := by
  have d1 : decide ((n : Int) < 1) = false := by simp; omega
  have d2 : decide ((65536 : Int) < (n : Int)) = false := by simp; omega
  have hb : Tryz.t109.bytes = 64 := rfl
  go_enter Tryz.func21, Tryz.ntmps21
  go_wp2_with (first | (at_make; refine wpList_make_full w rfl _ _ 94 rfl 0 109 Tryz.t109 (.agg zsec) 64 Tryz.underlying94 info_sec made_zero rfl _ _ _ _ n rfl rfl rfl rfl (by rw [hb]; omega) (by unfold maxLen; omega) (Nat.zero_le _) ?_; intro w1 hO1 hG1; have HO1 := (show Hid (w1.ownsRow 0 109 64 _ n _) from hO1); have HG1 := (show Hid (w.grownBy w1 none) from hG1); clear hO1 hG1))
  go_ret2
  have hO := HO1.out
  rw [show (Value.agg zsec).cells = zsec from rfl, made_cells] at hO
  rcases hO.2 with ⟨h, _⟩ | ⟨kg, cap, cur, hv, _, hh, hc, _, hs, ht⟩
  · cases h
  obtain ⟨ha, hcap⟩ : w.heap.size = kg ∧ n = cap := by
    have := Value.slice.inj hv
    refine ⟨?_, this.2.2⟩
    have := this.1
    simpa using this
  subst ha
  subst hcap
  have hcur : cur = ((List.replicate n Sc.zero64).flatMap bc).toArray := by
    rw [← ht, List.take_of_length_le (by rw [Array.length_toList]; omega)]
  have hB : Below w.heap.size w w1 := ⟨HG1.out.os, HG1.out.tape, HG1.out.output, HG1.out.size, fun k hk => HG1.out.block k hk (by simp)⟩
  have hlt := (Array.getElem?_eq_some_iff.1 hh).1
  refine ⟨w1.heap.size, w.heap.size, rfl, ⟨?_, ?_, World.ownsRow_nil _ _ _ _, by omega, by simp [Value.ownBlock], by simp [Value.ownBlock], Sc.made_ok h1 h2⟩, hB.alloc hB.size _, hB.size, Nat.le_refl _⟩
  · rw [heap_alloc_new]
    simp [dcells, Sc.made]
  · rw [Below.heap_alloc _ _ _ hlt, hh, hcur]; rfl
set_option maxHeartbeats 1000000 in
theorem new_bad (n : Int) (w : World) (h : n < 1 ∨ 65536 < n) :
    Calls Tryz.prog 21 #[.int .i64 n] w fun e w' => e = .returned (.tuple #[.pointer none, .int .i64 2]) ∧ w' = w := by
  by_cases h1 : n < 1
  · have d1 : decide (n < 1) = true := by simpa using h1
    go_enter Tryz.func21, Tryz.ntmps21
    go_wp2
    go_ret2
    exact ⟨rfl, rfl⟩
  · have d1 : decide (n < 1) = false := by simpa using h1
    have d2 : decide (65536 < n) = true := by simp; omega
    go_enter Tryz.func21, Tryz.ntmps21
    go_wp2
    go_ret2
    exact ⟨rfl, rfl⟩
/- a write that is pending, as a value -/
def wA (p : Nat × ByteArray) : Array Value := (wc p).toArray
theorem sizeWr : (Tryz.prog.info? 111).map (·.size) = some 65 := by kernel_rfl
theorem wA_size {p : Nat × ByteArray} (h : p.2.size = 64) : (wA p).size = 65 := by rw [wA, List.size_toArray, wc_length h]
set_option maxHeartbeats 2000000 in
set_option maxRecDepth 20000 in
theorem keep_any (g kg : Nat) (v : Value) (s : Sc.St) (i : Nat) (x : ByteArray) (w : World) (H : Dk w g kg v s) (hi : i < s.kept.length) (hx : x.size = 64) :
    Calls Tryz.prog 70 #[ptr g, .agg (wA (i, x))] w fun e w' => e = .returned (.tuple #[]) ∧ Dk w' g kg v { s with kept := s.kept.set i x } ∧ Turn (foot g kg v) (foot g kg v) w w' := by
  have hm := H.ok.most
  have HA : Hid (Dk (w.alloc (.cells (wA (i, x)) 111)) g kg v s) := H.alloc _
  have HT : Hid (Turn (foot g kg v) (foot g kg v) w (w.alloc (.cells (wA (i, x)) 111))) := Turn.of_below ((Below.refl _ _).alloc (Nat.le_refl _) _)
  have HN : Hid ((w.alloc (.cells (wA (i, x)) 111)).heap[w.heap.size]? = some (.cells (wA (i, x)) 111 (0, 0))) := heap_alloc_new w _
  have hlt := H.lt
  have hgl : g < w.heap.size := hlt g (by simp [foot])
  have hkl : kg < w.heap.size := hlt kg (by simp [foot])
  clear hlt H
  go_enter Tryz.func70, Tryz.ntmps70
  go_wp2_with fail
  generalize World.alloc w _ = w1 at *
  have HRW : Hid (w1.rangeAt w.heap.size 0 (wc (i, x))) := fun j u hu => by
    rw [cell_of_row w1 _ _ _ _ (0, 0) HN.out, Nat.zero_add, wA, List.getElem?_toArray]; exact hu
  have HS : Hid ((fun w' : World => w'.cell? ⟨g, 0, none⟩ = some (.slice (some ⟨kg, 0, none⟩) s.kept.length s.kept.length) ∧ w'.cell? ⟨w.heap.size, 0, none⟩ = some (.int .i64 (i : Int)) ∧ w'.rangeAt w.heap.size 1 (bc x)) w1.drew) :=
    ⟨HA.out.c0, HRW.out 0 _ rfl, fun j u hu => by
      have := HRW.out (j + 1) u (by simpa [wc] using hu)
      rwa [show 0 + (j + 1) = 1 + j by omega] at this⟩
  have HIL : Hid ((Tryz.prog.info? 109).map (·.size) = some (bc x).length) := by show _ = _; rw [bc_length, hx]; exact sizeSec
  have i0 : (0 : Int) ≤ (i : Int) := by omega
  have i1 : (i : Int) < (s.kept.length : Int) := by omega
  refine AnyBut.begin (z := 9) (S := fun w' => w'.cell? ⟨g, 0, none⟩ = some (.slice (some ⟨kg, 0, none⟩) s.kept.length s.kept.length) ∧ w'.cell? ⟨w.heap.size, 0, none⟩ = some (.int .i64 (i : Int)) ∧ w'.rangeAt w.heap.size 1 (bc x)) (by kernel_rfl) ?_
  refine AnyBut.take 0 (some 4) (v := (ptr g)) rfl rfl (by kernel_rfl) (by decide) (by kernel_rfl) (by kernel_rfl) (by kernel_rfl) (by kernel_rfl) (fun _ _ _ h => h) (Or.inl ⟨by rfl, fun w hS => ?_⟩) HS.out ?_
  · (go_simp)
  simp only [Act.put, List.setIfInBounds_toArray, List.set_cons_zero, List.set_cons_succ]
  refine AnyBut.take 1 (some 5) (v := (ptr g)) rfl rfl (by kernel_rfl) (by decide) (by kernel_rfl) (by kernel_rfl) (by kernel_rfl) (by kernel_rfl) (fun _ _ _ h => h) (Or.inl ⟨by rfl, fun w hS => ?_⟩) HS.out ?_
  · (go_simp)
  simp only [Act.put, List.setIfInBounds_toArray, List.set_cons_zero, List.set_cons_succ]
  refine AnyBut.take 2 (some 6) (v := (ptr g)) rfl rfl (by kernel_rfl) (by decide) (by kernel_rfl) (by kernel_rfl) (by kernel_rfl) (by kernel_rfl) (fun _ _ _ h => h) (Or.inl ⟨by rfl, fun w hS => ?_⟩) HS.out ?_
  · (go_simp)
  simp only [Act.put, List.setIfInBounds_toArray, List.set_cons_zero, List.set_cons_succ]
  refine AnyBut.take 3 (some 7) (v := (.slice (some ⟨kg, 0, none⟩) s.kept.length s.kept.length)) rfl rfl (by kernel_rfl) (by decide) (by kernel_rfl) (by kernel_rfl) (by kernel_rfl) (by kernel_rfl) (fun _ _ _ h => h) (Or.inl ⟨by rfl, fun w hS => ?_⟩) HS.out ?_
  · (obtain ⟨q1, q2, _⟩ := hS; go_simp)
  simp only [Act.put, List.setIfInBounds_toArray, List.set_cons_zero, List.set_cons_succ]
  refine AnyBut.take 4 (some 8) (v := (.pointer (some ⟨w.heap.size, 0, none⟩))) rfl rfl (by kernel_rfl) (by decide) (by kernel_rfl) (by kernel_rfl) (by kernel_rfl) (by kernel_rfl) (fun _ _ _ h => h) (Or.inl ⟨by rfl, fun w hS => ?_⟩) HS.out ?_
  · (go_simp)
  simp only [Act.put, List.setIfInBounds_toArray, List.set_cons_zero, List.set_cons_succ]
  refine AnyBut.take 5 (some 9) (v := (.int .i64 (i : Int))) rfl rfl (by kernel_rfl) (by decide) (by kernel_rfl) (by kernel_rfl) (by kernel_rfl) (by kernel_rfl) (fun _ _ _ h => h) (Or.inl ⟨by rfl, fun w hS => ?_⟩) HS.out ?_
  · (obtain ⟨q1, q2, _⟩ := hS; go_simp)
  simp only [Act.put, List.setIfInBounds_toArray, List.set_cons_zero, List.set_cons_succ]
  refine AnyBut.take 6 (some 10) (v := (.pointer (some ⟨w.heap.size, 1, none⟩))) rfl rfl (by kernel_rfl) (by decide) (by kernel_rfl) (by kernel_rfl) (by kernel_rfl) (by kernel_rfl) (fun _ _ _ h => h) (Or.inl ⟨by rfl, fun w hS => ?_⟩) HS.out ?_
  · (go_simp)
  simp only [Act.put, List.setIfInBounds_toArray, List.set_cons_zero, List.set_cons_succ]
  refine AnyBut.take 7 (some 11) rfl rfl (by kernel_rfl) (by decide) (by kernel_rfl) (by kernel_rfl) (by kernel_rfl) (by kernel_rfl) (fun _ _ _ h => h) (yieldsIf_load_mid (by rfl) _ _ rfl _ _ rfl (bc x) _ (fun w hS => hS.2.2) Tryz.underlying109 rfl HIL.out) HS.out ?_
  simp only [Act.put, List.setIfInBounds_toArray, List.set_cons_zero, List.set_cons_succ]
  refine AnyBut.take 8 (some 12) (v := (.pointer (some ⟨kg, i * 64, none⟩))) rfl rfl (by kernel_rfl) (by decide) (by kernel_rfl) (by kernel_rfl) (by kernel_rfl) (by kernel_rfl) (fun _ _ _ h => h) (Or.inl ⟨by rfl, fun w hS => ?_⟩) HS.out ?_
  · (go_simp)
  simp only [Act.put, List.setIfInBounds_toArray, List.set_cons_zero, List.set_cons_succ]
  refine AnyBut.one 9 (by kernel_rfl) rfl (by rfl) (fun KK hK => ?_)
  refine wp_store_mid 109 _ _ rfl kg (i * 64) (bA x) rfl rfl (by rw [bA_size hx]; exact HA.out.drew.there hi) (bA_info hx) (bA_one x) ?_
  refine hK.out _ _ (fun h => absurd rfl h) ?_
  clear hK KK
  refine AnyBut.done (by kernel_rfl) ?_
  go_end0
  exact ⟨rfl, HA.out.drew.setKept hi hx, HT.out.drew.trans (foot_kept _ _ _ _ _ _)⟩
end Go.Proofs.YtcfninpokngmlaaGreatDoor
