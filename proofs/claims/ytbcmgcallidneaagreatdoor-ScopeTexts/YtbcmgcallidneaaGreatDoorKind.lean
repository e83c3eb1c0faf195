/- Proved: Kind answers whose path a text is, or why it is none; checked and isPath lean on it. -/
import Derived.Test.YtbcmgcallidneaaGreatDoorPlain
namespace Go.Proofs.YtbcmgcallidneaaGreatDoor
open Go.RowKit
/- texts that lie in memory, one behind the other -/
def TextsAt (w : World) (b o : Nat) (l : List Pm.T) : Prop := ∀ (j : Nat) x, l[j]? = some x → w.cell? ⟨b, o + j, none⟩ = some (.string (mk x))
def scells (l : List Pm.T) : List Value := l.map fun x => .string (mk x)
theorem TextsAt.below {w w' : World} {b o B : Nat} {l : List Pm.T} (h : TextsAt w b o l) (hb : Below B w w') (hB : b < B) : TextsAt w' b o l := fun j x hj => (hb.cell (p := ⟨b, o + j, none⟩) hB).trans (h j x hj)
theorem textsAt_new (w : World) (l : List Pm.T) (t : TypeId) : TextsAt (w.alloc (.cells (scells l).toArray t)) w.heap.size 0 l := fun j x hj => by
  rw [cell_of_row _ _ (0 + j) _ t (0, 0) (heap_alloc_new w _), Nat.zero_add, List.getElem?_toArray, scells, List.getElem?_map, hj]; rfl
theorem parts_eq (s : ByteArray) : (Lib.splitB ⟨#[47]⟩ 0 (Lib.countB s ⟨#[47]⟩) s).map Value.string = scells (Pm.names (bl s)) ∧ Lib.countB s ⟨#[47]⟩ + 1 = (Pm.names (bl s)).length := by
  have h1 : (Lib.splitB ⟨#[47]⟩ 0 (Lib.countB s ⟨#[47]⟩) s).map bl = Pm.names (bl s) := by
    rw [← Pm.split_names _ (bl s) (Nat.le_refl _)]
    exact Lib.splitB_data ⟨#[47]⟩ 0 _ s
  refine ⟨?_, ?_⟩
  · rw [scells, ← h1, List.map_map]; rfl
  · rw [← h1, List.length_map, Lib.splitB_all ⟨#[47]⟩ (by decide) 0 _ s rfl]
theorem split_any (s : ByteArray) (w : World) (hs : s.size < 4294967281) (hT : Tab w) :
    Calls Tryz.prog 35 #[.string s, .string ⟨#[47]⟩] w fun e w' => e = .returned (.slice (some ⟨w.heap.size, 0, none⟩) (Pm.names (bl s)).length (Pm.names (bl s)).length) ∧ w' = w.alloc (.cells (scells (Pm.names (bl s))).toArray 9) := by
  obtain ⟨m, hm⟩ := hT.max
  have h := Tryz.strings_Split s ⟨#[47]⟩ m w hs hm (by decide)
  rw [(parts_eq s).1, (parts_eq s).2] at h
  exact h
theorem names_size (s : ByteArray) : (Pm.names (bl s)).length ≤ s.size + 1 := by
  rw [Pm.names_length, ← bl_length s]
  have := List.count_le_length (a := (47 : UInt8)) (l := bl s)
  omega
theorem name_size (s : ByteArray) {n : Pm.T} (h : n ∈ Pm.names (bl s)) : n.length ≤ s.size := by
  rw [← bl_length s]
  suffices hh : ∀ (l : List Pm.T), n ∈ l → n.length ≤ (Pm.join l).length by
    have := hh _ h
    rwa [Pm.join_names] at this
  intro l
  induction l with
  | nil => intro h; cases h
  | cons a r ih =>
    intro h
    cases r with
    | nil => rw [List.mem_singleton] at h; subst h; exact Nat.le_refl _
    | cons b r =>
      rw [Pm.join]
      rcases List.mem_cons.1 h with rfl | h
      · simp
      · have := ih h
        simp; omega
theorem getD_mem {l : List Pm.T} {k : Nat} (h : k < l.length) : l.getD k [] ∈ l := by
  rw [List.getD_eq_getElem?_getD, List.getElem?_eq_getElem h]; exact List.getElem_mem h
theorem getD_some {l : List Pm.T} {k : Nat} (h : k < l.length) : l[k]? = some (l.getD k []) := by
  rw [List.getD_eq_getElem?_getD, List.getElem?_eq_getElem h]; rfl
theorem getLastD_at (l : List Pm.T) : l.getLastD [] = l.getD (l.length - 1) [] := by
  rw [List.getLastD_eq_getLast?, List.getLast?_eq_getElem?, List.getD_eq_getElem?_getD]
theorem good_no {l : List Pm.T} {k : Nat} (hk : k < l.length - 1) (h : Pm.nk (l.getD k []) ≠ 1) : Pm.good l = false := by
  unfold Pm.good
  rw [Bool.and_eq_false_iff]
  refine .inl ?_
  rw [List.all_eq_false]
  refine ⟨l.getD k [], ?_, by simpa using h⟩
  rw [List.dropLast_eq_take]
  refine List.mem_of_getElem? (i := k) ?_
  rw [List.getElem?_take_of_lt hk, getD_some (by omega)]
theorem good_by {l : List Pm.T} (hd : ∀ j, j < l.length - 1 → Pm.nk (l.getD j []) = 1) : Pm.good l = (Pm.nk (l.getLastD []) != 0) := by
  unfold Pm.good
  have : (l.dropLast.all fun x => Pm.nk x == 1) = true := by
    rw [List.all_eq_true]
    intro x hx
    obtain ⟨j, hj, rfl⟩ := List.getElem_of_mem hx
    rw [List.length_dropLast] at hj
    have := hd j hj
    rw [List.getD_eq_getElem?_getD, List.getElem?_eq_getElem (by omega)] at this
    rw [List.getElem_dropLast]
    simpa using this
  rw [this, Bool.true_and]
set_option maxHeartbeats 1000000 in
set_option maxRecDepth 20000 in
theorem kind_any (s : ByteArray) (w : World) (hs : s.size < 4294967281) (hT : Tab w) :
    Calls Tryz.prog 21 #[.string s] w fun e w' => e = .returned (.tuple #[.int .i64 ((Pm.kind (bl s)).1 : Nat), .int .i64 ((Pm.kind (bl s)).2 : Nat)]) ∧ Below w.heap.size w w' := by
  have HT : Hid (Tab w) := hT
  have HK : Is (Pm.kind (bl s)) (if 96 < s.size then (0, 3) else if bl s = [] then (1, 0) else if Pm.good (Pm.names (bl s)) = false then (0, 18) else if 8 < (Pm.names (bl s)).length then (0, 7) else (Pm.nk ((Pm.names (bl s)).getLastD []), 0)) := ⟨by rw [← bl_length s]; rfl⟩
  clear hT
  by_cases h96 : 96 < s.size
  · have h96' : (96 : Int) < (s.size : Int) := by omega
    rw [if_pos h96] at HK
    go_enter Tryz.func21, Tryz.ntmps21
    go_wp2
    go_ret2
    exact ⟨by rw [HK.eq]; rfl, Below.refl _ _⟩
  · have h96' : ¬ (96 : Int) < (s.size : Int) := by omega
    rw [if_neg h96] at HK
    by_cases he : bl s = []
    · rw [if_pos he] at HK
      obtain rfl : s = ⟨#[]⟩ := bl_inj he
      go_enter Tryz.func21, Tryz.ntmps21
      go_wp2
      go_ret2
      exact ⟨by rw [HK.eq]; rfl, Below.refl _ _⟩
    · rw [if_neg he] at HK
      have hte : s.toList.isEmpty = false := te_bl he
      have HNS : Hid (∀ n ∈ Pm.names (bl s), n.length < 4294967281) := fun n hn => by have := name_size s hn; omega
      have hL0 : 0 < (Pm.names (bl s)).length := List.length_pos_iff.2 (Pm.names_ne _)
      have hL1 := names_size s
      have HNE : Hid (Pm.names (bl s) ≠ []) := Pm.names_ne _
      go_enter Tryz.func21, Tryz.ntmps21
      go_wp2_with fail
      refine (split_any s w hs HT.out).mono ?_
      rintro e w1 ⟨rfl, rfl⟩
      generalize Pm.names (bl s) = L at *
      have HX : Hid (TextsAt (w.alloc (.cells (scells L).toArray 9)) w.heap.size 0 L) := textsAt_new w L _
      have HB1 : Hid (Below w.heap.size w (w.alloc (.cells (scells L).toArray 9))) := (Below.refl _ w).alloc (Nat.le_refl _) _
      have hz1 : (w.alloc (.cells (scells L).toArray 9)).heap.size = w.heap.size + 1 := by simp
      generalize w.alloc (.cells (scells L).toArray 9) = w1 at *
      have HT1 : Hid (Tab w1) := HT.out.below HB1.out
      obtain ⟨n, hn⟩ : ∃ n, L.length = n + 1 := ⟨L.length - 1, by omega⟩
      have HLn : Is L.length (n + 1) := ⟨hn⟩
      rw [hn] at hL1
      have HBz : Hid (∀ W : World, Below w1.heap.size w1 W → Below w.heap.size w W) := fun W hW => HB1.out.trans (hW.mono (by omega))
      have HNK : Hid (∀ k, k < n + 1 → ∀ W : World, Tab W → Calls Tryz.prog 36 #[.string (mk (L.getD k []))] W fun e w' => e = .returned (.int .i64 (Pm.nk (L.getD k []) : Nat)) ∧ Below W.heap.size W w') := fun k hk W hW => nameKind_any (mk (L.getD k [])) W (HNS.out _ (getD_mem (by rw [HLn.eq]; exact hk))) hW
      have HCL : Hid (∀ k, k < n + 1 → ∀ W : World, Below w1.heap.size w1 W → W.cell? ⟨w.heap.size, k, none⟩ = some (.string (mk (L.getD k [])))) := fun k hk W hW => by
        have h := (HX.out.below hW (by omega)) k _ (getD_some (by rw [HLn.eq]; exact hk))
        rwa [Nat.zero_add] at h
      clear hL0 hz1
      go_wp2_with fail
      go_loopw [7, 25] (fun _ i wr => ∃ k : Nat, k ≤ n ∧ i = .int .i64 k ∧ (∀ j, j < k → Pm.nk (L.getD j []) = 1) ∧ Below w1.heap.size w1 wr) (fun _ i _ => n - (intOf i).toNat)
      case atStart => exact ⟨0, by omega, rfl, fun j hj => by omega, Below.refl _ _⟩
      case round =>
        obtain ⟨k, hk, rfl, hd, hB⟩ := hrel
        have HB : Hid (Below w1.heap.size w1 wr) := hB
        have HD : Hid (∀ j, j < k → Pm.nk (L.getD j []) = 1) := hd
        have HTr : Hid (Tab wr) := HT1.out.below hB
        clear hd
        by_cases hlt : k < n
        · have i0 : (k : Int) < (n : Int) := by omega
          have j0 : (0 : Int) ≤ (k : Int) := Int.natCast_nonneg _
          have c0 := HCL.out k (by omega) wr hB
          have CN := HNK.out k (by omega) wr HTr.out
          have hsz := hB.size
          clear hB
          by_cases h1 : Pm.nk (L.getD k []) = 1
          · have HD' : Hid (∀ j, j < k + 1 → Pm.nk (L.getD j []) = 1) := fun j hj => by
              by_cases h : j = k
              · subst h; exact h1
              · exact HD.out j (by omega)
            rw [h1] at CN
            clear h1
            generalize mk (L.getD k []) = x at *
            go_wp2_with (first | (go_at_call 36; refine CN.mono ?_; rintro e w2 ⟨rfl, hB2⟩))
            go_roundw
            case rel => exact ⟨k + 1, by omega, by go_num, HD'.out, HB.out.trans (hB2.mono hsz)⟩
            case measure => (simp [intOf]) <;> omega
          · have hG : Pm.good L = false := good_no (by rw [HLn.eq]; omega) h1
            rw [if_pos hG] at HK
            clear hG
            have h1' : ¬ ((Pm.nk (L.getD k []) : Nat) : Int) = 1 := by omega
            clear h1
            generalize Pm.nk (L.getD k []) = kk at *
            generalize mk (L.getD k []) = x at *
            go_wp2_with (first | (go_at_call 36; refine CN.mono ?_; rintro e w2 ⟨rfl, hB2⟩))
            go_ret2
            exact ⟨by rw [HK.eq]; rfl, HBz.out _ (HB.out.trans (hB2.mono hsz))⟩
        · obtain rfl : k = n := by omega
          have i0 : ¬ (k : Int) < (k : Int) := by omega
          have j0 : (0 : Int) ≤ (k : Int) := Int.natCast_nonneg _
          have i1 : (k : Int) < (k : Int) + 1 := by omega
          have c0 := HCL.out k (by omega) wr hB
          have CN := HNK.out k (by omega) wr HTr.out
          have hsz := hB.size
          have HG : Is (Pm.good L) (Pm.nk (L.getD k []) != 0) := ⟨by
            rw [good_by (fun j hj => HD.out j (by rw [HLn.eq] at hj; omega)), getLastD_at, HLn.eq, Nat.add_sub_cancel]⟩
          have HGL : Is (L.getLastD []) (L.getD k []) := ⟨by rw [getLastD_at, HLn.eq, Nat.add_sub_cancel]⟩
          rw [HG.eq, HGL.eq, HLn.eq] at HK
          clear hB hn HG HGL
          generalize Pm.nk (L.getD k []) = kk at *
          generalize mk (L.getD k []) = x at *
          by_cases h0 : kk = 0
          · subst h0
            rw [if_pos (by rfl)] at HK
            go_wp2_with (first | (go_at_call 36; refine CN.mono ?_; rintro e w2 ⟨rfl, hB2⟩))
            go_ret2
            exact ⟨by rw [HK.eq]; rfl, HBz.out _ (HB.out.trans (hB2.mono hsz))⟩
          · have h0' : ¬ ((kk : Nat) : Int) = 0 := by omega
            rw [if_neg (by simp [h0])] at HK
            by_cases h8 : 8 < k + 1
            · have h8' : (8 : Int) < (k : Int) + 1 := by omega
              rw [if_pos h8] at HK
              go_wp2_with (first | (go_at_call 36; refine CN.mono ?_; rintro e w2 ⟨rfl, hB2⟩))
              go_ret2
              exact ⟨by rw [HK.eq]; rfl, HBz.out _ (HB.out.trans (hB2.mono hsz))⟩
            · have h8' : ¬ (8 : Int) < (k : Int) + 1 := by omega
              rw [if_neg h8] at HK
              go_wp2_with (first | (go_at_call 36; refine CN.mono ?_; rintro e w2 ⟨rfl, hB2⟩))
              go_ret2
              exact ⟨by rw [HK.eq]; rfl, HBz.out _ (HB.out.trans (hB2.mono hsz))⟩
end Go.Proofs.YtbcmgcallidneaaGreatDoor
