/- Proved: sort.Slice with the order of paths brings a list of texts of the call's own into that order. -/
import Derived.Test.YtbcmgcallidneaaGreatDoorLst
import Derived.Shelf.GgSortFunc.Whole
import Derived.Shelf.GgSortFunc.Tiny
namespace Go.Proofs.YtbcmgcallidneaaGreatDoor
open Go.RowKit
def ltT (a b : Pm.T) : Bool := decide (Pm.cmp a b < 0)
theorem ltT_swo : Sort.SWO ltT := by
  refine ⟨fun x => ?_, fun x y z h k => ?_, fun x y z h k => ?_⟩
  · simp [ltT, Sm.cmp_self]
  · simp only [ltT, decide_eq_true_iff] at *
    exact Sm.lt_trans' h k
  · simp only [ltT, decide_eq_false_iff_not, Int.not_lt] at *
    have h' : Pm.cmp y x ≤ 0 := by rw [cmp_anti]; omega
    have k' : Pm.cmp z y ≤ 0 := by rw [cmp_anti]; omega
    have := cmp_trans z y x k' h'
    rw [cmp_anti] at this; omega
def encT (x : Pm.T) : Value := .string (mk x)
set_option maxHeartbeats 1000000 in
set_option maxRecDepth 20000 in
theorem less_any (W : World) (bx g n c : Nat) (a b : Pm.T) (i j : Nat) (hbx : W.cell? ⟨bx, 0, none⟩ = some (.slice (some ⟨g, 0, none⟩) n c)) (hi : i < n) (hj : j < n)
    (ci : W.cell? ⟨g, i, none⟩ = some (.string (mk a))) (cj : W.cell? ⟨g, j, none⟩ = some (.string (mk b))) (ha : a.length ≤ 1000000) :
    Calls Tryz.prog 38 #[.int .i64 (i : Nat), .int .i64 (j : Nat), .pointer (some ⟨bx, 0, none⟩)] W fun e w' => e = .returned (.bool (ltT a b)) ∧ ∃ q, w' = W.drewN q := by
  have HC : Hid (∀ V : World, Calls Tryz.prog 39 #[.string (mk a), .string (mk b)] V fun e w' => e = .returned (.int .i64 (Pm.cmp a b)) ∧ ∃ q, w' = V.drewN q) := fun V => compare_dr (mk a) (mk b) V (by rw [mk_size]; omega)
  have hi' : (i : Int) < (n : Int) := by omega
  have hj' : (j : Int) < (n : Int) := by omega
  have i0 : (0 : Int) ≤ (i : Int) := Int.natCast_nonneg _
  have j0 : (0 : Int) ≤ (j : Int) := Int.natCast_nonneg _
  have HR : Is (ltT a b) (decide (Pm.cmp a b < 0)) := ⟨rfl⟩
  generalize Pm.cmp a b = r at *
  generalize mk a = sa at *
  generalize mk b = sb at *
  clear hi hj ha
  go_enter Tryz.func38, Tryz.ntmps38
  go_wp2_with fail
  go_quiet (first | (go_at_call 39; refine Calls.quiet_of (HC.out _)))
  go_wp2_with fail
  go_ret
  exact ⟨by rw [HR.eq]; rfl, _, rfl⟩
/- what a world is behind a sort of a row of the call's own -/
theorem below_grow' {B : Nat} {w0 w : World} (h : Below B w0 w) (hB : B ≤ w0.heap.size) (os : Array Obj) : Below B w0 (Sort.grow w os) :=
  ⟨h.os, h.tape, h.output, by rw [Sort.size_grow]; have := h.size; omega, fun k hk => by
    have hs := h.size
    rw [Sort.heap_grow_old w os (by omega)]; exact h.block k hk⟩
theorem own_grow {w : World} {N n : Nat} {v : Value} {vs : List Value} {e : TypeId} {k : Nat} (h : w.ownsRow N e k v n vs) (os : Array Obj) : (Sort.grow w os).ownsRow N e k v n vs :=
  own_below h (below_grow' (Below.refl _ _) (Nat.le_refl _) os)
theorem info22 : Tryz.prog.info? 22 = some Tryz.t22 := by kernel_rfl
theorem swapK (n : Nat) (h2 : 2 ≤ n) : Lib.swapperK n Tryz.t9 24 = 4 := by
  have a : Tryz.t9.hasPointers = true := by kernel_rfl
  have b : Tryz.t9.bytes = 16 := by kernel_rfl
  have c : (n == 0) = false := by simp; omega
  have d : (n == 1) = false := by simp; omega
  simp [Lib.swapperK, a, b, c, d]
/- texts that are not too long -/
abbrev Sh := { x : Pm.T // x.length ≤ 1000000 }
def encS (x : Sh) : Value := .string (mk x.1)
def ltS (x y : Sh) : Bool := ltT x.1 y.1
theorem ltS_swo : Sort.SWO ltS := ⟨fun x => ltT_swo.irrefl x.1, fun x y z h k => ltT_swo.trans x.1 y.1 z.1 h k, fun x y z h k => ltT_swo.ntrans x.1 y.1 z.1 h k⟩
theorem sh_of : ∀ (l : List Pm.T), (∀ x ∈ l, x.length ≤ 1000000) → ∃ ls : List Sh, ls.map Subtype.val = l
  | [], _ => ⟨[], rfl⟩
  | x :: l, h => by
    obtain ⟨ls, e⟩ := sh_of l fun y hy => h y (List.mem_cons_of_mem _ hy)
    exact ⟨⟨x, h x (List.mem_cons_self ..)⟩ :: ls, by rw [List.map_cons, e]⟩
theorem encS_cells (ls : List Sh) : ls.map encS = scells (ls.map Subtype.val) := by rw [scells, List.map_map]; rfl
theorem enters40 : ∀ args w, (callFunc 38 args).run Tryz.prog w = .ok (.enter 38 args) w := enters_of Tryz.func38 (by kernel_rfl) rfl
theorem sort_any (w : World) (N g cap bx : Nat) (l : List Pm.T) (ho : w.ownsRow N 9 1 (.slice (some ⟨g, 0, none⟩) l.length cap) l.length (scells l))
    (hbx : w.cell? ⟨bx, 0, none⟩ = some (.slice (some ⟨g, 0, none⟩) l.length cap)) (hne : bx ≠ g) (hN : N ≤ w.heap.size) (hl : l.length ≤ 1000000) (hx : ∀ x ∈ l, x.length ≤ 1000000) :
    Calls Tryz.prog 37 #[.iface 22 (.slice (some ⟨g, 0, none⟩) l.length cap), .func (.func 38) #[] #[.pointer (some ⟨bx, 0, none⟩)]] w fun e w' => e = .returned (.tuple #[]) ∧
      ∃ s : List Pm.T, s.Perm l ∧ s.Pairwise (fun a b => Pm.cmp a b ≤ 0) ∧ w'.ownsRow N 9 1 (.slice (some ⟨g, 0, none⟩) s.length cap) s.length (scells s) ∧ Below N w w' ∧ w'.cell? ⟨bx, 0, none⟩ = some (.slice (some ⟨g, 0, none⟩) l.length cap) := by
  haveI : Inhabited Sh := ⟨⟨[], by simp⟩⟩
  have hbl : bx < w.heap.size := block_lt_of_cell hbx
  by_cases h2 : 2 ≤ l.length
  · obtain ⟨ls, rfl⟩ := sh_of l hx
    rw [List.length_map] at *
    rw [← encS_cells] at ho
    obtain ⟨g', cap', hv, hNg, hg, hc, _, _, hH⟩ := Lib.holds_of_ownsRow ho (by intro e; cases e)
    cases hv
    have hless : LessReads Tryz.prog 38 #[.pointer (some ⟨bx, 0, none⟩)] encS ltS g 0 ls.toArray.size w := by
      intro m os dk hs i j hi hj
      have hh := holds_sortWorld encS w g 0 m ls.toArray dk os hg hH hs
      have c1 : (sortWorld encS w g 0 m dk os).cell? ⟨bx, 0, none⟩ = some (.slice (some ⟨g, 0, none⟩) ls.length cap) := by
        unfold sortWorld
        rw [Sort.cell?_grow _ _ _ (by rw [size_putRow]; exact hbl), Sort.cell?_putRow_other encS _ g 0 dk _ (.inl hne), Sort.cell?_ahead]
        exact hbx
      have hsz : ls.toArray.size = ls.length := List.size_toArray
      have ci := (hh i (by omega)).1
      have cj := (hh j (by omega)).1
      rw [Nat.zero_add] at ci cj
      exact less_any _ bx g ls.length cap dk[i]!.1 dk[j]!.1 i j c1 (by omega) (by omega) ci cj dk[i]!.2
    have key := Any.sort_Slice_sorted (P := Tryz.prog) Tryz.laysGg6 22 9 Tryz.t22 Tryz.t9 (by kernel_rfl) (by kernel_rfl) (by kernel_rfl) (by kernel_rfl) 24 (fun _ => by kernel_rfl) (by kernel_rfl) (fun _ => by kernel_rfl) encS (fun _ => rfl) ltS ltS_swo
      38 #[.pointer (some ⟨bx, 0, none⟩)] enters40 g 0 cap ls.toArray (by simpa using h2) (by simp; omega) 73 (by rw [swapK _ (by simpa using h2)]; kernel_rfl) true
      (fun args W => run_callFunc_extern Tryz.func73 (by kernel_rfl) (by kernel_rfl) (by kernel_rfl) (e := Extern.ReflectliteSwapper.swap true) (by kernel_rfl) args W) w hless hH hg
    rw [show ls.toArray.size = ls.length from List.size_toArray] at key
    refine key.mono fun e w' ⟨he, d', q, os, hp, hsort, hw⟩ => ⟨he, d'.toList.map Subtype.val, ?_, ?_, ?_, ?_, ?_⟩
    · have h3 := hp.2.2
      have e1 : d'.extract 0 ls.length = d' := by
        have h4 : d'.size = ls.length := by have := hp.1; simpa using this
        rw [← h4]; exact Array.extract_size
      have e2 : ls.toArray.extract 0 ls.length = ls.toArray := by rw [← List.size_toArray]; exact Array.extract_size
      rw [e1, e2] at h3
      exact (h3.map Subtype.val)
    · rw [List.pairwise_map, List.pairwise_iff_getElem]
      intro i j hi hj hij
      have hd : d'.size = ls.length := by have := hp.1; simpa using this
      have h3 := hsort i j (Nat.zero_le _) hij (by rw [← hd]; simpa using hj)
      have hi' : i < d'.size := by simpa using hi
      have hj' : j < d'.size := by simpa using hj
      rw [getElem!_pos d' i hi', getElem!_pos d' j hj'] at h3
      simp only [ltS, ltT, decide_eq_false_iff_not, Int.not_lt] at h3
      rw [Array.getElem_toList, Array.getElem_toList, cmp_anti]
      omega
    · have hd : d'.toList.length = ls.length := by have := hp.1; simpa using this
      have h3 := Lib.ownsRow_putRow (q := q) (k := ls.length) (ys := d'.toList) ho hd (Nat.le_refl _)
      rw [List.take_of_length_le (by omega), Array.toArray_toList, encS_cells] at h3
      rw [hw, List.length_map, hd]
      exact own_grow h3 os
    · rw [hw]
      exact below_grow' (Lib.below_putRow (Below.refl _ w) hNg) hN os
    · rw [hw, Sort.cell?_grow _ _ _ (by rw [size_putRow]; exact hbl), Sort.cell?_putRow_other encS _ g 0 d' _ (.inl hne), Sort.cell?_ahead]
      exact hbx
  · have hpw : l.Pairwise (fun a b => Pm.cmp a b ≤ 0) := by
      clear ho hbx hl hx
      match l, h2 with
      | [], _ => exact List.Pairwise.nil
      | [x], _ => exact List.pairwise_singleton ..
      | x :: y :: r, h2 => exact absurd (by simp) h2
    have h1 : l.length = 0 ∨ l.length = 1 := by omega
    have tiny := fun f hf => Any.sort_Slice_tiny (P := Tryz.prog) Tryz.laysGg6 22 9 Tryz.t22 Tryz.t9 (by kernel_rfl) (by kernel_rfl) (by kernel_rfl) (by kernel_rfl) 24 (fun _ => by kernel_rfl) (some ⟨g, 0, none⟩) l.length cap (by omega) f hf (.func 38) #[] #[.pointer (some ⟨bx, 0, none⟩)] w
    have key := h1.elim (fun e => tiny 70 (by rw [e]; kernel_rfl)) (fun e => tiny 71 (by rw [e]; kernel_rfl))
    refine key.mono fun e w' ⟨he, os, hw⟩ => ⟨he, l, List.Perm.refl _, ?_, ?_, ?_, ?_⟩
    · exact hpw
    · rw [hw]; exact own_grow ho os
    · rw [hw]; exact below_grow' (Below.refl _ _) hN os
    · rw [hw, Sort.cell?_grow _ _ _ hbl]; exact hbx
theorem sort_nil (w : World) (f : Fn) (la lb : Array Value) :
    Calls Tryz.prog 37 #[.iface 22 (.slice none 0 0), .func f la lb] w fun e w' => e = .returned (.tuple #[]) ∧ ∃ os, w' = Sort.grow w os :=
  Any.sort_Slice_tiny (P := Tryz.prog) Tryz.laysGg6 22 9 Tryz.t22 Tryz.t9 (by kernel_rfl) (by kernel_rfl) (by kernel_rfl) (by kernel_rfl) 24 (fun _ => by kernel_rfl) none 0 0 (by omega) 70 (by kernel_rfl) f la lb w
end Go.Proofs.YtbcmgcallidneaaGreatDoor
