/- Proved: ContainsFunc, Has, Covers and within answer what lies in a list. -/
import Derived.Test.YtbcmgcallidneaaGreatDoorHold
namespace Go.Proofs.YtbcmgcallidneaaGreatDoor
open Go.RowKit
set_option maxHeartbeats 1000000 in
theorem contains_any (ad : Option Addr) (c : Nat) (l : List Pm.T) (p : ByteArray) (B : Nat) (w : World) (hA : TxtA w ad l) (hb : w.cell? ⟨B, 0, none⟩ = some (.string p)) (hl : l.length ≤ 1000000) (hp : p.size < 4294967281) (hT : Tab w) :
    Calls Tryz.prog 43 #[.slice ad l.length c, .func (.func 44) #[] #[.pointer (some ⟨B, 0, none⟩)]] w fun e w' => e = .returned (.bool (l.any (Sm.lies · (bl p)))) ∧ Below w.heap.size w w' := by
  have HI : Hid (Calls Tryz.prog 61 #[.slice ad l.length c, .func (.func 44) #[] #[.pointer (some ⟨B, 0, none⟩)]] w fun e w' => ∃ r : Int, e = .returned (.int .i64 r) ∧ decide (0 ≤ r) = l.any (Sm.lies · (bl p)) ∧ Below w.heap.size w w') := index_any ad c l p B w hA hb hl hp hT
  clear hA hb hT hl hp
  generalize l.any (Sm.lies · (bl p)) = r at *
  generalize l.length = n at *
  go_enter Tryz.func43, Tryz.ntmps43
  go_wp2_with (first | (go_at_call 61; refine (show Calls _ _ _ _ _ from HI.out).mono ?_; rintro e w1 ⟨x, rfl, hx, hB1⟩))
  go_ret
  exact ⟨by rw [← hx]; rfl, hB1⟩
set_option maxHeartbeats 1000000 in
set_option maxRecDepth 20000 in
theorem has_any (ad : Option Addr) (c : Nat) (l : List Pm.T) (p : ByteArray) (w : World) (hA : TxtA w ad l) (hl : l.length ≤ 1000000) (hp : p.size < 4294967281) (hT : Tab w) :
    Calls Tryz.prog 27 #[.slice ad l.length c, .string p] w fun e w' => e = .returned (.bool (Sm.has l (bl p))) ∧ Below w.heap.size w w' := by
  have hmf : ∀ (fn : Fn) (first cap : Array Value) (w : World), (Instr.makeFunc fn first cap).run Tryz.prog w = .ok (.func fn first cap) w := fun _ _ _ _ => rfl
  obtain ⟨W0, hW0⟩ : ∃ W0, w.alloc (.cells #[.string p] 9) = W0 := ⟨_, rfl⟩
  have HB0 : Hid (Below w.heap.size w W0) := by rw [← hW0]; exact (Below.refl _ w).alloc (Nat.le_refl _) _
  have hcell : W0.cell? ⟨w.heap.size, 0, none⟩ = some (.string p) := by rw [← hW0]; simp
  have HT : Hid (Tab W0) := hT.below HB0.out
  have HZ : Hid (w.heap.size ≤ W0.heap.size) := HB0.out.size
  have HK : Hid (∀ W : World, Tab W → Calls Tryz.prog 21 #[.string p] W fun e w' => e = .returned (.tuple #[.int .i64 ((Pm.kind (bl p)).1 : Nat), .int .i64 ((Pm.kind (bl p)).2 : Nat)]) ∧ Below W.heap.size W w') := fun W hW => kind_any p W hp hW
  have HC : Hid (∀ W : World, Below W0.heap.size W0 W → Calls Tryz.prog 43 #[.slice ad l.length c, .func (.func 44) #[] #[.pointer (some ⟨w.heap.size, 0, none⟩)]] W fun e w' => e = .returned (.bool (l.any (Sm.lies · (bl p)))) ∧ Below W.heap.size W w') :=
    fun W hB => contains_any ad c l p w.heap.size W ((hA.below HB0.out).below hB) ((hB.cell (p := ⟨w.heap.size, 0, none⟩) (block_lt_of_cell hcell)).trans hcell) hl hp (HT.out.below hB)
  have HR : Is (Sm.has l (bl p)) (((Pm.kind (bl p)).2 == 0) && l.any (Sm.lies · (bl p))) := ⟨rfl⟩
  clear hA hT hl hp
  generalize l.any (Sm.lies · (bl p)) = r at *
  generalize (Pm.kind (bl p)).1 = k1 at *
  generalize (Pm.kind (bl p)).2 = k2 at *
  generalize l.length = n at *
  by_cases h0 : k2 = 0
  · subst h0
    go_enter Tryz.func27, Tryz.ntmps27
    go_wp2_with (first
      | (go_at_call 21; refine (HK.out W0 HT.out).mono ?_; rintro e w1 ⟨rfl, hB1⟩)
      | (go_at_call 43; refine (HC.out _ hB1).mono ?_; rintro e w2 ⟨rfl, hB2⟩))
    go_ret
    exact ⟨by rw [HR.eq]; rfl, (HB0.out.trans (hB1.mono HZ.out)).trans (hB2.mono (Nat.le_trans HZ.out hB1.size))⟩
  · have h0' : ¬ ((k2 : Nat) : Int) = 0 := by omega
    have h0b : (((k2 : Nat) : Int) == 0) = false := by simp only [beq_eq_false_iff_ne, ne_eq]; exact h0'
    have HR2 : Is (Sm.has l (bl p)) false := ⟨by rw [HR.eq, show (k2 == 0) = false by simp only [beq_eq_false_iff_ne, ne_eq]; exact h0, Bool.false_and]⟩
    go_enter Tryz.func27, Tryz.ntmps27
    go_wp2_with (first
      | (go_at_call 21; refine (HK.out W0 HT.out).mono ?_; rintro e w1 ⟨rfl, hB1⟩))
    go_ret
    exact ⟨by rw [HR2.eq]; rfl, HB0.out.trans (hB1.mono HZ.out)⟩
theorem all_hit {f : Pm.T → Bool} {l : List Pm.T} (h : ∀ j, j < l.length → f (l.getD j []) = true) : l.all f = true := by
  rw [List.all_eq_true]
  intro x hx
  obtain ⟨j, hj, rfl⟩ := List.mem_iff_getElem.1 hx
  have := h j hj
  rw [List.getD_eq_getElem?_getD, List.getElem?_eq_getElem hj] at this
  exact this
theorem all_miss {f : Pm.T → Bool} {l : List Pm.T} {k : Nat} (hk : k < l.length) (h : f (l.getD k []) = false) : l.all f = false := by
  cases e : l.all f with
  | false => rfl
  | true => rw [List.all_eq_true.1 e _ (getD_mem hk)] at h; cases h
end Go.Proofs.YtbcmgcallidneaaGreatDoor
