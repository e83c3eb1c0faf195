/- Proved: what the walks of this seat share: the tables that the program's text lays, and a byte's place among the signs. -/
import Derived.Test.YtbcmgcallidneaaGreatDoorRows
import Derived.Test.YtbcmgcallidneaaGreatDoorShelf
import Derived.Test.YtbcmgcallidneaaGreatDoorMathK
import Derived.WalkKit
import Derived.WalkSpells
import Derived.WalkLawsBesides
import Derived.Below
import Derived.Deep.RegionHeld3
import Derived.Deep.MidRow
import Derived.Lib.AppendIntMem
namespace Go.Proofs.YtbcmgcallidneaaGreatDoor
open Go.RowKit
structure Is {α : Type} (a b : α) : Prop where
  eq : a = b
def V8 (n : Nat) : Value := .int .u8 (n : Nat)
def sg : List Nat := [97, 122, 48, 57, 95, 95, 45, 45, 126, 126]
/- the tables, and a number of the library's own -/
structure Tab (w : World) : Prop where
  max : ∃ m, w.cell? ⟨1, 0, none⟩ = some (.int .i64 m)
  sig : w.rangeAt 0 0 (sg.map V8)
theorem Tab.posM {w : World} (h : Tab w) : 1 < w.heap.size := by
  obtain ⟨m, hm⟩ := h.max
  exact block_lt_of_cell hm
theorem Tab.posS {w : World} (h : Tab w) : 0 < w.heap.size := block_lt_of_cell (h.sig 0 (.int .u8 97) rfl)
theorem Tab.below {w w' : World} (hT : Tab w) (hb : Below w.heap.size w w') : Tab w' := by
  refine ⟨?_, fun j v hv => ?_⟩
  · obtain ⟨m, hm⟩ := hT.max
    exact ⟨m, (hb.cell (p := ⟨1, 0, none⟩) hT.posM).trans hm⟩
  · exact (hb.cell (p := ⟨0, 0 + j, none⟩) hT.posS).trans (hT.sig j v hv)
theorem Tab.part {w w' : World} (hT : Tab w) {B : Nat} (hB : w.heap.size ≤ B) (hb : Below B w w') : Tab w' := hT.below (hb.mono hB)
def signN (n : Nat) : Bool := (decide (97 ≤ n) && decide (n ≤ 122)) || (decide (48 ≤ n) && decide (n ≤ 57)) || decide (n = 95) || decide (n = 45) || decide (n = 126)
theorem size81 : (Tryz.prog.info? 115).map (·.size) = some 10 := by kernel_rfl
set_option maxHeartbeats 1000000 in
set_option maxRecDepth 20000 in
theorem isSign_nat (n : Nat) (w : World) (hn : n < 256) (hT : Tab w) :
    Calls Tryz.prog 69 #[.int .u8 (n : Int)] w fun e w' => e = .returned (.bool (signN n)) ∧ Below w.heap.size w w' := by
  have HT : Hid (Tab w) := hT
  clear hT
  go_enter Tryz.func69, Tryz.ntmps69
  go_wp2_with (first | (refine wpList_load_mid rfl 115 _ rfl 0 0 rfl (sg.map V8) _ HT.out.sig Tryz.underlying115 rfl (by rw [size81]; rfl) ?_))
  have ix0 : ∀ W : World, (Instr.index 115 (.agg (sg.map V8).toArray) (.int .i64 0)).run Tryz.prog W = .ok (.agg #[.int .u8 97, .int .u8 122]) W := fun W => by kernel_rfl
  have ix1 : ∀ W : World, (Instr.index 115 (.agg (sg.map V8).toArray) (.int .i64 1)).run Tryz.prog W = .ok (.agg #[.int .u8 48, .int .u8 57]) W := fun W => by kernel_rfl
  have ix2 : ∀ W : World, (Instr.index 115 (.agg (sg.map V8).toArray) (.int .i64 2)).run Tryz.prog W = .ok (.agg #[.int .u8 95, .int .u8 95]) W := fun W => by kernel_rfl
  have ix3 : ∀ W : World, (Instr.index 115 (.agg (sg.map V8).toArray) (.int .i64 3)).run Tryz.prog W = .ok (.agg #[.int .u8 45, .int .u8 45]) W := fun W => by kernel_rfl
  have ix4 : ∀ W : World, (Instr.index 115 (.agg (sg.map V8).toArray) (.int .i64 4)).run Tryz.prog W = .ok (.agg #[.int .u8 126, .int .u8 126]) W := fun W => by kernel_rfl
  generalize (sg.map V8).toArray = A at *
  go_loopw [4, 6] (fun _ i wr => ∃ k : Nat, k ≤ 5 ∧ i = .int .i64 k ∧ (∀ j, j < k → ¬ (sg.getD (2 * j) 0 ≤ n ∧ n ≤ sg.getD (2 * j + 1) 0)) ∧ Below w.heap.size w wr) (fun _ i _ => 5 - (intOf i).toNat)
  case atStart => exact ⟨0, by omega, rfl, fun j hj => by omega, Below.refl _ _⟩
  case round =>
    obtain ⟨k, hk, rfl, hj, hB⟩ := hrel
    have HB : Hid (Below w.heap.size w wr) := hB
    have hsz := hB.size
    have HJ : Hid (∀ j, j < k → ¬ (sg.getD (2 * j) 0 ≤ n ∧ n ≤ sg.getD (2 * j + 1) 0)) := hj
    have HBX : ∀ cs : Array Value, Below w.heap.size w (wr.alloc (.cells cs 114)) := fun cs => HB.out.trans (((Below.refl _ wr).alloc (Nat.le_refl _) _).mono hsz)
    clear hB hj
    have h5 : k = 0 ∨ k = 1 ∨ k = 2 ∨ k = 3 ∨ k = 4 ∨ k = 5 := by omega
    rcases h5 with rfl | rfl | rfl | rfl | rfl | rfl
    · by_cases ha : 97 ≤ n
      · have ha' : (97 : Int) ≤ (n : Int) := by omega
        by_cases hb : n ≤ 122
        · have hb' : (n : Int) ≤ 122 := by omega
          go_wp2
          go_ret
          refine ⟨?_, HBX _⟩
          have : signN n = true := by
            unfold signN
            simp only [Bool.or_eq_true, Bool.and_eq_true, decide_eq_true_eq]
            omega
          rw [this]; rfl
        · have hb' : ¬ (n : Int) ≤ 122 := by omega
          go_wp2
          go_roundw
          case rel => exact ⟨0 + 1, by omega, by go_num, fun j hj => by
            by_cases h : j = 0
            · subst h; exact fun h => hb h.2
            · exact HJ.out j (by omega), HBX _⟩
          case measure => (simp [intOf]) <;> omega
      · have ha' : ¬ (97 : Int) ≤ (n : Int) := by omega
        go_wp2
        go_roundw
        case rel => exact ⟨0 + 1, by omega, by go_num, fun j hj => by
          by_cases h : j = 0
          · subst h; exact fun h => ha h.1
          · exact HJ.out j (by omega), HBX _⟩
        case measure => (simp [intOf]) <;> omega
    · by_cases ha : 48 ≤ n
      · have ha' : (48 : Int) ≤ (n : Int) := by omega
        by_cases hb : n ≤ 57
        · have hb' : (n : Int) ≤ 57 := by omega
          go_wp2
          go_ret
          refine ⟨?_, HBX _⟩
          have : signN n = true := by
            unfold signN
            simp only [Bool.or_eq_true, Bool.and_eq_true, decide_eq_true_eq]
            omega
          rw [this]; rfl
        · have hb' : ¬ (n : Int) ≤ 57 := by omega
          go_wp2
          go_roundw
          case rel => exact ⟨1 + 1, by omega, by go_num, fun j hj => by
            by_cases h : j = 1
            · subst h; exact fun h => hb h.2
            · exact HJ.out j (by omega), HBX _⟩
          case measure => (simp [intOf]) <;> omega
      · have ha' : ¬ (48 : Int) ≤ (n : Int) := by omega
        go_wp2
        go_roundw
        case rel => exact ⟨1 + 1, by omega, by go_num, fun j hj => by
          by_cases h : j = 1
          · subst h; exact fun h => ha h.1
          · exact HJ.out j (by omega), HBX _⟩
        case measure => (simp [intOf]) <;> omega
    · by_cases ha : 95 ≤ n
      · have ha' : (95 : Int) ≤ (n : Int) := by omega
        by_cases hb : n ≤ 95
        · have hb' : (n : Int) ≤ 95 := by omega
          go_wp2
          go_ret
          refine ⟨?_, HBX _⟩
          have : signN n = true := by
            unfold signN
            simp only [Bool.or_eq_true, Bool.and_eq_true, decide_eq_true_eq]
            omega
          rw [this]; rfl
        · have hb' : ¬ (n : Int) ≤ 95 := by omega
          go_wp2
          go_roundw
          case rel => exact ⟨2 + 1, by omega, by go_num, fun j hj => by
            by_cases h : j = 2
            · subst h; exact fun h => hb h.2
            · exact HJ.out j (by omega), HBX _⟩
          case measure => (simp [intOf]) <;> omega
      · have ha' : ¬ (95 : Int) ≤ (n : Int) := by omega
        go_wp2
        go_roundw
        case rel => exact ⟨2 + 1, by omega, by go_num, fun j hj => by
          by_cases h : j = 2
          · subst h; exact fun h => ha h.1
          · exact HJ.out j (by omega), HBX _⟩
        case measure => (simp [intOf]) <;> omega
    · by_cases ha : 45 ≤ n
      · have ha' : (45 : Int) ≤ (n : Int) := by omega
        by_cases hb : n ≤ 45
        · have hb' : (n : Int) ≤ 45 := by omega
          go_wp2
          go_ret
          refine ⟨?_, HBX _⟩
          have : signN n = true := by
            unfold signN
            simp only [Bool.or_eq_true, Bool.and_eq_true, decide_eq_true_eq]
            omega
          rw [this]; rfl
        · have hb' : ¬ (n : Int) ≤ 45 := by omega
          go_wp2
          go_roundw
          case rel => exact ⟨3 + 1, by omega, by go_num, fun j hj => by
            by_cases h : j = 3
            · subst h; exact fun h => hb h.2
            · exact HJ.out j (by omega), HBX _⟩
          case measure => (simp [intOf]) <;> omega
      · have ha' : ¬ (45 : Int) ≤ (n : Int) := by omega
        go_wp2
        go_roundw
        case rel => exact ⟨3 + 1, by omega, by go_num, fun j hj => by
          by_cases h : j = 3
          · subst h; exact fun h => ha h.1
          · exact HJ.out j (by omega), HBX _⟩
        case measure => (simp [intOf]) <;> omega
    · by_cases ha : 126 ≤ n
      · have ha' : (126 : Int) ≤ (n : Int) := by omega
        by_cases hb : n ≤ 126
        · have hb' : (n : Int) ≤ 126 := by omega
          go_wp2
          go_ret
          refine ⟨?_, HBX _⟩
          have : signN n = true := by
            unfold signN
            simp only [Bool.or_eq_true, Bool.and_eq_true, decide_eq_true_eq]
            omega
          rw [this]; rfl
        · have hb' : ¬ (n : Int) ≤ 126 := by omega
          go_wp2
          go_roundw
          case rel => exact ⟨4 + 1, by omega, by go_num, fun j hj => by
            by_cases h : j = 4
            · subst h; exact fun h => hb h.2
            · exact HJ.out j (by omega), HBX _⟩
          case measure => (simp [intOf]) <;> omega
      · have ha' : ¬ (126 : Int) ≤ (n : Int) := by omega
        go_wp2
        go_roundw
        case rel => exact ⟨4 + 1, by omega, by go_num, fun j hj => by
          by_cases h : j = 4
          · subst h; exact fun h => ha h.1
          · exact HJ.out j (by omega), HBX _⟩
        case measure => (simp [intOf]) <;> omega
    · go_wp2
      go_ret
      refine ⟨?_, HB.out⟩
      have e0 := HJ.out 0 (by omega)
      have e1 := HJ.out 1 (by omega)
      have e2 := HJ.out 2 (by omega)
      have e3 := HJ.out 3 (by omega)
      have e4 := HJ.out 4 (by omega)
      simp only [sg, List.getD_cons_zero, List.getD_cons_succ, Nat.reduceMul, Nat.reduceAdd, Nat.mul_zero, Nat.zero_add, Nat.mul_one] at e0 e1 e2 e3 e4
      have : signN n = false := by
        unfold signN
        simp only [Bool.or_eq_false_iff, Bool.and_eq_false_iff, decide_eq_false_iff_not]
        omega
      rw [this]; rfl
theorem isSign_any (b : UInt8) (w : World) (hT : Tab w) :
    Calls Tryz.prog 69 #[.int .u8 (b.toNat : Int)] w fun e w' => e = .returned (.bool (Pm.sign b)) ∧ Below w.heap.size w w' := isSign_nat b.toNat w b.toNat_lt hT
end Go.Proofs.YtbcmgcallidneaaGreatDoor
