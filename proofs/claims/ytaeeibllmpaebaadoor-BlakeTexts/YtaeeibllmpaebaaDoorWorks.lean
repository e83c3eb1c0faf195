/- Proved: the chapter's example holds (the law's helper works answers true). Condition: the two tables. -/
import Derived.Test.YtaeeibllmpaebaaDoorHex
import Derived.Test.YtaeeibllmpaebaaDoorMathE
import Derived.Lib.SlBytesConst
namespace Go.Proofs.YtaeeibllmpaebaaDoor
open Go.RowKit
theorem Bytes.new (w : World) (cs : Array Value) (fr : Nat × Nat) (bs : List Nat) (h : cs = (bs.map fun n => Value.int .u8 (n : Nat)).toArray) (hb : ∀ x ∈ bs, x < 256) (hl : bs.length ≤ 9223372036854775807) : Bytes (w.alloc (.cells cs 5 fr)) (some ⟨w.heap.size, 0, none⟩) bs.length bs := by
  subst h
  refine ⟨rfl, hb, hl, .inr ⟨_, _, rfl, fun i hi => ?_⟩⟩
  rw [cell_of_row _ _ _ _ 5 fr (heap_alloc_new w _)]
  simp [hi]
theorem Bytes.nil (w : World) (a : Option Addr) : Bytes w a 0 [] := ⟨rfl, (fun x hx => by cases hx), by omega, .inl rfl⟩
theorem Tab.alloc {w : World} (hT : Tab w) (h0 : 1 < w.heap.size) (o : Obj) : Tab (w.alloc o) := hT.below h0 ((Below.refl _ _).alloc (Nat.le_refl _) o)
theorem ex_str : Bl.toBytes (Bl.hex (Bl.digest [97, 98, 99])) = ⟨#[53, 48, 56, 99, 53, 101, 56, 99, 51, 50, 55, 99, 49, 52, 101, 50, 101, 49, 97, 55, 50, 98, 97, 51, 52, 101, 101, 98, 52, 53, 50, 102, 51, 55, 52, 53, 56, 98, 50, 48, 57, 101, 100, 54, 51, 97, 50, 57, 52, 100, 57, 57, 57, 98, 52, 99, 56, 54, 54, 55, 53, 57, 56, 50]⟩ := by
  rw [Bl.ex]; rfl
set_option maxHeartbeats 400000 in
set_option maxRecDepth 20000 in
theorem works_any (w : World) (hT : Tab w) (h0 : 1 < w.heap.size) :
    Calls Tryd.prog 14 #[] w fun e w' => e = .returned (.bool true) ∧ Below w.heap.size w w' := by
  have hcv := fun (w : World) C n c => Lib.run_convert_bytes_const (P := Tryd.prog) w 22 5 C n c Tryd.underlying22 Tryd.underlying5
  have hD8 : Hid (Bl.Bytes8 32 (Bl.digest [97, 98, 99])) := Bl.digest_bytes _
  have EX : Is (Bl.toBytes (Bl.hex (Bl.digest [97, 98, 99]))) _ := ⟨ex_str⟩
  have OF : Hid (∀ W a cap, Bytes W a 3 [97, 98, 99] → 3 ≤ cap → Tab W → 1 < W.heap.size → Calls Tryd.prog 10 #[.slice a 3 cap] W fun e w' => e = .returned (.agg (arr8 (Bl.digest [97, 98, 99]))) ∧ Below W.heap.size W w') := fun W a cap hB hc hT hz => of_any a 3 cap [97, 98, 99] W hB hc hT hz
  generalize Bl.digest [97, 98, 99] = D at *
  go_enter Tryd.func14, Tryd.ntmps14
  go_wp2_with fail
  refine (OF.out _ _ 3 (Bytes.new w _ _ _ rfl (by decide) (by decide)) (by omega) (hT.alloc h0 _) (by simp; omega)).mono ?_
  rintro e w1 ⟨rfl, hB1⟩
  have b1 : Below w.heap.size w w1 := ((Below.refl _ _).alloc (Nat.le_refl _) _).trans (hB1.mono (by simp))
  have hT1 := hT.below h0 b1
  have z1 : 1 < w1.heap.size := by have := b1.size; omega
  clear hB1
  go_wp2_with fail
  refine (hex_any D w1 hD8.out).mono ?_
  rintro e w2 ⟨rfl, hB2⟩
  have b2 : Below w.heap.size w w2 := b1.trans (hB2.mono b1.size)
  have hT2 := hT.below h0 b2
  rw [EX.eq]
  clear hB2
  go_wp2_with fail
  refine (new_any w2 hT2).mono ?_
  rintro e w3 ⟨rfl, _, _, hB3⟩
  go_wp2
  go_ret
  exact ⟨rfl, b2.trans (hB3.mono b2.size)⟩
end Go.Proofs.YtaeeibllmpaebaaDoor
