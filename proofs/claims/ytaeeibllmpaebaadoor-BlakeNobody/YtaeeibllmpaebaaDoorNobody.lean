/- Proved: the walk of the law BlakeNobody answers true whatever slice comes in. Condition: the two tables. -/
import Derived.Test.YtaeeibllmpaebaaDoorSame
namespace Go.Proofs.YtaeeibllmpaebaaDoor
open Go.RowKit
set_option maxHeartbeats 1000000 in
set_option maxRecDepth 20000 in
theorem nobody_walk (a : Option Addr) (len cap : Nat) (bs : List Nat) (w : World) (_hB : Bytes w a len bs) (_hc : len ≤ cap) (_hc' : cap ≤ 9223372036854775807) (hT : Tab w) (h0 : 1 < w.heap.size) :
    Calls Tryd.prog 8 #[.slice a len cap] w fun e w' => e = .returned (.bool true) ∧ Below w.heap.size w w' := by
  have HT : Hid (Tab w) := hT
  have hsame := same32 (Bl.zeros 32) (by simp [Bl.zeros])
  have hsame2 : ∀ W : World, (Op.equalIn 10000 24 (.agg (arr8 (Bl.zeros 32))) (.agg #[.int .u8 0, .int .u8 0, .int .u8 0, .int .u8 0, .int .u8 0, .int .u8 0, .int .u8 0, .int .u8 0, .int .u8 0, .int .u8 0, .int .u8 0, .int .u8 0, .int .u8 0, .int .u8 0, .int .u8 0, .int .u8 0, .int .u8 0, .int .u8 0, .int .u8 0, .int .u8 0, .int .u8 0, .int .u8 0, .int .u8 0, .int .u8 0, .int .u8 0, .int .u8 0, .int .u8 0, .int .u8 0, .int .u8 0, .int .u8 0, .int .u8 0, .int .u8 0])).run Tryd.prog W = .ok true W := hsame
  clear hT
  go_enter Tryd.func8, Tryd.ntmps8
  go_wp2_with (first | (refine build0 rfl 50 rfl zhash built_none ?_))
  have B1 : Hid (Below w.heap.size w ((w.alloc (.cells zhash 50)).alloc (.cells #[.pointer none, .pointer (some ⟨w.heap.size, 0, none⟩)] 32))) := ((Below.refl _ _).alloc (Nat.le_refl _) _).alloc (by simp) _
  have G0 : Hid (((w.alloc (.cells zhash 50)).alloc (.cells #[.pointer none, .pointer (some ⟨w.heap.size, 0, none⟩)] 32)).heap[w.heap.size]? = some (.cells zhash 50 (0, 0))) := by
    show _ = _
    rw [Below.heap_alloc _ _ _ (by simp)]; exact heap_alloc_new w _
  have G1 : Hid (((w.alloc (.cells zhash 50)).alloc (.cells #[.pointer none, .pointer (some ⟨w.heap.size, 0, none⟩)] 32)).heap[w.heap.size + 1]? = some (.cells #[.pointer none, .pointer (some ⟨w.heap.size, 0, none⟩)] 32 (0, 0))) := by
    have e := heap_alloc_new (w.alloc (.cells zhash 50)) (.cells #[.pointer none, .pointer (some ⟨w.heap.size, 0, none⟩)] 32)
    rw [World.size_alloc'] at e
    exact e
  have Z1 : Hid (((w.alloc (.cells zhash 50)).alloc (.cells #[.pointer none, .pointer (some ⟨w.heap.size, 0, none⟩)] 32)).heap.size = w.heap.size + 2) := by show _ = _; simp
  generalize World.alloc (World.alloc w (.cells zhash 50)) _ = w1 at *
  have HT1 : Hid (Tab w1) := HT.out.below h0 B1.out
  go_loopw [4, 9] (fun _ i wr => ∃ k : Nat, k ≤ 2 ∧ i = .int .i64 k ∧ Below (w.heap.size + 2) w1 wr) (fun _ i _ => 2 - (intOf i).toNat)
  case atStart => exact ⟨0, by omega, rfl, Below.refl _ _⟩
  case round =>
    obtain ⟨k, hk, rfl, hB⟩ := hrel
    have hsz := hB.size
    have hg0 : wr.heap[w.heap.size]? = some (.cells zhash 50 (0, 0)) := (hB.block _ (by omega)).trans G0.out
    have hg1 : wr.heap[w.heap.size + 1]? = some (.cells #[.pointer none, .pointer (some ⟨w.heap.size, 0, none⟩)] 32 (0, 0)) := (hB.block _ (by omega)).trans G1.out
    have HB : Hid (Below (w.heap.size + 2) w1 wr) := hB
    have HSZ : Hid (w.heap.size + 2 ≤ wr.heap.size) := by have := Z1.out; show _ ≤ _; omega
    clear hB hsz
    by_cases hlt : k < 2
    · by_cases hk0 : k = 0
      · subst hk0
        have c0 : wr.cell? ⟨w.heap.size + 1, 0, none⟩ = some (.pointer none) := by rw [cell_of_row wr _ 0 _ 32 (0, 0) hg1]; rfl
        clear hg0 hg1
        go_wp2_with (first | (go_at_call 17; refine (write_nil _ _).mono ?_; rintro e w' ⟨rfl, rfl⟩) | (go_at_call 18; refine (len_nil _).mono ?_; rintro e w' ⟨rfl, rfl⟩) | (go_at_call 16; refine (copy_nil _).mono ?_; rintro e w' ⟨rfl, rfl⟩) | (go_at_call 19; refine (sum_nil _).mono ?_; rintro e w' ⟨rfl, hb5⟩))
        exact ⟨⟨1, by omega, rfl, HB.out.trans (hb5.mono HSZ.out)⟩, by simp [intOf]⟩
      · have hk1 : k = 1 := by omega
        subst hk1
        have c0 : wr.cell? ⟨w.heap.size + 1, 1, none⟩ = some (.pointer (some ⟨w.heap.size, 0, none⟩)) := by rw [cell_of_row wr _ 1 _ 32 (0, 0) hg1]; rfl
        have hm : Hid (wr.cell? ⟨w.heap.size, 0, none⟩ = some (.bool false)) := by show _ = _; rw [cell_of_row wr _ 0 _ 50 (0, 0) hg0]; rfl
        clear hg0 hg1
        go_wp2_with (first | (go_at_call 17; refine (write_no _ _ _ hm.out).mono ?_; rintro e w' ⟨rfl, rfl⟩) | (go_at_call 18; refine (len_no _ _ hm.out).mono ?_; rintro e w' ⟨rfl, rfl⟩) | (go_at_call 16; refine (copy_no _ _ hm5.out).mono ?_; rintro e w' ⟨rfl, rfl⟩) | (go_at_call 19; refine (sum_no _ _ (by have := HSZ.out; omega) hm.out).mono ?_; rintro e w' ⟨rfl, hb5⟩; have hm5 : Hid (w'.cell? ⟨w.heap.size, 0, none⟩ = some (.bool false)) := (hb5.cell (p := ⟨w.heap.size, 0, none⟩) (by have := HSZ.out; show w.heap.size < _; omega)).trans hm.out))
        exact ⟨⟨2, by omega, rfl, HB.out.trans (hb5.mono HSZ.out)⟩, by simp [intOf]⟩
    · have hk2 : k = 2 := by omega
      subst hk2
      have hTr := HT1.out.below (B := w.heap.size + 2) (by omega) HB.out
      have hbw := B1.out.trans (HB.out.mono (by omega))
      clear hg0 hg1
      go_wp2_with fail
      refine (works_any wr hTr (by have := HSZ.out; omega)).mono ?_
      rintro e w6 ⟨rfl, hb6⟩
      go_wp2
      go_ret
      exact ⟨rfl, hbw.trans (hb6.mono hbw.size)⟩
end Go.Proofs.YtaeeibllmpaebaaDoor
