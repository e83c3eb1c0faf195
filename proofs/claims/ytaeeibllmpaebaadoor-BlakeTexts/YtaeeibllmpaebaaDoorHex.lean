/- Proved: Hex answers the 64 small digits of any 32 bytes. -/
import Derived.Test.YtaeeibllmpaebaaDoorOf
import Derived.Test.YtaeeibllmpaebaaDoorMathX
import Derived.Laws.IdiomStrings
namespace Go.Proofs.YtaeeibllmpaebaaDoor
open Go.RowKit
theorem digs_at : ∀ q, q < 16 → ∀ h : q < (⟨#[48, 49, 50, 51, 52, 53, 54, 55, 56, 57, 97, 98, 99, 100, 101, 102]⟩ : ByteArray).size, ((⟨#[48, 49, 50, 51, 52, 53, 54, 55, 56, 57, 97, 98, 99, 100, 101, 102]⟩ : ByteArray)[q]'h).toNat = Bl.dig q := by decide
theorem and15 (x : Nat) (h : x < 256) : bits .and .u8 (x : Int) 15 = ((x % 16 : Nat) : Int) := by
  rw [show (15 : Int) = ((15 : Nat) : Int) from rfl, u8_and_nat x 15 h (by omega), nat_mask4]
theorem bytes_str {w : World} {g t : Nat} {v : List Nat} (h : Row8 w g t v) (h8 : ∀ x ∈ v, x < 256) (cap : Nat) : (convert 22 9 (.slice (some ⟨g, 0, none⟩) v.length cap)).run Tryd.prog w = .ok (.string (Bl.toBytes v)) w := by
  have e := run_convert_bytes_back (P := Tryd.prog) w 22 9 5 ⟨g, 0, none⟩ cap (v.map UInt8.ofNat) Tryd.underlying22 Tryd.underlying5 Tryd.underlying9 (fun j hj => by
    have hj' : j < v.length := by simpa using hj
    rw [Addr.add_mid, Nat.zero_add, (h.at j hj').1, List.getElem_map]
    have h1 : v[j] < 256 := h8 _ (List.getElem_mem hj')
    rw [List.getD_eq_getElem?_getD, List.getElem?_eq_getElem hj', Option.getD_some, UInt8.toNat_ofNat', Nat.mod_eq_of_lt h1])
  rw [List.length_map] at e
  exact e
set_option maxHeartbeats 1000000 in
set_option maxRecDepth 20000 in
theorem hex_any (d : List Nat) (w : World) (hd : Bl.Bytes8 32 d) :
    Calls Tryd.prog 12 #[.agg (arr8 d)] w fun e w' => e = .returned (.string (Bl.toBytes (Bl.hex d))) ∧ Below w.heap.size w w' := by
  have HD : Hid (Bl.Bytes8 32 d) := hd
  have hi8 : Hid ((Tryd.prog.info? 24).map (·.size) = some (arr8 d).size) := hi24 hd.1
  clear hd
  go_enter Tryd.func12, Tryd.ntmps12
  go_upto_region 2 with fail
  have e64 : arr8 (Bl.zeros 64) = #[.int .u8 0, .int .u8 0, .int .u8 0, .int .u8 0, .int .u8 0, .int .u8 0, .int .u8 0, .int .u8 0, .int .u8 0, .int .u8 0, .int .u8 0, .int .u8 0, .int .u8 0, .int .u8 0, .int .u8 0, .int .u8 0, .int .u8 0, .int .u8 0, .int .u8 0, .int .u8 0, .int .u8 0, .int .u8 0, .int .u8 0, .int .u8 0, .int .u8 0, .int .u8 0, .int .u8 0, .int .u8 0, .int .u8 0, .int .u8 0, .int .u8 0, .int .u8 0, .int .u8 0, .int .u8 0, .int .u8 0, .int .u8 0, .int .u8 0, .int .u8 0, .int .u8 0, .int .u8 0, .int .u8 0, .int .u8 0, .int .u8 0, .int .u8 0, .int .u8 0, .int .u8 0, .int .u8 0, .int .u8 0, .int .u8 0, .int .u8 0, .int .u8 0, .int .u8 0, .int .u8 0, .int .u8 0, .int .u8 0, .int .u8 0, .int .u8 0, .int .u8 0, .int .u8 0, .int .u8 0, .int .u8 0, .int .u8 0, .int .u8 0, .int .u8 0] := rfl
  rw [← e64]
  clear e64
  have G0 : ((w.alloc (.cells (arr8 d) 24)).alloc (.cells (arr8 (Bl.zeros 64)) 48)).heap[w.heap.size]? = some (.cells (arr8 d) 24 (0, 0)) := by
    rw [Below.heap_alloc _ _ _ (by simp)]; exact heap_alloc_new w _
  have G1 : ((w.alloc (.cells (arr8 d) 24)).alloc (.cells (arr8 (Bl.zeros 64)) 48)).heap[w.heap.size + 1]? = some (.cells (arr8 (Bl.zeros 64)) 48 (0, 0)) := by
    have e := heap_alloc_new (w.alloc (.cells (arr8 d) 24)) (.cells (arr8 (Bl.zeros 64)) 48)
    rw [World.size_alloc'] at e
    exact e
  have B1 : Below w.heap.size w ((w.alloc (.cells (arr8 d) 24)).alloc (.cells (arr8 (Bl.zeros 64)) 48)) := ((Below.refl _ _).alloc (Nat.le_refl _) _).alloc (by simp) _
  generalize World.alloc (World.alloc w _) (.cells (arr8 (Bl.zeros 64)) 48) = w1 at *
  have HG0 : Hid (w1.heap[w.heap.size]? = some (.cells (arr8 d) 24 (0, 0))) := G0
  have HG1 : Hid (Row8 w1 (w.heap.size + 1) 48 (Bl.zeros 64)) := G1
  have HB1 : Hid (Below w.heap.size w w1) := B1
  clear G0 G1 B1
  go_wp2_with (first | (refine wpList_load_row rfl 24 _ rfl w.heap.size rfl 24 (arr8 d) (0, 0) _ HG0.out Tryd.underlying24 rfl hi8.out ?_))
  go_loopw [4, 5, 7] (fun _ _ i wr => ∃ k : Nat, k ≤ 32 ∧ i = .int .i64 k ∧ Row8 wr (w.heap.size + 1) 48 (Bl.part (Bl.hex d) (Bl.zeros 64) (2 * k)) ∧ Below w.heap.size w wr) (fun _ _ i _ => 32 - (intOf i).toNat)
  case atStart => exact ⟨0, by omega, rfl, by rw [Nat.mul_zero, Bl.part_zero]; exact HG1.out, HB1.out⟩
  case round =>
    obtain ⟨k, hk, rfl, hr, hB⟩ := hrel
    by_cases hlt : k < 32
    · have hx := HD.out.at k
      have hidx : ∀ W : World, (Instr.index 24 (.agg (arr8 d)) (.int .i64 (k : Int))).run Tryd.prog W = .ok (.int .u8 (d.getD k 0 : Nat)) W := fun W => run_idx (P := Tryd.prog) Tryd.underlying24 Tryd.underlying5 rfl (by kernel_rfl) (arr8 d) k hlt _ (arr8_at d k (by rw [HD.out.1]; exact hlt)) W
      have hl1 : 2 * k < (Bl.part (Bl.hex d) (Bl.zeros 64) (2 * k)).length := by rw [Bl.part_length (Bl.hex_bytes HD.out).1 (Bl.zeros_bytes 64).1 (by omega)]; omega
      have hl2 : 2 * k + 1 < (Bl.part (Bl.hex d) (Bl.zeros 64) (2 * k)).length := by rw [Bl.part_length (Bl.hex_bytes HD.out).1 (Bl.zeros_bytes 64).1 (by omega)]; omega
      have s1 := Bl.part_set (Bl.hex_bytes HD.out).1 (Bl.zeros_bytes 64).1 (show 2 * k < 64 by omega)
      have s2 := Bl.part_set (Bl.hex_bytes HD.out).1 (Bl.zeros_bytes 64).1 (show 2 * k + 1 < 64 by omega)
      rw [Bl.hex_even d k hlt] at s1
      rw [Bl.hex_odd d k hlt] at s2
      obtain ⟨c1, f1⟩ := hr.at (2 * k) hl1
      obtain ⟨c2, f2⟩ := hr.at (2 * k + 1) hl2
      have HS1 : Is ((Bl.part (Bl.hex d) (Bl.zeros 64) (2 * k)).set (2 * k) (Bl.dig (d.getD k 0 / 16))) (Bl.part (Bl.hex d) (Bl.zeros 64) (2 * k + 1)) := ⟨s1⟩
      have HS2 : Is ((Bl.part (Bl.hex d) (Bl.zeros 64) (2 * k + 1)).set (2 * k + 1) (Bl.dig (d.getD k 0 % 16))) (Bl.part (Bl.hex d) (Bl.zeros 64) (2 * k + 1 + 1)) := ⟨s2⟩
      have HR : Hid (Row8 wr (w.heap.size + 1) 48 (Bl.part (Bl.hex d) (Bl.zeros 64) (2 * k))) := hr
      clear s1 s2 hr hl1 hl2
      generalize d.getD k 0 = x at *
      generalize Bl.part (Bl.hex d) (Bl.zeros 64) (2 * k) = v at *
      have p1 := digs_at (x / 16) (by omega)
      have p2 := digs_at (x % 16) (by omega)
      have a15 := and15 x hx
      obtain ⟨ka, hka⟩ : ∃ ka, ka = 2 * k := ⟨_, rfl⟩
      have eka : (2 : Int) * (k : Int) = (ka : Int) := by omega
      have ekb : (ka : Int) + 1 = ((ka + 1 : Nat) : Int) := by omega
      rw [← hka] at c1 f1 c2 f2 HS1 HS2
      have bka : (ka : Int) < 64 := by omega
      have bkb : (ka : Int) + 1 < 64 := by omega
      have HKA : Hid (ka = 2 * k) := hka
      clear ekb hka
      go_wp2
      go_roundw
      case rel =>
        refine ⟨k + 1, by omega, by go_num, ?_, (hB.setCell (by simp) _).setCell (by simp) _⟩
        rw [show 2 * (k + 1) = ka + 1 + 1 by have := HKA.out; omega, ← HS2.eq, ← HS1.eq]
        exact (HR.out.set _ _).set _ _
      case measure => (simp [intOf]) <;> omega
    · have hk8 : k = 32 := by omega
      subst hk8
      rw [show 2 * 32 = 64 from rfl, Bl.part_all (Bl.hex_bytes HD.out).1 (Bl.zeros_bytes 64).1] at hr
      have hcv := bytes_str hr (Bl.hex_bytes HD.out).2 64
      rw [(Bl.hex_bytes HD.out).1] at hcv
      have HB : Hid (Below w.heap.size w wr) := hB
      clear hr hB
      go_wp2
      go_ret
      exact ⟨rfl, HB.out⟩
end Go.Proofs.YtaeeibllmpaebaaDoor
