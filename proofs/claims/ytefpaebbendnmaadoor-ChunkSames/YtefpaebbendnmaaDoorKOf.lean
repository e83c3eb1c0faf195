/- Proved: Of answers the document's digest of any bytes. Conditions: the slice has just these bytes, and the two tables. -/
import Derived.Test.YtefpaebbendnmaaDoorKWrite
namespace Go.Proofs.YtefpaebbendnmaaDoor.BK
open Go.RowKit
theorem Bytes.below {w w' : World} {a : Option Addr} {len : Nat} {bs : List Nat} (h : Bytes w a len bs) {B : Nat} (hb : Below B w w') (hB : B = w.heap.size) : Bytes w' a len bs := by
  obtain ⟨h0, h1, h2, h3⟩ := h
  refine ⟨h0, h1, h2, ?_⟩
  rcases h3 with h3 | ⟨b, off, ha, hc⟩
  · exact .inl h3
  · exact .inr ⟨b, off, ha, fun i hi => by
      have hc' := hc i hi
      have hlt : b < w.heap.size := block_lt_of_cell hc'
      rw [hb.cell (p := ⟨b, off + i, none⟩) (by subst hB; exact hlt)]; exact hc'⟩
theorem Bytes.off {w : World} {a : Option Addr} {len : Nat} {bs : List Nat} (h : Bytes w a len bs) {g : Nat} (hg : w.heap.size ≤ g) : Off a len g := by
  rcases h.2.2.2 with h | ⟨b, off, ha, hc⟩
  · exact .inl h
  · by_cases h0 : len = 0
    · exact .inl h0
    · refine .inr fun x hx => ?_
      rw [ha] at hx
      cases hx
      have hbl : b < w.heap.size := block_lt_of_cell (hc 0 (by omega))
      show b ≠ g
      omega
theorem HashOf.new {w : World} {g : Nat} (H : Hash w g Bl.init (Bl.zeros 64) 0 0) : HashOf w g [] := ⟨_, _, _, H, Bl.St.new⟩
theorem HashOf.lt {w : World} {g : Nat} {bs : List Nat} (h : HashOf w g bs) : g < w.heap.size := by
  obtain ⟨_, _, _, H, _⟩ := h
  exact H.lt
theorem HashOf.below {w w' : World} {g B : Nat} {bs : List Nat} (h : HashOf w g bs) (hb : Below B w w') (hg : g < B) : HashOf w' g bs := by
  obtain ⟨h1, b, held, H, s⟩ := h
  exact ⟨h1, b, held, H.below hb hg, s⟩
theorem HashOf.len {w : World} {g : Nat} {bs : List Nat} (h : HashOf w g bs) : bs.length < 9223372036854775808 := by
  obtain ⟨h1, b, held, H, s⟩ := h
  exact s.len
theorem sum_of (g : Nat) (bs : List Nat) (w : World) (H : HashOf w g bs) (hT : Tab w) (h0 : 3 < w.heap.size) : Calls Tryd.prog 30 #[.pointer (some ⟨g, 0, none⟩)] w fun e w' => e = .returned (.agg (arr8 (Bl.digest bs))) ∧ Below w.heap.size w w' := by
  obtain ⟨h1, b, held, H, s⟩ := H
  exact sum_yes g bs h1 b held w H s hT h0
set_option maxHeartbeats 1000000 in
set_option maxRecDepth 20000 in
theorem of_any (a : Option Addr) (len cap : Nat) (ds : List Nat) (w : World) (hB : Bytes w a len ds) (hc : len ≤ cap) (hT : Tab w) (h0 : 3 < w.heap.size) :
    Calls Tryd.prog 14 #[.slice a len cap] w fun e w' => e = .returned (.agg (arr8 (Bl.digest ds))) ∧ Below w.heap.size w w' := by
  have HT : Hid (Tab w) := hT
  have HB : Hid (Bytes w a len ds) := hB
  obtain ⟨D, hD⟩ : ∃ D, D = Bl.digest ds := ⟨_, rfl⟩
  have HD : Is D (Bl.digest ds) := ⟨hD⟩
  have HD8 : Hid (Bl.Bytes8 32 D) := by rw [hD]; exact Bl.digest_bytes ds
  rw [← hD]
  clear hT hB hD
  go_enter Tryd.func14, Tryd.ntmps14
  go_upto_region 1 with fail
  have e32 : arr8 (Bl.zeros 32) = #[.int .u8 0, .int .u8 0, .int .u8 0, .int .u8 0, .int .u8 0, .int .u8 0, .int .u8 0, .int .u8 0, .int .u8 0, .int .u8 0, .int .u8 0, .int .u8 0, .int .u8 0, .int .u8 0, .int .u8 0, .int .u8 0, .int .u8 0, .int .u8 0, .int .u8 0, .int .u8 0, .int .u8 0, .int .u8 0, .int .u8 0, .int .u8 0, .int .u8 0, .int .u8 0, .int .u8 0, .int .u8 0, .int .u8 0, .int .u8 0, .int .u8 0, .int .u8 0] := rfl
  rw [← e32]
  clear e32
  have B1 : Below w.heap.size w (w.alloc (.cells (arr8 (Bl.zeros 32)) 23)) := (Below.refl _ _).alloc (Nat.le_refl _) _
  have G1 : (w.alloc (.cells (arr8 (Bl.zeros 32)) 23)).heap[w.heap.size]? = some (.cells (arr8 (Bl.zeros 32)) 23 (0, 0)) := heap_alloc_new w _
  have Z1 : (w.alloc (.cells (arr8 (Bl.zeros 32)) 23)).heap.size = w.heap.size + 1 := by simp
  generalize World.alloc w (.cells (arr8 (Bl.zeros 32)) 23) = w1 at *
  have HT1 : Hid (Tab w1) := HT.out.below h0 B1
  have HB1 : Hid (Below w.heap.size w w1) := B1
  have HG1 : Hid (w1.heap[w.heap.size]? = some (.cells (arr8 (Bl.zeros 32)) 23 (0, 0))) := G1
  have HZ1 : Hid (w1.heap.size = w.heap.size + 1) := Z1
  have BY1 : Hid (Bytes w1 a len ds) := HB.out.below B1 rfl
  clear B1 G1 Z1
  go_wp2_with fail
  refine (new_any w1 HT1.out).mono ?_
  rintro e w2 ⟨rfl, hH2, hZ2, hB2⟩
  have HT2 : Hid (Tab w2) := HT1.out.below (by have := HZ1.out; omega) hB2
  have HH2 : Hid (HashOf w2 w1.heap.size []) := HashOf.new hH2
  have HB2 : Hid (Below w1.heap.size w1 w2) := hB2
  have BY2 : Hid (Bytes w2 a len ds) := BY1.out.below hB2 rfl
  have OFF : Hid (Off a len w1.heap.size) := BY1.out.off (Nat.le_refl _)
  have hlm : ds.length < 9223372036854775808 := by have := HB.out.2.2.1; have e := HB.out.1; omega
  clear hH2 hB2
  go_wp2_with fail
  refine (write_yes w1.heap.size [] a len cap ds w2 HH2.out BY2.out hc OFF.out (by simpa using hlm) HT2.out (by have := HZ1.out; omega)).mono ?_
  rintro e w3 ⟨rfl, hH3, hK3⟩
  rw [List.nil_append] at hH3
  have B3 : Below w1.heap.size w1 w3 := HB2.out.trans (hK3.below (Nat.le_refl _) (by rw [hZ2]; omega))
  have HT3 : Hid (Tab w3) := HT1.out.below (by have := HZ1.out; omega) B3
  have HH3 : Hid (HashOf w3 w1.heap.size ds) := hH3
  have HB3 : Hid (Below w1.heap.size w1 w3) := B3
  have s3 := hH3.lt
  clear hH3 hK3 B3
  have hi : Hid ((Tryd.prog.info? 23).map (·.size) = some (arr8 D).size) := hi24 HD8.out.1
  have H1 : Hid ((arr8 D).all (·.oneCell') = true) := arr8_one _
  have he : Hid ((arr8 (Bl.zeros 32)).size = (arr8 D).size) := by show _ = _; rw [arr8_size, arr8_size, HD8.out.1]; simp [Bl.zeros]
  go_wp2_with fail
  refine (sum_of w1.heap.size ds w3 HH3.out HT3.out (by have := HZ1.out; omega)).mono ?_
  rintro e w4 ⟨rfl, hB4⟩
  rw [← HD.eq]
  have HG4 : Hid (w4.heap[w.heap.size]? = some (.cells (arr8 (Bl.zeros 32)) 23 (0, 0))) := (hB4.block _ (by have := HZ1.out; omega)).trans ((HB3.out.block _ (by have := HZ1.out; omega)).trans HG1.out)
  have HB4 : Hid (Below w.heap.size w w4) := HB1.out.trans ((HB3.out.mono (by have := HZ1.out; omega)).trans (hB4.mono (by have := HZ1.out; omega)))
  clear hB4
  go_wp2_with (first | (refine store_row rfl rfl 23 _ _ rfl w.heap.size (arr8 D) rfl rfl 23 _ HG4.out hi.out he.out H1.out ?_))
  refine bodyPost_ret (v := .agg (arr8 D)) ?_ rfl ⟨rfl, below_setRow HB4.out (Nat.le_refl _) _⟩
  exact results_cell_row Tryd.results14 _ _ w.heap.size 23 _ (0, 0) _ rfl (setRow_heap _ _ (arr8 (Bl.zeros 32)) _ _ _ HG4.out) Tryd.underlying23 rfl hi.out
end Go.Proofs.YtefpaebbendnmaaDoor.BK
