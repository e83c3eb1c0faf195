/- Proved: the document's Same answers true of two nodes alike (stage 11). -/
import Derived.Test.YtoinaplmgffkpaaFar
namespace Go.Proofs.Ytoinaplmgffkpaa
open Go.RowKit
open Sl (Cel Nod)
set_option maxHeartbeats 4000000 in
set_option maxRecDepth 20000 in
theorem same_yes (n : Nod) (p q : Pt) (w : World) (hA : Lies w n p) (hB : Lies w n q) (hl1 : n.cells.length ≤ 1000) (hl2 : n.keys.length ≤ 1000) (hl3 : n.kids.length ≤ 1000) :
    Calls Try.prog 14 #[nv n p, nv n q] w fun e w' => e = .returned (.bool true) ∧ Below w.heap.size w w' := by
  have HA : Hid (Lies w n p) := hA
  have HB : Hid (Lies w n q) := hB
  clear hA hB
  obtain ⟨lf, cs, ks, ds⟩ := n
  obtain ⟨a1, c1, a2, c2, a3, c3⟩ := p
  obtain ⟨b1, d1, b2, d2, b3, d3⟩ := q
  unfold nv
  simp only at hl1 hl2 hl3 ⊢
  have HI : Hid (Brow ((w.alloc (.cells #[.bool lf, .slice a1 cs.length c1, .slice a2 ks.length c2, .slice a3 ds.length c3] 26)).alloc (.cells #[.bool lf, .slice b1 cs.length d1, .slice b2 ks.length d2, .slice b3 ds.length d3] 26)) w.heap.size [.bool lf, .slice a1 cs.length c1, .slice a2 ks.length c2, .slice a3 ds.length c3] 26 ∧ Brow ((w.alloc (.cells #[.bool lf, .slice a1 cs.length c1, .slice a2 ks.length c2, .slice a3 ds.length c3] 26)).alloc (.cells #[.bool lf, .slice b1 cs.length d1, .slice b2 ks.length d2, .slice b3 ds.length d3] 26)) (w.heap.size + 1) [.bool lf, .slice b1 cs.length d1, .slice b2 ks.length d2, .slice b3 ds.length d3] 26 ∧ Below w.heap.size w ((w.alloc (.cells #[.bool lf, .slice a1 cs.length c1, .slice a2 ks.length c2, .slice a3 ds.length c3] 26)).alloc (.cells #[.bool lf, .slice b1 cs.length d1, .slice b2 ks.length d2, .slice b3 ds.length d3] 26))) := ⟨(Brow.new w [.bool lf, .slice a1 cs.length c1, .slice a2 ks.length c2, .slice a3 ds.length c3] 26).alloc _, by
    have := Brow.new (w.alloc (.cells #[.bool lf, .slice a1 cs.length c1, .slice a2 ks.length c2, .slice a3 ds.length c3] 26)) [.bool lf, .slice b1 cs.length d1, .slice b2 ks.length d2, .slice b3 ds.length d3] 26
    rwa [size_alloc1] at this, (below_alloc _ _).alloc (by rw [size_alloc1]; omega) _⟩
  go_enter Try.func14, Try.ntmps14
  go_wp2_with fail
  generalize ((w.alloc (.cells #[.bool lf, .slice a1 cs.length c1, .slice a2 ks.length c2, .slice a3 ds.length c3] 26)).alloc (.cells #[.bool lf, .slice b1 cs.length d1, .slice b2 ks.length d2, .slice b3 ds.length d3] 26)) = w0 at *
  go_loopw [5] (fun s wr => ∃ k : Nat, k ≤ cs.length ∧ s = .int .i64 k ∧ Brow wr w.heap.size [.bool lf, .slice a1 cs.length c1, .slice a2 ks.length c2, .slice a3 ds.length c3] 26 ∧ Brow wr (w.heap.size + 1) [.bool lf, .slice b1 cs.length d1, .slice b2 ks.length d2, .slice b3 ds.length d3] 26 ∧ Below w.heap.size w wr) (fun s _ => cs.length - (intOf s).toNat)
  case atStart => exact ⟨0, by omega, rfl, HI.out⟩
  case round =>
    obtain ⟨k, hk, rfl, hI⟩ := hrel
    have HJ : Hid (Brow wr w.heap.size [.bool lf, .slice a1 cs.length c1, .slice a2 ks.length c2, .slice a3 ds.length c3] 26 ∧ Brow wr (w.heap.size + 1) [.bool lf, .slice b1 cs.length d1, .slice b2 ks.length d2, .slice b3 ds.length d3] 26 ∧ Below w.heap.size w wr) := hI
    clear hI HI
    have q0 := HJ.out.1.at 0 _ rfl
    have q1 := HJ.out.1.at 1 _ rfl
    have q2 := HJ.out.1.at 2 _ rfl
    have q3 := HJ.out.1.at 3 _ rfl
    have r0 := HJ.out.2.1.at 0 _ rfl
    have r1 := HJ.out.2.1.at 1 _ rfl
    have r2 := HJ.out.2.1.at 2 _ rfl
    have r3 := HJ.out.2.1.at 3 _ rfl
    by_cases hlt : k < cs.length
    · obtain ⟨ba, oa, ha, hba, hca⟩ := HA.out.r1.cell (Nat.lt_of_le_of_lt (Nat.zero_le _) hlt)
      obtain ⟨bb, ob, hb, hbb, hcb⟩ := HB.out.r1.cell (Nat.lt_of_le_of_lt (Nat.zero_le _) hlt)
      simp only at ha hb
      subst ha hb
      obtain ⟨x0, x1, x2, x3⟩ := (hca k hlt).below HJ.out.2.2 hba
      obtain ⟨y0, y1, y2, y3⟩ := (hcb k hlt).below HJ.out.2.2 hbb
      have i0 : (k : Int) < (cs.length : Int) := by omega
      have j0 : (0 : Int) ≤ (k : Int) := Int.natCast_nonneg _
      clear hca hcb HA HB hlt
      simp only at x0 x1 x2 x3 y0 y1 y2 y3
      generalize cs.getD k Sl.cel0 = x at *
      obtain ⟨xk, xx, xo, xl⟩ := x
      simp only at x0 x1 x2 x3 y0 y1 y2 y3
      have HNX : Hid (∀ n, Brow (wr.drewN n) w.heap.size [.bool lf, .slice (some ⟨ba, oa, none⟩) cs.length c1, .slice a2 ks.length c2, .slice a3 ds.length c3] 26 ∧ Brow (wr.drewN n) (w.heap.size + 1) [.bool lf, .slice (some ⟨bb, ob, none⟩) cs.length d1, .slice b2 ks.length d2, .slice b3 ds.length d3] 26 ∧ Below w.heap.size w (wr.drewN n)) := fun n => ⟨⟨HJ.out.1.row⟩, ⟨HJ.out.2.1.row⟩, below_drewN HJ.out.2.2⟩
      go_wp2_with fail
      go_quiet (fail)
      go_wp2_with fail
      go_roundw
      case rel => exact ⟨k + 1, by omega, by go_num, HNX.out _⟩
      case measure => (simp [intOf]) <;> omega
    · have hkl : ¬ (k : Int) < (cs.length : Int) := by omega
      have HI : Hid (Brow wr w.heap.size [.bool lf, .slice a1 cs.length c1, .slice a2 ks.length c2, .slice a3 ds.length c3] 26 ∧ Brow wr (w.heap.size + 1) [.bool lf, .slice b1 cs.length d1, .slice b2 ks.length d2, .slice b3 ds.length d3] 26 ∧ Below w.heap.size w wr) := HJ.out
      clear HJ hlt
      go_wp2_with fail
      clear q0 q1 q2 q3 r0 r1 r2 r3 hkl
      go_loopw [6] (fun s wr => ∃ k : Nat, k ≤ ks.length ∧ s = .int .i64 k ∧ Brow wr w.heap.size [.bool lf, .slice a1 cs.length c1, .slice a2 ks.length c2, .slice a3 ds.length c3] 26 ∧ Brow wr (w.heap.size + 1) [.bool lf, .slice b1 cs.length d1, .slice b2 ks.length d2, .slice b3 ds.length d3] 26 ∧ Below w.heap.size w wr) (fun s _ => ks.length - (intOf s).toNat)
      case atStart => exact ⟨0, by omega, rfl, HI.out⟩
      case round =>
        obtain ⟨k, hk, rfl, hI⟩ := hrel
        have HJ : Hid (Brow wr w.heap.size [.bool lf, .slice a1 cs.length c1, .slice a2 ks.length c2, .slice a3 ds.length c3] 26 ∧ Brow wr (w.heap.size + 1) [.bool lf, .slice b1 cs.length d1, .slice b2 ks.length d2, .slice b3 ds.length d3] 26 ∧ Below w.heap.size w wr) := hI
        clear hI HI
        have q0 := HJ.out.1.at 0 _ rfl
        have q1 := HJ.out.1.at 1 _ rfl
        have q2 := HJ.out.1.at 2 _ rfl
        have q3 := HJ.out.1.at 3 _ rfl
        have r0 := HJ.out.2.1.at 0 _ rfl
        have r1 := HJ.out.2.1.at 1 _ rfl
        have r2 := HJ.out.2.1.at 2 _ rfl
        have r3 := HJ.out.2.1.at 3 _ rfl
        by_cases hlt : k < ks.length
        · obtain ⟨ba, oa, ha, hba, hca⟩ := HA.out.r2.keyAt (Nat.lt_of_le_of_lt (Nat.zero_le _) hlt)
          obtain ⟨bb, ob, hb, hbb, hcb⟩ := HB.out.r2.keyAt (Nat.lt_of_le_of_lt (Nat.zero_le _) hlt)
          simp only at ha hb
          subst ha hb
          have x0 := (HJ.out.2.2.cell (p := ⟨ba, oa + k, none⟩) hba).trans (hca k hlt)
          have y0 := (HJ.out.2.2.cell (p := ⟨bb, ob + k, none⟩) hbb).trans (hcb k hlt)
          have i0 : (k : Int) < (ks.length : Int) := by omega
          have j0 : (0 : Int) ≤ (k : Int) := Int.natCast_nonneg _
          clear hca hcb HA HB hlt
          simp only at x0 y0
          generalize ks.getD k ByteArray.empty = x at *
          have HNX : Hid (∀ n, Brow (wr.drewN n) w.heap.size [.bool lf, .slice a1 cs.length c1, .slice (some ⟨ba, oa, none⟩) ks.length c2, .slice a3 ds.length c3] 26 ∧ Brow (wr.drewN n) (w.heap.size + 1) [.bool lf, .slice b1 cs.length d1, .slice (some ⟨bb, ob, none⟩) ks.length d2, .slice b3 ds.length d3] 26 ∧ Below w.heap.size w (wr.drewN n)) := fun n => ⟨⟨HJ.out.1.row⟩, ⟨HJ.out.2.1.row⟩, below_drewN HJ.out.2.2⟩
          go_wp2_with fail
          go_quiet (fail)
          go_wp2_with fail
          go_roundw
          case rel => exact ⟨k + 1, by omega, by go_num, HNX.out _⟩
          case measure => (simp [intOf]) <;> omega
        · have hkl : ¬ (k : Int) < (ks.length : Int) := by omega
          have HI : Hid (Brow wr w.heap.size [.bool lf, .slice a1 cs.length c1, .slice a2 ks.length c2, .slice a3 ds.length c3] 26 ∧ Brow wr (w.heap.size + 1) [.bool lf, .slice b1 cs.length d1, .slice b2 ks.length d2, .slice b3 ds.length d3] 26 ∧ Below w.heap.size w wr) := HJ.out
          clear HJ hlt
          go_wp2_with fail
          clear q0 q1 q2 q3 r0 r1 r2 r3 hkl
          go_loopw [7] (fun s wr => ∃ k : Nat, k ≤ ds.length ∧ s = .int .i64 k ∧ Brow wr w.heap.size [.bool lf, .slice a1 cs.length c1, .slice a2 ks.length c2, .slice a3 ds.length c3] 26 ∧ Brow wr (w.heap.size + 1) [.bool lf, .slice b1 cs.length d1, .slice b2 ks.length d2, .slice b3 ds.length d3] 26 ∧ Below w.heap.size w wr) (fun s _ => ds.length - (intOf s).toNat)
          case atStart => exact ⟨0, by omega, rfl, HI.out⟩
          case round =>
            obtain ⟨k, hk, rfl, hI⟩ := hrel
            have HJ : Hid (Brow wr w.heap.size [.bool lf, .slice a1 cs.length c1, .slice a2 ks.length c2, .slice a3 ds.length c3] 26 ∧ Brow wr (w.heap.size + 1) [.bool lf, .slice b1 cs.length d1, .slice b2 ks.length d2, .slice b3 ds.length d3] 26 ∧ Below w.heap.size w wr) := hI
            clear hI HI
            have q0 := HJ.out.1.at 0 _ rfl
            have q1 := HJ.out.1.at 1 _ rfl
            have q2 := HJ.out.1.at 2 _ rfl
            have q3 := HJ.out.1.at 3 _ rfl
            have r0 := HJ.out.2.1.at 0 _ rfl
            have r1 := HJ.out.2.1.at 1 _ rfl
            have r2 := HJ.out.2.1.at 2 _ rfl
            have r3 := HJ.out.2.1.at 3 _ rfl
            by_cases hlt : k < ds.length
            · obtain ⟨ba, oa, ha, hba, hca⟩ := HA.out.r3.intAt (Nat.lt_of_le_of_lt (Nat.zero_le _) hlt)
              obtain ⟨bb, ob, hb, hbb, hcb⟩ := HB.out.r3.intAt (Nat.lt_of_le_of_lt (Nat.zero_le _) hlt)
              simp only at ha hb
              subst ha hb
              have x0 := (HJ.out.2.2.cell (p := ⟨ba, oa + k, none⟩) hba).trans (hca k hlt)
              have y0 := (HJ.out.2.2.cell (p := ⟨bb, ob + k, none⟩) hbb).trans (hcb k hlt)
              have i0 : (k : Int) < (ds.length : Int) := by omega
              have j0 : (0 : Int) ≤ (k : Int) := Int.natCast_nonneg _
              clear hca hcb HA HB hlt
              simp only at x0 y0
              generalize ds.getD k 0 = x at *
              have HNX : Hid (∀ n, Brow (wr.drewN n) w.heap.size [.bool lf, .slice a1 cs.length c1, .slice a2 ks.length c2, .slice (some ⟨ba, oa, none⟩) ds.length c3] 26 ∧ Brow (wr.drewN n) (w.heap.size + 1) [.bool lf, .slice b1 cs.length d1, .slice b2 ks.length d2, .slice (some ⟨bb, ob, none⟩) ds.length d3] 26 ∧ Below w.heap.size w (wr.drewN n)) := fun n => ⟨⟨HJ.out.1.row⟩, ⟨HJ.out.2.1.row⟩, below_drewN HJ.out.2.2⟩
              go_wp2_with fail
              go_quiet (fail)
              go_wp2_with fail
              go_roundw
              case rel => exact ⟨k + 1, by omega, by go_num, HNX.out _⟩
              case measure => (simp [intOf]) <;> omega
            · have hkl : ¬ (k : Int) < (ds.length : Int) := by omega
              have HI : Hid (Brow wr w.heap.size [.bool lf, .slice a1 cs.length c1, .slice a2 ks.length c2, .slice a3 ds.length c3] 26 ∧ Brow wr (w.heap.size + 1) [.bool lf, .slice b1 cs.length d1, .slice b2 ks.length d2, .slice b3 ds.length d3] 26 ∧ Below w.heap.size w wr) := HJ.out
              clear HJ hlt
              go_wp2
              go_ret
              exact ⟨rfl, HI.out.2.2⟩
end Go.Proofs.Ytoinaplmgffkpaa
