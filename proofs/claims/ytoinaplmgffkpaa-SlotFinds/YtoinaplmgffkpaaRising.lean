/- Proved: what the laws' rising answers (stage 11). -/
import Derived.Test.YtoinaplmgffkpaaLBase
import Derived.Test.YtoinaplmgffkpaaMathP
namespace Go.Proofs.Ytoinaplmgffkpaa
open Go.RowKit
open Sl (Cel Nod)
structure RiseP (n : Nod) (w : World) (e : Ending) (w' : World) : Prop where
  ex : ∃ b, e = .returned (.bool b) ∧ (b = true → Sl.rise (n.cells.map Cel.key) = true ∧ Sl.rise n.keys = true) ∧ Below w.heap.size w w'
set_option maxHeartbeats 4000000 in
theorem rising_any (n : Nod) (p : Pt) (w : World) (hN : Lies w n p) (hl1 : n.cells.length ≤ 1000) (hl2 : n.keys.length ≤ 1000) :
    Calls Try.prog 10 #[nv n p] w (RiseP n w) := by
  have HA : Hid (Lies w n p) := hN
  clear hN
  obtain ⟨lf, cs, ks, ds⟩ := n
  obtain ⟨a1, c1, a2, c2, a3, c3⟩ := p
  unfold nv
  simp only at hl1 hl2 ⊢
  have HI : Hid (Brow (w.alloc (.cells #[.bool lf, .slice a1 cs.length c1, .slice a2 ks.length c2, .slice a3 ds.length c3] 26)) w.heap.size [.bool lf, .slice a1 cs.length c1, .slice a2 ks.length c2, .slice a3 ds.length c3] 26 ∧ Below w.heap.size w (w.alloc (.cells #[.bool lf, .slice a1 cs.length c1, .slice a2 ks.length c2, .slice a3 ds.length c3] 26))) := ⟨Brow.new w [.bool lf, .slice a1 cs.length c1, .slice a2 ks.length c2, .slice a3 ds.length c3] 26, below_alloc _ _⟩
  go_enter Try.func10, Try.ntmps10
  go_wp2_with fail
  generalize (w.alloc (.cells #[.bool lf, .slice a1 cs.length c1, .slice a2 ks.length c2, .slice a3 ds.length c3] 26)) = w0 at *
  go_loopw [3] (fun s wr => ∃ k : Nat, k ≤ cs.length ∧ s = .int .i64 ((k : Int) + 1) ∧ (∀ i, i < k → Sl.lt ((cs.map Cel.key).getD i ByteArray.empty) ((cs.map Cel.key).getD (i + 1) ByteArray.empty) = true) ∧ Brow wr w.heap.size [.bool lf, .slice a1 cs.length c1, .slice a2 ks.length c2, .slice a3 ds.length c3] 26 ∧ Below w.heap.size w wr) (fun s _ => cs.length + 1 - (intOf s).toNat)
  case atStart => exact ⟨0, by omega, rfl, fun i hi => absurd hi (by omega), HI.out⟩
  case round =>
    obtain ⟨k, hk, rfl, hall, hI⟩ := hrel
    have HJ : Hid (Brow wr w.heap.size [.bool lf, .slice a1 cs.length c1, .slice a2 ks.length c2, .slice a3 ds.length c3] 26 ∧ Below w.heap.size w wr) := hI
    have HALL := (show Hid (∀ i, i < k → Sl.lt ((cs.map Cel.key).getD i ByteArray.empty) ((cs.map Cel.key).getD (i + 1) ByteArray.empty) = true) from hall)
    clear hall hI HI
    have q0 := HJ.out.1.at 0 _ rfl
    have q1 := HJ.out.1.at 1 _ rfl
    have q2 := HJ.out.1.at 2 _ rfl
    by_cases hlt : k + 1 < cs.length
    · obtain ⟨ba, oa, ha, hba, hca⟩ := HA.out.r1.cell (Nat.lt_of_le_of_lt (Nat.zero_le _) hlt)
      simp only at ha
      subst ha
      obtain ⟨x0, x1, x2, x3⟩ := (hca k (Nat.lt_of_succ_lt hlt)).below HJ.out.2 hba
      obtain ⟨y0, y1, y2, y3⟩ := (hca (k + 1) hlt).below HJ.out.2 hba
      clear hca x1 x2 x3 y1 y2 y3
      simp only at x0 y0
      obtain ⟨x, HX⟩ : ∃ x, Is ((cs.map Cel.key).getD k ByteArray.empty) x := ⟨_, ⟨rfl⟩⟩
      obtain ⟨y, HY⟩ : ∃ y, Is ((cs.map Cel.key).getD (k + 1) ByteArray.empty) y := ⟨_, ⟨rfl⟩⟩
      rw [← map_key cs k (by omega), HX.eq] at x0
      rw [← map_key cs (k + 1) hlt, HY.eq] at y0
      have i1 : (k : Int) < (cs.length : Int) := by omega
      have i2 : (k : Int) + 1 < (cs.length : Int) := by omega
      have j0 : (0 : Int) ≤ (k : Int) := Int.natCast_nonneg _
      have j1 : (0 : Int) ≤ (k : Int) + 1 := by omega
      have e1 : ((k : Int) + 1).toNat = k + 1 := by omega
      have e2 : IntKind.i64.wrap ((k : Int) + 1) = (k : Int) + 1 := by rw [IntKind.wrap_i64] <;> omega
      have e3 : (k : Int) + 1 - 1 = (k : Int) := by omega
      have HYES : Hid (Sl.lt x y = true → ∀ i, i < k + 1 → Sl.lt ((cs.map Cel.key).getD i ByteArray.empty) ((cs.map Cel.key).getD (i + 1) ByteArray.empty) = true) := fun h i hi => by
        by_cases e : i = k
        · rw [e, HX.eq, HY.eq]; exact h
        · exact HALL.out i (by omega)
      clear HALL HX HY
      have HLQ : Is (Op.bytesLess y.toList x.toList || y.toList == x.toList) (!Sl.lt x y) := ⟨leq_of _ _⟩
      have h4 : (Op.bytesLess y.toList x.toList || y.toList == x.toList) = !Sl.lt x y := HLQ.eq
      have HNX : Hid (∀ n, Brow (wr.drewN n) w.heap.size [.bool lf, .slice (some ⟨ba, oa, none⟩) cs.length c1, .slice a2 ks.length c2, .slice a3 ds.length c3] 26 ∧ Below w.heap.size w (wr.drewN n)) := fun n => ⟨⟨HJ.out.1.row⟩, below_drewN HJ.out.2⟩
      generalize hq : Sl.lt x y = q at *
      clear hq HLQ
      generalize hz : Op.bytesLess y.toList x.toList = z1 at *
      generalize hz2 : (y.toList == x.toList) = z2 at *
      cases q with
      | true =>
        have HY2 := (show Hid _ from HYES.out rfl)
        simp only [Bool.not_true, Bool.or_eq_false_iff] at h4
        obtain ⟨rfl, rfl⟩ := h4
        go_wp2_with fail
        go_quiet (fail)
        go_wp2_with fail
        go_roundw
        case rel => exact ⟨k + 1, by omega, by go_num, HY2.out, HNX.out _⟩
        case measure => (simp [intOf]) <;> omega
      | false =>
        simp only [Bool.not_false] at h4
        go_wp2_with fail
        go_quiet (fail)
        go_wp2
        go_ret
        exact ⟨⟨false, rfl, fun h => (by cases h), (HNX.out _).2⟩⟩
    · have hkl : ¬ (k : Int) + 1 < (cs.length : Int) := by omega
      have HR1 := (show Hid (Sl.rise (cs.map Cel.key) = true) from rise_of (by rw [List.length_map]; omega) HALL.out)
      have HI : Hid (Brow wr w.heap.size [.bool lf, .slice a1 cs.length c1, .slice a2 ks.length c2, .slice a3 ds.length c3] 26 ∧ Below w.heap.size w wr) := HJ.out
      clear HJ HALL
      go_wp2_with fail
      clear q0 q1 q2 hkl hk hlt
      go_loopw [4] (fun s wr => ∃ k : Nat, k ≤ ks.length ∧ s = .int .i64 ((k : Int) + 1) ∧ (∀ i, i < k → Sl.lt (ks.getD i ByteArray.empty) (ks.getD (i + 1) ByteArray.empty) = true) ∧ Brow wr w.heap.size [.bool lf, .slice a1 cs.length c1, .slice a2 ks.length c2, .slice a3 ds.length c3] 26 ∧ Below w.heap.size w wr) (fun s _ => ks.length + 1 - (intOf s).toNat)
      case atStart => exact ⟨0, by omega, rfl, fun i hi => absurd hi (by omega), HI.out⟩
      case round =>
        obtain ⟨k, hk, rfl, hall, hI⟩ := hrel
        have HJ : Hid (Brow wr w.heap.size [.bool lf, .slice a1 cs.length c1, .slice a2 ks.length c2, .slice a3 ds.length c3] 26 ∧ Below w.heap.size w wr) := hI
        have HALL := (show Hid (∀ i, i < k → Sl.lt (ks.getD i ByteArray.empty) (ks.getD (i + 1) ByteArray.empty) = true) from hall)
        clear hall hI HI
        have q0 := HJ.out.1.at 0 _ rfl
        have q1 := HJ.out.1.at 1 _ rfl
        have q2 := HJ.out.1.at 2 _ rfl
        by_cases hlt : k + 1 < ks.length
        · obtain ⟨ba, oa, ha, hba, hca⟩ := HA.out.r2.keyAt (Nat.lt_of_le_of_lt (Nat.zero_le _) hlt)
          simp only at ha
          subst ha
          obtain ⟨x, HX⟩ : ∃ x, Is (ks.getD k ByteArray.empty) x := ⟨_, ⟨rfl⟩⟩
          obtain ⟨y, HY⟩ : ∃ y, Is (ks.getD (k + 1) ByteArray.empty) y := ⟨_, ⟨rfl⟩⟩
          have x0 := (HJ.out.2.cell (p := ⟨ba, oa + k, none⟩) hba).trans (hca k (Nat.lt_of_succ_lt hlt))
          have y0 := (HJ.out.2.cell (p := ⟨ba, oa + (k + 1), none⟩) hba).trans (hca (k + 1) hlt)
          rw [HX.eq] at x0
          rw [HY.eq] at y0
          clear hca
          have i1 : (k : Int) < (ks.length : Int) := by omega
          have i2 : (k : Int) + 1 < (ks.length : Int) := by omega
          have j0 : (0 : Int) ≤ (k : Int) := Int.natCast_nonneg _
          have j1 : (0 : Int) ≤ (k : Int) + 1 := by omega
          have e1 : ((k : Int) + 1).toNat = k + 1 := by omega
          have e2 : IntKind.i64.wrap ((k : Int) + 1) = (k : Int) + 1 := by rw [IntKind.wrap_i64] <;> omega
          have e3 : (k : Int) + 1 - 1 = (k : Int) := by omega
          have HYES : Hid (Sl.lt x y = true → ∀ i, i < k + 1 → Sl.lt (ks.getD i ByteArray.empty) (ks.getD (i + 1) ByteArray.empty) = true) := fun h i hi => by
            by_cases e : i = k
            · rw [e, HX.eq, HY.eq]; exact h
            · exact HALL.out i (by omega)
          clear HALL HX HY
          have HLQ : Is (Op.bytesLess y.toList x.toList || y.toList == x.toList) (!Sl.lt x y) := ⟨leq_of _ _⟩
          have h4 : (Op.bytesLess y.toList x.toList || y.toList == x.toList) = !Sl.lt x y := HLQ.eq
          have HNX : Hid (∀ n, Brow (wr.drewN n) w.heap.size [.bool lf, .slice a1 cs.length c1, .slice (some ⟨ba, oa, none⟩) ks.length c2, .slice a3 ds.length c3] 26 ∧ Below w.heap.size w (wr.drewN n)) := fun n => ⟨⟨HJ.out.1.row⟩, below_drewN HJ.out.2⟩
          generalize hq : Sl.lt x y = q at *
          clear hq HLQ
          generalize hz : Op.bytesLess y.toList x.toList = z1 at *
          generalize hz2 : (y.toList == x.toList) = z2 at *
          cases q with
          | true =>
            have HY2 := (show Hid _ from HYES.out rfl)
            simp only [Bool.not_true, Bool.or_eq_false_iff] at h4
            obtain ⟨rfl, rfl⟩ := h4
            go_wp2_with fail
            go_quiet (fail)
            go_wp2_with fail
            go_roundw
            case rel => exact ⟨k + 1, by omega, by go_num, HY2.out, HNX.out _⟩
            case measure => (simp [intOf]) <;> omega
          | false =>
            simp only [Bool.not_false] at h4
            go_wp2_with fail
            go_quiet (fail)
            go_wp2
            go_ret
            exact ⟨⟨false, rfl, fun h => (by cases h), (HNX.out _).2⟩⟩
        · have hkl : ¬ (k : Int) + 1 < (ks.length : Int) := by omega
          have HR2 := (show Hid (Sl.rise ks = true) from rise_of (by omega) HALL.out)
          have HI : Hid (Brow wr w.heap.size [.bool lf, .slice a1 cs.length c1, .slice a2 ks.length c2, .slice a3 ds.length c3] 26 ∧ Below w.heap.size w wr) := HJ.out
          clear HJ HALL
          go_wp2
          go_ret
          exact ⟨⟨true, rfl, fun _ => ⟨HR1.out, HR2.out⟩, HI.out.2⟩⟩
end Go.Proofs.Ytoinaplmgffkpaa
