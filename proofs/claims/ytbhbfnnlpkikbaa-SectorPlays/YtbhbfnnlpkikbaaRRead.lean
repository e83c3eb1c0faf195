/- Proved: what the document's filled and Read answer. -/
import Derived.Test.YtbhbfnnlpkikbaaRBase
import Derived.Laws.Concat
namespace Go.Proofs.Ytbhbfnnlpkikbaa
open Go.RowKit
def pad (x : ByteArray) (k : Nat) : ByteArray := ⟨(x.data.toList ++ List.replicate k 0).toArray⟩
theorem pad_list (x : ByteArray) (k : Nat) : (pad x k).data.toList = x.data.toList ++ List.replicate k 0 := by simp [pad]
theorem pad_size (x : ByteArray) (k : Nat) : (pad x k).size = x.size + k := by
  rw [Sc.size_eq, pad_list, List.length_append, List.length_replicate, ← Sc.size_eq]
theorem pad_zero (x : ByteArray) : pad x 0 = x := by
  apply ByteArray.ext
  apply Array.ext'
  rw [pad_list]
  simp
theorem pad_next (x : ByteArray) (k : Nat) : pad x k ++ ⟨#[0]⟩ = pad x (k + 1) := by
  apply ByteArray.ext
  apply Array.ext'
  rw [ByteArray.data_append, Array.toList_append, pad_list, pad_list, List.replicate_succ', List.append_assoc]
theorem pad_fill (x : ByteArray) : pad x (64 - x.size) = Sc.fill x := rfl
set_option maxHeartbeats 1000000 in
theorem rfilled_any (x : ByteArray) (w : World) (hx : x.size ≤ 64) :
    Calls Try.prog 27 #[.string x] w fun e w' => e = .returned (.string (Sc.fill x)) ∧ w' = w := by
  go_enter Try.func27, Try.ntmps27
  go_wp2_with fail
  go_loopw [0] (fun s0 wr => ∃ k : Nat, k ≤ 64 - x.size ∧ s0 = .string (pad x k) ∧ wr = w) (fun s0 _ => match s0 with | .string y => 64 - y.size | _ => 0)
  case atStart => exact ⟨0, by omega, by rw [pad_zero], rfl⟩
  case round =>
    obtain ⟨k, hk, rfl, hwr⟩ := hrel
    subst hwr
    have hz := pad_size x k
    by_cases hkl : k < 64 - x.size
    · have hl : (pad x k).size < 64 := by omega
      have dk : decide (((pad x k).size : Int) < 64) = true := by simp; omega
      have A1 : ∀ W : World, (Op.stringOp .add (pad x k) ⟨#[0]⟩).run Try.prog W = .ok (.string (pad x (k + 1))) W := fun W => by
        have := run_string_add_sum (P := Try.prog) W (pad x k) ⟨#[0]⟩ (by rw [hz]; show _ + 1 ≤ _; omega)
        rwa [pad_next] at this
      have hz2 := pad_size x (k + 1)
      have HFN : ∃ k' : Nat, k' ≤ 64 - x.size ∧ Value.string (pad x (k + 1)) = .string (pad x k') := ⟨k + 1, by omega, rfl⟩
      generalize pad x k = y at *
      generalize pad x (k + 1) = z at *
      go_wp2
      go_roundw
      case rel =>
        obtain ⟨k', h1, h2⟩ := HFN
        exact ⟨k', h1, h2, trivial⟩
      case measure =>
        simp
        omega
    · have hke : k = 64 - x.size := by omega
      have HE : Hid (pad x k = Sc.fill x) := by rw [hke]; exact pad_fill x
      have hl : ¬ (pad x k).size < 64 := by omega
      generalize pad x k = y at *
      go_wp2
      go_ret
      exact ⟨by rw [← HE.out]; rfl, rfl⟩
set_option maxHeartbeats 2000000 in
set_option maxRecDepth 20000 in
theorem rread_any (h : Nat) (vk vp : Value) (s : Sc.St) (i : Int) (w : World) (H : Rk w h vk vp s) :
    Calls Try.prog 16 #[ptr h, .int .i64 i] w fun e w' => e = .returned (.tuple #[.string (Sc.readV s i), .int .i64 (Sc.readE s i)]) ∧ w' = w := by
  have c0 := H.c0
  have c1 := H.c1
  have c2 := H.c2
  obtain ⟨kg, kcap, hkv, hkc1, hkc2, hkr⟩ := H.kval
  obtain ⟨pa, pcap, hpv, hpc1, hpc2, hpr⟩ := H.pval
  rw [hkv] at c0
  rw [hpv] at c1
  have HKR : Hid (∀ i, i < s.kept.length → w.cell? ⟨kg, i, none⟩ = some (.string (s.kept.getD i Sc.zero64)) ∧ w.frozen? ⟨kg, i, none⟩ = false) := hkr
  have HPR : Hid (0 < s.pend.length → ∃ g, pa = some ⟨g, 0, none⟩ ∧ vp.ownBlock = some g ∧ ∀ i p, s.pend[i]? = some p → w.cell? ⟨g, i * 2, none⟩ = some (.int .i64 (p.1 : Int)) ∧ w.cell? ⟨g, i * 2 + 1, none⟩ = some (.string p.2)) := hpr
  have hpm : s.pend.length ≤ 9223372036854775807 := Nat.le_trans hpc1 hpc2
  clear H hkv hpv hkr hpr
  unfold Sc.readV Sc.readE
  cases hd : s.down
  · rw [hd] at c2
    simp only [Bool.false_eq_true, if_false]
    cases hh : Sc.has s i
    · simp only [if_true]
      by_cases h0 : i < 0
      · have d0 : decide (i < 0) = true := by simpa using h0
        go_enter Try.func16, Try.ntmps16
        go_wp2
        go_ret2
        exact ⟨rfl, rfl⟩
      · have d0 : decide (i < 0) = false := by simpa using h0
        have d1 : decide ((s.kept.length : Int) ≤ i) = true := by
          have : ¬ (0 ≤ i ∧ i < (s.kept.length : Int)) := fun h => by rw [Sc.has_iff.2 h] at hh; cases hh
          simp
          omega
        go_enter Try.func16, Try.ntmps16
        go_wp2
        go_ret2
        exact ⟨rfl, rfl⟩
    · simp only [Bool.true_eq_false, if_false]
      obtain ⟨j, rfl⟩ : ∃ j : Nat, i = (j : Int) := ⟨i.toNat, by have := (Sc.has_iff.1 hh).1; omega⟩
      have hj : j < s.kept.length := by have := (Sc.has_iff.1 hh).2; omega
      rw [Int.toNat_natCast]
      have d0 : decide ((j : Int) < 0) = false := by simp
      have d1 : decide ((s.kept.length : Int) ≤ (j : Int)) = false := by simp; omega
      have j0 : (0 : Int) ≤ (j : Int) := by omega
      have j1 : (j : Int) < (s.kept.length : Int) := by omega
      have ck := (HKR.out j hj).1
      have HNOW : Hid (Sc.now s j = Sc.last j s.pend (s.kept.getD j Sc.zero64)) := rfl
      clear HKR
      generalize s.kept.getD j Sc.zero64 = z0 at *
      go_enter Try.func16, Try.ntmps16
      go_wp2_with fail
      go_loopw [6, 7] (fun s6 s7 wr => ∃ k : Nat, k ≤ s.pend.length ∧ s7 = .int .i64 (k : Int) ∧ s6 = .string (Sc.last j (s.pend.take k) z0) ∧ wr = w) (fun _ s7 _ => s.pend.length - (intOf s7).toNat)
      case atStart => exact ⟨0, by omega, rfl, rfl, rfl⟩
      case round =>
        obtain ⟨k, hk, rfl, rfl, hwr⟩ := hrel
        subst hwr
        by_cases hkl : k < s.pend.length
        · have dk : decide ((k : Int) < (s.pend.length : Int)) = true := by simp; omega
          obtain ⟨pg, rfl, _, hpp⟩ := HPR.out (by omega)
          obtain ⟨p, hp⟩ : ∃ p, s.pend[k]? = some p := ⟨_, List.getElem?_eq_getElem hkl⟩
          obtain ⟨q0, q1⟩ := hpp k p hp
          have k0 : (0 : Int) ≤ (k : Int) := by omega
          have k1 : (k : Int) < (s.pend.length : Int) := by omega
          have HL : Hid (Sc.last j (s.pend.take (k + 1)) z0 = if p.1 = j then p.2 else Sc.last j (s.pend.take k) z0) := by
            show _ = _
            rw [List.take_succ_eq_append_getElem hkl, Sc.last_snoc, ← (List.getElem?_eq_some_iff.1 hp).2]
          clear hpp hp
          by_cases he : p.1 = j
          · have hb : ((p.1 : Int) == (j : Int)) = true := by simp [he]
            have HFN : ∃ k' : Nat, k' ≤ s.pend.length ∧ Value.int .i64 ((k : Int) + 1) = .int .i64 (k' : Int) ∧ Value.string p.2 = .string (Sc.last j (s.pend.take k') z0) := ⟨k + 1, by omega, by go_num, by rw [HL.out, if_pos he]⟩
            generalize Sc.last j (s.pend.take k) z0 = y at *
            clear he
            go_wp2
            go_roundw
            case rel =>
              obtain ⟨k', h1, h2, h3⟩ := HFN
              exact ⟨k', h1, h2, h3, trivial⟩
            case measure => (simp [intOf]) <;> omega
          · have hb : ((p.1 : Int) == (j : Int)) = false := by simp; omega
            have HFN : ∃ k' : Nat, k' ≤ s.pend.length ∧ Value.int .i64 ((k : Int) + 1) = .int .i64 (k' : Int) ∧ Value.string (Sc.last j (s.pend.take k) z0) = .string (Sc.last j (s.pend.take k') z0) := ⟨k + 1, by omega, by go_num, by rw [HL.out, if_neg he]⟩
            generalize Sc.last j (s.pend.take k) z0 = y at *
            clear he
            go_wp2
            go_roundw
            case rel =>
              obtain ⟨k', h1, h2, h3⟩ := HFN
              exact ⟨k', h1, h2, h3, trivial⟩
            case measure => (simp [intOf]) <;> omega
        · have hke : k = s.pend.length := by omega
          have HE : Hid (Sc.last j (s.pend.take k) z0 = Sc.now s j) := by rw [hke, List.take_length]; exact HNOW.out.symm
          generalize Sc.last j (s.pend.take k) z0 = y at *
          clear hke
          go_wp2
          go_ret2
          exact ⟨by rw [← HE.out]; rfl, rfl⟩
  · rw [hd] at c2
    simp only [if_true]
    go_enter Try.func16, Try.ntmps16
    go_wp2
    go_ret2
    exact ⟨rfl, rfl⟩
end Go.Proofs.Ytbhbfnnlpkikbaa
