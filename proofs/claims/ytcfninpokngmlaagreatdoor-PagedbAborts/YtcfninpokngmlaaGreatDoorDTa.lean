/- Proved: what a transaction's SetRoot, unlink and Alloc make of it. -/
import Derived.Test.YtcfninpokngmlaaGreatDoorDTv
namespace Go.Proofs.YtcfninpokngmlaaGreatDoor
open Go.RowKit
def setrootR (i n : Int) : Int := if isR i = false ∨ n < 0 ∨ 2147483647 < n then 2 else 0
def rootSt (s : Pd.Stt) (i : Nat) (n : Nat) : Pd.Stt := match i with
  | 0 => { s with r0 := n }
  | 1 => { s with r1 := n }
  | 2 => { s with r2 := n }
  | _ => { s with r3 := n }
def rootU (u : Pd.Tx) (R i n : Int) : Pd.Tx := if R = 0 then { st := rootSt u.st i.toNat n.toNat, m := Pd.set u.m 0 (rootSt u.st i.toNat n.toNat).sheet, sp := u.sp } else u
section
variable (A : Ad) (t bt : Nat) (d : Pd.Db) (u : Pd.Tx) (w : World)
set_option maxHeartbeats 4000000 in
set_option maxRecDepth 100000 in
theorem tsetroot_any (i n : Int) (H : Txw w A t bt d u) (hF : Fits d) (hl : u.m.length ≤ 90000) :
    Calls Tryz.prog 32 #[ptr t, .int .i64 i, .int .i64 n] w (TDoes w A t bt d (rootU u (setrootR i n) i n) (setrootR i n)) := by
  have HRE : Hid (Calls Tryz.prog 62 #[.pointer (some ⟨t, 0, none⟩)] w fun e w' => e = .returned (.int .i64 0) ∧ w' = w) := tready_ok A t bt d u w H hF.lost
  have HIS : Hid (Calls Tryz.prog 52 #[.int .i64 i] w fun e w' => e = .returned (.bool (isR i)) ∧ w' = w) := isroot_any i w
  have HH : Hid (Txw w A t bt d u) := H
  clear H
  have HRR : Hid (setrootR i n = if isR i = false ∨ n < 0 ∨ 2147483647 < n then 2 else 0) := rfl
  have HRU : Hid (∀ R, rootU u R i n = if R = 0 then { st := rootSt u.st i.toNat n.toNat, m := Pd.set u.m 0 (rootSt u.st i.toNat n.toNat).sheet, sp := u.sp } else u) := fun _ => rfl
  generalize hr : setrootR i n = R at *
  clear hr
  unfold ptr
  by_cases h1 : isR i = false
  · have HFN : Hid (TDoes w A t bt d (rootU u R i n) R (.returned (.int .i64 2)) w) := by
      rw [if_pos (.inl h1)] at HRR
      rw [HRU.out, HRR.out, if_neg (by decide)]
      exact ⟨rfl, HH.out, Turn.refl _ _⟩
    rw [h1] at HIS
    go_enter Tryz.func32, Tryz.ntmps32
    go_wp2_with (first | (go_at_call 62; refine HRE.out.mono ?_; rintro e w' ⟨rfl, rfl⟩) | (go_at_call 52; refine HIS.out.mono ?_; rintro e w' ⟨rfl, rfl⟩))
    go_ret
    exact HFN.out
  · have h1' : isR i = true := by simpa using h1
    rw [h1'] at HIS
    have hi : i = 0 ∨ i = 1 ∨ i = 2 ∨ i = 3 := by
      unfold isR at h1'
      simp at h1'
      omega
    by_cases h2 : n < 0
    · have d2 : decide (n < 0) = true := decide_eq_true h2
      have HFN : Hid (TDoes w A t bt d (rootU u R i n) R (.returned (.int .i64 2)) w) := by
        rw [if_pos (.inr (.inl h2))] at HRR
        rw [HRU.out, HRR.out, if_neg (by decide)]
        exact ⟨rfl, HH.out, Turn.refl _ _⟩
      clear h1 h1' hi
      go_enter Tryz.func32, Tryz.ntmps32
      go_wp2_with (first | (go_at_call 62; refine HRE.out.mono ?_; rintro e w' ⟨rfl, rfl⟩) | (go_at_call 52; refine HIS.out.mono ?_; rintro e w' ⟨rfl, rfl⟩))
      go_ret
      exact HFN.out
    · have d2 : decide (n < 0) = false := decide_eq_false h2
      by_cases h3 : 2147483647 < n
      · have d3 : decide (2147483647 < n) = true := decide_eq_true h3
        have HFN : Hid (TDoes w A t bt d (rootU u R i n) R (.returned (.int .i64 2)) w) := by
          rw [if_pos (.inr (.inr h3))] at HRR
          rw [HRU.out, HRR.out, if_neg (by decide)]
          exact ⟨rfl, HH.out, Turn.refl _ _⟩
        clear h1 h1' hi
        go_enter Tryz.func32, Tryz.ntmps32
        go_wp2_with (first | (go_at_call 62; refine HRE.out.mono ?_; rintro e w' ⟨rfl, rfl⟩) | (go_at_call 52; refine HIS.out.mono ?_; rintro e w' ⟨rfl, rfl⟩))
        go_ret
        exact HFN.out
      · have d3 : decide (2147483647 < n) = false := decide_eq_false h3
        rw [if_neg (by rw [h1']; rintro (h | h | h) <;> simp_all)] at HRR
        have HN : Hid (∀ w1, Turn (tft A t bt) (tft A t bt) w w1 → Txw w1 A t bt d { u with st := rootSt u.st i.toNat n.toNat } → Calls Tryz.prog 64 #[.pointer (some ⟨t, 0, none⟩)] w1 fun e w' => e = .returned (.tuple #[]) ∧ TDoes w A t bt d (rootU u R i n) R (.returned (.int .i64 0)) w') := fun w1 hT1 hX1 => by
          refine (mark_any A t bt d _ w1 hX1 (by show u.m.length ≤ _; omega)).mono ?_
          rintro e w2 ⟨rfl, hX2, hT2⟩
          refine ⟨rfl, ?_⟩
          rw [HRU.out, HRR.out, if_pos rfl]
          exact ⟨rfl, hX2, hT1.trans hT2⟩
        obtain ⟨nn, rfl⟩ := Int.eq_ofNat_of_zero_le (show 0 ≤ n by omega)
        rw [Int.toNat_natCast] at HN
        have c4 := HH.out.c4
        have c5 := HH.out.c5
        have c6 := HH.out.c6
        have c7 := HH.out.c7
        have f4 := HH.out.fz 4
        have f5 := HH.out.fz 5
        have f6 := HH.out.fz 6
        have f7 := HH.out.fz 7
        clear h1 h1' HRR HRU
        rcases hi with rfl | rfl | rfl | rfl
        · obtain ⟨y1, y2⟩ := HH.out.set (u' := { u with st := rootSt u.st 0 nn }) 4 (.int .i64 (nn : Int)) rfl rfl
          have HM := (show Hid _ from HN.out _ y2 y1)
          clear y1 y2 HN
          go_enter Tryz.func32, Tryz.ntmps32
          go_wp2_with (first | (go_at_call 62; refine HRE.out.mono ?_; rintro e w' ⟨rfl, rfl⟩) | (go_at_call 52; refine HIS.out.mono ?_; rintro e w' ⟨rfl, rfl⟩) | (go_at_call 64; refine (show Calls _ _ _ _ _ from HM.out).mono ?_; rintro e w' ⟨rfl, hFN⟩))
          go_ret
          exact hFN
        · obtain ⟨y1, y2⟩ := HH.out.set (u' := { u with st := rootSt u.st 1 nn }) 5 (.int .i64 (nn : Int)) rfl rfl
          have HM := (show Hid _ from HN.out _ y2 y1)
          clear y1 y2 HN
          go_enter Tryz.func32, Tryz.ntmps32
          go_wp2_with (first | (go_at_call 62; refine HRE.out.mono ?_; rintro e w' ⟨rfl, rfl⟩) | (go_at_call 52; refine HIS.out.mono ?_; rintro e w' ⟨rfl, rfl⟩) | (go_at_call 64; refine (show Calls _ _ _ _ _ from HM.out).mono ?_; rintro e w' ⟨rfl, hFN⟩))
          go_ret
          exact hFN
        · obtain ⟨y1, y2⟩ := HH.out.set (u' := { u with st := rootSt u.st 2 nn }) 6 (.int .i64 (nn : Int)) rfl rfl
          have HM := (show Hid _ from HN.out _ y2 y1)
          clear y1 y2 HN
          go_enter Tryz.func32, Tryz.ntmps32
          go_wp2_with (first | (go_at_call 62; refine HRE.out.mono ?_; rintro e w' ⟨rfl, rfl⟩) | (go_at_call 52; refine HIS.out.mono ?_; rintro e w' ⟨rfl, rfl⟩) | (go_at_call 64; refine (show Calls _ _ _ _ _ from HM.out).mono ?_; rintro e w' ⟨rfl, hFN⟩))
          go_ret
          exact hFN
        · obtain ⟨y1, y2⟩ := HH.out.set (u' := { u with st := rootSt u.st 3 nn }) 7 (.int .i64 (nn : Int)) rfl rfl
          have HM := (show Hid _ from HN.out _ y2 y1)
          clear y1 y2 HN
          go_enter Tryz.func32, Tryz.ntmps32
          go_wp2_with (first | (go_at_call 62; refine HRE.out.mono ?_; rintro e w' ⟨rfl, rfl⟩) | (go_at_call 52; refine HIS.out.mono ?_; rintro e w' ⟨rfl, rfl⟩) | (go_at_call 64; refine (show Calls _ _ _ _ _ from HM.out).mono ?_; rintro e w' ⟨rfl, hFN⟩))
          go_ret
          exact hFN
end
end Go.Proofs.YtcfninpokngmlaaGreatDoor
