/- Proved: Parent, Name and Split answer a path's directory, last name and names. -/
import Derived.Test.YtbcmgcallidneaaGreatDoorOwn
namespace Go.Proofs.YtbcmgcallidneaaGreatDoor
open Go.RowKit
theorem wrapN (k : Nat) (h : k ≤ 9223372036854775807) : IntKind.i64.wrap (k : Int) = (k : Int) := by rw [IntKind.wrap_i64]; omega
theorem last_root : Pm.last [] = [] := by decide
theorem last_no {p : Pm.T} (h : Pm.isP p = false) : Pm.last p = [] := by rw [Pm.last, if_neg (by rw [h]; decide)]
theorem extract_nil (s : ByteArray) : s.extract 0 0 = ⟨#[]⟩ := bl_inj (by rw [bl, Lib.extract_from_zero, List.take_zero])
theorem extract_head {s : ByteArray} {a b : Pm.T} (e : bl s = a ++ b) : s.extract 0 a.length = mk a := bl_inj (by rw [bl, Lib.extract_from_zero]; show (bl s).take _ = a; rw [e]; simp)
theorem extract_tail {s : ByteArray} {a b : Pm.T} {k : Nat} (e : bl s = a ++ b) (hk : k = a.length) : s.extract k s.size = mk b := bl_inj (by subst hk; rw [bl, Lib.extract_to_end]; show (bl s).drop _ = b; rw [e]; simp)
theorem extract_all (s : ByteArray) : s.extract 0 s.size = s := bl_inj (by rw [bl, Lib.extract_to_end]; rfl)
set_option maxHeartbeats 2000000 in
set_option maxRecDepth 20000 in
theorem parent_any (s : ByteArray) (w : World) (hs : s.size < 4294967281) (hT : Tab w) :
    Calls Tryz.prog 103 #[.string s] w fun e w' => e = .returned (.tuple #[.string (mk ((Pm.parent (bl s)).getD [])), .bool (Pm.parent (bl s)).isSome]) ∧ Below w.heap.size w w' := by
  have HT : Hid (Tab w) := hT
  clear hT
  rcases Pm.cases_isP (bl s) with h0 | hn | hp
  · obtain rfl : s = ⟨#[]⟩ := bl_inj h0
    go_enter Tryz.func103, Tryz.ntmps103
    go_wp2
    go_ret2
    exact ⟨rfl, Below.refl _ _⟩
  · have HI : Hid (Calls Tryz.prog 110 #[.string s] w fun e w' => e = .returned (.bool false) ∧ Below w.heap.size w w') := by
      have h := isPath_any s w hs HT.out
      rw [hn] at h; exact h
    have HP : Is (Pm.parent (bl s)) none := ⟨Pm.parent_no hn⟩
    have hte : s.toList.isEmpty = false := te_bl (fun e => by rw [e, Pm.isP_root] at hn; cases hn)
    clear hn
    go_enter Tryz.func103, Tryz.ntmps103
    go_wp2_with (first | (go_at_call 110; refine (show Calls _ _ _ _ _ from HI.out).mono ?_; rintro e w1 ⟨rfl, hB1⟩))
    go_ret2
    exact ⟨by rw [HP.eq]; rfl, hB1⟩
  · have HI : Hid (Calls Tryz.prog 110 #[.string s] w fun e w' => e = .returned (.bool true) ∧ Below w.heap.size w w') := by
      have h := isPath_any s w hs HT.out
      rw [(Pm.isP_iff _).2 (.inr hp)] at h; exact h
    have hte : s.toList.isEmpty = false := te_bl hp.ne
    obtain ⟨d, q, hl, hq, hd, HP⟩ : ∃ (d : Nat) (q : Pm.T), max 0 (Lib.lastIndexByte s 47) = (d : Int) ∧ s.extract 0 d = mk q ∧ d ≤ s.size ∧ Is (Pm.parent (bl s)) (some q) := by
      rcases Pm.parent_cut hp with ⟨h1, h2, _⟩ | ⟨a, b, h1, h2, h3, _⟩
      · refine ⟨0, [], ?_, extract_nil s, Nat.zero_le _, ⟨h2⟩⟩
        have := Pm.lastIdx_free s 47 h1
        rw [show Lib.lastIndexByte s 47 = -1 from this]; rfl
      · refine ⟨a.length, a, ?_, extract_head h1, ?_, ⟨h3⟩⟩
        · have := Pm.lastIdx_at s 47 a b h1 h2
          rw [show Lib.lastIndexByte s 47 = (a.length : Int) from this]; omega
        · rw [← bl_length s, h1]; simp
    have HL : Hid (∀ W : World, Calls Tryz.prog 111 #[.string s, .int .u8 47] W fun e w' => e = .returned (.int .i64 (Lib.lastIndexByte s 47)) ∧ w' = W) := fun W => Tryz.strings_LastIndexByte s 47 (by omega) W
    have HQ : Is (s.extract 0 d) (mk q) := ⟨hq⟩
    have i1 : (d : Int) ≤ (s.size : Int) := by omega
    have i2 : (0 : Int) ≤ (d : Int) := by omega
    clear hp hq
    generalize Lib.lastIndexByte s 47 = li at *
    go_enter Tryz.func103, Tryz.ntmps103
    go_wp2_with (first | (go_at_call 110; refine (show Calls _ _ _ _ _ from HI.out).mono ?_; rintro e w1 ⟨rfl, hB1⟩) | (go_at_call 111; refine (HL.out _).mono ?_; rintro e w2 ⟨rfl, rfl⟩))
    go_ret2
    exact ⟨by rw [HP.eq, Option.getD_some, ← HQ.eq]; rfl, hB1⟩
theorem owns_new (w : World) (N : Nat) (l : List Pm.T) (hl : l.length ≤ 9223372036854775807) (hN : N ≤ w.heap.size) : (w.alloc (.cells (scells l).toArray 9)).ownsRow N 9 1 (.slice (some ⟨w.heap.size, 0, none⟩) l.length l.length) l.length (scells l) :=
  ⟨by simp [scells], .inr ⟨w.heap.size, l.length, _, rfl, hN, heap_alloc_new w _, Nat.le_refl _, by unfold maxLen; omega, by simp [scells], by rw [List.take_of_length_le (by simp [scells])]⟩⟩
end Go.Proofs.YtbcmgcallidneaaGreatDoor
