/- Proved: the document's sure, Is and Split answer as the program's own. -/
import Derived.Test.YtbcmgcallidneaaGreatDoorRKd
namespace Go.Proofs.YtbcmgcallidneaaGreatDoor
open Go.RowKit
theorem own_mono {w : World} {N M n : Nat} {v : Value} {vs : List Value} {e : TypeId} {k : Nat} (h : w.ownsRow N e k v n vs) (hM : M ≤ N) : w.ownsRow M e k v n vs := by
  refine ⟨h.1, ?_⟩
  rcases h.2 with h2 | ⟨g, cap, cur, hv, hN, hr⟩
  · exact .inl h2
  · exact .inr ⟨g, cap, cur, hv, Nat.le_trans hM hN, hr⟩
set_option maxHeartbeats 1000000 in
set_option maxRecDepth 20000 in
theorem ris_any (s : ByteArray) (w : World) (hs : s.size ≤ 30000) :
    Calls Tryz.prog 62 #[.string s] w fun e w' => e = .returned (.bool (Pm.isP (bl s))) ∧ Below w.heap.size w w' := by
  have HC : Is (Pm.isP (bl s)) ((Pm.kind (bl s)).2 == 0) := ⟨rfl⟩
  have HKN : Hid (∀ W : World, Calls Tryz.prog 41 #[.string s] W fun e w' => e = .returned (.tuple #[.int .i64 ((Pm.kind (bl s)).1 : Nat), .int .i64 ((Pm.kind (bl s)).2 : Nat)]) ∧ Below W.heap.size W w') := fun W => rkind_any s W hs
  generalize (Pm.kind (bl s)).1 = k1 at *
  generalize (Pm.kind (bl s)).2 = k2 at *
  go_enter Tryz.func62, Tryz.ntmps62
  by_cases h0 : k2 = 0
  · subst h0
    go_wp2_with (first | (go_at_call 41; refine (HKN.out _).mono ?_; rintro e w1 ⟨rfl, hB1⟩))
    go_ret
    exact ⟨by rw [HC.eq]; rfl, hB1⟩
  · have h0' : (((k2 : Nat) : Int) == 0) = false := by simp only [beq_eq_false_iff_ne, ne_eq]; omega
    have h0'' : (k2 == 0) = false := by simp only [beq_eq_false_iff_ne, ne_eq]; omega
    rw [h0''] at HC
    clear h0 h0''
    go_wp2_with (first | (go_at_call 41; refine (HKN.out _).mono ?_; rintro e w1 ⟨rfl, hB1⟩))
    go_ret
    exact ⟨by rw [HC.eq]; rfl, hB1⟩
set_option maxHeartbeats 1000000 in
set_option maxRecDepth 20000 in
theorem rsplit_any (s : ByteArray) (w : World) (hs : s.size ≤ 30000) :
    Calls Tryz.prog 92 #[.string s] w fun e w' => ∃ v, e = .returned v ∧ w'.ownsRow w.heap.size 9 1 v (Pm.split (bl s)).length (scells (Pm.split (bl s))) ∧ Below w.heap.size w w' := by
  rcases Pm.cases_isP (bl s) with h0 | hn | hp
  · obtain rfl : s = ⟨#[]⟩ := bl_inj h0
    have HI : Hid (Calls Tryz.prog 62 #[.string ⟨#[]⟩] w fun e w' => e = .returned (.bool true) ∧ Below w.heap.size w w') := ris_any ⟨#[]⟩ w hs
    go_enter Tryz.func92, Tryz.ntmps92
    go_wp2_with (first | (go_at_call 62; refine (show Calls _ _ _ _ _ from HI.out).mono ?_; rintro e w1 ⟨rfl, hB1⟩))
    go_ret
    exact ⟨_, rfl, ⟨rfl, .inl ⟨rfl, rfl⟩⟩, hB1⟩
  · have HI : Hid (Calls Tryz.prog 62 #[.string s] w fun e w' => e = .returned (.bool false) ∧ Below w.heap.size w w') := by
      have h := ris_any s w hs
      rw [hn] at h; exact h
    have HP : Is (Pm.split (bl s)) [] := ⟨Pm.split_no hn⟩
    clear hn
    go_enter Tryz.func92, Tryz.ntmps92
    go_wp2_with (first | (go_at_call 62; refine (show Calls _ _ _ _ _ from HI.out).mono ?_; rintro e w1 ⟨rfl, hB1⟩))
    go_ret
    rw [HP.eq]
    exact ⟨_, rfl, ⟨rfl, .inl ⟨rfl, rfl⟩⟩, hB1⟩
  · have HI : Hid (Calls Tryz.prog 62 #[.string s] w fun e w' => e = .returned (.bool true) ∧ Below w.heap.size w w') := by
      have h := ris_any s w hs
      rw [(Pm.isP_iff _).2 (.inr hp)] at h; exact h
    have hte : s.toList.isEmpty = false := te_bl hp.ne
    have HP : Is (Pm.split (bl s)) (Pm.names (bl s)) := ⟨Pm.split_path hp⟩
    have HSP := (show Hid (∀ W : World, Calls Tryz.prog 59 #[.string s] W fun e w' => ∃ v, e = .returned v ∧ w'.ownsRow W.heap.size 9 1 v (Pm.names (bl s)).length (scells (Pm.names (bl s))) ∧ Below W.heap.size W w') from fun W => rnames_any s W hs)
    clear hp
    go_enter Tryz.func92, Tryz.ntmps92
    go_wp2_with fail
    refine (show Calls _ _ _ _ _ from HI.out).mono ?_
    rintro e w1 ⟨rfl, hB1⟩
    have HB1 : Hid (Below w.heap.size w w1) := hB1
    have hz1 := hB1.size
    clear hB1
    go_wp2_with fail
    refine (HSP.out _).mono ?_
    rintro e w2 ⟨v, rfl, ho, hB2⟩
    have HO : Hid (w2.ownsRow w1.heap.size 9 1 v (Pm.names (bl s)).length (scells (Pm.names (bl s)))) := ho
    have HB2 : Hid (Below w.heap.size w w2) := HB1.out.trans (hB2.mono hz1)
    clear ho hB2
    go_wp2_with fail
    go_ret
    rw [HP.eq]
    exact ⟨v, rfl, own_mono HO.out hz1, HB2.out⟩
end Go.Proofs.YtbcmgcallidneaaGreatDoor
