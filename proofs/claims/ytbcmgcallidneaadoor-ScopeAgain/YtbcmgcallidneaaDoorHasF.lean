/- Proved: ContainsFunc, Has, Covers and within answer what lies in a list. -/
import Derived.Test.YtbcmgcallidneaaDoorHold
namespace Go.Proofs.YtbcmgcallidneaaDoor
open Go.RowKit
set_option maxHeartbeats 1000000 in
theorem contains_any (ad : Option Addr) (c : Nat) (l : List Pm.T) (p : ByteArray) (B : Nat) (w : World) (hA : TxtA w ad l) (hb : w.cell? ⟨B, 0, none⟩ = some (.string p)) (hl : l.length ≤ 1000000) (hp : p.size < 4294967281) (hT : Tab w) :
    Calls Tryd.prog 20 #[.slice ad l.length c, .func (.func 21) #[] #[.pointer (some ⟨B, 0, none⟩)]] w fun e w' => e = .returned (.bool (l.any (Sm.lies · (bl p)))) ∧ Below w.heap.size w w' := by
  have HI : Hid (Calls Tryd.prog 35 #[.slice ad l.length c, .func (.func 21) #[] #[.pointer (some ⟨B, 0, none⟩)]] w fun e w' => ∃ r : Int, e = .returned (.int .i64 r) ∧ decide (0 ≤ r) = l.any (Sm.lies · (bl p)) ∧ Below w.heap.size w w') := index_any ad c l p B w hA hb hl hp hT
  clear hA hb hT hl hp
  generalize l.any (Sm.lies · (bl p)) = r at *
  generalize l.length = n at *
  go_enter Tryd.func20, Tryd.ntmps20
  go_wp2_with (first | (go_at_call 35; refine (show Calls _ _ _ _ _ from HI.out).mono ?_; rintro e w1 ⟨x, rfl, hx, hB1⟩))
  go_ret
  exact ⟨by rw [← hx]; rfl, hB1⟩
set_option maxHeartbeats 1000000 in
set_option maxRecDepth 20000 in
theorem has_any (ad : Option Addr) (c : Nat) (l : List Pm.T) (p : ByteArray) (w : World) (hA : TxtA w ad l) (hl : l.length ≤ 1000000) (hp : p.size < 4294967281) (hT : Tab w) :
    Calls Tryd.prog 7 #[.slice ad l.length c, .string p] w fun e w' => e = .returned (.bool (Sm.has l (bl p))) ∧ Below w.heap.size w w' := by
  have hmf : ∀ (fn : Fn) (first cap : Array Value) (w : World), (Instr.makeFunc fn first cap).run Tryd.prog w = .ok (.func fn first cap) w := fun _ _ _ _ => rfl
  obtain ⟨W0, hW0⟩ : ∃ W0, w.alloc (.cells #[.string p] 9) = W0 := ⟨_, rfl⟩
  have HB0 : Hid (Below w.heap.size w W0) := by rw [← hW0]; exact (Below.refl _ w).alloc (Nat.le_refl _) _
  have hcell : W0.cell? ⟨w.heap.size, 0, none⟩ = some (.string p) := by rw [← hW0]; simp
  have HT : Hid (Tab W0) := hT.below HB0.out
  have HZ : Hid (w.heap.size ≤ W0.heap.size) := HB0.out.size
  have HK : Hid (∀ W : World, Tab W → Calls Tryd.prog 19 #[.string p] W fun e w' => e = .returned (.tuple #[.int .i64 ((Pm.kind (bl p)).1 : Nat), .int .i64 ((Pm.kind (bl p)).2 : Nat)]) ∧ Below W.heap.size W w') := fun W hW => kind_any p W hp hW
  have HC : Hid (∀ W : World, Below W0.heap.size W0 W → Calls Tryd.prog 20 #[.slice ad l.length c, .func (.func 21) #[] #[.pointer (some ⟨w.heap.size, 0, none⟩)]] W fun e w' => e = .returned (.bool (l.any (Sm.lies · (bl p)))) ∧ Below W.heap.size W w') :=
    fun W hB => contains_any ad c l p w.heap.size W ((hA.below HB0.out).below hB) ((hB.cell (p := ⟨w.heap.size, 0, none⟩) (block_lt_of_cell hcell)).trans hcell) hl hp (HT.out.below hB)
  have HR : Is (Sm.has l (bl p)) (((Pm.kind (bl p)).2 == 0) && l.any (Sm.lies · (bl p))) := ⟨rfl⟩
  clear hA hT hl hp
  generalize l.any (Sm.lies · (bl p)) = r at *
  generalize (Pm.kind (bl p)).1 = k1 at *
  generalize (Pm.kind (bl p)).2 = k2 at *
  generalize l.length = n at *
  by_cases h0 : k2 = 0
  · subst h0
    go_enter Tryd.func7, Tryd.ntmps7
    go_wp2_with (first
      | (go_at_call 19; refine (HK.out W0 HT.out).mono ?_; rintro e w1 ⟨rfl, hB1⟩)
      | (go_at_call 20; refine (HC.out _ hB1).mono ?_; rintro e w2 ⟨rfl, hB2⟩))
    go_ret
    exact ⟨by rw [HR.eq]; rfl, (HB0.out.trans (hB1.mono HZ.out)).trans (hB2.mono (Nat.le_trans HZ.out hB1.size))⟩
  · have h0' : ¬ ((k2 : Nat) : Int) = 0 := by omega
    have h0b : (((k2 : Nat) : Int) == 0) = false := by simp only [beq_eq_false_iff_ne, ne_eq]; exact h0'
    have HR2 : Is (Sm.has l (bl p)) false := ⟨by rw [HR.eq, show (k2 == 0) = false by simp only [beq_eq_false_iff_ne, ne_eq]; exact h0, Bool.false_and]⟩
    go_enter Tryd.func7, Tryd.ntmps7
    go_wp2_with (first
      | (go_at_call 19; refine (HK.out W0 HT.out).mono ?_; rintro e w1 ⟨rfl, hB1⟩))
    go_ret
    exact ⟨by rw [HR2.eq]; rfl, HB0.out.trans (hB1.mono HZ.out)⟩
theorem all_hit {f : Pm.T → Bool} {l : List Pm.T} (h : ∀ j, j < l.length → f (l.getD j []) = true) : l.all f = true := by
  rw [List.all_eq_true]
  intro x hx
  obtain ⟨j, hj, rfl⟩ := List.mem_iff_getElem.1 hx
  have := h j hj
  rw [List.getD_eq_getElem?_getD, List.getElem?_eq_getElem hj] at this
  exact this
theorem all_miss {f : Pm.T → Bool} {l : List Pm.T} {k : Nat} (hk : k < l.length) (h : f (l.getD k []) = false) : l.all f = false := by
  cases e : l.all f with
  | false => rfl
  | true => rw [List.all_eq_true.1 e _ (getD_mem hk)] at h; cases h
set_option maxHeartbeats 2000000 in
set_option maxRecDepth 20000 in
theorem covers_any (ad : Option Addr) (c : Nat) (a : List Pm.T) (bd : Option Addr) (d : Nat) (b : List Pm.T) (w : World) (hA : TxtA w ad a) (hB0 : TxtA w bd b) (hla : a.length ≤ 1000000) (hlb : b.length ≤ 1000000) (hx : ∀ x ∈ b, x.length ≤ 1000000) (hT : Tab w) :
    Calls Tryd.prog 9 #[.slice ad a.length c, .slice bd b.length d] w fun e w' => e = .returned (.bool (Sm.covers a b)) ∧ Below w.heap.size w w' := by
  have HH : Hid (∀ (k : Nat) (W : World), k < b.length → Below w.heap.size w W → Calls Tryd.prog 7 #[.slice ad a.length c, .string (mk (b.getD k []))] W fun e w' => e = .returned (.bool (Sm.has a (b.getD k []))) ∧ Below W.heap.size W w') :=
    fun k W hk hB => has_any ad c a (mk (b.getD k [])) W (hA.below hB) hla (by rw [mk_size]; have := hx _ (getD_mem hk); omega) (hT.below hB)
  have HA : Hid (TxtA w bd b) := hB0
  obtain ⟨n, hn⟩ : ∃ n, b.length = n := ⟨_, rfl⟩
  have HN : Is b.length n := ⟨hn⟩
  rw [hn] at hlb HH
  rw [hn]
  clear hA hB0 hT hn hx
  generalize a.length = m at *
  go_enter Tryd.func9, Tryd.ntmps9
  go_wp2_with fail
  go_loopw [6, 9] (fun _ i wr => ∃ k : Nat, k ≤ n ∧ i = .int .i64 k ∧ (∀ j, j < k → Sm.has a (b.getD j []) = true) ∧ Below w.heap.size w wr) (fun _ i _ => n - (intOf i).toNat)
  case atStart => exact ⟨0, by omega, rfl, fun j hj => absurd hj (by omega), Below.refl _ _⟩
  case round =>
    obtain ⟨k, hk, rfl, hno, hB⟩ := hrel
    have HNo : Hid (∀ j, j < k → Sm.has a (b.getD j []) = true) := hno
    have HB : Hid (Below w.heap.size w wr) := hB
    have hsz := hB.size
    by_cases hlt : k < n
    · have i0 : (k : Int) < (n : Int) := by omega
      have j0 : (0 : Int) ≤ (k : Int) := Int.natCast_nonneg _
      obtain ⟨g, he, hg, ht⟩ := HA.out (by rw [HN.eq]; omega)
      subst he
      have c0 := (hB.cell (p := ⟨g, k, none⟩) hg).trans (ht.get k (by rw [HN.eq]; exact hlt))
      have HC := (show Hid _ from HH.out k wr hlt hB)
      have HLi : Hid (∀ j, j < k + 1 → Sm.has a (b.getD k []) = true → Sm.has a (b.getD j []) = true) := fun j hj hh => by
        by_cases e : j = k
        · rw [e]; exact hh
        · exact HNo.out j (by omega)
      have HYes : Hid (Sm.has a (b.getD k []) = false → Sm.covers a b = false) := fun hh => all_miss (by rw [HN.eq]; exact hlt) hh
      clear hno hB ht
      generalize mk (b.getD k []) = sx at *
      cases hr : Sm.has a (b.getD k []) with
      | false =>
        rw [hr] at HC HYes
        have HY2 : Is (Sm.covers a b) false := ⟨HYes.out rfl⟩
        clear hr HYes HLi
        go_wp2_with (first | (go_at_call 7; refine (show Calls _ _ _ _ _ from HC.out).mono ?_; rintro e w1 ⟨rfl, hB1⟩))
        go_ret
        exact ⟨by rw [HY2.eq]; rfl, HB.out.trans (hB1.mono hsz)⟩
      | true =>
        rw [hr] at HC
        have HNo2 : Hid (∀ j, j < k + 1 → Sm.has a (b.getD j []) = true) := fun j hj => HLi.out j hj hr
        clear hr HYes HLi HNo
        go_wp2_with (first | (go_at_call 7; refine (show Calls _ _ _ _ _ from HC.out).mono ?_; rintro e w1 ⟨rfl, hB1⟩))
        go_roundw
        case rel => exact ⟨k + 1, by omega, by go_num, HNo2.out, HB.out.trans (hB1.mono hsz)⟩
        case measure => (simp [intOf]) <;> omega
    · obtain rfl : k = n := by omega
      have i0 : ¬ (k : Int) < (k : Int) := by omega
      have HM : Is (Sm.covers a b) true := ⟨all_hit (by rw [HN.eq]; exact HNo.out)⟩
      clear hno hB
      go_wp2_with fail
      go_ret
      exact ⟨by rw [HM.eq]; rfl, HB.out⟩
end Go.Proofs.YtbcmgcallidneaaDoor
