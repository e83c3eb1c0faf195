/- Proved: what slot's input.cut, number and text answer (stage 11). -/
import Derived.Test.YtoinaplmgffkpaaMathD
import Derived.Test.YtoinaplmgffkpaaFew
import Derived.Test.YtoinaplmgffkpaaClone
namespace Go.Proofs.Ytoinaplmgffkpaa
open Go.RowKit
open Sl (Cel Nod)
def irow (s : In) : List Value := [.string (tb s.l), .bool s.bad]
/- a world in which block g, and new ones, may be otherwise -/
structure Chg (g : Nat) (w w' : World) : Prop where
  by_ : w.grownBy w' (some g)
theorem Chg.refl (g : Nat) (w : World) : Chg g w w := ⟨⟨rfl, rfl, rfl, Nat.le_refl _, fun _ _ _ => rfl⟩⟩
theorem Chg.trans {g : Nat} {w w1 w2 : World} (h : Chg g w w1) (k : Chg g w1 w2) : Chg g w w2 :=
  ⟨⟨k.by_.os.trans h.by_.os, k.by_.tape.trans h.by_.tape, k.by_.output.trans h.by_.output, Nat.le_trans h.by_.size k.by_.size, fun i hi hne => (k.by_.block i (Nat.lt_of_lt_of_le hi h.by_.size) hne).trans (h.by_.block i hi hne)⟩⟩
theorem Chg.of (g : Nat) {w w' : World} (h : Below w.heap.size w w') : Chg g w w' := ⟨⟨h.os, h.tape, h.output, h.size, fun i hi _ => h.block i hi⟩⟩
theorem Chg.set (g i : Nat) (v : Value) (w : World) : Chg g w (w.setCell ⟨g, i, none⟩ v) :=
  ⟨⟨rfl, rfl, rfl, by simp [World.setCell], fun j _ hne => Below.heap_setCell _ _ _ _ (fun e => hne (by rw [e]))⟩⟩
theorem Chg.size {g : Nat} {w w' : World} (h : Chg g w w') : w.heap.size ≤ w'.heap.size := h.by_.size
theorem Chg.brow {g b : Nat} {w w' : World} {cs : List Value} {t : TypeId} (h : Chg g w w') (hb : Brow w b cs t) (hne : b ≠ g) : Brow w' b cs t :=
  ⟨(h.by_.block b hb.lt (fun e => hne (Option.some.inj e))).trans hb.row⟩
theorem Chg.own {g N n k : Nat} {e : TypeId} {w w' : World} {v : Value} {vs : List Value} (h : Chg g w w') (hg : g < N) (ho : w.ownsRow N e k v n vs) : w'.ownsRow N e k v n vs := by
  obtain ⟨h0, h1⟩ := ho
  refine ⟨h0, ?_⟩
  rcases h1 with h1 | ⟨b, cap', cur, hv, hN, hh, r⟩
  · exact .inl h1
  · exact .inr ⟨b, cap', cur, hv, hN, (h.by_.block b (Array.getElem?_eq_some_iff.1 hh).1 (fun e => by have := Option.some.inj e; omega)).trans hh, r⟩
theorem Chg.below {g N : Nat} {w w' : World} (h : Chg g w w') (hN : N ≤ g) (hs : N ≤ w.heap.size) : Below N w w' :=
  (Below.refl _ _).grown h.by_ hs (fun k hk => by have := Option.some.inj hk; omega)
theorem Chg.drew {g : Nat} {w w' : World} (h : Chg g w w') : Chg g w w'.drew := ⟨⟨h.by_.os, h.by_.tape, h.by_.output, h.by_.size, h.by_.block⟩⟩
theorem tb_take (l : List Nat) (n : Nat) (_h : n ≤ l.length) : (tb l).extract 0 n = tb (l.take n) := by
  refine Sl.ba_ext ?_
  rw [ByteArray.data_extract]
  unfold tb
  simp [List.map_take]
theorem tb_drop (l : List Nat) (n : Nat) : (tb l).extract n l.length = tb (l.drop n) := by
  refine Sl.ba_ext ?_
  rw [ByteArray.data_extract]
  unfold tb
  simp [List.map_drop]
  exact List.take_of_length_le (by simp)
theorem tb_get (l : List Nat) (h : ∀ x ∈ l, x < 256) (i : Nat) (hi : i < l.length) (hi' : i < (tb l).size) : ((tb l)[i]).toNat = l.getD i 0 := by
  have h1 : (bl (tb l))[i]? = some ((tb l)[i]).toNat := by
    unfold bl
    rw [List.getElem?_map]
    have : (tb l).data.toList[i]? = some (tb l)[i] := by
      rw [Array.getElem?_toList]
      exact Array.getElem?_eq_getElem (xs := (tb l).data) hi'
    rw [this]; rfl
  rw [bl_tb h, Sl.getD_some l i 0 hi] at h1
  exact (Option.some.inj h1).symm
set_option maxHeartbeats 1000000 in
theorem cut_in (g : Nat) (s : In) (n : Nat) (w : World) (hg : Brow w g (irow s) 76) (hs : Ok8 s) (hn : n ≤ 1000) :
    Calls Try.prog 85 #[.pointer (some ⟨g, 0, none⟩), .int .i64 (n : Int)] w fun e w' => e = .returned (.string (tb (cutV s n))) ∧ Brow w' g (irow (cutS s n)) 76 ∧ Chg g w w' := by
  have hl := hs.n
  obtain ⟨l, bad⟩ := s
  unfold irow at *
  simp only at hl hg
  have HZ : Is (tb l).size l.length := ⟨tb_size l⟩
  have q0 := hg.at 0 _ rfl
  have q1 := hg.at 1 _ rfl
  have z0 := hg.fz 0
  have z1 := hg.fz 1
  have HG : Hid (Brow w g [.string (tb l), .bool bad] 76) := hg
  clear hg
  cases bad with
  | true =>
    have HF : Hid (Brow (w.setCell ⟨g, 1, none⟩ (.bool true)) g [.string (tb l), .bool true] 76) := HG.out.set 1 _
    have HV : Is (cutV ⟨l, true⟩ n) [] := ⟨rfl⟩
    have HS : Is (cutS ⟨l, true⟩ n) ⟨l, true⟩ := ⟨rfl⟩
    go_enter Try.func85, Try.ntmps85
    go_wp2
    go_ret
    rw [HV.eq, HS.eq]
    exact ⟨rfl, HF.out, Chg.set _ _ _ _⟩
  | false =>
    by_cases hlt : l.length < n
    · have HF : Hid (Brow (w.setCell ⟨g, 1, none⟩ (.bool true)) g [.string (tb l), .bool true] 76) := HG.out.set 1 _
      have HC : cutF ⟨l, false⟩ n = true := by unfold cutF; simpa using hlt
      have HV : Is (cutV ⟨l, false⟩ n) [] := ⟨by unfold cutV; rw [if_pos HC]⟩
      have HS : Is (cutS ⟨l, false⟩ n) ⟨l, true⟩ := ⟨by unfold cutS; rw [if_pos HC]⟩
      have d0 : (tb l).size < n := by have := HZ.eq; omega
      have d1 : decide (((tb l).size : Int) < (n : Int)) = true := decide_eq_true (by have := HZ.eq; omega)
      clear HC
      go_enter Try.func85, Try.ntmps85
      go_wp2
      go_ret
      rw [HV.eq, HS.eq]
      exact ⟨rfl, HF.out, Chg.set _ _ _ _⟩
    · have HC : cutF ⟨l, false⟩ n = false := by unfold cutF; simp; omega
      have HV : Is (cutV ⟨l, false⟩ n) (l.take n) := ⟨by unfold cutV; rw [HC]; rfl⟩
      have HS : Is (cutS ⟨l, false⟩ n) ⟨l.drop n, false⟩ := ⟨by unfold cutS; rw [HC]; rfl⟩
      have HF : Hid (Brow (w.setCell ⟨g, 0, none⟩ (.string ((tb l).extract n (tb l).size))) g [.string ((tb l).extract n (tb l).size), .bool false] 76) := HG.out.set 0 _
      have HE1 : Is ((tb l).extract 0 n) (tb (l.take n)) := ⟨tb_take l n (by omega)⟩
      have HE2 : Is ((tb l).extract n (tb l).size) (tb (l.drop n)) := ⟨by rw [HZ.eq]; exact tb_drop l n⟩
      have d1 : decide (((tb l).size : Int) < (n : Int)) = false := decide_eq_false (by have := HZ.eq; omega)
      have d2 : (n : Int) ≤ ((tb l).size : Int) := by have := HZ.eq; omega
      have d3 : (0 : Int) ≤ (n : Int) := by omega
      clear HC
      generalize tb l = S at *
      go_enter Try.func85, Try.ntmps85
      go_wp2
      go_ret
      rw [HV.eq, HS.eq, ← HE1.eq]
      refine ⟨rfl, ?_, Chg.set _ _ _ _⟩
      have := HF.out
      rw [HE2.eq] at this ⊢
      exact this
end Go.Proofs.Ytoinaplmgffkpaa
