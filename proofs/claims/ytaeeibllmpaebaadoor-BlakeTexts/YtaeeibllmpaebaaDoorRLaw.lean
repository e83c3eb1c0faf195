/- Proved: what the laws that hold the program against the document share: 'string(b)' of bytes in a region that draws its order, and what calls keep. -/
import Derived.Test.YtaeeibllmpaebaaDoorROf
import Derived.Test.YtaeeibllmpaebaaDoorDigit
namespace Go.Proofs.YtaeeibllmpaebaaDoor
open Go.RowKit
theorem hold_call {w7 w' w'' : World} {N : Nat} {l : List Value} (h : w'.rangeAt N 0 l ∧ Below w7.heap.size w7 w') (hN : N < w7.heap.size) (hb : Below w'.heap.size w' w'') : w''.rangeAt N 0 l ∧ Below w7.heap.size w7 w'' := by
  have hs := h.2.size
  exact ⟨range_below h.1 hb (by omega), h.2.trans (hb.mono hs)⟩
theorem hold_size {w7 w' : World} {N : Nat} {l : List Value} (h : w'.rangeAt N 0 l ∧ Below w7.heap.size w7 w') : w7.heap.size ≤ w'.heap.size := h.2.size
theorem hold_bel {w7 w' : World} {N : Nat} {l : List Value} (h : w'.rangeAt N 0 l ∧ Below w7.heap.size w7 w') : Below w7.heap.size w7 w' := h.2
theorem range_bytes {w : World} {N : Nat} {D : List Nat} (h : w.rangeAt N 0 (D.map V8)) (h8 : Bl.Bytes8 32 D) : Bytes w (some ⟨N, 0, none⟩) 32 D := by
  refine ⟨h8.1, h8.2, by omega, .inr ⟨N, 0, rfl, fun i hi => ?_⟩⟩
  refine h i _ ?_
  rw [List.getElem?_map, List.getElem?_eq_getElem (by rw [h8.1]; exact hi), List.getD_eq_getElem?_getD, List.getElem?_eq_getElem (by rw [h8.1]; exact hi)]; rfl
theorem hold_bytes {w7 w' : World} {N : Nat} {D : List Nat} (h : w'.rangeAt N 0 (D.map V8) ∧ Below w7.heap.size w7 w') (h8 : Bl.Bytes8 32 D) : Bytes w' (some ⟨N, 0, none⟩) 32 D := range_bytes h.1 h8
theorem below_drewN (w : World) (n : Nat) : Below w.heap.size w (w.drewN n) := ⟨rfl, rfl, rfl, Nat.le_refl _, fun _ _ => rfl⟩
theorem str_of_bytes {w : World} {a : Option Addr} {n : Nat} {v : List Nat} (h : Bytes w a n v) (hn : 0 < n) (cap : Nat) : (convert 22 9 (.slice a n cap)).run Tryd.prog w = .ok (.string (Bl.toBytes v)) w := by
  obtain ⟨h0, h8, hm, hc⟩ := h
  rcases hc with hc | ⟨b, off, ha, hc⟩
  · omega
  subst ha
  subst h0
  have e := run_convert_bytes_back (P := Tryd.prog) w 22 9 5 ⟨b, off, none⟩ cap (v.map UInt8.ofNat) Tryd.underlying22 Tryd.underlying5 Tryd.underlying9 (fun j hj => by
    have hj' : j < v.length := by simpa using hj
    rw [Addr.add_mid, hc j hj', List.getElem_map]
    have h1 : v[j] < 256 := h8 _ (List.getElem_mem hj')
    rw [List.getD_eq_getElem?_getD, List.getElem?_eq_getElem hj', Option.getD_some, UInt8.toNat_ofNat', Nat.mod_eq_of_lt h1])
  rw [List.length_map] at e
  exact e
/- 'string(b)', as one step of a region that draws its order -/
theorem step_str {ops : Array Oper} {o : Oper} {a : Act} {w : World} {K : Act → World → Prop} {Q : Exit → Act → World → Prop} {E : Prop} (hgd : o.guard = none) (x : Operand) (ho : o.op = .convert 22 9 x) (ad : Option Addr) (n cap : Nat) (v : List Nat) (hx : a.eval x = .slice ad n cap) (hB : Bytes w ad n v) (hn : 0 < n)
    (h : K (a.put o.dst (.string (Bl.toBytes v))) w) : if Region.wanted o (yielded ops a.tmps) = true then Oper.wp Tryd.prog o a w K Q else E := by
  have hw : Region.wanted o (yielded ops a.tmps) = true := by simp [Region.wanted, hgd]
  rw [if_pos hw]
  have e := str_of_bytes hB hn cap
  unfold Oper.wp execOp
  simp only [ho, hx, Sem.run_bind, Sem.run_pure, e, Result.andThen_ok]
  exact h
theorem rhex_of (d : List Nat) (a : Option Addr) (cap : Nat) (w : World) (hd : Bl.Bytes8 32 d) (hB : Bytes w a 32 d) :
    Calls Tryd.prog 13 #[.slice a 32 cap] w fun e w' => e = .returned (.string (Bl.toBytes (Bl.hex d))) ∧ Below w.heap.size w w' := by
  refine (rhex_any a 32 cap d w hB (by omega)).mono ?_
  rintro e w' ⟨rfl, n, rfl⟩
  exact ⟨by rw [hexes_hex hd.1], below_drewN w n⟩
end Go.Proofs.YtaeeibllmpaebaaDoor
