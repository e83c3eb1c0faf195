/- Proved: the law ChunkAlike answers true, whatever comes in. -/
import Derived.Test.YtefpaebbendnmaaCutsH
import Derived.Laws.BitsAllLaws
namespace Go.Proofs.Ytefpaebbendnmaa
open Go.RowKit
open Ck (T cnt same)
theorem flip_ne (x c : Nat) : x ^^^ (c ||| 1) ≠ x := fun h => by
  have h2 : (x ^^^ (c ||| 1)).testBit 0 = x.testBit 0 := by rw [h]
  rw [Nat.testBit_xor, Nat.testBit_or] at h2
  cases hx : x.testBit 0 <;> simp [hx] at h2
theorem flip_lt {x c : Nat} (hx : x < 256) (hc : c < 256) : x ^^^ (c ||| 1) < 256 := Nat.xor_lt_two_pow (n := 8) hx (Nat.or_lt_two_pow (n := 8) hc (by decide))
theorem flip_bits {x c : Nat} (hx : x < 256) (hc : c < 256) : bits .xor .u8 (x : Int) (bits .or .u8 (c : Int) 1) = ((x ^^^ (c ||| 1) : Nat) : Int) := by
  rw [show bits .or .u8 (c : Int) 1 = ((c ||| 1 : Nat) : Int) from u8_or_nat c 1 hc (by decide), u8_xor_nat _ _ hx (Nat.or_lt_two_pow (n := 8) hc (by decide))]
theorem set_parts (l : T) (k : Nat) (v : UInt8) (h : k < l.length) : l.take k ++ [v] ++ l.drop (k + 1) = l.set k v := by
  rw [List.set_eq_take_append_cons_drop, if_pos h, List.append_assoc]
  rfl
theorem step_conv {ops : Array Oper} {o : Oper} {a : Act} {w : World} {K : Act → World → Prop} {Q : Exit → Act → World → Prop} {E : Prop} (hgd : o.guard = none) (x : Operand) (s t : TypeId)
    (ho : o.op = .convert s t x) (v r : Value) (hx : a.eval x = v) (hr : (convert s t v).run Try.prog w = .ok r w) (h : K (a.put o.dst r) w) :
    if Region.wanted o (yielded ops a.tmps) = true then Oper.wp Try.prog o a w K Q else E := by
  have hw : Region.wanted o (yielded ops a.tmps) = true := by simp [Region.wanted, hgd]
  rw [if_pos hw]
  unfold Oper.wp execOp
  simp only [ho, Sem.run_bind, Sem.run_pure, Result.andThen_ok, hx, hr]
  exact h
theorem conv_one (W W' : World) (v : Nat) (hv : v < 256) (h : W'.heap = (W.alloc (.cells #[.int .u8 (v : Int)] 5)).heap) : (convert 47 9 (.slice (some ⟨W.heap.size, 0, none⟩) 1 1)).run Try.prog W' = .ok (.string (mk [UInt8.ofNat v])) W' := by
  have hb : (UInt8.ofNat v).toNat = v := by simp; omega
  have hR : Brow W' W.heap.size [UInt8.ofNat v] := by
    unfold Brow bc
    rw [h, List.map_cons, List.map_nil, hb]
    exact heap_alloc_new W _
  exact str_all hR.rd 1 rfl 1
end Go.Proofs.Ytefpaebbendnmaa
