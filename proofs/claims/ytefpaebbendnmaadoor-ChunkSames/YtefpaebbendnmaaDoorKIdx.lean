/- Proved: what an index into an array that is a value answers: the number there, or the row there. -/
import Derived.Test.YtefpaebbendnmaaDoorKRow
namespace Go.Proofs.YtefpaebbendnmaaDoor.BK
open Go.RowKit
theorem run_idx {P : Program} {t e : TypeId} {n : Nat} {d : TypeDesc} (hu : P.underlying t = some (.array n e)) (he : P.underlying e = some d) (hd : d.isRow = false) (hs : (P.info? e).map (·.size) = some 1)
    (cs : Array Value) (k : Nat) (hk : k < n) (v : Value) (hv : cs[k]? = some v) (W : World) : (Instr.index t (.agg cs) (.int .i64 (k : Int))).run P W = .ok v W := by
  cases hq : P.info? e with
  | none => simp [hq] at hs
  | some i =>
    have hs' : i.size = 1 := by simpa [hq] using hs
    have hagg : (isAgg e).run P W = .ok false W := by
      unfold isAgg
      rw [Sem.run_bind, run_underlying he W]
      cases d <;> simp_all
    have hc : (0 : Int) ≤ (k : Int) ∧ (k : Int) < (n : Int) := by omega
    simp [Instr.index, asIntOf, Sem.run_bind, run_underlying hu W, hc, part, hagg, sizeOf, typeInfo, hq, hs', hv, hk]
theorem run_idx_row {P : Program} {t e : TypeId} {n m : Nat} {d : TypeDesc} (hu : P.underlying t = some (.array n e)) (he : P.underlying e = some d) (hd : d.isRow = true) (hs : (P.info? e).map (·.size) = some m)
    (cs : Array Value) (k : Nat) (hk : k < n) (W : World) : (Instr.index t (.agg cs) (.int .i64 (k : Int))).run P W = .ok (.agg (cs.extract (k * m) (k * m + m))) W := by
  cases hq : P.info? e with
  | none => simp [hq] at hs
  | some i =>
    have hs' : i.size = m := by simpa [hq] using hs
    have hagg : (isAgg e).run P W = .ok true W := by
      unfold isAgg
      rw [Sem.run_bind, run_underlying he W]
      cases d <;> simp_all
    have hc : (0 : Int) ≤ (k : Int) ∧ (k : Int) < (n : Int) := by omega
    simp [Instr.index, asIntOf, Sem.run_bind, run_underlying hu W, hc, part, hagg, sizeOf, typeInfo, hq, hs', hk]
end Go.Proofs.YtefpaebbendnmaaDoor.BK
