/- Proved: what the laws' Few answers: the first cells, keys and kids, their texts cut (stage 11). -/
import Derived.Test.YtoinaplmgffkpaaBts
import Derived.Test.YtoinaplmgffkpaaLate
import Derived.Test.YtoinaplmgffkpaaApp
import Derived.Test.YtoinaplmgffkpaaEncL
namespace Go.Proofs.Ytoinaplmgffkpaa
open Go.RowKit
open Sl (Cel Nod)
def cutB (s : ByteArray) : ByteArray := if s.size ≤ 170 then s else s.extract 0 170
def cutC (c : Cel) : Cel := ⟨cutB c.key, cutB c.val, c.over, c.len⟩
def fewN (n : Nod) : Nod := ⟨n.leaf, (n.cells.take 20).map cutC, (n.keys.take 20).map cutB, n.kids.take 21⟩
theorem cutB_size (s : ByteArray) : (cutB s).size ≤ 170 := by
  unfold cutB
  split
  · assumption
  · rw [ByteArray.size_extract]; omega
theorem fcut_any (s : ByteArray) (w : World) (hs : s.size ≤ 9223372036854775807) :
    Calls Try.prog 27 #[.string s] w fun e w' => e = .returned (.string (cutB s)) ∧ w' = w := by
  unfold cutB
  by_cases h : s.size ≤ 170
  · rw [if_pos h]
    have h1 : min (s.size : Int) 170 = (s.size : Int) := by omega
    have h3 : s.extract 0 s.size = s := by simp
    go_enter Try.func27, Try.ntmps27
    go_wp2
    go_ret
    exact ⟨rfl, rfl⟩
  · rw [if_neg h]
    have h1 : min (s.size : Int) 170 = 170 := by omega
    go_enter Try.func27, Try.ntmps27
    go_wp2
    go_ret
    exact ⟨rfl, rfl⟩
/- one cell, one key behind those of the call's own -/
theorem app_cel (W : World) (B : Nat) (v : Value) (xs : List Cel) (c : Cel) (y : Nat) (hown : W.ownsRow B 28 4 v xs.length (cvals xs)) (hl : xs.length ≤ 1000) (hB : B ≤ W.heap.size) (hy : Brow W y (ccells c) 28) :
    ∃ v' w', (∀ ty, (Builtin.append_ #[22, 22] ty #[v, .slice (some ⟨y, 0, none⟩) 1 1]).run Try.prog W = .ok v' w') ∧ w'.ownsRow B 28 4 v' (xs ++ [c]).length (cvals (xs ++ [c])) ∧ Grew W v w' v' := by
  obtain ⟨i0, hi, hz0, hz1, hz2⟩ := info_parts infoC
  obtain ⟨v', w', hr, h2, h3, h4, h5⟩ := run_append_own_at (P := Try.prog) W B 22 0 28 i0 _ 4 48 Try.underlying22 hi hz0 hz1 hz2 rfl (by omega) v xs.length (cvals xs) hown ⟨y, 0, none⟩ 1 1 (ccells c) (by simp [ccells]) (fun j u hj => by rw [Addr.add_lit, Nat.zero_add]; exact hy.at j u hj) (fun u hu => cvals_one [c] u (by unfold cvals; simpa using hu)) (by unfold maxLen; omega) (by omega) hB
  refine ⟨v', w', fun _ => hr, ?_, h3, h5.imp id (fun h => ⟨_, h, Nat.le_refl _⟩)⟩
  rw [cvals_append, List.length_append]
  simpa [cvals] using h2
theorem app_key (W : World) (B : Nat) (v : Value) (xs : List ByteArray) (c : ByteArray) (y : Nat) (hown : W.ownsRow B 9 1 v xs.length (kcells xs)) (hl : xs.length ≤ 1000) (hB : B ≤ W.heap.size) (hy : Brow W y [.string c] 9) :
    ∃ v' w', (∀ ty, (Builtin.append_ #[23, 23] ty #[v, .slice (some ⟨y, 0, none⟩) 1 1]).run Try.prog W = .ok v' w') ∧ w'.ownsRow B 9 1 v' (xs ++ [c]).length (kcells (xs ++ [c])) ∧ Grew W v w' v' := by
  obtain ⟨i0, hi, hz0, hz1, hz2⟩ := info_parts infoS
  obtain ⟨v', w', hr, h2, h3, h4, h5⟩ := run_append_own_at (P := Try.prog) W B 23 0 9 i0 _ 1 16 Try.underlying23 hi hz0 hz1 hz2 rfl (by omega) v xs.length (kcells xs) hown ⟨y, 0, none⟩ 1 1 [.string c] rfl (fun j u hj => by rw [Addr.add_lit, Nat.zero_add]; exact hy.at j u hj) (fun u hu => by rw [List.mem_singleton.1 hu]; rfl) (by unfold maxLen; omega) (by omega) hB
  refine ⟨v', w', fun _ => hr, ?_, h3, h5.imp id (fun h => ⟨_, h, Nat.le_refl _⟩)⟩
  rw [kcells_append, List.length_append]
  simpa [kcells] using h2
theorem step_run_append {P : Program} {o : Oper} {a : Act} {w : World} {K : Act → World → Prop} {Q : Exit → Act → World → Prop} (d : Option Tmp) (hd : o.dst = d) (s x : Operand) (t : TypeId)
    (ho : o.op = .call { callee := .builtin .append, args := #[s, x], argTypes := #[t, t] }) (v u v' : Value) (w' : World) (hs : a.eval s = v) (hx : a.eval x = u) (hr : ∀ ty, (Builtin.append_ #[t, t] ty #[v, u]).run P w = .ok v' w') (h : K (a.put d v') w') : Oper.wp P o a w K Q := by
  subst hd
  unfold Oper.wp execOp
  simp only [ho, resolve, invoke, builtin, Sem.run_bind, Sem.run_pure, Result.andThen_ok, List.map_toArray, List.map_cons, List.map_nil, hs, hx, hr]
  exact h
/- what is known between the rounds -/
structure FewR (w : World) (lf : Bool) (s1 s2 s3 : Value) (cs : List Cel) (ks : List ByteArray) (v1 v2 v3 : Value) (wr : World) : Prop where
  n : Brow wr w.heap.size [.bool lf, s1, s2, s3] 26
  z : Brow wr (w.heap.size + 1) [.bool false, .slice none 0 0, .slice none 0 0, .slice none 0 0] 26
  o : Brow wr (w.heap.size + 2) [.bool lf, v1, v2, v3] 26
  r1 : wr.ownsRow (w.heap.size + 3) 28 4 v1 cs.length (cvals cs)
  r2 : wr.ownsRow (w.heap.size + 3) 9 1 v2 ks.length (kcells ks)
  b : Below w.heap.size w wr
  ap : ∀ g, v1.ownBlock = some g → v2.ownBlock ≠ some g
theorem own_nil (w : World) (N e k : Nat) : w.ownsRow N e k (.slice none 0 0) 0 [] := ⟨by simp, .inl ⟨rfl, rfl⟩⟩
end Go.Proofs.Ytoinaplmgffkpaa
