/- Proved: what now tells of a sector: its last write that is pending, or what was kept. -/
import Derived.Test.YtcfninpokngmlaaGreatDoorSmall
namespace Go.Proofs.YtcfninpokngmlaaGreatDoor
open Go.RowKit
/- a whole array or struct is stored, from the head of its block on or in its midst; the operation has no destination -/
theorem store_row {P : Program} {ops : Array Oper} {rest : List Oper} {o : Oper} {a : Act} {w : World} {Q : Exit → Act → World → Prop} (hgd : o.guard = none) (hdst : o.dst = none) (ty : TypeId) (x y : Operand) (ho : o.op = .store ty x y)
    (g : Nat) (cells : Array Value) (hx : a.eval x = .pointer (some ⟨g, 0, none⟩)) (hy : a.eval y = .agg cells) (t : TypeId) (old : Array Value) (hg : w.heap[g]? = some (.cells old t (0, 0))) (hi : (P.info? ty).map (·.size) = some cells.size) (hs : old.size = cells.size) (h1 : cells.all (·.oneCell') = true)
    (h : wpList P ops Q rest a (w.setRow g cells)) : wpList P ops Q (o :: rest) a w := by
  refine wpList_store_row hgd ty x y ho g cells hx hy t old hg hi hs h1 ?_
  rw [hdst]
  exact h
theorem store_mid {P : Program} {ops : Array Oper} {rest : List Oper} {op : Oper} {a : Act} {w : World} {Q : Exit → Act → World → Prop} (hgd : op.guard = none) (hdst : op.dst = none) (ty : TypeId) (x y : Operand) (ho : op.op = .store ty x y)
    (b o : Nat) (cells : Array Value) (hx : a.eval x = .pointer (some ⟨b, o, none⟩)) (hy : a.eval y = .agg cells)
    (ht : w.there b o cells.size) (hi : (P.info? ty).map (·.size) = some cells.size) (h1 : cells.all (·.oneCell') = true)
    (h : wpList P ops Q rest a (w.setCells b o cells.toList)) : wpList P ops Q (op :: rest) a w := by
  refine wpList_store_mid hgd ty x y ho b o cells hx hy ht hi h1 ?_
  rw [hdst]
  exact h
def zsec : Array Value := (bc Sc.zero64).toArray
theorem zeroSec (W : World) : (zeroValue 109).run Tryz.prog W = .ok (.agg zsec) W := by kernel_rfl
theorem sizeSec : (Tryz.prog.info? 109).map (·.size) = some 64 := by kernel_rfl
theorem zsec_size : zsec.size = 64 := by kernel_rfl
def bA (x : ByteArray) : Array Value := (bc x).toArray
theorem bA_size {x : ByteArray} (h : x.size = 64) : (bA x).size = 64 := by rw [bA, List.size_toArray, bc_length, h]
theorem bA_one (x : ByteArray) : (bA x).all (·.oneCell') = true := all_oneCell_toArray (bc_one x)
theorem bA_info {x : ByteArray} (h : x.size = 64) : (Tryz.prog.info? 109).map (·.size) = some (bA x).size := by rw [bA_size h]; exact sizeSec
theorem results_row {fn : Func} {p : Tmp} (h : fn.results = #[.cell p 109]) (tmps : Array Value) (w : World) (g : Nat) (t : TypeId) (cs : Array Value) (fr : Nat × Nat)
    (hp : tmps.getD p undef = .pointer (some ⟨g, 0, none⟩)) (hg : w.heap[g]? = some (.cells cs t fr)) (hi : (Tryz.prog.info? 109).map (·.size) = some cs.size) :
    (results fn tmps).run Tryz.prog w = .ok (.agg cs) w := by
  have hp' : tmps[p]?.getD undef = .pointer (some ⟨g, 0, none⟩) := by simpa using hp
  simp [results, h, hp', asAddr, run_loadVar_row w g t 109 cs fr _ hg Tryz.underlying109 rfl hi]
theorem below_setRow {B : Nat} {a w : World} (h : Below B a w) {g : Nat} (hg : B ≤ g) (cs : Array Value) : Below B a (w.setRow g cs) :=
  h.trans ⟨rfl, rfl, rfl, by simp, fun k hk => setRow_other w g k cs (by omega)⟩
theorem drop_one {α : Type} (l : List α) (k : Nat) (x : α) (h : l[k]? = some x) : l.drop k = x :: l.drop (k + 1) := by
  obtain ⟨h1, h2⟩ := List.getElem?_eq_some_iff.1 h
  rw [List.drop_eq_getElem_cons h1, h2]
set_option maxHeartbeats 1000000 in
set_option maxRecDepth 20000 in
theorem now_any (g kg : Nat) (v : Value) (s : Sc.St) (i : Nat) (w : World) (H : Dk w g kg v s) (hi : i < s.kept.length) :
    Calls Tryz.prog 123 #[ptr g, .int .i64 (i : Int)] w fun e w' => e = .returned (.agg (bA (Sc.now s i))) ∧ Below w.heap.size w w' := by
  have hz := zeroSec
  have HA : Hid (Dk (w.alloc (.cells zsec 109)) g kg v s) := H.alloc _
  have HN : Hid ((w.alloc (.cells zsec 109)).heap[w.heap.size]? = some (.cells zsec 109 (0, 0))) := heap_alloc_new w _
  have HB : Hid (Below w.heap.size w (w.alloc (.cells zsec 109))) := (Below.refl _ _).alloc (Nat.le_refl _) _
  have hmost : s.pend.length ≤ 9223372036854775807 ∧ s.kept.length ≤ 65536 := by
    refine ⟨?_, H.ok.most⟩
    rcases H.open with ⟨_, h2⟩ | ⟨pg, cap, _, h2, h3, _⟩
    · rw [h2]; simp
    · omega
  have c0 := HA.out.c0
  have c1 := HA.out.c1
  obtain ⟨pa, cap, hv⟩ := H.pval
  rw [hv] at c1
  have HS : Hid ((w.alloc (.cells zsec 109)).rangeAt kg (i * 64) (bc (s.kept.getD i Sc.zero64))) := HA.out.sector hi
  have HZ : Hid ((bA (s.kept.getD i Sc.zero64)).size = 64) := bA_size (Sc.getD_size H.ok.size i)
  clear H
  go_enter Tryz.func123, Tryz.ntmps123
  go_wp2_with fail
  generalize World.alloc w _ = w1 at *
  go_loopw [5] (fun s5 wr => ∃ k : Nat, k ≤ s.pend.length ∧ s5 = .int .i64 ((k : Int) - 1) ∧ wr = w1 ∧ ∀ q ∈ s.pend.drop k, q.1 ≠ i) (fun s5 _ => (intOf s5 + 1).toNat)
  case atStart => exact ⟨s.pend.length, Nat.le_refl _, rfl, rfl, by simp⟩
  case round =>
    obtain ⟨k, hk, rfl, rfl, hq⟩ := hrel
    have HQ : Hid (∀ q ∈ s.pend.drop k, q.1 ≠ i) := hq
    clear hq
    cases k with
    | zero =>
      have hd : decide ((0 : Int) ≤ ((0 : Nat) : Int) - 1) = false := by decide
      have HI : Hid ((Tryz.prog.info? 109).map (·.size) = some (bA (s.kept.getD i Sc.zero64)).size) := by show _ = _; rw [HZ.out]; exact sizeSec
      have HE : Hid (Sc.now s i = s.kept.getD i Sc.zero64) := Sc.last_none i _ _ (by simpa using HQ.out)
      have i1 : (i : Int) < (s.kept.length : Int) := by omega
      have i0 : (0 : Int) ≤ (i : Int) := by omega
      have HIL : Hid ((Tryz.prog.info? 109).map (·.size) = some (bc (s.kept.getD i Sc.zero64)).length) := by rw [show (bc (s.kept.getD i Sc.zero64)).length = (bA (s.kept.getD i Sc.zero64)).size by simp [bA]]; exact HI
      go_wp2_with (first | (refine wpList_load_mid rfl 109 _ rfl kg (i * 64) (by first | rfl | (show Value.pointer _ = _; simp)) (bc (s.kept.getD i Sc.zero64)) _ HS.out Tryz.underlying109 rfl HIL.out ?_) | (refine store_row rfl rfl 109 _ _ rfl w.heap.size (bA (s.kept.getD i Sc.zero64)) rfl rfl 109 zsec HN.out HI.out (by rw [HZ.out]; exact zsec_size) (bA_one _) ?_))
      refine bodyPost_ret (v := .agg (bA (s.kept.getD i Sc.zero64))) ?_ rfl ⟨by rw [HE.out], below_setRow HB.out (Nat.le_refl _) _⟩
      exact results_row Tryz.results123 _ _ w.heap.size 109 _ (0, 0) rfl (setRow_heap _ _ _ _ _ _ HN.out) HI.out
    | succ m =>
      obtain ⟨pg, cap', hv', hcap, hc63, hr⟩ : ∃ pg cap, v = .slice (some ⟨pg, 0, none⟩) s.pend.length cap ∧ s.pend.length ≤ cap ∧ cap ≤ 9223372036854775807 ∧ ∀ i p, s.pend[i]? = some p → wr.rangeAt pg (i * 65) (wc p) := by
        rcases HA.out.open with ⟨_, h⟩ | h
        · rw [h] at hk; simp at hk
        · exact h
      have ea : pa = some ⟨pg, 0, none⟩ := by
        rw [hv] at hv'
        exact (Value.slice.inj hv').1
      obtain ⟨p, hp⟩ : ∃ p, s.pend[m]? = some p := ⟨_, List.getElem?_eq_getElem (by omega)⟩
      have hR := hr m p hp
      have HR1 : Hid (wr.rangeAt pg (m * 65 + 1) (bc p.2)) := fun j u hu => by
        have := hR (j + 1) u (by simpa [wc] using hu)
        rwa [show m * 65 + (j + 1) = m * 65 + 1 + j by omega] at this
      have cp : wr.cell? ⟨pg, m * 65, none⟩ = some (.int .i64 (p.1 : Int)) := hR 0 _ rfl
      have hps : p.2.size = 64 := HA.out.ok.psize p (List.mem_of_getElem? hp)
      have HI : Hid ((Tryz.prog.info? 109).map (·.size) = some (bA p.2).size) := bA_info hps
      have HIL : Hid ((Tryz.prog.info? 109).map (·.size) = some (bc p.2).length) := by rw [show (bc p.2).length = (bA p.2).size by simp [bA]]; exact HI
      have HZ2 : Hid ((bA p.2).size = 64) := bA_size hps
      have hml : m < s.pend.length := by omega
      have HP : Hid (s.pend[m]? = some p) := hp
      have HV : Hid (v = Value.slice pa s.pend.length cap) := hv
      subst ea
      clear hr hR hp hv hv'
      rw [show ((m + 1 : Nat) : Int) - 1 = (m : Int) by omega]
      have hd : decide ((0 : Int) ≤ (m : Int)) = true := by simp
      have m0 : (0 : Int) ≤ (m : Int) := by omega
      have m1 : (m : Int) < (s.pend.length : Int) := by omega
      by_cases he : p.1 = i
      · have hb : ((p.1 : Int) == (i : Int)) = true := by simp [he]
        have HE : Hid (Sc.now s i = p.2) := Sc.last_at i _ _ m p HP.out he HQ.out
        clear he
        go_wp2_with (first | (refine wpList_load_mid rfl 109 _ rfl pg (m * 65 + 1) (by first | rfl | (show Value.pointer _ = _; simp)) (bc p.2) _ HR1.out Tryz.underlying109 rfl HIL.out ?_) | (refine store_row rfl rfl 109 _ _ rfl w.heap.size (bA p.2) rfl rfl 109 zsec HN.out HI.out (by rw [HZ2.out]; exact zsec_size) (bA_one _) ?_))
        refine bodyPost_ret (v := .agg (bA p.2)) ?_ rfl ⟨by rw [HE.out], below_setRow HB.out (Nat.le_refl _) _⟩
        exact results_row Tryz.results123 _ _ w.heap.size 109 _ (0, 0) rfl (setRow_heap _ _ _ _ _ _ HN.out) HI.out
      · have hb : ((p.1 : Int) == (i : Int)) = false := by simp; omega
        have HFN : ∃ k : Nat, k ≤ s.pend.length ∧ Value.int .i64 ((m : Int) - 1) = .int .i64 ((k : Int) - 1) ∧ wr = wr ∧ ∀ q ∈ s.pend.drop k, q.1 ≠ i := ⟨m, by omega, rfl, rfl, fun q hq => by
          rw [drop_one _ _ _ HP.out] at hq
          rcases List.mem_cons.1 hq with rfl | hq
          · exact he
          · exact HQ.out q hq⟩
        clear he
        go_wp2
        go_roundw
        case rel =>
          obtain ⟨k, h1, h2, _, h4⟩ := HFN
          exact ⟨k, h1, h2, trivial, h4⟩
        case measure => (simp [intOf]) <;> omega
end Go.Proofs.YtcfninpokngmlaaGreatDoor
