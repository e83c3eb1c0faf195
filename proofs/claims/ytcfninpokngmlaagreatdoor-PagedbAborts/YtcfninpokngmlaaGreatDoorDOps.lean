/- Proved: plain facts of a transaction's calls over what it has changed (stage 10). No program is named. -/
import Derived.Test.YtcfninpokngmlaaGreatDoorDInv3
namespace Go.Proofs.YtcfninpokngmlaaGreatDoor
open Go.RowKit
def wrR (T : Pd.Ab) (id k : Int) (b : ByteArray) : Int := writeR T.pgs.length id k b (T.sh id.toNat)
def wrA (T : Pd.Ab) (id k : Int) (b : ByteArray) : Pd.Ab := if wrR T id k b = 0 then T.write id.toNat ⟨k.toNat, b⟩ else T
def frR (T : Pd.Ab) (id : Int) : Int := (thereR T.pgs.length id (T.sh id.toNat)).2
def frA (T : Pd.Ab) (id : Int) : Pd.Ab := if frR T id = 0 then T.free id.toNat else T
def alR (T : Pd.Ab) (cnt : Nat) : Int := if T.freed = [] ∧ cnt ≤ T.pgs.length then 7 else 0
def alI (T : Pd.Ab) (cnt : Nat) : Nat := if alR T cnt = 0 then T.allocI else 0
def alA (T : Pd.Ab) (cnt : Nat) : Pd.Ab := if alR T cnt = 0 then T.alloc else T
def srA (T : Pd.Ab) (i n : Int) : Pd.Ab := if setrootR i n = 0 then T.root i.toNat n.toNat else T
theorem there_zero {T : Pd.Ab} {id : Int} (h : (thereR T.pgs.length id (T.sh id.toNat)).2 = 0) : 1 ≤ id.toNat ∧ id.toNat < T.pgs.length ∧ id = (id.toNat : Int) ∧ ∃ y, T.pgs[id.toNat]? = some (some y) := by
  unfold thereR at h
  by_cases h1 : id < 1 ∨ (T.pgs.length : Int) ≤ id
  · rw [if_pos h1] at h; cases h
  · rw [if_neg h1] at h
    have h2 : ¬ (T.sh id.toNat).kind = 255 := fun e => by rw [if_pos e] at h; cases h
    refine ⟨by omega, by omega, by omega, ?_⟩
    cases hz : T.pgs[id.toNat]? with
    | none => rw [List.getElem?_eq_getElem (by omega : id.toNat < T.pgs.length)] at hz; cases hz
    | some o =>
      cases o with
      | none => exact absurd (by rw [Pd.Ab.sh_free (by omega) hz]; rfl) h2
      | some y => exact ⟨y, rfl⟩
theorem write_zero {T : Pd.Ab} {id k : Int} {b : ByteArray} (h : wrR T id k b = 0) : (thereR T.pgs.length id (T.sh id.toNat)).2 = 0 ∧ 1 ≤ k ∧ k < 255 ∧ b.size ≤ 500 := by
  unfold wrR writeR at h
  by_cases h1 : (thereR T.pgs.length id (T.sh id.toNat)).2 = 0
  · rw [if_neg (by rw [h1]; simp)] at h
    by_cases h2 : k < 1 ∨ 255 ≤ k
    · rw [if_pos h2] at h; cases h
    · rw [if_neg h2] at h
      by_cases h3 : 500 < b.size
      · rw [if_pos h3] at h; cases h
      · exact ⟨h1, by omega, by omega, by omega⟩
  · rw [if_pos h1] at h; exact absurd h h1
end Go.Proofs.YtcfninpokngmlaaGreatDoor
namespace Pd
open Wl
theorem Fine.set {cnt : Nat} {m : Mp} (h : Fine cnt m) {i : Nat} {x : Sheet} (hi : i < cnt) (hx : x.Fine) : Fine cnt (set m i x) := fun p hp => by
  rcases set_keys x i m p hp with rfl | hp
  · exact ⟨hi, hx⟩
  · exact h p hp
theorem TxI.write {cnt : Nat} {S T : Ab} {tm : Mp} (h : TxI cnt S T tm) {i : Nat} {x y : Sheet} (h1 : 1 ≤ i) (hy : T.pgs[i]? = some (some y)) (hx : x.Fine ∧ x.kind ≤ 254) : TxI cnt S (T.write i x) (set tm i x) := by
  have hl := (List.getElem?_eq_some_iff.1 hy).1
  have hm := h.ok.most
  have hlen : (T.write i x).pgs.length = T.pgs.length := by show (T.pgs.set i (some x)).length = _; rw [List.length_set]
  have hst : (T.write i x).stt = T.stt := by unfold Ab.stt; rw [hlen]; rfl
  refine ⟨h.ok.write h1 hy hx, h.up.set x i, h.fine.set (by omega) hx.1, fun j hj hjl => ?_, ?_, fun e => absurd e (set_ne_nil _ _ _)⟩
  · rw [get_set x i j h.up, T.write_sh i j x h1 hl]
    by_cases e : i = j
    · rw [if_pos e, if_pos e.symm]; exact .inl rfl
    · rw [if_neg e, if_neg (fun h => e h.symm)]
      exact h.has j hj (by omega)
  · rw [get_set x i 0 h.up, if_neg (by omega), hst]
    exact h.zero
/- a change of the state: page 0 too -/
theorem TxI.turn {cnt : Nat} {S T T' : Ab} {tm : Mp} (h : TxI cnt S T tm) (hok : T'.Ok cnt) {i : Nat} {x : Sheet} (h1 : 1 ≤ i) (hi : i < cnt) (hx : x.Fine) (hlen : T'.pgs.length = T.pgs.length ∨ (i = T.pgs.length ∧ T'.pgs.length = i + 1)) (hsh : ∀ j, 1 ≤ j → j < T'.pgs.length → T'.sh j = if j = i then x else T.sh j) : TxI cnt S T' (set (set tm i x) 0 T'.stt.sheet) := by
  have hs := h.ok.small
  have hf0 : T'.stt.sheet.Fine := by have := T'.sh_zero; rw [← this]; exact Ab.sh_fine hok 0
  refine ⟨hok, (h.up.set x i).set _ 0, (h.fine.set hi hx).set (by omega) hf0, fun j hj hjl => ?_, .inl ?_, fun e => absurd e (set_ne_nil _ _ _)⟩
  · rw [get_set _ 0 j (h.up.set x i), if_neg (by omega), get_set x i j h.up, hsh j hj hjl]
    by_cases e : i = j
    · rw [if_pos e, if_pos e.symm]; exact .inl rfl
    · rw [if_neg e, if_neg (fun h => e h.symm)]
      exact h.has j hj (by omega)
  · rw [get_set _ 0 0 (h.up.set x i), if_pos rfl]
theorem TxI.alloc {cnt : Nat} {S T : Ab} {tm : Mp} (h : TxI cnt S T tm) (hf : T.freed = [] → T.pgs.length < cnt) : TxI cnt S T.alloc (set (set tm T.allocI page1) 0 T.alloc.stt.sheet) := by
  have hok := h.ok.alloc hf
  have hp := Ab.allocI_pos h.ok
  have hl := Ab.allocI_lt h.ok
  have hm := hok.most
  have hh := T.alloc_high
  refine h.turn hok hp (by omega) page1_fine.1 ?_ (fun j hj hjl => Ab.alloc_sh h.ok j hj hjl)
  by_cases e : T.freed = []
  · rw [if_pos e] at hh
    have : T.allocI = T.pgs.length := by unfold Ab.allocI; rw [if_pos e]
    exact .inr ⟨this, by omega⟩
  · rw [if_neg e] at hh
    exact .inl hh
theorem free_fine (a : Nat) : (freeSheet a).Fine := ⟨by show 1 ≤ 255; omega, by show 255 ≤ 255; omega, by show (put a 4).size ≤ 500; rw [put_size]; omega⟩
theorem TxI.free {cnt : Nat} {S T : Ab} {tm : Mp} (h : TxI cnt S T tm) {i : Nat} {y : Sheet} (h1 : 1 ≤ i) (hy : T.pgs[i]? = some (some y)) : TxI cnt S (T.free i) (set (set tm i (freeSheet T.stt.last)) 0 (T.free i).stt.sheet) := by
  have hl := (List.getElem?_eq_some_iff.1 hy).1
  have hm := h.ok.most
  have hlen : (T.free i).pgs.length = T.pgs.length := by show (T.pgs.set i none).length = _; rw [List.length_set]
  exact h.turn (h.ok.free h1 hy) h1 (by omega) (free_fine _) (.inl hlen) (fun j hj hjl => Ab.free_sh h.ok h1 hy j hj (by omega))
theorem TxI.root {cnt : Nat} {S T : Ab} {tm : Mp} (h : TxI cnt S T tm) (i n : Nat) (hn : n ≤ 2147483647) : TxI cnt S (T.root i n) (set tm 0 (T.root i n).stt.sheet) := by
  have hok := h.ok.root i n hn
  have hf0 : (T.root i n).stt.sheet.Fine := by have := (T.root i n).sh_zero; rw [← this]; exact Ab.sh_fine hok 0
  have hpos := h.ok.pos
  have hm := h.ok.most
  refine ⟨hok, h.up.set _ 0, h.fine.set (by omega) hf0, fun j hj hjl => ?_, .inl ?_, fun e => absurd e (set_ne_nil _ _ _)⟩
  · rw [get_set _ 0 j h.up, if_neg (by omega), T.root_sh i n j hj]
    exact h.has j hj (by rw [(T.root_pgs i n).1] at hjl; exact hjl)
  · rw [get_set _ 0 0 h.up, if_pos rfl]
end Pd
namespace Go.Proofs.YtcfninpokngmlaaGreatDoor
theorem up_stt {T : Pd.Ab} (e : T.freed = []) : upSt T.stt = T.alloc.stt := by
  unfold upSt Pd.Ab.stt Pd.Ab.alloc
  rw [if_pos e]
  simp [e]
theorem un_stt {T : Pd.Ab} (e : T.freed ≠ []) : unSt T.stt (T.freed.dropLast.getLast?.getD 0) = T.alloc.stt := by
  unfold unSt Pd.Ab.stt Pd.Ab.alloc
  rw [if_neg e]
  simp
theorem free_stt (T : Pd.Ab) (i : Nat) : freeSt T.stt i = (T.free i).stt := by
  unfold freeSt Pd.Ab.stt Pd.Ab.free
  simp
theorem root_stt (T : Pd.Ab) (i n : Nat) : rootSt T.stt i n = (T.root i n).stt := by
  rcases i with _ | _ | _ | i <;> rfl
theorem tsees {K : Nat} {d : Pd.Db} {S T : Pd.Ab} {tm : Pd.Mp} {sp : Bool} (I : Pd.Inv K d S) (h : Pd.TxI d.cnt S T tm) {i : Nat} (h1 : 1 ≤ i) (h2 : i < T.pgs.length) : Pd.TSees ⟨T.stt, tm, sp⟩ d i (T.sh i) := by
  rcases h.has i h1 h2 with e | ⟨e, e2, e3⟩
  · exact .inl e
  · refine .inr ⟨e, ?_⟩
    rw [e3]
    rcases I.fnd.has i h1 e2 with g | ⟨g, g2⟩
    · exact .inl g
    · exact .inr ⟨g, by rw [Wl.flat_nil I.pend]; exact g2, Pd.Ab.sh_fine I.fnd.ok i⟩
end Go.Proofs.YtcfninpokngmlaaGreatDoor
