/- Proved: how a log of the program lies in memory, alone and with its disk. -/
import Derived.Test.YtcfninpokngmlaaGreatDoorPStr
import Derived.Test.YtcfninpokngmlaaGreatDoorMathV
import Derived.Test.YtcfninpokngmlaaGreatDoorWorks
namespace Go.Proofs.YtcfninpokngmlaaGreatDoor
open Go.RowKit
def pcells (l : Wl.Lg) (g : Nat) (vr vw : Value) : Array Value := #[ptr g, .int .i64 (l.base : Int), .int .i64 (64 * ((l.n : Int) - 1)), .int .i64 (l.epoch : Int), .int .i64 (l.bytes.size : Int), vr, vw, .int .i64 (Wl.total l.wait : Int), .bool l.lost]
def pfoot (q : Nat) (vr vw : Value) : List Nat := q :: (vr.ownBlock.toList ++ vw.ownBlock.toList)
/- the program's log: at block q, on the disk at block g -/
structure Pk (w : World) (q g : Nat) (vr vw : Value) (l : Wl.Lg) : Prop where
  row : w.heap[q]? = some (.cells (pcells l g vr vw) 116 (0, 0))
  recs : OwnS w 0 vr l.recs
  wait : OwnS w 0 vw l.wait
  hr : vr.ownBlock ≠ some q
  hw : vw.ownBlock ≠ some q
  ra : ∀ k, vr.ownBlock = some k → vw.ownBlock ≠ some k
  ok : l.Ok
section
variable {w w' : World} {q g : Nat} {vr vw vr' vw' v' : Value} {l l' : Wl.Lg}
theorem Pk.cell (H : Pk w q g vr vw l) (i : Nat) : w.cell? ⟨q, i, none⟩ = (pcells l g vr vw)[i]? := cell_of_row w q i _ _ (0, 0) H.row
theorem Pk.c0 (H : Pk w q g vr vw l) : w.cell? ⟨q, 0, none⟩ = some (ptr g) := by rw [H.cell]; rfl
theorem Pk.c1 (H : Pk w q g vr vw l) : w.cell? ⟨q, 1, none⟩ = some (.int .i64 (l.base : Int)) := by rw [H.cell]; rfl
theorem Pk.c2 (H : Pk w q g vr vw l) : w.cell? ⟨q, 2, none⟩ = some (.int .i64 (64 * ((l.n : Int) - 1))) := by rw [H.cell]; rfl
theorem Pk.c3 (H : Pk w q g vr vw l) : w.cell? ⟨q, 3, none⟩ = some (.int .i64 (l.epoch : Int)) := by rw [H.cell]; rfl
theorem Pk.c4 (H : Pk w q g vr vw l) : w.cell? ⟨q, 4, none⟩ = some (.int .i64 (l.bytes.size : Int)) := by rw [H.cell]; rfl
theorem Pk.c5 (H : Pk w q g vr vw l) : w.cell? ⟨q, 5, none⟩ = some vr := by rw [H.cell]; rfl
theorem Pk.c6 (H : Pk w q g vr vw l) : w.cell? ⟨q, 6, none⟩ = some vw := by rw [H.cell]; rfl
theorem Pk.c7 (H : Pk w q g vr vw l) : w.cell? ⟨q, 7, none⟩ = some (.int .i64 (Wl.total l.wait : Int)) := by rw [H.cell]; rfl
theorem Pk.c8 (H : Pk w q g vr vw l) : w.cell? ⟨q, 8, none⟩ = some (.bool l.lost) := by rw [H.cell]; rfl
theorem Pk.fz (H : Pk w q g vr vw l) (i : Nat) : w.frozen? ⟨q, i, none⟩ = false := frozen_of_row w q i _ _ H.row
theorem Pk.lt (H : Pk w q g vr vw l) : ∀ k ∈ pfoot q vr vw, k < w.heap.size := fun k hk => by
  unfold pfoot at hk
  rcases List.mem_cons.1 hk with rfl | hk
  · exact (Array.getElem?_eq_some_iff.1 H.row).1
  · rcases List.mem_append.1 hk with hk | hk
    · exact (H.recs.lt k (by simpa using hk)).2
    · exact (H.wait.lt k (by simpa using hk)).2
theorem Pk.keep (H : Pk w q g vr vw l) {fs : List Nat} (hc : Chg fs w w') (ha : ∀ k ∈ pfoot q vr vw, k ∉ fs) : Pk w' q g vr vw l := by
  have e : ∀ k ∈ pfoot q vr vw, w'.heap[k]? = w.heap[k]? := fun k hk => hc.block k (H.lt k hk) (ha k hk)
  exact ⟨(e q (by simp [pfoot])).trans H.row, own_keep H.recs (fun k hk => e k (by simp [pfoot, hk])), own_keep H.wait (fun k hk => e k (by simp [pfoot, hk])), H.hr, H.hw, H.ra, H.ok⟩
theorem Pk.below (H : Pk w q g vr vw l) (hb : Below w.heap.size w w') : Pk w' q g vr vw l := H.keep (fs := []) (Chg.of_below hb) (fun _ _ h => by cases h)
theorem Pk.alloc (H : Pk w q g vr vw l) (o : Obj) : Pk (w.alloc o) q g vr vw l := H.keep (Chg.alloc [] w o) (fun _ _ h => by cases h)
theorem Pk.drew (H : Pk w q g vr vw l) : Pk w.drew q g vr vw l := ⟨H.row, H.recs, H.wait, H.hr, H.hw, H.ra, H.ok⟩
theorem Pk.drewN (H : Pk w q g vr vw l) (n : Nat) : Pk (w.drewN n) q g vr vw l := ⟨H.row, H.recs, H.wait, H.hr, H.hw, H.ra, H.ok⟩
/- one cell of the log is written, its lists stay -/
theorem Pk.setSame (H : Pk w q g vr vw l) (i : Nat) (x : Value) (e : (pcells l g vr vw).setIfInBounds i x = pcells l' g vr vw) (hr : l'.recs = l.recs) (hw : l'.wait = l.wait) (ok : l'.Ok) : Pk (w.setCell ⟨q, i, none⟩ x) q g vr vw l' ∧ Turn (pfoot q vr vw) (pfoot q vr vw) w (w.setCell ⟨q, i, none⟩ x) := by
  refine ⟨⟨?_, ?_, ?_, H.hr, H.hw, H.ra, ok⟩, ⟨(Chg.setCell w q i x).mono (fun k hk => by rw [List.mem_singleton.1 hk]; simp [pfoot]), fun _ h => .inl h⟩⟩
  · rw [heap_setCell_same w q i _ _ _ H.row, e]
  · rw [hr]; exact own_keep H.recs (fun k hk => heap_setCell_other _ _ _ _ (fun e => H.hr (by rw [hk, e])))
  · rw [hw]; exact own_keep H.wait (fun k hk => heap_setCell_other _ _ _ _ (fun e => H.hw (by rw [hk, e])))
end
theorem own_nil (w : World) : OwnS w 0 (.slice none 0 0) [] := ⟨rfl, .inl ⟨rfl, rfl⟩⟩
theorem Turn.left {fs fs' gs : List Nat} {w w' : World} (h : Turn fs fs' w w') : Turn (fs ++ gs) (fs' ++ gs) w w' := ⟨h.chg.mono (fun k hk => List.mem_append.2 (.inl hk)), fun k hk => by
  rcases List.mem_append.1 hk with h1 | h1
  · rcases h.grow k h1 with h2 | h2
    · exact .inl (List.mem_append.2 (.inl h2))
    · exact .inr h2
  · exact .inl (List.mem_append.2 (.inr h1))⟩
theorem Turn.right {fs fs' gs : List Nat} {w w' : World} (h : Turn fs fs' w w') : Turn (gs ++ fs) (gs ++ fs') w w' := ⟨h.chg.mono (fun k hk => List.mem_append.2 (.inr hk)), fun k hk => by
  rcases List.mem_append.1 hk with h1 | h1
  · exact .inl (List.mem_append.2 (.inl h1))
  · rcases h.grow k h1 with h2 | h2
    · exact .inl (List.mem_append.2 (.inr h2))
    · exact .inr h2⟩
/- the log and its disk -/
structure LP (w : World) (q g : Nat) (vr vw : Value) (l : Wl.Lg) (kg : Nat) (vp : Value) (s : Sc.St) : Prop where
  pk : Pk w q g vr vw l
  dk : Dk w g kg vp s
  ap : ∀ k ∈ pfoot q vr vw, k ∉ foot g kg vp
  fits : l.base + l.n ≤ s.kept.length
def lfoot (q g : Nat) (vr vw : Value) (kg : Nat) (vp : Value) : List Nat := pfoot q vr vw ++ foot g kg vp
section
variable {w w' : World} {q g kg : Nat} {vr vw vr' vw' vp vp' : Value} {l l' : Wl.Lg} {s s' : Sc.St}
theorem LP.d (L : LP w q g vr vw l kg vp s) (hD : Dk w' g kg vp' s') (hT : Turn (foot g kg vp) (foot g kg vp') w w') (hl : s'.kept.length = s.kept.length) : LP w' q g vr vw l kg vp' s' ∧ Turn (lfoot q g vr vw kg vp) (lfoot q g vr vw kg vp') w w' :=
  ⟨⟨L.pk.keep hT.chg L.ap, hD, hT.apart L.ap L.pk.lt, by rw [hl]; exact L.fits⟩, hT.right⟩
theorem LP.p (L : LP w q g vr vw l kg vp s) (hP : Pk w' q g vr' vw' l') (hT : Turn (pfoot q vr vw) (pfoot q vr' vw') w w') (hb : l'.base = l.base) (hn : l'.n = l.n) : LP w' q g vr' vw' l' kg vp s ∧ Turn (lfoot q g vr vw kg vp) (lfoot q g vr' vw' kg vp) w w' := by
  have ha : ∀ k ∈ foot g kg vp, k ∉ pfoot q vr vw := fun k hk hf => L.ap k hf hk
  exact ⟨⟨hP, L.dk.keep hT.chg ha, fun k hk hr => hT.apart ha L.dk.lt k hr hk, by rw [hb, hn]; exact L.fits⟩, hT.left⟩
theorem LP.below (L : LP w q g vr vw l kg vp s) (hB : Below w.heap.size w w') : LP w' q g vr vw l kg vp s := ⟨L.pk.below hB, L.dk.below hB, L.ap, L.fits⟩
theorem LP.drew (L : LP w q g vr vw l kg vp s) : LP w.drew q g vr vw l kg vp s := ⟨L.pk.drew, L.dk.drew, L.ap, L.fits⟩
theorem LP.lt (L : LP w q g vr vw l kg vp s) : ∀ k ∈ lfoot q g vr vw kg vp, k < w.heap.size := fun k hk => by
  rcases List.mem_append.1 hk with h | h
  · exact L.pk.lt k h
  · exact L.dk.lt k h
end
/- what a call of a log that turns both answers -/
def LDoes (w : World) (q g : Nat) (vr vw : Value) (kg : Nat) (vp : Value) (l : Wl.Lg) (s : Sc.St) (n : Int) (e : Ending) (w' : World) : Prop :=
  ∃ vr' vw' vp', e = .returned (.int .i64 n) ∧ LP w' q g vr' vw' l kg vp' s ∧ Turn (lfoot q g vr vw kg vp) (lfoot q g vr' vw' kg vp') w w'
/- what a call of a log that turns it alone answers -/
def PDoes (w : World) (q g : Nat) (vr vw : Value) (l : Wl.Lg) (n : Int) (e : Ending) (w' : World) : Prop :=
  ∃ vr' vw', e = .returned (.int .i64 n) ∧ Pk w' q g vr' vw' l ∧ Turn (pfoot q vr vw) (pfoot q vr' vw') w w'
end Go.Proofs.YtcfninpokngmlaaGreatDoor
