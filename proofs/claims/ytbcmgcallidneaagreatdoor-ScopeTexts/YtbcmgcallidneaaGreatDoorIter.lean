/- Proved: the function of Ups goes through the directories of a path, from the nearest one to the root. -/
import Derived.Test.YtbcmgcallidneaaGreatDoorRng
namespace Go.Proofs.YtbcmgcallidneaaGreatDoor
open Go.RowKit Go.Shelf
attribute [local go_sem] Oper.semAt_some
/- what comes next is u, or nothing does -/
def At (p : Pm.T) (pre : List Pm.T) (u : Pm.T) : Prop := Pm.ups p = pre ++ u :: Pm.ups u ∧ u.length ≤ 96
def PreU (p : Pm.T) (pre : List Pm.T) (x : Pm.T) : Prop := At p pre x
def StopU (p : Pm.T) (xs : List Pm.T) : Prop := ∃ pre x, xs = pre ++ [x] ∧ PreU p pre x
theorem parent_len {p q : Pm.T} (h : Pm.parent p = some q) : q.length ≤ 96 := by
  have h1 := Pm.parent_shorter h
  rcases Pm.cases_isP p with rfl | h' | h'
  · rw [Pm.parent_root] at h; cases h
  · rw [Pm.parent_no h'] at h; cases h
  · have := h'.len; omega
def St (p : Pm.T) (pre : List Pm.T) (o : Option Pm.T) : Prop := (o = none ∧ Pm.ups p = pre) ∨ ∃ u, o = some u ∧ At p pre u
theorem st_start (p : Pm.T) : St p [] (Pm.parent p) := by
  cases h : Pm.parent p with
  | none => exact .inl ⟨rfl, Pm.ups_none h⟩
  | some q => exact .inr ⟨q, rfl, by rw [Pm.ups_some h]; rfl, parent_len h⟩
theorem st_next {p u : Pm.T} {pre : List Pm.T} (h : At p pre u) : St p (pre ++ [u]) (Pm.parent u) := by
  cases hu : Pm.parent u with
  | none => exact .inl ⟨rfl, by rw [h.1, Pm.ups_none hu]⟩
  | some q => exact .inr ⟨q, rfl, by rw [h.1, Pm.ups_some hu]; simp, parent_len hu⟩
/- a text and whether it counts: how many rounds may follow -/
def left : Value → Value → Nat
  | .string s, .bool true => s.size + 1
  | _, _ => 0
theorem left_less (u : Pm.T) : left (.string (mk ((Pm.parent u).getD []))) (.bool (Pm.parent u).isSome) < left (.string (mk u)) (.bool true) := by
  cases h : Pm.parent u with
  | none => exact Nat.succ_pos _
  | some q =>
    have := Pm.parent_shorter h
    show q.length + 1 < u.length + 1
    omega
set_option maxHeartbeats 2000000 in
set_option maxRecDepth 20000 in
theorem ups_yields (n : Nat) (w : World) (Bp : Nat) (s : ByteArray) (hp : Boxed w Bp 9 (.string s)) (hs : s.size < 4294967281) (hT : Tab w) (M : Nat) (w0 : World) (hT0 : Tab w0) (hM : w0.heap.size ≤ M) :
    Yields n 102 #[.pointer (some ⟨Bp, 0, none⟩)] M (PreU (bl s)) (fun xs => xs = Pm.ups (bl s)) (StopU (bl s)) w := by
  intro J Jx W hz hb hJ hY h0
  have HJ : Hid (∀ s A B, J s A → Below A.heap.size A B → J s B) := hJ
  have HY : Hid (∀ pre x A, J pre A → PreU (bl s) pre x → YieldAt Fence.wide (n - 1) Tryz.prog (w.heap.size + 1) #[.string (mk x)] A fun e B =>
      (e = .returned (.bool true) ∧ J (pre ++ [x]) B ∧ Kept M A B) ∨ (e = .returned (.bool false) ∧ Jx (pre ++ [x]) B)) := hY
  have hcW : W.cell? ⟨Bp, 0, none⟩ = some (.string s) := (hb.cell (p := ⟨Bp, 0, none⟩) hp.lt).trans hp.cell
  have HT : Hid (Tab W) := hT.below hb
  have HT0 : Hid (Tab w0) := hT0
  have HH0 : Hid (J [] W) := h0
  have HP1 : Hid (∀ W : World, Tab W → Calls Tryz.prog 103 #[.string s] W fun e w' => e = .returned (.tuple #[.string (mk ((Pm.parent (bl s)).getD [])), .bool (Pm.parent (bl s)).isSome]) ∧ Below W.heap.size W w') := fun W hW => parent_any s W hs hW
  have HP2 : Hid (∀ (u : Pm.T) (W : World), u.length ≤ 96 → Tab W → Calls Tryz.prog 103 #[.string (mk u)] W fun e w' => e = .returned (.tuple #[.string (mk ((Pm.parent u).getD [])), .bool (Pm.parent u).isSome]) ∧ Below W.heap.size W w') := fun u W hu hW => parent_any (mk u) W (by rw [mk_size]; omega) hW
  clear hY hJ h0 hz hb hp hT hT0
  generalize w.heap.size + 1 = l at *
  refine callsIn_of_wp Tryz.func102 rfl trivial ?_ rfl
  simp only [Tryz.ntmps102, List.size_toArray, List.length_cons, List.length_nil, Nat.reduceAdd, Nat.reduceSub, Array.replicate_succ, Array.replicate_zero, List.push_toArray, List.append_toArray, List.nil_append, List.cons_append]
  gi_wp2_with fail
  refine ⟨trivial, fun h => by simp [Fence.wide] at h, ?_⟩
  refine (callsIn_wide.2 (HP1.out _ HT.out)).mono ?_
  rintro e W1 ⟨rfl, hB1⟩
  have HT1 : Hid (Tab W1) := HT.out.below hB1
  have HJ1 : Hid (J [] W1) := HJ.out _ _ _ HH0.out hB1
  clear hB1 HP1 HH0 HT hcW
  gi_wp2_with fail
  gi_loopw [3, 4] (fun s3 s4 wr => ∃ (pre : List Pm.T) (o : Option Pm.T), s3 = .string (mk (o.getD [])) ∧ s4 = .bool o.isSome ∧ St (bl s) pre o ∧ J pre wr ∧ Tab wr) (fun s3 s4 _ => left s3 s4)
  case atStart => exact ⟨[], Pm.parent (bl s), rfl, rfl, st_start _, HJ1.out, HT1.out⟩
  case round =>
    obtain ⟨pre, o, rfl, rfl, hst, hj, ht⟩ := hrel
    have HJr : Hid (J pre wr) := hj
    have HTr : Hid (Tab wr) := ht
    clear hj ht HJ1 HT1
    rcases hst with ⟨rfl, hu⟩ | ⟨u, rfl, hu⟩
    · have HU : Is (Pm.ups (bl s)) pre := ⟨hu⟩
      clear hu
      gi_wp2_with fail
      refine ⟨fun _ h => (by cases h), ?_⟩
      gi_wp2_with fail
      go_end0
      exact ⟨⟨_, rfl⟩, .inl ⟨pre, HU.eq.symm, HJr.out⟩⟩
    · have HU : Hid (At (bl s) pre u) := hu
      clear hu
      obtain ⟨fn, tmps, assign, body, hy, hRR⟩ := HY.out pre u wr HJr.out HU.out
      simp only [Option.getD_some, Option.isSome_some]
      gi_wp2_with fail
      refine ⟨fun h => by simp [Fence.wide] at h, ?_⟩
      refine hRR.mono ?_
      clear hRR hy
      rintro e W3 (⟨rfl, hJ3, hk3⟩ | ⟨rfl, hJx3⟩)
      · have HJ3 : Hid (J (pre ++ [u]) W3) := hJ3
        have HT3 : Hid (Tab W3) := HTr.out.kept hk3 HT0.out hM
        clear hJ3 hk3
        gi_wp2_with fail
        refine ⟨trivial, fun h => by simp [Fence.wide] at h, ?_⟩
        refine (callsIn_wide.2 (HP2.out u W3 HU.out.2 HT3.out)).mono ?_
        rintro e W4 ⟨rfl, hB4⟩
        have HJ4 : Hid (J (pre ++ [u]) W4) := HJ.out _ _ _ HJ3.out hB4
        have HT4 : Hid (Tab W4) := HT3.out.below hB4
        clear hB4
        gi_wp2_with fail
        go_roundw
        case rel => exact ⟨pre ++ [u], Pm.parent u, rfl, rfl, st_next HU.out, HJ4.out, HT4.out⟩
        case measure => exact left_less u
      · have HJX : Hid (Jx (pre ++ [u]) W3) := hJx3
        clear hJx3
        gi_wp2_with fail
        go_end0
        exact ⟨⟨_, rfl⟩, .inr ⟨_, ⟨pre, u, rfl, HU.out⟩, HJX.out⟩⟩
end Go.Proofs.YtbcmgcallidneaaGreatDoor
