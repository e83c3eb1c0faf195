/- Proved: how the document's disk lies in memory, and what its small calls make of it. -/
import Derived.Test.YtbhbfnnlpkikbaaWorks
import Derived.BigRegion
import Derived.BigQuiet
namespace Go.Proofs.Ytbhbfnnlpkikbaa
open Go.RowKit
def rwc (p : Nat × ByteArray) : List Value := [.int .i64 (p.1 : Int), .string p.2]
def rcells (s : Sc.St) (vk vp : Value) : Array Value := #[vk, vp, .bool s.down, .int .i64 s.left, .int .i64 (s.dn : Int)]
def rfoot (h : Nat) (vk vp : Value) : List Nat := h :: (vk.ownBlock.toList ++ vp.ownBlock.toList)
structure Rk (w : World) (h : Nat) (vk vp : Value) (s : Sc.St) : Prop where
  row : w.heap[h]? = some (.cells (rcells s vk vp) 38 (0, 0))
  kept : w.ownsRow 0 9 1 vk s.kept.length (s.kept.map Value.string)
  pend : w.ownsRow 0 71 2 vp s.pend.length (s.pend.flatMap rwc)
  hk : vk.ownBlock ≠ some h
  hp : vp.ownBlock ≠ some h
  kp : ∀ b, vk.ownBlock = some b → vp.ownBlock ≠ some b
  ok : Sc.Ok s
section
variable {w w' : World} {h : Nat} {vk vp : Value} {s : Sc.St}
theorem Rk.cell (H : Rk w h vk vp s) (i : Nat) : w.cell? ⟨h, i, none⟩ = (rcells s vk vp)[i]? := cell_of_row w h i _ _ (0, 0) H.row
theorem Rk.c0 (H : Rk w h vk vp s) : w.cell? ⟨h, 0, none⟩ = some vk := by rw [H.cell]; rfl
theorem Rk.c1 (H : Rk w h vk vp s) : w.cell? ⟨h, 1, none⟩ = some vp := by rw [H.cell]; rfl
theorem Rk.c2 (H : Rk w h vk vp s) : w.cell? ⟨h, 2, none⟩ = some (.bool s.down) := by rw [H.cell]; rfl
theorem Rk.c3 (H : Rk w h vk vp s) : w.cell? ⟨h, 3, none⟩ = some (.int .i64 s.left) := by rw [H.cell]; rfl
theorem Rk.c4 (H : Rk w h vk vp s) : w.cell? ⟨h, 4, none⟩ = some (.int .i64 (s.dn : Int)) := by rw [H.cell]; rfl
theorem Rk.fz (H : Rk w h vk vp s) (i : Nat) : w.frozen? ⟨h, i, none⟩ = false := frozen_of_row w h i _ _ H.row
theorem Rk.lt (H : Rk w h vk vp s) : ∀ k ∈ rfoot h vk vp, k < w.heap.size := fun k hk => by
  unfold rfoot at hk
  rcases List.mem_cons.1 hk with rfl | hk
  · exact (Array.getElem?_eq_some_iff.1 H.row).1
  · rcases List.mem_append.1 hk with hk | hk
    · exact (H.kept.lt k (by simpa using hk)).2
    · exact (H.pend.lt k (by simpa using hk)).2
theorem Rk.keep (H : Rk w h vk vp s) {fs : List Nat} (hc : Chg fs w w') (ha : ∀ k ∈ rfoot h vk vp, k ∉ fs) : Rk w' h vk vp s := by
  have e : ∀ k ∈ rfoot h vk vp, w'.heap[k]? = w.heap[k]? := fun k hk => hc.block k (H.lt k hk) (ha k hk)
  exact ⟨(e h (by simp [rfoot])).trans H.row, own_keep H.kept (fun k hk => e k (by simp [rfoot, hk])), own_keep H.pend (fun k hk => e k (by simp [rfoot, hk])), H.hk, H.hp, H.kp, H.ok⟩
theorem Rk.below (H : Rk w h vk vp s) (hb : Below w.heap.size w w') : Rk w' h vk vp s := H.keep (fs := []) (Chg.of_below hb) (fun _ _ h => by cases h)
theorem Rk.alloc (H : Rk w h vk vp s) (o : Obj) : Rk (w.alloc o) h vk vp s := H.keep (Chg.alloc [] w o) (fun _ _ h => by cases h)
theorem Rk.drew (H : Rk w h vk vp s) : Rk w.drew h vk vp s := ⟨H.row, H.kept, H.pend, H.hk, H.hp, H.kp, H.ok⟩
theorem Rk.drewN (H : Rk w h vk vp s) (n : Nat) : Rk (w.drewN n) h vk vp s := ⟨H.row, H.kept, H.pend, H.hk, H.hp, H.kp, H.ok⟩
theorem Rk.setSame (H : Rk w h vk vp s) {t : Sc.St} (i : Nat) (x : Value) (e : (rcells s vk vp).setIfInBounds i x = rcells t vk vp) (hk : t.kept = s.kept) (hp : t.pend = s.pend) (ok : Sc.Ok t) : Rk (w.setCell ⟨h, i, none⟩ x) h vk vp t := by
  refine ⟨?_, ?_, ?_, H.hk, H.hp, H.kp, ok⟩
  · rw [heap_setCell_same w h i _ _ _ H.row, e]
  · rw [hk]; exact own_keep H.kept (fun k hk => heap_setCell_other _ _ _ _ (fun e => H.hk (by rw [hk, e])))
  · rw [hp]; exact own_keep H.pend (fun k hk => heap_setCell_other _ _ _ _ (fun e => H.hp (by rw [hk, e])))
/- nothing is pending any more -/
theorem Rk.clear (H : Rk w h vk vp s) {t : Sc.St} (hk : t.kept = s.kept) (hp : t.pend = []) (hd : t.down = s.down) (hl : t.left = s.left) (hn : t.dn = s.dn) (ok : Sc.Ok t) : Rk (w.setCell ⟨h, 1, none⟩ (.slice none 0 0)) h vk (.slice none 0 0) t := by
  refine ⟨?_, ?_, ?_, H.hk, by simp [Value.ownBlock], fun b _ => by simp [Value.ownBlock], ok⟩
  · rw [heap_setCell_same w h 1 _ _ _ H.row]
    unfold rcells
    rw [hd, hl, hn]
    rfl
  · rw [hk]; exact own_keep H.kept (fun k hk => heap_setCell_other _ _ _ _ (fun e => H.hk (by rw [hk, e])))
  · rw [hp]; exact World.ownsRow_nil _ _ _ _
theorem rfoot_set (h : Nat) (vk vp : Value) (w : World) (i : Nat) (x : Value) : Turn (rfoot h vk vp) (rfoot h vk vp) w (w.setCell ⟨h, i, none⟩ x) := ⟨(Chg.setCell w h i x).mono (fun k hk => by rw [List.mem_singleton.1 hk]; simp [rfoot]), fun _ h => .inl h⟩
theorem rfoot_nil (h : Nat) (vk vp : Value) (w : World) (i : Nat) (x : Value) : Turn (rfoot h vk vp) (rfoot h vk (.slice none 0 0)) w (w.setCell ⟨h, i, none⟩ x) := ⟨(Chg.setCell w h i x).mono (fun k hk => by rw [List.mem_singleton.1 hk]; simp [rfoot]), fun k hk => .inl (by
  simp only [rfoot, List.mem_cons, List.mem_append, Value.ownBlock, Option.mem_toList] at hk ⊢
  rcases hk with h | h | h
  · exact .inl h
  · exact .inr (.inl h)
  · cases h)⟩
theorem Rk.kval (H : Rk w h vk vp s) : ∃ g cap, vk = .slice (some ⟨g, 0, none⟩) s.kept.length cap ∧ s.kept.length ≤ cap ∧ cap ≤ 9223372036854775807 ∧ ∀ i, i < s.kept.length → w.cell? ⟨g, i, none⟩ = some (.string (s.kept.getD i Sc.zero64)) ∧ w.frozen? ⟨g, i, none⟩ = false := by
  rcases H.kept.2 with ⟨_, h2⟩ | ⟨g, cap, cur, hv, _, hh, hc, hm, hs, ht⟩
  · have := H.ok.one; omega
  · unfold maxLen at hm
    refine ⟨g, cap, hv, hc, by omega, fun i hi => ⟨?_, frozen_of_row w g i _ _ hh⟩⟩
    rw [cell_of_row w g i cur _ (0, 0) hh, ← Array.getElem?_toList]
    have e : (cur.toList.take (s.kept.length * 1))[i]? = (s.kept.map Value.string)[i]? := by rw [ht]
    rw [List.getElem?_take_of_lt (by omega)] at e
    rw [e, List.getElem?_map, List.getD_eq_getElem?_getD, List.getElem?_eq_getElem hi]
    rfl
theorem rwc_length (p : Nat × ByteArray) : (rwc p).length = 2 := rfl
theorem rwc_one (p : Nat × ByteArray) : ∀ v ∈ rwc p, v.oneCell' = true := fun v hv => by
  simp [rwc] at hv
  rcases hv with rfl | rfl <;> rfl
theorem Rk.pval (H : Rk w h vk vp s) : ∃ a cap, vp = .slice a s.pend.length cap ∧ s.pend.length ≤ cap ∧ cap ≤ 9223372036854775807 ∧ (0 < s.pend.length → ∃ g, a = some ⟨g, 0, none⟩ ∧ vp.ownBlock = some g ∧ ∀ i p, s.pend[i]? = some p → w.cell? ⟨g, i * 2, none⟩ = some (.int .i64 (p.1 : Int)) ∧ w.cell? ⟨g, i * 2 + 1, none⟩ = some (.string p.2)) := by
  rcases H.pend.2 with ⟨h1, h2⟩ | ⟨g, cap, cur, hv, _, hh, hc, hm, hs, ht⟩
  · exact ⟨none, 0, by rw [h2]; exact h1, by omega, by omega, fun h => by omega⟩
  · unfold maxLen at hm
    refine ⟨_, cap, hv, hc, by omega, fun _ => ⟨g, rfl, by rw [hv]; rfl, fun i p hp => ?_⟩⟩
    have hi := (List.getElem?_eq_some_iff.1 hp).1
    have e : ∀ j, j < 2 → cur.toList[i * 2 + j]? = (rwc p)[j]? := fun j hj => by
      have e := flat_at rwc 2 _ i p j (fun q _ => rwc_length q) hp hj
      rw [← ht, List.getElem?_take_of_lt (by omega)] at e
      exact e
    rw [cell_of_row w g _ cur _ (0, 0) hh, cell_of_row w g _ cur _ (0, 0) hh, ← Array.getElem?_toList, ← Array.getElem?_toList]
    exact ⟨e 0 (by omega), e 1 (by omega)⟩
end
/- what a call that turns the disk answers -/
def RDoes (w : World) (h : Nat) (vk vp : Value) (t : Sc.St) (n : Int) (e : Ending) (w' : World) : Prop :=
  ∃ vp', e = .returned (.int .i64 n) ∧ Rk w' h vk vp' t ∧ Turn (rfoot h vk vp) (rfoot h vk vp') w w'
theorem Rk.falls {w : World} {h : Nat} {vk vp : Value} {s : Sc.St} (H : Rk w h vk vp s) : Rk (w.setCell ⟨h, 2, none⟩ (.bool true)) h vk vp (Sc.fell s) := H.setSame 2 _ rfl rfl rfl (Sc.fell_ok H.ok)
set_option maxHeartbeats 400000 in
theorem roff_any (h : Nat) (vk vp : Value) (s : Sc.St) (w : World) (H : Rk w h vk vp s) :
    Calls Try.prog 31 #[ptr h] w (RDoes w h vk vp (Sc.offS s) (Sc.liveE s)) := by
  have c2 := H.c2
  have f2 := H.fz 2
  have HH : Hid (Rk w h vk vp s) := H
  clear H
  unfold Sc.offS Sc.liveE
  cases hd : s.down
  · rw [hd] at c2
    simp only [Bool.false_eq_true, if_false] at *
    go_enter Try.func31, Try.ntmps31
    go_wp2
    go_ret
    exact ⟨_, rfl, HH.out.falls, rfoot_set _ _ _ _ _ _⟩
  · rw [hd] at c2
    simp only [if_true] at *
    go_enter Try.func31, Try.ntmps31
    go_wp2
    go_ret
    exact ⟨_, rfl, HH.out, Turn.refl _ _⟩
set_option maxHeartbeats 400000 in
theorem rarm_any (h : Nat) (vk vp : Value) (s : Sc.St) (n : Int) (w : World) (H : Rk w h vk vp s) (hn : n ≤ 9223372036854775807) :
    Calls Try.prog 30 #[ptr h, .int .i64 n] w (RDoes w h vk vp (Sc.armS s n) (Sc.liveE s)) := by
  have c2 := H.c2
  have c3 := H.c3
  have f3 := H.fz 3
  have HH : Hid (Rk w h vk vp s) := H
  clear H
  unfold Sc.armS Sc.liveE
  cases hd : s.down
  · rw [hd] at c2
    simp only [Bool.false_eq_true, if_false] at *
    by_cases h0 : n < 0
    · have hm : decide (n < 0) = true := by simpa using h0
      have HN : Hid (Rk ((w.setCell ⟨h, 3, none⟩ (.int .i64 n)).setCell ⟨h, 3, none⟩ (.int .i64 (-1))) h vk vp (Sc.armed s n)) := by
        show Rk _ _ _ _ _
        have e : ((w.setCell ⟨h, 3, none⟩ (.int .i64 n)).setCell ⟨h, 3, none⟩ (.int .i64 (-1))).heap[h]? = some (.cells (rcells (Sc.armed s n) vk vp) 38 (0, 0)) := by
          rw [heap_setCell_same _ h 3 _ _ _ (heap_setCell_same w h 3 _ _ _ HH.out.row)]
          simp [rcells, Sc.armed, h0]
        have ne : ∀ k, k ≠ h → ((w.setCell ⟨h, 3, none⟩ (.int .i64 n)).setCell ⟨h, 3, none⟩ (.int .i64 (-1))).heap[k]? = w.heap[k]? := fun k hk => by
          rw [heap_setCell_other _ _ _ _ (by exact hk), heap_setCell_other _ _ _ _ (by exact hk)]
        exact ⟨e, own_keep HH.out.kept (fun k hk => ne k (fun e => HH.out.hk (by rw [hk, e]))), own_keep HH.out.pend (fun k hk => ne k (fun e => HH.out.hp (by rw [hk, e]))), HH.out.hk, HH.out.hp, HH.out.kp, Sc.armed_ok HH.out.ok hn⟩
      go_enter Try.func30, Try.ntmps30
      go_wp2
      go_ret
      exact ⟨_, rfl, HN.out, (rfoot_set _ _ _ _ _ _).trans (rfoot_set _ _ _ _ _ _)⟩
    · have hm : decide (n < 0) = false := by simpa using h0
      have HN : Hid (Rk (w.setCell ⟨h, 3, none⟩ (.int .i64 n)) h vk vp (Sc.armed s n)) := HH.out.setSame 3 _ (by simp [rcells, Sc.armed, h0]) rfl rfl (Sc.armed_ok HH.out.ok hn)
      go_enter Try.func30, Try.ntmps30
      go_wp2
      go_ret
      exact ⟨_, rfl, HN.out, rfoot_set _ _ _ _ _ _⟩
  · rw [hd] at c2
    simp only [if_true] at *
    go_enter Try.func30, Try.ntmps30
    go_wp2
    go_ret
    exact ⟨_, rfl, HH.out, Turn.refl _ _⟩
set_option maxHeartbeats 1000000 in
theorem rdoes_any (h : Nat) (vk vp : Value) (s : Sc.St) (w : World) (H : Rk w h vk vp s) (hn : s.dn ≤ 1000000000) :
    Calls Try.prog 39 #[ptr h] w fun e w' => e = .returned (.int .i64 (spendE s)) ∧ Rk w' h vk vp (spendS s) ∧ Turn (rfoot h vk vp) (rfoot h vk vp) w w' := by
  have c2 := H.c2
  have c3 := H.c3
  have c4 := H.c4
  have f2 := H.fz 2
  have f3 := H.fz 3
  have f4 := H.fz 4
  have hl := H.ok.left
  have HH : Hid (Rk w h vk vp s) := H
  clear H
  unfold spendE spendS
  obtain ⟨kept, pend, down, left, dn⟩ := s
  simp only at *
  by_cases h0 : left = 0
  · subst h0
    simp only [if_true]
    go_enter Try.func39, Try.ntmps39
    go_wp2
    go_ret
    exact ⟨rfl, HH.out.falls, rfoot_set _ _ _ _ _ _⟩
  · simp only [h0, if_false]
    have hb0 : (left == 0) = false := by simp [h0]
    by_cases h1 : 0 < left
    · have hd1 : decide (0 < left) = true := by simpa using h1
      have HN : Hid (Rk ((w.setCell ⟨h, 3, none⟩ (.int .i64 (left - 1))).setCell ⟨h, 4, none⟩ (.int .i64 ((dn : Int) + 1))) h vk vp (Sc.spent ⟨kept, pend, down, left, dn⟩)) := by
        have h1 : Rk (w.setCell ⟨h, 3, none⟩ (.int .i64 (left - 1))) h vk vp ⟨kept, pend, down, left - 1, dn⟩ := HH.out.setSame 3 _ rfl rfl rfl ⟨HH.out.ok.one, HH.out.ok.most, HH.out.ok.size, HH.out.ok.pat, HH.out.ok.psize, by simp only; omega⟩
        exact h1.setSame 4 _ (by simp [rcells, Sc.spent]; intro _; omega) rfl rfl ⟨HH.out.ok.one, HH.out.ok.most, HH.out.ok.size, HH.out.ok.pat, HH.out.ok.psize, Sc.spent_left HH.out.ok⟩
      go_enter Try.func39, Try.ntmps39
      go_wp2
      go_ret
      exact ⟨rfl, HN.out, (rfoot_set _ _ _ _ _ _).trans (rfoot_set _ _ _ _ _ _)⟩
    · have hd1 : decide (0 < left) = false := by simpa using h1
      have HN : Hid (Rk (w.setCell ⟨h, 4, none⟩ (.int .i64 ((dn : Int) + 1))) h vk vp (Sc.spent ⟨kept, pend, down, left, dn⟩)) :=
        HH.out.setSame 4 _ (by simp [rcells, Sc.spent]; intro _; omega) rfl rfl ⟨HH.out.ok.one, HH.out.ok.most, HH.out.ok.size, HH.out.ok.pat, HH.out.ok.psize, Sc.spent_left HH.out.ok⟩
      go_enter Try.func39, Try.ntmps39
      go_wp2
      go_ret
      exact ⟨rfl, HN.out, rfoot_set _ _ _ _ _ _⟩
end Go.Proofs.Ytbhbfnnlpkikbaa
