/- Proved: what is written to a builder of texts is there, and nothing else is changed. -/
import Derived.Test.YtcfninpokngmlaaGreatDoorDCopy
namespace Go.Proofs.YtcfninpokngmlaaGreatDoor
open Go.RowKit
/- a builder at block b, whose bytes lie from B on -/
structure Bd (B b : Nat) (v : Value) (t : ByteArray) (w : World) : Prop where
  le : B ≤ b
  row : ∃ p, w.heap[b]? = some (.cells #[p, v] 151 (0, 0)) ∧ (p = .pointer none ∨ p = .pointer (some ⟨b, 0, none⟩))
  own : w.ownsRow B 5 1 v t.size (bc t)
  ne : v.ownBlock ≠ some b
theorem Bd.isB {B b : Nat} {v : Value} {t : ByteArray} {w : World} (h : Bd B b v t w) : IsB B b (bc t) w := by
  obtain ⟨p, hp, hc⟩ := h.row
  rcases hc with rfl | rfl
  · exact .inl ⟨h.le, v, hp, by rw [bc_length]; exact h.own, h.ne⟩
  · exact .inr ⟨h.le, v, hp, by rw [bc_length]; exact h.own, h.ne⟩
theorem Bd.lt {B b : Nat} {v : Value} {t : ByteArray} {w : World} (h : Bd B b v t w) : b < w.heap.size := by
  obtain ⟨p, hp, _⟩ := h.row
  exact (Array.getElem?_eq_some_iff.1 hp).1
theorem Bd.keep {B b : Nat} {v : Value} {t : ByteArray} {w w' : World} (h : Bd B b v t w) {fs : List Nat} (hc : Chg fs w w') (hb : b ∉ fs) (hv : ∀ k, v.ownBlock = some k → k ∉ fs) : Bd B b v t w' := by
  obtain ⟨p, hp, hq⟩ := h.row
  exact ⟨h.le, ⟨p, (hc.block b h.lt hb).trans hp, hq⟩, own_keep h.own (fun k hk => hc.block k (h.own.lt k hk).2 (hv k hk)), h.ne⟩
theorem Bd.below {B b : Nat} {v : Value} {t : ByteArray} {w w' : World} (h : Bd B b v t w) (hB : Below w.heap.size w w') : Bd B b v t w' := h.keep (fs := []) (Chg.of_below hB) (by simp) (by simp)
theorem Bd.new (w : World) : Bd w.heap.size w.heap.size nil0 Pd.none0 (w.alloc (.cells #[.pointer none, .slice none 0 0] 151)) :=
  ⟨Nat.le_refl _, ⟨_, heap_alloc_new w _, .inl rfl⟩, ⟨rfl, .inl ⟨rfl, rfl⟩⟩, by intro e; cases e⟩
/- a block of another kind is not one of the builder's -/
theorem Bd.apart {B b : Nat} {v : Value} {t : ByteArray} {w : World} (h : Bd B b v t w) {g : Nat} {o : Obj} (hg : w.heap[g]? = some o) (h1 : ∀ cs fr, o ≠ .cells cs 151 fr) (h2 : ∀ cs fr, o ≠ .cells cs 5 fr) : g ∉ b :: v.ownBlock.toList := fun hm => by
  obtain ⟨p, hp, _⟩ := h.row
  rcases List.mem_cons.1 hm with rfl | hm
  · rw [hp] at hg
    exact h1 _ _ (Option.some.inj hg).symm
  · rcases h.own.2 with ⟨rfl, _⟩ | ⟨k, cap, cur, rfl, _, hk, _⟩
    · cases hm
    · have e : g = k := by simpa [Value.ownBlock] using hm
      rw [e, hk] at hg
      exact h2 _ _ (Option.some.inj hg).symm
theorem check_t (B b : Nat) (v : Value) (t : ByteArray) (w : World) (h : Bd B b v t w) :
    Calls Tryz.prog 131 #[.pointer (some ⟨b, 0, none⟩)] w fun e w' => e = .returned (.tuple #[]) ∧ w'.heap[b]? = some (.cells #[.pointer (some ⟨b, 0, none⟩), v] 151 (0, 0)) ∧ Chg [b] w w' := by
  obtain ⟨p, hp, hq⟩ := h.row
  rcases hq with rfl | rfl
  · have c0 : w.cell? ⟨b, 0, none⟩ = some (.pointer none) := cell_of_row _ _ _ _ _ (0, 0) hp
    refine (Any.Builder_copyCheck_fresh layB alsoB b w c0 (by simp [World.shape?, hp]; rfl) (frozen_of_row w b 0 _ _ hp)).mono ?_
    rintro e w' ⟨rfl, rfl⟩
    refine ⟨rfl, ?_, Chg.setCell w b 0 _⟩
    rw [heap_setCell_same w b 0 _ _ _ hp]
    rfl
  · refine (Any.Builder_copyCheck_used layB alsoB b w (cell_of_row _ _ _ _ _ (0, 0) hp)).mono ?_
    rintro e w' ⟨rfl, rfl⟩
    exact ⟨rfl, hp, Chg.refl _ _⟩
set_option maxHeartbeats 2000000 in
set_option maxRecDepth 100000 in
theorem wstr_t (B b : Nat) (v : Value) (t s : ByteArray) (w : World) (h : Bd B b v t w) (hlen : t.size + s.size ≤ 1000000000) (hBw : B ≤ w.heap.size) :
    Calls Tryz.prog 112 #[.pointer (some ⟨b, 0, none⟩), .string s] w fun e w' => ∃ v', e = .returned (.tuple #[.int .i64 s.size, .nilIface]) ∧ Bd B b v' (t ++ s) w' ∧ Below B w w' ∧ Chg (b :: v.ownBlock.toList) w w' := by
  have HC : Hid (Calls Tryz.prog 131 #[.pointer (some ⟨b, 0, none⟩)] w fun e w' => e = .returned (.tuple #[]) ∧ w'.heap[b]? = some (.cells #[.pointer (some ⟨b, 0, none⟩), v] 151 (0, 0)) ∧ Chg [b] w w') := check_t B b v t w h
  go_enter Tryz.func112, Tryz.ntmps112
  go_wp2_with fail
  refine HC.out.mono ?_
  rintro e w1 ⟨rfl, hbk, hc1⟩
  have hs1 := hc1.size
  have hlt : b < w1.heap.size := (Array.getElem?_eq_some_iff.1 hbk).1
  have c1 : w1.cell? ⟨b, 1, none⟩ = some v := by rw [Lib.cell_of_heap hbk]; rfl
  have hown : w1.ownsRow B 5 1 v t.size (bc t) := own_keep h.own (fun k hk => hc1.block k (h.own.lt k hk).2 (fun hm => h.ne (by rw [hk, List.mem_singleton.1 hm])))
  have HH : Hid (Bd B b v t w) := h
  have hne := h.ne
  have hB := h.le
  clear h
  obtain ⟨av, nv, cv, rfl⟩ : ∃ a n c, v = .slice a n c := by
    rcases hown.2 with ⟨hv, _⟩ | ⟨g, cap, cur, hv, _⟩
    · exact ⟨_, _, _, hv⟩
    · exact ⟨_, _, _, hv⟩
  go_wp2_with (at_builtin; refine Lib.wpList_append_own_string _ rfl _ _ 138 9 rfl B 5 Tryz.t5 Tryz.underlying138 Tryz.underlying9 info_b8 rfl rfl rfl _ _ _ rfl hown s rfl (by unfold maxLen; omega) (by omega) (by omega) ?_)
  intro v2 w2 hown2 hgrow _
  have hb2 : w2.heap[b]? = some (.cells #[.pointer (some ⟨b, 0, none⟩), .slice av nv cv] 151 (0, 0)) := (hgrow.block b hlt (fun e => hne e.symm)).trans hbk
  have d1 : w2.cell? ⟨b, 1, none⟩ = some (.slice av nv cv) := by rw [Lib.cell_of_heap hb2]; rfl
  have f1 : w2.frozen? ⟨b, 1, none⟩ = false := Lib.frozen_of_heap hb2 1
  obtain ⟨a2, n2, c2, rfl⟩ : ∃ a n c, v2 = .slice a n c := by
    rcases hown2.2 with ⟨hv, _⟩ | ⟨g, cap, cur, hv, _⟩
    · exact ⟨_, _, _, hv⟩
    · exact ⟨_, _, _, hv⟩
  have HCH : Hid (Chg (b :: (Value.slice av nv cv).ownBlock.toList) w w2) := (hc1.mono (fun k hk => by rw [List.mem_singleton.1 hk]; exact List.mem_cons_self)).trans ((Chg.grown hgrow).mono (fun k hk => List.mem_cons_of_mem _ hk))
  have hsb : bc t ++ Lib.strCells s = bc (t ++ s) := (bc_append t s).symm
  rw [hsb, ← ByteArray.size_append] at hown2
  have hne2 : (Value.slice a2 n2 c2).ownBlock ≠ some b := Lib.ownBlock_ne hown2 hb2 (by decide)
  have HO2 : Hid (w2.ownsRow B 5 1 (.slice a2 n2 c2) (t ++ s).size (bc (t ++ s))) := hown2
  have HB2 : Hid (w2.heap[b]? = some (.cells #[.pointer (some ⟨b, 0, none⟩), .slice av nv cv] 151 (0, 0))) := hb2
  have HBB : Hid (Below B w w2) := ⟨HCH.out.os, HCH.out.tape, HCH.out.output, HCH.out.size, fun k hk => HCH.out.block k (by omega) (fun hm => by
    rcases List.mem_cons.1 hm with rfl | hm
    · omega
    · have := (hown.lt k (by simpa using hm)).1
      omega)⟩
  clear hsb hown2 hown hbk hgrow hb2 hc1
  go_wp2
  go_ret2
  refine ⟨_, rfl, ⟨hB, ⟨_, ?_, .inr rfl⟩, ?_, hne2⟩, HBB.out.setCell (p := ⟨b, 1, none⟩) hB _, HCH.out.trans ((Chg.setCell w2 b 1 _).mono (fun k hk => by rw [List.mem_singleton.1 hk]; exact List.mem_cons_self))⟩
  · rw [heap_setCell_same w2 b 1 _ _ _ HB2.out]
    rfl
  · exact own_keep HO2.out (fun k hk => heap_setCell_other _ _ _ _ (fun e => hne2 (by rw [hk]; exact congrArg some e)))
theorem bstr_t (B b : Nat) (v : Value) (t : ByteArray) (w : World) (h : Bd B b v t w) (hBw : B ≤ w.heap.size) :
    Calls Tryz.prog 113 #[.pointer (some ⟨b, 0, none⟩)] w fun e w' => e = .returned (.string t) ∧ Below B w w' := by
  have := Tryz.Builder_String_any B b t.data.toList w (show Lib.IsBuilder _ _ B b (Lib.byteCells t.data.toList) w from h.isB) hBw
  have e : (⟨t.data.toList.toArray⟩ : ByteArray) = t := Wl.list_ob t
  rw [e] at this
  exact this
end Go.Proofs.YtcfninpokngmlaaGreatDoor
