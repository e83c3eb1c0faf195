/- Proved: what maps.Copy makes of two maps of pages, whatever order the map gave. -/
import Derived.Test.YtcfninpokngmlaaGreatDoorM09
namespace Go.Proofs.YtcfninpokngmlaaGreatDoor
open Go.RowKit Go.Maps
theorem copied_all {d s o : Pd.Mp} {left : Lit → Bool} (hd : Pd.Up d) (hs : Pd.Up s) (ho : Pd.Up o) (h : ∀ i, Pd.get o i = if left (keyL i) then Pd.get d i else (Pd.get s i).or (Pd.get d i)) (hl : ∀ kl, left kl = false) : o = Pd.copy d s :=
  Pd.mp_ext ho (Pd.Up.copy s hd) (fun i => by
    rw [h i, hl, Pd.get_copy i s hd hs]
    rfl)
set_option maxHeartbeats 4000000 in
set_option maxRecDepth 100000 in
theorem mcopy_any (bd bs : Nat) (d s : Pd.Mp) (w : World) (hD : MpAt w bd d) (hS : MpAt w bs s) (hne : bd ≠ bs) (hl : d.length + s.length ≤ 100000) (hk : ∀ p ∈ s, p.1 ≤ 1000000) :
    Calls Tryz.prog 76 #[.map (some bd), .map (some bs)] w fun e w' => e = .returned (.tuple #[]) ∧ MpAt w' bd (Pd.copy d s) ∧ w.grownBy w' (some bd) := by
  have hbd := hD.lt
  have hbs := hS.lt
  have hown := hS.own
  have hsz := size_dM s
  have HD : Hid (MpAt w bd d) := hD
  have HS : Hid (MpAt w bs s) := hS
  clear hD hS
  go_enter Tryz.func76, Tryz.ntmps76
  go_wp2_with (first
    | (at_range; refine wpList_range_own _ rfl _ 59 rfl 3 102 lawI Tryz.underlying59 shR bs s.length _ rfl hown ?_; intro w0 hrg0 hg0 hs0)
    | go_in)
  go_frame
  go_loopw [8] (fun _ wr => ∃ (left : Lit → Bool) (cnt : Nat) (o : Pd.Mp), wr.ranges Tryz.prog 3 shR bs w.heap.size s.length (dM s) left cnt ∧ cnt ≤ s.length ∧
      MpAt wr bd o ∧ o.length + cnt ≤ d.length + s.length ∧ (∀ i, Pd.get o i = if left (keyL i) then Pd.get d i else (Pd.get s i).or (Pd.get d i)) ∧ w.grownBy wr (some bd))
    (fun _ wr => wr.rangeLeft bs w.heap.size)
  case atStart =>
    refine ⟨_, _, d, hrg0, by rw [hsz]; exact Nat.le_refl _, HD.out.keep (hg0.block bd hbd (by simp)), by rw [hsz]; exact Nat.le_refl _, fun i => ?_, hg0.but _⟩
    rw [has_dM]
    cases Pd.get s i <;> rfl
  case round =>
    obtain ⟨left, cnt, o, hrg, hcs, hout, hol, hM, hgw⟩ := hrel
    have HMM : Hid (∀ i, Pd.get o i = if left (keyL i) then Pd.get d i else (Pd.get s i).or (Pd.get d i)) := hM
    clear hM
    go_wp2_with (first
      | (at_next; refine wpList_next_ranges _ rfl _ rfl 3 lawI shR id shV (fun key _ _ => ⟨key, rfl⟩) (fun v _ hv => by obtain ⟨x, rfl, _⟩ := shR_inv hv; exact ⟨x, rfl⟩) bs w.heap.size s.length _ _ _ rfl hrg ?_ ?_)
      | go_in)
    · intro hc0 hl0
      go_wp2
      go_end0
      have e := copied_all HD.out.up HS.out.up hout.up HMM.out hl0
      subst e
      exact ⟨rfl, hout, hgw⟩
    · intro x c kl yd yp w1 cnt1 hkey hlk hv hat hrg1 hlt hg1 hs1 hen
      obtain ⟨z, hz, hkl, _⟩ := Maps.keyOf_int_inv Tryz.underlying3 hkey
      obtain ⟨p, hp, hkp⟩ := has_key (has_true_of_atKey hat)
      rw [hkl] at hkp
      have hzp : z = (p.1 : Int) := by
        unfold keyL at hkp
        simpa using hkp
      rw [hzp] at hz hkl
      have hx : x = .int .i64 (p.1 : Int) := hz
      have hkl2 : kl = keyL p.1 := hkl
      clear hz hkl hkp hzp
      rw [hkl2] at hlk hrg1 hat
      have hgp := Pd.mem_get HS.out.up hp
      have hcp : c = p.2 := by
        obtain ⟨c', e1, e2⟩ := shR_inv hv
        have h1 := hat (shD c)
        rw [at_dM, hgp] at h1
        rw [shR_mk] at hv
        have h2 := congrArg Prod.fst (Option.some.inj hv)
        simp only at h1 h2
        exact shD_inj (h2.trans h1.symm)
      have hki : p.1 ≤ 9223372036854775807 := by have := hk p hp; omega
      have hnd : bd ≠ w.heap.size := by omega
      have hout1 : MpAt w1 bd o := hout.keep (hg1.block bd (by have := hgw.size; omega) (fun e => hnd (Option.some.inj e)))
      rw [hx] at hen
      have HP : Hid (Pd.get s p.1 = some p.2 ∧ left (keyL p.1) = true ∧ c = p.2) := ⟨hgp, hlk, hcp⟩
      subst hcp
      clear hs1 hx hgp hlk hat hv hkey hkl2
      have hlo : o.length ≤ 100000 := by omega
      unfold shV at hen
      have hg1b : w.grownBy w1 (some bd) := hgw.andThen hg1 (fun j hj => .inl (by cases hj; exact Nat.le_refl _))
      go_wp2_with (first
        | (at_mapUpdate; refine mp_put _ rfl _ _ _ rfl bd o rfl (hout1.alloc _) hlo p.1 hki rfl p.2 rfl ?_; intro w2 hM2 hg2; go_frame)
        | go_in)
      have hrg2 := (hrg1.alloc _).kept hg2 (fun e => hne (Option.some.inj e).symm) (fun e => by have := Option.some.inj e; omega)
      go_roundw
      case rel =>
        refine ⟨_, cnt1, _, hrg2, by omega, hM2, ?_, fun i => ?_, ?_⟩
        · have := Pd.set_length_le p.2 p.1 o
          omega
        · rw [Pd.get_set p.2 p.1 i hout.up, HMM.out i]
          show _ = if (left (keyL i) && !(keyL i).sameKey (keyL p.1)) then _ else _
          rw [same_key]
          by_cases e : p.1 = i
          · subst e
            rw [if_pos rfl, decide_eq_true rfl, HP.out.1]
            simp
          · rw [if_neg e, decide_eq_false (fun h => e h.symm)]
            simp
        · exact (hg1b.andThen (World.grownBy_alloc w1 _ none) (fun j hj => by cases hj)).andThen hg2 (fun j hj => .inr hj)
      case measure => rw [hrg2.left_eq, hrg.left_eq]; exact hlt
end Go.Proofs.YtcfninpokngmlaaGreatDoor
/- Proved: what is written to a builder of texts is there, and nothing else is changed. -/
namespace Go.Proofs.YtcfninpokngmlaaGreatDoor
open Go.RowKit
/- a builder at block b, whose bytes lie from B on -/
structure Bd (B b : Nat) (v : Value) (t : ByteArray) (w : World) : Prop where
  le : B ≤ b
  row : ∃ p, w.heap[b]? = some (.cells #[p, v] 151 (0, 0)) ∧ (p = .pointer none ∨ p = .pointer (some ⟨b, 0, none⟩))
  own : w.ownsRow B 5 1 v t.size (bc t)
  ne : v.ownBlock ≠ some b
theorem Bd.isB {B b : Nat} {v : Value} {t : ByteArray} {w : World} (h : Bd B b v t w) : IsB B b (bc t) w := by
  obtain ⟨p, hp, hc⟩ := h.row
  rcases hc with rfl | rfl
  · exact .inl ⟨h.le, v, hp, by rw [bc_length]; exact h.own, h.ne⟩
  · exact .inr ⟨h.le, v, hp, by rw [bc_length]; exact h.own, h.ne⟩
theorem Bd.lt {B b : Nat} {v : Value} {t : ByteArray} {w : World} (h : Bd B b v t w) : b < w.heap.size := by
  obtain ⟨p, hp, _⟩ := h.row
  exact (Array.getElem?_eq_some_iff.1 hp).1
theorem Bd.keep {B b : Nat} {v : Value} {t : ByteArray} {w w' : World} (h : Bd B b v t w) {fs : List Nat} (hc : Chg fs w w') (hb : b ∉ fs) (hv : ∀ k, v.ownBlock = some k → k ∉ fs) : Bd B b v t w' := by
  obtain ⟨p, hp, hq⟩ := h.row
  exact ⟨h.le, ⟨p, (hc.block b h.lt hb).trans hp, hq⟩, own_keep h.own (fun k hk => hc.block k (h.own.lt k hk).2 (hv k hk)), h.ne⟩
theorem Bd.below {B b : Nat} {v : Value} {t : ByteArray} {w w' : World} (h : Bd B b v t w) (hB : Below w.heap.size w w') : Bd B b v t w' := h.keep (fs := []) (Chg.of_below hB) (by simp) (by simp)
theorem Bd.new (w : World) : Bd w.heap.size w.heap.size nil0 Pd.none0 (w.alloc (.cells #[.pointer none, .slice none 0 0] 151)) :=
  ⟨Nat.le_refl _, ⟨_, heap_alloc_new w _, .inl rfl⟩, ⟨rfl, .inl ⟨rfl, rfl⟩⟩, by intro e; cases e⟩
/- a block of another kind is not one of the builder's -/
theorem Bd.apart {B b : Nat} {v : Value} {t : ByteArray} {w : World} (h : Bd B b v t w) {g : Nat} {o : Obj} (hg : w.heap[g]? = some o) (h1 : ∀ cs fr, o ≠ .cells cs 151 fr) (h2 : ∀ cs fr, o ≠ .cells cs 5 fr) : g ∉ b :: v.ownBlock.toList := fun hm => by
  obtain ⟨p, hp, _⟩ := h.row
  rcases List.mem_cons.1 hm with rfl | hm
  · rw [hp] at hg
    exact h1 _ _ (Option.some.inj hg).symm
  · rcases h.own.2 with ⟨rfl, _⟩ | ⟨k, cap, cur, rfl, _, hk, _⟩
    · cases hm
    · have e : g = k := by simpa [Value.ownBlock] using hm
      rw [e, hk] at hg
      exact h2 _ _ (Option.some.inj hg).symm
theorem check_t (B b : Nat) (v : Value) (t : ByteArray) (w : World) (h : Bd B b v t w) :
    Calls Tryz.prog 131 #[.pointer (some ⟨b, 0, none⟩)] w fun e w' => e = .returned (.tuple #[]) ∧ w'.heap[b]? = some (.cells #[.pointer (some ⟨b, 0, none⟩), v] 151 (0, 0)) ∧ Chg [b] w w' := by
  obtain ⟨p, hp, hq⟩ := h.row
  rcases hq with rfl | rfl
  · have c0 : w.cell? ⟨b, 0, none⟩ = some (.pointer none) := cell_of_row _ _ _ _ _ (0, 0) hp
    refine (Any.Builder_copyCheck_fresh layB alsoB b w c0 (by simp [World.shape?, hp]; rfl) (frozen_of_row w b 0 _ _ hp)).mono ?_
    rintro e w' ⟨rfl, rfl⟩
    refine ⟨rfl, ?_, Chg.setCell w b 0 _⟩
    rw [heap_setCell_same w b 0 _ _ _ hp]
    rfl
  · refine (Any.Builder_copyCheck_used layB alsoB b w (cell_of_row _ _ _ _ _ (0, 0) hp)).mono ?_
    rintro e w' ⟨rfl, rfl⟩
    exact ⟨rfl, hp, Chg.refl _ _⟩
set_option maxHeartbeats 2000000 in
set_option maxRecDepth 100000 in
theorem wstr_t (B b : Nat) (v : Value) (t s : ByteArray) (w : World) (h : Bd B b v t w) (hlen : t.size + s.size ≤ 1000000000) (hBw : B ≤ w.heap.size) :
    Calls Tryz.prog 112 #[.pointer (some ⟨b, 0, none⟩), .string s] w fun e w' => ∃ v', e = .returned (.tuple #[.int .i64 s.size, .nilIface]) ∧ Bd B b v' (t ++ s) w' ∧ Below B w w' ∧ Chg (b :: v.ownBlock.toList) w w' := by
  have HC : Hid (Calls Tryz.prog 131 #[.pointer (some ⟨b, 0, none⟩)] w fun e w' => e = .returned (.tuple #[]) ∧ w'.heap[b]? = some (.cells #[.pointer (some ⟨b, 0, none⟩), v] 151 (0, 0)) ∧ Chg [b] w w') := check_t B b v t w h
  go_enter Tryz.func112, Tryz.ntmps112
  go_wp2_with fail
  refine HC.out.mono ?_
  rintro e w1 ⟨rfl, hbk, hc1⟩
  have hs1 := hc1.size
  have hlt : b < w1.heap.size := (Array.getElem?_eq_some_iff.1 hbk).1
  have c1 : w1.cell? ⟨b, 1, none⟩ = some v := by rw [Lib.cell_of_heap hbk]; rfl
  have hown : w1.ownsRow B 5 1 v t.size (bc t) := own_keep h.own (fun k hk => hc1.block k (h.own.lt k hk).2 (fun hm => h.ne (by rw [hk, List.mem_singleton.1 hm])))
  have HH : Hid (Bd B b v t w) := h
  have hne := h.ne
  have hB := h.le
  clear h
  obtain ⟨av, nv, cv, rfl⟩ : ∃ a n c, v = .slice a n c := by
    rcases hown.2 with ⟨hv, _⟩ | ⟨g, cap, cur, hv, _⟩
    · exact ⟨_, _, _, hv⟩
    · exact ⟨_, _, _, hv⟩
  go_wp2_with (at_builtin; refine Lib.wpList_append_own_string _ rfl _ _ 138 9 rfl B 5 Tryz.t5 Tryz.underlying138 Tryz.underlying9 info_b8 rfl rfl rfl _ _ _ rfl hown s rfl (by unfold maxLen; omega) (by omega) (by omega) ?_)
  intro v2 w2 hown2 hgrow _
  have hb2 : w2.heap[b]? = some (.cells #[.pointer (some ⟨b, 0, none⟩), .slice av nv cv] 151 (0, 0)) := (hgrow.block b hlt (fun e => hne e.symm)).trans hbk
  have d1 : w2.cell? ⟨b, 1, none⟩ = some (.slice av nv cv) := by rw [Lib.cell_of_heap hb2]; rfl
  have f1 : w2.frozen? ⟨b, 1, none⟩ = false := Lib.frozen_of_heap hb2 1
  obtain ⟨a2, n2, c2, rfl⟩ : ∃ a n c, v2 = .slice a n c := by
    rcases hown2.2 with ⟨hv, _⟩ | ⟨g, cap, cur, hv, _⟩
    · exact ⟨_, _, _, hv⟩
    · exact ⟨_, _, _, hv⟩
  have HCH : Hid (Chg (b :: (Value.slice av nv cv).ownBlock.toList) w w2) := (hc1.mono (fun k hk => by rw [List.mem_singleton.1 hk]; exact List.mem_cons_self)).trans ((Chg.grown hgrow).mono (fun k hk => List.mem_cons_of_mem _ hk))
  have hsb : bc t ++ Lib.strCells s = bc (t ++ s) := (bc_append t s).symm
  rw [hsb, ← ByteArray.size_append] at hown2
  have hne2 : (Value.slice a2 n2 c2).ownBlock ≠ some b := Lib.ownBlock_ne hown2 hb2 (by decide)
  have HO2 : Hid (w2.ownsRow B 5 1 (.slice a2 n2 c2) (t ++ s).size (bc (t ++ s))) := hown2
  have HB2 : Hid (w2.heap[b]? = some (.cells #[.pointer (some ⟨b, 0, none⟩), .slice av nv cv] 151 (0, 0))) := hb2
  have HBB : Hid (Below B w w2) := ⟨HCH.out.os, HCH.out.tape, HCH.out.output, HCH.out.size, fun k hk => HCH.out.block k (by omega) (fun hm => by
    rcases List.mem_cons.1 hm with rfl | hm
    · omega
    · have := (hown.lt k (by simpa using hm)).1
      omega)⟩
  clear hsb hown2 hown hbk hgrow hb2 hc1
  go_wp2
  go_ret2
  refine ⟨_, rfl, ⟨hB, ⟨_, ?_, .inr rfl⟩, ?_, hne2⟩, HBB.out.setCell (p := ⟨b, 1, none⟩) hB _, HCH.out.trans ((Chg.setCell w2 b 1 _).mono (fun k hk => by rw [List.mem_singleton.1 hk]; exact List.mem_cons_self))⟩
  · rw [heap_setCell_same w2 b 1 _ _ _ HB2.out]
    rfl
  · exact own_keep HO2.out (fun k hk => heap_setCell_other _ _ _ _ (fun e => hne2 (by rw [hk]; exact congrArg some e)))
theorem bstr_t (B b : Nat) (v : Value) (t : ByteArray) (w : World) (h : Bd B b v t w) (hBw : B ≤ w.heap.size) :
    Calls Tryz.prog 113 #[.pointer (some ⟨b, 0, none⟩)] w fun e w' => e = .returned (.string t) ∧ Below B w w' := by
  have := Tryz.Builder_String_any B b t.data.toList w (show Lib.IsBuilder _ _ B b (Lib.byteCells t.data.toList) w from h.isB) hBw
  have e : (⟨t.data.toList.toArray⟩ : ByteArray) = t := Wl.list_ob t
  rw [e] at this
  exact this
end Go.Proofs.YtcfninpokngmlaaGreatDoor
/- Proved: what pagedb's recordText answers. -/
namespace Go.Proofs.YtcfninpokngmlaaGreatDoor
open Go.RowKit
theorem builder0 (w : World) : (zeroValue 151).run Tryz.prog w = .ok (.agg #[.pointer none, .slice none 0 0]) w := by kernel_rfl
theorem take_succ_mp {m : Pd.Mp} {k : Nat} {p : Nat × Pd.Sheet} (h : m[k]? = some p) : Pd.entries (m.take (k + 1)) = Pd.entries (m.take k) ++ Wl.put p.1 4 ++ Pd.pageOf p.1 p.2 := by
  obtain ⟨hk, e⟩ := List.getElem?_eq_some_iff.1 h
  rw [List.take_succ_eq_append_getElem hk, e, Pd.entries_snoc, Pd.app_assoc]
  rfl
set_option maxHeartbeats 4000000 in
set_option maxRecDepth 100000 in
theorem rtext_any (n b cnt : Nat) (m : Pd.Mp) (w : World) (hM : MpAt w b m) (hF : Pd.Fine cnt m) (hc : cnt ≤ 1000) (hl : m.length ≤ 1000) (hT : Tab w) :
    Calls Tryz.prog 94 #[.int .i64 (n : Int), .map (some b)] w fun e w' => e = .returned (.string (Pd.recText n m)) ∧ Below w.heap.size w w' := by
  have hz := builder0
  have hpos := hT.pos
  have hbl := hM.lt
  have HBD0 : Hid (Bd w.heap.size w.heap.size nil0 Pd.none0 (w.alloc (.cells #[.pointer none, .slice none 0 0] 151))) := Bd.new w
  have HB0 : Hid (Below w.heap.size w (w.alloc (.cells #[.pointer none, .slice none 0 0] 151))) := (Below.refl _ _).alloc (Nat.le_refl _) _
  have HM : Hid (MpAt w b m ∧ Tab w ∧ Pd.Fine cnt m) := ⟨hM, hT, hF⟩
  have HN : Hid (∀ (k : Nat) W, Calls Tryz.prog 90 #[.int .i64 (k : Int)] W fun e w' => e = .returned (.string (Wl.put k 4)) ∧ Below W.heap.size W w') := fun k W => ntext_any k W
  clear hM hT hF
  go_enter Tryz.func94, Tryz.ntmps94
  go_wp2_with fail
  generalize hw0 : World.alloc w _ = w0 at *
  clear hw0
  refine (HN.out n w0).mono ?_
  rintro e w1 ⟨rfl, hB1⟩
  have HBD1 : Hid (Bd w.heap.size w.heap.size nil0 Pd.none0 w1) := HBD0.out.below hB1
  have HB1 : Hid (Below w.heap.size w w1) := below_next HB0.out hB1 HB0.out.size
  clear hB1 HBD0 HB0
  have hps := Wl.put_size n 4
  have e0 : Pd.none0 ++ Wl.put n 4 = Wl.put n 4 := Pd.none_app _
  have HW1 : Hid (Calls Tryz.prog 112 #[.pointer (some ⟨w.heap.size, 0, none⟩), .string (Wl.put n 4)] w1 fun e w' => ∃ v', e = .returned (.tuple #[.int .i64 (Wl.put n 4).size, .nilIface]) ∧ Bd w.heap.size w.heap.size v' (Pd.none0 ++ Wl.put n 4) w' ∧ Below w.heap.size w1 w' ∧ Chg (w.heap.size :: nil0.ownBlock.toList) w1 w') := wstr_t w.heap.size w.heap.size nil0 Pd.none0 (Wl.put n 4) w1 HBD1.out (by rw [Pd.none0_size]; omega) HB1.out.size
  rw [e0] at HW1
  clear e0
  go_wp2_with fail
  refine HW1.out.mono ?_
  rintro e w2 ⟨v2, rfl, hD2, hB2, _⟩
  have HBD2 : Hid (Bd w.heap.size w.heap.size v2 (Wl.put n 4) w2) := hD2
  have HB2 : Hid (Below w.heap.size w w2) := HB1.out.trans hB2
  clear hD2 hB2 HW1 HBD1 HB1
  have HRI : Hid (Calls Tryz.prog 77 #[.map (some b)] w2 fun e w' => ∃ g cap cur, e = .returned (.slice (some ⟨g, 0, none⟩) m.length cap) ∧ m.length ≤ cap ∧ cap ≤ maxLen ∧ w2.heap.size ≤ g ∧ w'.heap[g]? = some (.cells cur 3 (0, 0)) ∧ (∀ (i : Nat) (p : Nat × Pd.Sheet), m[i]? = some p → cur[i]? = some (.int .i64 (p.1 : Int))) ∧ Below w2.heap.size w2 w') := rising_any b m w2 (HM.out.1.keep (HB2.out.block b hbl)) (by omega)
  go_wp2_with fail
  refine HRI.out.mono ?_
  rintro e w3 ⟨g, cap, cur, rfl, _, _, _, hg3, hcur, hB3⟩
  have HCU : Hid (∀ (i : Nat) (p : Nat × Pd.Sheet), m[i]? = some p → cur[i]? = some (.int .i64 (p.1 : Int))) := hcur
  have HG3 : Hid (w3.heap[g]? = some (.cells cur 3 (0, 0))) := hg3
  have HBD3 : Hid (Bd w.heap.size w.heap.size v2 (Wl.put n 4 ++ Pd.entries (m.take 0)) w3) := by
    have e : Wl.put n 4 ++ Pd.entries (m.take 0) = Wl.put n 4 := Pd.app_none _
    rw [e]
    exact HBD2.out.below hB3
  have HB3 : Hid (Below w.heap.size w w3) := below_next HB2.out hB3 HB2.out.size
  clear hcur hg3 hB3 HRI HBD2 HB2
  go_wp2_with fail
  go_loopw [7, 14] (fun _ s14 wr => ∃ (k : Nat) (v : Value), k ≤ m.length ∧ s14 = .int .i64 (k : Int) ∧ Bd w.heap.size w.heap.size v (Wl.put n 4 ++ Pd.entries (m.take k)) wr ∧ wr.heap[g]? = some (.cells cur 3 (0, 0)) ∧ Below w.heap.size w wr) (fun _ s14 _ => m.length - (intOf s14).toNat)
  case atStart => exact ⟨0, v2, by omega, rfl, HBD3.out, HG3.out, HB3.out⟩
  case round =>
    obtain ⟨k, v, hk, rfl, hD, hg, hB⟩ := hrel
    have HD : Hid (Bd w.heap.size w.heap.size v (Wl.put n 4 ++ Pd.entries (m.take k)) wr) := hD
    have HG : Hid (wr.heap[g]? = some (.cells cur 3 (0, 0))) := hg
    have HB : Hid (Below w.heap.size w wr) := hB
    have hfk : Pd.Fine cnt (m.take k) := fun p hp => HM.out.2.2 p (List.mem_of_mem_take hp)
    have hsz : (Wl.put n 4 ++ Pd.entries (m.take k)).size ≤ 1000000 := by
      rw [ByteArray.size_append, hps, Pd.entries_size hfk, List.length_take]
      omega
    clear hD hg hB hfk HBD3 HG3 HB3
    by_cases hkl : k < m.length
    · obtain ⟨p, hp⟩ : ∃ p, m[k]? = some p := ⟨_, List.getElem?_eq_getElem hkl⟩
      have hpm : p ∈ m := List.mem_of_getElem? hp
      have hpf := HM.out.2.2 p hpm
      have hgp : Pd.get m p.1 = some p.2 := Pd.mem_get HM.out.1.up hpm
      have hts := take_succ_mp hp
      have hcell : wr.cell? ⟨g, k, none⟩ = some (.int .i64 (p.1 : Int)) := by rw [cell_of_row _ _ _ _ _ (0, 0) HG.out]; exact HCU.out k p hp
      have dk : decide ((k : Int) < (m.length : Int)) = true := decide_eq_true (by omega)
      have k0 : (0 : Int) ≤ (k : Int) := by omega
      have k1 : (k : Int) < (m.length : Int) := by omega
      have HP : Hid (m[k]? = some p ∧ p ∈ m ∧ p.1 < cnt ∧ p.2.Fine ∧ Pd.get m p.1 = some p.2) := ⟨hp, hpm, hpf.1, hpf.2, hgp⟩
      have HTS : Hid (Wl.put n 4 ++ Pd.entries (m.take (k + 1)) = Wl.put n 4 ++ Pd.entries (m.take k) ++ Wl.put p.1 4 ++ Pd.pageOf p.1 p.2) := by
        show _ = _
        rw [hts]
        simp only [Pd.app_assoc]
      have hp4 := Wl.put_size p.1 4
      have hpg := Pd.pageOf_size (i := p.1) hpf.2
      clear hp hpm hpf hgp hts
      go_wp2_with fail
      refine (HN.out p.1 wr).mono ?_
      rintro e u1 ⟨rfl, hB1⟩
      have HDa : Hid (Bd w.heap.size w.heap.size v (Wl.put n 4 ++ Pd.entries (m.take k)) u1) := HD.out.below hB1
      have HGa : Hid (u1.heap[g]? = some (.cells cur 3 (0, 0))) := heap_next HG.out hB1
      have HBa : Hid (Below w.heap.size w u1) := below_next HB.out hB1 HB.out.size
      clear hB1 hcell HD HG HB
      have HWa : Hid (Calls Tryz.prog 112 #[.pointer (some ⟨w.heap.size, 0, none⟩), .string (Wl.put p.1 4)] u1 fun e w' => ∃ v', e = .returned (.tuple #[.int .i64 (Wl.put p.1 4).size, .nilIface]) ∧ Bd w.heap.size w.heap.size v' (Wl.put n 4 ++ Pd.entries (m.take k) ++ Wl.put p.1 4) w' ∧ Below w.heap.size u1 w' ∧ Chg (w.heap.size :: v.ownBlock.toList) u1 w') := wstr_t w.heap.size w.heap.size v _ (Wl.put p.1 4) u1 HDa.out (by omega) HBa.out.size
      go_wp2_with fail
      refine HWa.out.mono ?_
      rintro e u2 ⟨va, rfl, hD2, hB2, hC2⟩
      have HDb : Hid (Bd w.heap.size w.heap.size va (Wl.put n 4 ++ Pd.entries (m.take k) ++ Wl.put p.1 4) u2) := hD2
      have HGb : Hid (u2.heap[g]? = some (.cells cur 3 (0, 0))) := (hC2.block g (Array.getElem?_eq_some_iff.1 HGa.out).1 (HDa.out.apart HGa.out (by intro cs fr e; cases e) (by intro cs fr e; cases e))).trans HGa.out
      have HBb : Hid (Below w.heap.size w u2) := HBa.out.trans hB2
      clear hD2 hB2 hC2 HWa HDa HGa HBa
      have HMb : Hid (MpAt u2 b m) := HM.out.1.keep (HBb.out.block b hbl)
      have HSe : Hid (Calls Tryz.prog 105 #[.int .i64 (p.1 : Int), shV p.2] u2 fun e w' => e = .returned (.string (Pd.pageOf p.1 p.2)) ∧ Below u2.heap.size u2 w') := sealed_any p.1 p.2 u2 (HM.out.2.1.below HBb.out hpos) HP.out.2.2.2.1 (by have := HP.out.2.2.1; omega)
      have hget : (Pd.get m p.1).getD sh00 = p.2 := by rw [HP.out.2.2.2.2]; rfl
      have HHG : Hid ((Pd.get m p.1).getD sh00 = p.2) := hget
      clear hget
      go_wp2_with (at_lookup; refine mp_look _ rfl _ _ rfl b m rfl HMb.out p.1 (by have := HP.out.2.2.1; omega) rfl ?_; rw [HHG.out])
      refine HSe.out.mono ?_
      rintro e u3 ⟨rfl, hB3⟩
      have HDc : Hid (Bd w.heap.size w.heap.size va (Wl.put n 4 ++ Pd.entries (m.take k) ++ Wl.put p.1 4) u3) := HDb.out.below hB3
      have HGc : Hid (u3.heap[g]? = some (.cells cur 3 (0, 0))) := heap_next HGb.out hB3
      have HBc : Hid (Below w.heap.size w u3) := below_next HBb.out hB3 HBb.out.size
      clear hB3 HSe HDb HGb HBb HMb
      have HWc : Hid (Calls Tryz.prog 112 #[.pointer (some ⟨w.heap.size, 0, none⟩), .string (Pd.pageOf p.1 p.2)] u3 fun e w' => ∃ v', e = .returned (.tuple #[.int .i64 (Pd.pageOf p.1 p.2).size, .nilIface]) ∧ Bd w.heap.size w.heap.size v' (Wl.put n 4 ++ Pd.entries (m.take k) ++ Wl.put p.1 4 ++ Pd.pageOf p.1 p.2) w' ∧ Below w.heap.size u3 w' ∧ Chg (w.heap.size :: va.ownBlock.toList) u3 w') := wstr_t w.heap.size w.heap.size va _ (Pd.pageOf p.1 p.2) u3 HDc.out (by rw [ByteArray.size_append]; omega) HBc.out.size
      rw [← HTS.out] at HWc
      go_wp2_with fail
      refine HWc.out.mono ?_
      rintro e u4 ⟨vb, rfl, hD4, hB4, hC4⟩
      have HDd : Hid (Bd w.heap.size w.heap.size vb (Wl.put n 4 ++ Pd.entries (m.take (k + 1))) u4) := hD4
      have HGd : Hid (u4.heap[g]? = some (.cells cur 3 (0, 0))) := (hC4.block g (Array.getElem?_eq_some_iff.1 HGc.out).1 (HDc.out.apart HGc.out (by intro cs fr e; cases e) (by intro cs fr e; cases e))).trans HGc.out
      have HBd : Hid (Below w.heap.size w u4) := HBc.out.trans hB4
      clear hD4 hB4 hC4 HWc HDc HGc HBc
      go_wp2
      go_roundw
      case rel => exact ⟨k + 1, vb, by omega, by go_num, HDd.out, HGd.out, HBd.out⟩
      case measure => (simp [intOf]) <;> omega
    · obtain rfl : k = m.length := by omega
      have dk : decide ((m.length : Int) < (m.length : Int)) = false := decide_eq_false (by omega)
      have HS := (show Hid (Calls Tryz.prog 113 #[.pointer (some ⟨w.heap.size, 0, none⟩)] wr fun e w' => e = .returned (.string (Wl.put n 4 ++ Pd.entries (m.take m.length))) ∧ Below w.heap.size wr w') from bstr_t w.heap.size w.heap.size v _ wr HD.out HB.out.size)
      have e : Wl.put n 4 ++ Pd.entries (m.take m.length) = Pd.recText n m := by rw [List.take_length]; rfl
      rw [e] at HS
      clear e
      go_wp2_with fail
      refine HS.out.mono ?_
      rintro e u1 ⟨rfl, hB1⟩
      have HB1 : Hid (Below w.heap.size w u1) := HB.out.trans hB1
      clear hB1
      go_wp2
      go_ret
      exact ⟨rfl, HB1.out⟩
end Go.Proofs.YtcfninpokngmlaaGreatDoor
/- Proved: what pagedb's readRecord answers of a record of pages. -/
namespace Pd
theorem set_last : ∀ {a : Mp} {p : Nat × Sheet}, Up (a ++ [p]) → set a p.1 p.2 = a ++ [p]
  | [], _, _ => rfl
  | q :: a, p, h => by
    have h1 := (List.pairwise_cons.1 h).1 p (List.mem_append.2 (.inr List.mem_cons_self))
    have h2 : Up (a ++ [p]) := (List.pairwise_cons.1 h).2
    unfold set
    rw [if_neg (by omega), if_neg (by omega), set_last h2]
    rfl
theorem up_take {m : Mp} (h : Up m) (k : Nat) : Up (m.take k) := List.Pairwise.sublist (List.take_sublist k m) h
theorem set_take {m : Mp} (h : Up m) {k : Nat} {p : Nat × Sheet} (hp : m[k]? = some p) : set (m.take k) p.1 p.2 = m.take (k + 1) := by
  obtain ⟨hk, e⟩ := List.getElem?_eq_some_iff.1 hp
  have e2 : m.take (k + 1) = m.take k ++ [p] := by rw [List.take_succ_eq_append_getElem hk, e]
  rw [e2]
  exact set_last (by rw [← e2]; exact up_take h (k + 1))
end Pd
namespace Go.Proofs.YtcfninpokngmlaaGreatDoor
open Go.RowKit
def strLen : Value → Nat
  | .string s => s.size
  | _ => 0
set_option maxHeartbeats 4000000 in
set_option maxRecDepth 100000 in
theorem rrec_any (n cnt : Nat) (m : Pd.Mp) (w : World) (hF : Pd.Fine cnt m) (hu : Pd.Up m) (hn : n < 4294967296) (hc : cnt ≤ 1000) (hl : m.length ≤ 1000) (hT : Tab w) :
    Calls Tryz.prog 75 #[.string (Pd.recText n m), .int .i64 (n : Int), .int .i64 (cnt : Int)] w fun e w' => e = .returned (.tuple #[.map (some w.heap.size), .bool true]) ∧ MpAt w' w.heap.size m ∧ Below w.heap.size w w' := by
  have hmm := @run_makeMap Tryz.prog
  have hpos := hT.pos
  have HM : Hid (Pd.Fine cnt m ∧ Pd.Up m ∧ Tab w) := ⟨hF, hu, hT⟩
  have hsz := Pd.recText_size (n := n) hF
  have hr1 : ((Pd.recText n m).size : Int).tmod 516 = 4 := by
    rw [hsz, Int.tmod_eq_emod_of_nonneg (by omega)]
    omega
  have hr2 : (4 : Int) ≤ ((Pd.recText n m).size : Int) := by omega
  have HN0 : Hid (∀ W, Calls Tryz.prog 102 #[.string (Pd.recText n m)] W fun e w' => e = .returned (.int .i64 (n : Int)) ∧ w' = W) := fun W => by
    have h1 := dnumber_any (Pd.recText n m) W (by omega)
    have h2 : Pd.numb (Pd.recText n m) = n := Pd.numb_put n _ hn
    rw [h2] at h1
    exact h1
  have hex : (Pd.recText n m).extract 4 (Pd.recText n m).size = Pd.entries (m.drop 0) := Pd.ext_right (Wl.put_size n 4) rfl
  have HMP0 : Hid (MpAt (w.alloc (.map #[] 0)) w.heap.size (m.take 0)) := MpAt.made w
  have HB0 : Hid (Below w.heap.size w (w.alloc (.map #[] 0))) := (Below.refl _ _).alloc (Nat.le_refl _) _
  clear hF hu hT hsz
  generalize Pd.recText n m = rec at *
  go_enter Tryz.func75, Tryz.ntmps75
  go_wp2_with fail
  refine (HN0.out _).mono ?_
  rintro e wS ⟨rfl, hwS⟩
  rw [hwS]
  clear hwS wS HN0
  go_wp2_with fail
  clear hmm hr1 hr2 hex
  generalize hw0 : World.alloc w _ = w0 at *
  clear hw0
  go_loopw [9] (fun s9 wr => ∃ k : Nat, k ≤ m.length ∧ s9 = .string (Pd.entries (m.drop k)) ∧ MpAt wr w.heap.size (m.take k) ∧ Below w.heap.size w wr) (fun s9 _ => strLen s9)
  case atStart => exact ⟨0, by omega, rfl, HMP0.out, HB0.out⟩
  case round =>
    obtain ⟨k, hk, rfl, hMk, hB⟩ := hrel
    have HMk : Hid (MpAt wr w.heap.size (m.take k)) := hMk
    have HB : Hid (Below w.heap.size w wr) := hB
    clear hMk hB HMP0 HB0
    by_cases hkl : k < m.length
    · obtain ⟨p, hp⟩ : ∃ p, m[k]? = some p := ⟨_, List.getElem?_eq_getElem hkl⟩
      have hpm : p ∈ m := List.mem_of_getElem? hp
      have hpf := HM.out.1 p hpm
      have hdr : m.drop k = p :: m.drop (k + 1) := by
        rw [List.drop_eq_getElem_cons hkl]
        exact congrArg (· :: _) (List.getElem?_eq_some_iff.1 hp).2
      have hfd : Pd.Fine cnt (m.drop k) := fun q hq => HM.out.1 q (List.mem_of_mem_drop hq)
      have hst := Pd.set_take HM.out.2.1 hp
      rw [hdr] at hfd
      have hR := Pd.read_entry hfd hc
      have hsz := Pd.entries_size hfd
      have hsz2 := Pd.entries_size (m := m.drop (k + 1)) (fun q hq => hfd q (List.mem_cons_of_mem _ hq))
      rw [List.length_cons] at hsz
      have HOP : Hid (∀ W, Tab W → Calls Tryz.prog 83 #[.int .i64 (p.1 : Int), .string (Pd.pageOf p.1 p.2)] W fun e w' => e = .returned (.tuple #[.int .i64 (p.2.kind : Int), .string p.2.body, .int .i64 0]) ∧ Below W.heap.size W w') := fun W hW => by
        have h1 := pg_open_any (p.1 : Int) (Pd.pageOf p.1 p.2) W hW
        obtain ⟨e1, e2, e3⟩ := Pd.pageOf_open (i := p.1) hpf.2 (by have := hpf.1; omega)
        rw [e1, e2, e3] at h1
        exact h1
      have HNU : Hid (∀ W, Calls Tryz.prog 102 #[.string (Pd.entries (m.drop k))] W fun e w' => e = .returned (.int .i64 (p.1 : Int)) ∧ w' = W) := fun W => by
        rw [hdr]
        have h1 := dnumber_any (Pd.entries (p :: m.drop (k + 1))) W (by have := hR.ne; omega)
        rw [hR.id] at h1
        exact h1
      have hx1 : (Pd.entries (m.drop k)).extract 4 516 = Pd.pageOf p.1 p.2 := by rw [hdr]; exact hR.page
      have hx2 : (Pd.entries (m.drop k)).extract 516 (Pd.entries (m.drop k)).size = Pd.entries (m.drop (k + 1)) := by rw [hdr]; exact hR.rest
      have hx3 : (516 : Int) ≤ ((Pd.entries (m.drop k)).size : Int) := by rw [hdr]; have := hR.ne; omega
      have hx4 : (Pd.entries (m.drop k)).toList.isEmpty = false := not_empty (by rw [hdr]; have := hR.ne; omega)
      have HLT : Hid ((Pd.entries (m.drop (k + 1))).size < (Pd.entries (m.drop k)).size) := by show _ < _; rw [hdr, hsz, hsz2]; omega
      have hle : decide ((cnt : Int) ≤ (p.1 : Int)) = false := decide_eq_false (by have := hpf.1; omega)
      have hpc := hpf.1
      have HST : Hid (Pd.set (m.take k) p.1 p.2 = m.take (k + 1)) := hst
      have htl : (m.take k).length ≤ 100000 := by rw [List.length_take]; omega
      clear hp hpm hpf hdr hfd hst hR hsz hsz2
      generalize Pd.entries (m.drop k) = X at *
      generalize hY : Pd.entries (m.drop (k + 1)) = Y at *
      have HY : Hid (Pd.entries (m.drop (k + 1)) = Y) := hY
      clear hY
      generalize Pd.pageOf p.1 p.2 = pg at *
      go_wp2_with fail
      refine (HNU.out _).mono ?_
      rintro e wS ⟨rfl, hwS⟩
      rw [hwS]
      clear hwS wS HNU
      go_wp2_with fail
      refine (HOP.out wr (HM.out.2.2.below HB.out hpos)).mono ?_
      rintro e u1 ⟨rfl, hB1⟩
      have HM1 : Hid (MpAt u1 w.heap.size (m.take k)) := HMk.out.below hB1
      have HB1 : Hid (Below w.heap.size w u1) := below_next HB.out hB1 HB.out.size
      clear hB1 HOP HMk HB
      go_wp2_with (at_mapUpdate; refine mp_put _ rfl _ _ _ rfl w.heap.size (m.take k) rfl HM1.out htl p.1 (by omega) rfl p.2 rfl ?_; intro u2 hM2 hg2; rw [HST.out] at hM2; go_frame)
      have HM2 : Hid (MpAt u2 w.heap.size (m.take (k + 1))) := hM2
      have HB2 : Hid (Below w.heap.size w u2) := HB1.out.grown hg2 HB1.out.size (fun j hj => by cases hj; exact Nat.le_refl _)
      clear hM2 hg2 HM1 HB1
      go_wp2
      go_roundw
      case rel => exact ⟨k + 1, by omega, by rw [HY.out], HM2.out, HB2.out⟩
      case measure => exact HLT.out
    · obtain rfl : k = m.length := by omega
      have hx4 : (Pd.entries (m.drop m.length)).toList.isEmpty = true := is_empty (by rw [List.drop_length]; rfl)
      rw [List.take_length] at HMk
      generalize Pd.entries (m.drop m.length) = X at *
      go_wp2
      go_ret2
      exact ⟨rfl, HMk.out, HB.out⟩
end Go.Proofs.YtcfninpokngmlaaGreatDoor
/- Proved: a database in memory, its log, its disk and its map of pages: what stays while other things change. -/
namespace Pd
/- a database: how many sectors its log has, how many pages there are, its state, what the log tells of pages, whether it is lost, its log, its disk -/
structure Db where
  n : Nat
  cnt : Nat
  st : Stt
  m : Mp
  lost : Bool
  l : Wl.Lg
  s : Sc.St
end Pd
namespace Go.Proofs.YtcfninpokngmlaaGreatDoor
open Go.RowKit
/- where a database lies -/
structure Ad where
  x : Nat
  g : Nat
  q : Nat
  b : Nat
  kg : Nat
  vr : Value
  vw : Value
  vp : Value
def Ad.lf (A : Ad) : List Nat := lfoot A.q A.g A.vr A.vw A.kg A.vp
def Ad.ft (A : Ad) : List Nat := A.x :: A.b :: A.lf
def Ad.to (A : Ad) (vr vw vp : Value) : Ad := { A with vr := vr, vw := vw, vp := vp }
def dbA (A : Ad) (op : Value) (d : Pd.Db) : Array Value := #[ptr A.g, ptr A.q, .int .i64 (d.n : Int), .int .i64 (d.cnt : Int), .int .i64 (d.st.high : Int), .int .i64 (d.st.free : Int), .int .i64 (d.st.last : Int), .int .i64 (d.st.r0 : Int), .int .i64 (d.st.r1 : Int), .int .i64 (d.st.r2 : Int), .int .i64 (d.st.r3 : Int), .map (some A.b), op, .bool d.lost]
structure Dbw (w : World) (A : Ad) (op : Value) (d : Pd.Db) : Prop where
  row : w.heap[A.x]? = some (.cells (dbA A op d) 61 (0, 0))
  mp : MpAt w A.b d.m
  lp : LP w A.q A.g A.vr A.vw d.l A.kg A.vp d.s
  safe : Safe w A.ft
  ax : A.x ∉ A.lf
  ab : A.b ∉ A.lf
  xb : A.x ≠ A.b
section
variable {w w' : World} {A : Ad} {op : Value} {d : Pd.Db}
theorem Dbw.cell (H : Dbw w A op d) (i : Nat) : w.cell? ⟨A.x, i, none⟩ = (dbA A op d)[i]? := cell_of_row w A.x i _ _ (0, 0) H.row
theorem Dbw.c0 (H : Dbw w A op d) : w.cell? ⟨A.x, 0, none⟩ = some (ptr A.g) := by rw [H.cell]; rfl
theorem Dbw.c1 (H : Dbw w A op d) : w.cell? ⟨A.x, 1, none⟩ = some (ptr A.q) := by rw [H.cell]; rfl
theorem Dbw.c2 (H : Dbw w A op d) : w.cell? ⟨A.x, 2, none⟩ = some (.int .i64 (d.n : Int)) := by rw [H.cell]; rfl
theorem Dbw.c3 (H : Dbw w A op d) : w.cell? ⟨A.x, 3, none⟩ = some (.int .i64 (d.cnt : Int)) := by rw [H.cell]; rfl
theorem Dbw.c4 (H : Dbw w A op d) : w.cell? ⟨A.x, 4, none⟩ = some (.int .i64 (d.st.high : Int)) := by rw [H.cell]; rfl
theorem Dbw.c5 (H : Dbw w A op d) : w.cell? ⟨A.x, 5, none⟩ = some (.int .i64 (d.st.free : Int)) := by rw [H.cell]; rfl
theorem Dbw.c6 (H : Dbw w A op d) : w.cell? ⟨A.x, 6, none⟩ = some (.int .i64 (d.st.last : Int)) := by rw [H.cell]; rfl
theorem Dbw.c7 (H : Dbw w A op d) : w.cell? ⟨A.x, 7, none⟩ = some (.int .i64 (d.st.r0 : Int)) := by rw [H.cell]; rfl
theorem Dbw.c8 (H : Dbw w A op d) : w.cell? ⟨A.x, 8, none⟩ = some (.int .i64 (d.st.r1 : Int)) := by rw [H.cell]; rfl
theorem Dbw.c9 (H : Dbw w A op d) : w.cell? ⟨A.x, 9, none⟩ = some (.int .i64 (d.st.r2 : Int)) := by rw [H.cell]; rfl
theorem Dbw.c10 (H : Dbw w A op d) : w.cell? ⟨A.x, 10, none⟩ = some (.int .i64 (d.st.r3 : Int)) := by rw [H.cell]; rfl
theorem Dbw.c11 (H : Dbw w A op d) : w.cell? ⟨A.x, 11, none⟩ = some (.map (some A.b)) := by rw [H.cell]; rfl
theorem Dbw.c12 (H : Dbw w A op d) : w.cell? ⟨A.x, 12, none⟩ = some op := by rw [H.cell]; rfl
theorem Dbw.c13 (H : Dbw w A op d) : w.cell? ⟨A.x, 13, none⟩ = some (.bool d.lost) := by rw [H.cell]; rfl
theorem Dbw.fz (H : Dbw w A op d) (i : Nat) : w.frozen? ⟨A.x, i, none⟩ = false := frozen_of_row w A.x i _ _ H.row
theorem Dbw.xlt (H : Dbw w A op d) : A.x < w.heap.size := (Array.getElem?_eq_some_iff.1 H.row).1
theorem Dbw.tab (H : Dbw w A op d) : Tab w := H.safe.tab
theorem Dbw.lt (H : Dbw w A op d) : ∀ k ∈ A.ft, k < w.heap.size := fun k hk => by
  rcases List.mem_cons.1 hk with rfl | hk
  · exact H.xlt
  · rcases List.mem_cons.1 hk with rfl | hk
    · exact H.mp.lt
    · exact H.lp.lt k hk
theorem Ad.mx (A : Ad) : A.x ∈ A.ft := List.mem_cons_self
theorem Ad.mb (A : Ad) : A.b ∈ A.ft := List.mem_cons_of_mem _ List.mem_cons_self
theorem Ad.ml (A : Ad) {k : Nat} (h : k ∈ A.lf) : k ∈ A.ft := List.mem_cons_of_mem _ (List.mem_cons_of_mem _ h)
theorem Dbw.keep (H : Dbw w A op d) {fs : List Nat} (hc : Chg fs w w') (ha : ∀ k ∈ A.ft, k ∉ fs) (h0 : 0 ∉ fs) : Dbw w' A op d :=
  ⟨(hc.block A.x H.xlt (ha _ A.mx)).trans H.row, H.mp.chg hc (ha _ A.mb), H.lp.keep hc (fun k hk => ha k (A.ml hk)), ⟨H.safe.tab.of_block (hc.block 0 H.safe.tab.pos h0), H.safe.no⟩, H.ax, H.ab, H.xb⟩
theorem Dbw.below (H : Dbw w A op d) (hB : Below w.heap.size w w') : Dbw w' A op d := H.keep (fs := []) (Chg.of_below hB) (by simp) (by simp)
theorem Dbw.alloc (H : Dbw w A op d) (o : Obj) : Dbw (w.alloc o) A op d := H.keep (Chg.alloc [] w o) (by simp) (by simp)
theorem Dbw.drewN (H : Dbw w A op d) (n : Nat) : Dbw (w.drewN n) A op d := H.keep (fs := []) ⟨rfl, rfl, rfl, Nat.le_refl _, fun _ _ _ => rfl⟩ (by simp) (by simp)
theorem Dbw.drew (H : Dbw w A op d) : Dbw w.drew A op d := H.keep (fs := []) ⟨rfl, rfl, rfl, Nat.le_refl _, fun _ _ _ => rfl⟩ (by simp) (by simp)
/- the log or the disk turn -/
theorem Dbw.turn (H : Dbw w A op d) {vr vw vp : Value} {l : Wl.Lg} {s : Sc.St} (hL : LP w' A.q A.g vr vw l A.kg vp s) (hT : Turn A.lf (A.to vr vw vp).lf w w') :
    Dbw w' (A.to vr vw vp) op { d with l := l, s := s } ∧ Turn A.ft (A.to vr vw vp).ft w w' := by
  have hTT : Turn A.ft (A.to vr vw vp).ft w w' := by
    refine ⟨hT.chg.mono (fun k hk => A.ml hk), fun k hk => ?_⟩
    rcases List.mem_cons.1 hk with rfl | hk
    · exact .inl A.mx
    · rcases List.mem_cons.1 hk with rfl | hk
      · exact .inl A.mb
      · rcases hT.grow k hk with h | h
        · exact .inl (A.ml h)
        · exact .inr h
  refine ⟨⟨(hT.chg.block A.x H.xlt H.ax).trans H.row, H.mp.chg hT.chg H.ab, hL, H.safe.turn hTT, ?_, ?_, H.xb⟩, hTT⟩
  · exact hT.apart (rs := [A.x]) (fun k hk => by rw [List.mem_singleton.1 hk]; exact H.ax) (fun k hk => by rw [List.mem_singleton.1 hk]; exact H.xlt) A.x List.mem_cons_self
  · exact hT.apart (rs := [A.b]) (fun k hk => by rw [List.mem_singleton.1 hk]; exact H.ab) (fun k hk => by rw [List.mem_singleton.1 hk]; exact H.mp.lt) A.b List.mem_cons_self
/- the database's own cells are written -/
theorem Dbw.cells (H : Dbw w A op d) {op' : Value} {d' : Pd.Db} (hc : Chg [A.x] w w') (hr : w'.heap[A.x]? = some (.cells (dbA A op' d') 61 (0, 0))) (hm : d'.m = d.m) (hl : d'.l = d.l) (hs : d'.s = d.s) : Dbw w' A op' d' ∧ Turn A.ft A.ft w w' := by
  have h0 : (0 : Nat) ∉ [A.x] := fun hm => H.safe.no (by rw [List.mem_singleton.1 hm]; exact A.mx)
  refine ⟨⟨hr, ?_, ?_, ⟨H.safe.tab.of_block (hc.block 0 H.safe.tab.pos h0), H.safe.no⟩, H.ax, H.ab, H.xb⟩, ⟨hc.mono (fun k hk => by rw [List.mem_singleton.1 hk]; exact A.mx), fun k hk => .inl hk⟩⟩
  · rw [hm]
    exact H.mp.chg hc (fun e => H.xb (List.mem_singleton.1 e).symm)
  · rw [hl, hs]
    exact H.lp.keep hc (fun k hk e => H.ax (by rw [← List.mem_singleton.1 e]; exact hk))
theorem Dbw.set (H : Dbw w A op d) {op' : Value} {d' : Pd.Db} (i : Nat) (v : Value) (e : (dbA A op d).setIfInBounds i v = dbA A op' d') (hm : d'.m = d.m) (hl : d'.l = d.l) (hs : d'.s = d.s) : Dbw (w.setCell ⟨A.x, i, none⟩ v) A op' d' ∧ Turn A.ft A.ft w (w.setCell ⟨A.x, i, none⟩ v) :=
  H.cells (Chg.setCell w A.x i v) (by rw [heap_setCell_same w A.x i _ _ _ H.row, e]) hm hl hs
/- its map turns -/
theorem Dbw.map (H : Dbw w A op d) {m : Pd.Mp} (hM : MpAt w' A.b m) (hg : w.grownBy w' (some A.b)) : Dbw w' A op { d with m := m } ∧ Turn A.ft A.ft w w' := by
  have hc : Chg [A.b] w w' := (Chg.grown hg).mono (fun k hk => by simpa using hk)
  have h0 : (0 : Nat) ∉ [A.b] := fun hm => H.safe.no (by rw [List.mem_singleton.1 hm]; exact A.mb)
  refine ⟨⟨(hc.block A.x H.xlt (fun e => H.xb (List.mem_singleton.1 e))).trans H.row, hM, H.lp.keep hc (fun k hk e => H.ab (by rw [← List.mem_singleton.1 e]; exact hk)), ⟨H.safe.tab.of_block (hc.block 0 H.safe.tab.pos h0), H.safe.no⟩, H.ax, H.ab, H.xb⟩, ⟨hc.mono (fun k hk => by rw [List.mem_singleton.1 hk]; exact A.mb), fun k hk => .inl hk⟩⟩
end
end Go.Proofs.YtcfninpokngmlaaGreatDoor
/- Proved: what a database reads at a page's place. -/
namespace Pd
def part (ks : List ByteArray) (a k : Nat) : ByteArray := Pg.joined ((List.range k).map fun j => ks.getD (a + j) Sc.zero64)
theorem part_succ (ks : List ByteArray) (a k : Nat) : part ks a (k + 1) = part ks a k ++ ks.getD (a + k) Sc.zero64 := by
  unfold part
  rw [List.range_succ, List.map_append, Pg.joined_append]
  show _ ++ Pg.joined [ks.getD (a + k) Sc.zero64] = _
  rw [show Pg.joined [ks.getD (a + k) Sc.zero64] = ks.getD (a + k) Sc.zero64 ++ Pg.joined [] from rfl, show Pg.joined [] = none0 from rfl, app_none]
theorem part_plc (ks : List ByteArray) (n i : Nat) : part ks (n + 8 * i) 8 = plc ks n i := rfl
theorem part_size {ks : List ByteArray} (h : ∀ x ∈ ks, x.size = 64) (a : Nat) : ∀ k, (part ks a k).size = 64 * k
  | 0 => rfl
  | k + 1 => by rw [part_succ, ByteArray.size_append, part_size h a k, Sc.getD_size h]; omega
end Pd
namespace Go.Proofs.YtcfninpokngmlaaGreatDoor
open Go.RowKit
theorem at_any (x : Nat) (n id : Nat) (w : World) (hc : w.cell? ⟨x, 2, none⟩ = some (.int .i64 (n : Int))) (hn : n ≤ 1000000) (hi : id ≤ 1000000) :
    Calls Tryz.prog 107 #[ptr x, .int .i64 (id : Int)] w fun e w' => e = .returned (.int .i64 ((n + 8 * id : Nat) : Int)) ∧ w' = w := by
  have h1 : IntKind.i64.wrap ((id : Int) * 8) = (id : Int) * 8 := by rw [IntKind.wrap_i64]; omega
  have h2 : IntKind.i64.wrap ((n : Int) + (id : Int) * 8) = ((n + 8 * id : Nat) : Int) := by rw [IntKind.wrap_i64]; omega
  unfold ptr
  go_enter Tryz.func107, Tryz.ntmps107
  go_wp2
  go_ret
  refine ⟨?_, rfl⟩
  first | rfl | (congr 2; omega)
theorem read_flat {s : Sc.St} {i : Nat} (hd : s.down = false) (hi : i < s.kept.length) : Sc.readV s (i : Int) = (Wl.flat s).getD i Sc.zero64 ∧ Sc.readE s (i : Int) = 0 := by
  have h1 : Sc.has s (i : Int) = true := Sc.has_iff.2 ⟨by omega, by omega⟩
  unfold Sc.readV Sc.readE
  rw [hd, h1]
  simp only [Bool.false_eq_true, if_false, reduceCtorEq, Int.toNat_natCast]
  exact ⟨Wl.now_flat hi, trivial⟩
theorem flat_ok {s : Sc.St} (h : Sc.Ok s) : ∀ x ∈ Wl.flat s, x.size = 64 := Sc.keepI_ok h _
set_option maxHeartbeats 4000000 in
set_option maxRecDepth 100000 in
theorem dread_any (A : Ad) (op : Value) (d : Pd.Db) (id : Nat) (w : World) (H : Dbw w A op d) (hdn : d.s.down = false) (hl : d.n + 8 * id + 8 ≤ d.s.kept.length) (hi : id ≤ 1000000) :
    Calls Tryz.prog 81 #[ptr A.x, .int .i64 (id : Int)] w fun e w' => e = .returned (.tuple #[.string (Pd.plc (Wl.flat d.s) d.n id), .int .i64 0]) ∧ Below w.heap.size w w' := by
  have hz := builder0
  have hmo := H.lp.dk.ok.most
  have HH : Hid (Dbw w A op d) := H
  have HBD0 : Hid (Bd w.heap.size w.heap.size nil0 (Pd.part (Wl.flat d.s) (d.n + 8 * id) 0) (w.alloc (.cells #[.pointer none, .slice none 0 0] 151))) := Bd.new w
  have HB0 : Hid (Below w.heap.size w (w.alloc (.cells #[.pointer none, .slice none 0 0] 151))) := (Below.refl _ _).alloc (Nat.le_refl _) _
  clear H
  unfold ptr
  go_enter Tryz.func81, Tryz.ntmps81
  go_wp2_with fail
  generalize hw0 : World.alloc w _ = w0 at *
  clear hw0
  go_loopw [10] (fun s10 wr => ∃ (k : Nat) (v : Value), k ≤ 8 ∧ s10 = .int .i64 (k : Int) ∧ Bd w.heap.size w.heap.size v (Pd.part (Wl.flat d.s) (d.n + 8 * id) k) wr ∧ Below w.heap.size w wr) (fun s10 _ => 8 - (intOf s10).toNat)
  case atStart => exact ⟨0, nil0, by omega, rfl, HBD0.out, HB0.out⟩
  case round =>
    obtain ⟨k, v, hk, rfl, hD, hB⟩ := hrel
    have HD : Hid (Bd w.heap.size w.heap.size v (Pd.part (Wl.flat d.s) (d.n + 8 * id) k) wr) := hD
    have HB : Hid (Below w.heap.size w wr) := hB
    have HHr : Hid (Dbw wr A op d) := HH.out.below hB
    clear hD hB HBD0 HB0
    by_cases hk8 : k < 8
    · have dk : decide ((k : Int) < 8) = true := decide_eq_true (by omega)
      have HS : Hid ((fun U : World => U.cell? ⟨A.x, 0, none⟩ = some (.pointer (some ⟨A.g, 0, none⟩))) wr) := HHr.out.c0
      have HAT : Hid (∀ U : World, U.cell? ⟨A.x, 2, none⟩ = some (.int .i64 (d.n : Int)) → Calls Tryz.prog 107 #[.pointer (some ⟨A.x, 0, none⟩), .int .i64 (id : Int)] U fun e w' => e = .returned (.int .i64 ((d.n + 8 * id : Nat) : Int)) ∧ w' = U) := fun U hU => at_any A.x d.n id U hU (by omega) hi
      have hsum : IntKind.i64.wrap (((d.n + 8 * id : Nat) : Int) + (k : Int)) = ((d.n + 8 * id + k : Nat) : Int) := by rw [IntKind.wrap_i64]; omega
      obtain ⟨hv, he⟩ := read_flat (s := d.s) (i := d.n + 8 * id + k) hdn (by omega)
      have HRD : Hid (∀ U : World, Dbw U A op d → Calls Tryz.prog 96 #[.pointer (some ⟨A.g, 0, none⟩), .int .i64 ((d.n + 8 * id + k : Nat) : Int)] U fun e w' => e = .returned (.tuple #[.string ((Wl.flat d.s).getD (d.n + 8 * id + k) Sc.zero64), .int .i64 0]) ∧ Below U.heap.size U w') := fun U hU => by
        have h1 := read_any A.g A.kg A.vp d.s ((d.n + 8 * id + k : Nat) : Int) U hU.lp.dk
        rw [hv, he] at h1
        exact h1
      have hsz := Pd.part_size (flat_ok HHr.out.lp.dk.ok) (d.n + 8 * id) k
      have hsx := Sc.getD_size (flat_ok HHr.out.lp.dk.ok) (d.n + 8 * id + k)
      have HPS : Hid (Pd.part (Wl.flat d.s) (d.n + 8 * id) (k + 1) = Pd.part (Wl.flat d.s) (d.n + 8 * id) k ++ (Wl.flat d.s).getD (d.n + 8 * id + k) Sc.zero64) := Pd.part_succ _ _ _
      clear hv he
      generalize hX : (Wl.flat d.s).getD (d.n + 8 * id + k) Sc.zero64 = X at *
      clear hX
      go_wp2_with fail
      refine wp_region_held_drew (S := fun U : World => U.cell? ⟨A.x, 0, none⟩ = some (.pointer (some ⟨A.g, 0, none⟩))) (by kernel_rfl) HS.out (fun _ => ?_)
      refine heldTake 0 (some 14) (.pointer (some ⟨A.x, 0, none⟩)) rfl rfl (by kernel_rfl) (by kernel_rfl) (by kernel_rfl) (fun _ _ _ h => h) (Or.inl ⟨by rfl, fun w hS => ?_⟩) HS.out ?_
      · (go_simp)
      simp only [Act.put, List.setIfInBounds_toArray, List.set_cons_zero, List.set_cons_succ]
      refine heldTake 1 (some 15) (.pointer (some ⟨A.x, 0, none⟩)) rfl rfl (by kernel_rfl) (by kernel_rfl) (by kernel_rfl) (fun _ _ _ h => h) (Or.inl ⟨by rfl, fun w hS => ?_⟩) HS.out ?_
      · (go_simp)
      simp only [Act.put, List.setIfInBounds_toArray, List.set_cons_zero, List.set_cons_succ]
      refine heldTake 2 (some 16) (.pointer (some ⟨A.x, 0, none⟩)) rfl rfl (by kernel_rfl) (by kernel_rfl) (by kernel_rfl) (fun _ _ _ h => h) (Or.inl ⟨by rfl, fun w hS => ?_⟩) HS.out ?_
      · (go_simp)
      simp only [Act.put, List.setIfInBounds_toArray, List.set_cons_zero, List.set_cons_succ]
      refine heldTake 3 (some 17) (.pointer (some ⟨A.g, 0, none⟩)) rfl rfl (by kernel_rfl) (by kernel_rfl) (by kernel_rfl) (fun _ _ _ h => h) (Or.inl ⟨by rfl, fun w hS => ?_⟩) HS.out ?_
      · (go_simp)
      simp only [Act.put, List.setIfInBounds_toArray, List.set_cons_zero, List.set_cons_succ]
      refine heldTake 4 (some 18) (.pointer (some ⟨A.x, 0, none⟩)) rfl rfl (by kernel_rfl) (by kernel_rfl) (by kernel_rfl) (fun _ _ _ h => h) (Or.inl ⟨by rfl, fun w hS => ?_⟩) HS.out ?_
      · (go_simp)
      simp only [Act.put, List.setIfInBounds_toArray, List.set_cons_zero, List.set_cons_succ]
      refine heldTake 5 (some 19) (.int .i64 (id : Int)) rfl rfl (by kernel_rfl) (by kernel_rfl) (by kernel_rfl) (fun _ _ _ h => h) (Or.inl ⟨by rfl, fun w hS => ?_⟩) HS.out ?_
      · (go_simp)
      simp only [Act.put, List.setIfInBounds_toArray, List.set_cons_zero, List.set_cons_succ]
      refine heldTake 7 (some 21) (.int .i64 (k : Int)) rfl rfl (by kernel_rfl) (by kernel_rfl) (by kernel_rfl) (fun _ _ _ h => h) (Or.inl ⟨by rfl, fun w hS => ?_⟩) HS.out ?_
      · (go_simp)
      simp only [Act.put, List.setIfInBounds_toArray, List.set_cons_zero, List.set_cons_succ]
      refine heldOne 6 (by kernel_rfl) rfl (by rfl) (fun KK hK => ?_)
      go_simp
      go_at_call 107
      refine (HAT.out wr.drew HHr.out.c2).mono ?_
      rintro e wS ⟨rfl, hwS⟩
      rw [hwS]
      clear hwS wS
      refine hK.out _ _ HS.out ?_
      clear hK KK
      refine heldTake 8 (some 22) (.int .i64 ((d.n + 8 * id + k : Nat) : Int)) rfl rfl (by kernel_rfl) (by kernel_rfl) (by kernel_rfl) (fun _ _ _ h => h) (Or.inl ⟨by rfl, fun w hS => ?_⟩) HS.out ?_
      · (go_simp; rw [IntKind.wrap_i64]; omega)
      simp only [Act.put, List.setIfInBounds_toArray, List.set_cons_zero, List.set_cons_succ]
      refine heldOne 9 (by kernel_rfl) rfl (by rfl) (fun KK hK => ?_)
      go_simp
      go_at_call 96
      refine (HRD.out wr.drew HHr.out.drew).mono ?_
      rintro e u1 ⟨rfl, hB1⟩
      have HD1 : Hid (Bd w.heap.size w.heap.size v (Pd.part (Wl.flat d.s) (d.n + 8 * id) k) u1) := HD.out.below (below_drew hB1)
      have HB1 : Hid (Below w.heap.size w u1) := below_next HB.out (below_drew hB1) HB.out.size
      have HS1 : Hid ((fun U : World => U.cell? ⟨A.x, 0, none⟩ = some (.pointer (some ⟨A.g, 0, none⟩))) u1) := (HH.out.below HB1.out).c0
      clear hB1 HRD HAT HD HB HHr
      refine hK.out _ _ HS1.out ?_
      clear hK KK
      refine heldTake 10 (some 13) (.tuple #[.string X, .int .i64 0]) rfl rfl (by kernel_rfl) (by kernel_rfl) (by kernel_rfl) (fun _ _ _ h => h) (Or.inl ⟨by rfl, fun w hS => ?_⟩) HS1.out ?_
      · (go_simp)
      simp only [Act.put, List.setIfInBounds_toArray, List.set_cons_zero, List.set_cons_succ]
      refine heldTake 11 (some 24) (.string X) rfl rfl (by kernel_rfl) (by kernel_rfl) (by kernel_rfl) (fun _ _ _ h => h) (Or.inl ⟨by rfl, fun w hS => ?_⟩) HS1.out ?_
      · (go_simp)
      simp only [Act.put, List.setIfInBounds_toArray, List.set_cons_zero, List.set_cons_succ]
      refine heldTake 12 (some 25) (.int .i64 0) rfl rfl (by kernel_rfl) (by kernel_rfl) (by kernel_rfl) (fun _ _ _ h => h) (Or.inl ⟨by rfl, fun w hS => ?_⟩) HS1.out ?_
      · (go_simp)
      simp only [Act.put, List.setIfInBounds_toArray, List.set_cons_zero, List.set_cons_succ]
      refine heldTake 13 (some 8) (.string X) rfl rfl (by kernel_rfl) (by kernel_rfl) (by kernel_rfl) (fun _ _ _ h => h) (Or.inl ⟨by rfl, fun w hS => ?_⟩) HS1.out ?_
      · (go_simp)
      simp only [Act.put, List.setIfInBounds_toArray, List.set_cons_zero, List.set_cons_succ]
      refine heldTake 14 (some 9) (.int .i64 0) rfl rfl (by kernel_rfl) (by kernel_rfl) (by kernel_rfl) (fun _ _ _ h => h) (Or.inl ⟨by rfl, fun w hS => ?_⟩) HS1.out ?_
      · (go_simp)
      simp only [Act.put, List.setIfInBounds_toArray, List.set_cons_zero, List.set_cons_succ]
      refine wpAnyH_done (by kernel_rfl) ?_ _
      have HW : Hid (Calls Tryz.prog 112 #[.pointer (some ⟨w.heap.size, 0, none⟩), .string X] u1 fun e w' => ∃ v', e = .returned (.tuple #[.int .i64 X.size, .nilIface]) ∧ Bd w.heap.size w.heap.size v' (Pd.part (Wl.flat d.s) (d.n + 8 * id) k ++ X) w' ∧ Below w.heap.size u1 w' ∧ Chg (w.heap.size :: v.ownBlock.toList) u1 w') := wstr_t w.heap.size w.heap.size v _ X u1 HD1.out (by omega) HB1.out.size
      rw [← HPS.out] at HW
      go_wp2_with fail
      refine HW.out.mono ?_
      rintro e u2 ⟨v2, rfl, hD2, hB2, _⟩
      have HD2 : Hid (Bd w.heap.size w.heap.size v2 (Pd.part (Wl.flat d.s) (d.n + 8 * id) (k + 1)) u2) := hD2
      have HB2 : Hid (Below w.heap.size w u2) := HB1.out.trans hB2
      clear hD2 hB2
      go_wp2
      go_roundw
      case rel => exact ⟨k + 1, v2, by omega, by go_num, HD2.out, HB2.out⟩
      case measure => (simp [intOf]) <;> omega
    · obtain rfl : k = 8 := by omega
      have dk : decide (((8 : Nat) : Int) < 8) = false := decide_eq_false (by omega)
      rw [Pd.part_plc] at HD
      have HS := (show Hid (Calls Tryz.prog 113 #[.pointer (some ⟨w.heap.size, 0, none⟩)] wr fun e w' => e = .returned (.string (Pd.plc (Wl.flat d.s) d.n id)) ∧ Below w.heap.size wr w') from bstr_t w.heap.size w.heap.size v _ wr HD.out HB.out.size)
      go_wp2_with fail
      refine HS.out.mono ?_
      rintro e u1 ⟨rfl, hB1⟩
      have HB1 : Hid (Below w.heap.size w u1) := HB.out.trans hB1
      clear hB1
      go_wp2
      go_ret2
      exact ⟨rfl, HB1.out⟩
end Go.Proofs.YtcfninpokngmlaaGreatDoor
/- Proved: what a database writes to a page's place, on any disk. -/
namespace Pd
open Sc (St)
/- writes, one behind the other, up to the first that is refused -/
def wrs : List (Nat × ByteArray) → St → St × Int
  | [], s => (s, 0)
  | p :: l, s => if Sc.writeE s (p.1 : Int) p.2 = 0 then wrs l (Sc.writeS s (p.1 : Int) p.2) else (Sc.writeS s (p.1 : Int) p.2, Sc.writeE s (p.1 : Int) p.2)
theorem wrs_cons (p : Nat × ByteArray) (l : List (Nat × ByteArray)) (s : St) : wrs (p :: l) s = if Sc.writeE s (p.1 : Int) p.2 = 0 then wrs l (Sc.writeS s (p.1 : Int) p.2) else (Sc.writeS s (p.1 : Int) p.2, Sc.writeE s (p.1 : Int) p.2) := rfl
theorem wrs_append (b : List (Nat × ByteArray)) : ∀ (a : List (Nat × ByteArray)) (s : St), wrs (a ++ b) s = if (wrs a s).2 = 0 then wrs b (wrs a s).1 else wrs a s
  | [], s => by
    show wrs b s = if (0 : Int) = 0 then wrs b s else _
    rw [if_pos rfl]
  | p :: a, s => by
    rw [List.cons_append, wrs_cons, wrs_cons]
    by_cases h : Sc.writeE s (p.1 : Int) p.2 = 0
    · rw [if_pos h, if_pos h]
      exact wrs_append b a _
    · rw [if_neg h, if_neg h, if_neg h]
theorem wrs_one (p : Nat × ByteArray) (s : St) : wrs [p] s = (Sc.writeS s (p.1 : Int) p.2, Sc.writeE s (p.1 : Int) p.2) := by
  unfold wrs
  by_cases h : Sc.writeE s (p.1 : Int) p.2 = 0
  · rw [if_pos h, h]
    rfl
  · rw [if_neg h]
theorem wrs_step : ∀ (l : List (Nat × ByteArray)) (s : St), (wrs l s).1.kept.length = s.kept.length ∧ (wrs l s).1.dn ≤ s.dn + l.length ∧ (wrs l s).1.pend.length ≤ s.pend.length + l.length
  | [], s => ⟨rfl, Nat.le_refl _, Nat.le_refl _⟩
  | p :: l, s => by
    have h := Sc.writeS_step s (p.1 : Int) p.2
    unfold wrs
    split
    · obtain ⟨h1, h2, h3⟩ := wrs_step l (Sc.writeS s (p.1 : Int) p.2)
      have h4 := h.len
      have h5 := h.dn
      have h6 := h.pend
      rw [List.length_cons]
      exact ⟨by omega, by omega, by omega⟩
    · have h4 := h.len
      have h5 := h.dn
      have h6 := h.pend
      rw [List.length_cons]
      refine ⟨h4, ?_, ?_⟩
      · show (Sc.writeS s (p.1 : Int) p.2).dn ≤ _
        omega
      · show (Sc.writeS s (p.1 : Int) p.2).pend.length ≤ _
        omega
theorem wrOf_take (n i : Nat) (x : ByteArray) {k : Nat} (hk : k < 8) : (wrOf n i x).take (k + 1) = (wrOf n i x).take k ++ [(n + 8 * i + k, secAt x k)] := by
  have hl : k < (wrOf n i x).length := by simp [wrOf]; exact hk
  have hg : (wrOf n i x)[k]? = some (n + 8 * i + k, secAt x k) := by
    unfold wrOf
    rw [List.getElem?_map, List.getElem?_range hk]
    rfl
  rw [List.take_succ_eq_append_getElem hl, (List.getElem?_eq_some_iff.1 hg).2]
theorem wrOf_length (n i : Nat) (x : ByteArray) : (wrOf n i x).length = 8 := by simp [wrOf]
end Pd
namespace Go.Proofs.YtcfninpokngmlaaGreatDoor
open Go.RowKit
theorem below_up {w w2 : World} (h : Below w.heap.size w w2) : Below w.heap.size w w2 := h
theorem sec_get {x : ByteArray} (h : x.size = 512) {k : Nat} (hk : k < 8) : (Pg.cut x 64 [])[k]? = some (Pd.secAt x k) := by
  have hl := (Pd.cut_len h).1
  have hk2 : k < (Pg.cut x 64 []).length := by omega
  unfold Pd.secAt
  rw [List.getD_eq_getElem?_getD, List.getElem?_eq_getElem hk2]
  rfl
def DDoes (w : World) (A : Ad) (op : Value) (d : Pd.Db) (n : Int) (e : Ending) (w' : World) : Prop := ∃ vr vw vp, e = .returned (.int .i64 n) ∧ Dbw w' (A.to vr vw vp) op d ∧ Turn A.ft (A.to vr vw vp).ft w w'
set_option maxHeartbeats 4000000 in
set_option maxRecDepth 100000 in
theorem dwrite_any (A : Ad) (op : Value) (d : Pd.Db) (id : Nat) (y : Pd.Sheet) (w : World) (H : Dbw w A op d) (hy : y.Fine) (hi : id ≤ 1000000) (hn : d.n ≤ 1000000) (h1 : d.s.dn + 8 ≤ 1000000000) (h2 : d.s.pend.length + 8 ≤ 30000) :
    Calls Tryz.prog 78 #[ptr A.x, .int .i64 (id : Int), shV y] w (DDoes w A op { d with s := (Pd.wrs (Pd.wrOf d.n id (Pd.pageOf id y)) d.s).1 } (Pd.wrs (Pd.wrOf d.n id (Pd.pageOf id y)) d.s).2) := by
  have h512 := Pd.pageOf_size (i := id) hy
  have hpos := H.tab.pos
  have HH : Hid (Dbw w A op d) := H
  have HB0 : Hid (Below w.heap.size w (w.alloc (.cells (shA y) 102))) := (Below.refl _ _).alloc (Nat.le_refl _) _
  have c0 : (w.alloc (.cells (shA y) 102)).cell? ⟨w.heap.size, 0, none⟩ = some (.int .i64 (y.kind : Int)) := cell_of_row _ _ _ _ _ (0, 0) (heap_alloc_new w _)
  have c1 : (w.alloc (.cells (shA y) 102)).cell? ⟨w.heap.size, 1, none⟩ = some (.string y.body) := cell_of_row _ _ _ _ _ (0, 0) (heap_alloc_new w _)
  have HSE : Hid (Calls Tryz.prog 105 #[.int .i64 (id : Int), .agg #[.int .i64 (y.kind : Int), .string y.body]] (w.alloc (.cells (shA y) 102)) fun e w' => e = .returned (.string (Pd.pageOf id y)) ∧ Below (w.alloc (.cells (shA y) 102)).heap.size (w.alloc (.cells (shA y) 102)) w') := sealed_any id y _ (H.tab.below HB0.out hpos) hy (by omega)
  have HL8 : Hid ((Pg.cut (Pd.pageOf id y) 64 []).length = 8) := (Pd.cut_len h512).1
  have HSX : Hid (∀ k, k < 8 → (Pg.cut (Pd.pageOf id y) 64 [])[k]? = some (Pd.secAt (Pd.pageOf id y) k)) := fun k hk => sec_get h512 hk
  have HSC : Hid (∀ W, Calls Tryz.prog 104 #[.string (Pd.pageOf id y)] W fun e w' => ∃ v, e = .returned v ∧ OwnS w' W.heap.size v (Pg.cut (Pd.pageOf id y) 64 []) ∧ Below W.heap.size W w') := fun W => sectors_any _ W (by omega)
  have HAT : Hid (∀ U : World, U.cell? ⟨A.x, 2, none⟩ = some (.int .i64 (d.n : Int)) → Calls Tryz.prog 107 #[.pointer (some ⟨A.x, 0, none⟩), .int .i64 (id : Int)] U fun e w' => e = .returned (.int .i64 ((d.n + 8 * id : Nat) : Int)) ∧ w' = U) := fun U hU => at_any A.x d.n id U hU (by omega) hi
  clear H
  generalize Pd.pageOf id y = pg at *
  change Calls Tryz.prog 78 #[.pointer (some ⟨A.x, 0, none⟩), .int .i64 (id : Int), .agg (shA y)] w _
  unfold shA at *
  go_enter Tryz.func78, Tryz.ntmps78
  go_wp2_with fail
  generalize hw0 : World.alloc w _ = w0 at *
  clear hw0
  refine HSE.out.mono ?_
  rintro e w1 ⟨rfl, hB1⟩
  have HB1 : Hid (Below w.heap.size w w1) := below_next HB0.out hB1 HB0.out.size
  clear hB1 HSE HB0 c0 c1
  go_wp2_with fail
  refine (HSC.out w1).mono ?_
  rintro e w2 ⟨v, rfl, hO, hB2⟩
  have HB2 : Hid (Below w.heap.size w w2) := below_next HB1.out hB2 HB1.out.size
  have hNw : w.heap.size ≤ w1.heap.size := HB1.out.size
  have HO2 : Hid (OwnS w2 w1.heap.size v (Pg.cut pg 64 [])) := hO
  obtain ⟨g2, cap, hv, hcell⟩ := own_at hO (by rw [HL8.out]; omega)
  rw [HL8.out] at hv
  subst hv
  have HVB : Hid (w.heap.size ≤ g2 ∧ g2 < w2.heap.size) := ⟨Nat.le_trans hNw (HO2.out.lt g2 rfl).1, (HO2.out.lt g2 rfl).2⟩
  have HCL : Hid (∀ i r, (Pg.cut pg 64 [])[i]? = some r → w2.cell? ⟨g2, i, none⟩ = some (.string r)) := hcell
  clear hO hB2 HSC HB1 hcell hNw HO2
  have HD2 : Hid (Dbw w2 A op d) := HH.out.below HB2.out
  go_wp2_with fail
  go_loopw [15] (fun s15 wr => ∃ (k : Nat) (vr vw vp : Value), k ≤ 8 ∧ s15 = .int .i64 (k : Int) ∧ (Pd.wrs ((Pd.wrOf d.n id pg).take k) d.s).2 = 0 ∧ Dbw wr (A.to vr vw vp) op { d with s := (Pd.wrs ((Pd.wrOf d.n id pg).take k) d.s).1 } ∧ Turn A.ft (A.to vr vw vp).ft w2 wr) (fun s15 _ => 8 - (intOf s15).toNat)
  case atStart => exact ⟨0, A.vr, A.vw, A.vp, by omega, rfl, rfl, HD2.out, Turn.refl _ _⟩
  case round =>
    obtain ⟨k, vr, vw, vp, hk, rfl, he0, hD, hT⟩ := hrel
    have HE0 : Hid ((Pd.wrs ((Pd.wrOf d.n id pg).take k) d.s).2 = 0) := he0
    have HT : Hid (Turn A.ft (A.to vr vw vp).ft w2 wr) := hT
    by_cases hk8 : k < 8
    · have hwt := Pd.wrOf_take d.n id pg hk8
      obtain ⟨z1, z2, z3⟩ := Pd.wrs_step ((Pd.wrOf d.n id pg).take k) d.s
      have hln : ((Pd.wrOf d.n id pg).take k).length = k := by rw [List.length_take, Pd.wrOf_length]; omega
      rw [hln] at z2 z3
      have HAP : Hid (Pd.wrs ((Pd.wrOf d.n id pg).take (k + 1)) d.s = (Sc.writeS (Pd.wrs ((Pd.wrOf d.n id pg).take k) d.s).1 ((d.n + 8 * id + k : Nat) : Int) (Pd.secAt pg k), Sc.writeE (Pd.wrs ((Pd.wrOf d.n id pg).take k) d.s).1 ((d.n + 8 * id + k : Nat) : Int) (Pd.secAt pg k))) := by
        show _ = _
        rw [hwt, Pd.wrs_append, if_pos he0, Pd.wrs_one]
      have HALL : Hid (Pd.wrs (Pd.wrOf d.n id pg) d.s = if (Pd.wrs ((Pd.wrOf d.n id pg).take (k + 1)) d.s).2 = 0 then Pd.wrs ((Pd.wrOf d.n id pg).drop (k + 1)) (Pd.wrs ((Pd.wrOf d.n id pg).take (k + 1)) d.s).1 else Pd.wrs ((Pd.wrOf d.n id pg).take (k + 1)) d.s) := by
        show _ = _
        rw [← Pd.wrs_append, List.take_append_drop]
      have hWS := Sc.writeS_step (Pd.wrs ((Pd.wrOf d.n id pg).take k) d.s).1 ((d.n + 8 * id + k : Nat) : Int) (Pd.secAt pg k)
      have hwl := hWS.len
      have HD : Hid (Dbw wr (A.to vr vw vp) op { d with s := (Pd.wrs ((Pd.wrOf d.n id pg).take k) d.s).1 }) := hD
      have hq : wr.cell? ⟨g2, k, none⟩ = some (.string (Pd.secAt pg k)) := by
        have h3 := HCL.out k _ (HSX.out k hk8)
        rw [← h3]
        exact World.cell?_of_block (hT.chg.block g2 HVB.out.2 (fun hm => by have h4 := HH.out.lt g2 hm; have h5 := HVB.out.1; omega))
      have HWR : Hid (∀ U : World, Dbw U (A.to vr vw vp) op { d with s := (Pd.wrs ((Pd.wrOf d.n id pg).take k) d.s).1 } → Calls Tryz.prog 106 #[.pointer (some ⟨A.g, 0, none⟩), .int .i64 ((d.n + 8 * id + k : Nat) : Int), .string (Pd.secAt pg k)] U (Does U A.g A.kg vp (Sc.writeS (Pd.wrs ((Pd.wrOf d.n id pg).take k) d.s).1 ((d.n + 8 * id + k : Nat) : Int) (Pd.secAt pg k)) (Sc.writeE (Pd.wrs ((Pd.wrOf d.n id pg).take k) d.s).1 ((d.n + 8 * id + k : Nat) : Int) (Pd.secAt pg k)))) := fun U hU => write_any A.g A.kg vp _ _ _ U hU.lp.dk (by omega) (by omega)
      clear hD hT he0 hwt hWS
      generalize hs0 : (Pd.wrs ((Pd.wrOf d.n id pg).take k) d.s).1 = s0 at *
      generalize hs1 : Sc.writeS s0 ((d.n + 8 * id + k : Nat) : Int) (Pd.secAt pg k) = s1 at *
      generalize he1 : Sc.writeE s0 ((d.n + 8 * id + k : Nat) : Int) (Pd.secAt pg k) = e1 at *
      clear hs0 hs1 he1
      generalize hX : Pd.secAt pg k = X at *
      clear hX
      have dk : decide ((k : Int) < 8) = true := decide_eq_true (by omega)
      have k0 : (0 : Int) ≤ (k : Int) := by omega
      have k1 : (k : Int) < 8 := by omega
      have HS : Hid ((fun U : World => U.cell? ⟨A.x, 0, none⟩ = some (.pointer (some ⟨A.g, 0, none⟩))) wr) := HD.out.c0
      go_wp2_with fail
      refine wp_region_held_drew (S := fun U : World => U.cell? ⟨A.x, 0, none⟩ = some (.pointer (some ⟨A.g, 0, none⟩))) (by kernel_rfl) HS.out (fun _ => ?_)
      refine heldTake 0 (some 20) (.pointer (some ⟨A.x, 0, none⟩)) rfl rfl (by kernel_rfl) (by kernel_rfl) (by kernel_rfl) (fun _ _ _ h => h) (Or.inl ⟨by rfl, fun w hS => ?_⟩) HS.out ?_
      · (go_simp)
      simp only [Act.put, List.setIfInBounds_toArray, List.set_cons_zero, List.set_cons_succ]
      refine heldTake 1 (some 21) (.pointer (some ⟨A.x, 0, none⟩)) rfl rfl (by kernel_rfl) (by kernel_rfl) (by kernel_rfl) (fun _ _ _ h => h) (Or.inl ⟨by rfl, fun w hS => ?_⟩) HS.out ?_
      · (go_simp)
      simp only [Act.put, List.setIfInBounds_toArray, List.set_cons_zero, List.set_cons_succ]
      refine heldTake 2 (some 22) (.pointer (some ⟨A.x, 0, none⟩)) rfl rfl (by kernel_rfl) (by kernel_rfl) (by kernel_rfl) (fun _ _ _ h => h) (Or.inl ⟨by rfl, fun w hS => ?_⟩) HS.out ?_
      · (go_simp)
      simp only [Act.put, List.setIfInBounds_toArray, List.set_cons_zero, List.set_cons_succ]
      refine heldTake 3 (some 23) (.pointer (some ⟨A.g, 0, none⟩)) rfl rfl (by kernel_rfl) (by kernel_rfl) (by kernel_rfl) (fun _ _ _ h => h) (Or.inl ⟨by rfl, fun w hS => ?_⟩) HS.out ?_
      · (go_simp)
      simp only [Act.put, List.setIfInBounds_toArray, List.set_cons_zero, List.set_cons_succ]
      refine heldTake 4 (some 24) (.pointer (some ⟨A.x, 0, none⟩)) rfl rfl (by kernel_rfl) (by kernel_rfl) (by kernel_rfl) (fun _ _ _ h => h) (Or.inl ⟨by rfl, fun w hS => ?_⟩) HS.out ?_
      · (go_simp)
      simp only [Act.put, List.setIfInBounds_toArray, List.set_cons_zero, List.set_cons_succ]
      refine heldTake 5 (some 25) (.int .i64 (id : Int)) rfl rfl (by kernel_rfl) (by kernel_rfl) (by kernel_rfl) (fun _ _ _ h => h) (Or.inl ⟨by rfl, fun w hS => ?_⟩) HS.out ?_
      · (go_simp)
      simp only [Act.put, List.setIfInBounds_toArray, List.set_cons_zero, List.set_cons_succ]
      refine heldTake 7 (some 27) (.int .i64 (k : Int)) rfl rfl (by kernel_rfl) (by kernel_rfl) (by kernel_rfl) (fun _ _ _ h => h) (Or.inl ⟨by rfl, fun w hS => ?_⟩) HS.out ?_
      · (go_simp)
      simp only [Act.put, List.setIfInBounds_toArray, List.set_cons_zero, List.set_cons_succ]
      refine heldTake 9 (some 29) (.string X) rfl rfl (by kernel_rfl) (by kernel_rfl) (by kernel_rfl) (fun _ _ _ h => h) (Or.inl ⟨by rfl, fun w hS => ?_⟩) HS.out ?_
      · (go_simp)
      simp only [Act.put, List.setIfInBounds_toArray, List.set_cons_zero, List.set_cons_succ]
      refine heldOne 6 (by kernel_rfl) rfl (by rfl) (fun KK hK => ?_)
      go_simp
      go_at_call 107
      refine (HAT.out wr.drew HD.out.c2).mono ?_
      rintro e wS ⟨rfl, hwS⟩
      rw [hwS]
      clear hwS wS
      refine hK.out _ _ HS.out ?_
      clear hK KK
      refine heldTake 8 (some 28) (.int .i64 ((d.n + 8 * id + k : Nat) : Int)) rfl rfl (by kernel_rfl) (by kernel_rfl) (by kernel_rfl) (fun _ _ _ h => h) (Or.inl ⟨by rfl, fun w hS => ?_⟩) HS.out ?_
      · (go_simp; rw [IntKind.wrap_i64]; omega)
      simp only [Act.put, List.setIfInBounds_toArray, List.set_cons_zero, List.set_cons_succ]
      refine heldOne 10 (by kernel_rfl) rfl (by rfl) (fun KK hK => ?_)
      go_simp
      go_at_call 106
      refine (HWR.out wr.drew HD.out.drew).mono ?_
      rintro e u1 ⟨vp1, rfl, hR1, hT1⟩
      obtain ⟨hL1, hTL1⟩ := HD.out.drew.lp.d hR1 hT1 hwl
      obtain ⟨hD1, hTD1⟩ := HD.out.drew.turn (vr := vr) (vw := vw) (vp := vp1) hL1 hTL1
      have HD1 : Hid (Dbw u1 (A.to vr vw vp1) op { d with s := s1 }) := hD1
      have HT1 : Hid (Turn A.ft (A.to vr vw vp1).ft w2 u1) := HT.out.trans ((Turn.refl _ wr).drew.trans hTD1)
      have HS1 : Hid ((fun U : World => U.cell? ⟨A.x, 0, none⟩ = some (.pointer (some ⟨A.g, 0, none⟩))) u1) := hD1.c0
      clear hR1 hT1 hL1 hTL1 hD1 hTD1 HWR HD HT hq
      refine hK.out _ _ HS1.out ?_
      clear hK KK
      refine heldTake 11 (some 9) (.int .i64 e1) rfl rfl (by kernel_rfl) (by kernel_rfl) (by kernel_rfl) (fun _ _ _ h => h) (Or.inl ⟨by rfl, fun w hS => ?_⟩) HS1.out ?_
      · (go_simp)
      simp only [Act.put, List.setIfInBounds_toArray, List.set_cons_zero, List.set_cons_succ]
      refine wpAnyH_done (by kernel_rfl) ?_ _
      by_cases hz : e1 = 0
      · subst hz
        have HFN : Hid (∃ (k' : Nat) (vr' vw' vp' : Value), k' ≤ 8 ∧ Value.int .i64 ((k : Int) + 1) = .int .i64 (k' : Int) ∧ (Pd.wrs ((Pd.wrOf d.n id pg).take k') d.s).2 = 0 ∧ Dbw u1 (A.to vr' vw' vp') op { d with s := (Pd.wrs ((Pd.wrOf d.n id pg).take k') d.s).1 } ∧ Turn A.ft (A.to vr' vw' vp').ft w2 u1) := ⟨k + 1, vr, vw, vp1, by omega, by go_num, by rw [HAP.out], by rw [HAP.out]; exact HD1.out, HT1.out⟩
        clear z1 z2 z3 hwl hln
        go_wp2
        go_roundw
        case rel => first | exact HFN.out | ((repeat apply Exists.intro); exact ⟨HFN.out, rfl⟩)
        case measure => (simp [intOf]) <;> omega
      · have hb : (e1 != 0) = true := by simp [hz]
        have HFN : Hid (DDoes w A op { d with s := (Pd.wrs (Pd.wrOf d.n id pg) d.s).1 } (Pd.wrs (Pd.wrOf d.n id pg) d.s).2 (.returned (.int .i64 e1)) u1) := by
          have hne : ¬ (Pd.wrs ((Pd.wrOf d.n id pg).take (k + 1)) d.s).2 = 0 := by rw [HAP.out]; exact hz
          have e2 : Pd.wrs (Pd.wrOf d.n id pg) d.s = (s1, e1) := by rw [HALL.out, if_neg hne, HAP.out]
          rw [e2]
          exact ⟨vr, vw, vp1, rfl, HD1.out, (Turn.of_below (below_up HB2.out)).trans HT1.out⟩
        clear z1 z2 z3 hwl hln
        go_wp2
        go_ret
        exact HFN.out
    · obtain rfl : k = 8 := by omega
      have dk : decide (((8 : Nat) : Int) < 8) = false := decide_eq_false (by omega)
      have e2 : (Pd.wrOf d.n id pg).take 8 = Pd.wrOf d.n id pg := List.take_of_length_le (by rw [Pd.wrOf_length]; exact Nat.le_refl _)
      rw [e2] at hD HE0
      have HFN : Hid (DDoes w A op { d with s := (Pd.wrs (Pd.wrOf d.n id pg) d.s).1 } (Pd.wrs (Pd.wrOf d.n id pg) d.s).2 (.returned (.int .i64 0)) wr) := ⟨vr, vw, vp, by rw [HE0.out], hD, (Turn.of_below (below_up HB2.out)).trans hT⟩
      clear e2 hD hT he0
      go_wp2
      go_ret
      exact HFN.out
end Go.Proofs.YtcfninpokngmlaaGreatDoor
