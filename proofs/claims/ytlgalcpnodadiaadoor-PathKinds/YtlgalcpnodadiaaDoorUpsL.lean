/- Proved: the law's own list of the directories is the document's, up to so many. -/
import Derived.Test.YtlgalcpnodadiaaDoorMoved
namespace Go.Proofs.YtlgalcpnodadiaaDoor
open Go.RowKit Go.Shelf
attribute [local go_sem] Oper.semAt_some
/- the list so far, and how many there may be -/
structure Lst (N Bl Bm : Nat) (most : Nat) (w : World) (xs : List Pm.T) (A : World) : Prop where
  box : ∃ v, Boxed A Bl 35 v ∧ A.ownsRow N 9 1 v xs.length (scells xs)
  max : Boxed A Bm 3 (.int .i64 (most : Int))
  old : Below Bl w A
theorem Lst.below {N Bl Bm most : Nat} {w A B : World} {xs : List Pm.T} (h : Lst N Bl Bm most w xs A) (hb : Below A.heap.size A B) (hB : Bl ≤ A.heap.size) : Lst N Bl Bm most w xs B := by
  obtain ⟨v, h1, h2⟩ := h.box
  exact ⟨⟨v, (hb.block _ h1.lt).trans h1, own_below h2 hb⟩, (hb.block _ h.max.lt).trans h.max, h.old.trans (hb.mono hB)⟩
set_option maxHeartbeats 2000000 in
set_option maxRecDepth 20000 in
theorem upsC_any (x : Pm.T) (N Bl Bm most : Nat) (w A : World) (xs : List Pm.T) (h : Lst N Bl Bm most w xs A) (hN : Bl < N) (hmN : Bm < N) (hlm : Bl ≠ Bm) (hNA : N ≤ A.heap.size) (hx : xs.length ≤ 100) :
    Calls Tryd.prog 44 #[.string (mk x), .pointer (some ⟨Bl, 0, none⟩), .pointer (some ⟨Bm, 0, none⟩)] A fun e B => e = .returned (.bool (decide (xs.length + 1 < most))) ∧ Lst N Bl Bm most w (xs ++ [x]) B ∧ A.heap.size ≤ B.heap.size ∧ Below Bl A B := by
  obtain ⟨⟨v, b0, ho⟩, b1, hold⟩ := h
  have B0 : Hid (Boxed A Bl 35 v) := b0
  have B1 : Hid (Boxed A Bm 3 (.int .i64 (most : Int))) := b1
  have HO : Hid (A.ownsRow N 9 1 v xs.length (scells xs)) := ho
  have HOLD : Hid (Below Bl w A) := hold
  have x0 := b0.cell; have y0 := b0.frozen; have x1 := b1.cell
  have hv : ∃ ad n c, v = .slice ad n c := by
    rcases own_shape ho with ⟨h, _⟩ | ⟨g, cap, h, _⟩
    · exact ⟨_, _, _, h⟩
    · exact ⟨_, _, _, h⟩
  obtain ⟨ad, nn, cc, rfl⟩ := hv
  have HSC : Is (scells (xs ++ [x])) (scells xs ++ [.string (mk x)]) := ⟨by rw [scells, scells, List.map_append]; rfl⟩
  clear b0 b1 ho hold
  generalize mk x = X at *
  go_enter Tryd.func44, Tryd.ntmps44
  go_wp2_with (first | (refine append_str rfl (.tmp 5) (.tmp 7) rfl _ N _ xs.length (scells xs) rfl (own_alloc1 HO.out _) ⟨A.heap.size, 0, none⟩ 1 X rfl (str_new A X) (by omega) (by simp; omega) ?_; intro v' w1 hO2 hG2; obtain ⟨g', cap', rfl⟩ := ownsRow_succ hO2; have HO2 := (show Hid (w1.ownsRow N 9 1 _ (xs.length + 1) (scells xs ++ [.string X])) from hO2); have HBL : Hid (Below N A w1) := (((Below.refl _ A).alloc (Nat.le_refl _) _).mono hNA).trans (hG2.below (own_alloc1 HO.out _) (by simp; omega)); have B0' := (show Boxed w1 Bl 35 _ from (HBL.out.block Bl hN).trans B0.out); have B1' := (show Boxed w1 Bm 3 _ from (HBL.out.block Bm hmN).trans B1.out); have x0' := B0'.cell; have y0' := B0'.frozen; have x1' := B1'.cell; have HB0' := (show Hid (Boxed w1 Bl 35 _) from B0'); have HB1' := (show Hid (Boxed w1 Bm 3 _) from B1'); clear hO2 hG2 B0' B1'))
  go_ret
  refine ⟨?_, ⟨⟨_, HB0'.out.set _, ?_⟩, HB1'.out.other (fun e => hlm e.symm) _, ?_⟩, ?_, ?_⟩
  · show Ending.returned (.bool (decide ((xs.length : Int) + 1 < (most : Int)))) = _
    rw [show decide ((xs.length : Int) + 1 < (most : Int)) = decide (xs.length + 1 < most) from decide_eq_decide.2 (by omega)]
  · have h := ownsRow_setCell_below HO2.out (a := ⟨Bl, 0, none⟩) hN (.slice (some ⟨g', 0, none⟩) (xs.length + 1) cap')
    rw [List.length_append, HSC.eq]
    exact h
  · exact (HOLD.out.trans (HBL.out.mono (by omega))).setCell (p := ⟨Bl, 0, none⟩) (Nat.le_refl _) _
  · rw [size_set]; exact HBL.out.size
  · exact (HBL.out.mono (Nat.le_of_lt hN)).setCell (p := ⟨Bl, 0, none⟩) (Nat.le_refl _) _
theorem take_snoc {p : Pm.T} {pre : List Pm.T} {u : Pm.T} (h : At p pre u) : (Pm.ups p).take (pre.length + 1) = pre ++ [u] := by
  rw [h.1, List.take_append, List.take_of_length_le (by omega), Nat.add_sub_cancel_left]; rfl
theorem ups_short (p : Pm.T) : (Pm.ups p).length ≤ 8 := by
  have e : ∀ (l : List Pm.T) (n : Nat), (Pm.upsAt l n).length = n := fun l n => by
    induction n with
    | zero => rfl
    | succ n ih => rw [Pm.upsAt, List.length_cons, ih]
  unfold Pm.ups
  rw [e]
  rcases Pm.cases_isP p with rfl | h | h
  · rw [Pm.split_root]; simp
  · rw [Pm.split_no h]; simp
  · rw [Pm.split_path h]; exact h.deep
theorem at_short {p : Pm.T} {pre : List Pm.T} {u : Pm.T} (h : At p pre u) : pre.length + 1 ≤ 8 := by
  have := ups_short p
  rw [h.1] at this
  simp at this
  omega
set_option maxHeartbeats 2000000 in
set_option maxRecDepth 20000 in
theorem upsR_any (s : ByteArray) (N Bl Bm Bp most : Nat) (w0 w W : World) (h : Lst N Bl Bm most w [] W) (hp : Boxed W Bp 9 (.string s)) (hs : s.size < 4294967281) (hT : Tab W) (hN : Bl < N) (hmN : Bm < N) (hlm : Bl ≠ Bm) (hNA : N ≤ W.heap.size) (hm : most ≤ 100) (hm1 : 1 ≤ most) (hw : Tab w0) (hwB : w0.heap.size ≤ Bl) :
    Calls Tryd.prog 60 #[.func (.func 44) #[] #[.pointer (some ⟨Bl, 0, none⟩), .pointer (some ⟨Bm, 0, none⟩)], .pointer (some ⟨Bp, 0, none⟩)] W fun e B => (∃ v, e = .returned v) ∧ Lst N Bl Bm most w ((Pm.ups (bl s)).take most) B ∧ W.heap.size ≤ B.heap.size := by
  have hcW : W.cell? ⟨Bp, 0, none⟩ = some (.string s) := hp.cell
  have HT : Hid (Tab W) := hT
  have HTw : Hid (Tab w0) := hw
  have HL0 : Hid (Lst N Bl Bm most w [] W) := h
  have HP1 : Hid (∀ W : World, Tab W → Calls Tryd.prog 14 #[.string s] W fun e w' => e = .returned (.tuple #[.string (mk ((Pm.parent (bl s)).getD [])), .bool (Pm.parent (bl s)).isSome]) ∧ Below W.heap.size W w') := fun W hW => parent_any s W hs hW
  have HP2 : Hid (∀ (u : Pm.T) (W : World), u.length ≤ 96 → Tab W → Calls Tryd.prog 14 #[.string (mk u)] W fun e w' => e = .returned (.tuple #[.string (mk ((Pm.parent u).getD [])), .bool (Pm.parent u).isSome]) ∧ Below W.heap.size W w') := fun u W hu hW => parent_any (mk u) W (by rw [mk_size]; omega) hW
  clear h hp hT hw
  go_enter Tryd.func60, Tryd.ntmps60
  go_wp2_with fail
  refine (HP1.out _ HT.out).mono ?_
  rintro e W1 ⟨rfl, hB1⟩
  have HT1 : Hid (Tab W1) := HT.out.below hB1
  have HL1 : Hid (Lst N Bl Bm most w [] W1) := HL0.out.below hB1 (by omega)
  have hz1 := hB1.size
  clear hB1 HP1 HL0 HT hcW
  go_wp2_with fail
  go_loopw [3, 4] (fun s3 s4 wr => ∃ (pre : List Pm.T) (o : Option Pm.T), s3 = .string (mk (o.getD [])) ∧ s4 = .bool o.isSome ∧ St (bl s) pre o ∧ Lst N Bl Bm most w pre wr ∧ Tab wr ∧ W.heap.size ≤ wr.heap.size ∧ (pre.length < most)) (fun s3 s4 _ => left s3 s4)
  case atStart => exact ⟨[], Pm.parent (bl s), rfl, rfl, st_start _, HL1.out, HT1.out, hz1, by simp; omega⟩
  case round =>
    obtain ⟨pre, o, rfl, rfl, hst, hl, ht, hz, hpm⟩ := hrel
    have HLr : Hid (Lst N Bl Bm most w pre wr) := hl
    have HTr : Hid (Tab wr) := ht
    clear hl ht HL1 HT1
    rcases hst with ⟨rfl, hu⟩ | ⟨u, rfl, hu⟩
    · have HU : Is ((Pm.ups (bl s)).take most) pre := ⟨by rw [hu, List.take_of_length_le (by omega)]⟩
      clear hu
      go_wp2_with fail
      go_end0
      exact ⟨⟨_, rfl⟩, by rw [HU.eq]; exact HLr.out, hz⟩
    · have HU : Hid (At (bl s) pre u) := hu
      have hps := at_short hu
      have CC := upsC_any u N Bl Bm most w wr pre HLr.out hN hmN hlm (by omega) (by omega)
      have HTK : Is ((Pm.ups (bl s)).take (pre.length + 1)) (pre ++ [u]) := ⟨take_snoc hu⟩
      clear hu
      simp only [Option.getD_some, Option.isSome_some]
      by_cases hmore : pre.length + 1 < most
      · rw [decide_eq_true hmore] at CC
        go_wp2_with fail
        refine (show Calls _ _ _ _ _ from CC).mono ?_
        clear CC
        rintro e W3 ⟨rfl, hL3, hz3, hb3⟩
        have HL3 : Hid (Lst N Bl Bm most w (pre ++ [u]) W3) := hL3
        have HT3 : Hid (Tab W3) := HTr.out.kept (Kept.below hb3 (Nat.le_refl _)) HTw.out hwB
        clear hL3 hb3
        go_wp2_with fail
        refine (HP2.out u W3 HU.out.2 HT3.out).mono ?_
        rintro e W4 ⟨rfl, hB4⟩
        have HL4 : Hid (Lst N Bl Bm most w (pre ++ [u]) W4) := HL3.out.below hB4 (by omega)
        have HT4 : Hid (Tab W4) := HT3.out.below hB4
        have hz4 := hB4.size
        clear hB4
        go_wp2_with fail
        go_roundw
        case rel => exact ⟨pre ++ [u], Pm.parent u, rfl, rfl, st_next HU.out, HL4.out, HT4.out, by omega, by simp; omega⟩
        case measure => exact left_less u
      · rw [decide_eq_false hmore] at CC
        have HTM : Is ((Pm.ups (bl s)).take most) (pre ++ [u]) := ⟨by rw [← HTK.eq]; congr 1; omega⟩
        go_wp2_with fail
        refine (show Calls _ _ _ _ _ from CC).mono ?_
        clear CC
        rintro e W3 ⟨rfl, hL3, hz3, hb3⟩
        have HL3 : Hid (Lst N Bl Bm most w (pre ++ [u]) W3) := hL3
        clear hL3 hb3
        go_wp2_with fail
        go_end0
        exact ⟨⟨_, rfl⟩, by rw [HTM.eq]; exact HL3.out, by omega⟩
theorem owns_low {w : World} {N M n : Nat} {v : Value} {vs : List Value} {e : TypeId} {k : Nat} (h : w.ownsRow M e k v n vs) (hN : N ≤ M) : w.ownsRow N e k v n vs := owns_base h hN
set_option maxHeartbeats 2000000 in
set_option maxRecDepth 20000 in
theorem ups_any (s : ByteArray) (most : Nat) (w : World) (hs : s.size < 4294967281) (hm : most ≤ 100) (hm1 : 1 ≤ most) (hT : Tab w) :
    Calls Tryd.prog 21 #[.string s, .int .i64 (most : Int)] w fun e w' => ∃ v, e = .returned v ∧ w'.ownsRow w.heap.size 9 1 v ((Pm.ups (bl s)).take most).length (scells ((Pm.ups (bl s)).take most)) ∧ Below w.heap.size w w' := by
  have hmf : ∀ (fn : Fn) (first cap : Array Value) (w : World), (Instr.makeFunc fn first cap).run Tryd.prog w = .ok (.func fn first cap) w := fun _ _ _ _ => rfl
  obtain ⟨W1, hW1⟩ : ∃ W1, w.alloc (.cells #[.int .i64 (most : Int)] 3) = W1 := ⟨_, rfl⟩
  have FI := upsF_any s W1
  obtain ⟨W2, hW2⟩ : ∃ W2, W1.alloc (.cells #[.string s] 9) = W2 := ⟨_, rfl⟩
  rw [hW2] at FI
  obtain ⟨W3, hW3⟩ : ∃ W3, W2.alloc (.cells #[.slice none 0 0] 35) = W3 := ⟨_, rfl⟩
  have z1 : W1.heap.size = w.heap.size + 1 := by rw [← hW1]; simp
  have z2 : W2.heap.size = w.heap.size + 2 := by rw [← hW2, size_alloc1, z1]
  have z3 : W3.heap.size = w.heap.size + 3 := by rw [← hW3, size_alloc1, z2]
  have b1 : Below w.heap.size w W1 := by rw [← hW1]; exact (Below.refl _ w).alloc (Nat.le_refl _) _
  have b2 : Below W1.heap.size W1 W2 := by rw [← hW2]; exact (Below.refl _ W1).alloc (Nat.le_refl _) _
  have b3 : Below W2.heap.size W2 W3 := by rw [← hW3]; exact (Below.refl _ W2).alloc (Nat.le_refl _) _
  have HB3 : Hid (Below w.heap.size w W3) := (b1.trans (b2.mono (by omega))).trans (b3.mono (by omega))
  have HT3 : Tab W3 := hT.below HB3.out
  have m1 : Boxed W1 w.heap.size 3 (.int .i64 (most : Int)) := by rw [← hW1]; exact Boxed.new w _ _
  have m3 : Boxed W3 w.heap.size 3 (.int .i64 (most : Int)) := (b3.block _ (by omega)).trans ((b2.block _ (by omega)).trans m1)
  have p2 : Boxed W2 W1.heap.size 9 (.string s) := by rw [← hW2]; exact Boxed.new W1 _ _
  have p3 : Boxed W3 W1.heap.size 9 (.string s) := (b3.block _ (by omega)).trans p2
  have l3 : Boxed W3 W2.heap.size 35 (.slice none 0 0) := by rw [← hW3]; exact Boxed.new W2 _ _
  have CU := upsR_any s W3.heap.size W2.heap.size w.heap.size W1.heap.size most w W3 W3 ⟨⟨_, l3, ⟨rfl, .inl ⟨rfl, rfl⟩⟩⟩, m3, Below.refl _ _⟩ p3 hs HT3 (by omega) (by omega) (by omega) (Nat.le_refl _) hm hm1 hT (by omega)
  have HZ : Hid (w.heap.size ≤ W3.heap.size ∧ w.heap.size ≤ W2.heap.size) := by show _ ∧ _; omega
  clear b1 b2 b3 m1 m3 p2 p3 l3 z1 z2 z3 HT3 hT
  have hne : ∀ (lb : Array Value) (W : World), (binOp .eql 55 (.func (.func 60) #[] lb) .nilFunc).run Tryd.prog W = .ok (.bool false) W := fun lb W => by rfl
  go_enter Tryd.func21, Tryd.ntmps21
  go_wp2_with fail
  refine (show Calls _ _ _ _ _ from FI).mono ?_
  clear FI
  rintro e wS ⟨rfl, hwS⟩
  rw [hwS]
  clear hwS wS
  go_wp2_with fail
  refine (show Calls _ _ _ _ _ from CU).mono ?_
  clear CU
  rintro e W5 ⟨⟨rv, rfl⟩, hL5, hz5⟩
  obtain ⟨⟨v, b0, ho⟩, _, hold⟩ := hL5
  have HO : Hid (W5.ownsRow W3.heap.size 9 1 v ((Pm.ups (bl s)).take most).length (scells ((Pm.ups (bl s)).take most))) := ho
  have HOLD : Hid (Below W2.heap.size W3 W5) := hold
  have x0 := b0.cell; have y0 := b0.frozen
  have hv : ∃ ad n c, v = .slice ad n c := by
    rcases own_shape ho with ⟨h, _⟩ | ⟨g, cap, h, _⟩
    · exact ⟨_, _, _, h⟩
    · exact ⟨_, _, _, h⟩
  obtain ⟨ad, nn, cc, rfl⟩ := hv
  clear b0 ho hold
  go_wp2_with fail
  go_ret
  exact ⟨_, rfl, owns_low HO.out HZ.out.1, HB3.out.trans (HOLD.out.mono HZ.out.2)⟩
end Go.Proofs.YtlgalcpnodadiaaDoor
