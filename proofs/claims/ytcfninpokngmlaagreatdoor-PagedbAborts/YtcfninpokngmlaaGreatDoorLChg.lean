/- Proved: what the laws' helpers change and build make of a database. -/
import Derived.Test.YtcfninpokngmlaaGreatDoorLOpn
import Derived.Test.YtcfninpokngmlaaGreatDoorLNob
namespace Go.Proofs.YtcfninpokngmlaaGreatDoor
open Go.RowKit
def pm (n : Int) (m : Nat) : Nat := ((n.tmod m + m) % m).toNat
theorem pm_spec (n : Int) (m : Nat) (hm : 0 < m) : pm n m < m ∧ (n.tmod m + m).tmod m = (pm n m : Int) ∧ (n.tmod m + m) % m = (pm n m : Int) ∧ -(m : Int) < n.tmod m ∧ n.tmod m < m := by
  obtain ⟨K, h1, h2, h3, h4, h5⟩ := mod_pos n m hm
  have : pm n m = K := by unfold pm; rw [h3]; rfl
  rw [this]
  exact ⟨h1, h2, h3, h4, h5⟩
/- what change does, by one act -/
structure Chp where
  r : Nat
  kd : Nat
  i9 : Nat
  z : Bool
  s : ByteArray
  i4 : Nat
  n : Nat
def chOf (k i n : Int) (s : ByteArray) : Chp := ⟨1 + pm n 3, 1 + pm n 200, pm i 9, k.tmod 3 == 0, s.extract 0 (min s.size 100), pm i 4, pm n 100⟩
def ch1 (T : Pd.Ab) (cnt : Nat) (p : Chp) : Pd.Ab := if alR T cnt = 0 then wrA (alA T cnt) (alI T cnt : Int) (p.kd : Int) p.s else alA T cnt
def ch2 (T : Pd.Ab) (p : Chp) (j : Nat) : Pd.Ab := if p.z = true then frA T ((1 + (p.i9 + j) % 9 : Nat) : Int) else wrA T ((1 + (p.i9 + j) % 9 : Nat) : Int) 7 (p.s ++ ⟨#[120]⟩)
def chN (T : Pd.Ab) (cnt : Nat) (p : Chp) : Nat → Pd.Ab
  | 0 => T
  | j + 1 => ch2 (ch1 (chN T cnt p j) cnt p) p j
def chA (T : Pd.Ab) (cnt : Nat) (p : Chp) : Pd.Ab := srA (chN T cnt p p.r) (p.i4 : Int) (p.n : Int)
structure ChW (W w0 w : World) (A : Ad) (t bt K : Nat) (d : Pd.Db) (S T : Pd.Ab) (sp : Bool) (a0 : Nat) (k i n : Int) (s : ByteArray) (kp : Value) : Prop where
  g : ∃ tm', GT W w A t bt K d S T sp tm'
  act : w.heap[a0]? = some (.cells (actC k i n s kp) 28 (0, 0))
  turn : Turn (tft A t bt) (tft A t bt) w0 w
  ap : a0 ∉ tft A t bt
theorem ChW.next {W w0 w w' : World} {A : Ad} {t bt K : Nat} {d : Pd.Db} {S T T' T'' : Pd.Ab} {sp : Bool} {a0 : Nat} {k i n : Int} {s : ByteArray} {kp : Value} (h : ChW W w0 w A t bt K d S T sp a0 k i n s kp) (e : T' = T'') (hT : Turn (tft A t bt) (tft A t bt) w w') (hG : ∃ tm', GT W w' A t bt K d S T' sp tm') : ChW W w0 w' A t bt K d S T'' sp a0 k i n s kp :=
  ⟨e ▸ hG, (hT.chg.block a0 (Array.getElem?_eq_some_iff.1 h.act).1 h.ap).trans h.act, h.turn.trans hT, h.ap⟩
theorem ChW.cell {W w0 w : World} {A : Ad} {t bt K : Nat} {d : Pd.Db} {S T : Pd.Ab} {sp : Bool} {a0 : Nat} {k i n : Int} {s : ByteArray} {kp : Value} (h : ChW W w0 w A t bt K d S T sp a0 k i n s kp) (j : Nat) (v : Value) (e : (actC k i n s kp)[j]? = some v) : w.cell? ⟨a0, j, none⟩ = some v := (cell_of_row w a0 j _ _ (0, 0) h.act).trans e
section
variable {W w w' : World} {A : Ad} {t bt K : Nat} {d : Pd.Db} {S T : Pd.Ab} {sp : Bool} {tm : Pd.Mp}
set_option maxHeartbeats 8000000 in
set_option maxRecDepth 20000 in
theorem change_any (k i n : Int) (s : ByteArray) (kp : Value) (hs : s.size ≤ 9223372036854775807) (G : GT W w A t bt K d S T sp tm) :
    Calls Tryz.prog 35 #[ptr t, actV k i n s kp] w fun e w' => e = .returned (.tuple #[]) ∧ (∃ tm', GT W w' A t bt K d S (chA T d.cnt (chOf k i n s)) sp tm') ∧ Turn (tft A t bt) (tft A t bt) w w' := by
  have HG : Hid (GT W w A t bt K d S T sp tm) := G
  clear G
  obtain ⟨an3, qn3, un3, vn3, xn3⟩ := pm_spec n 3 (by omega)
  have pn3 : (n.tmod 3 + 3).tmod 3 = (pm n 3 : Int) := qn3
  have rn3 : (n.tmod 3 + 3) % 3 = (pm n 3 : Int) := un3
  have wn3 : IntKind.i64.wrap (n.tmod 3 + 3) = n.tmod 3 + 3 := by have h1 : -3 < n.tmod 3 := vn3; have h2 : n.tmod 3 < 3 := xn3; rw [IntKind.wrap_i64]; omega
  clear qn3 un3 vn3 xn3
  obtain ⟨an200, qn200, un200, vn200, xn200⟩ := pm_spec n 200 (by omega)
  have pn200 : (n.tmod 200 + 200).tmod 200 = (pm n 200 : Int) := qn200
  have rn200 : (n.tmod 200 + 200) % 200 = (pm n 200 : Int) := un200
  have wn200 : IntKind.i64.wrap (n.tmod 200 + 200) = n.tmod 200 + 200 := by have h1 : -200 < n.tmod 200 := vn200; have h2 : n.tmod 200 < 200 := xn200; rw [IntKind.wrap_i64]; omega
  clear qn200 un200 vn200 xn200
  obtain ⟨ai9, qi9, ui9, vi9, xi9⟩ := pm_spec i 9 (by omega)
  have pi9 : (i.tmod 9 + 9).tmod 9 = (pm i 9 : Int) := qi9
  have ri9 : (i.tmod 9 + 9) % 9 = (pm i 9 : Int) := ui9
  have wi9 : IntKind.i64.wrap (i.tmod 9 + 9) = i.tmod 9 + 9 := by have h1 : -9 < i.tmod 9 := vi9; have h2 : i.tmod 9 < 9 := xi9; rw [IntKind.wrap_i64]; omega
  clear qi9 ui9 vi9 xi9
  obtain ⟨ai4, qi4, ui4, vi4, xi4⟩ := pm_spec i 4 (by omega)
  have pi4 : (i.tmod 4 + 4).tmod 4 = (pm i 4 : Int) := qi4
  have ri4 : (i.tmod 4 + 4) % 4 = (pm i 4 : Int) := ui4
  have wi4 : IntKind.i64.wrap (i.tmod 4 + 4) = i.tmod 4 + 4 := by have h1 : -4 < i.tmod 4 := vi4; have h2 : i.tmod 4 < 4 := xi4; rw [IntKind.wrap_i64]; omega
  clear qi4 ui4 vi4 xi4
  obtain ⟨an100, qn100, un100, vn100, xn100⟩ := pm_spec n 100 (by omega)
  have pn100 : (n.tmod 100 + 100).tmod 100 = (pm n 100 : Int) := qn100
  have rn100 : (n.tmod 100 + 100) % 100 = (pm n 100 : Int) := un100
  have wn100 : IntKind.i64.wrap (n.tmod 100 + 100) = n.tmod 100 + 100 := by have h1 : -100 < n.tmod 100 := vn100; have h2 : n.tmod 100 < 100 := xn100; rw [IntKind.wrap_i64]; omega
  clear qn100 un100 vn100 xn100
  have HBB : Hid ((chOf k i n s).s = s.extract 0 (min (s.size : Int) 100).toNat) := by
    show s.extract 0 (min s.size 100) = _
    congr 1
    omega
  have HBS : Hid ((s.extract 0 (min (s.size : Int) 100).toNat).size ≤ 100) := by
    show (s.extract 0 (min (s.size : Int) 100).toNat).size ≤ 100
    rw [ByteArray.size_extract]
    omega
  have HR3 : Hid ((chOf k i n s).r = 1 + pm n 3 ∧ (chOf k i n s).kd = 1 + pm n 200 ∧ (chOf k i n s).i9 = pm i 9 ∧ (chOf k i n s).i4 = pm i 4 ∧ (chOf k i n s).n = pm n 100) := ⟨rfl, rfl, rfl, rfl, rfl⟩
  have HC0 : Hid (ChW W w (w.alloc (.cells #[.int .i64 k, .int .i64 i, .int .i64 n, .string s, kp] 28)) A t bt K d S T sp w.heap.size k i n s kp) := by
    have hB : Below w.heap.size w (w.alloc (.cells #[.int .i64 k, .int .i64 i, .int .i64 n, .string s, kp] 28)) := (Below.refl _ _).alloc (Nat.le_refl _) _
    exact ⟨⟨tm, HG.out.below hB⟩, heap_alloc_new w _, Turn.of_below hB, fun h => by have := HG.out.tx.lt _ h; omega⟩
  clear HG
  unfold actV ptr
  go_enter Tryz.func35, Tryz.ntmps35
  go_wp2_with fail
  generalize World.alloc w _ = w1 at *
  generalize w.heap.size = a0 at *
  generalize s.extract 0 (min (s.size : Int) 100).toNat = b0 at *
  have hbs : b0.size ≤ 100 := HBS.out
  go_loopw [5, 6, 7, 8, 22] (fun _ _ _ _ s22 wr => ∃ j : Nat, j ≤ 1 + pm n 3 ∧ s22 = .int .i64 (j : Int) ∧ ChW W w wr A t bt K d S (chN T d.cnt (chOf k i n s) j) sp a0 k i n s kp) (fun _ _ _ _ s22 _ => 1 + pm n 3 - (intOf s22).toNat)
  case atStart => exact ⟨0, by omega, rfl, HC0.out⟩
  case round =>
    clear HC0
    obtain ⟨j, hj, rfl, hC⟩ := hrel
    have HC1 : Hid (ChW W w wr A t bt K d S (chN T d.cnt (chOf k i n s) j) sp a0 k i n s kp) := hC
    clear hC
    by_cases hjr : j < 1 + pm n 3
    · have dk : decide ((j : Int) < 1 + (pm n 3 : Int)) = true := decide_eq_true (by omega)
      obtain ⟨o, ho⟩ : ∃ o : Nat, o = 1 + (pm i 9 + j) % 9 := ⟨_, rfl⟩
      have HOo : Hid (((1 + ((chOf k i n s).i9 + j) % 9 : Nat) : Int) = (o : Int)) := by show ((1 + (pm i 9 + j) % 9 : Nat) : Int) = _; omega
      have o1 : ((pm i 9 : Int) + (j : Int)).tmod 9 = (o : Int) - 1 := by rw [Int.tmod_eq_emod_of_nonneg (by omega)]; omega
      have o2 : ((pm i 9 : Int) + (j : Int)) % 9 = (o : Int) - 1 := by omega
      have o3 : 1 + ((o : Int) - 1) = (o : Int) := by omega
      have ho9 : 1 ≤ o ∧ o ≤ 9 := by omega
      clear ho
      obtain ⟨tm1, hG1⟩ := HC1.out.g
      have HA := galloc hG1
      clear hG1
      by_cases hR : alR (chN T d.cnt (chOf k i n s) j) d.cnt = 0
      · rw [hR] at HA
        go_wp2_with fail
        refine HA.mono ?_
        rintro e w2 ⟨rfl, hG2, hT2⟩
        have HC2 : Hid (ChW W w w2 A t bt K d S (alA (chN T d.cnt (chOf k i n s) j) d.cnt) sp a0 k i n s kp) := HC1.out.next rfl hT2 ⟨_, hG2⟩
        clear hG2 hT2 HA HC1
        obtain ⟨tm2, hG2⟩ := HC2.out.g
        have c2 := HC2.out.cell 2 (.int .i64 n) rfl
        have HW := gwrite (alI (chN T d.cnt (chOf k i n s) j) d.cnt : Int) (1 + (pm n 200 : Int)) b0 hG2
        clear hG2
        go_wp2_with fail
        refine HW.mono ?_
        rintro e w3 ⟨rfl, hG3, hT3⟩
        have HC3 : Hid (ChW W w w3 A t bt K d S (wrA (alA (chN T d.cnt (chOf k i n s) j) d.cnt) (alI (chN T d.cnt (chOf k i n s) j) d.cnt : Int) (1 + (pm n 200 : Int)) b0) sp a0 k i n s kp) := HC2.out.next rfl hT3 ⟨_, hG3⟩
        clear hG3 hT3 HW HC2 c2
        have c1 := HC3.out.cell 1 (.int .i64 i) rfl
        have c0 := HC3.out.cell 0 (.int .i64 k) rfl
        obtain ⟨tm2, hG2⟩ := HC3.out.g
        have HG2 : Hid (GT W w3 A t bt K d S _ sp tm2) := hG2
        clear hG2
        by_cases hz : k.tmod 3 = 0
        · have hzd : decide (k.tmod 3 = 0) = true := decide_eq_true hz
          have hzb : (k.tmod 3 == 0) = true := by rw [hz]; rfl
          have HC := gfree (o : Int) HG2.out
          go_wp2_with fail
          refine HC.mono ?_
          rintro e w8 ⟨rfl, hG8, hT8⟩
          have HF : Hid (ChW W w w8 A t bt K d S (chN T d.cnt (chOf k i n s) (j + 1)) sp a0 k i n s kp) := by
            refine HC3.out.next ?_ hT8 ⟨_, hG8⟩
            show _ = ch2 (ch1 (chN T d.cnt (chOf k i n s) j) d.cnt (chOf k i n s)) (chOf k i n s) j
            unfold ch2 ch1
            rw [if_pos (show (chOf k i n s).z = true from hzb), HOo.out, if_pos hR, HR3.out.2.1, HBB.out, Int.natCast_add]
            try rfl
          clear hG8 hT8 HC HG2 HC3 c0 c1
          go_wp2_with fail
          go_roundw
          case rel => exact ⟨j + 1, by omega, by go_num, HF.out⟩
          case measure => (simp [intOf]) <;> omega
        · have hzd : decide (k.tmod 3 = 0) = false := decide_eq_false hz
          have hzb : (k.tmod 3 == 0) = false := by simpa using hz
          have HC := gwrite (o : Int) 7 (b0 ++ ⟨#[120]⟩) HG2.out
          go_wp2_with fail
          refine HC.mono ?_
          rintro e w8 ⟨rfl, hG8, hT8⟩
          have HF : Hid (ChW W w w8 A t bt K d S (chN T d.cnt (chOf k i n s) (j + 1)) sp a0 k i n s kp) := by
            refine HC3.out.next ?_ hT8 ⟨_, hG8⟩
            show _ = ch2 (ch1 (chN T d.cnt (chOf k i n s) j) d.cnt (chOf k i n s)) (chOf k i n s) j
            unfold ch2 ch1
            rw [if_neg (show ¬ (chOf k i n s).z = true by show ¬ (k.tmod 3 == 0) = true; rw [hzb]; decide), HOo.out, if_pos hR, HR3.out.2.1, HBB.out, Int.natCast_add]
            try rfl
          clear hG8 hT8 HC HG2 HC3 c0 c1
          go_wp2_with fail
          go_roundw
          case rel => exact ⟨j + 1, by omega, by go_num, HF.out⟩
          case measure => (simp [intOf]) <;> omega
      · have hR7 : alR (chN T d.cnt (chOf k i n s) j) d.cnt = 7 := by
          unfold alR at hR ⊢
          split
          · rfl
          · rename_i h; rw [if_neg h] at hR; exact absurd rfl hR
        rw [hR7] at HA
        go_wp2_with fail
        refine HA.mono ?_
        rintro e w2 ⟨rfl, hG2, hT2⟩
        have HC2 : Hid (ChW W w w2 A t bt K d S (alA (chN T d.cnt (chOf k i n s) j) d.cnt) sp a0 k i n s kp) := HC1.out.next rfl hT2 ⟨_, hG2⟩
        clear hG2 hT2 HA HC1
        have c1 := HC2.out.cell 1 (.int .i64 i) rfl
        have c0 := HC2.out.cell 0 (.int .i64 k) rfl
        obtain ⟨tm2, hG2⟩ := HC2.out.g
        have HG2 : Hid (GT W w2 A t bt K d S _ sp tm2) := hG2
        clear hG2
        by_cases hz : k.tmod 3 = 0
        · have hzd : decide (k.tmod 3 = 0) = true := decide_eq_true hz
          have hzb : (k.tmod 3 == 0) = true := by rw [hz]; rfl
          have HC := gfree (o : Int) HG2.out
          go_wp2_with fail
          refine HC.mono ?_
          rintro e w8 ⟨rfl, hG8, hT8⟩
          have HF : Hid (ChW W w w8 A t bt K d S (chN T d.cnt (chOf k i n s) (j + 1)) sp a0 k i n s kp) := by
            refine HC2.out.next ?_ hT8 ⟨_, hG8⟩
            show _ = ch2 (ch1 (chN T d.cnt (chOf k i n s) j) d.cnt (chOf k i n s)) (chOf k i n s) j
            unfold ch2 ch1
            rw [if_pos (show (chOf k i n s).z = true from hzb), HOo.out, if_neg hR]
            try rfl
          clear hG8 hT8 HC HG2 HC2 c0 c1
          go_wp2_with fail
          go_roundw
          case rel => exact ⟨j + 1, by omega, by go_num, HF.out⟩
          case measure => (simp [intOf]) <;> omega
        · have hzd : decide (k.tmod 3 = 0) = false := decide_eq_false hz
          have hzb : (k.tmod 3 == 0) = false := by simpa using hz
          have HC := gwrite (o : Int) 7 (b0 ++ ⟨#[120]⟩) HG2.out
          go_wp2_with fail
          refine HC.mono ?_
          rintro e w8 ⟨rfl, hG8, hT8⟩
          have HF : Hid (ChW W w w8 A t bt K d S (chN T d.cnt (chOf k i n s) (j + 1)) sp a0 k i n s kp) := by
            refine HC2.out.next ?_ hT8 ⟨_, hG8⟩
            show _ = ch2 (ch1 (chN T d.cnt (chOf k i n s) j) d.cnt (chOf k i n s)) (chOf k i n s) j
            unfold ch2 ch1
            rw [if_neg (show ¬ (chOf k i n s).z = true by show ¬ (k.tmod 3 == 0) = true; rw [hzb]; decide), HOo.out, if_neg hR, HBB.out]
            try rfl
          clear hG8 hT8 HC HG2 HC2 c0 c1
          go_wp2_with fail
          go_roundw
          case rel => exact ⟨j + 1, by omega, by go_num, HF.out⟩
          case measure => (simp [intOf]) <;> omega
    · have dk : decide ((j : Int) < 1 + (pm n 3 : Int)) = false := decide_eq_false (by omega)
      have hjj : j = 1 + pm n 3 := by omega
      subst hjj
      have c1 := HC1.out.cell 1 (.int .i64 i) rfl
      have c2 := HC1.out.cell 2 (.int .i64 n) rfl
      obtain ⟨tm1, hG1⟩ := HC1.out.g
      have HS := gsetroot (pm i 4 : Int) (pm n 100 : Int) hG1
      clear hG1
      go_wp2_with fail
      refine HS.mono ?_
      rintro e w2 ⟨rfl, hG2, hT2⟩
      have HF : Hid ((∃ tm', GT W w2 A t bt K d S (chA T d.cnt (chOf k i n s)) sp tm') ∧ Turn (tft A t bt) (tft A t bt) w w2) := by
        exact And.intro ⟨_, hG2⟩ (HC1.out.turn.trans hT2)
      clear hG2 hT2 HS HC1 c1 c2
      go_wp2
      go_end0
      exact ⟨rfl, HF.out⟩
end
end Go.Proofs.YtcfninpokngmlaaGreatDoor
