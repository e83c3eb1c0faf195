/- Proved: what pagedb's Open makes of a disk that has a log of pages. -/
import Derived.Test.YtcfninpokngmlaaGreatDoorJ15
import Derived.LaidEqlPtr
namespace Go.Proofs.YtcfninpokngmlaaGreatDoor
open Go.RowKit
def d0of (n cnt e : Nat) (rs : List ByteArray) (ms : List Pd.Mp) (s : Sc.St) : Pd.Db := ⟨n, cnt, st0, Pd.mOf ms, false, opened 0 n e rs, s⟩
theorem foot_lf (A : Ad) {k : Nat} (h : k ∈ foot A.g A.kg A.vp) : k ∈ A.lf := List.mem_append.2 (.inr h)
def OpenPost (w : World) (g kg : Nat) (vp : Value) (d1 : Pd.Db) (e1 : Int) (t : Pd.Stt) (r : Ending) (w' : World) : Prop :=
  ((e1 = 0 ∨ e1 = 7) → ∃ A : Ad, r = .returned (.tuple #[ptr A.x, .int .i64 0]) ∧ A.g = g ∧ A.kg = kg ∧ Dbw w' A nilP { d1 with st := t } ∧ Turn (foot g kg vp) A.ft w w') ∧
  (¬ (e1 = 0 ∨ e1 = 7) → ∃ vp', r = .returned (.tuple #[nilP, .int .i64 e1]) ∧ Dk w' g kg vp' d1.s ∧ Turn (foot g kg vp) (foot g kg vp') w w')
set_option maxHeartbeats 8000000 in
set_option maxRecDepth 100000 in
theorem dopen_any (g kg : Nat) (vp : Value) (s : Sc.St) (n cnt e : Nat) (rs : List ByteArray) (ms : List Pd.Mp) (t : Pd.Stt) (w : World) (hD : Dk w g kg vp s) (hS : Safe w (foot g kg vp)) (hdn : s.down = false) (hf : Wl.Fit rs) (hon : Wl.On (Wl.flat s) 0 n e (Wl.frames rs)) (hcn : cnt = (s.kept.length - n) / 8) (h4 : 4 ≤ cnt) (hc : cnt ≤ 1000) (hn : n ≤ 65536) (hR : Pd.Recs n cnt rs ms)
    (h1 : s.dn + 8 * cnt + 10 ≤ 80000) (h2 : s.pend.length + 8 * cnt + 10 ≤ 18000)
    (hld : (Pd.setT (d0of n cnt e rs ms s)).2 = 0 ∨ (Pd.setT (d0of n cnt e rs ms s)).2 = 7 → (Pd.setT (d0of n cnt e rs ms s)).1.s.down = false ∧ (Pd.setT (d0of n cnt e rs ms s)).1.s.kept.length = s.kept.length ∧ ((Pd.plc (Wl.flat (Pd.setT (d0of n cnt e rs ms s)).1.s) n 0 = Pg.blank ∧ t = stt1) ∨ (Pd.plc (Wl.flat (Pd.setT (d0of n cnt e rs ms s)).1.s) n 0 = Pd.pageOf 0 t.sheet ∧ t.Small cnt))) :
    Calls Tryz.prog 23 #[ptr g, .int .i64 (n : Int)] w (OpenPost w g kg vp (Pd.setT (d0of n cnt e rs ms s)).1 (Pd.setT (d0of n cnt e rs ms s)).2 t) := by
  have hN2 : n ≤ s.kept.length := by have := hon.fits; rw [Wl.flat_length] at this; omega
  have hmo := hD.ok.most
  have hN8 : n + 8 * cnt ≤ s.kept.length := by omega
  have hpos := hS.tab.pos
  have HDS : Hid (Dk w g kg vp s ∧ Safe w (foot g kg vp)) := ⟨hD, hS⟩
  have HLD : Hid ((Pd.setT (d0of n cnt e rs ms s)).2 = 0 ∨ (Pd.setT (d0of n cnt e rs ms s)).2 = 7 → (Pd.setT (d0of n cnt e rs ms s)).1.s.down = false ∧ (Pd.setT (d0of n cnt e rs ms s)).1.s.kept.length = s.kept.length ∧ ((Pd.plc (Wl.flat (Pd.setT (d0of n cnt e rs ms s)).1.s) n 0 = Pg.blank ∧ t = stt1) ∨ (Pd.plc (Wl.flat (Pd.setT (d0of n cnt e rs ms s)).1.s) n 0 = Pd.pageOf 0 t.sheet ∧ t.Small cnt))) := hld
  have HRM : Hid (Pd.Recs n cnt rs ms) := hR
  have HWO : Hid (Calls Tryz.prog 54 #[.pointer (some ⟨g, 0, none⟩), .int .i64 0, .int .i64 (n : Int)] w fun r w' => ∃ q vr, r = .returned (.tuple #[ptr q, .int .i64 0]) ∧ LP w' q g vr nil0 (opened 0 n e rs) kg vp s ∧ Below w.heap.size w w' ∧ ∀ k ∈ pfoot q vr nil0, w.heap.size ≤ k) := open_any g kg vp s 0 n e rs w hD hdn hS.tab hf hon
  have hq1 : IntKind.i64.wrap ((s.kept.length : Int) - (n : Int)) = ((s.kept.length - n : Nat) : Int) := by rw [IntKind.wrap_i64]; omega
  have hq2 : ((s.kept.length - n : Nat) : Int).tdiv 8 = (cnt : Int) := by
    rw [Int.tdiv_eq_ediv_of_nonneg (by omega)]
    omega
  have hq3 : ((s.kept.length : Int) - (n : Int)).tdiv 8 = (cnt : Int) := by
    rw [Int.tdiv_eq_ediv_of_nonneg (by omega)]
    omega
  have hq4 : ((s.kept.length - n : Nat) : Int) / 8 = (cnt : Int) := by omega
  clear hD hS hld hR hf hon hcn
  unfold ptr
  go_enter Tryz.func23, Tryz.ntmps23
  go_wp2_with fail
  refine HWO.out.mono ?_
  rintro r w1 ⟨q, vr, rfl, hL1, hB1, hab⟩
  have HL1 : Hid (LP w1 q g vr nil0 (opened 0 n e rs) kg vp s) := hL1
  have HB1 : Hid (Below w.heap.size w w1) := hB1
  have HAB : Hid (∀ k ∈ pfoot q vr nil0, w.heap.size ≤ k) := hab
  have HSI : Hid (Calls Tryz.prog 55 #[.pointer (some ⟨g, 0, none⟩)] w1 fun e w' => e = .returned (.int .i64 (s.kept.length : Int)) ∧ w' = w1) := size_any g kg vp s w1 hL1.dk
  clear hL1 hB1 hab HWO
  unfold ptr
  go_wp2_with fail
  refine HSI.out.mono ?_
  rintro r wS ⟨rfl, hwS⟩
  rw [hwS]
  clear hwS wS HSI
  obtain ⟨A, hA⟩ : ∃ A : Ad, A = ⟨w1.heap.size, g, q, w1.heap.size + 1, kg, vr, nil0, vp⟩ := ⟨_, rfl⟩
  have HZ : Hid (Dbz (w1.alloc (.cells #[.pointer (some ⟨g, 0, none⟩), .pointer (some ⟨q, 0, none⟩), .int .i64 (n : Int), .int .i64 (cnt : Int), .int .i64 0, .int .i64 0, .int .i64 0, .int .i64 0, .int .i64 0, .int .i64 0, .int .i64 0, .map none, .pointer none, .bool false] 61)) A { d0of n cnt e rs ms s with m := [] } ∧ A.b = (w1.alloc (.cells #[.pointer (some ⟨g, 0, none⟩), .pointer (some ⟨q, 0, none⟩), .int .i64 (n : Int), .int .i64 (cnt : Int), .int .i64 0, .int .i64 0, .int .i64 0, .int .i64 0, .int .i64 0, .int .i64 0, .int .i64 0, .map none, .pointer none, .bool false] 61)).heap.size ∧ Turn (foot g kg vp) (A.x :: A.lf) w (w1.alloc (.cells #[.pointer (some ⟨g, 0, none⟩), .pointer (some ⟨q, 0, none⟩), .int .i64 (n : Int), .int .i64 (cnt : Int), .int .i64 0, .int .i64 0, .int .i64 0, .int .i64 0, .int .i64 0, .int .i64 0, .int .i64 0, .map none, .pointer none, .bool false] 61))) := by
    rw [hA]
    have hlt := HL1.out.lt
    have hB2 : Below w1.heap.size w1 (w1.alloc (.cells #[.pointer (some ⟨g, 0, none⟩), .pointer (some ⟨q, 0, none⟩), .int .i64 (n : Int), .int .i64 (cnt : Int), .int .i64 0, .int .i64 0, .int .i64 0, .int .i64 0, .int .i64 0, .int .i64 0, .int .i64 0, .map none, .pointer none, .bool false] 61)) := (Below.refl _ _).alloc (Nat.le_refl _) _
    have hB := below_next HB1.out hB2 HB1.out.size
    have hlf : ∀ k ∈ lfoot q g vr nil0 kg vp, k ∈ foot g kg vp ∨ w.heap.size ≤ k := fun k hk => by
      rcases List.mem_append.1 hk with h | h
      · exact .inr (HAB.out k h)
      · exact .inl h
    refine ⟨⟨heap_alloc_new w1 _, HL1.out.below hB2, ⟨HDS.out.2.tab.below hB hpos, fun hm => ?_⟩, fun hm => ?_, rfl, rfl, rfl⟩, by simp, ⟨Chg.of_below hB, fun k hk => ?_⟩⟩
    · rcases List.mem_cons.1 hm with h | h
      · have := HB1.out.size
        simp only at h
        omega
      · rcases hlf 0 h with h | h
        · exact HDS.out.2.no h
        · omega
    · have := hlt _ hm
      simp only at this
      omega
    · rcases List.mem_cons.1 hk with h | h
      · have := HB1.out.size
        simp only at h
        exact .inr (by omega)
      · exact hlf k h
  have hx : A.x = w1.heap.size := by rw [hA]
  have hAg : A.g = g ∧ A.kg = kg := by rw [hA]; exact ⟨rfl, rfl⟩
  have HAX : Hid (A.g = g ∧ A.kg = kg) := hAg
  clear hA hAg HL1 HB1 HAB
  have d4 : decide ((cnt : Int) < 4) = false := decide_eq_false (by omega)
  go_wp2_with fail
  generalize hw2 : World.alloc w1 _ = w2 at *
  clear hw2 hq1 hq2 hq3 hq4 d4
  have HT2 : Hid (Turn (foot g kg vp) (A.x :: A.lf) w w2) := HZ.out.2.2
  have HRC : Hid (Calls Tryz.prog 56 #[.pointer (some ⟨w1.heap.size, 0, none⟩)] w2 fun e' w' => e' = .returned (.int .i64 0) ∧ Dbw w' A nilP (d0of n cnt e rs ms s) ∧ Turn (A.x :: A.lf) A.ft w2 w') := by
    have h := recall_any A _ ms w2 HZ.out.1 HZ.out.2.1 HRM.out hc (by show n < _; omega)
    unfold ptr at h
    rw [hx] at h
    rw [hx]
    exact h
  have hmf : Pd.Fine cnt (Pd.mOf ms) ∧ Pd.Up (Pd.mOf ms) := ⟨HRM.out.m.2, HRM.out.m.1⟩
  have hml := Pd.fine_length hmf.2 hmf.1
  refine HRC.out.mono ?_
  rintro r w3 ⟨rfl, hD3, hT3⟩
  have HD3 : Hid (Dbw w3 A nilP (d0of n cnt e rs ms s)) := hD3
  have HT3 : Hid (Turn (foot g kg vp) A.ft w w3) := HT2.out.trans hT3
  have HST : Hid (Calls Tryz.prog 57 #[.pointer (some ⟨w1.heap.size, 0, none⟩)] w3 (DDoes w3 A nilP (Pd.setT (d0of n cnt e rs ms s)).1 (Pd.setT (d0of n cnt e rs ms s)).2)) := by
    have h := settle_any A nilP (d0of n cnt e rs ms s) w3 hD3 hmf.1 hc (by show (Pd.mOf ms).length ≤ _; omega) (by show n ≤ _; omega) (by show s.dn + 8 * (Pd.mOf ms).length + 10 ≤ _; omega) (by show s.pend.length + 8 * (Pd.mOf ms).length + 10 ≤ _; omega)
    unfold ptr at h
    rw [hx] at h
    exact h
  clear hD3 hT3 HRC HZ HT2 hmf hml
  obtain ⟨en1, en2, _⟩ := Pd.setT_n (d0of n cnt e rs ms s)
  have HEN : Hid ((Pd.setT (d0of n cnt e rs ms s)).1.n = n ∧ (Pd.setT (d0of n cnt e rs ms s)).1.cnt = cnt) := ⟨en1, en2⟩
  clear en1 en2
  generalize hrr : Pd.setT (d0of n cnt e rs ms s) = R at *
  clear hrr
  obtain ⟨d1, e1⟩ := R
  simp only at HST HLD HEN
  go_wp2_with fail
  refine HST.out.mono ?_
  rintro r w4 ⟨vr4, vw4, vp4, rfl, hD4, hT4⟩
  have HD4 : Hid (Dbw w4 (A.to vr4 vw4 vp4) nilP d1) := hD4
  have HT4 : Hid (Turn (foot g kg vp) (A.to vr4 vw4 vp4).ft w w4) := HT3.out.trans hT4
  clear hD4 hT4 HST HD3 HT3
  by_cases hz : e1 = 0 ∨ e1 = 7
  · have hld := HLD.out hz
    have HLO : Hid (Calls Tryz.prog 58 #[.pointer (some ⟨w1.heap.size, 0, none⟩)] w4 fun e' w' => e' = .returned (.int .i64 0) ∧ Dbw w' (A.to vr4 vw4 vp4) nilP { d1 with st := t } ∧ Turn (A.to vr4 vw4 vp4).ft (A.to vr4 vw4 vp4).ft w4 w') := by
      obtain ⟨l1, l2, l3⟩ := hld
      obtain ⟨n1, n2⟩ := HEN.out
      rcases l3 with ⟨p1, p2⟩ | ⟨p1, p2⟩
      · have h := load_blank (A.to vr4 vw4 vp4) nilP d1 w4 HD4.out l1 (by rw [n1, l2]; omega) (by rw [n1]; exact p1)
        unfold ptr at h
        rw [show (A.to vr4 vw4 vp4).x = w1.heap.size from hx, ← p2] at h
        exact h
      · have h := load_state (A.to vr4 vw4 vp4) nilP d1 t w4 HD4.out l1 (by rw [n1, l2]; omega) (by rw [n2]; exact hc) (by rw [n2]; exact p2) (by rw [n1]; exact p1)
        unfold ptr at h
        rw [show (A.to vr4 vw4 vp4).x = w1.heap.size from hx] at h
        exact h
    have HFN : Hid (∀ w', Dbw w' (A.to vr4 vw4 vp4) nilP { d1 with st := t } → Turn (A.to vr4 vw4 vp4).ft (A.to vr4 vw4 vp4).ft w4 w' → OpenPost w g kg vp d1 e1 t (.returned (.tuple #[.pointer (some ⟨w1.heap.size, 0, none⟩), .int .i64 0])) w') := fun w' h5 h6 => by
      refine ⟨fun _ => ⟨A.to vr4 vw4 vp4, ?_, HAX.out.1, HAX.out.2, h5, HT4.out.trans h6⟩, fun h => absurd hz h⟩
      rw [show (A.to vr4 vw4 vp4).x = w1.heap.size from hx]
      try rfl
    have hb : ((e1 != 0) && (e1 != 7)) = false := by
      rcases hz with rfl | rfl <;> rfl
    clear hld HLD
    rcases hz with rfl | rfl
    · go_wp2_with fail
      refine HLO.out.mono ?_
      rintro r w5 ⟨rfl, hD5, hT5⟩
      have HX : Hid (OpenPost w g kg vp d1 0 t (.returned (.tuple #[.pointer (some ⟨w1.heap.size, 0, none⟩), .int .i64 0])) w5) := HFN.out w5 hD5 hT5
      clear hD5 hT5 HLO HFN
      go_wp2
      go_ret2
      exact HX.out
    · go_wp2_with fail
      refine HLO.out.mono ?_
      rintro r w5 ⟨rfl, hD5, hT5⟩
      have HX : Hid (OpenPost w g kg vp d1 7 t (.returned (.tuple #[.pointer (some ⟨w1.heap.size, 0, none⟩), .int .i64 0])) w5) := HFN.out w5 hD5 hT5
      clear hD5 hT5 HLO HFN
      go_wp2
      go_ret2
      exact HX.out
  · have b0 : (e1 != 0) = true := by simp; exact fun h => hz (.inl h)
    have b7 : (e1 != 7) = true := by simp; exact fun h => hz (.inr h)
    have HX : Hid (OpenPost w g kg vp d1 e1 t (.returned (.tuple #[.pointer none, .int .i64 e1])) w4) := by
      refine ⟨fun h => absurd h hz, fun _ => ?_⟩
      have hdk := HD4.out.lp.dk
      rw [show (A.to vr4 vw4 vp4).g = g from HAX.out.1, show (A.to vr4 vw4 vp4).kg = kg from HAX.out.2] at hdk
      refine ⟨vp4, rfl, hdk, ⟨HT4.out.chg, fun k hk => HT4.out.grow k ((A.to vr4 vw4 vp4).ml (foot_lf _ ?_))⟩⟩
      rw [show (A.to vr4 vw4 vp4).g = g from HAX.out.1, show (A.to vr4 vw4 vp4).kg = kg from HAX.out.2]
      exact hk
    clear hz HLD
    go_wp2
    go_ret2
    exact HX.out
end Go.Proofs.YtcfninpokngmlaaGreatDoor
/- Proved: a transaction in memory beside its database; what its small calls answer. -/
namespace Pd
structure Tx where
  st : Stt
  m : Mp
  sp : Bool
end Pd
namespace Go.Proofs.YtcfninpokngmlaaGreatDoor
open Go.RowKit
def txA (x bt : Nat) (u : Pd.Tx) : Array Value := #[ptr x, .int .i64 (u.st.high : Int), .int .i64 (u.st.free : Int), .int .i64 (u.st.last : Int), .int .i64 (u.st.r0 : Int), .int .i64 (u.st.r1 : Int), .int .i64 (u.st.r2 : Int), .int .i64 (u.st.r3 : Int), .map (some bt), .bool u.sp]
def txZ : Array Value := #[.pointer none, .int .i64 0, .int .i64 0, .int .i64 0, .int .i64 0, .int .i64 0, .int .i64 0, .int .i64 0, .map none, .bool false]
def tft (A : Ad) (t bt : Nat) : List Nat := t :: bt :: A.ft
structure Txw (w : World) (A : Ad) (t bt : Nat) (d : Pd.Db) (u : Pd.Tx) : Prop where
  db : Dbw w A (ptr t) d
  row : w.heap[t]? = some (.cells (txA A.x bt u) 66 (0, 0))
  mp : MpAt w bt u.m
  ta : t ∉ A.ft
  ba : bt ∉ A.ft
  tb : t ≠ bt
  z : t ≠ 0 ∧ bt ≠ 0
section
variable {w w' : World} {A : Ad} {t bt : Nat} {d : Pd.Db} {u : Pd.Tx}
theorem Txw.cell (H : Txw w A t bt d u) (i : Nat) : w.cell? ⟨t, i, none⟩ = (txA A.x bt u)[i]? := cell_of_row w t i _ _ (0, 0) H.row
theorem Txw.c0 (H : Txw w A t bt d u) : w.cell? ⟨t, 0, none⟩ = some (ptr A.x) := by rw [H.cell]; rfl
theorem Txw.c1 (H : Txw w A t bt d u) : w.cell? ⟨t, 1, none⟩ = some (.int .i64 (u.st.high : Int)) := by rw [H.cell]; rfl
theorem Txw.c2 (H : Txw w A t bt d u) : w.cell? ⟨t, 2, none⟩ = some (.int .i64 (u.st.free : Int)) := by rw [H.cell]; rfl
theorem Txw.c3 (H : Txw w A t bt d u) : w.cell? ⟨t, 3, none⟩ = some (.int .i64 (u.st.last : Int)) := by rw [H.cell]; rfl
theorem Txw.c4 (H : Txw w A t bt d u) : w.cell? ⟨t, 4, none⟩ = some (.int .i64 (u.st.r0 : Int)) := by rw [H.cell]; rfl
theorem Txw.c5 (H : Txw w A t bt d u) : w.cell? ⟨t, 5, none⟩ = some (.int .i64 (u.st.r1 : Int)) := by rw [H.cell]; rfl
theorem Txw.c6 (H : Txw w A t bt d u) : w.cell? ⟨t, 6, none⟩ = some (.int .i64 (u.st.r2 : Int)) := by rw [H.cell]; rfl
theorem Txw.c7 (H : Txw w A t bt d u) : w.cell? ⟨t, 7, none⟩ = some (.int .i64 (u.st.r3 : Int)) := by rw [H.cell]; rfl
theorem Txw.c8 (H : Txw w A t bt d u) : w.cell? ⟨t, 8, none⟩ = some (.map (some bt)) := by rw [H.cell]; rfl
theorem Txw.c9 (H : Txw w A t bt d u) : w.cell? ⟨t, 9, none⟩ = some (.bool u.sp) := by rw [H.cell]; rfl
theorem Txw.fz (H : Txw w A t bt d u) (i : Nat) : w.frozen? ⟨t, i, none⟩ = false := frozen_of_row w t i _ _ H.row
theorem Txw.tlt (H : Txw w A t bt d u) : t < w.heap.size := (Array.getElem?_eq_some_iff.1 H.row).1
theorem Txw.lt (H : Txw w A t bt d u) : ∀ k ∈ tft A t bt, k < w.heap.size := fun k hk => by
  rcases List.mem_cons.1 hk with rfl | hk
  · exact H.tlt
  · rcases List.mem_cons.1 hk with rfl | hk
    · exact H.mp.lt
    · exact H.db.lt k hk
theorem tft_a {k : Nat} (h : k ∈ A.ft) : k ∈ tft A t bt := List.mem_cons_of_mem _ (List.mem_cons_of_mem _ h)
theorem tft_t : t ∈ tft A t bt := List.mem_cons_self
theorem tft_b : bt ∈ tft A t bt := List.mem_cons_of_mem _ List.mem_cons_self
theorem Txw.keep (H : Txw w A t bt d u) {fs : List Nat} (hc : Chg fs w w') (ha : ∀ k ∈ tft A t bt, k ∉ fs) (h0 : 0 ∉ fs) : Txw w' A t bt d u :=
  ⟨H.db.keep hc (fun k hk => ha k (tft_a hk)) h0, (hc.block t H.tlt (ha _ tft_t)).trans H.row, H.mp.chg hc (ha _ tft_b), H.ta, H.ba, H.tb, H.z⟩
theorem Txw.below (H : Txw w A t bt d u) (hB : Below w.heap.size w w') : Txw w' A t bt d u := H.keep (fs := []) (Chg.of_below hB) (by simp) (by simp)
theorem Txw.alloc (H : Txw w A t bt d u) (o : Obj) : Txw (w.alloc o) A t bt d u := H.keep (Chg.alloc [] w o) (by simp) (by simp)
theorem Txw.drew (H : Txw w A t bt d u) : Txw w.drew A t bt d u := H.keep (fs := []) ⟨rfl, rfl, rfl, Nat.le_refl _, fun _ _ _ => rfl⟩ (by simp) (by simp)
theorem Txw.drewN (H : Txw w A t bt d u) (n : Nat) : Txw (w.drewN n) A t bt d u := H.keep (fs := []) ⟨rfl, rfl, rfl, Nat.le_refl _, fun _ _ _ => rfl⟩ (by simp) (by simp)
/- its own cells are written -/
theorem Txw.cells (H : Txw w A t bt d u) {u' : Pd.Tx} (hc : Chg [t] w w') (hr : w'.heap[t]? = some (.cells (txA A.x bt u') 66 (0, 0))) (hm : u'.m = u.m) : Txw w' A t bt d u' ∧ Turn (tft A t bt) (tft A t bt) w w' := by
  refine ⟨⟨H.db.keep hc (fun k hk e => H.ta (by rw [← List.mem_singleton.1 e]; exact hk)) (fun e => H.z.1 (List.mem_singleton.1 e).symm), hr, ?_, H.ta, H.ba, H.tb, H.z⟩, ⟨hc.mono (fun k hk => by rw [List.mem_singleton.1 hk]; exact tft_t), fun k hk => .inl hk⟩⟩
  rw [hm]
  exact H.mp.chg hc (fun e => H.tb (List.mem_singleton.1 e).symm)
theorem Txw.set (H : Txw w A t bt d u) {u' : Pd.Tx} (i : Nat) (v : Value) (e : (txA A.x bt u).setIfInBounds i v = txA A.x bt u') (hm : u'.m = u.m) : Txw (w.setCell ⟨t, i, none⟩ v) A t bt d u' ∧ Turn (tft A t bt) (tft A t bt) w (w.setCell ⟨t, i, none⟩ v) :=
  H.cells (Chg.setCell w t i v) (by rw [heap_setCell_same w t i _ _ _ H.row, e]) hm
theorem Txw.setSt (H : Txw w A t bt d u) (s : Pd.Stt) : Txw (st7 w t 1 s) A t bt d { u with st := s } ∧ Turn (tft A t bt) (tft A t bt) w (st7 w t 1 s) := by
  refine H.cells ?_ ?_ rfl
  · rw [st7_cells]
    exact Chg.setCells t _ _ w
  · rw [st7_cells]
    have hr := H.row
    have e : txA A.x bt u = [ptr A.x, .int .i64 (u.st.high : Int), .int .i64 (u.st.free : Int), .int .i64 (u.st.last : Int), .int .i64 (u.st.r0 : Int), .int .i64 (u.st.r1 : Int), .int .i64 (u.st.r2 : Int), .int .i64 (u.st.r3 : Int), .map (some bt), .bool u.sp].toArray := rfl
    rw [e] at hr
    rw [setCells_splice t 66 _ 1 _ w hr (by simp)]
    rfl
/- its map turns -/
theorem Txw.map (H : Txw w A t bt d u) {m : Pd.Mp} (hM : MpAt w' bt m) (hg : w.grownBy w' (some bt)) : Txw w' A t bt d { u with m := m } ∧ Turn (tft A t bt) (tft A t bt) w w' := by
  have hc : Chg [bt] w w' := (Chg.grown hg).mono (fun k hk => by simpa using hk)
  exact ⟨⟨H.db.keep hc (fun k hk e => H.ba (by rw [← List.mem_singleton.1 e]; exact hk)) (fun e => H.z.2 (List.mem_singleton.1 e).symm), (hc.block t H.tlt (fun e => H.tb (List.mem_singleton.1 e))).trans H.row, hM, H.ta, H.ba, H.tb, H.z⟩, ⟨hc.mono (fun k hk => by rw [List.mem_singleton.1 hk]; exact tft_b), fun k hk => .inl hk⟩⟩
end
theorem infoTx : Tryz.prog.info? 66 = some Tryz.t66 := by kernel_rfl
theorem eqTx (t : Nat) (W : World) : (binOp .eql 31 (.pointer (some ⟨t, 0, none⟩)) (.pointer (some ⟨t, 0, none⟩))).run Tryz.prog W = .ok (.bool true) W := run_eql_ptr_same W ⟨t, 0, none⟩ Tryz.underlying31 infoTx
section
variable (A : Ad) (t bt : Nat) (d : Pd.Db) (u : Pd.Tx) (w : World)
theorem isopen_yes (H : Txw w A t bt d u) : Calls Tryz.prog 51 #[ptr t] w fun e w' => e = .returned (.bool true) ∧ w' = w := by
  have c0 := H.c0
  have c12 := H.db.c12
  have heq := eqTx t
  clear H
  unfold ptr at *
  go_enter Tryz.func51, Tryz.ntmps51
  go_wp2
  go_ret
  exact ⟨by first | rfl | simp, rfl⟩
theorem isopen_nil : Calls Tryz.prog 51 #[nilP] w fun e w' => e = .returned (.bool false) ∧ w' = w := by
  unfold nilP
  go_enter Tryz.func51, Tryz.ntmps51
  go_wp2
  go_ret
  exact ⟨rfl, rfl⟩
theorem isopen_end (hr : w.cell? ⟨t, 0, none⟩ = some (.pointer none)) : Calls Tryz.prog 51 #[ptr t] w fun e w' => e = .returned (.bool false) ∧ w' = w := by
  unfold ptr
  go_enter Tryz.func51, Tryz.ntmps51
  go_wp2
  go_ret
  exact ⟨rfl, rfl⟩
theorem tready_ok (H : Txw w A t bt d u) (hl : d.lost = false) : Calls Tryz.prog 62 #[ptr t] w fun e w' => e = .returned (.int .i64 0) ∧ w' = w := by
  have HO := isopen_yes A t bt d u w H
  have c0 := H.c0
  have c13 := H.db.c13
  rw [hl] at c13
  clear H
  unfold ptr at *
  go_enter Tryz.func62, Tryz.ntmps62
  go_wp2_with (go_at_call 51; refine HO.mono ?_; rintro e w' ⟨rfl, rfl⟩)
  go_ret
  exact ⟨rfl, rfl⟩
/- a transaction that is none, or has ended -/
def Shut (w : World) (v : Value) : Prop := v = nilP ∨ ∃ t, v = ptr t ∧ w.cell? ⟨t, 0, none⟩ = some (.pointer none)
theorem isopen_no (v : Value) (h : Shut w v) : Calls Tryz.prog 51 #[v] w fun e w' => e = .returned (.bool false) ∧ w' = w := by
  rcases h with rfl | ⟨t, rfl, hr⟩
  · exact isopen_nil w
  · exact isopen_end t w hr
theorem tready_no (v : Value) (h : Shut w v) : Calls Tryz.prog 62 #[v] w fun e w' => e = .returned (.int .i64 1) ∧ w' = w := by
  have HO := isopen_no w v h
  clear h
  go_enter Tryz.func62, Tryz.ntmps62
  go_wp2_with (go_at_call 51; refine HO.mono ?_; rintro e w' ⟨rfl, rfl⟩)
  go_ret
  exact ⟨rfl, rfl⟩
theorem changed_any (H : Txw w A t bt d u) : Calls Tryz.prog 14 #[ptr t] w fun e w' => e = .returned (.int .i64 (u.m.length : Int)) ∧ w' = w := by
  have HO := isopen_yes A t bt d u w H
  have c8 := H.c8
  have HM : Hid (MpAt w bt u.m) := H.mp
  clear H
  unfold ptr at *
  go_enter Tryz.func14, Tryz.ntmps14
  go_wp2_with (first | (go_at_call 51; refine HO.mono ?_; rintro e w' ⟨rfl, rfl⟩) | (at_len; refine mp_len _ rfl _ rfl bt u.m rfl HM.out ?_))
  go_ret
  exact ⟨rfl, rfl⟩
theorem changed_no (v : Value) (h : Shut w v) : Calls Tryz.prog 14 #[v] w fun e w' => e = .returned (.int .i64 0) ∧ w' = w := by
  have HO := isopen_no w v h
  clear h
  go_enter Tryz.func14, Tryz.ntmps14
  go_wp2_with (go_at_call 51; refine HO.mono ?_; rintro e w' ⟨rfl, rfl⟩)
  go_ret
  exact ⟨rfl, rfl⟩
theorem root_no (v : Value) (i : Int) (h : Shut w v) : Calls Tryz.prog 16 #[v, .int .i64 i] w fun e w' => e = .returned (.int .i64 0) ∧ w' = w := by
  have HO := isopen_no w v h
  clear h
  go_enter Tryz.func16, Tryz.ntmps16
  go_wp2_with (go_at_call 51; refine HO.mono ?_; rintro e w' ⟨rfl, rfl⟩)
  go_ret
  exact ⟨rfl, rfl⟩
def rootV (s : Pd.Stt) (i : Int) : Nat := if i = 0 then s.r0 else if i = 1 then s.r1 else if i = 2 then s.r2 else if i = 3 then s.r3 else 0
theorem root_any (i : Int) (H : Txw w A t bt d u) : Calls Tryz.prog 16 #[ptr t, .int .i64 i] w fun e w' => e = .returned (.int .i64 (rootV u.st i : Int)) ∧ w' = w := by
  have HO := isopen_yes A t bt d u w H
  have HR := isroot_any i w
  have c4 := H.c4
  have c5 := H.c5
  have c6 := H.c6
  have c7 := H.c7
  clear H
  unfold ptr at *
  by_cases h : isR i = true
  · rw [h] at HR
    have hi : i = 0 ∨ i = 1 ∨ i = 2 ∨ i = 3 := by
      unfold isR at h
      simp at h
      omega
    clear h
    rcases hi with rfl | rfl | rfl | rfl
    · go_enter Tryz.func16, Tryz.ntmps16
      go_wp2_with (first | (go_at_call 51; refine HO.mono ?_; rintro e w' ⟨rfl, rfl⟩) | (go_at_call 52; refine HR.mono ?_; rintro e w' ⟨rfl, rfl⟩))
      go_ret
      exact ⟨rfl, rfl⟩
    · go_enter Tryz.func16, Tryz.ntmps16
      go_wp2_with (first | (go_at_call 51; refine HO.mono ?_; rintro e w' ⟨rfl, rfl⟩) | (go_at_call 52; refine HR.mono ?_; rintro e w' ⟨rfl, rfl⟩))
      go_ret
      exact ⟨rfl, rfl⟩
    · go_enter Tryz.func16, Tryz.ntmps16
      go_wp2_with (first | (go_at_call 51; refine HO.mono ?_; rintro e w' ⟨rfl, rfl⟩) | (go_at_call 52; refine HR.mono ?_; rintro e w' ⟨rfl, rfl⟩))
      go_ret
      exact ⟨rfl, rfl⟩
    · go_enter Tryz.func16, Tryz.ntmps16
      go_wp2_with (first | (go_at_call 51; refine HO.mono ?_; rintro e w' ⟨rfl, rfl⟩) | (go_at_call 52; refine HR.mono ?_; rintro e w' ⟨rfl, rfl⟩))
      go_ret
      exact ⟨rfl, rfl⟩
  · have h' : isR i = false := by simpa using h
    rw [h'] at HR
    have HE : Hid (rootV u.st i = 0) := by
      unfold isR at h'
      unfold rootV
      show _ = 0
      simp at h'
      rw [if_neg (by omega), if_neg (by omega), if_neg (by omega), if_neg (by omega)]
    clear h h'
    go_enter Tryz.func16, Tryz.ntmps16
    go_wp2_with (first | (go_at_call 51; refine HO.mono ?_; rintro e w' ⟨rfl, rfl⟩) | (go_at_call 52; refine HR.mono ?_; rintro e w' ⟨rfl, rfl⟩))
    go_ret
    exact ⟨by rw [HE.out]; rfl, rfl⟩
theorem spoil_any (H : Txw w A t bt d u) : Calls Tryz.prog 29 #[ptr t] w fun e w' => e = .returned (.tuple #[]) ∧ Txw w' A t bt d { u with sp := true } ∧ Turn (tft A t bt) (tft A t bt) w w' := by
  have HO := isopen_yes A t bt d u w H
  have c9 := H.c9
  have f9 := H.fz 9
  have HS : Hid (Txw (w.setCell ⟨t, 9, none⟩ (.bool true)) A t bt d { u with sp := true } ∧ Turn (tft A t bt) (tft A t bt) w (w.setCell ⟨t, 9, none⟩ (.bool true))) := H.set 9 (.bool true) rfl rfl
  clear H
  unfold ptr at *
  go_enter Tryz.func29, Tryz.ntmps29
  go_wp2_with (go_at_call 51; refine HO.mono ?_; rintro e w' ⟨rfl, rfl⟩)
  go_end0
  exact ⟨rfl, HS.out⟩
theorem spoil_no (v : Value) (h : Shut w v) : Calls Tryz.prog 29 #[v] w fun e w' => e = .returned (.tuple #[]) ∧ w' = w := by
  have HO := isopen_no w v h
  clear h
  go_enter Tryz.func29, Tryz.ntmps29
  go_wp2_with (go_at_call 51; refine HO.mono ?_; rintro e w' ⟨rfl, rfl⟩)
  go_end0
  exact ⟨rfl, rfl⟩
theorem abort_no (v : Value) (h : Shut w v) : Calls Tryz.prog 28 #[v] w fun e w' => e = .returned (.tuple #[]) ∧ w' = w := by
  have HO := isopen_no w v h
  clear h
  go_enter Tryz.func28, Tryz.ntmps28
  go_wp2_with (go_at_call 51; refine HO.mono ?_; rintro e w' ⟨rfl, rfl⟩)
  first | go_end0 | go_returns
  exact ⟨rfl, rfl⟩
end
end Go.Proofs.YtcfninpokngmlaaGreatDoor
/- Proved: what a transaction sees of a page: look, there and Read. -/
namespace Pd
def TSees (u : Tx) (d : Db) (id : Nat) (x : Sheet) : Prop := get u.m id = some x ∨ (get u.m id = none ∧ Sees d id x)
end Pd
namespace Go.Proofs.YtcfninpokngmlaaGreatDoor
open Go.RowKit
def thereR (hi : Nat) (id : Int) (x : Pd.Sheet) : Pd.Sheet × Int := if id < 1 ∨ (hi : Int) ≤ id then (sh00, 2) else if x.kind = 255 then (sh00, 8) else (x, 0)
/- pages below the count lie on the disk -/
structure Fits (d : Pd.Db) : Prop where
  down : d.s.down = false
  len : d.n + 8 * d.cnt ≤ d.s.kept.length
  cnt : d.cnt ≤ 1000
  n : d.n ≤ 65536
  lost : d.lost = false
section
variable (A : Ad) (t bt : Nat) (d : Pd.Db) (u : Pd.Tx) (w : World)
set_option maxHeartbeats 4000000 in
set_option maxRecDepth 100000 in
theorem tlook_any (id : Nat) (x : Pd.Sheet) (H : Txw w A t bt d u) (hF : Fits d) (hi : id < d.cnt) (hx : Pd.TSees u d id x) :
    Calls Tryz.prog 85 #[ptr t, .int .i64 (id : Int)] w fun e w' => e = .returned (.tuple #[shV x, .int .i64 0]) ∧ Below w.heap.size w w' := by
  have HH : Hid (Txw w A t bt d u) := H
  have hz := zeroSh
  unfold shV sh00 Pd.none0 at hz
  have HR0 : Hid ((w.alloc (.cells #[.int .i64 0, .string ⟨#[]⟩] 102)).heap[w.heap.size]? = some (.cells #[.int .i64 0, .string ⟨#[]⟩] 102 (0, 0))) := heap_alloc_new w _
  have HB0 : Hid (Below w.heap.size w (w.alloc (.cells #[.int .i64 0, .string ⟨#[]⟩] 102))) := (Below.refl _ _).alloc (Nat.le_refl _) _
  have HD0 : Hid (Txw (w.alloc (.cells #[.int .i64 0, .string ⟨#[]⟩] 102)) A t bt d u) := H.alloc _
  have c8 : (w.alloc (.cells #[.int .i64 0, .string ⟨#[]⟩] 102)).cell? ⟨t, 8, none⟩ = some (.map (some bt)) := HD0.out.c8
  have c8w : w.cell? ⟨t, 8, none⟩ = some (.map (some bt)) := H.c8
  have c0w : w.cell? ⟨t, 0, none⟩ = some (.pointer (some ⟨A.x, 0, none⟩)) := H.c0
  have htl := H.tlt
  have hc := hF.cnt
  rw [shv_eq]
  rcases hx with hm | ⟨hm, hs⟩
  · have HG : Hid ((Pd.get u.m id) = some x) := hm
    clear H hm
    unfold ptr
    go_enter Tryz.func85, Tryz.ntmps85
    go_wp2_with (at_lookup; refine mp_look_ok _ rfl _ _ rfl bt u.m rfl HD0.out.mp id (by omega) rfl ?_; rw [HG.out]; simp only [Option.getD_some, Option.isSome_some, shv_eq])
    refine bodyPost_ret (results_she Tryz.results85 _ _ w.heap.size 102 _ _ _ rfl rfl ((heap_alloc_old _ _ (by simp)).trans (heap_alloc_new w _))) rfl ⟨rfl, ((Below.refl _ _).alloc (Nat.le_refl _) _).alloc (by simp) _⟩
  · have HG : Hid ((Pd.get u.m id) = none) := hm
    have HDL : Hid (∀ U, Dbw U A (ptr t) d → Calls Tryz.prog 119 #[.pointer (some ⟨A.x, 0, none⟩), .int .i64 (id : Int)] U fun e w' => e = .returned (.tuple #[.agg #[.int .i64 (x.kind : Int), .string x.body], .int .i64 0]) ∧ Below U.heap.size U w') := fun U hU => dlook_any A (ptr t) d id x U hU hF.down (by have := hF.len; omega) (by omega) hs
    clear H hm hs
    unfold ptr
    go_enter Tryz.func85, Tryz.ntmps85
    go_wp2_with (at_lookup; refine mp_look_ok _ rfl _ _ rfl bt u.m rfl HD0.out.mp id (by omega) rfl ?_; rw [HG.out]; simp only [Option.getD_none, Option.isSome_none, shv_eq, sh00, Pd.none0])
    have HR1 : Hid (((w.alloc (.cells #[.int .i64 0, .string ⟨#[]⟩] 102)).alloc (.cells #[.int .i64 0, .string ⟨#[]⟩] 102)).heap[w.heap.size]? = some (.cells #[.int .i64 0, .string ⟨#[]⟩] 102 (0, 0))) := (heap_alloc_old _ _ (by simp)).trans HR0.out
    have HB1 : Hid (Below w.heap.size w ((w.alloc (.cells #[.int .i64 0, .string ⟨#[]⟩] 102)).alloc (.cells #[.int .i64 0, .string ⟨#[]⟩] 102))) := HB0.out.alloc HB0.out.size _
    have HD1 : Hid (Txw ((w.alloc (.cells #[.int .i64 0, .string ⟨#[]⟩] 102)).alloc (.cells #[.int .i64 0, .string ⟨#[]⟩] 102)) A t bt d u) := HD0.out.alloc _
    generalize hw1 : World.alloc (World.alloc w _) _ = w1 at *
    clear hw1 HR0 HB0 HD0 c8 c8w c0w
    refine (HDL.out w1 HD1.out.db).mono ?_
    rintro e w2 ⟨rfl, hB2⟩
    have HR2 : Hid (w2.heap[w.heap.size]? = some (.cells #[.int .i64 0, .string ⟨#[]⟩] 102 (0, 0))) := heap_next HR1.out hB2
    have HB2 : Hid (Below w.heap.size w w2) := below_next HB1.out hB2 HB1.out.size
    clear hB2 HDL HR1 HB1 HD1
    have f0 := frozen_of_row w2 w.heap.size 0 _ _ HR2.out
    have f1 := frozen_of_row w2 w.heap.size 1 _ _ HR2.out
    have c0 : w2.cell? ⟨w.heap.size, 0, none⟩ = some (.int .i64 0) := cell_of_row _ _ _ _ _ (0, 0) HR2.out
    have c1 : w2.cell? ⟨w.heap.size, 1, none⟩ = some (.string ⟨#[]⟩) := cell_of_row _ _ _ _ _ (0, 0) HR2.out
    go_wp2
    exact bodyPost_ret (results_she Tryz.results85 _ _ w.heap.size 102 _ _ _ rfl rfl (row2 HR2.out _ _)) rfl ⟨rfl, (HB2.out.setCell (by simp) _).setCell (by simp) _⟩
set_option maxHeartbeats 4000000 in
set_option maxRecDepth 100000 in
theorem there_any (id : Int) (x : Pd.Sheet) (H : Txw w A t bt d u) (hF : Fits d) (hh : u.st.high ≤ d.cnt) (hx : ∀ i : Nat, id = (i : Int) → 1 ≤ i → i < u.st.high → Pd.TSees u d i x) :
    Calls Tryz.prog 61 #[ptr t, .int .i64 id] w fun e w' => e = .returned (.tuple #[shV (thereR u.st.high id x).1, .int .i64 (thereR u.st.high id x).2]) ∧ Below w.heap.size w w' := by
  have HRE : Hid (∀ U, Txw U A t bt d u → Calls Tryz.prog 62 #[.pointer (some ⟨t, 0, none⟩)] U fun e w' => e = .returned (.int .i64 0) ∧ w' = U) := fun U hU => tready_ok A t bt d u U hU hF.lost
  have hz := zeroSh
  unfold shV sh00 Pd.none0 at hz
  have HR0 : Hid ((w.alloc (.cells #[.int .i64 0, .string ⟨#[]⟩] 102)).heap[w.heap.size]? = some (.cells #[.int .i64 0, .string ⟨#[]⟩] 102 (0, 0))) := heap_alloc_new w _
  have HB0 : Hid (Below w.heap.size w (w.alloc (.cells #[.int .i64 0, .string ⟨#[]⟩] 102))) := (Below.refl _ _).alloc (Nat.le_refl _) _
  have HD0 : Hid (Txw (w.alloc (.cells #[.int .i64 0, .string ⟨#[]⟩] 102)) A t bt d u) := H.alloc _
  have c1 : (w.alloc (.cells #[.int .i64 0, .string ⟨#[]⟩] 102)).cell? ⟨t, 1, none⟩ = some (.int .i64 (u.st.high : Int)) := HD0.out.c1
  have c1w : w.cell? ⟨t, 1, none⟩ = some (.int .i64 (u.st.high : Int)) := H.c1
  have htl := H.tlt
  by_cases h1 : id < 1
  · have e : thereR u.st.high id x = (sh00, 2) := by unfold thereR; rw [if_pos (.inl h1)]
    rw [e]
    have d1 : decide (id < 1) = true := decide_eq_true h1
    show Calls Tryz.prog _ _ _ fun e w' => e = .returned (.tuple #[.agg #[.int .i64 0, .string ⟨#[]⟩], .int .i64 2]) ∧ Below w.heap.size w w'
    clear H hx e
    unfold ptr
    go_enter Tryz.func61, Tryz.ntmps61
    go_wp2_with (go_at_call 62; refine (HRE.out _ HD0.out).mono ?_; rintro e wS ⟨rfl, hwS⟩; rw [hwS]; clear hwS wS)
    refine bodyPost_ret (results_she Tryz.results61 _ _ w.heap.size 102 _ _ _ rfl rfl HR0.out) rfl ⟨rfl, HB0.out⟩
  · have d1 : decide (id < 1) = false := decide_eq_false h1
    by_cases h2 : (u.st.high : Int) ≤ id
    · have e : thereR u.st.high id x = (sh00, 2) := by unfold thereR; rw [if_pos (.inr h2)]
      rw [e]
      have d2 : decide ((u.st.high : Int) ≤ id) = true := decide_eq_true h2
      show Calls Tryz.prog _ _ _ fun e w' => e = .returned (.tuple #[.agg #[.int .i64 0, .string ⟨#[]⟩], .int .i64 2]) ∧ Below w.heap.size w w'
      clear H hx e
      unfold ptr
      go_enter Tryz.func61, Tryz.ntmps61
      go_wp2_with (go_at_call 62; refine (HRE.out _ HD0.out).mono ?_; rintro e wS ⟨rfl, hwS⟩; rw [hwS]; clear hwS wS)
      refine bodyPost_ret (results_she Tryz.results61 _ _ w.heap.size 102 _ _ _ rfl rfl HR0.out) rfl ⟨rfl, HB0.out⟩
    · have d2 : decide ((u.st.high : Int) ≤ id) = false := decide_eq_false h2
      obtain ⟨i, rfl⟩ := Int.eq_ofNat_of_zero_le (show 0 ≤ id by omega)
      have HLK : Hid (∀ U, Txw U A t bt d u → Calls Tryz.prog 85 #[.pointer (some ⟨t, 0, none⟩), .int .i64 (i : Int)] U fun e w' => e = .returned (.tuple #[.agg #[.int .i64 (x.kind : Int), .string x.body], .int .i64 0]) ∧ Below U.heap.size U w') := fun U hU => tlook_any A t bt d u U i x hU hF (by omega) (hx i rfl (by omega) (by omega))
      have e0 : thereR u.st.high (i : Int) x = if x.kind = 255 then (sh00, 8) else (x, 0) := by
        unfold thereR
        rw [if_neg (by omega)]
      rw [e0]
      clear H hx e0
      by_cases hk : x.kind = 255
      · rw [if_pos hk]
        show Calls Tryz.prog _ _ _ fun e w' => e = .returned (.tuple #[.agg #[.int .i64 0, .string ⟨#[]⟩], .int .i64 8]) ∧ Below w.heap.size w w'
        rw [hk] at HLK
        unfold ptr
        go_enter Tryz.func61, Tryz.ntmps61
        go_wp2_with (go_at_call 62; refine (HRE.out _ HD0.out).mono ?_; rintro e wS ⟨rfl, hwS⟩; rw [hwS]; clear hwS wS)
        generalize hw0 : World.alloc w _ = w0 at *
        clear hw0
        refine (HLK.out _ HD0.out).mono ?_
        rintro e w1 ⟨rfl, hB1⟩
        have HR1 : Hid (w1.heap[w.heap.size]? = some (.cells #[.int .i64 0, .string ⟨#[]⟩] 102 (0, 0))) := heap_next HR0.out hB1
        have HB1 : Hid (Below w.heap.size w w1) := below_next HB0.out hB1 HB0.out.size
        have hl1 : w.heap.size < w1.heap.size := (Array.getElem?_eq_some_iff.1 HR1.out).1
        clear hB1 HLK HRE HR0 HB0 HD0 c1 c1w
        have f0 := frozen_of_row w1 w.heap.size 0 _ _ HR1.out
        have f1 := frozen_of_row w1 w.heap.size 1 _ _ HR1.out
        have c0 : w1.cell? ⟨w.heap.size, 0, none⟩ = some (.int .i64 0) := cell_of_row _ _ _ _ _ (0, 0) HR1.out
        have c1 : w1.cell? ⟨w.heap.size, 1, none⟩ = some (.string ⟨#[]⟩) := cell_of_row _ _ _ _ _ (0, 0) HR1.out
        go_wp2
        refine bodyPost_ret (results_she Tryz.results61 _ _ w.heap.size 102 _ _ _ rfl rfl ((heap_alloc_old _ _ (by simp [World.setCell]; omega)).trans (row2 HR1.out _ _))) rfl ⟨rfl, ((HB1.out.setCell (by simp) _).setCell (by simp) _).alloc (by simp [World.setCell]; omega) _⟩
      · rw [if_neg hk]
        show Calls Tryz.prog _ _ _ fun e w' => e = .returned (.tuple #[.agg #[.int .i64 (x.kind : Int), .string x.body], .int .i64 0]) ∧ Below w.heap.size w w'
        have hkb : ((x.kind : Int) == 255) = false := beq_false_of_ne (by omega)
        clear hk
        unfold ptr
        go_enter Tryz.func61, Tryz.ntmps61
        go_wp2_with (go_at_call 62; refine (HRE.out _ HD0.out).mono ?_; rintro e wS ⟨rfl, hwS⟩; rw [hwS]; clear hwS wS)
        generalize hw0 : World.alloc w _ = w0 at *
        clear hw0
        refine (HLK.out _ HD0.out).mono ?_
        rintro e w1 ⟨rfl, hB1⟩
        have HR1 : Hid (w1.heap[w.heap.size]? = some (.cells #[.int .i64 0, .string ⟨#[]⟩] 102 (0, 0))) := heap_next HR0.out hB1
        have HB1 : Hid (Below w.heap.size w w1) := below_next HB0.out hB1 HB0.out.size
        have hl1 : w.heap.size < w1.heap.size := (Array.getElem?_eq_some_iff.1 HR1.out).1
        clear hB1 HLK HRE HR0 HB0 HD0 c1 c1w
        have f0 := frozen_of_row w1 w.heap.size 0 _ _ HR1.out
        have f1 := frozen_of_row w1 w.heap.size 1 _ _ HR1.out
        have c0 : w1.cell? ⟨w.heap.size, 0, none⟩ = some (.int .i64 0) := cell_of_row _ _ _ _ _ (0, 0) HR1.out
        have c1 : w1.cell? ⟨w.heap.size, 1, none⟩ = some (.string ⟨#[]⟩) := cell_of_row _ _ _ _ _ (0, 0) HR1.out
        go_wp2
        refine bodyPost_ret (results_she Tryz.results61 _ _ w.heap.size 102 _ _ _ rfl rfl ((heap_alloc_old _ _ (by simp [World.setCell]; omega)).trans (row2 HR1.out _ _))) rfl ⟨rfl, ((HB1.out.setCell (by simp) _).setCell (by simp) _).alloc (by simp [World.setCell]; omega) _⟩
end
end Go.Proofs.YtcfninpokngmlaaGreatDoor
/- Proved: what a transaction's Read, Write and mark make of it. -/
namespace Go.Proofs.YtcfninpokngmlaaGreatDoor
open Go.RowKit
theorem mp_put_run {w : World} {b : Nat} {m : Pd.Mp} (hM : MpAt w b m) (hl : m.length ≤ 100000) (i : Nat) (hi : i ≤ 9223372036854775807) (y : Pd.Sheet) : ∃ w', (Instr.mapUpdate 59 (.map (some b)) (.int .i64 (i : Int)) (shV y)).run Tryz.prog w = .ok () w' ∧ MpAt w' b (Pd.set m i y) ∧ w.grownBy w' (some b) := by
  obtain ⟨w', hr, ho, hg⟩ := hM.own.update lawI Tryz.underlying59 (by unfold maxLen; omega) (keyI hi) (shR_mk y)
  rw [put_dM hM.up] at ho
  exact ⟨w', hr, ⟨hM.up.set y i, own_exact ho⟩, hg⟩
section
variable (A : Ad) (t bt : Nat) (d : Pd.Db) (u : Pd.Tx) (w : World)
set_option maxHeartbeats 4000000 in
set_option maxRecDepth 100000 in
theorem tread_any (id : Int) (x : Pd.Sheet) (H : Txw w A t bt d u) (hF : Fits d) (hh : u.st.high ≤ d.cnt) (hx : ∀ i : Nat, id = (i : Int) → 1 ≤ i → i < u.st.high → Pd.TSees u d i x) :
    Calls Tryz.prog 26 #[ptr t, .int .i64 id] w fun e w' => e = .returned (.tuple #[.int .i64 ((thereR u.st.high id x).1.kind : Int), .string (thereR u.st.high id x).1.body, .int .i64 (thereR u.st.high id x).2]) ∧ Below w.heap.size w w' := by
  have HT : Hid (Calls Tryz.prog 61 #[.pointer (some ⟨t, 0, none⟩), .int .i64 id] w fun e w' => e = .returned (.tuple #[.agg #[.int .i64 ((thereR u.st.high id x).1.kind : Int), .string (thereR u.st.high id x).1.body], .int .i64 (thereR u.st.high id x).2]) ∧ Below w.heap.size w w') := there_any A t bt d u w id x H hF hh hx
  have hz := zeroSh
  unfold shV sh00 Pd.none0 at hz
  clear H hx
  generalize (thereR u.st.high id x).1.kind = k at *
  generalize (thereR u.st.high id x).1.body = b at *
  generalize (thereR u.st.high id x).2 = e0 at *
  unfold ptr
  go_enter Tryz.func26, Tryz.ntmps26
  go_wp2_with fail
  refine HT.out.mono ?_
  rintro e w1 ⟨rfl, hB1⟩
  have HB2 : Hid (Below w.heap.size w (w1.alloc (.cells #[.int .i64 (k : Int), .string b] 102))) := hB1.alloc hB1.size _
  have c0 : (w1.alloc (.cells #[.int .i64 (k : Int), .string b] 102)).cell? ⟨w1.heap.size, 0, none⟩ = some (.int .i64 (k : Int)) := cell_of_row _ _ _ _ _ (0, 0) (heap_alloc_new w1 _)
  have c1 : (w1.alloc (.cells #[.int .i64 (k : Int), .string b] 102)).cell? ⟨w1.heap.size, 1, none⟩ = some (.string b) := cell_of_row _ _ _ _ _ (0, 0) (heap_alloc_new w1 _)
  clear hB1 HT
  go_wp2_with fail
  generalize hw2 : World.alloc w1 _ = w2 at *
  clear hw2
  go_quiet (fail)
  have HB3 : Hid (Below w.heap.size w (w2.drewN nq)) := drewN_below HB2.out nq
  go_wp2
  go_ret3
  exact ⟨rfl, HB3.out⟩
def SH (s : Pd.Stt) : Value := .agg #[.int .i64 (s.high : Int), .int .i64 (s.free : Int), .int .i64 (s.last : Int), .int .i64 (s.r0 : Int), .int .i64 (s.r1 : Int), .int .i64 (s.r2 : Int), .int .i64 (s.r3 : Int)]
set_option maxHeartbeats 4000000 in
set_option maxRecDepth 100000 in
theorem mark_any (H : Txw w A t bt d u) (hl : u.m.length ≤ 100000) :
    Calls Tryz.prog 64 #[ptr t] w fun e w' => e = .returned (.tuple #[]) ∧ Txw w' A t bt d { u with m := Pd.set u.m 0 u.st.sheet } ∧ Turn (tft A t bt) (tft A t bt) w w' := by
  have HH : Hid (Txw w A t bt d u) := H
  have HSH : Hid (∀ U, Calls Tryz.prog 88 #[.agg #[.int .i64 (u.st.high : Int), .int .i64 (u.st.free : Int), .int .i64 (u.st.last : Int), .int .i64 (u.st.r0 : Int), .int .i64 (u.st.r1 : Int), .int .i64 (u.st.r2 : Int), .int .i64 (u.st.r3 : Int)]] U fun e w' => e = .returned (shV u.st.sheet) ∧ Below U.heap.size U w') := fun U => sheet_any u.st U
  have HS : Hid ((fun U : World => U.heap[t]? = some (.cells (txA A.x bt u) 66 (0, 0))) w.drew) := H.row
  clear H
  unfold ptr
  go_enter Tryz.func64, Tryz.ntmps64
  refine wp_region_held_drew (S := fun U : World => U.heap[t]? = some (.cells (txA A.x bt u) 66 (0, 0))) (by kernel_rfl) HS.out (fun _ => ?_)
  refine heldTake 0 (some 2) (.pointer (some ⟨t, 0, none⟩)) rfl rfl (by kernel_rfl) (by kernel_rfl) (by kernel_rfl) (fun _ _ _ h => h) (Or.inl ⟨by rfl, fun w hS => ?_⟩) HS.out ?_
  · (go_simp)
  simp only [Act.put, List.setIfInBounds_toArray, List.set_cons_zero, List.set_cons_succ]
  refine heldTake 1 (some 3) (.pointer (some ⟨t, 0, none⟩)) rfl rfl (by kernel_rfl) (by kernel_rfl) (by kernel_rfl) (fun _ _ _ h => h) (Or.inl ⟨by rfl, fun w hS => ?_⟩) HS.out ?_
  · (go_simp)
  simp only [Act.put, List.setIfInBounds_toArray, List.set_cons_zero, List.set_cons_succ]
  refine heldTake 2 (some 4) (.pointer (some ⟨t, 8, none⟩)) rfl rfl (by kernel_rfl) (by kernel_rfl) (by kernel_rfl) (fun _ _ _ h => h) (Or.inl ⟨by rfl, fun w hS => ?_⟩) HS.out ?_
  · (go_simp)
  simp only [Act.put, List.setIfInBounds_toArray, List.set_cons_zero, List.set_cons_succ]
  refine heldTake 3 (some 5) (.map (some bt)) rfl rfl (by kernel_rfl) (by kernel_rfl) (by kernel_rfl) (fun _ _ _ h => h) (Or.inl ⟨by rfl, fun w hS => ?_⟩) HS.out ?_
  · (have p8 : _ = some (Value.map (some bt)) := cell_of_row w t 8 _ _ (0, 0) hS; clear hS; go_simp)
  simp only [Act.put, List.setIfInBounds_toArray, List.set_cons_zero, List.set_cons_succ]
  refine heldTake 4 (some 6) (.pointer (some ⟨t, 0, none⟩)) rfl rfl (by kernel_rfl) (by kernel_rfl) (by kernel_rfl) (fun _ _ _ h => h) (Or.inl ⟨by rfl, fun w hS => ?_⟩) HS.out ?_
  · (go_simp)
  simp only [Act.put, List.setIfInBounds_toArray, List.set_cons_zero, List.set_cons_succ]
  refine heldTake 5 (some 7) (.pointer (some ⟨t, 0, none⟩)) rfl rfl (by kernel_rfl) (by kernel_rfl) (by kernel_rfl) (fun _ _ _ h => h) (Or.inl ⟨by rfl, fun w hS => ?_⟩) HS.out ?_
  · (go_simp)
  simp only [Act.put, List.setIfInBounds_toArray, List.set_cons_zero, List.set_cons_succ]
  refine heldTake 6 (some 8) (.pointer (some ⟨t, 1, none⟩)) rfl rfl (by kernel_rfl) (by kernel_rfl) (by kernel_rfl) (fun _ _ _ h => h) (Or.inl ⟨by rfl, fun w hS => ?_⟩) HS.out ?_
  · (go_simp)
  simp only [Act.put, List.setIfInBounds_toArray, List.set_cons_zero, List.set_cons_succ]
  refine heldTake 7 (some 9) (.agg #[.int .i64 (u.st.high : Int), .int .i64 (u.st.free : Int), .int .i64 (u.st.last : Int), .int .i64 (u.st.r0 : Int), .int .i64 (u.st.r1 : Int), .int .i64 (u.st.r2 : Int), .int .i64 (u.st.r3 : Int)]) rfl rfl (by kernel_rfl) (by kernel_rfl) (by kernel_rfl) (fun _ _ _ h => h) (Or.inl ⟨by rfl, fun w hS => ?_⟩) HS.out ?_
  · (have p1 : _ = some (Value.int .i64 (u.st.high : Int)) := cell_of_row w t 1 _ _ (0, 0) hS; have p2 : _ = some (Value.int .i64 (u.st.free : Int)) := cell_of_row w t 2 _ _ (0, 0) hS; have p3 : _ = some (Value.int .i64 (u.st.last : Int)) := cell_of_row w t 3 _ _ (0, 0) hS; have p4 : _ = some (Value.int .i64 (u.st.r0 : Int)) := cell_of_row w t 4 _ _ (0, 0) hS; have p5 : _ = some (Value.int .i64 (u.st.r1 : Int)) := cell_of_row w t 5 _ _ (0, 0) hS; have p6 : _ = some (Value.int .i64 (u.st.r2 : Int)) := cell_of_row w t 6 _ _ (0, 0) hS; have p7 : _ = some (Value.int .i64 (u.st.r3 : Int)) := cell_of_row w t 7 _ _ (0, 0) hS; clear hS; go_simp)
  simp only [Act.put, List.setIfInBounds_toArray, List.set_cons_zero, List.set_cons_succ]
  refine heldOne 8 (by kernel_rfl) rfl (by rfl) (fun KK hK => ?_)
  go_simp
  go_at_call 88
  refine (HSH.out w.drew).mono ?_
  rintro e w1 ⟨rfl, hB1⟩
  have hB1' := below_drew hB1
  have HS1 : Hid ((fun U : World => U.heap[t]? = some (.cells (txA A.x bt u) 66 (0, 0))) w1) := (HH.out.below hB1').row
  have HB1 : Hid (Below w.heap.size w w1) := hB1'
  clear hB1 hB1' HSH HS
  refine hK.out _ _ HS1.out ?_
  clear hK KK
  have HTX : Hid (Txw w1 A t bt d u) := HH.out.below HB1.out
  obtain ⟨w2, hrun, hM2, hg2⟩ := mp_put_run HTX.out.mp hl 0 (by omega) u.st.sheet
  obtain ⟨hT2, hTT⟩ := HTX.out.map hM2 hg2
  have HFN : Hid (Txw w2 A t bt d { u with m := Pd.set u.m 0 u.st.sheet } ∧ Turn (tft A t bt) (tft A t bt) w w2) := ⟨hT2, (Turn.of_below HB1.out).trans hTT⟩
  have HS2 : Hid ((fun U : World => U.heap[t]? = some (.cells (txA A.x bt u) 66 (0, 0))) w2) := hT2.row
  have hrun0 : (Instr.mapUpdate 59 (.map (some bt)) (.int .i64 0) (shV u.st.sheet)).run Tryz.prog w1 = .ok () w2 := hrun
  clear hM2 hg2 hT2 hTT HTX hrun
  refine heldOne 9 (by kernel_rfl) rfl (by rfl) (fun KK hK => ?_)
  go_simp
  refine hK.out _ _ HS2.out ?_
  clear hK KK
  refine wpAnyH_done (by kernel_rfl) ?_ _
  go_end0
  exact ⟨rfl, HFN.out⟩
end
end Go.Proofs.YtcfninpokngmlaaGreatDoor
