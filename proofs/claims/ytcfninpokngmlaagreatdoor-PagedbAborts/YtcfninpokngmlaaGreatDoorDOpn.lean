/- Proved: what pagedb's Open makes of a disk that has a log of pages. -/
import Derived.Test.YtcfninpokngmlaaGreatDoorDTake2
namespace Go.Proofs.YtcfninpokngmlaaGreatDoor
open Go.RowKit
def d0of (n cnt e : Nat) (rs : List ByteArray) (ms : List Pd.Mp) (s : Sc.St) : Pd.Db := ⟨n, cnt, st0, Pd.mOf ms, false, opened 0 n e rs, s⟩
theorem foot_lf (A : Ad) {k : Nat} (h : k ∈ foot A.g A.kg A.vp) : k ∈ A.lf := List.mem_append.2 (.inr h)
def OpenPost (w : World) (g kg : Nat) (vp : Value) (d1 : Pd.Db) (e1 : Int) (t : Pd.Stt) (r : Ending) (w' : World) : Prop :=
  ((e1 = 0 ∨ e1 = 7) → ∃ A : Ad, r = .returned (.tuple #[ptr A.x, .int .i64 0]) ∧ A.g = g ∧ A.kg = kg ∧ Dbw w' A nilP { d1 with st := t } ∧ Turn (foot g kg vp) A.ft w w') ∧
  (¬ (e1 = 0 ∨ e1 = 7) → ∃ vp', r = .returned (.tuple #[nilP, .int .i64 e1]) ∧ Dk w' g kg vp' d1.s ∧ Turn (foot g kg vp) (foot g kg vp') w w')
set_option maxHeartbeats 8000000 in
set_option maxRecDepth 100000 in
theorem dopen_any (g kg : Nat) (vp : Value) (s : Sc.St) (n cnt e : Nat) (rs : List ByteArray) (ms : List Pd.Mp) (t : Pd.Stt) (w : World) (hD : Dk w g kg vp s) (hS : Safe w (foot g kg vp)) (hdn : s.down = false) (hf : Wl.Fit rs) (hon : Wl.On (Wl.flat s) 0 n e (Wl.frames rs)) (hcn : cnt = (s.kept.length - n) / 8) (h4 : 4 ≤ cnt) (hc : cnt ≤ 1000) (hn : n ≤ 65536) (hR : Pd.Recs n cnt rs ms)
    (h1 : s.dn + 8 * cnt + 10 ≤ 80000) (h2 : s.pend.length + 8 * cnt + 10 ≤ 18000)
    (hld : (Pd.setT (d0of n cnt e rs ms s)).2 = 0 ∨ (Pd.setT (d0of n cnt e rs ms s)).2 = 7 → (Pd.setT (d0of n cnt e rs ms s)).1.s.down = false ∧ (Pd.setT (d0of n cnt e rs ms s)).1.s.kept.length = s.kept.length ∧ ((Pd.plc (Wl.flat (Pd.setT (d0of n cnt e rs ms s)).1.s) n 0 = Pg.blank ∧ t = stt1) ∨ (Pd.plc (Wl.flat (Pd.setT (d0of n cnt e rs ms s)).1.s) n 0 = Pd.pageOf 0 t.sheet ∧ t.Small cnt))) :
    Calls Tryz.prog 23 #[ptr g, .int .i64 (n : Int)] w (OpenPost w g kg vp (Pd.setT (d0of n cnt e rs ms s)).1 (Pd.setT (d0of n cnt e rs ms s)).2 t) := by
  have hN2 : n ≤ s.kept.length := by have := hon.fits; rw [Wl.flat_length] at this; omega
  have hmo := hD.ok.most
  have hN8 : n + 8 * cnt ≤ s.kept.length := by omega
  have hpos := hS.tab.pos
  have HDS : Hid (Dk w g kg vp s ∧ Safe w (foot g kg vp)) := ⟨hD, hS⟩
  have HLD : Hid ((Pd.setT (d0of n cnt e rs ms s)).2 = 0 ∨ (Pd.setT (d0of n cnt e rs ms s)).2 = 7 → (Pd.setT (d0of n cnt e rs ms s)).1.s.down = false ∧ (Pd.setT (d0of n cnt e rs ms s)).1.s.kept.length = s.kept.length ∧ ((Pd.plc (Wl.flat (Pd.setT (d0of n cnt e rs ms s)).1.s) n 0 = Pg.blank ∧ t = stt1) ∨ (Pd.plc (Wl.flat (Pd.setT (d0of n cnt e rs ms s)).1.s) n 0 = Pd.pageOf 0 t.sheet ∧ t.Small cnt))) := hld
  have HRM : Hid (Pd.Recs n cnt rs ms) := hR
  have HWO : Hid (Calls Tryz.prog 54 #[.pointer (some ⟨g, 0, none⟩), .int .i64 0, .int .i64 (n : Int)] w fun r w' => ∃ q vr, r = .returned (.tuple #[ptr q, .int .i64 0]) ∧ LP w' q g vr nil0 (opened 0 n e rs) kg vp s ∧ Below w.heap.size w w' ∧ ∀ k ∈ pfoot q vr nil0, w.heap.size ≤ k) := open_any g kg vp s 0 n e rs w hD hdn hS.tab hf hon
  have hq1 : IntKind.i64.wrap ((s.kept.length : Int) - (n : Int)) = ((s.kept.length - n : Nat) : Int) := by rw [IntKind.wrap_i64]; omega
  have hq2 : ((s.kept.length - n : Nat) : Int).tdiv 8 = (cnt : Int) := by
    rw [Int.tdiv_eq_ediv_of_nonneg (by omega)]
    omega
  have hq3 : ((s.kept.length : Int) - (n : Int)).tdiv 8 = (cnt : Int) := by
    rw [Int.tdiv_eq_ediv_of_nonneg (by omega)]
    omega
  have hq4 : ((s.kept.length - n : Nat) : Int) / 8 = (cnt : Int) := by omega
  clear hD hS hld hR hf hon hcn
  unfold ptr
  go_enter Tryz.func23, Tryz.ntmps23
  go_wp2_with fail
  refine HWO.out.mono ?_
  rintro r w1 ⟨q, vr, rfl, hL1, hB1, hab⟩
  have HL1 : Hid (LP w1 q g vr nil0 (opened 0 n e rs) kg vp s) := hL1
  have HB1 : Hid (Below w.heap.size w w1) := hB1
  have HAB : Hid (∀ k ∈ pfoot q vr nil0, w.heap.size ≤ k) := hab
  have HSI : Hid (Calls Tryz.prog 55 #[.pointer (some ⟨g, 0, none⟩)] w1 fun e w' => e = .returned (.int .i64 (s.kept.length : Int)) ∧ w' = w1) := size_any g kg vp s w1 hL1.dk
  clear hL1 hB1 hab HWO
  unfold ptr
  go_wp2_with fail
  refine HSI.out.mono ?_
  rintro r wS ⟨rfl, hwS⟩
  rw [hwS]
  clear hwS wS HSI
  obtain ⟨A, hA⟩ : ∃ A : Ad, A = ⟨w1.heap.size, g, q, w1.heap.size + 1, kg, vr, nil0, vp⟩ := ⟨_, rfl⟩
  have HZ : Hid (Dbz (w1.alloc (.cells #[.pointer (some ⟨g, 0, none⟩), .pointer (some ⟨q, 0, none⟩), .int .i64 (n : Int), .int .i64 (cnt : Int), .int .i64 0, .int .i64 0, .int .i64 0, .int .i64 0, .int .i64 0, .int .i64 0, .int .i64 0, .map none, .pointer none, .bool false] 61)) A { d0of n cnt e rs ms s with m := [] } ∧ A.b = (w1.alloc (.cells #[.pointer (some ⟨g, 0, none⟩), .pointer (some ⟨q, 0, none⟩), .int .i64 (n : Int), .int .i64 (cnt : Int), .int .i64 0, .int .i64 0, .int .i64 0, .int .i64 0, .int .i64 0, .int .i64 0, .int .i64 0, .map none, .pointer none, .bool false] 61)).heap.size ∧ Turn (foot g kg vp) (A.x :: A.lf) w (w1.alloc (.cells #[.pointer (some ⟨g, 0, none⟩), .pointer (some ⟨q, 0, none⟩), .int .i64 (n : Int), .int .i64 (cnt : Int), .int .i64 0, .int .i64 0, .int .i64 0, .int .i64 0, .int .i64 0, .int .i64 0, .int .i64 0, .map none, .pointer none, .bool false] 61))) := by
    rw [hA]
    have hlt := HL1.out.lt
    have hB2 : Below w1.heap.size w1 (w1.alloc (.cells #[.pointer (some ⟨g, 0, none⟩), .pointer (some ⟨q, 0, none⟩), .int .i64 (n : Int), .int .i64 (cnt : Int), .int .i64 0, .int .i64 0, .int .i64 0, .int .i64 0, .int .i64 0, .int .i64 0, .int .i64 0, .map none, .pointer none, .bool false] 61)) := (Below.refl _ _).alloc (Nat.le_refl _) _
    have hB := below_next HB1.out hB2 HB1.out.size
    have hlf : ∀ k ∈ lfoot q g vr nil0 kg vp, k ∈ foot g kg vp ∨ w.heap.size ≤ k := fun k hk => by
      rcases List.mem_append.1 hk with h | h
      · exact .inr (HAB.out k h)
      · exact .inl h
    refine ⟨⟨heap_alloc_new w1 _, HL1.out.below hB2, ⟨HDS.out.2.tab.below hB hpos, fun hm => ?_⟩, fun hm => ?_, rfl, rfl, rfl⟩, by simp, ⟨Chg.of_below hB, fun k hk => ?_⟩⟩
    · rcases List.mem_cons.1 hm with h | h
      · have := HB1.out.size
        simp only at h
        omega
      · rcases hlf 0 h with h | h
        · exact HDS.out.2.no h
        · omega
    · have := hlt _ hm
      simp only at this
      omega
    · rcases List.mem_cons.1 hk with h | h
      · have := HB1.out.size
        simp only at h
        exact .inr (by omega)
      · exact hlf k h
  have hx : A.x = w1.heap.size := by rw [hA]
  have hAg : A.g = g ∧ A.kg = kg := by rw [hA]; exact ⟨rfl, rfl⟩
  have HAX : Hid (A.g = g ∧ A.kg = kg) := hAg
  clear hA hAg HL1 HB1 HAB
  have d4 : decide ((cnt : Int) < 4) = false := decide_eq_false (by omega)
  go_wp2_with fail
  generalize hw2 : World.alloc w1 _ = w2 at *
  clear hw2 hq1 hq2 hq3 hq4 d4
  have HT2 : Hid (Turn (foot g kg vp) (A.x :: A.lf) w w2) := HZ.out.2.2
  have HRC : Hid (Calls Tryz.prog 56 #[.pointer (some ⟨w1.heap.size, 0, none⟩)] w2 fun e' w' => e' = .returned (.int .i64 0) ∧ Dbw w' A nilP (d0of n cnt e rs ms s) ∧ Turn (A.x :: A.lf) A.ft w2 w') := by
    have h := recall_any A _ ms w2 HZ.out.1 HZ.out.2.1 HRM.out hc (by show n < _; omega)
    unfold ptr at h
    rw [hx] at h
    rw [hx]
    exact h
  have hmf : Pd.Fine cnt (Pd.mOf ms) ∧ Pd.Up (Pd.mOf ms) := ⟨HRM.out.m.2, HRM.out.m.1⟩
  have hml := Pd.fine_length hmf.2 hmf.1
  refine HRC.out.mono ?_
  rintro r w3 ⟨rfl, hD3, hT3⟩
  have HD3 : Hid (Dbw w3 A nilP (d0of n cnt e rs ms s)) := hD3
  have HT3 : Hid (Turn (foot g kg vp) A.ft w w3) := HT2.out.trans hT3
  have HST : Hid (Calls Tryz.prog 57 #[.pointer (some ⟨w1.heap.size, 0, none⟩)] w3 (DDoes w3 A nilP (Pd.setT (d0of n cnt e rs ms s)).1 (Pd.setT (d0of n cnt e rs ms s)).2)) := by
    have h := settle_any A nilP (d0of n cnt e rs ms s) w3 hD3 hmf.1 hc (by show (Pd.mOf ms).length ≤ _; omega) (by show n ≤ _; omega) (by show s.dn + 8 * (Pd.mOf ms).length + 10 ≤ _; omega) (by show s.pend.length + 8 * (Pd.mOf ms).length + 10 ≤ _; omega)
    unfold ptr at h
    rw [hx] at h
    exact h
  clear hD3 hT3 HRC HZ HT2 hmf hml
  obtain ⟨en1, en2, _⟩ := Pd.setT_n (d0of n cnt e rs ms s)
  have HEN : Hid ((Pd.setT (d0of n cnt e rs ms s)).1.n = n ∧ (Pd.setT (d0of n cnt e rs ms s)).1.cnt = cnt) := ⟨en1, en2⟩
  clear en1 en2
  generalize hrr : Pd.setT (d0of n cnt e rs ms s) = R at *
  clear hrr
  obtain ⟨d1, e1⟩ := R
  simp only at HST HLD HEN
  go_wp2_with fail
  refine HST.out.mono ?_
  rintro r w4 ⟨vr4, vw4, vp4, rfl, hD4, hT4⟩
  have HD4 : Hid (Dbw w4 (A.to vr4 vw4 vp4) nilP d1) := hD4
  have HT4 : Hid (Turn (foot g kg vp) (A.to vr4 vw4 vp4).ft w w4) := HT3.out.trans hT4
  clear hD4 hT4 HST HD3 HT3
  by_cases hz : e1 = 0 ∨ e1 = 7
  · have hld := HLD.out hz
    have HLO : Hid (Calls Tryz.prog 58 #[.pointer (some ⟨w1.heap.size, 0, none⟩)] w4 fun e' w' => e' = .returned (.int .i64 0) ∧ Dbw w' (A.to vr4 vw4 vp4) nilP { d1 with st := t } ∧ Turn (A.to vr4 vw4 vp4).ft (A.to vr4 vw4 vp4).ft w4 w') := by
      obtain ⟨l1, l2, l3⟩ := hld
      obtain ⟨n1, n2⟩ := HEN.out
      rcases l3 with ⟨p1, p2⟩ | ⟨p1, p2⟩
      · have h := load_blank (A.to vr4 vw4 vp4) nilP d1 w4 HD4.out l1 (by rw [n1, l2]; omega) (by rw [n1]; exact p1)
        unfold ptr at h
        rw [show (A.to vr4 vw4 vp4).x = w1.heap.size from hx, ← p2] at h
        exact h
      · have h := load_state (A.to vr4 vw4 vp4) nilP d1 t w4 HD4.out l1 (by rw [n1, l2]; omega) (by rw [n2]; exact hc) (by rw [n2]; exact p2) (by rw [n1]; exact p1)
        unfold ptr at h
        rw [show (A.to vr4 vw4 vp4).x = w1.heap.size from hx] at h
        exact h
    have HFN : Hid (∀ w', Dbw w' (A.to vr4 vw4 vp4) nilP { d1 with st := t } → Turn (A.to vr4 vw4 vp4).ft (A.to vr4 vw4 vp4).ft w4 w' → OpenPost w g kg vp d1 e1 t (.returned (.tuple #[.pointer (some ⟨w1.heap.size, 0, none⟩), .int .i64 0])) w') := fun w' h5 h6 => by
      refine ⟨fun _ => ⟨A.to vr4 vw4 vp4, ?_, HAX.out.1, HAX.out.2, h5, HT4.out.trans h6⟩, fun h => absurd hz h⟩
      rw [show (A.to vr4 vw4 vp4).x = w1.heap.size from hx]
      try rfl
    have hb : ((e1 != 0) && (e1 != 7)) = false := by
      rcases hz with rfl | rfl <;> rfl
    clear hld HLD
    rcases hz with rfl | rfl
    · go_wp2_with fail
      refine HLO.out.mono ?_
      rintro r w5 ⟨rfl, hD5, hT5⟩
      have HX : Hid (OpenPost w g kg vp d1 0 t (.returned (.tuple #[.pointer (some ⟨w1.heap.size, 0, none⟩), .int .i64 0])) w5) := HFN.out w5 hD5 hT5
      clear hD5 hT5 HLO HFN
      go_wp2
      go_ret2
      exact HX.out
    · go_wp2_with fail
      refine HLO.out.mono ?_
      rintro r w5 ⟨rfl, hD5, hT5⟩
      have HX : Hid (OpenPost w g kg vp d1 7 t (.returned (.tuple #[.pointer (some ⟨w1.heap.size, 0, none⟩), .int .i64 0])) w5) := HFN.out w5 hD5 hT5
      clear hD5 hT5 HLO HFN
      go_wp2
      go_ret2
      exact HX.out
  · have b0 : (e1 != 0) = true := by simp; exact fun h => hz (.inl h)
    have b7 : (e1 != 7) = true := by simp; exact fun h => hz (.inr h)
    have HX : Hid (OpenPost w g kg vp d1 e1 t (.returned (.tuple #[.pointer none, .int .i64 e1])) w4) := by
      refine ⟨fun h => absurd h hz, fun _ => ?_⟩
      have hdk := HD4.out.lp.dk
      rw [show (A.to vr4 vw4 vp4).g = g from HAX.out.1, show (A.to vr4 vw4 vp4).kg = kg from HAX.out.2] at hdk
      refine ⟨vp4, rfl, hdk, ⟨HT4.out.chg, fun k hk => HT4.out.grow k ((A.to vr4 vw4 vp4).ml (foot_lf _ ?_))⟩⟩
      rw [show (A.to vr4 vw4 vp4).g = g from HAX.out.1, show (A.to vr4 vw4 vp4).kg = kg from HAX.out.2]
      exact hk
    clear hz HLD
    go_wp2
    go_ret2
    exact HX.out
end Go.Proofs.YtcfninpokngmlaaGreatDoor
