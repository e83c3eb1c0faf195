/- Proved: the chapter's example comes out as it says; what the laws' helper begin makes. -/
import Derived.Test.YtkfgcbpiellimaaDoorLGood
namespace Go.Proofs.YtkfgcbpiellimaaDoor
open Go.RowKit
theorem Good.onR {w : World} {q g kg N : Nat} {vr vw vp : Value} {l : Wl.Lg} {s : Sc.St} (G : Good w q g vr vw l kg vp s N) : Wl.On (Wl.flat s) l.base l.n l.epoch (Wl.frames l.recs) := by rw [← G.lp.pk.ok.is.1]; exact G.on
def txtX : ByteArray := ⟨#[120]⟩
def lg0 : Wl.Lg := opened 0 4 0 []
def lg1 : Wl.Lg := { lg0 with wait := [txtX] }
theorem lg0_room : Wl.room lg0 = 192 := by decide
theorem lg0_add : Wl.addE lg0 txtX = 0 := by decide
theorem lg0_addS : Wl.addS lg0 txtX = lg1 := by unfold Wl.addS; rw [lg0_add, if_pos rfl]; rfl
theorem lg1_room : Wl.room lg1 = 183 := by decide
theorem lg1_many : Wl.many lg1.bytes.size (Wl.all lg1).size = 1 := by
  rw [Wl.all_size]
  decide
set_option maxHeartbeats 4000000 in
set_option maxRecDepth 20000 in
theorem works_any (w : World) (hT : Tab w) : Calls Tryd.prog 16 #[] w fun e w' => e = .returned (.bool true) ∧ Below w.heap.size w w' := by
  have HT : Hid (Tab w) := hT
  have hpos := hT.pos
  clear hT
  go_enter Tryd.func16, Tryd.ntmps16
  go_wp2_with fail
  refine (new_any 4 w (by omega) (by omega)).mono ?_
  rintro e w0 ⟨g, kg, rfl, hD0, hB0, hg, hkg⟩
  have HB0 : Hid (Below w.heap.size w w0) := hB0
  have HD0 : Hid (Dk w0 g kg nil0 (Sc.made 4)) := hD0
  have hs0 := hB0.size
  have HF0 : Hid (∀ k ∈ foot g kg nil0, w.heap.size ≤ k) := fun k hk => by
    simp [foot, Value.ownBlock] at hk
    omega
  have HS0 : Hid (Safe w0 (foot g kg nil0)) := ⟨HT.out.below hB0 hpos, fun hm => by have := HF0.out 0 hm; omega⟩
  clear hB0 hD0 hg hkg
  go_wp2_with fail
  refine (gopen g kg nil0 (Sc.made 4) 0 4 0 4 [] w0 HD0.out (made_up 4) HS0.out (by intro r hr; cases hr) (made_on 4 0 4 (by omega) (by omega))).mono ?_
  rintro e w1 ⟨q, vr, rfl, hG1, hB1, hab1⟩
  have HG1 : Hid (Good w1 q g vr nil0 lg0 kg nil0 (Sc.made 4) 4) := hG1
  have HB1 : Hid (Below w.heap.size w w1) := HB0.out.trans (hB1.mono hs0)
  have HF1 : Hid (∀ k ∈ lfoot q g vr nil0 kg nil0, w.heap.size ≤ k) := fun k hk => by
    rcases List.mem_append.1 hk with h | h
    · have := hab1 k h; omega
    · exact HF0.out k h
  have hs1 := HB1.out.size
  clear hG1 hB1 hab1 HD0 HS0 HF0 HB0
  have HR1 := lroom_any q g vr nil0 lg0 w1 HG1.out.lp.pk
  rw [lg0_room] at HR1
  go_wp2_with fail
  refine HR1.mono ?_
  rintro e w2 ⟨rfl, n2, hw2⟩
  have HG2 : Hid (Good w2 q g vr nil0 lg0 kg nil0 (Sc.made 4) 4) := by rw [hw2]; exact HG1.out.below (below_drewN w1 n2)
  have HB2 : Hid (Below w.heap.size w w2) := by rw [hw2]; exact HB1.out.trans ((below_drewN w1 n2).mono hs1)
  have hs2 := HB2.out.size
  clear HR1 hw2 HG1 HB1
  have HA2 := gadd txtX HG2.out (by decide)
  rw [lg0_add, lg0_addS] at HA2
  go_wp2_with fail
  refine HA2.mono ?_
  rintro e w3 ⟨vr3, vw3, rfl, hG3, hT3⟩
  have HG3 : Hid (Good w3 q g vr3 vw3 lg1 kg nil0 (Sc.made 4) 4) := hG3
  have HB3 : Hid (Below w.heap.size w w3) := HB2.out.trans (hT3.below HF1.out hs2)
  have HF3 : Hid (∀ k ∈ lfoot q g vr3 vw3 kg nil0, w.heap.size ≤ k) := hT3.above HF1.out hs2
  have hs3 := HB3.out.size
  clear HA2 hG3 hT3 HG2 HB2 HF1
  have HR3 := lroom_any q g vr3 vw3 lg1 w3 HG3.out.lp.pk
  rw [lg1_room] at HR3
  go_wp2_with fail
  refine HR3.mono ?_
  rintro e w4 ⟨rfl, n4, hw4⟩
  have HG4 : Hid (Good w4 q g vr3 vw3 lg1 kg nil0 (Sc.made 4) 4) := by rw [hw4]; exact HG3.out.below (below_drewN w3 n4)
  have HB4 : Hid (Below w.heap.size w w4) := by rw [hw4]; exact HB3.out.trans ((below_drewN w3 n4).mono hs3)
  have hs4 := HB4.out.size
  clear HR3 hw4 HG3 HB3
  have HY4 := gsync HG4.out (by decide) (by decide)
  go_wp2_with fail
  refine HY4.mono ?_
  rintro e w5 ⟨vr5, vw5, vp5, s5, rfl, hG5, hT5, _, _, _, _, hdn⟩
  have hd5 := hdn (by decide)
  rw [lg1_many] at hd5
  have hd6 : s5.dn = 4 := hd5
  have HG5 : Hid (Good w5 q g vr5 vw5 (Wl.synced lg1) kg vp5 s5 4) := hG5
  have HB5 : Hid (Below w.heap.size w w5) := HB4.out.trans (hT5.below HF3.out hs4)
  have HF5 : Hid (∀ k ∈ lfoot q g vr5 vw5 kg vp5, w.heap.size ≤ k) := hT5.above HF3.out hs4
  have hs5 := HB5.out.size
  have HD6 : Hid (s5.dn = 4) := hd6
  clear HY4 hG5 hT5 hdn hd5 hd6 HG4 HB4 HF3
  go_wp2_with fail
  refine (gopen g kg vp5 s5 0 4 0 4 [txtX] w5 HG5.out.lp.dk HG5.out.up (HG5.out.safe.of (fun k hk => List.mem_append.2 (.inr hk))) (by intro r hr; rw [List.mem_singleton.1 hr]; decide) HG5.out.onR).mono ?_
  rintro e w6 ⟨q6, vr6, rfl, hG6, hB6, _⟩
  have HG6 : Hid (Good w6 q6 g vr6 nil0 (opened 0 4 0 [txtX]) kg vp5 s5 4) := hG6
  have HB6 : Hid (Below w.heap.size w w6) := HB5.out.trans (hB6.mono hs5)
  have hs6 := HB6.out.size
  clear hG6 hB6 HG5 HB5
  go_wp2_with fail
  refine (lrecords_any q6 g vr6 nil0 _ w6 HG6.out.lp.pk).mono ?_
  rintro e w7 ⟨u7, rfl, hO7, hB7⟩
  have HG7 : Hid (Good w7 q6 g vr6 nil0 (opened 0 4 0 [txtX]) kg vp5 s5 4) := HG6.out.below hB7
  have HB7 : Hid (Below w.heap.size w w7) := HB6.out.trans (hB7.mono hs6)
  have hs7 := HB7.out.size
  obtain ⟨ua, uc, rfl⟩ := own_slice hO7
  rw [show (opened 0 4 0 [txtX]).recs.length = 1 from rfl]
  clear hO7 hB7 HG6 HB6
  go_wp2_with fail
  refine (lrecords_any q6 g vr6 nil0 _ w7 HG7.out.lp.pk).mono ?_
  rintro e w8 ⟨u8, rfl, hO8, hB8⟩
  have HG8 : Hid (Good w8 q6 g vr6 nil0 (opened 0 4 0 [txtX]) kg vp5 s5 4) := HG7.out.below hB8
  have HB8 : Hid (Below w.heap.size w w8) := HB7.out.trans (hB8.mono hs7)
  obtain ⟨ub, uc8, hu8, _, _, hc8⟩ := own_strs hO8
  obtain ⟨g8, rfl, _, hcell⟩ := hc8 (by decide)
  have q8 : w8.cell? ⟨g8, 0, none⟩ = some (.string txtX) := hcell 0 txtX rfl
  rw [show (opened 0 4 0 [txtX]).recs.length = 1 from rfl] at hu8
  subst hu8
  have HDN := done_any g kg vp5 s5 w8 HG8.out.lp.dk
  rw [HD6.out] at HDN
  have hxx : txtX.toList = [120] := by rw [ByteArray.toList_eq]; rfl
  clear hO8 hB8 hc8 hcell HG7 HB7 HG8
  generalize txtX = tx at *
  go_wp2_with fail
  refine HDN.mono ?_
  rintro e w' ⟨rfl, hw⟩
  rw [hw]
  go_wp2
  go_ret
  exact ⟨rfl, HB8.out⟩
def lgB : Wl.Lg := opened 2 16 0 []
set_option maxHeartbeats 4000000 in
set_option maxRecDepth 20000 in
theorem begin_any (w : World) (hT : Tab w) : Calls Tryd.prog 17 #[] w fun e w' => ∃ g kg q vr, e = .returned (.tuple #[ptr g, ptr q]) ∧ Good w' q g vr nil0 lgB kg nil0 (Sc.made 20) 20 ∧ Below w.heap.size w w' ∧ ∀ k ∈ lfoot q g vr nil0 kg nil0, w.heap.size ≤ k := by
  have HT : Hid (Tab w) := hT
  have hpos := hT.pos
  clear hT
  go_enter Tryd.func17, Tryd.ntmps17
  go_wp2_with fail
  refine (new_any 20 w (by omega) (by omega)).mono ?_
  rintro e w0 ⟨g, kg, rfl, hD0, hB0, hg, hkg⟩
  have HB0 : Hid (Below w.heap.size w w0) := hB0
  have HD0 : Hid (Dk w0 g kg nil0 (Sc.made 20)) := hD0
  have hs0 := hB0.size
  have HF0 : Hid (∀ k ∈ foot g kg nil0, w.heap.size ≤ k) := fun k hk => by
    simp [foot, Value.ownBlock] at hk
    omega
  have HS0 : Hid (Safe w0 (foot g kg nil0)) := ⟨HT.out.below hB0 hpos, fun hm => by have := HF0.out 0 hm; omega⟩
  clear hB0 hD0 hg hkg
  go_wp2_with fail
  refine (gopen g kg nil0 (Sc.made 20) 2 16 0 20 [] w0 HD0.out (made_up 20) HS0.out (by intro r hr; cases hr) (made_on 20 2 16 (by omega) (by omega))).mono ?_
  rintro e w1 ⟨q, vr, rfl, hG1, hB1, hab1⟩
  have HFN : Hid (Good w1 q g vr nil0 lgB kg nil0 (Sc.made 20) 20 ∧ Below w.heap.size w w1 ∧ ∀ k ∈ lfoot q g vr nil0 kg nil0, w.heap.size ≤ k) := ⟨hG1, HB0.out.trans (hB1.mono hs0), fun k hk => by
    rcases List.mem_append.1 hk with h | h
    · have := hab1 k h; omega
    · exact HF0.out k h⟩
  clear hG1 hB1 hab1 HD0 HS0 HF0 HB0
  go_wp2
  go_ret2
  exact ⟨g, kg, q, vr, rfl, HFN.out⟩
end Go.Proofs.YtkfgcbpiellimaaDoor
