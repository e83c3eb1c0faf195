/- Proved: what pagedb's readRecord answers of a record of pages. -/
import Derived.Test.YtcfninpokngmlaaGreatDoorDRtx
namespace Pd
theorem set_last : ∀ {a : Mp} {p : Nat × Sheet}, Up (a ++ [p]) → set a p.1 p.2 = a ++ [p]
  | [], _, _ => rfl
  | q :: a, p, h => by
    have h1 := (List.pairwise_cons.1 h).1 p (List.mem_append.2 (.inr List.mem_cons_self))
    have h2 : Up (a ++ [p]) := (List.pairwise_cons.1 h).2
    unfold set
    rw [if_neg (by omega), if_neg (by omega), set_last h2]
    rfl
theorem up_take {m : Mp} (h : Up m) (k : Nat) : Up (m.take k) := List.Pairwise.sublist (List.take_sublist k m) h
theorem set_take {m : Mp} (h : Up m) {k : Nat} {p : Nat × Sheet} (hp : m[k]? = some p) : set (m.take k) p.1 p.2 = m.take (k + 1) := by
  obtain ⟨hk, e⟩ := List.getElem?_eq_some_iff.1 hp
  have e2 : m.take (k + 1) = m.take k ++ [p] := by rw [List.take_succ_eq_append_getElem hk, e]
  rw [e2]
  exact set_last (by rw [← e2]; exact up_take h (k + 1))
end Pd
namespace Go.Proofs.YtcfninpokngmlaaGreatDoor
open Go.RowKit
def strLen : Value → Nat
  | .string s => s.size
  | _ => 0
set_option maxHeartbeats 4000000 in
set_option maxRecDepth 100000 in
theorem rrec_any (n cnt : Nat) (m : Pd.Mp) (w : World) (hF : Pd.Fine cnt m) (hu : Pd.Up m) (hn : n < 4294967296) (hc : cnt ≤ 1000) (hl : m.length ≤ 1000) (hT : Tab w) :
    Calls Tryz.prog 75 #[.string (Pd.recText n m), .int .i64 (n : Int), .int .i64 (cnt : Int)] w fun e w' => e = .returned (.tuple #[.map (some w.heap.size), .bool true]) ∧ MpAt w' w.heap.size m ∧ Below w.heap.size w w' := by
  have hmm := @run_makeMap Tryz.prog
  have hpos := hT.pos
  have HM : Hid (Pd.Fine cnt m ∧ Pd.Up m ∧ Tab w) := ⟨hF, hu, hT⟩
  have hsz := Pd.recText_size (n := n) hF
  have hr1 : ((Pd.recText n m).size : Int).tmod 516 = 4 := by
    rw [hsz, Int.tmod_eq_emod_of_nonneg (by omega)]
    omega
  have hr2 : (4 : Int) ≤ ((Pd.recText n m).size : Int) := by omega
  have HN0 : Hid (∀ W, Calls Tryz.prog 102 #[.string (Pd.recText n m)] W fun e w' => e = .returned (.int .i64 (n : Int)) ∧ w' = W) := fun W => by
    have h1 := dnumber_any (Pd.recText n m) W (by omega)
    have h2 : Pd.numb (Pd.recText n m) = n := Pd.numb_put n _ hn
    rw [h2] at h1
    exact h1
  have hex : (Pd.recText n m).extract 4 (Pd.recText n m).size = Pd.entries (m.drop 0) := Pd.ext_right (Wl.put_size n 4) rfl
  have HMP0 : Hid (MpAt (w.alloc (.map #[] 0)) w.heap.size (m.take 0)) := MpAt.made w
  have HB0 : Hid (Below w.heap.size w (w.alloc (.map #[] 0))) := (Below.refl _ _).alloc (Nat.le_refl _) _
  clear hF hu hT hsz
  generalize Pd.recText n m = rec at *
  go_enter Tryz.func75, Tryz.ntmps75
  go_wp2_with fail
  refine (HN0.out _).mono ?_
  rintro e wS ⟨rfl, hwS⟩
  rw [hwS]
  clear hwS wS HN0
  go_wp2_with fail
  clear hmm hr1 hr2 hex
  generalize hw0 : World.alloc w _ = w0 at *
  clear hw0
  go_loopw [9] (fun s9 wr => ∃ k : Nat, k ≤ m.length ∧ s9 = .string (Pd.entries (m.drop k)) ∧ MpAt wr w.heap.size (m.take k) ∧ Below w.heap.size w wr) (fun s9 _ => strLen s9)
  case atStart => exact ⟨0, by omega, rfl, HMP0.out, HB0.out⟩
  case round =>
    obtain ⟨k, hk, rfl, hMk, hB⟩ := hrel
    have HMk : Hid (MpAt wr w.heap.size (m.take k)) := hMk
    have HB : Hid (Below w.heap.size w wr) := hB
    clear hMk hB HMP0 HB0
    by_cases hkl : k < m.length
    · obtain ⟨p, hp⟩ : ∃ p, m[k]? = some p := ⟨_, List.getElem?_eq_getElem hkl⟩
      have hpm : p ∈ m := List.mem_of_getElem? hp
      have hpf := HM.out.1 p hpm
      have hdr : m.drop k = p :: m.drop (k + 1) := by
        rw [List.drop_eq_getElem_cons hkl]
        exact congrArg (· :: _) (List.getElem?_eq_some_iff.1 hp).2
      have hfd : Pd.Fine cnt (m.drop k) := fun q hq => HM.out.1 q (List.mem_of_mem_drop hq)
      have hst := Pd.set_take HM.out.2.1 hp
      rw [hdr] at hfd
      have hR := Pd.read_entry hfd hc
      have hsz := Pd.entries_size hfd
      have hsz2 := Pd.entries_size (m := m.drop (k + 1)) (fun q hq => hfd q (List.mem_cons_of_mem _ hq))
      rw [List.length_cons] at hsz
      have HOP : Hid (∀ W, Tab W → Calls Tryz.prog 83 #[.int .i64 (p.1 : Int), .string (Pd.pageOf p.1 p.2)] W fun e w' => e = .returned (.tuple #[.int .i64 (p.2.kind : Int), .string p.2.body, .int .i64 0]) ∧ Below W.heap.size W w') := fun W hW => by
        have h1 := pg_open_any (p.1 : Int) (Pd.pageOf p.1 p.2) W hW
        obtain ⟨e1, e2, e3⟩ := Pd.pageOf_open (i := p.1) hpf.2 (by have := hpf.1; omega)
        rw [e1, e2, e3] at h1
        exact h1
      have HNU : Hid (∀ W, Calls Tryz.prog 102 #[.string (Pd.entries (m.drop k))] W fun e w' => e = .returned (.int .i64 (p.1 : Int)) ∧ w' = W) := fun W => by
        rw [hdr]
        have h1 := dnumber_any (Pd.entries (p :: m.drop (k + 1))) W (by have := hR.ne; omega)
        rw [hR.id] at h1
        exact h1
      have hx1 : (Pd.entries (m.drop k)).extract 4 516 = Pd.pageOf p.1 p.2 := by rw [hdr]; exact hR.page
      have hx2 : (Pd.entries (m.drop k)).extract 516 (Pd.entries (m.drop k)).size = Pd.entries (m.drop (k + 1)) := by rw [hdr]; exact hR.rest
      have hx3 : (516 : Int) ≤ ((Pd.entries (m.drop k)).size : Int) := by rw [hdr]; have := hR.ne; omega
      have hx4 : (Pd.entries (m.drop k)).toList.isEmpty = false := not_empty (by rw [hdr]; have := hR.ne; omega)
      have HLT : Hid ((Pd.entries (m.drop (k + 1))).size < (Pd.entries (m.drop k)).size) := by show _ < _; rw [hdr, hsz, hsz2]; omega
      have hle : decide ((cnt : Int) ≤ (p.1 : Int)) = false := decide_eq_false (by have := hpf.1; omega)
      have hpc := hpf.1
      have HST : Hid (Pd.set (m.take k) p.1 p.2 = m.take (k + 1)) := hst
      have htl : (m.take k).length ≤ 100000 := by rw [List.length_take]; omega
      clear hp hpm hpf hdr hfd hst hR hsz hsz2
      generalize Pd.entries (m.drop k) = X at *
      generalize hY : Pd.entries (m.drop (k + 1)) = Y at *
      have HY : Hid (Pd.entries (m.drop (k + 1)) = Y) := hY
      clear hY
      generalize Pd.pageOf p.1 p.2 = pg at *
      go_wp2_with fail
      refine (HNU.out _).mono ?_
      rintro e wS ⟨rfl, hwS⟩
      rw [hwS]
      clear hwS wS HNU
      go_wp2_with fail
      refine (HOP.out wr (HM.out.2.2.below HB.out hpos)).mono ?_
      rintro e u1 ⟨rfl, hB1⟩
      have HM1 : Hid (MpAt u1 w.heap.size (m.take k)) := HMk.out.below hB1
      have HB1 : Hid (Below w.heap.size w u1) := below_next HB.out hB1 HB.out.size
      clear hB1 HOP HMk HB
      go_wp2_with (at_mapUpdate; refine mp_put _ rfl _ _ _ rfl w.heap.size (m.take k) rfl HM1.out htl p.1 (by omega) rfl p.2 rfl ?_; intro u2 hM2 hg2; rw [HST.out] at hM2; go_frame)
      have HM2 : Hid (MpAt u2 w.heap.size (m.take (k + 1))) := hM2
      have HB2 : Hid (Below w.heap.size w u2) := HB1.out.grown hg2 HB1.out.size (fun j hj => by cases hj; exact Nat.le_refl _)
      clear hM2 hg2 HM1 HB1
      go_wp2
      go_roundw
      case rel => exact ⟨k + 1, by omega, by rw [HY.out], HM2.out, HB2.out⟩
      case measure => exact HLT.out
    · obtain rfl : k = m.length := by omega
      have hx4 : (Pd.entries (m.drop m.length)).toList.isEmpty = true := is_empty (by rw [List.drop_length]; rfl)
      rw [List.take_length] at HMk
      generalize Pd.entries (m.drop m.length) = X at *
      go_wp2
      go_ret2
      exact ⟨rfl, HMk.out, HB.out⟩
end Go.Proofs.YtcfninpokngmlaaGreatDoor
