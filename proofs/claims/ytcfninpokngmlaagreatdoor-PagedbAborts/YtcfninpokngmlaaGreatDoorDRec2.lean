/- Proved: what a database's recall makes of the records of its log. -/
import Derived.Test.YtcfninpokngmlaaGreatDoorDSm
namespace Pd
/- records of pages -/
structure Recs (n cnt : Nat) (rs : List ByteArray) (ms : List Mp) : Prop where
  eq : rs = ms.map (recText n)
  up : ∀ a ∈ ms, Up a
  fine : ∀ a ∈ ms, Fine cnt a
  ne : ∀ a ∈ ms, a ≠ []
def mOf (ms : List Mp) : Mp := ms.foldl copy []
theorem mOf_snoc (ms : List Mp) (a : Mp) : mOf (ms ++ [a]) = copy (mOf ms) a := by
  unfold mOf
  rw [List.foldl_append]
  rfl
theorem mOf_up : ∀ (ms : List Mp) (d : Mp), Up d → Up (ms.foldl copy d)
  | [], _, h => h
  | a :: ms, d, h => mOf_up ms (copy d a) (Up.copy a h)
theorem mOf_fine {cnt : Nat} : ∀ (ms : List Mp) (d : Mp), (∀ a ∈ ms, Fine cnt a) → Fine cnt d → Fine cnt (ms.foldl copy d)
  | [], _, _, h => h
  | a :: ms, d, hm, h => mOf_fine ms (copy d a) (fun b hb => hm b (List.mem_cons_of_mem _ hb)) (fun p hp => by
      rcases copy_keys a d p hp with h1 | h1
      · exact hm a List.mem_cons_self p h1
      · exact h p h1)
theorem fine_length {cnt : Nat} {m : Mp} (hu : Up m) (h : Fine cnt m) : m.length ≤ cnt := by
  have := up_bound (a := 0) (b := cnt) hu (fun p hp => ⟨Nat.zero_le _, (h p hp).1⟩)
  omega
theorem Recs.take {n cnt : Nat} {rs : List ByteArray} {ms : List Mp} (h : Recs n cnt rs ms) (k : Nat) : Recs n cnt (rs.take k) (ms.take k) :=
  ⟨by rw [h.eq, List.map_take], fun a ha => h.up a (List.mem_of_mem_take ha), fun a ha => h.fine a (List.mem_of_mem_take ha), fun a ha => h.ne a (List.mem_of_mem_take ha)⟩
theorem Recs.m {n cnt : Nat} {rs : List ByteArray} {ms : List Mp} (h : Recs n cnt rs ms) : Up (mOf ms) ∧ Fine cnt (mOf ms) := ⟨mOf_up ms [] up_nil, mOf_fine ms [] h.fine (fun _ h => nomatch h)⟩
end Pd
namespace Go.Proofs.YtcfninpokngmlaaGreatDoor
open Go.RowKit
def dbZ (A : Ad) (d : Pd.Db) : Array Value := #[ptr A.g, ptr A.q, .int .i64 (d.n : Int), .int .i64 (d.cnt : Int), .int .i64 0, .int .i64 0, .int .i64 0, .int .i64 0, .int .i64 0, .int .i64 0, .int .i64 0, .map none, nilP, .bool false]
def st0 : Pd.Stt := ⟨0, 0, 0, 0, 0, 0, 0⟩
/- a database as Open lays it, without a map yet -/
structure Dbz (w : World) (A : Ad) (d : Pd.Db) : Prop where
  row : w.heap[A.x]? = some (.cells (dbZ A d) 61 (0, 0))
  lp : LP w A.q A.g A.vr A.vw d.l A.kg A.vp d.s
  safe : Safe w (A.x :: A.lf)
  ax : A.x ∉ A.lf
  st : d.st = st0
  m : d.m = []
  lost : d.lost = false
theorem Dbz.first {w : World} {A : Ad} {d : Pd.Db} (H : Dbz w A d) (hb : A.b = w.heap.size) : Dbw ((w.setCell ⟨A.x, 11, none⟩ (.map (some w.heap.size))).alloc (.map #[] 0)) A nilP d ∧ Turn (A.x :: A.lf) A.ft w ((w.setCell ⟨A.x, 11, none⟩ (.map (some w.heap.size))).alloc (.map #[] 0)) := by
  have hx : A.x < w.heap.size := (Array.getElem?_eq_some_iff.1 H.row).1
  have hsz : (w.setCell ⟨A.x, 11, none⟩ (.map (some w.heap.size))).heap.size = w.heap.size := by simp [World.setCell]
  have hc : Chg [A.x] w ((w.setCell ⟨A.x, 11, none⟩ (.map (some w.heap.size))).alloc (.map #[] 0)) := (Chg.setCell w A.x 11 _).trans (Chg.alloc [A.x] _ _)
  have hlf : ∀ k ∈ A.lf, k < w.heap.size := H.lp.lt
  have hne : A.b ∉ A.x :: A.lf := fun hm => by
    rcases List.mem_cons.1 hm with e | hm
    · omega
    · have := hlf _ hm; omega
  refine ⟨⟨?_, ?_, H.lp.keep hc (fun k hk e => H.ax (by rw [← List.mem_singleton.1 e]; exact hk)), ?_, H.ax, fun hm => hne (List.mem_cons_of_mem _ hm), fun e => hne (by rw [← e]; exact List.mem_cons_self)⟩, ⟨hc.mono (fun k hk => by rw [List.mem_singleton.1 hk]; exact List.mem_cons_self), fun k hk => ?_⟩⟩
  · rw [heap_alloc_old _ _ (by rw [hsz]; exact hx), heap_setCell_same w A.x 11 _ _ _ H.row]
    unfold dbZ dbA
    rw [H.st, H.lost, hb]
    rfl
  · rw [H.m, hb]
    have := MpAt.made (w.setCell ⟨A.x, 11, none⟩ (.map (some w.heap.size)))
    rw [hsz] at this
    exact this
  · refine ⟨H.safe.tab.of_block (hc.block 0 H.safe.tab.pos (fun hm => H.safe.no (by rw [← List.mem_singleton.1 hm]; exact List.mem_cons_self))), fun hm => ?_⟩
    rcases List.mem_cons.1 hm with e | hm
    · exact H.safe.no (by rw [e]; exact List.mem_cons_self)
    · rcases List.mem_cons.1 hm with e | hm
      · have := H.safe.tab.pos; omega
      · exact H.safe.no (List.mem_cons_of_mem _ hm)
  · rcases List.mem_cons.1 hk with e | hk
    · exact .inl (by rw [e]; exact List.mem_cons_self)
    · rcases List.mem_cons.1 hk with e | hk
      · exact .inr (by omega)
      · exact .inl (List.mem_cons_of_mem _ hk)
set_option maxHeartbeats 8000000 in
set_option maxRecDepth 100000 in
theorem recall_any (A : Ad) (d : Pd.Db) (ms : List Pd.Mp) (w : World) (H : Dbz w A d) (hb : A.b = w.heap.size) (hR : Pd.Recs d.n d.cnt d.l.recs ms) (hc : d.cnt ≤ 1000) (hn : d.n < 4294967296) :
    Calls Tryz.prog 56 #[ptr A.x] w fun e w' => e = .returned (.int .i64 0) ∧ Dbw w' A nilP { d with m := Pd.mOf ms } ∧ Turn (A.x :: A.lf) A.ft w w' := by
  have hmm := @run_makeMap Tryz.prog
  obtain ⟨hD0, hT0⟩ := H.first hb
  have hx : A.x < w.heap.size := (Array.getElem?_eq_some_iff.1 H.row).1
  have f11 : w.frozen? ⟨A.x, 11, none⟩ = false := frozen_of_row _ _ _ _ _ H.row
  have g11 : w.cell? ⟨A.x, 11, none⟩ = some (.map none) := by rw [cell_of_row _ _ _ _ _ (0, 0) H.row]; rfl
  have g1w : w.cell? ⟨A.x, 1, none⟩ = some (.pointer (some ⟨A.q, 0, none⟩)) := by rw [cell_of_row _ _ _ _ _ (0, 0) H.row]; rfl
  have HR : Hid (Pd.Recs d.n d.cnt d.l.recs ms) := hR
  have hml : d.l.recs.length = ms.length := by rw [hR.eq, List.length_map]
  have HD0 : Hid (Dbw ((w.setCell ⟨A.x, 11, none⟩ (.map (some w.heap.size))).alloc (.map #[] 0)) A nilP { d with m := Pd.mOf (ms.take 0) }) := by
    have e : ({ d with m := Pd.mOf (ms.take 0) } : Pd.Db) = d := by
      have h1 := H.m
      show ({ d with m := [] } : Pd.Db) = d
      rw [← h1]
    rw [e]
    exact hD0
  have HT0 : Hid (Turn (A.x :: A.lf) A.ft w ((w.setCell ⟨A.x, 11, none⟩ (.map (some w.heap.size))).alloc (.map #[] 0))) := hT0
  clear H hD0 hT0 hR hb
  unfold ptr
  go_enter Tryz.func56, Tryz.ntmps56
  go_wp2_with fail
  generalize hw0 : World.alloc _ _ = w0 at *
  clear hw0 f11 g11 hmm g1w hx
  refine (show Calls _ _ _ _ _ from lrecords_any A.q A.g A.vr A.vw d.l w0 HD0.out.lp.pk).mono ?_
  rintro e w1 ⟨u, rfl, hO, hB1⟩
  have HD1 : Hid (Dbw w1 A nilP { d with m := Pd.mOf (ms.take 0) }) := HD0.out.below hB1
  have HT1 : Hid (Turn (A.x :: A.lf) A.ft w w1) := HT0.out.trans (Turn.of_below hB1)
  have HOW : Hid (OwnS w1 w0.heap.size u d.l.recs) := hO
  have HLT : Hid (∀ k ∈ A.ft, k < w0.heap.size) := HD0.out.lt
  obtain ⟨ua, uc, hu, _, _, hucell⟩ := own_strs hO
  have HUC : Hid (0 < d.l.recs.length → ∃ g, ua = some ⟨g, 0, none⟩ ∧ u.ownBlock = some g ∧ ∀ i r, d.l.recs[i]? = some r → w1.cell? ⟨g, i, none⟩ = some (.string r)) := hucell
  subst hu
  clear hO hB1 HD0 HT0 hucell
  go_wp2_with fail
  go_loopw [17] (fun s17 wr => ∃ k : Nat, k ≤ d.l.recs.length ∧ s17 = .int .i64 (k : Int) ∧ Dbw wr A nilP { d with m := Pd.mOf (ms.take k) } ∧ Turn A.ft A.ft w1 wr) (fun s17 _ => d.l.recs.length - (intOf s17).toNat)
  case atStart => exact ⟨0, by omega, rfl, HD1.out, Turn.refl _ _⟩
  case round =>
    obtain ⟨k, hk, rfl, hD, hT⟩ := hrel
    have HD : Hid (Dbw wr A nilP { d with m := Pd.mOf (ms.take k) }) := hD
    have HT : Hid (Turn A.ft A.ft w1 wr) := hT
    clear hD hT
    by_cases hkl : k < d.l.recs.length
    · obtain ⟨g2, rfl, hgb, hcell⟩ := HUC.out (by omega)
      obtain ⟨a, ha⟩ : ∃ a, ms[k]? = some a := ⟨_, List.getElem?_eq_getElem (by omega)⟩
      have ham : a ∈ ms := List.mem_of_getElem? ha
      have hrk : d.l.recs[k]? = some (Pd.recText d.n a) := by rw [HR.out.eq, List.getElem?_map, ha]; rfl
      have hub := HR.out.up a ham
      have hfb := HR.out.fine a ham
      have hal := Pd.fine_length hub hfb
      have hg2 : g2 ∉ A.ft ∧ g2 < w1.heap.size := by
        have h3 := HOW.out.lt g2 hgb
        exact ⟨fun hm => by have h4 := HLT.out g2 hm; omega, h3.2⟩
      have q1 : wr.cell? ⟨g2, k, none⟩ = some (.string (Pd.recText d.n a)) := (World.cell?_of_block (HT.out.chg.block g2 hg2.2 hg2.1)).trans (hcell k _ hrk)
      have q2 : wr.cell? ⟨A.x, 2, none⟩ = some (.int .i64 (d.n : Int)) := HD.out.c2
      have q3 : wr.cell? ⟨A.x, 3, none⟩ = some (.int .i64 (d.cnt : Int)) := HD.out.c3
      have dk : decide ((k : Int) < (d.l.recs.length : Int)) = true := decide_eq_true (by omega)
      have k0 : (0 : Int) ≤ (k : Int) := by omega
      have k1 : (k : Int) < (d.l.recs.length : Int) := by omega
      have HTK : Hid (Pd.mOf (ms.take (k + 1)) = Pd.copy (Pd.mOf (ms.take k)) a) := by
        show _ = _
        obtain ⟨hkm, e⟩ := List.getElem?_eq_some_iff.1 ha
        rw [List.take_succ_eq_append_getElem hkm, e, Pd.mOf_snoc]
      have hMk := (HR.out.take k).m
      have hMl := Pd.fine_length hMk.1 hMk.2
      have HRR : Hid (∀ U, Tab U → Calls Tryz.prog 75 #[.string (Pd.recText d.n a), .int .i64 (d.n : Int), .int .i64 (d.cnt : Int)] U fun e w' => e = .returned (.tuple #[.map (some U.heap.size), .bool true]) ∧ MpAt w' U.heap.size a ∧ Below U.heap.size U w') := fun U hU => rrec_any d.n d.cnt a U hfb hub hn hc (by omega) hU
      have hka : ∀ p ∈ a, p.1 ≤ 1000000 := fun p hp => by have := (hfb p hp).1; omega
      have HKA : Hid ((∀ p ∈ a, p.1 ≤ 1000000) ∧ (Pd.mOf (ms.take k)).length + a.length ≤ 100000) := ⟨hka, by omega⟩
      have HS : Hid ((fun U : World => U.cell? ⟨A.x, 2, none⟩ = some (.int .i64 (d.n : Int)) ∧ U.cell? ⟨A.x, 3, none⟩ = some (.int .i64 (d.cnt : Int))) wr) := ⟨q2, q3⟩
      clear ha ham hrk hub hfb hal hg2 hcell hgb q2 q3 hMk hMl hka
      generalize hX : Pd.recText d.n a = X at *
      clear hX
      go_wp2_with fail
      refine wp_region_held_drew (S := fun U : World => U.cell? ⟨A.x, 2, none⟩ = some (.int .i64 (d.n : Int)) ∧ U.cell? ⟨A.x, 3, none⟩ = some (.int .i64 (d.cnt : Int))) (by kernel_rfl) HS.out (fun _ => ?_)
      refine heldTake 0 (some 22) (.string X) rfl rfl (by kernel_rfl) (by kernel_rfl) (by kernel_rfl) (fun _ _ _ h => h) (Or.inl ⟨by rfl, fun w hS => ?_⟩) HS.out ?_
      · (go_simp)
      simp only [Act.put, List.setIfInBounds_toArray, List.set_cons_zero, List.set_cons_succ]
      refine heldTake 1 (some 23) (.pointer (some ⟨A.x, 0, none⟩)) rfl rfl (by kernel_rfl) (by kernel_rfl) (by kernel_rfl) (fun _ _ _ h => h) (Or.inl ⟨by rfl, fun w hS => ?_⟩) HS.out ?_
      · (go_simp)
      simp only [Act.put, List.setIfInBounds_toArray, List.set_cons_zero, List.set_cons_succ]
      refine heldTake 2 (some 24) (.pointer (some ⟨A.x, 0, none⟩)) rfl rfl (by kernel_rfl) (by kernel_rfl) (by kernel_rfl) (fun _ _ _ h => h) (Or.inl ⟨by rfl, fun w hS => ?_⟩) HS.out ?_
      · (go_simp)
      simp only [Act.put, List.setIfInBounds_toArray, List.set_cons_zero, List.set_cons_succ]
      refine heldTake 3 (some 25) (.pointer (some ⟨A.x, 2, none⟩)) rfl rfl (by kernel_rfl) (by kernel_rfl) (by kernel_rfl) (fun _ _ _ h => h) (Or.inl ⟨by rfl, fun w hS => ?_⟩) HS.out ?_
      · (go_simp)
      simp only [Act.put, List.setIfInBounds_toArray, List.set_cons_zero, List.set_cons_succ]
      refine heldTake 4 (some 26) (.int .i64 (d.n : Int)) rfl rfl (by kernel_rfl) (by kernel_rfl) (by kernel_rfl) (fun _ _ _ h => h) (Or.inl ⟨by rfl, fun w hS => ?_⟩) HS.out ?_
      · (obtain ⟨p0, p1⟩ := hS; go_simp)
      simp only [Act.put, List.setIfInBounds_toArray, List.set_cons_zero, List.set_cons_succ]
      refine heldTake 5 (some 27) (.pointer (some ⟨A.x, 0, none⟩)) rfl rfl (by kernel_rfl) (by kernel_rfl) (by kernel_rfl) (fun _ _ _ h => h) (Or.inl ⟨by rfl, fun w hS => ?_⟩) HS.out ?_
      · (go_simp)
      simp only [Act.put, List.setIfInBounds_toArray, List.set_cons_zero, List.set_cons_succ]
      refine heldTake 6 (some 28) (.pointer (some ⟨A.x, 0, none⟩)) rfl rfl (by kernel_rfl) (by kernel_rfl) (by kernel_rfl) (fun _ _ _ h => h) (Or.inl ⟨by rfl, fun w hS => ?_⟩) HS.out ?_
      · (go_simp)
      simp only [Act.put, List.setIfInBounds_toArray, List.set_cons_zero, List.set_cons_succ]
      refine heldTake 7 (some 29) (.pointer (some ⟨A.x, 3, none⟩)) rfl rfl (by kernel_rfl) (by kernel_rfl) (by kernel_rfl) (fun _ _ _ h => h) (Or.inl ⟨by rfl, fun w hS => ?_⟩) HS.out ?_
      · (go_simp)
      simp only [Act.put, List.setIfInBounds_toArray, List.set_cons_zero, List.set_cons_succ]
      refine heldTake 8 (some 30) (.int .i64 (d.cnt : Int)) rfl rfl (by kernel_rfl) (by kernel_rfl) (by kernel_rfl) (fun _ _ _ h => h) (Or.inl ⟨by rfl, fun w hS => ?_⟩) HS.out ?_
      · (obtain ⟨p0, p1⟩ := hS; go_simp)
      simp only [Act.put, List.setIfInBounds_toArray, List.set_cons_zero, List.set_cons_succ]
      refine heldOne 9 (by kernel_rfl) rfl (by rfl) (fun KK hK => ?_)
      go_simp
      go_at_call 75
      refine (HRR.out wr.drew HD.out.drew.tab).mono ?_
      rintro e y1 ⟨rfl, hM1, hB1⟩
      have hB1' := below_drew hB1
      have HD1 : Hid (Dbw y1 A nilP { d with m := Pd.mOf (ms.take k) }) := HD.out.below hB1'
      have HT1 : Hid (Turn A.ft A.ft w1 y1) := HT.out.trans (Turn.of_below hB1')
      have HM1 : Hid (MpAt y1 wr.heap.size a) := hM1
      have HNE : Hid (A.b ≠ wr.heap.size) := fun e => by have h5 := HD.out.mp.lt; omega
      have HS1 : Hid ((fun U : World => U.cell? ⟨A.x, 2, none⟩ = some (.int .i64 (d.n : Int)) ∧ U.cell? ⟨A.x, 3, none⟩ = some (.int .i64 (d.cnt : Int))) y1) := ⟨HD1.out.c2, HD1.out.c3⟩
      clear hB1 hB1' hM1 HRR HD HT q1
      refine hK.out _ _ HS1.out ?_
      clear hK KK
      have hdr : wr.drew.heap.size = wr.heap.size := rfl
      refine heldTake 10 (some 21) (.tuple #[.map (some wr.heap.size), .bool true]) rfl rfl (by kernel_rfl) (by kernel_rfl) (by kernel_rfl) (fun _ _ _ h => h) (Or.inl ⟨by rfl, fun w hS => ?_⟩) HS1.out ?_
      · (go_simp)
      simp only [Act.put, List.setIfInBounds_toArray, List.set_cons_zero, List.set_cons_succ]
      refine heldTake 11 (some 32) (.map (some wr.heap.size)) rfl rfl (by kernel_rfl) (by kernel_rfl) (by kernel_rfl) (fun _ _ _ h => h) (Or.inl ⟨by rfl, fun w hS => ?_⟩) HS1.out ?_
      · (go_simp)
      simp only [Act.put, List.setIfInBounds_toArray, List.set_cons_zero, List.set_cons_succ]
      refine heldTake 12 (some 33) (.bool true) rfl rfl (by kernel_rfl) (by kernel_rfl) (by kernel_rfl) (fun _ _ _ h => h) (Or.inl ⟨by rfl, fun w hS => ?_⟩) HS1.out ?_
      · (go_simp)
      simp only [Act.put, List.setIfInBounds_toArray, List.set_cons_zero, List.set_cons_succ]
      refine heldTake 13 (some 5) (.map (some wr.heap.size)) rfl rfl (by kernel_rfl) (by kernel_rfl) (by kernel_rfl) (fun _ _ _ h => h) (Or.inl ⟨by rfl, fun w hS => ?_⟩) HS1.out ?_
      · (go_simp)
      simp only [Act.put, List.setIfInBounds_toArray, List.set_cons_zero, List.set_cons_succ]
      refine heldTake 14 (some 6) (.bool true) rfl rfl (by kernel_rfl) (by kernel_rfl) (by kernel_rfl) (fun _ _ _ h => h) (Or.inl ⟨by rfl, fun w hS => ?_⟩) HS1.out ?_
      · (go_simp)
      simp only [Act.put, List.setIfInBounds_toArray, List.set_cons_zero, List.set_cons_succ]
      refine wpAnyH_done (by kernel_rfl) ?_ _
      clear hdr
      have c11 : y1.cell? ⟨A.x, 11, none⟩ = some (.map (some A.b)) := HD1.out.c11
      go_wp2_with fail
      refine (show Calls _ _ _ _ _ from mcopy_any A.b wr.heap.size (Pd.mOf (ms.take k)) a y1 HD1.out.mp HM1.out HNE.out HKA.out.2 HKA.out.1).mono ?_
      rintro e y2 ⟨rfl, hM2, hg2⟩
      rw [← HTK.out] at hM2
      obtain ⟨hD2, hT2⟩ := HD1.out.map hM2 hg2
      have HD2 : Hid (Dbw y2 A nilP { d with m := Pd.mOf (ms.take (k + 1)) }) := hD2
      have HT2 : Hid (Turn A.ft A.ft w1 y2) := HT1.out.trans hT2
      clear hD2 hT2 hM2 hg2 HD1 HT1 HM1 c11
      go_wp2
      go_roundw
      case rel => exact ⟨k + 1, by omega, by go_num, HD2.out, HT2.out⟩
      case measure => (simp [intOf]) <;> omega
    · obtain rfl : k = d.l.recs.length := by omega
      have dk : decide ((d.l.recs.length : Int) < (d.l.recs.length : Int)) = false := decide_eq_false (by omega)
      have HFN : Hid (Dbw wr A nilP { d with m := Pd.mOf ms } ∧ Turn (A.x :: A.lf) A.ft w wr) := by
        have e : ms.take d.l.recs.length = ms := by rw [hml, List.take_length]
        have h3 := HD.out
        rw [e] at h3
        exact ⟨h3, HT1.out.trans HT.out⟩
      go_wp2
      go_ret
      exact ⟨rfl, HFN.out⟩
end Go.Proofs.YtcfninpokngmlaaGreatDoor
