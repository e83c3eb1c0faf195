/- Proved: what wal's readFrames tells of frames. -/
import Derived.Test.YtcfninpokngmlaaGreatDoorPStr
import Derived.BigQuiet
namespace Go.Proofs.YtcfninpokngmlaaGreatDoor
open Go.RowKit
theorem str_at {w : World} {b off : Nat} {x : ByteArray} (h : w.rangeAt b off (bc x)) (cap : Nat) : (convert 138 9 (.slice (some ⟨b, off, none⟩) x.size cap)).run Tryz.prog w = .ok (.string x) w := by
  have e := run_convert_bytes_back (P := Tryz.prog) w 138 9 5 ⟨b, off, none⟩ cap x.data.toList Tryz.underlying138 Tryz.underlying5 Tryz.underlying9 (fun j hj => by
    rw [Addr.add_mid]
    exact h j _ (by rw [bc, List.getElem?_map, List.getElem?_eq_getElem hj]; rfl))
  rw [← Sc.size_eq] at e
  exact e
theorem range_app {w : World} {g o : Nat} {a b : List Value} (h : w.rangeAt g o (a ++ b)) : w.rangeAt g o a ∧ w.rangeAt g (o + a.length) b := by
  refine ⟨fun j u hu => h j u ?_, fun j u hu => ?_⟩
  · rw [List.getElem?_append_left (List.getElem?_eq_some_iff.1 hu).1]; exact hu
  · have := h (a.length + j) u (by rw [List.getElem?_append_right (by omega), Nat.add_sub_cancel_left]; exact hu)
    rwa [← Nat.add_assoc] at this
theorem bytes_range {w : World} {g o : Nat} {x : ByteArray} (h : w.rangeAt g o (bc x)) (hx : x.size ≤ 9223372036854775807) : Bytes w (some ⟨g, o, none⟩) x.size (Wl.nb x) := by
  refine ⟨by rw [Wl.nb, List.length_map, ← Sc.size_eq], Wl.nb_lt x, hx, .inr ⟨g, o, rfl, fun i hi => ?_⟩⟩
  have hil : i < x.data.toList.length := by rw [← Sc.size_eq]; exact hi
  rw [h i (.int .u8 ((x.data.toList[i].toNat : Nat) : Int)) (by rw [bc, List.getElem?_map, List.getElem?_eq_getElem hil]; rfl), Wl.nb, List.getD_eq_getElem?_getD, List.getElem?_map, List.getElem?_eq_getElem hil]
  rfl
theorem own_range {w : World} {N : Nat} {v : Value} {y : ByteArray} (h : OwnB w N v y) : ∃ a c, v = .slice a y.size c ∧ y.size ≤ c ∧ c ≤ 9223372036854775807 ∧ (0 < y.size → ∃ g, a = some ⟨g, 0, none⟩ ∧ N ≤ g ∧ g < w.heap.size ∧ w.rangeAt g 0 (bc y)) := by
  rcases h.2 with ⟨h1, h2⟩ | ⟨g, cap, cur, hv, hN, hh, hc, hm, hs, ht⟩
  · exact ⟨none, 0, by rw [h2]; exact h1, by omega, by omega, fun h => by omega⟩
  · unfold maxLen at hm
    refine ⟨_, cap, hv, hc, by omega, fun _ => ⟨g, rfl, hN, (Array.getElem?_eq_some_iff.1 hh).1, fun j u hu => ?_⟩⟩
    have hj := (List.getElem?_eq_some_iff.1 hu).1
    rw [bc_length] at hj
    rw [Nat.zero_add, cell_of_row w g _ cur _ (0, 0) hh, ← Array.getElem?_toList]
    rw [← ht, List.getElem?_take_of_lt (by omega)] at hu
    exact hu
/- the bytes that lie at off: these frames, if any are left -/
def Rest (N : Nat) (w : World) (v : Value) (rs : List ByteArray) : Prop := ∃ a c, v = .slice a (Wl.total rs) c ∧ Wl.total rs ≤ c ∧ c ≤ 9223372036854775807 ∧ (0 < Wl.total rs → ∃ g off, a = some ⟨g, off, none⟩ ∧ g < N ∧ w.rangeAt g off (bc (Wl.frames rs)))
theorem below_drewN (w : World) (n : Nat) : Below w.heap.size w (w.drewN n) := ⟨rfl, rfl, rfl, Nat.le_refl _, fun _ _ => rfl⟩
set_option maxHeartbeats 4000000 in
set_option maxRecDepth 20000 in
theorem readFrames_any (v : Value) (rs : List ByteArray) (w : World) (hR : Rest w.heap.size w v rs) (hT : Tab w) (hf : Wl.Fit rs) (ht : Wl.total rs ≤ 5000000) :
    Calls Tryz.prog 99 #[v] w fun e w' => ∃ u, e = .returned (.tuple #[u, .bool true]) ∧ w'.ownsRow w.heap.size 9 1 u rs.length (rs.map Value.string) ∧ Below w.heap.size w w' := by
  have hpos := hT.pos
  have HT : Hid (Tab w) := hT
  have HR : Hid (Rest w.heap.size w v rs) := hR
  have HF : Hid (Wl.Fit rs) := hf
  clear hT hR hf
  go_enter Tryz.func99, Tryz.ntmps99
  go_wp2_with fail
  go_loopw [0, 2, 4, 5, 6, 7, 8] (fun s0 s2 _ _ _ _ _ wr => ∃ (ds t : List ByteArray), rs = ds ++ t ∧ Rest w.heap.size wr s0 t ∧ wr.ownsRow w.heap.size 9 1 s2 ds.length (ds.map Value.string) ∧ Below w.heap.size w wr) (fun s0 _ _ _ _ _ _ _ => match s0 with | .slice _ n _ => n | _ => 0)
  case atStart => exact ⟨[], rs, rfl, HR.out, World.ownsRow_nil _ _ _ _, Below.refl _ _⟩
  case round =>
    obtain ⟨ds, t, hrs, hRt, hO, hB⟩ := hrel
    obtain ⟨a, c, rfl, hc1, hc2, hcell⟩ := hRt
    have HO := (show Hid (wr.ownsRow w.heap.size 9 1 _ ds.length (ds.map Value.string)) from hO)
    have HB : Hid (Below w.heap.size w wr) := hB
    have HRS : Hid (rs = ds ++ t) := hrs
    have hsz := hB.size
    have htd : Wl.total ds + Wl.total t = Wl.total rs := by rw [hrs, Wl.total_append]
    have hdl := Wl.total_count ds
    clear hrs hO hB HR
    cases t with
    | nil =>
      have hd : decide ((0 : Int) < ((Wl.total [] : Nat) : Int)) = false := by decide
      have hd2 : ¬ 0 < Wl.total [] := by decide
      have HFN : Hid (∀ u, wr.ownsRow w.heap.size 9 1 u ds.length (ds.map Value.string) → wr.ownsRow w.heap.size 9 1 u rs.length (rs.map Value.string)) := fun u h => by rw [HRS.out, List.append_nil]; exact h
      clear hcell htd
      generalize Wl.total [] = m at *
      go_wp2
      go_ret2
      exact ⟨_, rfl, HFN.out _ HO.out, HB.out⟩
    | cons r t =>
      have hte : Wl.total (r :: t) = 8 + r.size + Wl.total t := rfl
      rw [hte] at hc1 hcell htd ⊢
      obtain ⟨g, off, rfl, hgN, hrg⟩ := hcell (by omega)
      have hrs : r.size ≤ 65536 := HF.out r (by rw [HRS.out]; simp)
      have hfr : bc (Wl.frames (r :: t)) = bc (Wl.put r.size 4) ++ (bc (Wl.sum4 (Wl.put r.size 4 ++ r)) ++ (bc r ++ bc (Wl.frames t))) := by
        rw [Wl.frames, bc_append]
        unfold Wl.frame
        rw [bc_append, bc_append, List.append_assoc, List.append_assoc]
      rw [hfr] at hrg
      obtain ⟨hR1, hrg⟩ := range_app hrg
      obtain ⟨hR2, hrg⟩ := range_app hrg
      obtain ⟨hR3, hR4⟩ := range_app hrg
      rw [bc_length, Wl.put_size] at hR2
      rw [bc_length, Wl.put_size, bc_length, Wl.sum4_size] at hR3
      rw [bc_length, Wl.put_size, bc_length, Wl.sum4_size, bc_length] at hR4
      have HR1 : Hid (wr.rangeAt g off (bc (Wl.put r.size 4))) := hR1
      have HR2 : Hid (wr.rangeAt g (off + 4) (bc (Wl.sum4 (Wl.put r.size 4 ++ r)))) := hR2
      have HR3 : Hid (wr.rangeAt g (off + 4 + 4) (bc r)) := hR3
      have HR4 : Hid (wr.rangeAt g (off + 4 + 4 + r.size) (bc (Wl.frames t))) := hR4
      clear hR1 hR2 hR3 hR4 hrg hfr hcell hte
      generalize hm : Wl.total t = m at *
      generalize hn : r.size = n at *
      have hlt : decide ((0 : Int) < ((8 + n + m : Nat) : Int)) = true := decide_eq_true (by omega)
      have hlt2 : 0 < 8 + n + m := by omega
      have hl8 : ¬ (((8 + n + m : Nat) : Int) < 8) := by omega
      have hl8' : ¬ 8 + n + m < 8 := by omega
      have hc4 : (4 : Int) ≤ (c : Int) := by omega
      have hc8 : (8 : Int) ≤ (c : Int) := by omega
      have hd8 : (8 : Int) ≤ ((8 + n + m : Nat) : Int) := by omega
      go_wp2_with fail
      go_quiet (fail)
      obtain ⟨o8, hA8, ho8, ho8'⟩ : ∃ o8, (if c = 8 then some (⟨g, off, none⟩ : Addr) else some ⟨g, off + 8, none⟩) = some ⟨g, o8, none⟩ ∧ (0 < n + m → o8 = off + 8) ∧ o8 ≤ off + 8 := by
        by_cases h : c = 8
        · exact ⟨off, by rw [if_pos h], fun h0 => by omega, by omega⟩
        · exact ⟨off + 8, by rw [if_neg h], fun _ => rfl, by omega⟩
      rw [hA8, show 8 + n + m - 8 = n + m by omega]
      have HBq : Hid (Below w.heap.size w (wr.drewN nq)) := HB.out.trans ((below_drewN wr nq).mono hsz)
      have HOq := (show Hid ((wr.drewN nq).ownsRow w.heap.size 9 1 _ ds.length (ds.map Value.string)) from own_keep HO.out (fun _ _ => rfl))
      have HQ1 : Hid ((wr.drewN nq).rangeAt g off (bc (Wl.put n 4))) := HR1.out
      have HQ2 : Hid ((wr.drewN nq).rangeAt g (off + 4) (bc (Wl.sum4 (Wl.put n 4 ++ r)))) := HR2.out
      have HQ3 : Hid ((wr.drewN nq).rangeAt g o8 (bc r)) := by
        by_cases h0 : 0 < n + m
        · rw [ho8 h0]; exact HR3.out
        · intro j u hu
          have := (List.getElem?_eq_some_iff.1 hu).1
          rw [bc_length] at this
          omega
      have HQ4 : Hid (0 < m → (wr.drewN nq).rangeAt g (o8 + n) (bc (Wl.frames t))) := fun h0 => by
        rw [ho8 (by omega)]; exact HR4.out
      have hsq : Hid ((wr.drewN nq).heap.size = wr.heap.size) := rfl
      generalize wr.drewN nq = W at *
      clear HR1 HR2 HR3 HR4 HO HB hA8 hc4 hc8 hd8 hl8 hl8' hlt hlt2
      have hTW := HT.out.below HBq.out hpos
      have hb1 := bytes_range HQ1.out (by rw [Wl.put_size]; omega)
      have hb2 := bytes_range HQ2.out (by rw [Wl.sum4_size]; omega)
      have hb3 := bytes_range HQ3.out (by omega)
      rw [Wl.put_size] at hb1
      rw [Wl.sum4_size] at hb2
      rw [hn] at hb3
      have HN1 := number_any (some ⟨g, off, none⟩) 4 4 (Wl.putL n 4) W (by rw [← Wl.put_list]; exact hb1) (by omega)
      rw [Wl.getL_putL 4 n (by omega)] at HN1
      have hsl := sum_lt _ (Wl.nb_lt (Wl.put n 4 ++ r))
      have HN2 := number_any (some ⟨g, off + 4, none⟩) 4 4 (Wl.putL (Crc.sum (Wl.nb (Wl.put n 4 ++ r))) 4) W (by rw [← Wl.put_list]; exact hb2) (by omega)
      rw [Wl.getL_putL 4 _ (by omega)] at HN2
      have HSM := sumof_any (some ⟨g, off, none⟩) (some ⟨g, o8, none⟩) 4 4 n n _ _ W hb1 hb3 hTW
      rw [← Wl.nb_append] at HSM
      have hcv := str_at HQ3.out n
      rw [hn] at hcv
      clear hb1 hb2 hb3 hTW HQ1 HQ2 HQ3
      generalize Crc.sum (Wl.nb (Wl.put n 4 ++ r)) = sm at *
      have hnm : ¬ ((n + m : Nat) : Int) < (n : Int) := by omega
      have hnm' : ¬ n + m < n := by omega
      have hnc : (n : Int) ≤ ((c - 8 : Nat) : Int) := by omega
      have hnl : (n : Int) ≤ ((n + m : Nat) : Int) := by omega
      go_wp2_with fail
      refine HN1.mono ?_
      rintro e w' ⟨rfl, hw⟩
      rw [hw]
      clear hw w'
      go_wp2_with fail
      refine HN2.mono ?_
      rintro e w' ⟨rfl, hw⟩
      rw [hw]
      clear hw w'
      go_wp2_with fail
      refine HSM.mono ?_
      rintro e w' ⟨rfl, hw⟩
      rw [hw]
      clear hw w' HN1 HN2 HSM
      have hwq : w.heap.size ≤ W.heap.size := HBq.out.size
      have q1 : ds.length + [r].length ≤ 10000000 := by simp; omega
      have q2 : ∀ o, w.heap.size ≤ (W.alloc o).heap.size := fun o => by simp; omega
      go_wp2_with (first | (refine app_many rfl (.tmp 39) (.tmp 42) rfl _ w.heap.size _ _ ds [r] rfl (own_alloc HOq.out _) rfl (own_new W r) q1 (q2 _) ?_; intro v3 w3 hO3 hG3 _))
      have hB3 : Below w.heap.size W w3 := ((Below.refl _ _).alloc hwq _).trans (below_grown hG3 (own_alloc HOq.out _) (q2 _))
      refine ⟨⟨ds ++ [r], t, ?_, ⟨if c - 8 = n then some ⟨g, o8, none⟩ else some ⟨g, o8 + n, none⟩, c - 8 - n, ?_, ?_, ?_, fun h0 => ⟨g, o8 + n, ?_, hgN, ?_⟩⟩, hO3, HBq.out.trans hB3⟩, ?_⟩
      · rw [HRS.out]; simp
      · rw [hm]
      · rw [hm]; omega
      · omega
      · rw [hm] at h0
        rw [if_neg (by omega)]
      · rw [hm] at h0
        exact range_below (HQ4.out h0) hB3 hgN
      · show m < 8 + n + m
        omega
end Go.Proofs.YtcfninpokngmlaaGreatDoor
