/- Proved: what wal's readFrames tells of frames. -/
import Derived.Test.YtcfninpokngmlaaGreatDoorJ06
import Derived.BigQuiet
import Derived.Shelf.Pu.Clone
import Derived.Test.YtcfninpokngmlaaGreatDoorJ03
import Derived.Test.YtcfninpokngmlaaGreatDoorJ05
namespace Go.Proofs.YtcfninpokngmlaaGreatDoor
open Go.RowKit
theorem str_at {w : World} {b off : Nat} {x : ByteArray} (h : w.rangeAt b off (bc x)) (cap : Nat) : (convert 138 9 (.slice (some ⟨b, off, none⟩) x.size cap)).run Tryz.prog w = .ok (.string x) w := by
  have e := run_convert_bytes_back (P := Tryz.prog) w 138 9 5 ⟨b, off, none⟩ cap x.data.toList Tryz.underlying138 Tryz.underlying5 Tryz.underlying9 (fun j hj => by
    rw [Addr.add_mid]
    exact h j _ (by rw [bc, List.getElem?_map, List.getElem?_eq_getElem hj]; rfl))
  rw [← Sc.size_eq] at e
  exact e
theorem range_app {w : World} {g o : Nat} {a b : List Value} (h : w.rangeAt g o (a ++ b)) : w.rangeAt g o a ∧ w.rangeAt g (o + a.length) b := by
  refine ⟨fun j u hu => h j u ?_, fun j u hu => ?_⟩
  · rw [List.getElem?_append_left (List.getElem?_eq_some_iff.1 hu).1]; exact hu
  · have := h (a.length + j) u (by rw [List.getElem?_append_right (by omega), Nat.add_sub_cancel_left]; exact hu)
    rwa [← Nat.add_assoc] at this
theorem bytes_range {w : World} {g o : Nat} {x : ByteArray} (h : w.rangeAt g o (bc x)) (hx : x.size ≤ 9223372036854775807) : Bytes w (some ⟨g, o, none⟩) x.size (Wl.nb x) := by
  refine ⟨by rw [Wl.nb, List.length_map, ← Sc.size_eq], Wl.nb_lt x, hx, .inr ⟨g, o, rfl, fun i hi => ?_⟩⟩
  have hil : i < x.data.toList.length := by rw [← Sc.size_eq]; exact hi
  rw [h i (.int .u8 ((x.data.toList[i].toNat : Nat) : Int)) (by rw [bc, List.getElem?_map, List.getElem?_eq_getElem hil]; rfl), Wl.nb, List.getD_eq_getElem?_getD, List.getElem?_map, List.getElem?_eq_getElem hil]
  rfl
theorem own_range {w : World} {N : Nat} {v : Value} {y : ByteArray} (h : OwnB w N v y) : ∃ a c, v = .slice a y.size c ∧ y.size ≤ c ∧ c ≤ 9223372036854775807 ∧ (0 < y.size → ∃ g, a = some ⟨g, 0, none⟩ ∧ N ≤ g ∧ g < w.heap.size ∧ w.rangeAt g 0 (bc y)) := by
  rcases h.2 with ⟨h1, h2⟩ | ⟨g, cap, cur, hv, hN, hh, hc, hm, hs, ht⟩
  · exact ⟨none, 0, by rw [h2]; exact h1, by omega, by omega, fun h => by omega⟩
  · unfold maxLen at hm
    refine ⟨_, cap, hv, hc, by omega, fun _ => ⟨g, rfl, hN, (Array.getElem?_eq_some_iff.1 hh).1, fun j u hu => ?_⟩⟩
    have hj := (List.getElem?_eq_some_iff.1 hu).1
    rw [bc_length] at hj
    rw [Nat.zero_add, cell_of_row w g _ cur _ (0, 0) hh, ← Array.getElem?_toList]
    rw [← ht, List.getElem?_take_of_lt (by omega)] at hu
    exact hu
/- the bytes that lie at off: these frames, if any are left -/
def Rest (N : Nat) (w : World) (v : Value) (rs : List ByteArray) : Prop := ∃ a c, v = .slice a (Wl.total rs) c ∧ Wl.total rs ≤ c ∧ c ≤ 9223372036854775807 ∧ (0 < Wl.total rs → ∃ g off, a = some ⟨g, off, none⟩ ∧ g < N ∧ w.rangeAt g off (bc (Wl.frames rs)))
theorem below_drewN (w : World) (n : Nat) : Below w.heap.size w (w.drewN n) := ⟨rfl, rfl, rfl, Nat.le_refl _, fun _ _ => rfl⟩
set_option maxHeartbeats 4000000 in
set_option maxRecDepth 20000 in
theorem readFrames_any (v : Value) (rs : List ByteArray) (w : World) (hR : Rest w.heap.size w v rs) (hT : Tab w) (hf : Wl.Fit rs) (ht : Wl.total rs ≤ 5000000) :
    Calls Tryz.prog 99 #[v] w fun e w' => ∃ u, e = .returned (.tuple #[u, .bool true]) ∧ w'.ownsRow w.heap.size 9 1 u rs.length (rs.map Value.string) ∧ Below w.heap.size w w' := by
  have hpos := hT.pos
  have HT : Hid (Tab w) := hT
  have HR : Hid (Rest w.heap.size w v rs) := hR
  have HF : Hid (Wl.Fit rs) := hf
  clear hT hR hf
  go_enter Tryz.func99, Tryz.ntmps99
  go_wp2_with fail
  go_loopw [0, 2, 4, 5, 6, 7, 8] (fun s0 s2 _ _ _ _ _ wr => ∃ (ds t : List ByteArray), rs = ds ++ t ∧ Rest w.heap.size wr s0 t ∧ wr.ownsRow w.heap.size 9 1 s2 ds.length (ds.map Value.string) ∧ Below w.heap.size w wr) (fun s0 _ _ _ _ _ _ _ => match s0 with | .slice _ n _ => n | _ => 0)
  case atStart => exact ⟨[], rs, rfl, HR.out, World.ownsRow_nil _ _ _ _, Below.refl _ _⟩
  case round =>
    obtain ⟨ds, t, hrs, hRt, hO, hB⟩ := hrel
    obtain ⟨a, c, rfl, hc1, hc2, hcell⟩ := hRt
    have HO := (show Hid (wr.ownsRow w.heap.size 9 1 _ ds.length (ds.map Value.string)) from hO)
    have HB : Hid (Below w.heap.size w wr) := hB
    have HRS : Hid (rs = ds ++ t) := hrs
    have hsz := hB.size
    have htd : Wl.total ds + Wl.total t = Wl.total rs := by rw [hrs, Wl.total_append]
    have hdl := Wl.total_count ds
    clear hrs hO hB HR
    cases t with
    | nil =>
      have hd : decide ((0 : Int) < ((Wl.total [] : Nat) : Int)) = false := by decide
      have hd2 : ¬ 0 < Wl.total [] := by decide
      have HFN : Hid (∀ u, wr.ownsRow w.heap.size 9 1 u ds.length (ds.map Value.string) → wr.ownsRow w.heap.size 9 1 u rs.length (rs.map Value.string)) := fun u h => by rw [HRS.out, List.append_nil]; exact h
      clear hcell htd
      generalize Wl.total [] = m at *
      go_wp2
      go_ret2
      exact ⟨_, rfl, HFN.out _ HO.out, HB.out⟩
    | cons r t =>
      have hte : Wl.total (r :: t) = 8 + r.size + Wl.total t := rfl
      rw [hte] at hc1 hcell htd ⊢
      obtain ⟨g, off, rfl, hgN, hrg⟩ := hcell (by omega)
      have hrs : r.size ≤ 65536 := HF.out r (by rw [HRS.out]; simp)
      have hfr : bc (Wl.frames (r :: t)) = bc (Wl.put r.size 4) ++ (bc (Wl.sum4 (Wl.put r.size 4 ++ r)) ++ (bc r ++ bc (Wl.frames t))) := by
        rw [Wl.frames, bc_append]
        unfold Wl.frame
        rw [bc_append, bc_append, List.append_assoc, List.append_assoc]
      rw [hfr] at hrg
      obtain ⟨hR1, hrg⟩ := range_app hrg
      obtain ⟨hR2, hrg⟩ := range_app hrg
      obtain ⟨hR3, hR4⟩ := range_app hrg
      rw [bc_length, Wl.put_size] at hR2
      rw [bc_length, Wl.put_size, bc_length, Wl.sum4_size] at hR3
      rw [bc_length, Wl.put_size, bc_length, Wl.sum4_size, bc_length] at hR4
      have HR1 : Hid (wr.rangeAt g off (bc (Wl.put r.size 4))) := hR1
      have HR2 : Hid (wr.rangeAt g (off + 4) (bc (Wl.sum4 (Wl.put r.size 4 ++ r)))) := hR2
      have HR3 : Hid (wr.rangeAt g (off + 4 + 4) (bc r)) := hR3
      have HR4 : Hid (wr.rangeAt g (off + 4 + 4 + r.size) (bc (Wl.frames t))) := hR4
      clear hR1 hR2 hR3 hR4 hrg hfr hcell hte
      generalize hm : Wl.total t = m at *
      generalize hn : r.size = n at *
      have hlt : decide ((0 : Int) < ((8 + n + m : Nat) : Int)) = true := decide_eq_true (by omega)
      have hlt2 : 0 < 8 + n + m := by omega
      have hl8 : ¬ (((8 + n + m : Nat) : Int) < 8) := by omega
      have hl8' : ¬ 8 + n + m < 8 := by omega
      have hc4 : (4 : Int) ≤ (c : Int) := by omega
      have hc8 : (8 : Int) ≤ (c : Int) := by omega
      have hd8 : (8 : Int) ≤ ((8 + n + m : Nat) : Int) := by omega
      go_wp2_with fail
      go_quiet (fail)
      obtain ⟨o8, hA8, ho8, ho8'⟩ : ∃ o8, (if c = 8 then some (⟨g, off, none⟩ : Addr) else some ⟨g, off + 8, none⟩) = some ⟨g, o8, none⟩ ∧ (0 < n + m → o8 = off + 8) ∧ o8 ≤ off + 8 := by
        by_cases h : c = 8
        · exact ⟨off, by rw [if_pos h], fun h0 => by omega, by omega⟩
        · exact ⟨off + 8, by rw [if_neg h], fun _ => rfl, by omega⟩
      rw [hA8, show 8 + n + m - 8 = n + m by omega]
      have HBq : Hid (Below w.heap.size w (wr.drewN nq)) := HB.out.trans ((below_drewN wr nq).mono hsz)
      have HOq := (show Hid ((wr.drewN nq).ownsRow w.heap.size 9 1 _ ds.length (ds.map Value.string)) from own_keep HO.out (fun _ _ => rfl))
      have HQ1 : Hid ((wr.drewN nq).rangeAt g off (bc (Wl.put n 4))) := HR1.out
      have HQ2 : Hid ((wr.drewN nq).rangeAt g (off + 4) (bc (Wl.sum4 (Wl.put n 4 ++ r)))) := HR2.out
      have HQ3 : Hid ((wr.drewN nq).rangeAt g o8 (bc r)) := by
        by_cases h0 : 0 < n + m
        · rw [ho8 h0]; exact HR3.out
        · intro j u hu
          have := (List.getElem?_eq_some_iff.1 hu).1
          rw [bc_length] at this
          omega
      have HQ4 : Hid (0 < m → (wr.drewN nq).rangeAt g (o8 + n) (bc (Wl.frames t))) := fun h0 => by
        rw [ho8 (by omega)]; exact HR4.out
      have hsq : Hid ((wr.drewN nq).heap.size = wr.heap.size) := rfl
      generalize wr.drewN nq = W at *
      clear HR1 HR2 HR3 HR4 HO HB hA8 hc4 hc8 hd8 hl8 hl8' hlt hlt2
      have hTW := HT.out.below HBq.out hpos
      have hb1 := bytes_range HQ1.out (by rw [Wl.put_size]; omega)
      have hb2 := bytes_range HQ2.out (by rw [Wl.sum4_size]; omega)
      have hb3 := bytes_range HQ3.out (by omega)
      rw [Wl.put_size] at hb1
      rw [Wl.sum4_size] at hb2
      rw [hn] at hb3
      have HN1 := number_any (some ⟨g, off, none⟩) 4 4 (Wl.putL n 4) W (by rw [← Wl.put_list]; exact hb1) (by omega)
      rw [Wl.getL_putL 4 n (by omega)] at HN1
      have hsl := sum_lt _ (Wl.nb_lt (Wl.put n 4 ++ r))
      have HN2 := number_any (some ⟨g, off + 4, none⟩) 4 4 (Wl.putL (Crc.sum (Wl.nb (Wl.put n 4 ++ r))) 4) W (by rw [← Wl.put_list]; exact hb2) (by omega)
      rw [Wl.getL_putL 4 _ (by omega)] at HN2
      have HSM := sumof_any (some ⟨g, off, none⟩) (some ⟨g, o8, none⟩) 4 4 n n _ _ W hb1 hb3 hTW
      rw [← Wl.nb_append] at HSM
      have hcv := str_at HQ3.out n
      rw [hn] at hcv
      clear hb1 hb2 hb3 hTW HQ1 HQ2 HQ3
      generalize Crc.sum (Wl.nb (Wl.put n 4 ++ r)) = sm at *
      have hnm : ¬ ((n + m : Nat) : Int) < (n : Int) := by omega
      have hnm' : ¬ n + m < n := by omega
      have hnc : (n : Int) ≤ ((c - 8 : Nat) : Int) := by omega
      have hnl : (n : Int) ≤ ((n + m : Nat) : Int) := by omega
      go_wp2_with fail
      refine HN1.mono ?_
      rintro e w' ⟨rfl, hw⟩
      rw [hw]
      clear hw w'
      go_wp2_with fail
      refine HN2.mono ?_
      rintro e w' ⟨rfl, hw⟩
      rw [hw]
      clear hw w'
      go_wp2_with fail
      refine HSM.mono ?_
      rintro e w' ⟨rfl, hw⟩
      rw [hw]
      clear hw w' HN1 HN2 HSM
      have hwq : w.heap.size ≤ W.heap.size := HBq.out.size
      have q1 : ds.length + [r].length ≤ 10000000 := by simp; omega
      have q2 : ∀ o, w.heap.size ≤ (W.alloc o).heap.size := fun o => by simp; omega
      go_wp2_with (first | (refine app_many rfl (.tmp 39) (.tmp 42) rfl _ w.heap.size _ _ ds [r] rfl (own_alloc HOq.out _) rfl (own_new W r) q1 (q2 _) ?_; intro v3 w3 hO3 hG3 _))
      have hB3 : Below w.heap.size W w3 := ((Below.refl _ _).alloc hwq _).trans (below_grown hG3 (own_alloc HOq.out _) (q2 _))
      refine ⟨⟨ds ++ [r], t, ?_, ⟨if c - 8 = n then some ⟨g, o8, none⟩ else some ⟨g, o8 + n, none⟩, c - 8 - n, ?_, ?_, ?_, fun h0 => ⟨g, o8 + n, ?_, hgN, ?_⟩⟩, hO3, HBq.out.trans hB3⟩, ?_⟩
      · rw [HRS.out]; simp
      · rw [hm]
      · rw [hm]; omega
      · omega
      · rw [hm] at h0
        rw [if_neg (by omega)]
      · rw [hm] at h0
        exact range_below (HQ4.out h0) hB3 hgN
      · show m < 8 + n + m
        omega
end Go.Proofs.YtcfninpokngmlaaGreatDoor
/- Proved: what strings.Clone and slices.Clone of texts answer. -/
namespace Go.Proofs.YtcfninpokngmlaaGreatDoor
open Go.RowKit
def renC : Go.Shelf.Ren := ⟨fun | 25 => 89 | n => n, fun | 0 => 0 | 3 => 3 | 4 => 4 | 5 => 5 | 9 => 9 | 37 => 138 | 47 => 166 | n => n, fun | n => n⟩
theorem layC : Go.Proofs.LaysPu.n25 Tryz.prog renC := {
  mixed := by kernel_rfl
  f25 := Tryz.func89.trans (congrArg some (by kernel_rfl))
  t0 := Tryz.underlying0
  a0 := Tryz.isAgg0
  z0 := Tryz.sizeOf0
  v0 := Tryz.zeroValue0
  i0 := by kernel_rfl
  t3 := Tryz.underlying3
  a3 := Tryz.isAgg3
  z3 := Tryz.sizeOf3
  v3 := Tryz.zeroValue3
  i3 := by kernel_rfl
  t4 := Tryz.underlying4
  a4 := Tryz.isAgg4
  z4 := Tryz.sizeOf4
  v4 := Tryz.zeroValue4
  i4 := by kernel_rfl
  t5 := Tryz.underlying5
  a5 := Tryz.isAgg5
  z5 := Tryz.sizeOf5
  v5 := Tryz.zeroValue5
  i5 := by kernel_rfl
  t9 := Tryz.underlying9
  a9 := Tryz.isAgg9
  z9 := Tryz.sizeOf9
  v9 := Tryz.zeroValue9
  i9 := by kernel_rfl
  t37 := Tryz.underlying138
  a37 := Tryz.isAgg138
  z37 := Tryz.sizeOf138
  v37 := Tryz.zeroValue138
  i37 := by kernel_rfl
  t47 := Tryz.underlying166
  a47 := Tryz.isAgg166
  z47 := Tryz.sizeOf166
  v47 := Tryz.zeroValue166
  i47 := by kernel_rfl }
theorem clite_any (s : ByteArray) (w : World) (h : s.size ≤ 281474976710656) :
    Calls Tryz.prog 89 #[.string s] w fun e w' => e = .returned (.string s) ∧ Below w.heap.size w w' := AnyPu.stringslite_Clone layC s w h
set_option maxHeartbeats 400000 in
theorem sclone_any (s : ByteArray) (w : World) (h : s.size ≤ 281474976710656) :
    Calls Tryz.prog 65 #[.string s] w fun e w' => e = .returned (.string s) ∧ Below w.heap.size w w' := by
  have H := clite_any s w h
  go_enter Tryz.func65, Tryz.ntmps65
  go_wp2_with fail
  refine H.mono ?_
  rintro e w' ⟨rfl, hB⟩
  go_wp2
  go_ret
  exact ⟨rfl, hB⟩
theorem own_empty {W : World} {N g : Nat} (hNg : N ≤ g) (hg : W.heap[g]? = some (.cells #[] 9 (0, 0))) : OwnS W N (.slice (some ⟨g, 0, none⟩) 0 0) [] := ⟨rfl, .inr ⟨g, 0, #[], rfl, hNg, hg, Nat.le_refl _, Nat.zero_le _, rfl, rfl⟩⟩
set_option maxHeartbeats 2000000 in
set_option maxRecDepth 20000 in
theorem clone_any (v : Value) (rs : List ByteArray) (w : World) (h : OwnS w 0 v rs) (hl : rs.length ≤ 1000000) :
    Calls Tryz.prog 101 #[v] w fun e w' => ∃ u, e = .returned u ∧ OwnS w' w.heap.size u rs ∧ Below w.heap.size w w' := by
  have HO : Hid (OwnS w 0 v rs) := h
  have q27 : ∀ (w : World) (a : Option Addr) (n c n' c' : Nat), (binOp .eql 114 (.slice a n c) (.slice none n' c')).run Tryz.prog w = .ok (.bool a.isNone) w := fun w a n c n' c' => Lib.run_eql_slice_nil w _ _ a n c n' c' Tryz.underlying114
  rcases h.2 with ⟨hv, h0⟩ | ⟨g, cap, cur, hv, _⟩
  · obtain rfl : rs = [] := List.length_eq_zero_iff.1 h0
    subst hv
    clear h
    go_enter Tryz.func101, Tryz.ntmps101
    go_wp2
    go_ret
    exact ⟨_, rfl, World.ownsRow_nil _ _ _ _, Below.refl _ _⟩
  · subst hv
    clear h
    go_enter Tryz.func101, Tryz.ntmps101
    go_wp2_with (first | (refine app_many rfl (.tmp 5) (.tmp 6) rfl _ w.heap.size _ _ [] rs rfl (own_empty (Nat.le_refl _) (heap_alloc_new w _)) rfl (own_alloc HO.out _) (by simp; omega) (by simp) ?_; intro v3 w3 hO3 hG3 _; have HFN : Hid (OwnS w3 w.heap.size v3 rs ∧ Below w.heap.size w w3) := ⟨hO3, ((Below.refl _ _).alloc (Nat.le_refl _) _).trans (below_grown hG3 (own_empty (Nat.le_refl _) (heap_alloc_new w _)) (by simp))⟩; clear hO3 hG3))
    go_ret
    exact ⟨_, rfl, HFN.out⟩
end Go.Proofs.YtcfninpokngmlaaGreatDoor
/- Proved: how a log of the program lies in memory, alone and with its disk. -/
namespace Go.Proofs.YtcfninpokngmlaaGreatDoor
open Go.RowKit
def pcells (l : Wl.Lg) (g : Nat) (vr vw : Value) : Array Value := #[ptr g, .int .i64 (l.base : Int), .int .i64 (64 * ((l.n : Int) - 1)), .int .i64 (l.epoch : Int), .int .i64 (l.bytes.size : Int), vr, vw, .int .i64 (Wl.total l.wait : Int), .bool l.lost]
def pfoot (q : Nat) (vr vw : Value) : List Nat := q :: (vr.ownBlock.toList ++ vw.ownBlock.toList)
/- the program's log: at block q, on the disk at block g -/
structure Pk (w : World) (q g : Nat) (vr vw : Value) (l : Wl.Lg) : Prop where
  row : w.heap[q]? = some (.cells (pcells l g vr vw) 116 (0, 0))
  recs : OwnS w 0 vr l.recs
  wait : OwnS w 0 vw l.wait
  hr : vr.ownBlock ≠ some q
  hw : vw.ownBlock ≠ some q
  ra : ∀ k, vr.ownBlock = some k → vw.ownBlock ≠ some k
  ok : l.Ok
section
variable {w w' : World} {q g : Nat} {vr vw vr' vw' v' : Value} {l l' : Wl.Lg}
theorem Pk.cell (H : Pk w q g vr vw l) (i : Nat) : w.cell? ⟨q, i, none⟩ = (pcells l g vr vw)[i]? := cell_of_row w q i _ _ (0, 0) H.row
theorem Pk.c0 (H : Pk w q g vr vw l) : w.cell? ⟨q, 0, none⟩ = some (ptr g) := by rw [H.cell]; rfl
theorem Pk.c1 (H : Pk w q g vr vw l) : w.cell? ⟨q, 1, none⟩ = some (.int .i64 (l.base : Int)) := by rw [H.cell]; rfl
theorem Pk.c2 (H : Pk w q g vr vw l) : w.cell? ⟨q, 2, none⟩ = some (.int .i64 (64 * ((l.n : Int) - 1))) := by rw [H.cell]; rfl
theorem Pk.c3 (H : Pk w q g vr vw l) : w.cell? ⟨q, 3, none⟩ = some (.int .i64 (l.epoch : Int)) := by rw [H.cell]; rfl
theorem Pk.c4 (H : Pk w q g vr vw l) : w.cell? ⟨q, 4, none⟩ = some (.int .i64 (l.bytes.size : Int)) := by rw [H.cell]; rfl
theorem Pk.c5 (H : Pk w q g vr vw l) : w.cell? ⟨q, 5, none⟩ = some vr := by rw [H.cell]; rfl
theorem Pk.c6 (H : Pk w q g vr vw l) : w.cell? ⟨q, 6, none⟩ = some vw := by rw [H.cell]; rfl
theorem Pk.c7 (H : Pk w q g vr vw l) : w.cell? ⟨q, 7, none⟩ = some (.int .i64 (Wl.total l.wait : Int)) := by rw [H.cell]; rfl
theorem Pk.c8 (H : Pk w q g vr vw l) : w.cell? ⟨q, 8, none⟩ = some (.bool l.lost) := by rw [H.cell]; rfl
theorem Pk.fz (H : Pk w q g vr vw l) (i : Nat) : w.frozen? ⟨q, i, none⟩ = false := frozen_of_row w q i _ _ H.row
theorem Pk.lt (H : Pk w q g vr vw l) : ∀ k ∈ pfoot q vr vw, k < w.heap.size := fun k hk => by
  unfold pfoot at hk
  rcases List.mem_cons.1 hk with rfl | hk
  · exact (Array.getElem?_eq_some_iff.1 H.row).1
  · rcases List.mem_append.1 hk with hk | hk
    · exact (H.recs.lt k (by simpa using hk)).2
    · exact (H.wait.lt k (by simpa using hk)).2
theorem Pk.keep (H : Pk w q g vr vw l) {fs : List Nat} (hc : Chg fs w w') (ha : ∀ k ∈ pfoot q vr vw, k ∉ fs) : Pk w' q g vr vw l := by
  have e : ∀ k ∈ pfoot q vr vw, w'.heap[k]? = w.heap[k]? := fun k hk => hc.block k (H.lt k hk) (ha k hk)
  exact ⟨(e q (by simp [pfoot])).trans H.row, own_keep H.recs (fun k hk => e k (by simp [pfoot, hk])), own_keep H.wait (fun k hk => e k (by simp [pfoot, hk])), H.hr, H.hw, H.ra, H.ok⟩
theorem Pk.below (H : Pk w q g vr vw l) (hb : Below w.heap.size w w') : Pk w' q g vr vw l := H.keep (fs := []) (Chg.of_below hb) (fun _ _ h => by cases h)
theorem Pk.alloc (H : Pk w q g vr vw l) (o : Obj) : Pk (w.alloc o) q g vr vw l := H.keep (Chg.alloc [] w o) (fun _ _ h => by cases h)
theorem Pk.drew (H : Pk w q g vr vw l) : Pk w.drew q g vr vw l := ⟨H.row, H.recs, H.wait, H.hr, H.hw, H.ra, H.ok⟩
theorem Pk.drewN (H : Pk w q g vr vw l) (n : Nat) : Pk (w.drewN n) q g vr vw l := ⟨H.row, H.recs, H.wait, H.hr, H.hw, H.ra, H.ok⟩
/- one cell of the log is written, its lists stay -/
theorem Pk.setSame (H : Pk w q g vr vw l) (i : Nat) (x : Value) (e : (pcells l g vr vw).setIfInBounds i x = pcells l' g vr vw) (hr : l'.recs = l.recs) (hw : l'.wait = l.wait) (ok : l'.Ok) : Pk (w.setCell ⟨q, i, none⟩ x) q g vr vw l' ∧ Turn (pfoot q vr vw) (pfoot q vr vw) w (w.setCell ⟨q, i, none⟩ x) := by
  refine ⟨⟨?_, ?_, ?_, H.hr, H.hw, H.ra, ok⟩, ⟨(Chg.setCell w q i x).mono (fun k hk => by rw [List.mem_singleton.1 hk]; simp [pfoot]), fun _ h => .inl h⟩⟩
  · rw [heap_setCell_same w q i _ _ _ H.row, e]
  · rw [hr]; exact own_keep H.recs (fun k hk => heap_setCell_other _ _ _ _ (fun e => H.hr (by rw [hk, e])))
  · rw [hw]; exact own_keep H.wait (fun k hk => heap_setCell_other _ _ _ _ (fun e => H.hw (by rw [hk, e])))
end
theorem own_nil (w : World) : OwnS w 0 (.slice none 0 0) [] := ⟨rfl, .inl ⟨rfl, rfl⟩⟩
theorem Turn.left {fs fs' gs : List Nat} {w w' : World} (h : Turn fs fs' w w') : Turn (fs ++ gs) (fs' ++ gs) w w' := ⟨h.chg.mono (fun k hk => List.mem_append.2 (.inl hk)), fun k hk => by
  rcases List.mem_append.1 hk with h1 | h1
  · rcases h.grow k h1 with h2 | h2
    · exact .inl (List.mem_append.2 (.inl h2))
    · exact .inr h2
  · exact .inl (List.mem_append.2 (.inr h1))⟩
theorem Turn.right {fs fs' gs : List Nat} {w w' : World} (h : Turn fs fs' w w') : Turn (gs ++ fs) (gs ++ fs') w w' := ⟨h.chg.mono (fun k hk => List.mem_append.2 (.inr hk)), fun k hk => by
  rcases List.mem_append.1 hk with h1 | h1
  · exact .inl (List.mem_append.2 (.inl h1))
  · rcases h.grow k h1 with h2 | h2
    · exact .inl (List.mem_append.2 (.inr h2))
    · exact .inr h2⟩
/- the log and its disk -/
structure LP (w : World) (q g : Nat) (vr vw : Value) (l : Wl.Lg) (kg : Nat) (vp : Value) (s : Sc.St) : Prop where
  pk : Pk w q g vr vw l
  dk : Dk w g kg vp s
  ap : ∀ k ∈ pfoot q vr vw, k ∉ foot g kg vp
  fits : l.base + l.n ≤ s.kept.length
def lfoot (q g : Nat) (vr vw : Value) (kg : Nat) (vp : Value) : List Nat := pfoot q vr vw ++ foot g kg vp
section
variable {w w' : World} {q g kg : Nat} {vr vw vr' vw' vp vp' : Value} {l l' : Wl.Lg} {s s' : Sc.St}
theorem LP.d (L : LP w q g vr vw l kg vp s) (hD : Dk w' g kg vp' s') (hT : Turn (foot g kg vp) (foot g kg vp') w w') (hl : s'.kept.length = s.kept.length) : LP w' q g vr vw l kg vp' s' ∧ Turn (lfoot q g vr vw kg vp) (lfoot q g vr vw kg vp') w w' :=
  ⟨⟨L.pk.keep hT.chg L.ap, hD, hT.apart L.ap L.pk.lt, by rw [hl]; exact L.fits⟩, hT.right⟩
theorem LP.p (L : LP w q g vr vw l kg vp s) (hP : Pk w' q g vr' vw' l') (hT : Turn (pfoot q vr vw) (pfoot q vr' vw') w w') (hb : l'.base = l.base) (hn : l'.n = l.n) : LP w' q g vr' vw' l' kg vp s ∧ Turn (lfoot q g vr vw kg vp) (lfoot q g vr' vw' kg vp) w w' := by
  have ha : ∀ k ∈ foot g kg vp, k ∉ pfoot q vr vw := fun k hk hf => L.ap k hf hk
  exact ⟨⟨hP, L.dk.keep hT.chg ha, fun k hk hr => hT.apart ha L.dk.lt k hr hk, by rw [hb, hn]; exact L.fits⟩, hT.left⟩
theorem LP.below (L : LP w q g vr vw l kg vp s) (hB : Below w.heap.size w w') : LP w' q g vr vw l kg vp s := ⟨L.pk.below hB, L.dk.below hB, L.ap, L.fits⟩
theorem LP.drew (L : LP w q g vr vw l kg vp s) : LP w.drew q g vr vw l kg vp s := ⟨L.pk.drew, L.dk.drew, L.ap, L.fits⟩
theorem LP.lt (L : LP w q g vr vw l kg vp s) : ∀ k ∈ lfoot q g vr vw kg vp, k < w.heap.size := fun k hk => by
  rcases List.mem_append.1 hk with h | h
  · exact L.pk.lt k h
  · exact L.dk.lt k h
end
/- what a call of a log that turns both answers -/
def LDoes (w : World) (q g : Nat) (vr vw : Value) (kg : Nat) (vp : Value) (l : Wl.Lg) (s : Sc.St) (n : Int) (e : Ending) (w' : World) : Prop :=
  ∃ vr' vw' vp', e = .returned (.int .i64 n) ∧ LP w' q g vr' vw' l kg vp' s ∧ Turn (lfoot q g vr vw kg vp) (lfoot q g vr' vw' kg vp') w w'
/- what a call of a log that turns it alone answers -/
def PDoes (w : World) (q g : Nat) (vr vw : Value) (l : Wl.Lg) (n : Int) (e : Ending) (w' : World) : Prop :=
  ∃ vr' vw', e = .returned (.int .i64 n) ∧ Pk w' q g vr' vw' l ∧ Turn (pfoot q vr vw) (pfoot q vr' vw') w w'
end Go.Proofs.YtcfninpokngmlaaGreatDoor
/- Proved: what made, ready, lose, Room, Waiting, Epoch, Records and Drop of a log answer, and make of it; and of logs that Open did not make. -/
namespace Go.Proofs.YtcfninpokngmlaaGreatDoor
open Go.RowKit
section
variable {w : World} {q g : Nat} {vr vw : Value} {l : Wl.Lg}
theorem Pk.wval (H : Pk w q g vr vw l) : ∃ a cap, vw = .slice a l.wait.length cap := by
  obtain ⟨a, c, h, _⟩ := own_strs H.wait
  exact ⟨a, c, h⟩
theorem Pk.wlen (H : Pk w q g vr vw l) : l.wait.length ≤ 4194304 := by
  have h1 := Wl.total_count l.wait
  have h2 := H.ok.room
  have h3 := H.ok.most
  omega
theorem Pk.rlen (H : Pk w q g vr vw l) : l.recs.length ≤ 4194304 := by
  have h1 := Wl.total_count l.recs
  have h2 := H.ok.room
  have h3 := H.ok.most
  have h4 := H.ok.is.1
  have h5 := congrArg ByteArray.size h4
  rw [Wl.frames_size] at h5
  omega
end
set_option maxHeartbeats 400000 in
theorem lmade_yes (q g : Nat) (vr vw : Value) (l : Wl.Lg) (w : World) (H : Pk w q g vr vw l) :
    Calls Tryz.prog 100 #[ptr q] w fun e w' => e = .returned (.bool true) ∧ w' = w := by
  have c0 := H.c0
  clear H
  go_enter Tryz.func100, Tryz.ntmps100
  go_wp2
  go_ret
  exact ⟨rfl, rfl⟩
set_option maxHeartbeats 400000 in
theorem lost_any (q g : Nat) (vr vw : Value) (l : Wl.Lg) (w : World) (H : Pk w q g vr vw l) :
    Calls Tryz.prog 130 #[ptr q] w fun e w' => e = .returned (.bool l.lost) ∧ w' = w := by
  have c8 := H.c8
  clear H
  go_enter Tryz.func130, Tryz.ntmps130
  go_wp2
  go_ret
  exact ⟨rfl, rfl⟩
def lreadyE (l : Wl.Lg) : Int := if l.lost = true then 10 else 0
set_option maxHeartbeats 400000 in
theorem lready_any (q g : Nat) (vr vw : Value) (l : Wl.Lg) (w : World) (H : Pk w q g vr vw l) :
    Calls Tryz.prog 109 #[ptr q] w fun e w' => e = .returned (.int .i64 (lreadyE l)) ∧ w' = w := by
  have HM := lmade_yes q g vr vw l w H
  have HL := lost_any q g vr vw l w H
  unfold lreadyE
  clear H
  cases hl : l.lost
  · rw [hl] at HL
    go_enter Tryz.func109, Tryz.ntmps109
    go_wp2_with (first | (go_at_call 100; refine HM.mono ?_; rintro e w' ⟨rfl, rfl⟩) | (go_at_call 130; refine HL.mono ?_; rintro e w' ⟨rfl, rfl⟩))
    go_ret
    exact ⟨rfl, rfl⟩
  · rw [hl] at HL
    go_enter Tryz.func109, Tryz.ntmps109
    go_wp2_with (first | (go_at_call 100; refine HM.mono ?_; rintro e w' ⟨rfl, rfl⟩) | (go_at_call 130; refine HL.mono ?_; rintro e w' ⟨rfl, rfl⟩))
    go_ret
    exact ⟨rfl, rfl⟩
set_option maxHeartbeats 400000 in
theorem lose_any (q g : Nat) (vr vw : Value) (l : Wl.Lg) (e : Int) (w : World) (H : Pk w q g vr vw l) (he : e ≠ 0) :
    Calls Tryz.prog 111 #[ptr q, .int .i64 e] w (PDoes w q g vr vw (Wl.lose l e) e) := by
  have c8 := H.c8
  have f8 := H.fz 8
  have e1 : Wl.lose l e = { l with lost := true } := by unfold Wl.lose; rw [if_neg he]
  have ok : (Wl.lose l e).Ok := Wl.lose_ok H.ok e
  rw [e1] at ok ⊢
  have HN := (show Hid (Pk (w.setCell ⟨q, 8, none⟩ (.bool true)) q g vr vw { l with lost := true } ∧ Turn (pfoot q vr vw) (pfoot q vr vw) w (w.setCell ⟨q, 8, none⟩ (.bool true))) from H.setSame 8 (.bool true) (l' := { l with lost := true }) rfl rfl rfl ok)
  clear H ok e1 he
  go_enter Tryz.func111, Tryz.ntmps111
  go_wp2
  go_ret
  exact ⟨_, _, rfl, HN.out⟩
theorem room_num (n b t : Nat) (h2 : 2 ≤ n) (hm : n ≤ 65536) (h : b + t ≤ 64 * (n - 1)) : (0 : Int) ≤ 64 * ((n : Int) - 1) - b - t ∧ 64 * ((n : Int) - 1) - b - t ≤ 4194304 := by omega
set_option maxHeartbeats 1000000 in
theorem lroom_any (q g : Nat) (vr vw : Value) (l : Wl.Lg) (w : World) (H : Pk w q g vr vw l) :
    Calls Tryz.prog 92 #[ptr q] w fun e w' => e = .returned (.int .i64 (Wl.room l)) ∧ ∃ n, w' = w.drewN n := by
  have c2 := H.c2
  have c4 := H.c4
  have c7 := H.c7
  have HM := lmade_yes q g vr vw l w H
  have hrn := room_num l.n l.bytes.size (Wl.total l.wait) H.ok.two (by have := H.ok.most; omega) H.ok.room
  have h2 := H.ok.two
  have hm := H.ok.most
  have HRM : Hid (Wl.room l = 64 * ((l.n : Int) - 1) - (l.bytes.size : Int) - (Wl.total l.wait : Int)) := rfl
  have hb : l.bytes.size ≤ 4194304 := by have := H.ok.room; omega
  have ht : Wl.total l.wait ≤ 4194304 := by have := H.ok.room; omega
  clear H
  generalize Wl.total l.wait = t at *
  generalize l.bytes.size = b at *
  go_enter Tryz.func92, Tryz.ntmps92
  go_wp2_with (go_at_call 100; refine HM.mono ?_; rintro e w' ⟨rfl, rfl⟩)
  go_quiet (fail)
  generalize hr : 64 * ((l.n : Int) - 1) - (b : Int) - (t : Int) = r at *
  go_wp2
  go_ret
  exact ⟨by rw [HRM.out]; rfl, _, rfl⟩
set_option maxHeartbeats 400000 in
theorem lrecords_any (q g : Nat) (vr vw : Value) (l : Wl.Lg) (w : World) (H : Pk w q g vr vw l) :
    Calls Tryz.prog 74 #[ptr q] w fun e w' => ∃ u, e = .returned u ∧ OwnS w' w.heap.size u l.recs ∧ Below w.heap.size w w' := by
  have c5 := H.c5
  have HM := lmade_yes q g vr vw l w H
  have HC := clone_any vr l.recs w H.recs (by have := Wl.total_count l.recs; have h2 := H.ok.room; have h3 := H.ok.most; have h4 := congrArg ByteArray.size H.ok.is.1; rw [Wl.frames_size] at h4; omega)
  clear H
  go_enter Tryz.func74, Tryz.ntmps74
  go_wp2_with fail
  refine HM.mono ?_
  rintro e w' ⟨rfl, hw⟩
  rw [hw]
  clear hw w'
  go_wp2_with fail
  refine HC.mono ?_
  rintro e w' ⟨u, rfl, hO, hB⟩
  have HO := (show Hid (OwnS w' w.heap.size u l.recs) from hO)
  clear hO
  go_wp2
  go_ret
  exact ⟨_, rfl, HO.out, hB⟩
def dropL (l : Wl.Lg) : Wl.Lg := { l with wait := [] }
theorem dropL_ok {l : Wl.Lg} (h : l.Ok) : (dropL l).Ok := ⟨h.two, h.most, h.epoch, h.is, (by intro r hr; cases hr), by have := h.room; show l.bytes.size + Wl.total [] ≤ 64 * (l.n - 1); rw [Wl.total]; omega⟩
theorem Pk.dropped {w : World} {q g : Nat} {vr vw : Value} {l : Wl.Lg} (H : Pk w q g vr vw l) : Pk ((w.setCell ⟨q, 6, none⟩ (.slice none 0 0)).setCell ⟨q, 7, none⟩ (.int .i64 0)) q g vr (.slice none 0 0) (dropL l) ∧ Turn (pfoot q vr vw) (pfoot q vr (.slice none 0 0)) w ((w.setCell ⟨q, 6, none⟩ (.slice none 0 0)).setCell ⟨q, 7, none⟩ (.int .i64 0)) := by
  have hC : Chg [q] w ((w.setCell ⟨q, 6, none⟩ (.slice none 0 0)).setCell ⟨q, 7, none⟩ (.int .i64 0)) := (Chg.setCell _ q 6 _).trans (Chg.setCell _ q 7 _)
  refine ⟨⟨?_, own_keep H.recs (fun k hk => hC.block k (H.lt k (by simp [pfoot, hk])) (fun e => H.hr (by rw [hk, List.mem_singleton.1 e]))), own_nil _, H.hr, (by intro e; cases e), (by intro k _ e; cases e), dropL_ok H.ok⟩, ⟨hC.mono (fun k hk => by rw [List.mem_singleton.1 hk]; simp [pfoot]), fun k hk => .inl ?_⟩⟩
  · rw [heap_setCell_same _ q 7 _ _ _ (heap_setCell_same w q 6 _ _ _ H.row)]
    rfl
  · simp only [pfoot, List.mem_cons, List.mem_append, Option.mem_toList] at hk ⊢
    rcases hk with h1 | h1 | h1
    · exact .inl h1
    · exact .inr (.inl h1)
    · cases h1
set_option maxHeartbeats 400000 in
theorem ldrop_any (q g : Nat) (vr vw : Value) (l : Wl.Lg) (w : World) (H : Pk w q g vr vw l) :
    Calls Tryz.prog 121 #[ptr q] w fun e w' => e = .returned (.tuple #[]) ∧ Pk w' q g vr (.slice none 0 0) (dropL l) ∧ Turn (pfoot q vr vw) (pfoot q vr (.slice none 0 0)) w w' := by
  have c6 := H.c6
  have c7 := H.c7
  have f6 := H.fz 6
  have f7 := H.fz 7
  have HM := lmade_yes q g vr vw l w H
  have HN := (show Hid _ from H.dropped)
  clear H
  go_enter Tryz.func121, Tryz.ntmps121
  go_wp2_with (go_at_call 100; refine HM.mono ?_; rintro e w' ⟨rfl, rfl⟩)
  go_end0
  exact ⟨rfl, HN.out⟩
end Go.Proofs.YtcfninpokngmlaaGreatDoor
/- Proved: what Add makes of a log. -/
namespace Go.Proofs.YtcfninpokngmlaaGreatDoor
open Go.RowKit
theorem Pk.added {w w' : World} {q g : Nat} {vr vw v' : Value} {l : Wl.Lg} {r : ByteArray} (H : Pk w q g vr vw l) (hG : w.grownBy w' vw.ownBlock) (hO : OwnS w' 0 v' (l.wait ++ [r])) (hv : v'.ownBlock = vw.ownBlock ∨ v'.ownBlock = some w.heap.size) (ok : Wl.Lg.Ok { l with wait := l.wait ++ [r] }) :
    Pk ((w'.setCell ⟨q, 6, none⟩ v').setCell ⟨q, 7, none⟩ (.int .i64 ((Wl.total l.wait : Int) + (8 + (r.size : Int))))) q g vr v' { l with wait := l.wait ++ [r] } ∧ Turn (pfoot q vr vw) (pfoot q vr v') w ((w'.setCell ⟨q, 6, none⟩ v').setCell ⟨q, 7, none⟩ (.int .i64 ((Wl.total l.wait : Int) + (8 + (r.size : Int))))) := by
  have lt := H.lt
  have hq : w'.heap[q]? = w.heap[q]? := hG.block q (lt q (by simp [pfoot])) (fun e => H.hw e.symm)
  have ne1 : v'.ownBlock ≠ some q := fun e => by
    rcases hv with h | h
    · exact H.hw (h ▸ e)
    · rw [h] at e
      have := lt q (by simp [pfoot])
      have := Option.some.inj e
      omega
  have hC2 : Chg [q] w' ((w'.setCell ⟨q, 6, none⟩ v').setCell ⟨q, 7, none⟩ (.int .i64 ((Wl.total l.wait : Int) + (8 + (r.size : Int))))) := (Chg.setCell _ q 6 _).trans (Chg.setCell _ q 7 _)
  have hrs : OwnS w' 0 vr l.recs := own_keep H.recs (fun k hk => hG.block k (lt k (by simp [pfoot, hk])) (fun e => H.ra k hk e.symm))
  have htot : (Wl.total (l.wait ++ [r]) : Int) = (Wl.total l.wait : Int) + (8 + (r.size : Int)) := by
    rw [Wl.total_append, Wl.total, Wl.total]
    omega
  refine ⟨⟨?_, own_keep hrs (fun k hk => hC2.block k (hrs.lt k hk).2 (fun e => H.hr (by rw [hk, List.mem_singleton.1 e]))), own_keep hO (fun k hk => hC2.block k (hO.lt k hk).2 (fun e => ne1 (by rw [hk, List.mem_singleton.1 e]))), H.hr, ne1, fun k hk e => ?_, ok⟩, ⟨?_, fun k hk => ?_⟩⟩
  · rw [heap_setCell_same _ q 7 _ _ _ (heap_setCell_same w' q 6 _ _ _ (hq.trans H.row)), ← htot]
    rfl
  · rcases hv with h | h
    · exact H.ra k hk (h ▸ e)
    · rw [h] at e
      have := lt k (by simp [pfoot, hk])
      have := Option.some.inj e
      omega
  · exact ((Chg.grown hG).mono (fun k hk => by simp [pfoot]; simp at hk; exact .inr (.inr hk))).trans (hC2.mono (fun k hk => by rw [List.mem_singleton.1 hk]; simp [pfoot]))
  · simp only [pfoot, List.mem_cons, List.mem_append, Option.mem_toList] at hk ⊢
    rcases hk with h1 | h1 | h1
    · exact .inl (.inl h1)
    · exact .inl (.inr (.inl h1))
    · rcases hv with e | e
      · rw [e] at h1; exact .inl (.inr (.inr h1))
      · rw [e] at h1
        exact .inr (by have := Option.some.inj h1; omega)
set_option maxHeartbeats 4000000 in
set_option maxRecDepth 20000 in
theorem ladd_any (q g : Nat) (vr vw : Value) (l : Wl.Lg) (r : ByteArray) (w : World) (H : Pk w q g vr vw l) (hrs : r.size ≤ 9223372036854775807) :
    Calls Tryz.prog 93 #[ptr q, .string r] w (PDoes w q g vr vw (Wl.addS l r) (Wl.addE l r)) := by
  have HRD := lready_any q g vr vw l w H
  have HH : Hid (Pk w q g vr vw l) := H
  have HRO : Hid (Calls Tryz.prog 92 #[ptr q] w fun e w' => e = .returned (.int .i64 (Wl.room l)) ∧ ∃ n, w' = w.drewN n) := lroom_any q g vr vw l w H
  have HOK : Hid ((Wl.addS l r).Ok) := Wl.addS_ok H.ok r
  have hrm0 : (0 : Int) ≤ Wl.room l ∧ Wl.room l ≤ 4194304 := room_num l.n l.bytes.size (Wl.total l.wait) H.ok.two (by have := H.ok.most; omega) H.ok.room
  have HKEEP : Hid (∀ W n, (∃ k, W = w.drewN k) → PDoes w q g vr vw l n (.returned (.int .i64 n)) W) := fun W n ⟨k, hk⟩ => by
    subst hk
    exact ⟨vr, vw, rfl, HH.out.drewN k, Turn.of_below ⟨rfl, rfl, rfl, Nat.le_refl _, fun _ _ => rfl⟩⟩
  have hwc := H.wlen
  have htw : Wl.total l.wait ≤ 4194304 := by have h2 := H.ok.room; have h3 := H.ok.most; omega
  clear H
  unfold lreadyE at HRD
  cases hl : l.lost
  · rw [hl, if_neg (by decide)] at HRD
    by_cases hlong : 65536 < r.size
    · have d1 : decide ((65536 : Int) < (r.size : Int)) = true := by simp; omega
      have e1 : Wl.addE l r = 3 := by unfold Wl.addE; rw [hl, if_neg (by decide), if_pos hlong]
      have e2 : Wl.addS l r = l := by unfold Wl.addS; rw [e1, if_neg (by decide)]
      rw [e1, e2]
      clear e1 e2 HOK
      go_enter Tryz.func93, Tryz.ntmps93
      go_wp2_with (go_at_call 109; refine HRD.mono ?_; rintro e w' ⟨rfl, rfl⟩)
      go_ret
      exact HKEEP.out _ 3 ⟨0, rfl⟩
    · have d1 : decide ((65536 : Int) < (r.size : Int)) = false := by simp; omega
      by_cases hfull : Wl.room l - 8 < (r.size : Int)
      · have e1 : Wl.addE l r = 7 := by unfold Wl.addE; rw [hl, if_neg (by decide), if_neg hlong, if_pos hfull]
        have e2 : Wl.addS l r = l := by unfold Wl.addS; rw [e1, if_neg (by decide)]
        rw [e1, e2]
        clear e1 e2 HOK
        generalize Wl.room l = rm at *
        have d2 : decide (rm < 8 + (r.size : Int)) = true := decide_eq_true (by omega)
        have d3 : rm < 8 + (r.size : Int) := by omega
        go_enter Tryz.func93, Tryz.ntmps93
        go_wp2_with (first | (go_at_call 109; refine HRD.mono ?_; rintro e w' ⟨rfl, rfl⟩) | (go_at_call 92; refine HRO.out.mono ?_; rintro e w1 ⟨rfl, hw1⟩))
        go_ret
        exact HKEEP.out w1 7 hw1
      · have e1 : Wl.addE l r = 0 := by unfold Wl.addE; rw [hl, if_neg (by decide), if_neg hlong, if_neg hfull]
        have e2 : Wl.addS l r = { l with wait := l.wait ++ [r] } := by unfold Wl.addS; rw [e1, if_pos rfl]
        rw [e2] at HOK
        rw [e1, e2]
        clear e1 e2
        generalize Wl.room l = rm at *
        have d2 : decide (rm < 8 + (r.size : Int)) = false := decide_eq_false (by omega)
        have d3 : ¬ rm < 8 + (r.size : Int) := by omega
        go_enter Tryz.func93, Tryz.ntmps93
        go_wp2_with fail
        refine HRD.mono ?_
        rintro e w' ⟨rfl, hw⟩
        rw [hw]
        clear hw w' HRD
        go_wp2_with fail
        refine HRO.out.mono ?_
        rintro e w1 ⟨rfl, hw1⟩
        have HW1 : Hid (Below w.heap.size w w1 ∧ w1.heap.size = w.heap.size) := by
          obtain ⟨k, hk⟩ := hw1
          subst hk
          exact ⟨⟨rfl, rfl, rfl, Nat.le_refl _, fun _ _ => rfl⟩, rfl⟩
        have HP1 : Hid (Pk w1 q g vr vw l) := by obtain ⟨k, hk⟩ := hw1; subst hk; exact HH.out.drewN k
        clear hw1 HRO HKEEP HH
        go_wp2_with fail
        have HCL : Hid (Calls Tryz.prog 65 #[.string r] w1.drew fun e w' => e = .returned (.string r) ∧ Below w1.drew.heap.size w1.drew w') := sclone_any r w1.drew (by omega)
        have HS : Hid ((fun U : World => U.cell? ⟨q, 6, none⟩ = some vw) w1.drew) := HP1.out.drew.c6
        refine AnyBut.begin (z := 11) (S := fun U => U.cell? ⟨q, 6, none⟩ = some vw) (by kernel_rfl) ?_
        refine AnyBut.take 0 (some 22) (v := (ptr q)) rfl rfl (by kernel_rfl) (by decide) (by kernel_rfl) (by kernel_rfl) (by kernel_rfl) (by kernel_rfl) (fun _ _ _ h => h) (Or.inl ⟨by rfl, fun w hS => ?_⟩) HS.out ?_
        · (go_simp)
        simp only [Act.put, List.setIfInBounds_toArray, List.set_cons_zero, List.set_cons_succ]
        refine AnyBut.take 1 (some 23) (v := (ptr q)) rfl rfl (by kernel_rfl) (by decide) (by kernel_rfl) (by kernel_rfl) (by kernel_rfl) (by kernel_rfl) (fun _ _ _ h => h) (Or.inl ⟨by rfl, fun w hS => ?_⟩) HS.out ?_
        · (go_simp)
        simp only [Act.put, List.setIfInBounds_toArray, List.set_cons_zero, List.set_cons_succ]
        refine AnyBut.take 2 (some 24) (v := (ptr q)) rfl rfl (by kernel_rfl) (by decide) (by kernel_rfl) (by kernel_rfl) (by kernel_rfl) (by kernel_rfl) (fun _ _ _ h => h) (Or.inl ⟨by rfl, fun w hS => ?_⟩) HS.out ?_
        · (go_simp)
        simp only [Act.put, List.setIfInBounds_toArray, List.set_cons_zero, List.set_cons_succ]
        refine AnyBut.take 3 (some 25) (v := (.pointer (some ⟨q, 6, none⟩))) rfl rfl (by kernel_rfl) (by decide) (by kernel_rfl) (by kernel_rfl) (by kernel_rfl) (by kernel_rfl) (fun _ _ _ h => h) (Or.inl ⟨by rfl, fun w hS => ?_⟩) HS.out ?_
        · (go_simp)
        simp only [Act.put, List.setIfInBounds_toArray, List.set_cons_zero, List.set_cons_succ]
        refine AnyBut.take 4 (some 26) (v := (vw)) rfl rfl (by kernel_rfl) (by decide) (by kernel_rfl) (by kernel_rfl) (by kernel_rfl) (by kernel_rfl) (fun _ _ _ h => h) (Or.inl ⟨by rfl, fun w hS => ?_⟩) HS.out ?_
        · (have q1 := hS; go_simp)
        simp only [Act.put, List.setIfInBounds_toArray, List.set_cons_zero, List.set_cons_succ]
        refine AnyBut.take 5 (some 27) (v := (.string r)) rfl rfl (by kernel_rfl) (by decide) (by kernel_rfl) (by kernel_rfl) (by kernel_rfl) (by kernel_rfl) (fun _ _ _ h => h) (Or.inl ⟨by rfl, fun w hS => ?_⟩) HS.out ?_
        · (go_simp)
        simp only [Act.put, List.setIfInBounds_toArray, List.set_cons_zero, List.set_cons_succ]
        refine AnyBut.one 6 (by kernel_rfl) rfl (by rfl) (fun KK hK => ?_)
        go_simp
        go_at_call 65
        refine HCL.out.mono ?_
        rintro e w2 ⟨rfl, hB2⟩
        have HP2 : Hid (Pk w2 q g vr vw l) := HP1.out.drew.below hB2
        have HB2 : Hid (Below w.heap.size w w2) := HW1.out.1.drew.trans (hB2.mono HW1.out.1.size)
        refine hK.out _ _ (fun _ => HP2.out.c6) ?_
        clear hK KK hB2 HCL
        refine AnyBut.one 7 (by kernel_rfl) rfl (by rfl) (fun KK hK => ?_)
        go_simp
        have HP3 : Hid (Pk (w2.alloc (.cells #[.string r] 9)) q g vr vw l) := HP2.out.alloc _
        refine hK.out _ _ (fun _ => HP3.out.c6) ?_
        clear hK KK
        refine AnyBut.one 8 (by kernel_rfl) rfl (by rfl) (fun KK hK => ?_)
        refine opw_many (.tmp 26) (.tmp 29) (some 30) rfl rfl 0 vw _ l.wait [r] rfl HP3.out.wait rfl (own_new w2 r) (by simp; omega) (Nat.zero_le _) ?_
        intro v' w3 hO3 hG3 hv3
        have HN := (show Hid _ from HP3.out.added hG3 hO3 hv3 HOK.out)
        have hq3 : w3.heap[q]? = (w2.alloc (.cells #[.string r] 9)).heap[q]? := hG3.block q (HP3.out.lt q (by simp [pfoot])) (fun e => HP3.out.hw e.symm)
        have c6 : w3.cell? ⟨q, 6, none⟩ = some vw := (World.cell?_of_block hq3).trans HP3.out.c6
        have c7 : w3.cell? ⟨q, 7, none⟩ = some (.int .i64 (Wl.total l.wait : Int)) := (World.cell?_of_block hq3).trans HP3.out.c7
        have f6 : w3.frozen? ⟨q, 6, none⟩ = false := (World.frozen?_of_block hq3).trans (HP3.out.fz 6)
        have f7 : w3.frozen? ⟨q, 7, none⟩ = false := (World.frozen?_of_block hq3).trans (HP3.out.fz 7)
        have HTT : Hid (Turn (pfoot q vr vw) (pfoot q vr v') w ((w3.setCell ⟨q, 6, none⟩ v').setCell ⟨q, 7, none⟩ (.int .i64 ((Wl.total l.wait : Int) + (8 + (r.size : Int)))))) := (Turn.of_below (HB2.out.alloc HB2.out.size _)).trans HN.out.2
        obtain ⟨va, vc, hv'⟩ := own_slice hO3
        rw [show (l.wait ++ [r]).length = l.wait.length + 1 by simp] at hv'
        have HV' : Hid (v' = .slice va (l.wait.length + 1) vc) := hv'
        clear hO3 hG3 hv3 hv'
        refine hK.out _ _ (fun _ => c6) ?_
        clear hK KK
        simp only [Act.put, List.setIfInBounds_toArray, List.set_cons_zero, List.set_cons_succ]
        have HS3 : Hid ((fun U : World => U.cell? ⟨q, 6, none⟩ = some vw) w3) := c6
        refine AnyBut.take 9 (some 31) (v := (ptr q)) rfl rfl (by kernel_rfl) (by decide) (by kernel_rfl) (by kernel_rfl) (by kernel_rfl) (by kernel_rfl) (fun _ _ _ h => h) (Or.inl ⟨by rfl, fun w hS => ?_⟩) HS3.out ?_
        · (go_simp)
        simp only [Act.put, List.setIfInBounds_toArray, List.set_cons_zero, List.set_cons_succ]
        refine AnyBut.take 10 (some 32) (v := (.pointer (some ⟨q, 6, none⟩))) rfl rfl (by kernel_rfl) (by decide) (by kernel_rfl) (by kernel_rfl) (by kernel_rfl) (by kernel_rfl) (fun _ _ _ h => h) (Or.inl ⟨by rfl, fun w hS => ?_⟩) HS3.out ?_
        · (go_simp)
        simp only [Act.put, List.setIfInBounds_toArray, List.set_cons_zero, List.set_cons_succ]
        refine AnyBut.one 11 (by kernel_rfl) rfl (by rfl) (fun KK hK => ?_)
        rw [HV'.out]
        go_simp
        refine hK.out _ _ (fun h => absurd rfl h) ?_
        clear hK KK
        refine AnyBut.done (by kernel_rfl) ?_
        rw [HV'.out] at HN HTT
        rw [hl] at HN
        generalize Wl.total l.wait = tw at *
        go_wp2
        go_ret
        exact ⟨_, _, rfl, HN.out.1, HTT.out⟩
  · rw [hl, if_pos rfl] at HRD
    have e1 : Wl.addE l r = 10 := by unfold Wl.addE; rw [hl, if_pos rfl]
    have e2 : Wl.addS l r = l := by unfold Wl.addS; rw [e1, if_neg (by decide)]
    rw [e1, e2]
    clear e1 e2 HOK
    go_enter Tryz.func93, Tryz.ntmps93
    go_wp2_with (go_at_call 109; refine HRD.mono ?_; rintro e w' ⟨rfl, rfl⟩)
    go_ret
    exact HKEEP.out _ 10 ⟨0, rfl⟩
end Go.Proofs.YtcfninpokngmlaaGreatDoor
/- Proved: what a log's read tells of the disk. -/
namespace Go.Proofs.YtcfninpokngmlaaGreatDoor
open Go.RowKit
theorem read_up {s : Sc.St} {i : Nat} (hd : s.down = false) (hi : i < s.kept.length) : Sc.readV s (i : Int) = Sc.now s i ∧ Sc.readE s (i : Int) = 0 := by
  have hh : Sc.has s (i : Int) = true := Sc.has_iff.2 ⟨by omega, by omega⟩
  unfold Sc.readV Sc.readE
  rw [hd, hh]
  simp only [Bool.false_eq_true, Bool.true_eq_false, if_false, Int.toNat_natCast]
  exact ⟨trivial, trivial⟩
/- one sector more -/
theorem read_step {b x : ByteArray} {i n : Nat} (hn : b.size = n) (h : 64 * i < n) (hx : x.size = 64) (hb : ∀ j, j < 64 → 64 * i + j < n → x.data.toList[j]? = b.data.toList[64 * i + j]?) :
    b.extract 0 (64 * i) ++ x.extract 0 (min (n - 64 * i) 64) = b.extract 0 (min (64 * (i + 1)) n) := by
  have hbl := Sc.size_eq b
  have hxl := Sc.size_eq x
  apply Wl.ext_list
  rw [Wl.app_list, Wl.ext_ext, Wl.ext_ext, Wl.ext_ext, List.drop_zero, List.drop_zero, List.drop_zero]
  have hl1 : (b.data.toList.take (64 * i)).length = 64 * i := by rw [List.length_take]; omega
  apply List.ext_getElem?
  intro j
  by_cases h1 : j < 64 * i
  · rw [List.getElem?_append_left (by rw [List.length_take]; omega), List.getElem?_take_of_lt h1, List.getElem?_take_of_lt (by omega)]
  · rw [List.getElem?_append_right (by omega), hl1]
    by_cases h2 : j < min (64 * (i + 1)) n
    · rw [List.getElem?_take_of_lt (by omega), List.getElem?_take_of_lt h2, hb (j - 64 * i) (by omega) (by omega), show 64 * i + (j - 64 * i) = j by omega]
    · rw [List.getElem?_eq_none (by rw [List.length_take]; omega), List.getElem?_eq_none (by rw [List.length_take]; omega)]
theorem ext_zero (b : ByteArray) : b.extract 0 0 = ⟨#[]⟩ := by
  apply Wl.ext_list
  rw [Wl.ext_ext]
  rfl
theorem ext_all (b : ByteArray) {k : Nat} (h : b.size ≤ k) : b.extract 0 k = b := by
  apply Wl.ext_list
  rw [Wl.ext_ext, List.drop_zero, List.take_of_length_le (by rw [← Sc.size_eq]; exact h)]
set_option maxHeartbeats 4000000 in
set_option maxRecDepth 20000 in
theorem lread_any (q g kg : Nat) (vp : Value) (s : Sc.St) (k0 n : Nat) (b : ByteArray) (w : World) (hc0 : w.cell? ⟨q, 0, none⟩ = some (ptr g)) (hD : Dk w g kg vp s) (hd : s.down = false) (hn : b.size = n) (hm : n ≤ 10000000) (hk0 : k0 ≤ 10000000) (hat : ∀ i, 64 * i < n → k0 + i < s.kept.length) (hb : ∀ i j, j < 64 → 64 * i + j < n → (Sc.now s (k0 + i)).data.toList[j]? = b.data.toList[64 * i + j]?) :
    Calls Tryz.prog 98 #[ptr q, .int .i64 (k0 : Int), .int .i64 (n : Int)] w fun e w' => ∃ v, e = .returned (.tuple #[v, .int .i64 0]) ∧ OwnB w' w.heap.size v b ∧ Below w.heap.size w w' := by
  have HD : Hid (Dk w g kg vp s) := hD
  have HC0 : Hid (w.cell? ⟨q, 0, none⟩ = some (ptr g)) := hc0
  have hq : q < w.heap.size := block_lt_of_cell hc0
  have HAT : Hid (∀ i, 64 * i < n → k0 + i < s.kept.length) := hat
  have HBB : Hid (∀ i j, j < 64 → 64 * i + j < n → (Sc.now s (k0 + i)).data.toList[j]? = b.data.toList[64 * i + j]?) := hb
  clear hD hc0 hat hb
  have hb1 : Tryz.t5.bytes = 1 := rfl
  go_enter Tryz.func98, Tryz.ntmps98
  go_wp2_with (first | (at_make; refine wpList_make_own w rfl _ _ 138 rfl w.heap.size 5 Tryz.t5 (.int .u8 0) 1 Tryz.underlying138 info_u8 rfl rfl .i64 .i64 (n : Int) n rfl rfl rfl (by rw [hb1]; omega) (by unfold maxLen; omega) (Nat.le_refl _) ?_; intro w1 hO1 hG1; have HO1 := (show Hid (OwnB w1 w.heap.size _ (b.extract 0 (64 * 0))) from (by show World.ownsRow _ _ _ _ _ _ _; rw [ext_zero]; exact hO1)); have HB1 : Hid (Below w.heap.size w w1) := ⟨hG1.os, hG1.tape, hG1.output, hG1.size, fun k hk => hG1.block k hk (by simp)⟩; clear hO1 hG1))
  go_loopw [1, 8, 9, 10] (fun s1 s8 _ _ wr => ∃ i : Nat, i ≤ n ∧ s1 = .int .i64 ((k0 + i : Nat) : Int) ∧ OwnB wr w.heap.size s8 (b.extract 0 (min (64 * i) n)) ∧ Below w.heap.size w wr) (fun s1 _ _ _ _ => k0 + n - (intOf s1).toNat)
  case atStart => exact ⟨0, by omega, rfl, (by rw [show min (64 * 0) n = 64 * 0 by omega]; exact HO1.out), HB1.out⟩
  case round =>
    obtain ⟨i, hi, rfl, hO, hB⟩ := hrel
    have HB : Hid (Below w.heap.size w wr) := hB
    have HO := (show Hid (OwnB wr w.heap.size _ (b.extract 0 (min (64 * i) n))) from hO)
    obtain ⟨va, vc, hv⟩ : ∃ va vc, _ = Value.slice va (b.extract 0 (min (64 * i) n)).size vc := own_slice hO
    have hlen : (b.extract 0 (min (64 * i) n)).size = min (64 * i) n := by simp; omega
    rw [hlen] at hv
    have hsz := hB.size
    clear HO1 HB1 hO hB
    by_cases hin : 64 * i < n
    · have HY : Hid (b.extract 0 (min (64 * i) n) = b.extract 0 (64 * i)) := by rw [Nat.min_eq_left (by omega)]; trivial
      rw [HY.out] at HO hlen
      rw [Nat.min_eq_left (by omega)] at hv hlen
      have hk := HAT.out i hin
      have hrd := read_any g kg vp s ((k0 + i : Nat) : Int) wr (HD.out.below HB.out)
      obtain ⟨e1, e2⟩ := read_up hd hk
      rw [e1, e2] at hrd
      have hxs : (Sc.now s (k0 + i)).size = 64 := Sc.now_size HD.out.ok (k0 + i)
      have hst := read_step hn hin hxs (HBB.out i)
      generalize Sc.now s (k0 + i) = x at *
      have c0 : wr.cell? ⟨q, 0, none⟩ = some (ptr g) := (HB.out.cell (p := ⟨q, 0, none⟩) hq).trans HC0.out
      have d1 : decide (((64 * i : Nat) : Int) < (n : Int)) = true := decide_eq_true (by omega)
      have d2 : 64 * i < n := hin
      have hcut : (x.extract 0 (min (n - 64 * i) 64)).size = min (n - 64 * i) 64 := by simp; omega
      have HST : Hid (b.extract 0 (64 * i) ++ x.extract 0 (min (n - 64 * i) 64) = b.extract 0 (min (64 * (i + 1)) n)) := hst
      clear hst e1 e2
      have HV := (show Hid _ from hv)
      have HB2' : Hid True := trivial
      clear HBB HAT
      generalize hm2 : min (n - 64 * i) 64 = m2 at *
      have hmin : min ((n : Int) - 64 * (i : Int)) 64 = (m2 : Int) := by omega
      have hm3 : m2 ≤ 64 := by omega
      subst hv
      go_wp2_with fail
      refine hrd.mono ?_
      rintro e w2 ⟨rfl, hB2⟩
      have HBq : Hid (Below w.heap.size w w2) := HB.out.trans (hB2.mono hsz)
      have HOq := (show Hid (OwnB w2 w.heap.size _ (b.extract 0 (64 * i))) from own_below HO.out hB2)
      have hs2 := HBq.out.size
      clear hB2 hrd
      have hq1 : (b.extract 0 (64 * i)).size + (x.extract 0 m2).size ≤ 1000000000 := by rw [hlen, hcut]; omega
      go_wp2_with (first | (refine app_text rfl (.tmp 31) (.tmp 40) rfl _ w.heap.size _ (b.extract 0 (64 * i)) rfl HOq.out (x.extract 0 m2) rfl hq1 hs2 ?_; intro v3 w3 hO3 hB3))
      have HFN : Hid (∃ i' : Nat, i' ≤ n ∧ Value.int .i64 ((k0 : Int) + (i : Int) + 1) = .int .i64 ((k0 + i' : Nat) : Int) ∧ OwnB w3 w.heap.size v3 (b.extract 0 (min (64 * i') n)) ∧ Below w.heap.size w w3) := ⟨i + 1, (by omega), (by congr 1), (by rw [← HST.out]; exact hO3), HBq.out.trans hB3⟩
      clear hO3 hB3
      go_roundw
      case rel => first | exact HFN.out | ((repeat apply Exists.intro); exact ⟨HFN.out, rfl⟩)
      case measure => (simp [intOf]) <;> omega
    · have d1 : decide (((min (64 * i) n : Nat) : Int) < (n : Int)) = false := decide_eq_false (by omega)
      have d2 : ¬ min (64 * i) n < n := by omega
      have HFN : Hid (OwnB wr w.heap.size (.slice va (min (64 * i) n) vc) b) := by
        have e1 : b.extract 0 (min (64 * i) n) = b := ext_all b (by omega)
        have := HO.out
        rw [e1, hv] at this
        exact this
      subst hv
      generalize min (64 * i) n = k at *
      clear HO
      go_wp2
      go_ret2
      exact ⟨_, rfl, HFN.out, HB.out⟩
end Go.Proofs.YtcfninpokngmlaaGreatDoor
