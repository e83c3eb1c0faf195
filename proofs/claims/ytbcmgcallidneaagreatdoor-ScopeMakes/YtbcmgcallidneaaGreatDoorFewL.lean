/- Proved: the laws' few: at most twenty texts, of each at most 150 bytes, in memory of its own; the laws' comparison of lists. -/
import Derived.Test.YtbcmgcallidneaaGreatDoorCat
import Derived.Test.YtbcmgcallidneaaGreatDoorParent
import Derived.SliceStrings
namespace Go.Proofs.YtbcmgcallidneaaGreatDoor
open Go.RowKit
/- a list that comes in -/
structure InA (w : World) (ad : Option Addr) (n : Nat) (ss : List ByteArray) : Prop where
  len : ss.length = n
  most : n ≤ 9223372036854775807
  lies : 0 < n → ∃ b off, ad = some ⟨b, off, none⟩ ∧ b < w.heap.size ∧ ∀ j, j < n → w.cell? ⟨b, off + j, none⟩ = some (.string (ss.getD j ByteArray.empty))
  each : ∀ s ∈ ss, s.size ≤ 9223372036854775807
theorem InA.below {w w' : World} {ad : Option Addr} {n : Nat} {ss : List ByteArray} (h : InA w ad n ss) (hb : Below w.heap.size w w') : InA w' ad n ss :=
  ⟨h.len, h.most, fun h0 => by
    obtain ⟨b, off, e, hlt, hc⟩ := h.lies h0
    exact ⟨b, off, e, Nat.lt_of_lt_of_le hlt hb.size, fun j hj => (hb.cell (p := ⟨b, off + j, none⟩) hlt).trans (hc j hj)⟩, h.each⟩
theorem InA.of {w : World} {ad : Option Addr} {l : List Pm.T} (h : TxtA w ad l) (hl : l.length ≤ 1000000) (hx : ∀ x ∈ l, x.length ≤ 1000000) : InA w ad l.length (l.map Go.Proofs.YtbcmgcallidneaaGreatDoor.mk) :=
  ⟨by simp, by omega, fun h0 => by
    obtain ⟨g, e, hg, ht⟩ := h h0
    exact ⟨g, 0, e, hg, fun j hj => ht.cells j (by simpa using hj)⟩, fun s hs => by
    obtain ⟨x, hm, rfl⟩ := List.mem_map.1 hs
    have := hx x hm
    rw [mk_size]; omega⟩
theorem one_cell_new {W : World} {a : Addr} {v : Value} (h : W.cell? a = some v) (hb : a.block < W.heap.size) (o : Obj) : (W.alloc o).cell? a = some v := (((Below.refl _ W).alloc (Nat.le_refl _) o).cell hb).trans h
theorem one_cell_below {N : Nat} {A B : World} {a : Addr} {v : Value} (h : A.cell? a = some v) (hb : a.block < N) (hB : Below N A B) : B.cell? a = some v := (hB.cell hb).trans h
def cut (s : ByteArray) : Pm.T := (bl s).take 150
def fews (ss : List ByteArray) : List Pm.T := (ss.take 20).map cut
theorem cut_length (s : ByteArray) : (cut s).length ≤ 150 := by rw [cut, List.length_take]; omega
theorem fews_length (ss : List ByteArray) : (fews ss).length ≤ 20 := by rw [fews, List.length_map, List.length_take]; omega
theorem fews_short (ss : List ByteArray) : ∀ x ∈ fews ss, x.length ≤ 150 := fun x hx => by
  obtain ⟨s, _, rfl⟩ := List.mem_map.1 hx
  exact cut_length s
theorem fews_same {l : List Pm.T} (hl : l.length ≤ 20) (hx : ∀ x ∈ l, x.length ≤ 150) : fews (l.map mk) = l := by
  rw [fews, List.take_of_length_le (by simpa using hl), List.map_map]
  conv => rhs; rw [← List.map_id l]
  exact List.map_congr_left fun x h => List.take_of_length_le (hx x h)
theorem extract_cut (s : ByteArray) : s.extract 0 (min (s.size : Int) 150).toNat = mk (cut s) := bl_inj (by
  rw [bl_mk, cut, bl, Lib.extract_from_zero]
  by_cases h : s.size ≤ 150
  · rw [show (min (s.size : Int) 150).toNat = s.size by omega, ← bl_length s, List.take_of_length_le (Nat.le_refl _), List.take_of_length_le (by rw [bl_length]; exact h)]
  · rw [show (min (s.size : Int) 150).toNat = 150 by omega])
theorem step_append_str {ops : Array Oper} {o : Oper} {a : Act} {w : World} {K : Act → World → Prop} {Q : Exit → Act → World → Prop} {E : Prop} (hgd : o.guard = none) (s x : Operand)
    (ho : o.op = .call { callee := .builtin .append, args := #[s, x], argTypes := #[22, 22] }) (N : Nat) (v : Value) (n : Nat) (vs : List Value) (hs : a.eval s = v) (hown : w.ownsRow N 9 1 v n vs)
    (ad : Addr) (c : Nat) (t : ByteArray) (hx : a.eval x = .slice (some ad) 1 c) (hnews : ∀ j u, [Value.string t][j]? = some u → w.cell? (ad.add j) = some u) (hb : n + 1 ≤ 50000) (hN : N ≤ w.heap.size)
    (h : ∀ v' w', w'.ownsRow N 9 1 v' (n + 1) (vs ++ [.string t]) → Below N w w' → K (a.put o.dst v') w') :
    if Region.wanted o (yielded ops a.tmps) = true then Oper.wp Tryz.prog o a w K Q else E := by
  have hw : Region.wanted o (yielded ops a.tmps) = true := by simp [Region.wanted, hgd]
  rw [if_pos hw]
  obtain ⟨v', w', hr, h2, h3, h4, h5⟩ := run_append_own_at (P := Tryz.prog) w N 22 o.type 9 Tryz.t9 (.string ByteArray.empty) 1 16 Tryz.underlying22 info9 rfl rfl rfl rfl (by omega) v n vs hown ad 1 c [.string t] rfl hnews (fun u hu => by rw [List.mem_singleton.1 hu]; rfl) (by unfold maxLen; omega) (by omega) hN
  have hG : Grew w v w' v' := ⟨h3, h5.imp id (fun h => ⟨_, h, Nat.le_refl _⟩)⟩
  unfold Oper.wp execOp
  simp only [ho, resolve, invoke, builtin, Sem.run_bind, Sem.run_pure, Result.andThen_ok, List.map_toArray, List.map_cons, List.map_nil, hs, hx, hr]
  exact h v' w' h2 (hG.below hown hN)
theorem fews_step {ss : List ByteArray} {k : Nat} (hk : k < ss.length) : (ss.take (k + 1)).map cut = (ss.take k).map cut ++ [cut (ss.getD k ByteArray.empty)] := by
  rw [List.take_succ_eq_append_getElem hk, List.map_append, List.getD_eq_getElem?_getD, List.getElem?_eq_getElem hk]; rfl
set_option maxHeartbeats 4000000 in
set_option maxRecDepth 20000 in
theorem few_any (ad : Option Addr) (n c : Nat) (ss : List ByteArray) (w : World) (hI : InA w ad n ss) :
    Calls Tryz.prog 6 #[.slice ad n c] w fun e w' => ∃ v, e = .returned v ∧ w'.ownsRow w.heap.size 9 1 v (fews ss).length (scells (fews ss)) ∧ Below w.heap.size w w' := by
  have HI : Hid (InA w ad n ss) := hI
  have hmost := hI.most
  clear hI
  go_enter Tryz.func6, Tryz.ntmps6
  go_wp2_with fail
  go_loopw [3, 4] (fun v i wr => ∃ (k : Nat) (st : List Pm.T), k ≤ n ∧ k ≤ 20 ∧ i = .int .i64 k ∧ st = (ss.take k).map cut ∧ st.length = k ∧ wr.ownsRow w.heap.size 9 1 v st.length (scells st) ∧ Below w.heap.size w wr) (fun _ i _ => 20 - (intOf i).toNat)
  case atStart => exact ⟨0, [], by omega, by omega, rfl, rfl, rfl, own_nil _ _, Below.refl _ _⟩
  case round =>
    obtain ⟨k, st, hkn, hk20, rfl, hst, hsl, ho, hB⟩ := hrel
    have HS : Is st ((ss.take k).map cut) := ⟨hst⟩
    have HO : Hid (wr.ownsRow w.heap.size 9 1 u3 st.length (scells st)) := ho
    have HB : Hid (Below w.heap.size w wr) := hB
    have hsz := hB.size
    obtain ⟨ad3, c3, hv3, _⟩ := own_txt ho
    subst hv3
    by_cases hlt : k < n ∧ k < 20
    · obtain ⟨hln, hl20⟩ := hlt
      have i0 : (k : Int) < (n : Int) := by omega
      have i1 : (k : Int) < 20 := by omega
      have j0 : (0 : Int) ≤ (k : Int) := Int.natCast_nonneg _
      obtain ⟨b, off, he, hbl, hc⟩ := HI.out.lies (by omega)
      subst he
      have HC : Hid (wr.cell? ⟨b, off + k, none⟩ = some (.string (ss.getD k ByteArray.empty))) := (hB.cell (p := ⟨b, off + k, none⟩) hbl).trans (hc k hln)
      have hbr : b < wr.heap.size := Nat.lt_of_lt_of_le hbl hsz
      have HEx : Is ((ss.getD k ByteArray.empty).extract 0 (min ((ss.getD k ByteArray.empty).size : Int) 150).toNat) (mk (cut (ss.getD k ByteArray.empty))) := ⟨extract_cut _⟩
      have HNx : Is ((ss.take (k + 1)).map cut) (st ++ [cut (ss.getD k ByteArray.empty)]) := ⟨by rw [HS.eq]; exact fews_step (by rw [HI.out.len]; exact hln)⟩
      have HSC : Is (scells (st ++ [cut (ss.getD k ByteArray.empty)])) (scells st ++ [.string (mk (cut (ss.getD k ByteArray.empty)))]) := ⟨by rw [scells, scells, List.map_append]; rfl⟩
      have HKL : Is st.length k := ⟨hsl⟩
      clear hst hB ho hc HS
      generalize cut (ss.getD k ByteArray.empty) = x at *
      generalize ss.getD k ByteArray.empty = s at *
      have hs20 : st.length ≤ 20 := by omega
      have HX : Hid (s.extract 0 (min (s.size : Int) 150).toNat = mk x) := HEx.eq
      clear hsl HEx
      have m0 : (0 : Int) ≤ min (s.size : Int) 150 := by omega
      have m1 : min (s.size : Int) 150 ≤ (s.size : Int) := by omega
      go_wp2_with fail
      go_region_held3 (fun w' => w'.cell? ⟨b, off + k, none⟩ = some (.string s))
        (first | exact HC.out | assumption | exact one_cell_new (by exact HC.out) (show b < _ by omega) _ | exact one_cell_below (by first | exact one_cell_new (W := wr) HC.out (show b < _ by omega) _ | exact one_cell_new (W := wr.drew) HC.out (show b < _ by omega) _) (show b < w.heap.size from hbl) hB')
        (first | (refine step_append_str rfl (.tmp 15) (.tmp 27) rfl w.heap.size _ st.length (scells st) rfl (own_below HO.out (by first | exact ((Below.refl _ _).alloc (Nat.le_refl _) _).drew | exact ((Below.refl _ _).drew).alloc (Nat.le_refl _) _)) ⟨wr.heap.size, 0, none⟩ 1 _ rfl (by exact str_new wr _) (by omega) (by simp; omega) ?_; intro v' w' hO' hB'))
      rw [HX.out] at hO'
      have HF : ∃ (k' : Nat) (st' : List Pm.T), k' ≤ n ∧ k' ≤ 20 ∧ Value.int .i64 ((k : Int) + 1) = .int .i64 k' ∧ st' = (ss.take k').map cut ∧ st'.length = k' ∧ w'.ownsRow w.heap.size 9 1 v' st'.length (scells st') ∧ Below w.heap.size w w' :=
        ⟨k + 1, st ++ [x], by omega, by omega, by go_num, HNx.eq.symm, by rw [List.length_append, HKL.eq]; rfl, by rw [HSC.eq, List.length_append]; exact hO', HB.out.trans ((((Below.refl _ _).alloc (Nat.le_refl _) _).drew.mono hsz).trans hB')⟩
      go_wp2
      go_roundw
      case rel => first | exact HF | ((repeat apply Exists.intro); exact ⟨HF, rfl⟩)
      case measure => (simp [intOf]) <;> omega
    · have HM : Is (fews ss) st := ⟨by
        rw [HS.eq, fews]
        by_cases h20 : k = 20
        · rw [h20]
        · have hkk : k = n := by omega
          rw [List.take_of_length_le (by rw [HI.out.len]; omega), List.take_of_length_le (by rw [HI.out.len]; omega)]⟩
      have HKL : Hid (st.length = k) := hsl
      clear hst hB ho hsl
      by_cases h0 : k < n
      · have i0 : (k : Int) < (n : Int) := by omega
        have i1 : ¬ (k : Int) < 20 := by omega
        go_wp2_with fail
        go_ret
        exact ⟨_, rfl, by rw [HM.eq]; exact HO.out, HB.out⟩
      · have i0 : ¬ (k : Int) < (n : Int) := by omega
        go_wp2_with fail
        go_ret
        exact ⟨_, rfl, by rw [HM.eq]; exact HO.out, HB.out⟩
end Go.Proofs.YtbcmgcallidneaaGreatDoor
