/- Proved: what the document's Split answers. -/
import Derived.Test.YtefpaebbendnmaaDoorApp
import Derived.Test.YtefpaebbendnmaaDoorMathR
namespace Go.Proofs.YtefpaebbendnmaaDoor
open Go.RowKit
open Ck (T cnt cntZ zs pc chunks grow)
structure Shape (w : World) (N : Nat) (v : Value) (rs : List T) : Prop where
  ex : ∃ g cap, v = .slice (some ⟨g, 0, none⟩) rs.length cap ∧ N ≤ g ∧ g < w.heap.size ∧ w.frozen? ⟨g, 0, none⟩ = false ∧ (∀ i r, rs[i]? = some r → w.cell? ⟨g, i, none⟩ = some (tv r)) ∧ (∀ i, w.frozen? ⟨g, i, none⟩ = false) ∧ ∀ i t, OwnT (w.setCell ⟨g, i, none⟩ (tv t)) N v (rs.set i t)
theorem OwnT.shape {w : World} {N : Nat} {v : Value} {rs : List T} (h : OwnT w N v rs) (h0 : 0 < rs.length) : Shape w N v rs := by
  rcases h.2 with ⟨h1, h2⟩ | ⟨g, cap, cur, hv, hN, hh, hc, hm, hs, ht⟩
  · omega
  · refine ⟨g, cap, hv, hN, (Array.getElem?_eq_some_iff.1 hh).1, frozen_of_row w g _ _ _ hh, fun i r hr => ?_, fun i => frozen_of_row w g _ _ _ hh, fun i t => ?_⟩
    · have hi := (List.getElem?_eq_some_iff.1 hr).1
      rw [cell_of_row w g i cur _ (0, 0) hh, ← Array.getElem?_toList]
      have e : (cur.toList.take (rs.length * 1))[i]? = (rs.map tv)[i]? := by rw [ht]
      rw [List.getElem?_take_of_lt (by omega)] at e
      rw [e, List.getElem?_map, hr]
      rfl
    · show World.ownsRow _ N 9 1 v (rs.set i t).length ((rs.set i t).map tv)
      rw [List.length_set]
      refine ⟨by simp, .inr ⟨g, cap, cur.setIfInBounds i (tv t), hv, hN, heap_setCell_same w g i cur 9 _ hh, hc, hm, by simpa using hs, ?_⟩⟩
      have e1 : (cur.setIfInBounds i (tv t)).toList = cur.toList.set i (tv t) := by simp
      rw [e1, List.take_set, ht, List.map_set]
theorem wrapN (n : Nat) (h : n ≤ 1000000000) : IntKind.i64.wrap (n : Int) = (n : Int) := by rw [IntKind.wrap_i64]; omega
theorem ext_one (s : ByteArray) (k : Nat) (h : k < (bl s).length) : s.extract k (k + 1) = mk [(bl s)[k]'h] := bl_inj (by
  rw [bl_ext, ext_mid, List.drop_eq_getElem_cons h]
  rfl)
theorem get_size (s : ByteArray) (k : Nat) (h : k < s.size) : k < (bl s).length := by rw [bl_length]; exact h
set_option maxHeartbeats 4000000 in
set_option maxRecDepth 20000 in
theorem rsplit_any (s : ByteArray) (w : World) (hs : s.size ≤ 100000) :
    Calls Tryd.prog 16 #[.string s] w fun e w' => ∃ v, e = .returned v ∧ OwnT w' w.heap.size v (chunks (bl s)) ∧ Below w.heap.size w w' := by
  go_enter Tryd.func16, Tryd.ntmps16
  go_wp2_with fail
  go_loopw [3, 4] (fun v i wr => ∃ k : Nat, k ≤ s.size ∧ i = .int .i64 (k : Int) ∧ OwnT wr w.heap.size v (chunks ((bl s).take k)) ∧ Below w.heap.size w wr) (fun _ i _ => s.size - (intOf i).toNat)
  case atStart => exact ⟨0, by omega, rfl, by rw [List.take_zero, Ck.chunks_nil]; exact World.ownsRow_nil _ _ _ _, Below.refl _ _⟩
  case round =>
    obtain ⟨k, hk, rfl, hO, hB⟩ := hrel
    have HB : Hid (Below w.heap.size w wr) := hB
    have HO : Hid (OwnT wr w.heap.size u3 (chunks ((bl s).take k))) := hO
    have hsz := hB.size
    clear hB hO
    by_cases hlt : k < s.size
    · have i0 : (k : Int) < (s.size : Int) := by omega
      have j0 : (0 : Int) ≤ (k : Int) := Int.natCast_nonneg _
      have hkl := get_size s k hlt
      have HG : Is (chunks ((bl s).take (k + 1))) ((grow (bl s) k).set (k / 64) (pc ((bl s).take k) (k / 64) ++ [(bl s)[k]'hkl])) := ⟨Ck.chunks_grow hkl⟩
      have HGL : Is (grow (bl s) k).length (k / 64 + 1) := ⟨Ck.grow_length hkl⟩
      have HGG : Hid ((grow (bl s) k)[k / 64]? = some (pc ((bl s).take k) (k / 64))) := Ck.grow_get hkl (by omega)
      have HX : Is (s.extract k (k + 1)) (mk [(bl s)[k]'hkl]) := ⟨ext_one s k hkl⟩
      have hpl := Ck.pc_length ((bl s).take k) (k / 64)
      have hp64 : (pc ((bl s).take k) (k / 64)).length ≤ 64 := by omega
      have hm9 : k / 64 ≤ 2000 := by omega
      have hcl : (chunks ((bl s).take k)).length ≤ 2000 := by rw [Ck.chunks_length, List.length_take]; unfold cnt; omega
      have HCL : Hid ((chunks ((bl s).take k)).length ≤ 2000) := hcl
      clear hpl hcl
      have htm : (k : Int).tmod 64 = ((k % 64 : Nat) : Int) := (Int.tmod_eq_emod_of_nonneg (by omega)).trans (by omega)
      have wk : IntKind.i64.wrap ((k : Int) + 1) = (k : Int) + 1 := by rw [show (k : Int) + 1 = ((k + 1 : Nat) : Int) by omega]; exact wrapN _ (by omega)
      have j3 : (k : Int) ≤ (k : Int) + 1 := by omega
      have j4 : (k : Int) + 1 ≤ (s.size : Int) := by omega
      generalize (bl s)[k]'hkl = b at *
      generalize hp : pc ((bl s).take k) (k / 64) = p at *
      have HP : Hid (p.length ≤ 64) := hp64
      clear hp hp64
      have A1 : ∀ W : World, (Op.stringOp .add (mk p) (s.extract k (k + 1))).run Tryd.prog W = .ok (.string (mk (p ++ [b]))) W := fun W => by
        rw [run_string_add_sum W _ _ (by have := HP.out; rw [ByteArray.size_extract, mk_size]; omega), HX.eq, mk_append]
      clear HX
      by_cases h0 : k % 64 = 0
      · have HOG : Is (grow (bl s) k) (chunks ((bl s).take k) ++ [[]]) := ⟨by unfold grow; rw [if_pos h0]⟩
        have hb0 : (((k % 64 : Nat) : Int) == 0) = true := by rw [h0]; rfl
        have HZ : Is (k % 64) 0 := ⟨h0⟩
        rw [h0] at htm
        obtain ⟨ad3, c3, hv3⟩ := own_slice HO.out
        subst hv3
        have B1 : Hid (OwnT (wr.alloc (.cells #[tv []] 9)) w.heap.size (.slice ad3 (chunks ((bl s).take k)).length c3) (chunks ((bl s).take k))) := own_alloc HO.out _
        have B2 : Hid ((chunks ((bl s).take k)).length ≤ 1000000) := by have := HCL.out; show (chunks ((bl s).take k)).length ≤ 1000000; omega
        have B3 : Hid (w.heap.size ≤ (wr.alloc (.cells #[tv []] 9)).heap.size) := Nat.le_trans HB.out.size (by simp)
        have B4 : Hid (∀ v' w', OwnT w' w.heap.size v' (chunks ((bl s).take k) ++ [[]]) → Below w.heap.size (wr.alloc (.cells #[tv []] 9)) w' → OwnT w' w.heap.size v' (grow (bl s) k) ∧ Below w.heap.size w w') := fun v' w' h1 h2 => ⟨by rw [HOG.eq]; exact h1, (HB.out.alloc HB.out.size _).trans h2⟩
        clear HOG hb0 h0
        go_wp2_with (first
          | (at_builtin
             refine app_str rfl (.tmp 14) (.tmp 15) rfl (wr.alloc (.cells #[tv []] 9)) w.heap.size (.slice ad3 (chunks ((bl s).take k)).length c3) (chunks ((bl s).take k)) [] rfl B1.out ⟨wr.heap.size, 0, none⟩ 1 rfl (one_new wr (tv []) 9) B2.out B3.out ?_
             intro v' w' hO' hB'
             have HO' := (show Hid _ from B4.out v' w' hO' hB')
             clear hO' hB' B1 B2 B3 B4 HO))
        obtain ⟨g, cap, hv, hgN, hgl, _, hcl, hfz, hset⟩ := (HO'.out.1.shape (by rw [HGL.eq]; omega)).ex
        have hcell := hcl _ _ HGG.out
        have hfz := hfz (k / 64)
        have HOS : Hid (OwnT (w'.setCell ⟨g, k / 64, none⟩ (tv (p ++ [b]))) w.heap.size v' (chunks ((bl s).take (k + 1)))) := by rw [HG.eq]; exact hset _ _
        have HBS : Hid (Below w.heap.size w (w'.setCell ⟨g, k / 64, none⟩ (tv (p ++ [b])))) := below_set HO'.out.2 _ _ _ hgN
        have HRL : Is (chunks ((bl s).take (k + 1))).length (k / 64 + 1) := ⟨by rw [HG.eq, List.length_set]; exact HGL.eq⟩
        clear hcl hset
        subst hv
        rw [HGL.eq] at HOS ⊢
        generalize hR : chunks ((bl s).take (k + 1)) = R at *
        have HR : Is (chunks ((bl s).take (k + 1))) R := ⟨hR⟩
        clear hR
        clear HG HGG
        obtain ⟨m, hm⟩ : ∃ m, k / 64 = m := ⟨_, rfl⟩
        rw [hm] at hcell hfz HOS HBS hm9 HRL ⊢
        clear hm HGL
        have wm : IntKind.i64.wrap (m : Int) = (m : Int) := wrapN m (by omega)
        have j1 : (0 : Int) ≤ (m : Int) := Int.natCast_nonneg _
        have j2 : (m : Int) < (m : Int) + 1 := by omega
        have hcell2 : w'.cell? ⟨g, m, none⟩ = some (.string (mk p)) := hcell
        have HOS2 : Hid (OwnT (w'.setCell ⟨g, m, none⟩ (.string (mk (p ++ [b])))) w.heap.size (.slice (some ⟨g, 0, none⟩) (m + 1) cap) R) := HOS.out
        have HBS2 : Hid (Below w.heap.size w (w'.setCell ⟨g, m, none⟩ (.string (mk (p ++ [b]))))) := HBS.out
        clear hcell HOS HBS
        generalize mk p = X at *
        generalize mk (p ++ [b]) = Y at *
        clear HO'
        go_region
        go_wp2_with fail
        go_roundw
        case rel => exact ⟨k + 1, by omega, by go_num, by rw [HR.eq]; exact HOS2.out, HBS2.out.drew⟩
        case measure => (simp [intOf]) <;> omega
      · have HOG : Is (grow (bl s) k) (chunks ((bl s).take k)) := ⟨by unfold grow; rw [if_neg h0]⟩
        have hn0 : ¬ ((k % 64 : Nat) : Int) = 0 := by omega
        have hb0 : (((k % 64 : Nat) : Int) == 0) = false := by simp only [beq_eq_false_iff_ne, ne_eq]; exact hn0
        have HO' : Hid (OwnT wr w.heap.size u3 (grow (bl s) k) ∧ Below w.heap.size w wr) := ⟨by rw [HOG.eq]; exact HO.out, HB.out⟩
        generalize ((k % 64 : Nat) : Int) = km at *
        clear HOG HO h0
        obtain ⟨g, cap, hv, hgN, hgl, _, hcl, hfz, hset⟩ := (HO'.out.1.shape (by rw [HGL.eq]; omega)).ex
        have hcell := hcl _ _ HGG.out
        have hfz := hfz (k / 64)
        have HOS : Hid (OwnT (wr.setCell ⟨g, k / 64, none⟩ (tv (p ++ [b]))) w.heap.size u3 (chunks ((bl s).take (k + 1)))) := by rw [HG.eq]; exact hset _ _
        have HBS : Hid (Below w.heap.size w (wr.setCell ⟨g, k / 64, none⟩ (tv (p ++ [b])))) := below_set HO'.out.2 _ _ _ hgN
        have HRL : Is (chunks ((bl s).take (k + 1))).length (k / 64 + 1) := ⟨by rw [HG.eq, List.length_set]; exact HGL.eq⟩
        clear hcl hset
        subst hv
        rw [HGL.eq] at HOS ⊢
        generalize hR : chunks ((bl s).take (k + 1)) = R at *
        have HR : Is (chunks ((bl s).take (k + 1))) R := ⟨hR⟩
        clear hR
        clear HG HGG
        obtain ⟨m, hm⟩ : ∃ m, k / 64 = m := ⟨_, rfl⟩
        rw [hm] at hcell hfz HOS HBS hm9 HRL ⊢
        clear hm HGL
        have wm : IntKind.i64.wrap (m : Int) = (m : Int) := wrapN m (by omega)
        have j1 : (0 : Int) ≤ (m : Int) := Int.natCast_nonneg _
        have j2 : (m : Int) < (m : Int) + 1 := by omega
        have hcell2 : wr.cell? ⟨g, m, none⟩ = some (.string (mk p)) := hcell
        have HOS2 : Hid (OwnT (wr.setCell ⟨g, m, none⟩ (.string (mk (p ++ [b])))) w.heap.size (.slice (some ⟨g, 0, none⟩) (m + 1) cap) R) := HOS.out
        have HBS2 : Hid (Below w.heap.size w (wr.setCell ⟨g, m, none⟩ (.string (mk (p ++ [b]))))) := HBS.out
        clear hcell HOS HBS
        generalize mk p = X at *
        generalize mk (p ++ [b]) = Y at *
        clear HO'
        go_wp2_with fail
        go_region
        go_wp2_with fail
        go_roundw
        case rel => exact ⟨k + 1, by omega, by go_num, by rw [HR.eq]; exact HOS2.out, HBS2.out.drew⟩
        case measure => (simp [intOf]) <;> omega
    · obtain rfl : k = s.size := by omega
      have i0 : ¬ (s.size : Int) < (s.size : Int) := by omega
      have HF : Hid (OwnT wr w.heap.size u3 (chunks (bl s))) := by
        have h := HO.out
        rwa [bl_take_all] at h
      go_wp2
      go_ret
      exact ⟨_, rfl, HF.out, HB.out⟩
end Go.Proofs.YtefpaebbendnmaaDoor
