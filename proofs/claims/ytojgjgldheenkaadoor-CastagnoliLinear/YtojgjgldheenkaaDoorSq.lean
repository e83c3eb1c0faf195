/- Proved: squared makes the row of the change done twice. Condition: the numbers of the row are below 2^32. -/
import Derived.Test.YtojgjgldheenkaaDoorOne
import Derived.Deep.RegionHeld3
import Derived.Deep.MidRow
namespace Go.Proofs.YtojgjgldheenkaaDoor
open Go.RowKit
/- what the loads of a round read: the whole array, and its k-th number -/
def Read32 (w : World) (g : Nat) (l : List Value) (k : Nat) (n : Nat) : Prop := w.rangeAt g 0 l ∧ w.cell? ⟨g, k, none⟩ = some (.int .u32 (n : Nat))
theorem Read32.below {w w' : World} {g : Nat} {l : List Value} {k n B : Nat} (h : w.rangeAt g 0 l ∧ w.cell? ⟨g, k, none⟩ = some (.int .u32 (n : Nat))) (hb : Below B w w') (hg : g < B) : w'.rangeAt g 0 l ∧ w'.cell? ⟨g, k, none⟩ = some (.int .u32 (n : Nat)) :=
  ⟨fun j v hv => (hb.cell (p := ⟨g, 0 + j, none⟩) hg).trans (h.1 j v hv), (hb.cell (p := ⟨g, k, none⟩) hg).trans h.2⟩
theorem Read32.set {w : World} {g : Nat} {l : List Value} {k n : Nat} (h : w.rangeAt g 0 l ∧ w.cell? ⟨g, k, none⟩ = some (.int .u32 (n : Nat))) (a : Addr) (v : Value) (hg : g < a.block) : (w.setCell a v).rangeAt g 0 l ∧ (w.setCell a v).cell? ⟨g, k, none⟩ = some (.int .u32 (n : Nat)) :=
  Read32.below (B := a.block) h ((Below.refl _ _).setCell (Nat.le_refl _) v) hg
theorem Own32.below {w w' : World} {g : Nat} {m : Nat → Nat} {k B : Nat} (h : Own32 w g m k) (hb : Below B w w') (hg : g < B) : Own32 w' g m k := by
  obtain ⟨cs, hh, r⟩ := h
  exact ⟨cs, (hb.block g hg).trans hh, r⟩
theorem start3 (w : World) (m m' : Nat → Nat) (cs c0 c1 : Array Value) (z0 : c0.size = 32) (a0 : c0.all (·.oneCell') = true) (z1 : c1.size = 32) (a1 : c1.all (·.oneCell') = true) :
    Own32 (((w.alloc (.cells cs 48)).alloc (.cells c0 48)).alloc (.cells c1 48)) (w.heap.size + 2) m 0 ∧ Own32 (((w.alloc (.cells cs 48)).alloc (.cells c0 48)).alloc (.cells c1 48)) (w.heap.size + 1) m' 0 ∧
    (((w.alloc (.cells cs 48)).alloc (.cells c0 48)).alloc (.cells c1 48)).heap[w.heap.size]? = some (.cells cs 48 (0, 0)) ∧
    w.heap.size + 3 ≤ (((w.alloc (.cells cs 48)).alloc (.cells c0 48)).alloc (.cells c1 48)).heap.size ∧ Below w.heap.size w (((w.alloc (.cells cs 48)).alloc (.cells c0 48)).alloc (.cells c1 48)) := by
  have e : (w.alloc (.cells cs 48)).heap.size = w.heap.size + 1 := by simp
  obtain ⟨h1, h2, h3, h4⟩ := start2 (w.alloc (.cells cs 48)) m m' c0 c1 z0 a0 z1 a1
  rw [e] at h1 h2 h3 h4
  refine ⟨h1, h2, (h4.block _ (by omega)).trans (heap_alloc_new w _), by omega, ((Below.refl _ _).alloc (Nat.le_refl _) _).trans (h4.mono (by omega))⟩
theorem sq_round {w wr wr' w1 : World} {N k : Nat} {m m' : Nat → Nat} {cs : Array Value} (ho : Own32 wr (N + 2) m k) (hr : Own32 wr (N + 1) m' 0) (hx : wr.heap[N]? = some (.cells cs 48 (0, 0)))
    (hz : N + 3 ≤ wr.heap.size) (hb : Below N w wr) (hk : k < 32) (hd : Below wr.heap.size wr wr') (hb1 : Below wr.heap.size wr' w1) :
    Own32 (w1.setCell ⟨N + 2, k, none⟩ (.int .u32 (m k : Nat))) (N + 2) m (k + 1) ∧ Own32 (w1.setCell ⟨N + 2, k, none⟩ (.int .u32 (m k : Nat))) (N + 1) m' 0 ∧
    (w1.setCell ⟨N + 2, k, none⟩ (.int .u32 (m k : Nat))).heap[N]? = some (.cells cs 48 (0, 0)) ∧ N + 3 ≤ (w1.setCell ⟨N + 2, k, none⟩ (.int .u32 (m k : Nat))).heap.size ∧ Below N w (w1.setCell ⟨N + 2, k, none⟩ (.int .u32 (m k : Nat))) := by
  have hb2 := hd.trans hb1
  refine ⟨(ho.below hb2 (by omega)).set hk, (hr.below hb2 (by omega)).other _ _ (by show N + 1 ≠ N + 2; omega), ?_, ?_, (hb.trans (hb2.mono (by omega))).setCell (by show N ≤ N + 2; omega) _⟩
  · rw [heap_setCell_other _ _ _ _ (show N ≠ N + 2 by omega), hb2.block N (by omega)]; exact hx
  · have := hb2.size
    simp; omega
set_option maxHeartbeats 800000 in
theorem squared_any (cs : Array Value) (m : Nat → Nat) (w : World) (hR : Rows32 cs m) :
    Calls Tryd.prog 25 #[.agg cs] w fun e w' => ∃ cs', e = .returned (.agg cs') ∧ Rows32 cs' (fun i => Crc.change m (m i)) ∧ Below w.heap.size w w' := by
  go_enter Tryd.func25, Tryd.ntmps25
  go_wp2
  go_loopw [4, 5] (fun _ i wr => ∃ k : Nat, k ≤ 32 ∧ i = .int .i64 k ∧ Own32 wr (w.heap.size + 2) (fun i => Crc.change m (m i)) k ∧ Own32 wr (w.heap.size + 1) (fun i => 0) 0 ∧ wr.heap[w.heap.size]? = some (.cells cs 48 (0, 0)) ∧ w.heap.size + 3 ≤ wr.heap.size ∧ Below w.heap.size w wr) (fun _ i _ => 32 - (intOf i).toNat)
  case atStart => exact ⟨0, by omega, rfl, start3 w _ _ cs _ _ (by kernel_rfl) (by kernel_rfl) (by kernel_rfl) (by kernel_rfl)⟩
  case round =>
    obtain ⟨k, hk, rfl, ho, hr, hx, hz, hb⟩ := hrel
    by_cases hlt : k < 32
    · obtain ⟨⟨v, hc⟩, hf⟩ := ho.at k hlt
      obtain ⟨hsz, hat, hm⟩ := hR
      have hR : Hid (Rows32 cs m) := ⟨hsz, hat, hm⟩
      have hS : wr.rangeAt w.heap.size 0 cs.toList ∧ wr.cell? ⟨w.heap.size, k, none⟩ = some (.int .u32 (m k : Nat)) := by
        refine ⟨fun j v hv => ?_, ?_⟩
        · rw [cell_of_row wr w.heap.size (0 + j) cs 48 (0, 0) hx]; simpa using hv
        · rw [cell_of_row wr w.heap.size k cs 48 (0, 0) hx]; exact hat k hlt
      have HS : Hid (wr.rangeAt w.heap.size 0 cs.toList ∧ wr.cell? ⟨w.heap.size, k, none⟩ = some (.int .u32 (m k : Nat))) := hS
      have hz' : Hid (w.heap.size + 3 ≤ wr.heap.size) := hz
      have Hx : Hid (wr.heap[w.heap.size]? = some (.cells cs 48 (0, 0))) := hx
      have hmk := hm k hlt
      have hk0 : (0 : Int) ≤ (k : Int) := Int.natCast_nonneg _
      have hk8 : (k : Int) < 32 := by omega
      have hu := Tryd.underlying48
      have hi : (Tryd.prog.info? 48).map (·.size) = some cs.toList.length := by rw [size48]; simp [hsz]
      clear hx hat hm hsz hS
      go_wp2_with fail
      go_region_held3 (fun w' => w'.rangeAt w.heap.size 0 cs.toList ∧ w'.cell? ⟨w.heap.size, k, none⟩ = some (.int .u32 (m k : Nat))) (first | exact HS.out | exact Read32.below (by exact HS.out) hb1 (by have := hz'.out; show _ < wr.heap.size; omega) | exact Read32.set (Read32.below (by exact HS.out) hb1 (by have := hz'.out; show _ < wr.heap.size; omega)) _ _ (by show w.heap.size < w.heap.size + 1 + 1; omega))
         (first | (go_at_call 24; refine (change_any cs m _ _ hmk hR.out).mono ?_; rintro e w1 ⟨rfl, hb1⟩; have hc1 := (hb1.cell (p := ⟨w.heap.size + 2, k, none⟩) (by have := hz'.out; show _ < wr.heap.size; simp; omega)).trans hc; have hf1 := (hb1.frozen (p := ⟨w.heap.size + 2, k, none⟩) (by have := hz'.out; show _ < wr.heap.size; simp; omega)).trans hf))
      go_wp2
      go_roundw
      case rel => exact ⟨k + 1, by omega, by go_num, sq_round ho hr Hx.out hz'.out hb hlt ((Below.refl _ _).drew) hb1⟩
      case measure => simp [intOf]; omega
    · have hk8 : k = 32 := by omega
      subst hk8
      obtain ⟨cs', hg, hsz, h1, hat⟩ := ho
      obtain ⟨cs0, hg0, hsz0, _, _⟩ := hr
      have hi : Hid ((Tryd.prog.info? 48).map (·.size) = some cs'.size) := hi48 hsz
      have he : Hid (cs0.size = cs'.size) := hsz0.trans hsz.symm
      have H1 : Hid (cs'.all (·.oneCell') = true) := h1
      have HS : Hid (cs'.size = 32) := hsz
      have HG0 : Hid (wr.heap[w.heap.size + 1]? = some (.cells cs0 48 (0, 0))) := hg0
      have HG : Hid (wr.heap[w.heap.size + 2]? = some (.cells cs' 48 (0, 0))) := hg
      have HR : Hid (Rows32 cs m) := hR
      clear hsz hsz0 h1 hg hg0 hx hR
      go_wp2_with (first | (refine wpList_load_row rfl 48 _ rfl (w.heap.size + 2) rfl 48 cs' (0, 0) _ HG.out Tryd.underlying48 rfl hi.out ?_) | (refine wpList_store_row rfl 48 _ _ rfl (w.heap.size + 1) cs' rfl rfl 48 cs0 HG0.out hi.out he.out H1.out ?_))
      refine bodyPost_ret (v := .agg cs') ?_ rfl ⟨cs', rfl, ⟨HS.out, fun i hi => hat i hi, ?_⟩, ?_⟩
      · exact results_cell_row Tryd.results25 _ _ (w.heap.size + 1) 48 cs' (0, 0) _ rfl (setRow_heap _ _ cs0 _ _ _ HG0.out) Tryd.underlying48 rfl hi.out
      · exact fun i hi => Crc.changeTo_lt _ _ _ HR.out.2.2
      · exact below_setRow hb (by omega) _
end Go.Proofs.YtojgjgldheenkaaDoor
