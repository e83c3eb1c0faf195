/- Proved: what a database tells of a page that was committed. -/
import Derived.Test.YtcfninpokngmlaaGreatDoorDLoad
namespace Pd
/- a page that was committed: it stands in the map, or at its place -/
def Sees (d : Db) (id : Nat) (x : Sheet) : Prop := get d.m id = some x ∨ (get d.m id = none ∧ plc (Wl.flat d.s) d.n id = pageOf id x ∧ x.Fine)
end Pd
namespace Go.Proofs.YtcfninpokngmlaaGreatDoor
open Go.RowKit
theorem shv_eq (x : Pd.Sheet) : shV x = .agg #[.int .i64 (x.kind : Int), .string x.body] := rfl
set_option maxHeartbeats 4000000 in
set_option maxRecDepth 100000 in
theorem dlook_any (A : Ad) (op : Value) (d : Pd.Db) (id : Nat) (x : Pd.Sheet) (w : World) (H : Dbw w A op d) (hdn : d.s.down = false) (hl : d.n + 8 * id + 8 ≤ d.s.kept.length) (hi : id ≤ 1000000) (hx : Pd.Sees d id x) :
    Calls Tryz.prog 119 #[ptr A.x, .int .i64 (id : Int)] w fun e w' => e = .returned (.tuple #[shV x, .int .i64 0]) ∧ Below w.heap.size w w' := by
  have HH : Hid (Dbw w A op d) := H
  have hz := zeroSh
  unfold shV sh00 Pd.none0 at hz
  have HR0 : Hid ((w.alloc (.cells #[.int .i64 0, .string ⟨#[]⟩] 102)).heap[w.heap.size]? = some (.cells #[.int .i64 0, .string ⟨#[]⟩] 102 (0, 0))) := heap_alloc_new w _
  have HB0 : Hid (Below w.heap.size w (w.alloc (.cells #[.int .i64 0, .string ⟨#[]⟩] 102))) := (Below.refl _ _).alloc (Nat.le_refl _) _
  have hs0 : (w.alloc (.cells #[.int .i64 0, .string ⟨#[]⟩] 102)).heap.size = w.heap.size + 1 := by simp
  have HD0 : Hid (Dbw (w.alloc (.cells #[.int .i64 0, .string ⟨#[]⟩] 102)) A op d) := H.alloc _
  have c11 : (w.alloc (.cells #[.int .i64 0, .string ⟨#[]⟩] 102)).cell? ⟨A.x, 11, none⟩ = some (.map (some A.b)) := HD0.out.c11
  have c11w : w.cell? ⟨A.x, 11, none⟩ = some (.map (some A.b)) := H.c11
  have hxl := H.xlt
  rw [shv_eq]
  rcases hx with hm | ⟨hm, hp, hf⟩
  · have HG : Hid ((Pd.get d.m id) = some x) := hm
    clear H hm
    unfold ptr
    go_enter Tryz.func119, Tryz.ntmps119
    go_wp2_with (at_lookup; refine mp_look_ok _ rfl _ _ rfl A.b d.m rfl HD0.out.mp id (by omega) rfl ?_; rw [HG.out]; simp only [Option.getD_some, Option.isSome_some, shv_eq])
    refine bodyPost_ret (results_she Tryz.results119 _ _ w.heap.size 102 _ _ _ rfl rfl ((heap_alloc_old _ _ (by simp)).trans (heap_alloc_new w _))) rfl ⟨rfl, ((Below.refl _ _).alloc (Nat.le_refl _) _).alloc (by simp) _⟩
  · have HG : Hid ((Pd.get d.m id) = none) := hm
    have HRD : Hid (∀ U, Dbw U A op d → Calls Tryz.prog 81 #[.pointer (some ⟨A.x, 0, none⟩), .int .i64 (id : Int)] U fun e w' => e = .returned (.tuple #[.string (Pd.pageOf id x), .int .i64 0]) ∧ Below U.heap.size U w') := fun U hU => by
      have := dread_any A op d id U hU hdn hl hi
      rw [hp] at this
      exact this
    have HPO : Hid (∀ W, Tab W → Calls Tryz.prog 83 #[.int .i64 (id : Int), .string (Pd.pageOf id x)] W fun e w' => e = .returned (.tuple #[.int .i64 (x.kind : Int), .string x.body, .int .i64 0]) ∧ Below W.heap.size W w') := fun W hW => place_open hf (by omega) W hW
    clear H hm hp
    generalize Pd.pageOf id x = pg at *
    unfold ptr
    go_enter Tryz.func119, Tryz.ntmps119
    go_wp2_with (at_lookup; refine mp_look_ok _ rfl _ _ rfl A.b d.m rfl HD0.out.mp id (by omega) rfl ?_; rw [HG.out]; simp only [Option.getD_none, Option.isSome_none, shv_eq, sh00, Pd.none0])
    have HR1 : Hid (((w.alloc (.cells #[.int .i64 0, .string ⟨#[]⟩] 102)).alloc (.cells #[.int .i64 0, .string ⟨#[]⟩] 102)).heap[w.heap.size]? = some (.cells #[.int .i64 0, .string ⟨#[]⟩] 102 (0, 0))) := (heap_alloc_old _ _ (by simp)).trans HR0.out
    have HB1 : Hid (Below w.heap.size w ((w.alloc (.cells #[.int .i64 0, .string ⟨#[]⟩] 102)).alloc (.cells #[.int .i64 0, .string ⟨#[]⟩] 102))) := HB0.out.alloc HB0.out.size _
    have HD1 : Hid (Dbw ((w.alloc (.cells #[.int .i64 0, .string ⟨#[]⟩] 102)).alloc (.cells #[.int .i64 0, .string ⟨#[]⟩] 102)) A op d) := HD0.out.alloc _
    generalize hw1 : World.alloc (World.alloc w _) _ = w1 at *
    clear hw1 HR0 HB0 HD0 c11 c11w hs0
    refine (HRD.out w1 HD1.out).mono ?_
    rintro e w2 ⟨rfl, hB2⟩
    have HR2 : Hid (w2.heap[w.heap.size]? = some (.cells #[.int .i64 0, .string ⟨#[]⟩] 102 (0, 0))) := heap_next HR1.out hB2
    have HB2 : Hid (Below w.heap.size w w2) := below_next HB1.out hB2 HB1.out.size
    clear hB2 HRD HR1 HB1 HD1
    go_wp2_with fail
    refine (HPO.out w2 (HH.out.below HB2.out).tab).mono ?_
    rintro e w3 ⟨rfl, hB3⟩
    have HR3 : Hid (w3.heap[w.heap.size]? = some (.cells #[.int .i64 0, .string ⟨#[]⟩] 102 (0, 0))) := heap_next HR2.out hB3
    have HB3 : Hid (Below w.heap.size w w3) := below_next HB2.out hB3 HB2.out.size
    clear hB3 HPO HR2 HB2
    have f0 := frozen_of_row w3 w.heap.size 0 _ _ HR3.out
    have f1 := frozen_of_row w3 w.heap.size 1 _ _ HR3.out
    have c0 : w3.cell? ⟨w.heap.size, 0, none⟩ = some (.int .i64 0) := cell_of_row _ _ _ _ _ (0, 0) HR3.out
    have c1 : w3.cell? ⟨w.heap.size, 1, none⟩ = some (.string ⟨#[]⟩) := cell_of_row _ _ _ _ _ (0, 0) HR3.out
    go_wp2
    exact bodyPost_ret (results_she Tryz.results119 _ _ w.heap.size 102 _ _ _ rfl rfl (row2 HR3.out _ _)) rfl ⟨rfl, (HB3.out.setCell (by simp) _).setCell (by simp) _⟩
end Go.Proofs.YtcfninpokngmlaaGreatDoor
