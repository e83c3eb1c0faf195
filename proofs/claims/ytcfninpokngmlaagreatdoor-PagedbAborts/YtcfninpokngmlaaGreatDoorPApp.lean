/- Proved: laws for bytes and texts that are appended to bytes of the call's own, and what wal's appendFrame makes. -/
import Derived.Test.YtcfninpokngmlaaGreatDoorPTrim
import Derived.Lib.AppendStr
namespace Go.Proofs.YtcfninpokngmlaaGreatDoor
open Go.RowKit
theorem bc_append (a b : ByteArray) : bc (a ++ b) = bc a ++ bc b := by unfold bc; rw [Wl.app_list, List.map_append]
theorem info_u8 : Tryz.prog.info? 5 = some Tryz.t5 := by kernel_rfl
/- bytes of the call's own -/
abbrev OwnB (w : World) (N : Nat) (v : Value) (y : ByteArray) : Prop := w.ownsRow N 5 1 v y.size (bc y)
theorem opw_bytes {o : Oper} {a : Act} {W : World} {K : Act → World → Prop} {Q : Exit → Act → World → Prop} (sl x : Operand)
    (ho : o.op = .call { callee := .builtin .append, args := #[sl, x], argTypes := #[138, 138] }) (N : Nat) (v : Value) (y : ByteArray) (hs : a.eval sl = v) (hown : OwnB W N v y)
    (ad : Addr) (c : Nat) (z : ByteArray) (hx : a.eval x = .slice (some ad) z.size c) (hnews : ∀ j u, (bc z)[j]? = some u → W.cell? (ad.add j) = some u) (hb : y.size + z.size ≤ 1000000000) (hN : N ≤ W.heap.size)
    (h : ∀ v' w', OwnB w' N v' (y ++ z) → Below N W w' → K (a.put o.dst v') w') : Oper.wp Tryz.prog o a W K Q := by
  obtain ⟨v', w', hr, h2, h3, h4, h5⟩ := run_append_own_at (P := Tryz.prog) W N 138 o.type 5 Tryz.t5 (.int .u8 0) 1 1 Tryz.underlying138 info_u8 rfl rfl rfl rfl (by omega) v y.size (bc y) hown ad z.size c (bc z) (by rw [bc_length, Nat.mul_one]) hnews (bc_one z) (by unfold maxLen; omega) (by omega) hN
  unfold Oper.wp execOp
  simp only [ho, resolve, invoke, builtin, Sem.run_bind, Sem.run_pure, Result.andThen_ok, List.map_toArray, List.map_cons, List.map_nil, hs, hx, hr]
  refine h v' w' ?_ ((Below.refl _ _).grown h3 hN (fun k hk => (hown.lt k hk).1))
  show w'.ownsRow N 5 1 v' (y ++ z).size (bc (y ++ z))
  rw [ByteArray.size_append, bc_append]
  exact h2
theorem app_bytes {ops : Array Oper} {rest : List Oper} {o : Oper} {a : Act} {Q : Exit → Act → World → Prop} (hgd : o.guard = none) (sl x : Operand)
    (ho : o.op = .call { callee := .builtin .append, args := #[sl, x], argTypes := #[138, 138] }) (W : World) (N : Nat) (v : Value) (y : ByteArray) (hs : a.eval sl = v) (hown : OwnB W N v y)
    (ad : Addr) (c : Nat) (z : ByteArray) (hx : a.eval x = .slice (some ad) z.size c) (hnews : ∀ j u, (bc z)[j]? = some u → W.cell? (ad.add j) = some u) (hb : y.size + z.size ≤ 1000000000) (hN : N ≤ W.heap.size)
    (h : ∀ v' w', OwnB w' N v' (y ++ z) → Below N W w' → wpList Tryz.prog ops Q rest (a.put o.dst v') w') : wpList Tryz.prog ops Q (o :: rest) a W :=
  wpList_plain hgd fun _ hK => opw_bytes sl x ho N v y hs hown ad c z hx hnews hb hN (fun v' w' h1 h2 => hK _ _ (h v' w' h1 h2))
theorem opw_text {o : Oper} {a : Act} {W : World} {K : Act → World → Prop} {Q : Exit → Act → World → Prop} (sl x : Operand)
    (ho : o.op = .call { callee := .builtin .append, args := #[sl, x], argTypes := #[138, 9] }) (N : Nat) (v : Value) (y : ByteArray) (hs : a.eval sl = v) (hown : OwnB W N v y)
    (z : ByteArray) (hx : a.eval x = .string z) (hb : y.size + z.size ≤ 1000000000) (hN : N ≤ W.heap.size)
    (h : ∀ v' w', OwnB w' N v' (y ++ z) → Below N W w' → K (a.put o.dst v') w') : Oper.wp Tryz.prog o a W K Q := by
  obtain ⟨v', w', hr, h2, h3, h4⟩ := Lib.run_append_own_string (P := Tryz.prog) W N 138 9 o.type 5 Tryz.t5 Tryz.underlying138 Tryz.underlying9 info_u8 rfl rfl rfl v y.size (bc y) hown z (by unfold maxLen; omega) (by omega) hN
  unfold Oper.wp execOp
  simp only [ho, resolve, invoke, builtin, Sem.run_bind, Sem.run_pure, Result.andThen_ok, List.map_toArray, List.map_cons, List.map_nil, hs, hx, hr]
  refine h v' w' ?_ ((Below.refl _ _).grown h3 hN (fun k hk => (hown.lt k hk).1))
  show w'.ownsRow N 5 1 v' (y ++ z).size (bc (y ++ z))
  rw [ByteArray.size_append, bc_append]
  exact h2
theorem app_text {ops : Array Oper} {rest : List Oper} {o : Oper} {a : Act} {Q : Exit → Act → World → Prop} (hgd : o.guard = none) (sl x : Operand)
    (ho : o.op = .call { callee := .builtin .append, args := #[sl, x], argTypes := #[138, 9] }) (W : World) (N : Nat) (v : Value) (y : ByteArray) (hs : a.eval sl = v) (hown : OwnB W N v y)
    (z : ByteArray) (hx : a.eval x = .string z) (hb : y.size + z.size ≤ 1000000000) (hN : N ≤ W.heap.size)
    (h : ∀ v' w', OwnB w' N v' (y ++ z) → Below N W w' → wpList Tryz.prog ops Q rest (a.put o.dst v') w') : wpList Tryz.prog ops Q (o :: rest) a W :=
  wpList_plain hgd fun _ hK => opw_text sl x ho N v y hs hown z hx hb hN (fun v' w' h1 h2 => hK _ _ (h v' w' h1 h2))
theorem splice_mid {α : Type} (a b c d : List α) (h : d.length = b.length) : splice (a ++ (b ++ c)) a.length d = a ++ (d ++ c) := by
  unfold splice
  rw [List.take_left' rfl, List.drop_append, List.drop_eq_nil_of_le (by omega), List.nil_append, show a.length + d.length - a.length = d.length by omega, h, List.drop_left' rfl, List.append_assoc]
theorem own_keepB {w w' : World} {N B : Nat} {v : Value} {y : ByteArray} (h : OwnB w N v y) (hb : Below B w w') (hB : w.heap.size ≤ B) : OwnB w' N v y := own_keep h (fun k hk => hb.block k (by have := (h.lt k hk).2; omega))
def z4 : List Value := List.replicate 4 (.int .u8 0)
set_option maxHeartbeats 2000000 in
set_option maxRecDepth 20000 in
theorem appf_any (v : Value) (y r : ByteArray) (N : Nat) (w : World) (hown : OwnB w N v y) (hN0 : 0 < N) (hN : N ≤ w.heap.size) (hT : Tab w) (hr : r.size ≤ 65536) (hy : y.size ≤ 100000000) :
    Calls Tryz.prog 135 #[v, .string r] w fun e w' => ∃ v', e = .returned v' ∧ OwnB w' N v' (y ++ Wl.frame r) ∧ Below N w w' := by
  have HO : Hid (OwnB w N v y) := hown
  have HT : Hid (Tab w) := hT
  have HR0 : Hid ((w.alloc (.cells #[.int .u8 0, .int .u8 0, .int .u8 0, .int .u8 0, .int .u8 0, .int .u8 0, .int .u8 0, .int .u8 0] 200)).heap[w.heap.size]? = some (.cells ([] ++ (z4 ++ z4)).toArray 200 (0, 0))) := heap_alloc_new w _
  have HB0 : Hid (Below w.heap.size w (w.alloc (.cells #[.int .u8 0, .int .u8 0, .int .u8 0, .int .u8 0, .int .u8 0, .int .u8 0, .int .u8 0, .int .u8 0] 200))) := (Below.refl _ _).alloc (Nat.le_refl _) _
  clear hown hT
  go_enter Tryz.func135, Tryz.ntmps135
  go_wp2_with fail
  generalize World.alloc w _ = w0 at *
  have hw0 := HB0.out.size
  have HP1 := putn_any w.heap.size 0 4 4 r.size 200 _ w0 HR0.out (by simp [z4]) (by omega)
  refine HP1.mono ?_
  rintro e w' ⟨rfl, hw⟩
  rw [hw]
  clear hw w' HP1
  have HR1 : Hid ((w0.setCells w.heap.size 0 (nc r.size 4)).heap[w.heap.size]? = some (.cells (nc r.size 4 ++ (z4 ++ [])).toArray 200 (0, 0))) := by
    have := setCells_splice w.heap.size 200 (nc r.size 4) 0 _ w0 HR0.out (by rw [nc_length]; simp [z4])
    rw [show (0 : Nat) = ([] : List Value).length from rfl, splice_mid [] z4 z4 (nc r.size 4) (by rw [nc_length]; rfl)] at this
    rw [List.append_nil]
    exact this
  have HB1 : Hid (Below w.heap.size w (w0.setCells w.heap.size 0 (nc r.size 4))) := below_setCells (Nat.le_refl _) _ _ _ HB0.out
  generalize w0.setCells w.heap.size 0 (nc r.size 4) = w1 at *
  clear HR0 HB0 hw0 w0
  go_wp2_with fail
  obtain ⟨cap, w2, hcv, hcap, hby, hB2, _⟩ := bytes_of w1.drew r (by omega)
  have hbr := hby 0 r.size (by omega)
  rw [List.drop_zero, Sc.size_eq, List.take_length, ← Sc.size_eq] at hbr
  change Bytes w2 _ r.size (Wl.nb r) at hbr
  have HB2 : Hid (Below w.heap.size w w2) := HB1.out.drew.trans (hB2.mono HB1.out.size)
  have hlt1 : w.heap.size < w1.heap.size := (Array.getElem?_eq_some_iff.1 HR1.out).1
  have HR2 : Hid (w2.heap[w.heap.size]? = some (.cells (nc r.size 4 ++ (z4 ++ [])).toArray 200 (0, 0))) := (hB2.block _ hlt1).trans HR1.out
  have hbs : Bytes w2 (some ⟨w.heap.size, 0, none⟩) 4 (Wl.nb (Wl.put r.size 4)) := by
    refine ⟨by rw [Wl.nb, List.length_map, ← Sc.size_eq, Wl.put_size], Wl.nb_lt _, by omega, .inr ⟨w.heap.size, 0, rfl, fun i hi => ?_⟩⟩
    have hil : i < (Wl.put r.size 4).data.toList.length := by rw [← Sc.size_eq, Wl.put_size]; exact hi
    rw [cell_of_row w2 _ _ _ _ (0, 0) HR2.out, List.getElem?_toArray, Nat.zero_add, List.getElem?_append_left (by rw [nc_length]; exact hi), nc_bc, bc, List.getElem?_map, List.getElem?_eq_getElem hil, Wl.nb, List.getD_eq_getElem?_getD, List.getElem?_map, List.getElem?_eq_getElem hil]
    rfl
  have HSM : Hid (Calls Tryz.prog 127 #[.slice (some ⟨w.heap.size, 0, none⟩) 4 4, .slice (some ⟨w1.drew.heap.size, 0, none⟩) r.size cap] w2 fun e w' => e = .returned (.int .u32 (Crc.sum (Wl.nb (Wl.put r.size 4 ++ r)) : Nat)) ∧ w' = w2) := by
    rw [Wl.nb_append]
    exact sumof_any _ _ 4 4 r.size cap _ _ w2 hbs hbr (HT.out.below HB2.out (by omega))
  have hsl := sum_lt _ (Wl.nb_lt (Wl.put r.size 4 ++ r))
  have HP2 := putn_any w.heap.size 4 4 4 (Crc.sum (Wl.nb (Wl.put r.size 4 ++ r))) 200 _ w2 HR2.out (by rw [List.length_append, nc_length]; simp [z4]) (by omega)
  have HR3 : Hid ((w2.setCells w.heap.size 4 (nc (Crc.sum (Wl.nb (Wl.put r.size 4 ++ r))) 4)).heap[w.heap.size]? = some (.cells (bc (Wl.put r.size 4 ++ Wl.sum4 (Wl.put r.size 4 ++ r))).toArray 200 (0, 0))) := by
    have := setCells_splice w.heap.size 200 (nc (Crc.sum (Wl.nb (Wl.put r.size 4 ++ r))) 4) 4 _ w2 HR2.out (by rw [nc_length, List.length_append, nc_length]; simp [z4])
    have e := splice_mid (nc r.size 4) z4 [] (nc (Crc.sum (Wl.nb (Wl.put r.size 4 ++ r))) 4) (by rw [nc_length]; rfl)
    rw [nc_length] at e
    rw [e, List.append_nil, nc_bc, nc_bc, ← bc_append] at this
    rw [nc_bc]
    exact this
  have HB3 : Hid (Below w.heap.size w (w2.setCells w.heap.size 4 (nc (Crc.sum (Wl.nb (Wl.put r.size 4 ++ r))) 4))) := below_setCells (Nat.le_refl _) _ _ _ HB2.out
  have hs8 : (Wl.put r.size 4 ++ Wl.sum4 (Wl.put r.size 4 ++ r)).size = 8 := by rw [ByteArray.size_append, Wl.put_size, Wl.sum4_size]
  have HFR : Hid (y ++ (Wl.put r.size 4 ++ Wl.sum4 (Wl.put r.size 4 ++ r)) ++ r = y ++ Wl.frame r) := by
    unfold Wl.frame
    exact Wl.app_assoc _ _ _
  clear hbs hbr hby hB2 HR2 HR1
  generalize Wl.put r.size 4 ++ Wl.sum4 (Wl.put r.size 4 ++ r) = f8 at *
  generalize Crc.sum (Wl.nb (Wl.put r.size 4 ++ r)) = sm at *
  have HS : Hid ((fun _ : World => True) w1.drew) := trivial
  refine wp_region_held_drew (S := fun _ => True) (by kernel_rfl) HS.out (fun _ => ?_)
  refine heldTake 0 (some 13) (.slice (some ⟨w.heap.size, 4, none⟩) 4 4) rfl rfl (by kernel_rfl) (by kernel_rfl) (by kernel_rfl) (fun _ _ _ h => h) (Or.inl ⟨by rfl, fun w hS => ?_⟩) HS.out ?_
  · (go_simp)
  simp only [Act.put, List.setIfInBounds_toArray, List.set_cons_zero, List.set_cons_succ]
  refine heldTake 1 (some 14) (.slice (some ⟨w.heap.size, 0, none⟩) 4 4) rfl rfl (by kernel_rfl) (by kernel_rfl) (by kernel_rfl) (fun _ _ _ h => h) (Or.inl ⟨by rfl, fun w hS => ?_⟩) HS.out ?_
  · (go_simp)
  simp only [Act.put, List.setIfInBounds_toArray, List.set_cons_zero, List.set_cons_succ]
  refine heldTake 2 (some 15) (.string r) rfl rfl (by kernel_rfl) (by kernel_rfl) (by kernel_rfl) (fun _ _ _ h => h) (Or.inl ⟨by rfl, fun w hS => ?_⟩) HS.out ?_
  · (go_simp)
  simp only [Act.put, List.setIfInBounds_toArray, List.set_cons_zero, List.set_cons_succ]
  refine heldOne 3 (by kernel_rfl) rfl (by rfl) (fun KK hK => ?_)
  go_simp
  refine hK.out _ _ trivial ?_
  clear hK KK
  refine heldOne 4 (by kernel_rfl) rfl (by rfl) (fun KK hK => ?_)
  go_simp
  go_at_call 127
  refine HSM.out.mono ?_
  rintro e w' ⟨rfl, hw⟩
  rw [hw]
  clear hw w'
  refine hK.out _ _ trivial ?_
  clear hK KK
  refine heldTake 5 (some 18) (.int .u64 (sm : Int)) rfl rfl (by kernel_rfl) (by kernel_rfl) (by kernel_rfl) (fun _ _ _ h => h) (Or.inl ⟨by rfl, fun w hS => ?_⟩) HS.out ?_
  · (go_simp; rw [IntKind.wrap_u64]; omega)
  simp only [Act.put, List.setIfInBounds_toArray, List.set_cons_zero, List.set_cons_succ]
  refine heldOne 6 (by kernel_rfl) rfl (by rfl) (fun KK hK => ?_)
  go_simp
  go_at_call 140
  refine HP2.mono ?_
  rintro e w' ⟨rfl, hw⟩
  rw [hw]
  clear hw w'
  refine hK.out _ _ trivial ?_
  clear hK KK
  refine wpAnyH_done (by kernel_rfl) ?_ _
  generalize w2.setCells w.heap.size 4 (nc sm 4) = w3 at *
  have HO3 : Hid (OwnB w3 N v y) := own_keepB HO.out HB3.out (Nat.le_refl _)
  have hw3 := HB3.out.size
  clear HP2 HSM HB2 HB1 hcv
  go_wp2_with (first | (refine app_bytes rfl (.tmp 20) (.tmp 21) rfl _ N v y rfl HO3.out ⟨w.heap.size, 0, none⟩ 8 f8 (by rw [hs8]; rfl) (fun j u hj => by rw [Addr.add_mid]; exact range_all HR3.out j u hj) (by omega) (by omega) ?_; intro v4 w4 hO4 hB4; have HO4 := (show Hid (OwnB w4 N v4 (y ++ f8)) from hO4); have HB4 : Hid (Below N w w4) := (HB3.out.mono hN).trans hB4; have hw4 := HB4.out.size; clear hO4 hB4) | (refine app_text rfl (.tmp 23) (.tmp 24) rfl _ N v4 (y ++ f8) rfl HO4.out r rfl (by rw [ByteArray.size_append]; omega) (by omega) ?_; intro v5 w5 hO5 hB5; have HFN : Hid (OwnB w5 N v5 (y ++ Wl.frame r) ∧ Below N w w5) := ⟨(by rw [← HFR.out]; exact hO5), HB4.out.trans hB5⟩; clear hO5 hB5))
  go_ret
  exact ⟨_, rfl, HFN.out⟩
end Go.Proofs.YtcfninpokngmlaaGreatDoor
