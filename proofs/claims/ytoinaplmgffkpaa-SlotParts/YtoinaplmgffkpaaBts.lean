/- Proved: bytes of strings as lists of numbers; 'append' of bytes and of a string's bytes behind a slice of the call's own; 'string(b)' (stage 11). -/
import Derived.Test.YtoinaplmgffkpaaFar
import Derived.Test.YtoinaplmgffkpaaReg
import Derived.Maps.AppendAt
import Derived.Lib.AppendStr
import Derived.Lib.SlBytesConst
namespace Go.Proofs.Ytoinaplmgffkpaa
open Go.RowKit
def V8 (n : Nat) : Value := .int .u8 (n : Nat)
theorem info5 : Try.prog.info? 5 = some Try.t5 := by kernel_rfl
theorem v8_one (l : List Nat) : ∀ v ∈ l.map V8, v.oneCell' = true := fun v hv => by
  obtain ⟨n, _, rfl⟩ := List.mem_map.1 hv
  rfl
theorem own_at {w : World} {N n : Nat} {v : Value} {vs : List Nat} (h : w.ownsRow N 5 1 v n (vs.map V8)) (hn : 0 < n) : ∃ g cap, v = .slice (some ⟨g, 0, none⟩) n cap ∧ N ≤ g ∧ g < w.heap.size ∧ vs.length = n ∧ ∀ j u, (vs.map V8)[j]? = some u → w.cell? ((⟨g, 0, none⟩ : Addr).add j) = some u := by
  obtain ⟨h0, h1⟩ := h
  rcases h1 with ⟨_, h1⟩ | ⟨g, cap', cur, hv, hN, hh, hc, hm, hsz, ht⟩
  · omega
  · have hl : vs.length = n := by simpa using h0
    refine ⟨g, cap', hv, hN, (Array.getElem?_eq_some_iff.1 hh).1, hl, fun j u hj => ?_⟩
    have hj' : j < n := by
      have := (List.getElem?_eq_some_iff.1 hj).1
      simp at this; omega
    rw [Go.WideShapes.add_plain, cell_of_row w g (0 + j) cur 5 (0, 0) hh, Nat.zero_add, ← Array.getElem?_toList]
    have e : (cur.toList.take (n * 1))[j]? = (vs.map V8)[j]? := by rw [ht]
    rw [Nat.mul_one, List.getElem?_take_of_lt hj'] at e
    rw [e]; exact hj
theorem owns8_below {w w' : World} {N B n : Nat} {v : Value} {vs : List Value} (h : w.ownsRow N 5 1 v n vs) (hb : Below B w w') (hB : B = w.heap.size) : w'.ownsRow N 5 1 v n vs := by
  obtain ⟨h0, h1⟩ := h
  refine ⟨h0, ?_⟩
  rcases h1 with h1 | ⟨g, cap', cur, hv, hN, hh, r⟩
  · exact .inl h1
  · exact .inr ⟨g, cap', cur, hv, hN, (hb.block g (by subst hB; exact (Array.getElem?_eq_some_iff.1 hh).1)).trans hh, r⟩
theorem one_own (w : World) (z : Int) (n : Nat) (hz : z = (n : Int)) : (w.alloc (.cells #[.int .u8 z] 5)).ownsRow w.heap.size 5 1 (.slice (some ⟨w.heap.size, 0, none⟩) 1 1) 1 ([n].map V8) := by
  subst hz
  exact ⟨rfl, .inr ⟨w.heap.size, 1, #[.int .u8 n], rfl, Nat.le_refl _, heap_alloc_new w _, Nat.le_refl _, by unfold maxLen; omega, rfl, rfl⟩⟩
def bl (s : ByteArray) : List Nat := s.data.toList.map UInt8.toNat
def tb (v : List Nat) : ByteArray := ⟨(v.map UInt8.ofNat).toArray⟩
theorem bl_length (s : ByteArray) : (bl s).length = s.size := by
  unfold bl; rw [List.length_map, Array.length_toList]; rfl
theorem bl_lt (s : ByteArray) : ∀ x ∈ bl s, x < 256 := fun x hx => by
  obtain ⟨b, _, rfl⟩ := List.mem_map.1 hx
  exact b.toNat_lt
theorem tb_bl (s : ByteArray) : tb (bl s) = s := by
  unfold tb bl
  obtain ⟨⟨l⟩⟩ := s
  rw [List.map_map]
  have : (UInt8.ofNat ∘ UInt8.toNat) = id := by funext x; simp
  rw [this]; simp
theorem bl_tb {v : List Nat} (h : ∀ x ∈ v, x < 256) : bl (tb v) = v := by
  unfold tb bl
  simp only [List.map_map]
  conv => rhs; rw [← List.map_id v]
  refine List.map_congr_left fun x hx => ?_
  simp [Nat.mod_eq_of_lt (h x hx)]
theorem bl_inj {s t : ByteArray} (h : bl s = bl t) : s = t := by rw [← tb_bl s, h, tb_bl]
theorem tb_size (v : List Nat) : (tb v).size = v.length := by
  show (v.map UInt8.ofNat).toArray.size = _
  simp
theorem tb_nil : tb [] = ByteArray.empty := rfl
theorem bl_empty : bl ByteArray.empty = [] := rfl
theorem bl_nil_iff (s : ByteArray) : bl s = [] ↔ s = ByteArray.empty := ⟨fun h => bl_inj (by rw [h]; rfl), fun h => by rw [h]; rfl⟩
theorem strCells_bl (s : ByteArray) : Lib.strCells s = (bl s).map V8 := by
  unfold Lib.strCells bl V8
  rw [List.map_map]; rfl
/- what an append to a slice of the call's own turns: that slice's block, if any, and new blocks -/
structure Grew (w : World) (v : Value) (w' : World) (v' : Value) : Prop where
  by_ : w.grownBy w' v.ownBlock
  row : v'.ownBlock = v.ownBlock ∨ ∃ g, v'.ownBlock = some g ∧ w.heap.size ≤ g
theorem Grew.refl (w : World) (v : Value) : Grew w v w v := ⟨⟨rfl, rfl, rfl, Nat.le_refl _, fun _ _ _ => rfl⟩, .inl rfl⟩
theorem Grew.trans {w w1 w2 : World} {v v1 v2 : Value} (h : Grew w v w1 v1) (k : Grew w1 v1 w2 v2) : Grew w v w2 v2 := by
  refine ⟨⟨k.by_.os.trans h.by_.os, k.by_.tape.trans h.by_.tape, k.by_.output.trans h.by_.output, Nat.le_trans h.by_.size k.by_.size, fun i hi hne => ?_⟩, ?_⟩
  · refine (k.by_.block i (Nat.lt_of_lt_of_le hi h.by_.size) ?_).trans (h.by_.block i hi hne)
    rcases h.row with e | ⟨g, e, hg⟩
    · rw [e]; exact hne
    · rw [e]; intro he; have := Option.some.inj he; omega
  · rcases k.row with e | ⟨g, e, hg⟩
    · rw [e]; exact h.row
    · exact .inr ⟨g, e, Nat.le_trans h.by_.size hg⟩
theorem Grew.below {w w' : World} {v v' : Value} {N n : Nat} {vs : List Value} {e : TypeId} {k : Nat} (h : Grew w v w' v') (hown : w.ownsRow N e k v n vs) (hN : N ≤ w.heap.size) : Below N w w' := by
  refine (Below.refl _ _).grown h.by_ hN (fun k hk => ?_)
  rcases hown.2 with ⟨hv, _⟩ | ⟨g, cap', cur, hv, hNg, _⟩
  · subst hv; cases hk
  · subst hv
    have : g = k := Option.some.inj hk
    omega
theorem Grew.alloc {w w' : World} {v v' : Value} (h : Grew w v w' v') (o : Obj) : Grew w v (w'.alloc o) v' :=
  ⟨⟨h.by_.os, h.by_.tape, h.by_.output, by have := h.by_.size; simp; omega, fun i hi hne => (Below.heap_alloc _ _ _ (by have := h.by_.size; omega)).trans (h.by_.block i hi hne)⟩, h.row⟩
/- the row of a value that owns one: it lies there already -/
theorem own_row {w : World} {N n : Nat} {v : Value} {vs : List Value} {e : TypeId} {k : Nat} (h : w.ownsRow N e k v n vs) {g : Nat} (hg : v.ownBlock = some g) : N ≤ g ∧ g < w.heap.size := by
  rcases h.2 with ⟨hv, _⟩ | ⟨g', cap', cur, hv, hNg, hh, _⟩
  · subst hv; cases hg
  · subst hv
    have : g' = g := Option.some.inj hg
    subst this
    exact ⟨hNg, (Array.getElem?_eq_some_iff.1 hh).1⟩
/- a cell of another block is as it was -/
theorem Grew.cell {w w' : World} {v v' : Value} (h : Grew w v w' v') {p : Addr} {x : Value} (hp : w.cell? p = some x) (hne : some p.block ≠ v.ownBlock) : w'.cell? p = some x :=
  (World.cell?_of_block (w := w) (h.by_.block p.block (block_lt_of_cell hp) hne)).trans hp
theorem own_ne {w : World} {N n : Nat} {v : Value} {vs : List Value} {e : TypeId} {k : Nat} (h : w.ownsRow N e k v n vs) {b : Nat} (hb : w.heap.size ≤ b) : some b ≠ v.ownBlock := fun e => by
  have := own_row h e.symm
  omega
theorem run_bytes (w : World) (N : Nat) (v : Value) (n : Nat) (vs : List Nat) (ty : TypeId) (hown : w.ownsRow N 5 1 v n (vs.map V8)) (ad : Addr) (m c : Nat) (ds : List Nat) (hl : ds.length = m) (hnews : ∀ j u, (ds.map V8)[j]? = some u → w.cell? (ad.add j) = some u) (hb : n + m ≤ 400000) (hN : N ≤ w.heap.size) :
    ∃ v' w', (Builtin.append_ #[71, 71] ty #[v, .slice (some ad) m c]).run Try.prog w = .ok v' w' ∧ w'.ownsRow N 5 1 v' (n + m) ((vs ++ ds).map V8) ∧ Grew w v w' v' := by
  obtain ⟨v', w', hr, h2, h3, h4, h5⟩ := run_append_own_at (P := Try.prog) w N 71 ty 5 Try.t5 (.int .u8 0) 1 1 Try.underlying71 info5 rfl rfl rfl rfl (by omega) v n (vs.map V8) hown ad m c (ds.map V8) (by simpa using hl) hnews (v8_one ds) (by unfold maxLen; omega) (by omega) hN
  rw [← List.map_append] at h2
  exact ⟨v', w', hr, h2, h3, h5.imp id (fun h => ⟨_, h, Nat.le_refl _⟩)⟩
theorem run_text (w : World) (N : Nat) (v : Value) (n : Nat) (vs : List Nat) (ty : TypeId) (hown : w.ownsRow N 5 1 v n (vs.map V8)) (t : ByteArray) (hb : n + t.size ≤ 400000) (hN : N ≤ w.heap.size) :
    ∃ v' w', (Builtin.append_ #[71, 9] ty #[v, .string t]).run Try.prog w = .ok v' w' ∧ w'.ownsRow N 5 1 v' (n + t.size) ((vs ++ bl t).map V8) ∧ Grew w v w' v' := by
  obtain ⟨v', w', hr, h2, h3, h4⟩ := Lib.run_append_own_string (P := Try.prog) w N 71 9 ty 5 Try.t5 Try.underlying71 Try.underlying9 info5 rfl rfl rfl v n _ hown t (by unfold maxLen; omega) (by omega) hN
  rw [strCells_bl, ← List.map_append] at h2
  refine ⟨v', w', hr, h2, h3, ?_⟩
  have hxl : (vs.map V8).length = n := by simpa using hown.1
  rcases hown.2 with ⟨rfl, rfl⟩ | ⟨g, cap, cur, rfl, hbg, hg, hnc, hcm, hcs, htake⟩
  · by_cases hm : t.size = 0
    · exact .inl (by rw [h4.2 ⟨rfl, hm⟩])
    · have e := run_append_nil_string (P := Try.prog) w 71 9 ty 5 Try.t5 (.int .u8 0) Try.underlying71 Try.underlying9 info5 rfl t (by omega) (by omega) (by show _ * 1 ≤ _; omega)
      rw [hr] at e
      cases e
      exact .inr ⟨_, rfl, Nat.le_refl _⟩
  · by_cases hroom : n + t.size ≤ cap
    · have e := Lib.run_append_room_string (P := Try.prog) w 71 9 ty 5 Try.t5 Try.underlying71 Try.underlying9 info5 rfl g n cap cur hg t hroom (by omega)
      rw [hr] at e
      cases e
      exact .inl rfl
    · have e := Lib.run_append_grow_string (P := Try.prog) w 71 9 ty 5 Try.t5 (.int .u8 0) Try.underlying71 Try.underlying9 info5 rfl ⟨g, 0, none⟩ n cap (vs.map V8) (by rw [show Try.t5.size = 1 from rfl]; simpa using hxl) (hown.cells (g := g) rfl) t (by omega) (by omega) (by rw [show Try.t5.bytes = 1 from rfl]; exact growslice_fits (by omega) (by omega))
      rw [hr] at e
      cases e
      exact .inr ⟨_, rfl, Nat.le_refl _⟩
/- 'append(b, c...)' of bytes; 'append(b, s...)', s a string: as one operation of a list, and as one step of a statement whose order is drawn -/
theorem step_bytes {o : Oper} {a : Act} {w : World} {K : Act → World → Prop} {Q : Exit → Act → World → Prop} (d : Option Tmp) (hd : o.dst = d) (s x : Operand)
    (ho : o.op = .call { callee := .builtin .append, args := #[s, x], argTypes := #[71, 71] }) (N : Nat) (v : Value) (n : Nat) (vs : List Nat) (hs : a.eval s = v) (hown : w.ownsRow N 5 1 v n (vs.map V8))
    (ad : Addr) (m c : Nat) (ds : List Nat) (hx : a.eval x = .slice (some ad) m c) (hl : ds.length = m) (hnews : ∀ j u, (ds.map V8)[j]? = some u → w.cell? (ad.add j) = some u) (hb : n + m ≤ 400000) (hN : N ≤ w.heap.size)
    (h : ∀ v' w', w'.ownsRow N 5 1 v' (n + m) ((vs ++ ds).map V8) → Grew w v w' v' → K (a.put d v') w') : Oper.wp Try.prog o a w K Q := by
  obtain ⟨v', w', hr, h2, h3⟩ := run_bytes w N v n vs o.type hown ad m c ds hl hnews hb hN
  subst hd
  unfold Oper.wp execOp
  simp only [ho, resolve, invoke, builtin, Sem.run_bind, Sem.run_pure, Result.andThen_ok, List.map_toArray, List.map_cons, List.map_nil, hs, hx, hr]
  exact h v' w' h2 h3
theorem step_text {o : Oper} {a : Act} {w : World} {K : Act → World → Prop} {Q : Exit → Act → World → Prop} (d : Option Tmp) (hd : o.dst = d) (s x : Operand)
    (ho : o.op = .call { callee := .builtin .append, args := #[s, x], argTypes := #[71, 9] }) (N : Nat) (v : Value) (n : Nat) (vs : List Nat) (hs : a.eval s = v) (hown : w.ownsRow N 5 1 v n (vs.map V8))
    (t : ByteArray) (hx : a.eval x = .string t) (hb : n + t.size ≤ 400000) (hN : N ≤ w.heap.size)
    (h : ∀ v' w', w'.ownsRow N 5 1 v' (n + t.size) ((vs ++ bl t).map V8) → Grew w v w' v' → K (a.put d v') w') : Oper.wp Try.prog o a w K Q := by
  obtain ⟨v', w', hr, h2, h3⟩ := run_text w N v n vs o.type hown t hb hN
  subst hd
  unfold Oper.wp execOp
  simp only [ho, resolve, invoke, builtin, Sem.run_bind, Sem.run_pure, Result.andThen_ok, List.map_toArray, List.map_cons, List.map_nil, hs, hx, hr]
  exact h v' w' h2 h3
theorem app_bytes {ops : Array Oper} {rest : List Oper} {o : Oper} {a : Act} {Q : Exit → Act → World → Prop} (hgd : o.guard = none) (s x : Operand)
    (ho : o.op = .call { callee := .builtin .append, args := #[s, x], argTypes := #[71, 71] }) (W : World) (N : Nat) (v : Value) (n : Nat) (vs : List Nat) (hs : a.eval s = v) (hown : W.ownsRow N 5 1 v n (vs.map V8))
    (ad : Addr) (m c : Nat) (ds : List Nat) (hx : a.eval x = .slice (some ad) m c) (hl : ds.length = m) (hnews : ∀ j u, (ds.map V8)[j]? = some u → W.cell? (ad.add j) = some u) (hb : n + m ≤ 400000) (hN : N ≤ W.heap.size)
    (h : ∀ v' w', w'.ownsRow N 5 1 v' (n + m) ((vs ++ ds).map V8) → Grew W v w' v' → wpList Try.prog ops Q rest (a.put o.dst v') w') : wpList Try.prog ops Q (o :: rest) a W :=
  wpList_plain hgd fun _ hK => step_bytes _ rfl s x ho N v n vs hs hown ad m c ds hx hl hnews hb hN (fun v' w' h1 h2 => hK _ _ (h v' w' h1 h2))
theorem app_text {ops : Array Oper} {rest : List Oper} {o : Oper} {a : Act} {Q : Exit → Act → World → Prop} (hgd : o.guard = none) (s x : Operand)
    (ho : o.op = .call { callee := .builtin .append, args := #[s, x], argTypes := #[71, 9] }) (W : World) (N : Nat) (v : Value) (n : Nat) (vs : List Nat) (hs : a.eval s = v) (hown : W.ownsRow N 5 1 v n (vs.map V8))
    (t : ByteArray) (hx : a.eval x = .string t) (hb : n + t.size ≤ 400000) (hN : N ≤ W.heap.size)
    (h : ∀ v' w', w'.ownsRow N 5 1 v' (n + t.size) ((vs ++ bl t).map V8) → Grew W v w' v' → wpList Try.prog ops Q rest (a.put o.dst v') w') : wpList Try.prog ops Q (o :: rest) a W :=
  wpList_plain hgd fun _ hK => step_text _ rfl s x ho N v n vs hs hown t hx hb hN (fun v' w' h1 h2 => hK _ _ (h v' w' h1 h2))
/- 'string(b)' of a slice of the call's own -/
theorem str_of_own {w : World} {N n : Nat} {v : Value} {vs : List Nat} (h : w.ownsRow N 5 1 v n (vs.map V8)) (h8 : ∀ x ∈ vs, x < 256) : (convert 71 9 v).run Try.prog w = .ok (.string (tb vs)) w := by
  obtain ⟨h0, h1⟩ := h
  have hl : vs.length = n := by simpa using h0
  rcases h1 with ⟨rfl, hn⟩ | ⟨g, cap', cur, rfl, hN, hh, hc, hm, hsz, ht⟩
  · have : vs = [] := List.eq_nil_of_length_eq_zero (by omega)
    subst this
    have := run_convert_bytes_string (P := Try.prog) w 71 9 5 none 0 0 Try.underlying71 Try.underlying5 Try.underlying9
    rw [this]
    simp [Conv.bytesToString]
    rfl
  · have e := run_convert_bytes_back (P := Try.prog) w 71 9 5 ⟨g, 0, none⟩ cap' (vs.map UInt8.ofNat) Try.underlying71 Try.underlying5 Try.underlying9 (fun j hj => by
      have hj' : j < vs.length := by simpa using hj
      rw [Go.WideShapes.add_plain, cell_of_row w g (0 + j) cur 5 (0, 0) hh, Nat.zero_add, ← Array.getElem?_toList]
      have e : (cur.toList.take (n * 1))[j]? = (vs.map V8)[j]? := by rw [ht]
      rw [Nat.mul_one, List.getElem?_take_of_lt (by omega)] at e
      rw [e, List.getElem?_map, List.getElem?_eq_getElem hj', List.getElem_map]
      have h1 : vs[j] < 256 := h8 _ (List.getElem_mem hj')
      show some (V8 vs[j]) = _
      rw [V8, UInt8.toNat_ofNat', Nat.mod_eq_of_lt h1])
    rw [List.length_map, hl] at e
    exact e
theorem one_cells (w : World) (z : Int) (b : Nat) (hz : z = (b : Int)) : ∀ j u, ([b].map V8)[j]? = some u → (w.alloc (.cells #[.int .u8 z] 5)).cell? ((⟨w.heap.size, 0, none⟩ : Addr).add j) = some u := by
  obtain ⟨g, cap, hv, _, _, _, h⟩ := own_at (one_own w z b hz) (by omega)
  cases hv
  exact h
theorem own_alloc8 {w : World} {N n : Nat} {v : Value} {vs : List Value} (h : w.ownsRow N 5 1 v n vs) (o : Obj) : (w.alloc o).ownsRow N 5 1 v n vs := owns8_below h ((Below.refl w.heap.size w).alloc (Nat.le_refl _) o) rfl
theorem one_cells_at (W : World) (B : Nat) (hB : W.heap.size = B) (z : Int) (b : Nat) (hz : z = (b : Int)) : ∀ j u, ([b].map V8)[j]? = some u → (W.alloc (.cells #[.int .u8 z] 5)).cell? ((⟨B, 0, none⟩ : Addr).add j) = some u := by
  subst hB
  exact one_cells W z b hz
theorem Grew.ne {w w' : World} {v v' : Value} (h : Grew w v w' v') {b : Nat} (hne : some b ≠ v.ownBlock) (hb : b < w.heap.size) : some b ≠ v'.ownBlock := by
  rcases h.row with e | ⟨g, e, hg⟩
  · rw [e]; exact hne
  · rw [e]; intro he; have := Option.some.inj he; omega
theorem Grew.drew {w w' : World} {v v' : Value} (h : Grew w v w' v') : Grew w v w'.drew v' := ⟨⟨h.by_.os, h.by_.tape, h.by_.output, h.by_.size, h.by_.block⟩, h.row⟩
end Go.Proofs.Ytoinaplmgffkpaa
