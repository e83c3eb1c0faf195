/- Proved: numField reads a number as a field. -/
import Derived.Test.YtpbobmhffdmmmaaNumber
import Derived.Laws.ResultCell
namespace Go.Proofs.Ytpbobmhffdmmmaa
open Go.RowKit
variable {G : Nat}
theorem Inp.lt {w : World} {B : Nat} {v : Value} {bs : List Nat} (h : Inp G w B v bs) : B < w.heap.size := h.box.lt
theorem Inp.below {w w' : World} {B : Nat} {v : Value} {bs : List Nat} (h : Inp G w B v bs) (hb : Below (B + 1) w w') : Inp G w' B v bs := by
  refine ⟨(hb.block B (by omega)).trans h.box, ?_, h.byte⟩
  obtain ⟨a, cap, h1, h2, h3, h4⟩ := h.val
  refine ⟨a, cap, h1, h2, h3, ?_⟩
  obtain ⟨g, off, e, hg, hc⟩ := h4
  exact ⟨g, off, e, hg, fun i hi => (hb.cell (p := ⟨g, off + i, none⟩) (by show g < B + 1; omega)).trans (hc i hi)⟩
theorem FieldAt.range {w : World} {b off : Nat} {f : Fv} (h : FieldAt w b off f) : w.rangeAt b off (fcells f) := fun j v hj => by
  match j, hj with
  | 0, hj => cases hj; exact h.tag
  | 1, hj => cases hj; exact h.kind
  | 2, hj => cases hj; exact h.n
  | 3, hj => cases hj; exact h.s
theorem size38 : (Try.prog.info? 38).map (·.size) = some 4 := by kernel_rfl
theorem results38 {fn : Func} {p u : Tmp} (h : fn.results = #[.cell p 38, .tmp u]) (tmps : Array Value) (w : World) (g : Nat) (f : Fv) (v : Value)
    (hp : tmps.getD p undef = .pointer (some ⟨g, 0, none⟩)) (hv : tmps.getD u undef = v) (hF : FieldAt w g 0 f) : (results fn tmps).run Try.prog w = .ok (.tuple #[fv f, v]) w := by
  rw [results_cell_tmp h, hp, hv]
  simp only [asAddr, Sem.run_pure, Result.andThen_ok]
  rw [run_loadVar_mid w g 0 38 (fcells f) _ hF.range Try.underlying38 rfl size38]
  rfl
theorem Inp.realloc {W : World} {z o : Obj} {B : Nat} {v : Value} {bs : List Nat} (h : Inp G (W.alloc z) B v bs) (hB : B < W.heap.size) : Inp G (W.alloc o) B v bs :=
  h.below ⟨rfl, rfl, rfl, by simp, fun k hk => by rw [Below.heap_alloc _ _ _ (by omega), Below.heap_alloc _ _ _ (by omega)]⟩
theorem grown_set_alloc (w : World) (B : Nat) (v : Value) (o : Obj) : w.grownBy ((w.setCell ⟨B, 0, none⟩ v).alloc o) (some B) :=
  ⟨rfl, rfl, rfl, by simp [World.setCell], fun k hk hne => by
    rw [Below.heap_alloc _ _ _ (by simpa [World.setCell] using hk)]
    exact Below.heap_setCell _ _ _ _ (fun e => hne (by rw [e]))⟩
theorem size_set (w : World) (a : Addr) (v : Value) : (w.setCell a v).heap.size = w.heap.size := by simp [World.setCell]
theorem box_at' (w : World) (f : Fv) (N : Nat) (h : w.heap.size = N) : FieldAt (boxed w f) N 0 f := by subst h; exact box_at w f
/- what numField, textField and field answer -/
def FieldPost (G : Nat) (R : Fv → List Nat → Prop) (B : Nat) (w : World) (e : Ending) (w' : World) : Prop :=
  (∃ f rest v', R f rest ∧ e = .returned (.tuple #[fv f, .bool true]) ∧ w.grownBy w' (some B) ∧ Inp G w' B v' rest) ∨
  ((∀ f rest, ¬ R f rest) ∧ ∃ f, e = .returned (.tuple #[fv f, .bool false]) ∧ w.grownBy w' (some B))
def NumR (bs : List Nat) (f : Fv) (rest : List Nat) : Prop := ∃ n : Nat, f = ⟨0, 0, n, ByteArray.empty⟩ ∧ Fi.Num bs n rest
set_option maxHeartbeats 1000000 in
set_option maxRecDepth 20000 in
theorem numf_any (B : Nat) (v : Value) (bs : List Nat) (w : World) (hI : Inp G w B v bs) :
    Calls Try.prog 37 #[.pointer (some ⟨B, 0, none⟩)] w (FieldPost G (NumR bs) B w) := by
  have HI : Hid (Inp G w B v bs) := hI
  have hB := hI.lt
  clear hI
  have hne : ¬ w.heap.size = B := by omega
  go_enter Try.func37, Try.ntmps37
  go_wp2_with fail
  refine (rnum_any B v bs _ (HI.out.below (((Below.refl _ w).alloc (Nat.le_refl _) _).mono (by omega)))).mono ?_
  rintro e w1 (⟨n, rest, v', hN, rfl, rfl, hI'⟩ | ⟨hX, z, rfl, (rfl | ⟨v', rfl⟩)⟩)
  · rw [World.setCell_alloc_past _ _ _ _ hB] at hI'
    have HI' : Hid (Inp G _ B v' rest) := hI'
    clear hI'
    go_wp2_with fail
    refine bodyPost_ret (results38 rfl _ _ w.heap.size ⟨0, 0, n, ByteArray.empty⟩ _ rfl rfl (box_at' _ ⟨0, 0, n, ByteArray.empty⟩ _ (size_set _ _ _))) rfl ?_
    exact .inl ⟨_, rest, v', ⟨n, rfl, hN⟩, rfl, grown_set_alloc _ _ _ _, HI'.out.realloc (by rw [size_set]; exact hB)⟩
  · go_wp2_with fail
    refine bodyPost_ret (results38 rfl _ _ w.heap.size ⟨0, 0, z, ByteArray.empty⟩ _ rfl rfl (box_at' _ ⟨0, 0, z, ByteArray.empty⟩ _ rfl)) rfl ?_
    exact .inr ⟨fun f rest ⟨n, _, h⟩ => hX n rest h, _, rfl, World.grownBy_alloc w _ _⟩
  · go_wp2_with fail
    refine bodyPost_ret (results38 rfl _ _ w.heap.size ⟨0, 0, z, ByteArray.empty⟩ _ rfl rfl (box_at' _ ⟨0, 0, z, ByteArray.empty⟩ _ (size_set _ _ _))) rfl ?_
    exact .inr ⟨fun f rest ⟨n, _, h⟩ => hX n rest h, _, rfl, grown_set_alloc _ _ _ _⟩
end Go.Proofs.Ytpbobmhffdmmmaa
