/- Proved: as many pages are touched as a transaction's map has (stage 10; mathematics). -/
import Derived.Test.YtcfninpokngmlaaGreatDoorM19
import Derived.Deep.CutBlock
namespace Go.Proofs.YtcfninpokngmlaaGreatDoor
open Go.RowKit
structure Trk (cnt : Nat) (tb : List Bool) (mk : Bool) (tm : Pd.Mp) : Prop where
  len : tb.length = cnt + 1
  zero : tb.getD 0 false = false
  at_ : ∀ i, 1 ≤ i → (tb.getD i false = true ↔ Pd.get tm i ≠ none)
  mark : mk = true ↔ Pd.get tm 0 ≠ none
theorem range_map (tb : List Bool) : tb = (List.range tb.length).map (fun i => tb.getD i false) := by
  apply List.ext_getElem?
  intro i
  rw [List.getElem?_map]
  by_cases hi : i < tb.length
  · rw [List.getElem?_range hi, List.getElem?_eq_getElem hi]
    show some _ = some (tb.getD i false)
    rw [List.getD_eq_getElem?_getD, List.getElem?_eq_getElem hi]
    rfl
  · rw [List.getElem?_eq_none (by omega), List.getElem?_eq_none (by rw [List.length_range]; omega)]
    rfl
theorem count_range (tb : List Bool) : ((List.range tb.length).filter (fun i => tb.getD i false)).length = tb.count true := by
  have h1 : tb.count true = (tb.filter (fun b => b)).length := by
    rw [List.count_eq_countP, List.countP_eq_length_filter]
    congr 1
    apply List.filter_congr
    intro b _
    cases b <;> rfl
  rw [h1]
  conv => rhs; rw [range_map tb]
  rw [List.filter_map, List.length_map]
  rfl
theorem keys_mem {tm : Pd.Mp} {i : Nat} : i ∈ tm.map Prod.fst ↔ Pd.get tm i ≠ none := by
  constructor
  · intro h e
    obtain ⟨p, hp, rfl⟩ := List.mem_map.1 h
    induction tm with
    | nil => cases hp
    | cons q m ih =>
      unfold Pd.get at e
      by_cases hq : q.1 = p.1
      · rw [if_pos hq] at e; cases e
      · rw [if_neg hq] at e
        rcases List.mem_cons.1 hp with rfl | hp
        · exact hq rfl
        · exact ih hp (List.mem_map.2 ⟨p, hp, rfl⟩) e
  · intro h
    cases e : Pd.get tm i with
    | none => exact absurd e h
    | some x => exact List.mem_map.2 ⟨_, Pd.get_mem e, rfl⟩
theorem keys_nodup {tm : Pd.Mp} (hu : Pd.Up tm) : (tm.map Prod.fst).Nodup := by
  rw [List.Nodup, List.pairwise_map]
  exact List.Pairwise.imp (fun h => Nat.ne_of_lt h) hu
theorem Trk.count {cnt : Nat} {tb : List Bool} {mk : Bool} {tm : Pd.Mp} (h : Trk cnt tb mk tm) (hu : Pd.Up tm) : chC tb mk = tm.length := by
  have hL : ((if mk = true then [0] else []) ++ (List.range tb.length).filter (fun i => tb.getD i false)).Nodup := by
    rw [List.nodup_append]
    refine ⟨by split <;> simp, List.Pairwise.filter _ List.nodup_range, fun x hx y hy e => ?_⟩
    subst e
    have h1 := (List.mem_filter.1 hy).2
    have hx0 : x = 0 := by
      cases mk with
      | true => simpa using hx
      | false => simp at hx
    subst hx0
    rw [h.zero] at h1
    cases h1
  have hmem : ∀ i, i ∈ (if mk = true then [0] else []) ++ (List.range tb.length).filter (fun i => tb.getD i false) ↔ i ∈ tm.map Prod.fst := fun i => by
    rw [keys_mem, List.mem_append, List.mem_filter, List.mem_range]
    by_cases hi : i = 0
    · subst hi
      rw [h.zero, ← h.mark]
      cases mk <;> simp
    · rw [← h.at_ i (by omega)]
      constructor
      · rintro (q | ⟨_, q⟩)
        · exfalso
          cases mk with
          | true => exact hi (by simpa using q)
          | false => simp at q
        · exact q
      · intro q
        right
        refine ⟨?_, q⟩
        apply Classical.byContradiction
        intro hge
        rw [List.getD_eq_getElem?_getD, List.getElem?_eq_none (by omega)] at q
        cases q
  have a1 := nodup_sub _ _ hL (fun i hi => (hmem i).1 hi)
  have a2 := nodup_sub _ _ (keys_nodup hu) (fun i hi => (hmem i).2 hi)
  rw [List.length_append, count_range, List.length_map] at a1 a2
  unfold chC
  cases mk <;> simp at a1 a2 ⊢ <;> omega
theorem Trk.start (cnt : Nat) : Trk cnt (List.replicate (cnt + 1) false) false [] := by
  have h0 : ∀ i, (List.replicate (cnt + 1) false).getD i false = false := fun i => by
    rw [List.getD_eq_getElem?_getD, List.getElem?_replicate]
    split <;> rfl
  exact ⟨by simp, h0 0, fun i _ => by rw [h0]; simp [Pd.get], by simp [Pd.get]⟩
theorem Trk.set {cnt : Nat} {tb : List Bool} {mk : Bool} {tm : Pd.Mp} (h : Trk cnt tb mk tm) (hu : Pd.Up tm) {i : Nat} (x : Pd.Sheet) (h1 : 1 ≤ i) (h2 : i ≤ cnt) : Trk cnt (tb.set i true) mk (Pd.set tm i x) := by
  have hat : ∀ j, (tb.set i true).getD j false = if i = j then true else tb.getD j false := fun j => by
    rw [List.getD_eq_getElem?_getD, List.getElem?_set, List.getD_eq_getElem?_getD]
    by_cases e : i = j
    · subst e
      rw [if_pos rfl, if_pos rfl, if_pos (by rw [h.len]; omega)]
      rfl
    · rw [if_neg e, if_neg e]
  refine ⟨by rw [List.length_set]; exact h.len, ?_, fun j hj => ?_, ?_⟩
  · rw [hat, if_neg (by omega)]; exact h.zero
  · rw [hat, Pd.get_set x i j hu]
    by_cases e : i = j
    · rw [if_pos e, if_pos e]; simp
    · rw [if_neg e, if_neg e]; exact h.at_ j hj
  · rw [Pd.get_set x i 0 hu, if_neg (by omega)]; exact h.mark
theorem Trk.marks {cnt : Nat} {tb : List Bool} {mk : Bool} {tm : Pd.Mp} (h : Trk cnt tb mk tm) (hu : Pd.Up tm) (x : Pd.Sheet) : Trk cnt tb true (Pd.set tm 0 x) :=
  ⟨h.len, h.zero, fun j hj => by rw [Pd.get_set x 0 j hu, if_neg (by omega)]; exact h.at_ j hj, by rw [Pd.get_set x 0 0 hu, if_pos rfl]; simp⟩
section
variable {cnt : Nat} {S T : Pd.Ab} {tb : List Bool} {mk : Bool} {tm : Pd.Mp}
theorem Trk.write (h : Trk cnt tb mk tm) (hI : Pd.TxI cnt S T tm) (id k : Int) (b : ByteArray) : Trk cnt (wrK T id k b tb) mk (wrM T tm id k b) := by
  unfold wrK wrM
  by_cases e : wrR T id k b = 0
  · rw [if_pos e, if_pos e]
    obtain ⟨h1, h2, _⟩ := there_zero (write_zero e).1
    exact h.set hI.up _ h1 (by have := hI.ok.most; omega)
  · rw [if_neg e, if_neg e]; exact h
theorem Trk.free (h : Trk cnt tb mk tm) (hI : Pd.TxI cnt S T tm) (id : Int) : Trk cnt (frK T id tb) (frB T id mk) (frM T tm id) := by
  unfold frK frB frM
  by_cases e : frR T id = 0
  · rw [if_pos e, if_pos e, if_pos e]
    obtain ⟨h1, h2, _⟩ := there_zero (T := T) (id := id) e
    exact (h.set hI.up _ h1 (by have := hI.ok.most; omega)).marks (Pd.Up.set _ _ hI.up) _
  · rw [if_neg e, if_neg e, if_neg e]; exact h
theorem Trk.setroot (h : Trk cnt tb mk tm) (hI : Pd.TxI cnt S T tm) (i n : Int) : Trk cnt tb (srK i n mk) (srM T tm i n) := by
  unfold srK srM
  by_cases e : setrootR i n = 0
  · rw [if_pos e, if_pos e]; exact h.marks hI.up _
  · rw [if_neg e, if_neg e]; exact h
theorem Trk.alloc (h : Trk cnt tb mk tm) (hI : Pd.TxI cnt S T tm) : Trk cnt (alK T cnt tb) (alB T cnt mk) (alM T tm cnt) := by
  unfold alK alB alM alI
  by_cases e : alR T cnt = 0
  · rw [if_pos e, if_pos e, if_pos e, if_pos e]
    have h1 := Pd.Ab.allocI_pos hI.ok
    have h2 : T.allocI ≤ cnt := by
      unfold Pd.Ab.allocI
      split
      · exact hI.ok.most
      · rename_i hne
        have := (hI.ok.flt (Pd.last_mem_of hne)).2
        have := hI.ok.most
        omega
    exact (h.set hI.up _ h1 h2).marks (Pd.Up.set _ _ hI.up) _
  · rw [if_neg e, if_neg e, if_neg e]; exact h
end
end Go.Proofs.YtcfninpokngmlaaGreatDoor
/- Proved: the program's database and the document's, side by side in memory (stage 10). -/
namespace Go.Proofs.YtcfninpokngmlaaGreatDoor
open Go.RowKit
/- apart: a block, the program's blocks, the document's, and blocks that nobody writes -/
structure Apt (W w : World) (q : Nat) (F R E : List Nat) : Prop where
  qf : q ∉ F
  qr : q ∉ R
  qe : q ∉ E
  fr : ∀ k ∈ R, k ∉ F
  fe : ∀ k ∈ E, k ∉ F
  re : ∀ k ∈ E, k ∉ R
  lq : q < w.heap.size
  lf : ∀ k ∈ F, k < w.heap.size
  lr : ∀ k ∈ R, k < w.heap.size
  le : ∀ k ∈ E, k < w.heap.size
  wq : W.heap.size ≤ q
  wf : ∀ k ∈ F, W.heap.size ≤ k
  wr : ∀ k ∈ R, W.heap.size ≤ k
section
variable {W w w' : World} {q : Nat} {F F' R R' E E' : List Nat}
theorem Apt.left (h : Apt W w q F R E) (hT : Turn F F' w w') (hl : ∀ k ∈ F', k < w'.heap.size) (hw : W.heap.size ≤ w.heap.size) : Apt W w' q F' R E := by
  have hs := hT.chg.size
  have hn : ∀ k, k < w.heap.size → k ∉ F → k ∉ F' := fun k h1 h2 hm => by
    rcases hT.grow k hm with e | e
    · exact h2 e
    · omega
  refine ⟨hn q h.lq h.qf, h.qr, h.qe, fun k hk => hn k (h.lr k hk) (h.fr k hk), fun k hk => hn k (h.le k hk) (h.fe k hk), h.re, by have := h.lq; omega, hl, fun k hk => by have := h.lr k hk; omega, fun k hk => by have := h.le k hk; omega, h.wq, fun k hk => ?_, h.wr⟩
  rcases hT.grow k hk with e | e
  · exact h.wf k e
  · omega
theorem Apt.right (h : Apt W w q F R E) (hT : Turn R R' w w') (hl : ∀ k ∈ R', k < w'.heap.size) (hw : W.heap.size ≤ w.heap.size) : Apt W w' q F R' E := by
  have hs := hT.chg.size
  have hn : ∀ k, k < w.heap.size → k ∉ R → k ∉ R' := fun k h1 h2 hm => by
    rcases hT.grow k hm with e | e
    · exact h2 e
    · omega
  refine ⟨h.qf, hn q h.lq h.qr, h.qe, fun k hk => ?_, h.fe, fun k hk => hn k (h.le k hk) (h.re k hk), by have := h.lq; omega, fun k hk => by have := h.lf k hk; omega, hl, fun k hk => by have := h.le k hk; omega, h.wq, h.wf, fun k hk => ?_⟩
  · rcases hT.grow k hk with e | e
    · exact h.fr k e
    · intro hm; have := h.lf k hm; omega
  · rcases hT.grow k hk with e | e
    · exact h.wr k e
    · omega
theorem Apt.below (h : Apt W w q F R E) (hB : Below w.heap.size w w') : Apt W w' q F R E := by
  have hs := hB.size
  exact ⟨h.qf, h.qr, h.qe, h.fr, h.fe, h.re, by have := h.lq; omega, fun k hk => by have := h.lf k hk; omega, fun k hk => by have := h.lr k hk; omega, fun k hk => by have := h.le k hk; omega, h.wq, h.wf, h.wr⟩
theorem Apt.less (h : Apt W w q F R E) (hf : ∀ k ∈ F', k ∈ F) (hr : ∀ k ∈ R', k ∈ R) (he : ∀ k ∈ E', k ∈ E) : Apt W w q F' R' E' :=
  ⟨fun hm => h.qf (hf _ hm), fun hm => h.qr (hr _ hm), fun hm => h.qe (he _ hm), fun k hk hm => h.fr k (hr _ hk) (hf _ hm), fun k hk hm => h.fe k (he _ hk) (hf _ hm), fun k hk hm => h.re k (he _ hk) (hr _ hm), h.lq, fun k hk => h.lf k (hf _ hk), fun k hk => h.lr k (hr _ hk), fun k hk => h.le k (he _ hk), h.wq, fun k hk => h.wf k (hf _ hk), fun k hk => h.wr k (hr _ hk)⟩
/- a block more that nobody writes -/
theorem Apt.more (h : Apt W w q F R E) (a : Nat) (hq : a ≠ q) (ha : a ∉ F) (hr : a ∉ R) (hl : a < w.heap.size) : Apt W w q F R (a :: E) :=
  ⟨h.qf, h.qr, fun hm => by
    rcases List.mem_cons.1 hm with e | e
    · exact hq e.symm
    · exact h.qe e, h.fr, fun k hk => by
    rcases List.mem_cons.1 hk with rfl | e
    · exact ha
    · exact h.fe k e, fun k hk => by
    rcases List.mem_cons.1 hk with rfl | e
    · exact hr
    · exact h.re k e, h.lq, h.lf, h.lr, fun k hk => by
    rcases List.mem_cons.1 hk with rfl | e
    · exact hl
    · exact h.le k e, h.wq, h.wf, h.wr⟩
end
/- the geometry of the disk -/
structure Geo (d : Pd.Db) (cnt n : Nat) : Prop where
  cnt : d.cnt = cnt
  n : d.n = n
  len : d.cnt = (d.s.kept.length - d.n) / 8
  left : d.s.left = -1
theorem Geo.kin {d d' : Pd.Db} {cnt n : Nat} (h : Geo d cnt n) (k : Pd.Kin d d') : Geo d' cnt n := ⟨k.cnt.trans h.cnt, k.n.trans h.n, by rw [k.cnt, k.len, k.n]; exact h.len, k.left h.left⟩
def twA (A : Ad) (tv : Value) (h : Nat) : Array Value := #[ptr A.g, ptr A.x, tv, ptr h]
def ended (w : World) (tv : Value) (E : List Nat) : Prop := tv = nilP ∨ ∃ t, tv = ptr t ∧ TxEnd w t ∧ t ∈ E
/- no transaction is open -/
structure PC (W w : World) (q h : Nat) (A : Ad) (tv : Value) (v : Rv) (K : Nat) (d : Pd.Db) (S : Pd.Ab) (mk sp : Bool) (cnt n : Nat) (E : List Nat) : Prop where
  g : GD W w A K d S
  row : w.heap[q]? = some (.cells (twA A tv h) 34 (0, 0))
  rc : RC w h cnt n v S mk sp
  ap : Apt W w q A.ft (rS h v) E
  en : ended w tv E
  geo : Geo d cnt n
/- one is -/
structure PO (W w : World) (q h : Nat) (A : Ad) (t bt : Nat) (v : Rv) (K : Nat) (d : Pd.Db) (S T : Pd.Ab) (sp : Bool) (tm : Pd.Mp) (tb : List Bool) (mk : Bool) (cnt n : Nat) (E : List Nat) : Prop where
  g : GT W w A t bt K d S T sp tm
  row : w.heap[q]? = some (.cells (twA A (ptr t) h) 34 (0, 0))
  ro : RO w h cnt n v S T tb mk sp
  ap : Apt W w q (tft A t bt) (rT h v) E
  trk : Trk cnt tb mk tm
  geo : Geo d cnt n
section
variable {W w w' : World} {q h : Nat} {A A' : Ad} {tv : Value} {t bt : Nat} {v v' : Rv} {K K' : Nat} {d d' : Pd.Db} {S T S' T' : Pd.Ab} {sp sp' mk mk' : Bool} {tm tm' : Pd.Mp} {tb tb' : List Bool} {cnt n : Nat} {E : List Nat}
theorem ended.keep {F : List Nat} (h : ended w tv E) (hc : Chg F w w') (he : ∀ k ∈ E, k ∉ F) (hl : ∀ k ∈ E, k < w.heap.size) : ended w' tv E := by
  rcases h with h | ⟨t, h1, h2, h3⟩
  · exact .inl h
  · exact .inr ⟨t, h1, (hc.block t (hl t h3) (he t h3)).trans h2, h3⟩
theorem ended.shut (h : ended w tv E) : Shut w tv := by
  rcases h with h | ⟨t, h1, h2, _⟩
  · exact .inl h
  · exact .inr ⟨t, h1, (cell_of_row w t 0 _ _ (0, 0) h2).trans rfl⟩
theorem PC.pos (H : PC W w q h A tv v K d S mk sp cnt n E) : W.heap.size ≤ w.heap.size := H.g.bel.size
theorem PC.below (H : PC W w q h A tv v K d S mk sp cnt n E) (hB : Below w.heap.size w w') : PC W w' q h A tv v K d S mk sp cnt n E :=
  ⟨H.g.below hB, (hB.block q H.ap.lq).trans H.row, H.rc.below hB, H.ap.below hB, H.en.keep (F := []) (Chg.of_below hB) (by simp) H.ap.le, H.geo⟩
theorem PO.below (H : PO W w q h A t bt v K d S T sp tm tb mk cnt n E) (hB : Below w.heap.size w w') : PO W w' q h A t bt v K d S T sp tm tb mk cnt n E :=
  ⟨H.g.below hB, (hB.block q H.ap.lq).trans H.row, H.ro.below hB, H.ap.below hB, H.trk, H.geo⟩
/- the program's database turns -/
theorem PC.prog (H : PC W w q h A tv v K d S mk sp cnt n E) (hG : GD W w' A' K' d' S') (hT : Turn A.ft A'.ft w w') (hx : A'.x = A.x ∧ A'.g = A.g) (hS : S' = S) (hg : Geo d' cnt n) : PC W w' q h A' tv v K' d' S' mk sp cnt n E := by
  subst hS
  refine ⟨hG, ?_, H.rc.keep hT.chg H.ap.fr, H.ap.left hT hG.db.lt H.pos, H.en.keep hT.chg H.ap.fe H.ap.le, hg⟩
  rw [hT.chg.block q H.ap.lq H.ap.qf, H.row]
  unfold twA
  rw [hx.1, hx.2]
/- the document's database turns -/
theorem PC.doc (H : PC W w q h A tv v K d S mk sp cnt n E) (hR : RC w' h cnt n v' S mk' sp') (hT : Turn (rS h v) (rS h v') w w') (hp : 0 < W.heap.size) : PC W w' q h A tv v' K d S mk' sp' cnt n E := by
  refine ⟨⟨H.g.db.keep hT.chg (fun k hk hm => H.ap.fr k hm hk) (fun hm => by have := H.ap.wr 0 hm; omega), H.g.inv, H.g.bel.trans (hT.below H.ap.wr H.pos), H.g.new⟩, (hT.chg.block q H.ap.lq H.ap.qr).trans H.row, hR, H.ap.right hT hR.lt H.pos, H.en.keep hT.chg H.ap.re H.ap.le, H.geo⟩
theorem PO.pos (H : PO W w q h A t bt v K d S T sp tm tb mk cnt n E) : W.heap.size ≤ w.heap.size := H.g.bel.size
end
end Go.Proofs.YtcfninpokngmlaaGreatDoor
/- Proved: how both databases go on side by side (stage 10). -/
namespace Go.Proofs.YtcfninpokngmlaaGreatDoor
open Go.RowKit
section
variable {W w w' : World} {q h : Nat} {A A' : Ad} {tv : Value} {t bt : Nat} {v v' : Rv} {K K' : Nat} {d d' : Pd.Db} {S T S' T' : Pd.Ab} {sp sp' mk mk' : Bool} {tm tm' : Pd.Mp} {tb tb' : List Bool} {cnt n : Nat} {E : List Nat}
/- the program has gone on, the document not yet -/
structure PH (W w : World) (q h : Nat) (A : Ad) (t bt : Nat) (v : Rv) (K : Nat) (d : Pd.Db) (S T' : Pd.Ab) (sp' : Bool) (tm' : Pd.Mp) (T : Pd.Ab) (tb : List Bool) (mk sp : Bool) (cnt n : Nat) (E : List Nat) : Prop where
  g : GT W w A t bt K d S T' sp' tm'
  row : w.heap[q]? = some (.cells (twA A (ptr t) h) 34 (0, 0))
  ro : RO w h cnt n v S T tb mk sp
  ap : Apt W w q (tft A t bt) (rT h v) E
  geo : Geo d cnt n
theorem PO.prog (H : PO W w q h A t bt v K d S T sp tm tb mk cnt n E) (hG : GT W w' A t bt K d S T' sp' tm') (hT : Turn (tft A t bt) (tft A t bt) w w') : PH W w' q h A t bt v K d S T' sp' tm' T tb mk sp cnt n E :=
  ⟨hG, (hT.chg.block q H.ap.lq H.ap.qf).trans H.row, H.ro.keep hT.chg H.ap.fr, H.ap.left hT hG.tx.lt H.pos, H.geo⟩
theorem PH.doc (H : PH W w q h A t bt v K d S T' sp' tm' T tb mk sp cnt n E) (hR : RO w' h cnt n v' S T' tb' mk' sp') (hT : Turn (rT h v) (rT h v') w w') (hp : 0 < W.heap.size) (hk : Trk cnt tb' mk' tm') : PO W w' q h A t bt v' K d S T' sp' tm' tb' mk' cnt n E :=
  ⟨H.g.keep hT.chg (fun k hk hm => H.ap.fr k hm hk) H.ap.wr hp, (hT.chg.block q H.ap.lq H.ap.qr).trans H.row, hR, H.ap.right hT hR.lt H.g.bel.size, hk, H.geo⟩
theorem own_row_ty {B e k m : Nat} {u : Value} {xs : List Value} {t : Nat} (h : w.ownsRow B e k u m xs) (hk : u.ownBlock = some t) : ∃ cs, w.heap[t]? = some (.cells cs e (0, 0)) := by
  rcases h.2 with ⟨rfl, _⟩ | ⟨g, cap, cur, rfl, _, hb, _⟩
  · cases hk
  · exact ⟨cur, (Option.some.inj hk) ▸ hb⟩
/- a transaction of the program's that has ended lies apart from its database -/
theorem ended_apart (hG : GD W w A K d S) (hE : TxEnd w t) : t ∉ A.ft := by
  intro hm
  have hne : ∀ {o : Obj}, w.heap[t]? = some o → o = .cells txZ 66 (0, 0) := fun e => Option.some.inj (e.symm.trans hE)
  have hty : ∀ {cs : Array Value} {ty : TypeId}, w.heap[t]? = some (.cells cs ty (0, 0)) → ty = 66 := fun e => by
    have := hne e
    injection this
  rcases List.mem_cons.1 hm with e | hm
  · exact absurd (hty (e ▸ hG.db.row)) (by decide)
  · rcases List.mem_cons.1 hm with e | hm
    · obtain ⟨es, clock, hb, _⟩ := hG.db.mp.own
      rw [← e] at hb
      exact absurd (hne hb) (by intro h; cases h)
    · have hp := hG.db.lp
      have hm : t ∈ pfoot A.q A.vr A.vw ++ foot A.g A.kg A.vp := hm
      rcases List.mem_append.1 hm with hm | hm
      · rcases List.mem_cons.1 hm with e | hm
        · exact absurd (hty (e ▸ hp.pk.row)) (by decide)
        · rcases List.mem_append.1 hm with hm | hm
          · obtain ⟨cs, hr⟩ := own_row_ty hp.pk.recs (by simpa using hm)
            exact absurd (hty hr) (by decide)
          · obtain ⟨cs, hr⟩ := own_row_ty hp.pk.wait (by simpa using hm)
            exact absurd (hty hr) (by decide)
      · rcases List.mem_cons.1 hm with e | hm
        · exact absurd (hty (e ▸ hp.dk.row)) (by decide)
        · rcases List.mem_cons.1 hm with e | hm
          · exact absurd (hty (e ▸ hp.dk.kept)) (by decide)
          · obtain ⟨cs, hr⟩ := own_row_ty hp.dk.pend (by simpa using hm)
            exact absurd (hty hr) (by decide)
/- the program's transaction has ended, the document's not yet -/
structure PM (W w : World) (q h : Nat) (A : Ad) (t : Nat) (v : Rv) (K : Nat) (d : Pd.Db) (S' : Pd.Ab) (S T : Pd.Ab) (tb : List Bool) (mk sp : Bool) (cnt n : Nat) (E : List Nat) : Prop where
  g : GD W w A K d S'
  row : w.heap[q]? = some (.cells (twA A (ptr t) h) 34 (0, 0))
  ro : RO w h cnt n v S T tb mk sp
  ap : Apt W w q A.ft (rT h v) (t :: E)
  en : TxEnd w t
  geo : Geo d cnt n
theorem PO.endP {F : List Nat} (H : PO W w q h A t bt v K d S T sp tm tb mk cnt n E) (hG : GD W w' A' K' d' S') (hE : TxEnd w' t) (hT : Turn (tft A t bt) F w w') (hF : ∀ k ∈ A'.ft, k ∈ F) (hx : A'.x = A.x ∧ A'.g = A.g) (hg : Geo d' cnt n) : PM W w' q h A' t v K' d' S' S T tb mk sp cnt n E := by
  have hT2 : Turn (tft A t bt) A'.ft w w' := hT.less hF
  have htq : t ≠ q := fun e => H.ap.qf (by rw [← e]; exact tft_t)
  have htr : t ∉ rT h v := fun hm => H.ap.fr t hm tft_t
  refine ⟨hG, ?_, H.ro.keep hT.chg H.ap.fr, (H.ap.left hT2 hG.db.lt H.pos).more t htq (ended_apart hG hE) htr (heap_lt hE), hE, hg⟩
  rw [hT.chg.block q H.ap.lq H.ap.qf, H.row]
  unfold twA
  rw [hx.1, hx.2]
theorem PM.doc (H : PM W w q h A t v K d S' S T tb mk sp cnt n E) (hR : RC w' h cnt n v' S' mk' sp') (hT : Turn (rT h v) (rS h v') w w') (hp : 0 < W.heap.size) : PC W w' q h A (ptr t) v' K d S' mk' sp' cnt n (t :: E) := by
  refine ⟨⟨H.g.db.keep hT.chg (fun k hk hm => H.ap.fr k hm hk) (fun hm => by have := H.ap.wr 0 hm; omega), H.g.inv, H.g.bel.trans (hT.below H.ap.wr H.g.bel.size), H.g.new⟩, (hT.chg.block q H.ap.lq H.ap.qr).trans H.row, hR, H.ap.right hT hR.lt H.g.bel.size, .inr ⟨t, rfl, (hT.chg.block t (heap_lt H.en) (H.ap.re t List.mem_cons_self)).trans H.en, List.mem_cons_self⟩, H.geo⟩
/- the program has begun a transaction, the document not yet; then both; then it is put down -/
structure PN (W w : World) (q h : Nat) (A : Ad) (tv : Value) (t bt : Nat) (v : Rv) (K : Nat) (d : Pd.Db) (S : Pd.Ab) (mk sp : Bool) (cnt n : Nat) (E : List Nat) : Prop where
  g : GT W w A t bt K d S S false []
  row : w.heap[q]? = some (.cells (twA A tv h) 34 (0, 0))
  rc : RC w h cnt n v S mk sp
  ap : Apt W w q (tft A t bt) (rS h v) E
  geo : Geo d cnt n
structure PN2 (W w : World) (q h : Nat) (A : Ad) (tv : Value) (t bt : Nat) (v : Rv) (K : Nat) (d : Pd.Db) (S : Pd.Ab) (cnt n : Nat) (E : List Nat) : Prop where
  g : GT W w A t bt K d S S false []
  row : w.heap[q]? = some (.cells (twA A tv h) 34 (0, 0))
  ro : RO w h cnt n v S S (List.replicate (cnt + 1) false) false false
  ap : Apt W w q (tft A t bt) (rT h v) E
  geo : Geo d cnt n
theorem PC.begP (H : PC W w q h A tv v K d S mk sp cnt n E) (hG : GT W w' A t bt K d S S false []) (hT : Turn A.ft (tft A t bt) w w') : PN W w' q h A tv t bt v K d S mk sp cnt n E :=
  ⟨hG, (hT.chg.block q H.ap.lq H.ap.qf).trans H.row, H.rc.keep hT.chg H.ap.fr, H.ap.left hT hG.tx.lt H.pos, H.geo⟩
theorem PN.doc (H : PN W w q h A tv t bt v K d S mk sp cnt n E) (hR : RO w' h cnt n v' S S (List.replicate (cnt + 1) false) false false) (hT : Turn (rS h v) (rT h v') w w') (hp : 0 < W.heap.size) : PN2 W w' q h A tv t bt v' K d S cnt n E :=
  ⟨H.g.keep hT.chg (fun k hk hm => H.ap.fr k hm hk) H.ap.wr hp, (hT.chg.block q H.ap.lq H.ap.qr).trans H.row, hR, H.ap.right hT hR.lt H.g.bel.size, H.geo⟩
theorem PN2.put (H : PN2 W w q h A tv t bt v K d S cnt n E) (hp : 0 < W.heap.size) : PO W (w.setCell ⟨q, 2, none⟩ (ptr t)) q h A t bt v K d S S false [] (List.replicate (cnt + 1) false) false cnt n E := by
  have hc : Chg [q] w (w.setCell ⟨q, 2, none⟩ (ptr t)) := Chg.setCell _ _ _ _
  have hs : (w.setCell ⟨q, 2, none⟩ (ptr t)).heap.size = w.heap.size := by simp
  have hq : ∀ k ∈ [q], k = q := fun k hk => List.mem_singleton.1 hk
  refine ⟨H.g.keep hc (fun k hk hm => H.ap.qf (by rw [← hq k hm]; exact hk)) (fun k hk => by rw [hq k hk]; exact H.ap.wq) hp, (heap_setCell_same w q 2 _ _ _ H.row).trans rfl, H.ro.keep hc (fun k hk hm => H.ap.qr (by rw [← hq k hm]; exact hk)), ⟨H.ap.qf, H.ap.qr, H.ap.qe, H.ap.fr, H.ap.fe, H.ap.re, by rw [hs]; exact H.ap.lq, by rw [hs]; exact H.ap.lf, by rw [hs]; exact H.ap.lr, by rw [hs]; exact H.ap.le, H.ap.wq, H.ap.wf, H.ap.wr⟩, Trk.start cnt, H.geo⟩
end
end Go.Proofs.YtcfninpokngmlaaGreatDoor
/- Proved: the law's helper again: the power goes, comes back, and the database is opened anew (stage 10). -/
namespace Go.Proofs.YtcfninpokngmlaaGreatDoor
open Go.RowKit
def RA (w : World) (h cnt n : Nat) (v : Rv) (S : Pd.Ab) (R : List Nat) : Prop := (∃ mk sp, RC w h cnt n v S mk sp ∧ R = rS h v) ∨ (∃ T tb mk sp, RO w h cnt n v S T tb mk sp ∧ R = rT h v)
structure PA (W w : World) (q h xg : Nat) (xv tv : Value) (F : List Nat) (v : Rv) (S : Pd.Ab) (R E : List Nat) (cnt n : Nat) : Prop where
  row : w.heap[q]? = some (.cells #[ptr xg, xv, tv, ptr h] 34 (0, 0))
  ra : RA w h cnt n v S R
  ap : Apt W w q F R E
  ww : W.heap.size ≤ w.heap.size
section
variable {W w w' : World} {q h xg : Nat} {xv tv : Value} {F F' R E : List Nat} {v : Rv} {S : Pd.Ab} {cnt n : Nat}
theorem RA.keep {fs : List Nat} (H : RA w h cnt n v S R) (hc : Chg fs w w') (ha : ∀ k ∈ R, k ∉ fs) : RA w' h cnt n v S R := by
  rcases H with ⟨mk, sp, H, rfl⟩ | ⟨T, tb, mk, sp, H, rfl⟩
  · exact .inl ⟨mk, sp, H.keep hc ha, rfl⟩
  · exact .inr ⟨T, tb, mk, sp, H.keep hc ha, rfl⟩
theorem RA.c1 (H : RA w h cnt n v S R) : w.cell? ⟨h, 1, none⟩ = some (.int .i64 (n : Int)) := by
  rcases H with ⟨mk, sp, H, rfl⟩ | ⟨T, tb, mk, sp, H, rfl⟩
  · rw [H.cell]; rfl
  · exact H.c1
theorem ra_abort (H : RA w h cnt n v S R) (hcn : cnt ≤ 1000) : Calls Tryz.prog 48 #[ptr h] w fun e w' => e = .returned (.tuple #[]) ∧ (∃ mk sp, RC w' h cnt n v S mk sp) ∧ Turn R (rS h v) w w' := by
  rcases H with ⟨mk, sp, H, rfl⟩ | ⟨T, tb, mk, sp, H, rfl⟩
  · refine (rabort_no H).mono ?_
    rintro e w' ⟨rfl, h1, h2⟩
    exact ⟨rfl, ⟨mk, sp, h1⟩, h2⟩
  · refine (rabort_any H hcn).mono ?_
    rintro e w' ⟨rfl, h1, h2⟩
    exact ⟨rfl, ⟨mk, sp, h1⟩, h2⟩
theorem PA.left (H : PA W w q h xg xv tv F v S R E cnt n) (hT : Turn F F' w w') (hl : ∀ k ∈ F', k < w'.heap.size) : PA W w' q h xg xv tv F' v S R E cnt n :=
  ⟨(hT.chg.block q H.ap.lq H.ap.qf).trans H.row, H.ra.keep hT.chg H.ap.fr, H.ap.left hT hl H.ww, by have := hT.chg.size; have := H.ww; omega⟩
theorem PA.cells (H : PA W w q h xg xv tv F v S R E cnt n) : w.cell? ⟨q, 0, none⟩ = some (ptr xg) ∧ w.cell? ⟨q, 1, none⟩ = some xv ∧ w.cell? ⟨q, 2, none⟩ = some tv ∧ w.cell? ⟨q, 3, none⟩ = some (ptr h) ∧ (∀ i, w.frozen? ⟨q, i, none⟩ = false) :=
  ⟨(cell_of_row w q 0 _ _ (0, 0) H.row).trans rfl, (cell_of_row w q 1 _ _ (0, 0) H.row).trans rfl, (cell_of_row w q 2 _ _ (0, 0) H.row).trans rfl, (cell_of_row w q 3 _ _ (0, 0) H.row).trans rfl, fun i => frozen_of_row w q i _ _ H.row⟩
/- what the drawn statement of again reads -/
structure AgR (q h xg n : Nat) (w : World) : Prop where
  c0 : w.cell? ⟨q, 0, none⟩ = some (ptr xg)
  c3 : w.cell? ⟨q, 3, none⟩ = some (ptr h)
  l : w.cell? ⟨h, 1, none⟩ = some (.int .i64 (n : Int))
theorem PA.agr (H : PA W w q h xg xv tv F v S R E cnt n) : AgR q h xg n w := ⟨H.cells.1, H.cells.2.2.2.1, H.ra.c1⟩
/- the end of again -/
theorem again_fin {A : Ad} {K : Nat} {d : Pd.Db} {mk sp : Bool} (hG : GD W w A K d S) (hR : RC w h cnt n v S mk sp) (hrow : w.heap[q]? = some (.cells #[ptr A.g, xv, tv, ptr h] 34 (0, 0))) (ha : Apt W w q A.ft (rS h v) E) (hg : Geo d cnt n) (hp : 0 < W.heap.size) : PC W ((w.setCell ⟨q, 1, none⟩ (ptr A.x)).setCell ⟨q, 2, none⟩ nilP) q h A nilP v K d S mk sp cnt n E := by
  have hc : Chg [q] w ((w.setCell ⟨q, 1, none⟩ (ptr A.x)).setCell ⟨q, 2, none⟩ nilP) := (Chg.setCell _ _ _ _).trans (Chg.setCell _ _ _ _)
  have hs : ((w.setCell ⟨q, 1, none⟩ (ptr A.x)).setCell ⟨q, 2, none⟩ nilP).heap.size = w.heap.size := by simp
  have hq : ∀ k ∈ [q], k = q := fun k hk => List.mem_singleton.1 hk
  have h1 := heap_setCell_same w q 1 _ _ (ptr A.x) hrow
  have h2 := heap_setCell_same _ q 2 _ _ nilP h1
  exact ⟨⟨hG.db.keep hc (fun k hk hm => ha.qf (by rw [← hq k hm]; exact hk)) (fun hm => by have := hq 0 hm; have := ha.wq; omega), hG.inv, hG.bel.trans (hc.below (fun k hk => by rw [hq k hk]; exact ha.wq) hG.bel.size), hG.new⟩, h2.trans rfl, hR.keep hc (fun k hk hm => ha.qr (by rw [← hq k hm]; exact hk)), ⟨ha.qf, ha.qr, ha.qe, ha.fr, ha.fe, ha.re, by rw [hs]; exact ha.lq, by rw [hs]; exact ha.lf, by rw [hs]; exact ha.lr, by rw [hs]; exact ha.le, ha.wq, ha.wf, ha.wr⟩, .inl rfl, hg⟩
def AgPost (W : World) (q h : Nat) (v : Rv) (K : Nat) (S : Pd.Ab) (cnt n : Nat) (E : List Nat) (e : Ending) (w' : World) : Prop := e = .returned (.bool true) ∧ ∃ A d mk sp, PC W w' q h A nilP v K d S mk sp cnt n E
set_option maxHeartbeats 4000000 in
set_option maxRecDepth 20000 in
theorem again_any {g kg K : Nat} {vp : Value} {s : Sc.St} (a : Option Addr) (len cp : Nat) (m : Nat → Bool) (G : GK W w g kg vp s n cnt K S) (HP : PA W w q h g xv tv (foot g kg vp) v S R E cnt n) (hK : K ≤ 60000) (hcn : cnt ≤ 1000) (hB : Bools (foot g kg vp) w a len m) (hlen : len ≤ cp) (hcp : cp ≤ 9223372036854775807) :
    Calls Tryz.prog 49 #[ptr q, .slice a len cp] w (AgPost W q h v (K + 8 * cnt + 4) S cnt n E) := by
  have HPA : Hid (PA W w q h g xv tv (foot g kg vp) v S R E cnt n) := HP
  have HGK : Hid (GK W w g kg vp s n cnt K S) := G
  have HBL : Hid (Bools (foot g kg vp) w a len m) := hB
  have hpw := G.pos
  obtain ⟨q0, q1, q2, q3, _⟩ := HP.cells
  have HOF := goff G
  clear HP G hB
  unfold ptr at *
  go_enter Tryz.func49, Tryz.ntmps49
  go_wp2_with fail
  refine HOF.mono ?_
  rintro e w1 ⟨rfl, vp1, hP1, hT1⟩
  have HPA1 : Hid (PA W w1 q h g xv tv (foot g kg vp1) v S R E cnt n) := HPA.out.left hT1 hP1.dk.lt
  have hbl1 : Bools (foot g kg vp1) w1 a len m := by
    rcases HBL.out with e | ⟨b, off, h1, h2, h3⟩
    · exact .inl e
    · by_cases h0 : len = 0
      · exact .inl h0
      · have hbl : b < w.heap.size := block_lt_of_cell (h3 0 (by omega))
        refine .inr ⟨b, off, h1, fun hm => ?_, fun i hi => ?_⟩
        · rcases hT1.grow _ hm with e | e
          · exact h2 e
          · omega
        · rw [World.cell?_of_block (hT1.chg.block b hbl h2)]
          exact h3 i hi
  have HON := gon a len cp m hP1 hbl1 hlen hcp
  unfold ptr at HON
  clear hP1 hT1 hbl1 HOF HBL HPA HGK q0 q1 q2 q3
  obtain ⟨q0, q1, q2, q3, _⟩ := HPA1.out.cells
  unfold ptr at q0 q3
  go_wp2_with fail
  refine HON.mono ?_
  rintro e w2 ⟨rfl, vp2, hor, hT2⟩
  have HG2 : Hid (GK W w2 g kg vp2 (Sc.back (Sc.fell s) (marks len m)) n cnt K S) := by
    rcases hor with e | e
    · exact e
    · exact e
  have HPA2 : Hid (PA W w2 q h g xv tv (foot g kg vp2) v S R E cnt n) := HPA1.out.left hT2 HG2.out.dk.lt
  clear hor hT2 HON HPA1 q0 q1 q2 q3
  have HOP := gopen1 g kg vp2 _ n cnt (HG2.out.below (w' := w2.drew) ⟨rfl, rfl, rfl, Nat.le_refl _, fun _ _ => rfl⟩) hK rfl
  unfold ptr at HOP
  have HS : Hid (AgR q h g n w2.drew) := ⟨HPA2.out.agr.c0, HPA2.out.agr.c3, HPA2.out.agr.l⟩
  go_upto_region 4 with fail
  refine wp_region_held_drew (S := AgR q h g n) (by kernel_rfl) HS.out (fun _ => ?_)
  refine heldTake 0 (some 20) (.pointer (some ⟨q, 0, none⟩)) rfl rfl (by kernel_rfl) (by kernel_rfl) (by kernel_rfl) (fun _ _ _ h => h) (Or.inl ⟨by rfl, fun w hS => ?_⟩) HS.out ?_
  · (go_simp)
  simp only [Act.put, List.setIfInBounds_toArray, List.set_cons_zero, List.set_cons_succ]
  refine heldTake 1 (some 21) (.pointer (some ⟨q, 0, none⟩)) rfl rfl (by kernel_rfl) (by kernel_rfl) (by kernel_rfl) (fun _ _ _ h => h) (Or.inl ⟨by rfl, fun w hS => ?_⟩) HS.out ?_
  · (go_simp)
  simp only [Act.put, List.setIfInBounds_toArray, List.set_cons_zero, List.set_cons_succ]
  refine heldTake 2 (some 22) (.pointer (some ⟨q, 0, none⟩)) rfl rfl (by kernel_rfl) (by kernel_rfl) (by kernel_rfl) (fun _ _ _ h => h) (Or.inl ⟨by rfl, fun w hS => ?_⟩) HS.out ?_
  · (go_simp)
  simp only [Act.put, List.setIfInBounds_toArray, List.set_cons_zero, List.set_cons_succ]
  refine heldTake 3 (some 23) (.pointer (some ⟨g, 0, none⟩)) rfl rfl (by kernel_rfl) (by kernel_rfl) (by kernel_rfl) (fun _ _ _ h => h) (Or.inl ⟨by rfl, fun w hS => ?_⟩) HS.out ?_
  · (have p0 := hS.c0; unfold ptr at p0; clear hS; go_simp)
  simp only [Act.put, List.setIfInBounds_toArray, List.set_cons_zero, List.set_cons_succ]
  refine heldTake 4 (some 24) (.pointer (some ⟨q, 0, none⟩)) rfl rfl (by kernel_rfl) (by kernel_rfl) (by kernel_rfl) (fun _ _ _ h => h) (Or.inl ⟨by rfl, fun w hS => ?_⟩) HS.out ?_
  · (go_simp)
  simp only [Act.put, List.setIfInBounds_toArray, List.set_cons_zero, List.set_cons_succ]
  refine heldTake 5 (some 25) (.pointer (some ⟨q, 0, none⟩)) rfl rfl (by kernel_rfl) (by kernel_rfl) (by kernel_rfl) (fun _ _ _ h => h) (Or.inl ⟨by rfl, fun w hS => ?_⟩) HS.out ?_
  · (go_simp)
  simp only [Act.put, List.setIfInBounds_toArray, List.set_cons_zero, List.set_cons_succ]
  refine heldTake 6 (some 26) (.pointer (some ⟨q, 3, none⟩)) rfl rfl (by kernel_rfl) (by kernel_rfl) (by kernel_rfl) (fun _ _ _ h => h) (Or.inl ⟨by rfl, fun w hS => ?_⟩) HS.out ?_
  · (go_simp)
  simp only [Act.put, List.setIfInBounds_toArray, List.set_cons_zero, List.set_cons_succ]
  refine heldTake 7 (some 27) (.pointer (some ⟨h, 0, none⟩)) rfl rfl (by kernel_rfl) (by kernel_rfl) (by kernel_rfl) (fun _ _ _ h => h) (Or.inl ⟨by rfl, fun w hS => ?_⟩) HS.out ?_
  · (have p0 := hS.c3; unfold ptr at p0; clear hS; go_simp)
  simp only [Act.put, List.setIfInBounds_toArray, List.set_cons_zero, List.set_cons_succ]
  refine heldTake 8 (some 28) (.pointer (some ⟨h, 0, none⟩)) rfl rfl (by kernel_rfl) (by kernel_rfl) (by kernel_rfl) (fun _ _ _ h => h) (Or.inl ⟨by rfl, fun w hS => ?_⟩) HS.out ?_
  · (go_simp)
  simp only [Act.put, List.setIfInBounds_toArray, List.set_cons_zero, List.set_cons_succ]
  refine heldTake 9 (some 29) (.pointer (some ⟨h, 1, none⟩)) rfl rfl (by kernel_rfl) (by kernel_rfl) (by kernel_rfl) (fun _ _ _ h => h) (Or.inl ⟨by rfl, fun w hS => ?_⟩) HS.out ?_
  · (go_simp)
  simp only [Act.put, List.setIfInBounds_toArray, List.set_cons_zero, List.set_cons_succ]
  refine heldTake 10 (some 30) (.int .i64 (n : Int)) rfl rfl (by kernel_rfl) (by kernel_rfl) (by kernel_rfl) (fun _ _ _ h => h) (Or.inl ⟨by rfl, fun w hS => ?_⟩) HS.out ?_
  · (have p0 := hS.l; clear hS; go_simp)
  simp only [Act.put, List.setIfInBounds_toArray, List.set_cons_zero, List.set_cons_succ]
  refine heldOne 11 (by kernel_rfl) rfl (by rfl) (fun KK hK => ?_)
  go_simp
  refine HOP.mono ?_
  rintro e w3 ⟨A, d, rfl, hAg, hAk, hG3, hdn, hdc, hdl, hlf, hT3⟩
  have hdr : Below w2.heap.size w2 w2.drew := ⟨rfl, rfl, rfl, Nat.le_refl _, fun _ _ => rfl⟩
  have HPA3 : Hid (PA W w3 q h g xv tv A.ft v S R E cnt n) := (HPA2.out.left (Turn.of_below hdr) HG2.out.dk.lt).left hT3 hG3.db.lt
  have HG3 : Hid (GD W w3 A (K + 8 * cnt + 4) d S) := hG3
  have HGE : Hid (Geo d cnt n ∧ A.g = g) := ⟨⟨hdc, hdn, by rw [hdc, hdl, hdn]; exact HG2.out.cnts, hlf rfl⟩, hAg⟩
  have HS3 : Hid (AgR q h g n w3) := HPA3.out.agr
  clear hG3 hdn hdc hdl hlf hT3 hAg hAk HOP HS HPA2 HG2 hdr
  unfold ptr
  refine hK.out _ _ HS3.out ?_
  clear hK KK
  refine heldTake 12 (some 19) (.tuple #[.pointer (some ⟨A.x, 0, none⟩), .int .i64 0]) rfl rfl (by kernel_rfl) (by kernel_rfl) (by kernel_rfl) (fun _ _ _ h => h) (Or.inl ⟨by rfl, fun w hS => ?_⟩) HS3.out ?_
  · (go_simp)
  simp only [Act.put, List.setIfInBounds_toArray, List.set_cons_zero, List.set_cons_succ]
  refine heldTake 13 (some 32) (.pointer (some ⟨A.x, 0, none⟩)) rfl rfl (by kernel_rfl) (by kernel_rfl) (by kernel_rfl) (fun _ _ _ h => h) (Or.inl ⟨by rfl, fun w hS => ?_⟩) HS3.out ?_
  · (go_simp)
  simp only [Act.put, List.setIfInBounds_toArray, List.set_cons_zero, List.set_cons_succ]
  refine heldTake 14 (some 33) (.int .i64 0) rfl rfl (by kernel_rfl) (by kernel_rfl) (by kernel_rfl) (fun _ _ _ h => h) (Or.inl ⟨by rfl, fun w hS => ?_⟩) HS3.out ?_
  · (go_simp)
  simp only [Act.put, List.setIfInBounds_toArray, List.set_cons_zero, List.set_cons_succ]
  refine heldTake 15 (some 5) (.pointer (some ⟨A.x, 0, none⟩)) rfl rfl (by kernel_rfl) (by kernel_rfl) (by kernel_rfl) (fun _ _ _ h => h) (Or.inl ⟨by rfl, fun w hS => ?_⟩) HS3.out ?_
  · (go_simp)
  simp only [Act.put, List.setIfInBounds_toArray, List.set_cons_zero, List.set_cons_succ]
  refine heldTake 16 (some 6) (.int .i64 0) rfl rfl (by kernel_rfl) (by kernel_rfl) (by kernel_rfl) (fun _ _ _ h => h) (Or.inl ⟨by rfl, fun w hS => ?_⟩) HS3.out ?_
  · (go_simp)
  simp only [Act.put, List.setIfInBounds_toArray, List.set_cons_zero, List.set_cons_succ]
  refine wpAnyH_done (by kernel_rfl) ?_ _
  obtain ⟨q0, q1, q2, q3, _⟩ := HPA3.out.cells
  unfold ptr at q0 q3
  have HAB := ra_abort HPA3.out.ra hcn
  unfold ptr at HAB
  clear HS3
  go_wp2_with fail
  refine HAB.mono ?_
  rintro e w4 ⟨rfl, ⟨mk, sp, hR4⟩, hT4⟩
  have HF : Hid (w4.heap[q]? = some (.cells #[ptr A.g, xv, tv, ptr h] 34 (0, 0)) ∧ PC W ((w4.setCell ⟨q, 1, none⟩ (ptr A.x)).setCell ⟨q, 2, none⟩ nilP) q h A nilP v (K + 8 * cnt + 4) d S mk sp cnt n E) := by
    have hrow : w4.heap[q]? = some (.cells #[ptr A.g, xv, tv, ptr h] 34 (0, 0)) := by
      rw [hT4.chg.block q HPA3.out.ap.lq HPA3.out.ap.qr, HPA3.out.row, HGE.out.2]
    have hap := HPA3.out.ap
    refine ⟨hrow, again_fin ⟨HG3.out.db.keep hT4.chg (fun k hk hm => hap.fr k hm hk) (fun hm => by have := hap.wr 0 hm; omega), HG3.out.inv, HG3.out.bel.trans (hT4.below hap.wr HG3.out.bel.size), HG3.out.new⟩ hR4 hrow (hap.right hT4 hR4.lt HG3.out.bel.size) HGE.out.1 hpw⟩
  have f1 : w4.cell? ⟨q, 1, none⟩ = some xv := (cell_of_row w4 q 1 _ _ (0, 0) HF.out.1).trans rfl
  have f2 : w4.cell? ⟨q, 2, none⟩ = some tv := (cell_of_row w4 q 2 _ _ (0, 0) HF.out.1).trans rfl
  have fz : ∀ i, w4.frozen? ⟨q, i, none⟩ = false := fun i => frozen_of_row w4 q i _ _ HF.out.1
  clear hR4 hT4 HAB HPA3 HG3 q0 q1 q2 q3
  go_wp2
  go_ret
  exact ⟨rfl, A, d, mk, sp, HF.out.2⟩
end
end Go.Proofs.YtcfninpokngmlaaGreatDoor
/- Proved: what the law's helper does begins with, and ends in (stage 10). -/
namespace Go.Proofs.YtcfninpokngmlaaGreatDoor
open Go.RowKit
def PS (W w : World) (q h K cnt n : Nat) : Prop := (∃ A tv v d S mk sp E, PC W w q h A tv v K d S mk sp cnt n E) ∨ (∃ A t bt v d S T sp tm tb mk E, PO W w q h A t bt v K d S T sp tm tb mk cnt n E)
def DoPost (W : World) (q h K cnt n : Nat) (e : Ending) (w' : World) : Prop := e = .returned (.bool true) ∧ PS W w' q h (K + 8 * cnt + n + 8) cnt n
structure Lim (W : World) (K cnt n : Nat) : Prop where
  pos : 0 < W.heap.size
  k : K ≤ 60000
  c4 : 4 ≤ cnt
  c : cnt ≤ 1000
  n2 : 2 ≤ n
  n : n ≤ 10000
theorem cut_size (x : ByteArray) (n : Nat) (h : n ≤ x.size) : (x.extract 0 n).size = n := by
  rw [ByteArray.size_extract]
  omega
def acA (k i m : Int) (s : ByteArray) (kp : Value) : Array Value := #[.int .i64 k, .int .i64 i, .int .i64 m, .string s, kp]
section
variable {W w w' : World} {q h : Nat} {A : Ad} {tv : Value} {t bt : Nat} {v : Rv} {K K' : Nat} {d : Pd.Db} {S T : Pd.Ab} {sp mk : Bool} {tm : Pd.Mp} {tb : List Bool} {cnt n : Nat} {E : List Nat}
theorem PC.raise (H : PC W w q h A tv v K d S mk sp cnt n E) (hk : K ≤ K') : PC W w q h A tv v K' d S mk sp cnt n E := ⟨⟨H.g.db, H.g.inv.up hk, H.g.bel, H.g.new⟩, H.row, H.rc, H.ap, H.en, H.geo⟩
theorem PO.raise (H : PO W w q h A t bt v K d S T sp tm tb mk cnt n E) (hk : K ≤ K') : PO W w q h A t bt v K' d S T sp tm tb mk cnt n E := ⟨⟨H.g.tx, H.g.inv.up hk, H.g.txi, H.g.bel, H.g.new⟩, H.row, H.ro, H.ap, H.trk, H.geo⟩
theorem PC.ps (H : PC W w q h A tv v K d S mk sp cnt n E) (hk : K ≤ K') : PS W w q h K' cnt n := .inl ⟨A, tv, v, d, S, mk, sp, E, H.raise hk⟩
theorem PO.ps (H : PO W w q h A t bt v K d S T sp tm tb mk cnt n E) (hk : K ≤ K') : PS W w q h K' cnt n := .inr ⟨A, t, bt, v, d, S, T, sp, tm, tb, mk, E, H.raise hk⟩
/- the act, in a box -/
theorem do_c (H : PC W w q h A tv v K d S mk sp cnt n E) (ac : Array Value) : PC W (w.alloc (.cells ac 28)) q h A tv v K d S mk sp cnt n (w.heap.size :: E) ∧ (w.alloc (.cells ac 28)).heap[w.heap.size]? = some (.cells ac 28 (0, 0)) := by
  have h1 := H.below ((Below.refl _ w).alloc (Nat.le_refl _) (.cells ac 28))
  have hs : (w.alloc (.cells ac 28)).heap.size = w.heap.size + 1 := by simp
  refine ⟨⟨h1.g, h1.row, h1.rc, h1.ap.more w.heap.size (by have := H.ap.lq; omega) (fun hm => by have := H.ap.lf _ hm; omega) (fun hm => by have := H.ap.lr _ hm; omega) (by omega), ?_, h1.geo⟩, heap_alloc_new w _⟩
  rcases h1.en with e | ⟨t, e1, e2, e3⟩
  · exact .inl e
  · exact .inr ⟨t, e1, e2, List.mem_cons_of_mem _ e3⟩
theorem do_o (H : PO W w q h A t bt v K d S T sp tm tb mk cnt n E) (ac : Array Value) : PO W (w.alloc (.cells ac 28)) q h A t bt v K d S T sp tm tb mk cnt n (w.heap.size :: E) ∧ (w.alloc (.cells ac 28)).heap[w.heap.size]? = some (.cells ac 28 (0, 0)) := by
  have h1 := H.below ((Below.refl _ w).alloc (Nat.le_refl _) (.cells ac 28))
  have hs : (w.alloc (.cells ac 28)).heap.size = w.heap.size + 1 := by simp
  exact ⟨⟨h1.g, h1.row, h1.ro, h1.ap.more w.heap.size (by have := H.ap.lq; omega) (fun hm => by have := H.ap.lf _ hm; omega) (fun hm => by have := H.ap.lr _ hm; omega) (by omega), h1.trk, h1.geo⟩, heap_alloc_new w _⟩
/- what a drawn statement of does reads -/
structure DoR (q a g x h : Nat) (tv : Value) (ac : Array Value) (w : World) : Prop where
  rq : w.heap[q]? = some (.cells #[ptr g, ptr x, tv, ptr h] 34 (0, 0))
  ra : w.heap[a]? = some (.cells ac 28 (0, 0))
theorem DoR.drew {a g x : Nat} {ac : Array Value} (H : DoR q a g x h tv ac w) : DoR q a g x h tv ac w.drew := ⟨H.rq, H.ra⟩
theorem DoR.cq {a g x : Nat} {ac : Array Value} (H : DoR q a g x h tv ac w) : w.cell? ⟨q, 0, none⟩ = some (ptr g) ∧ w.cell? ⟨q, 1, none⟩ = some (ptr x) ∧ w.cell? ⟨q, 2, none⟩ = some tv ∧ w.cell? ⟨q, 3, none⟩ = some (ptr h) ∧ (∀ i, w.frozen? ⟨q, i, none⟩ = false) :=
  ⟨(cell_of_row w q 0 _ _ (0, 0) H.rq).trans rfl, (cell_of_row w q 1 _ _ (0, 0) H.rq).trans rfl, (cell_of_row w q 2 _ _ (0, 0) H.rq).trans rfl, (cell_of_row w q 3 _ _ (0, 0) H.rq).trans rfl, fun i => frozen_of_row w q i _ _ H.rq⟩
theorem DoR.ca {a g x : Nat} {k i m : Int} {s : ByteArray} {kp : Value} (H : DoR q a g x h tv (acA k i m s kp) w) : w.cell? ⟨a, 0, none⟩ = some (.int .i64 k) ∧ w.cell? ⟨a, 1, none⟩ = some (.int .i64 i) ∧ w.cell? ⟨a, 2, none⟩ = some (.int .i64 m) ∧ w.cell? ⟨a, 3, none⟩ = some (.string s) ∧ w.cell? ⟨a, 4, none⟩ = some kp :=
  ⟨(cell_of_row w a 0 _ _ (0, 0) H.ra).trans rfl, (cell_of_row w a 1 _ _ (0, 0) H.ra).trans rfl, (cell_of_row w a 2 _ _ (0, 0) H.ra).trans rfl, (cell_of_row w a 3 _ _ (0, 0) H.ra).trans rfl, (cell_of_row w a 4 _ _ (0, 0) H.ra).trans rfl⟩
theorem begin_busy (G : GT W w A t bt K d S T sp tm) : Calls Tryz.prog 24 #[ptr A.x] w fun e w' => e = .returned (.tuple #[nilP, .int .i64 9]) ∧ w' = w := by
  have HM := idle_open (A := A) (d := d) (w := w) t G.tx.db G.inv.lost
  clear G
  unfold ptr at *
  go_enter Tryz.func24, Tryz.ntmps24
  go_wp2_with (go_at_call 59; refine HM.mono ?_; rintro e w' ⟨rfl, hw⟩; rw [hw]; clear hw)
  go_ret2
  exact ⟨rfl, rfl⟩
theorem ckpt_busy (G : GT W w A t bt K d S T sp tm) : Calls Tryz.prog 25 #[ptr A.x] w fun e w' => e = .returned (.int .i64 9) ∧ w' = w := by
  have HM := idle_open (A := A) (d := d) (w := w) t G.tx.db G.inv.lost
  clear G
  unfold ptr at *
  go_enter Tryz.func25, Tryz.ntmps25
  go_wp2_with (go_at_call 59; refine HM.mono ?_; rintro e w' ⟨rfl, hw⟩; rw [hw]; clear hw)
  go_ret
  exact ⟨rfl, rfl⟩
end
end Go.Proofs.YtcfninpokngmlaaGreatDoor
