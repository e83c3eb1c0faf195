/- Proved: Write puts bytes behind those that the hash has, and turns nothing else. Conditions: the slice has just these bytes and does not lie in the hash; the two tables. -/
import Derived.Test.YtefpaebbendnmaaDoorKLast
import Derived.Deep.CutRange
namespace Go.Proofs.YtefpaebbendnmaaDoor.BK
open Go.RowKit
/- What a walk knows of a slice of bytes: its elements. -/
def Bytes (w : World) (a : Option Addr) (len : Nat) (bs : List Nat) : Prop :=
  bs.length = len ∧ (∀ x ∈ bs, x < 256) ∧ len ≤ 9223372036854775807 ∧ (len = 0 ∨ ∃ b off, a = some ⟨b, off, none⟩ ∧ ∀ i, i < len → w.cell? ⟨b, off + i, none⟩ = some (.int .u8 (bs.getD i 0 : Nat)))
/- the slice does not lie in block g -/
def Off (a : Option Addr) (len g : Nat) : Prop := len = 0 ∨ ∀ x, a = some x → x.block ≠ g
/- block g is a hash that has these bytes -/
def HashOf (w : World) (g : Nat) (bs : List Nat) : Prop := ∃ h b held, Hash w g h b held bs.length ∧ Bl.St bs h b held
theorem only_setRow (g : Nat) (w : World) (cs : Array Value) : Only g w (w.setRow g cs) := ⟨rfl, rfl, rfl, by simp [World.setRow], fun k hk => setRow_other w g k cs hk⟩
theorem step_copy_only {ops : Array Oper} {o : Oper} {a : Act} {w : World} {K : Act → World → Prop} {Q : Exit → Act → World → Prop} {E : Prop} (hgd : o.guard = none) (d s : Operand)
    (ho : o.op = .call { callee := .builtin .copy, args := #[d, s], argTypes := #[28, 28] }) (ad : Addr) (dLen dCap sLen sCap : Nat) (g off : Nat) (hd : a.eval d = .slice (some ⟨g, off, none⟩) dLen dCap) (hs : a.eval s = .slice (some ad) sLen sCap)
    (cur : List Value) (t : TypeId) (hg : w.heap[g]? = some (.cells cur.toArray t (0, 0))) (cs : List Value) (n : Nat) (hl : cs.length = n) (hn : n = Nat.min sLen dLen)
    (hsrc : ∀ j v, cs[j]? = some v → w.cell? (ad.add j) = some v) (hfit : off + n ≤ cur.length) (h1 : ∀ v ∈ cs, v.oneCell' = true)
    (h : ∀ w', Hid (w'.heap[g]? = some (.cells (splice cur off cs).toArray t (0, 0))) → Only g w w' → K (a.put o.dst (.int .i64 (n : Int))) w') :
    if Region.wanted o (yielded ops a.tmps) = true then Oper.wp Tryd.prog o a w K Q else E := by
  have hw : Region.wanted o (yielded ops a.tmps) = true := by simp [Region.wanted, hgd]
  rw [if_pos hw]
  subst hl
  have hrun := run_copy_row (P := Tryd.prog) w 28 28 o.type 5 g off dLen dCap ad sLen sCap cur.toArray t cs Tryd.underlying28 (by kernel_rfl) hg hn hsrc (by simpa using hfit) h1
  unfold Oper.wp
  simp [execOp, ho, resolve, invoke, builtin, hd, hs, hrun, Result.andThen]
  exact h _ (show _ = _ by simpa [splice] using setRow_heap w g _ _ t _ hg) (only_setRow g w _)
theorem Hash.only {w w' : World} {g g' : Nat} {h b : List Nat} {held len : Nat} (H : Hash w g h b held len) (ho : Only g' w w') (hne : g ≠ g') : Hash w' g h b held len := ⟨(ho.block g hne).trans H.row, H.wl, H.bl⟩
def sliceLen : Value → Nat | .slice _ n _ => n | _ => 0
theorem Keep.set {g : Nat} {a b : World} (h : Keep g a b) {p : Addr} (hp : p.block = g) (u : Value) : Keep g a (b.setCell p u) := h.trans ((Only.refl g b).setCell hp u).keep
theorem Keep.cell {g : Nat} {a b : World} (h : Keep g a b) {p : Addr} (hp : p.block ≠ g) (hl : p.block < a.heap.size) : b.cell? p = a.cell? p := World.cell?_of_block (w := a) (h.block p.block hl hp)
theorem after_call {g L : Nat} {l : List Value} {w w' : World} {B : Nat} (h : w.rangeAt g 9 l ∧ w.cell? ⟨g, 74, none⟩ = some (.int .i64 (L : Int))) (hb : Below B w w') (hg : g < B) : w'.rangeAt g 9 l ∧ w'.cell? ⟨g, 74, none⟩ = some (.int .i64 (L : Int)) :=
  ⟨range_below h.1 hb hg, (hb.cell (p := ⟨g, 74, none⟩) hg).trans h.2⟩
theorem after_store {g L : Nat} {l : List Value} {w : World} {v0 v1 v2 v3 v4 v5 v6 v7 : Value} (h : w.rangeAt g 9 l ∧ w.cell? ⟨g, 74, none⟩ = some (.int .i64 (L : Int))) :
    (w.setCells g 1 [v0, v1, v2, v3, v4, v5, v6, v7]).rangeAt g 9 l ∧ (w.setCells g 1 [v0, v1, v2, v3, v4, v5, v6, v7]).cell? ⟨g, 74, none⟩ = some (.int .i64 (L : Int)) :=
  ⟨World.rangeAt_setCells_apart h.1 _ _ _ (by right; right; simp), (World.cell?_setCells_out g _ 1 w ⟨g, 74, none⟩ (fun _ _ => by right; simp)).trans h.2⟩
theorem Hash.all {w : World} {g : Nat} {h b : List Nat} {held len : Nat} (H : Hash w g h b held len) :
    w.cell? ⟨g, 1, none⟩ = some (.int .u32 (h.getD 0 0 : Nat)) ∧ w.cell? ⟨g, 2, none⟩ = some (.int .u32 (h.getD 1 0 : Nat)) ∧ w.cell? ⟨g, 3, none⟩ = some (.int .u32 (h.getD 2 0 : Nat)) ∧ w.cell? ⟨g, 4, none⟩ = some (.int .u32 (h.getD 3 0 : Nat)) ∧ w.cell? ⟨g, 5, none⟩ = some (.int .u32 (h.getD 4 0 : Nat)) ∧ w.cell? ⟨g, 6, none⟩ = some (.int .u32 (h.getD 5 0 : Nat)) ∧ w.cell? ⟨g, 7, none⟩ = some (.int .u32 (h.getD 6 0 : Nat)) ∧ w.cell? ⟨g, 8, none⟩ = some (.int .u32 (h.getD 7 0 : Nat)) ∧ w.cell? ⟨g, 73, none⟩ = some (.int .i64 (held : Nat)) ∧
    w.frozen? ⟨g, 1, none⟩ = false ∧ w.frozen? ⟨g, 2, none⟩ = false ∧ w.frozen? ⟨g, 3, none⟩ = false ∧ w.frozen? ⟨g, 4, none⟩ = false ∧ w.frozen? ⟨g, 5, none⟩ = false ∧ w.frozen? ⟨g, 6, none⟩ = false ∧ w.frozen? ⟨g, 7, none⟩ = false ∧ w.frozen? ⟨g, 8, none⟩ = false ∧ w.frozen? ⟨g, 73, none⟩ = false :=
  ⟨H.word 0 (by omega), H.word 1 (by omega), H.word 2 (by omega), H.word 3 (by omega), H.word 4 (by omega), H.word 5 (by omega), H.word 6 (by omega), H.word 7 (by omega), H.heldAt, H.frozen 1, H.frozen 2, H.frozen 3, H.frozen 4, H.frozen 5, H.frozen 6, H.frozen 7, H.frozen 8, H.frozen 73⟩
set_option maxHeartbeats 4000000 in
set_option maxRecDepth 20000 in
theorem write_yes (g : Nat) (bs : List Nat) (a : Option Addr) (len cap : Nat) (ds : List Nat) (w : World) (HO : HashOf w g bs) (hB : Bytes w a len ds) (hc : len ≤ cap) (hoff : Off a len g) (hlen : bs.length + ds.length < 9223372036854775808) (hT : Tab w) (h0 : 3 < g) :
    Calls Tryd.prog 29 #[.pointer (some ⟨g, 0, none⟩), .slice a len cap] w fun e w' => e = .returned (.int .i64 0) ∧ HashOf w' g (bs ++ ds) ∧ Keep g w w' := by
  obtain ⟨hdl, hd8, hlm, hcell⟩ := hB
  have hm : w.cell? ⟨g, 0, none⟩ = some (.bool true) := by
    obtain ⟨h, b, held, H, s⟩ := HO
    exact H.made
  have hgl : g < w.heap.size := by
    obtain ⟨h, b, held, H, s⟩ := HO
    exact H.lt
  have HHO : Hid (HashOf w g bs) := HO
  have HT : Hid (Tab w) := hT
  have HOFF : Hid (Off a len g) := hoff
  have HC : Hid (len = 0 ∨ ∃ b off, a = some ⟨b, off, none⟩ ∧ ∀ i, i < len → w.cell? ⟨b, off + i, none⟩ = some (.int .u8 (ds.getD i 0 : Nat))) := hcell
  have HD8 : Hid (∀ x ∈ ds, x < 256) := hd8
  have HDL : Hid (ds.length = len) := hdl
  have HLEN : Hid (bs.length + ds.length < 9223372036854775808) := hlen
  obtain ⟨FB, hFB⟩ : ∃ FB, FB = bs ++ ds := ⟨_, rfl⟩
  rw [← hFB]
  have HFB : Is FB (bs ++ ds) := ⟨hFB⟩
  clear HO hT hoff hcell hd8 hdl hlen hFB
  go_enter Tryd.func29, Tryd.ntmps29
  go_wp2_with (first | (go_at_call 39; refine (made_yes g w hm).mono ?_; rintro e w ⟨rfl, rfl⟩))
  go_loopw [1, 5] (fun s1 _ wr => ∃ k m c' : Nat, ∃ a' : Option Addr, k + m = len ∧ s1 = .slice a' m c' ∧ m ≤ c' ∧ (0 < m → ∃ sb so, a = some ⟨sb, so, none⟩ ∧ a' = some ⟨sb, so + k, none⟩) ∧ HashOf wr g (bs ++ ds.take k) ∧ Keep g w wr) (fun s1 _ _ => sliceLen s1)
  case atStart =>
    refine ⟨0, len, cap, a, by omega, rfl, hc, fun hp => ?_, by rw [List.take_zero, List.append_nil]; exact HHO.out, Keep.refl _ _⟩
    rcases HC.out with h | ⟨b, off, h, _⟩
    · omega
    · exact ⟨b, off, h, h⟩
  case round =>
    obtain ⟨k, m, c', a', hkm, rfl, hmc, hadr, hH, hK⟩ := hrel
    by_cases hm0 : m = 0
    · subst hm0
      have HH : Hid (HashOf wr g FB) := by
        show HashOf wr g FB
        rw [HFB.eq, ← List.take_of_length_le (l := ds) (i := k) (by rw [HDL.out]; omega)]
        simpa using hH
      go_wp2
      go_ret
      exact ⟨rfl, HH.out, hK⟩
    · obtain ⟨sb, so, ha, rfl⟩ := hadr (by omega)
      subst ha
      obtain ⟨h, b, held, H, s⟩ := hH
      have hpos : (0 : Int) < (m : Int) := by omega
      obtain ⟨cs, hcs⟩ : ∃ cs, cs = bs ++ ds.take k := ⟨_, rfl⟩
      rw [← hcs] at H s
      have HCS : Is cs (bs ++ ds.take k) := ⟨hcs⟩
      clear hcs hadr
      have hwgl : g < wr.heap.size := H.lt
      have HTr : Hid (Tab wr) := HT.out.below (B := g) h0 (hK.below (Nat.le_refl _) (by omega))
      have ch := H.heldAt
      have HK : Hid (Keep g w wr) := hK
      have hl63 : cs.length < 9223372036854775808 := s.len
      clear hK
      go_upto_if 16 with fail
      go_cut [5] from 9 to 64 (fun _ wx => ∃ h' held' q, Hash wx g h' b held' cs.length ∧ Bl.Pre cs h' b held' q ∧ Keep g wr wx)
      case first =>
        by_cases h64 : held = 64
        · subst h64
          obtain ⟨a0, a1, a2, a3, a4, a5, a6, a7, ha⟩ := eight H.wl
          obtain ⟨t, ht⟩ : ∃ t, t = Bl.taken h b cs.length false := ⟨_, rfl⟩
          have htw : Bl.Words 8 t := by rw [ht]; exact Bl.taken_words s.words s.bl (by omega) false
          obtain ⟨t0, t1, t2, t3, t4, t5, t6, t7, htt⟩ := eight htw.1
          have TKH : Hid (∀ W : World, Tab W → 3 < W.heap.size → Calls Tryd.prog 40 #[.agg #[.int .u32 ((a0 : Nat) : Int), .int .u32 ((a1 : Nat) : Int), .int .u32 ((a2 : Nat) : Int), .int .u32 ((a3 : Nat) : Int), .int .u32 ((a4 : Nat) : Int), .int .u32 ((a5 : Nat) : Int), .int .u32 ((a6 : Nat) : Int), .int .u32 ((a7 : Nat) : Int)], .agg (b.map V8).toArray, .int .i64 (cs.length : Int), .bool false] W fun e w' => e = .returned (.agg #[.int .u32 ((t0 : Nat) : Int), .int .u32 ((t1 : Nat) : Int), .int .u32 ((t2 : Nat) : Int), .int .u32 ((t3 : Nat) : Int), .int .u32 ((t4 : Nat) : Int), .int .u32 ((t5 : Nat) : Int), .int .u32 ((t6 : Nat) : Int), .int .u32 ((t7 : Nat) : Int)]) ∧ Below W.heap.size W w') := fun W hT hz => by
            have hc := taken_any h b cs.length false W s.words s.bl (by omega) hT hz
            rw [← ht, htt, ha] at hc
            exact hc
          have HAA : Is h [a0, a1, a2, a3, a4, a5, a6, a7] := ⟨ha⟩
          have HPRE : Is t [t0, t1, t2, t3, t4, t5, t6, t7] := ⟨htt⟩
          have HNX : Bl.Pre cs t b 0 (Bl.full cs.length + 1) := by rw [ht]; exact s.next
          have c : ∀ i, i < 8 → wr.cell? ⟨g, 1 + i, none⟩ = some (.int .u32 (h.getD i 0 : Nat)) := fun i hi => H.word i hi
          rw [ha] at c
          have c1 : wr.cell? ⟨g, 1, none⟩ = some (.int .u32 (a0 : Int)) := c 0 (by omega)
          have c2 : wr.cell? ⟨g, 2, none⟩ = some (.int .u32 (a1 : Int)) := c 1 (by omega)
          have c3 : wr.cell? ⟨g, 3, none⟩ = some (.int .u32 (a2 : Int)) := c 2 (by omega)
          have c4 : wr.cell? ⟨g, 4, none⟩ = some (.int .u32 (a3 : Int)) := c 3 (by omega)
          have c5 : wr.cell? ⟨g, 5, none⟩ = some (.int .u32 (a4 : Int)) := c 4 (by omega)
          have c6 : wr.cell? ⟨g, 6, none⟩ = some (.int .u32 (a5 : Int)) := c 5 (by omega)
          have c7 : wr.cell? ⟨g, 7, none⟩ = some (.int .u32 (a6 : Int)) := c 6 (by omega)
          have c8 : wr.cell? ⟨g, 8, none⟩ = some (.int .u32 (a7 : Int)) := c 7 (by omega)
          have HR1 : Hid (wr.rangeAt g 9 (b.map V8) ∧ wr.cell? ⟨g, 74, none⟩ = some (.int .i64 (cs.length : Int))) := ⟨H.block, H.lenAt⟩
          have HHH : Hid (Hash wr g h b 64 cs.length) := H
          have u48 := Tryd.underlying67
          have i48 : (Tryd.prog.info? 67).map (·.size) = some (b.map V8).length := by rw [size48, List.length_map, s.bl.1]
          clear ht htt ha htw H s c
          obtain ⟨L, hL⟩ : ∃ L, L = cs.length := ⟨_, rfl⟩
          have HLL : Is L cs.length := ⟨hL⟩
          rw [← hL] at TKH HR1 HHH
          clear hL
          go_wp2_with fail
          have HS0 : Hid ((fun w' : World => w'.cell? ⟨g, 1, none⟩ = some (.int .u32 (a0 : Int)) ∧ w'.cell? ⟨g, 2, none⟩ = some (.int .u32 (a1 : Int)) ∧ w'.cell? ⟨g, 3, none⟩ = some (.int .u32 (a2 : Int)) ∧ w'.cell? ⟨g, 4, none⟩ = some (.int .u32 (a3 : Int)) ∧ w'.cell? ⟨g, 5, none⟩ = some (.int .u32 (a4 : Int)) ∧ w'.cell? ⟨g, 6, none⟩ = some (.int .u32 (a5 : Int)) ∧ w'.cell? ⟨g, 7, none⟩ = some (.int .u32 (a6 : Int)) ∧ w'.cell? ⟨g, 8, none⟩ = some (.int .u32 (a7 : Int)) ∧ w'.cell? ⟨g, 74, none⟩ = some (.int .i64 (L : Int)) ∧ w'.rangeAt g 9 (b.map V8)) wr.drew) := ⟨c1, c2, c3, c4, c5, c6, c7, c8, HR1.out.2, HR1.out.1⟩
          clear c1 c2 c3 c4 c5 c6 c7 c8 ch
          refine AnyBut.begin (z := 16) (S := fun w' => w'.cell? ⟨g, 1, none⟩ = some (.int .u32 (a0 : Int)) ∧ w'.cell? ⟨g, 2, none⟩ = some (.int .u32 (a1 : Int)) ∧ w'.cell? ⟨g, 3, none⟩ = some (.int .u32 (a2 : Int)) ∧ w'.cell? ⟨g, 4, none⟩ = some (.int .u32 (a3 : Int)) ∧ w'.cell? ⟨g, 5, none⟩ = some (.int .u32 (a4 : Int)) ∧ w'.cell? ⟨g, 6, none⟩ = some (.int .u32 (a5 : Int)) ∧ w'.cell? ⟨g, 7, none⟩ = some (.int .u32 (a6 : Int)) ∧ w'.cell? ⟨g, 8, none⟩ = some (.int .u32 (a7 : Int)) ∧ w'.cell? ⟨g, 74, none⟩ = some (.int .i64 (L : Int)) ∧ w'.rangeAt g 9 (b.map V8)) (by kernel_rfl) ?_
          refine AnyBut.take 0 (some 17) (v := (.pointer (some ⟨g, 0, none⟩))) rfl rfl (by kernel_rfl) (by decide) (by kernel_rfl) (by kernel_rfl) (by kernel_rfl) (by kernel_rfl) (fun _ _ _ h => h) (Or.inl ⟨by rfl, fun w hS => ?_⟩) HS0.out ?_
          · go_simp
          simp only [Act.put, List.setIfInBounds_toArray, List.set_cons_zero, List.set_cons_succ]
          refine AnyBut.take 1 (some 18) (v := (.pointer (some ⟨g, 0, none⟩))) rfl rfl (by kernel_rfl) (by decide) (by kernel_rfl) (by kernel_rfl) (by kernel_rfl) (by kernel_rfl) (fun _ _ _ h => h) (Or.inl ⟨by rfl, fun w hS => ?_⟩) HS0.out ?_
          · go_simp
          simp only [Act.put, List.setIfInBounds_toArray, List.set_cons_zero, List.set_cons_succ]
          refine AnyBut.take 2 (some 19) (v := (.pointer (some ⟨g, 0, none⟩))) rfl rfl (by kernel_rfl) (by decide) (by kernel_rfl) (by kernel_rfl) (by kernel_rfl) (by kernel_rfl) (fun _ _ _ h => h) (Or.inl ⟨by rfl, fun w hS => ?_⟩) HS0.out ?_
          · go_simp
          simp only [Act.put, List.setIfInBounds_toArray, List.set_cons_zero, List.set_cons_succ]
          refine AnyBut.take 3 (some 20) (v := (.pointer (some ⟨g, 1, none⟩))) rfl rfl (by kernel_rfl) (by decide) (by kernel_rfl) (by kernel_rfl) (by kernel_rfl) (by kernel_rfl) (fun _ _ _ h => h) (Or.inl ⟨by rfl, fun w hS => ?_⟩) HS0.out ?_
          · go_simp
          simp only [Act.put, List.setIfInBounds_toArray, List.set_cons_zero, List.set_cons_succ]
          refine AnyBut.take 4 (some 21) (v := (.agg #[.int .u32 ((a0 : Nat) : Int), .int .u32 ((a1 : Nat) : Int), .int .u32 ((a2 : Nat) : Int), .int .u32 ((a3 : Nat) : Int), .int .u32 ((a4 : Nat) : Int), .int .u32 ((a5 : Nat) : Int), .int .u32 ((a6 : Nat) : Int), .int .u32 ((a7 : Nat) : Int)])) rfl rfl (by kernel_rfl) (by decide) (by kernel_rfl) (by kernel_rfl) (by kernel_rfl) (by kernel_rfl) (fun _ _ _ h => h) (Or.inl ⟨by rfl, fun w hS => ?_⟩) HS0.out ?_
          · (obtain ⟨q1, q2, q3, q4, q5, q6, q7, q8, q9, _⟩ := hS; go_simp)
          simp only [Act.put, List.setIfInBounds_toArray, List.set_cons_zero, List.set_cons_succ]
          refine AnyBut.take 5 (some 22) (v := (.pointer (some ⟨g, 0, none⟩))) rfl rfl (by kernel_rfl) (by decide) (by kernel_rfl) (by kernel_rfl) (by kernel_rfl) (by kernel_rfl) (fun _ _ _ h => h) (Or.inl ⟨by rfl, fun w hS => ?_⟩) HS0.out ?_
          · go_simp
          simp only [Act.put, List.setIfInBounds_toArray, List.set_cons_zero, List.set_cons_succ]
          refine AnyBut.take 6 (some 23) (v := (.pointer (some ⟨g, 0, none⟩))) rfl rfl (by kernel_rfl) (by decide) (by kernel_rfl) (by kernel_rfl) (by kernel_rfl) (by kernel_rfl) (fun _ _ _ h => h) (Or.inl ⟨by rfl, fun w hS => ?_⟩) HS0.out ?_
          · go_simp
          simp only [Act.put, List.setIfInBounds_toArray, List.set_cons_zero, List.set_cons_succ]
          refine AnyBut.take 7 (some 24) (v := (.pointer (some ⟨g, 9, none⟩))) rfl rfl (by kernel_rfl) (by decide) (by kernel_rfl) (by kernel_rfl) (by kernel_rfl) (by kernel_rfl) (fun _ _ _ h => h) (Or.inl ⟨by rfl, fun w hS => ?_⟩) HS0.out ?_
          · go_simp
          simp only [Act.put, List.setIfInBounds_toArray, List.set_cons_zero, List.set_cons_succ]
          refine AnyBut.take 8 (some 25) rfl rfl (by kernel_rfl) (by decide) (by kernel_rfl) (by kernel_rfl) (by kernel_rfl) (by kernel_rfl) (fun _ _ _ h => h) (yieldsIf_load_mid (by rfl) _ _ rfl _ _ rfl (b.map V8) _ (fun w hS => hS.2.2.2.2.2.2.2.2.2) Tryd.underlying67 rfl i48) HS0.out ?_
          simp only [Act.put, List.setIfInBounds_toArray, List.set_cons_zero, List.set_cons_succ]
          refine AnyBut.take 9 (some 26) (v := (.pointer (some ⟨g, 0, none⟩))) rfl rfl (by kernel_rfl) (by decide) (by kernel_rfl) (by kernel_rfl) (by kernel_rfl) (by kernel_rfl) (fun _ _ _ h => h) (Or.inl ⟨by rfl, fun w hS => ?_⟩) HS0.out ?_
          · go_simp
          simp only [Act.put, List.setIfInBounds_toArray, List.set_cons_zero, List.set_cons_succ]
          refine AnyBut.take 10 (some 27) (v := (.pointer (some ⟨g, 0, none⟩))) rfl rfl (by kernel_rfl) (by decide) (by kernel_rfl) (by kernel_rfl) (by kernel_rfl) (by kernel_rfl) (fun _ _ _ h => h) (Or.inl ⟨by rfl, fun w hS => ?_⟩) HS0.out ?_
          · go_simp
          simp only [Act.put, List.setIfInBounds_toArray, List.set_cons_zero, List.set_cons_succ]
          refine AnyBut.take 11 (some 28) (v := (.pointer (some ⟨g, 74, none⟩))) rfl rfl (by kernel_rfl) (by decide) (by kernel_rfl) (by kernel_rfl) (by kernel_rfl) (by kernel_rfl) (fun _ _ _ h => h) (Or.inl ⟨by rfl, fun w hS => ?_⟩) HS0.out ?_
          · go_simp
          simp only [Act.put, List.setIfInBounds_toArray, List.set_cons_zero, List.set_cons_succ]
          refine AnyBut.take 12 (some 29) (v := (.int .i64 (L : Int))) rfl rfl (by kernel_rfl) (by decide) (by kernel_rfl) (by kernel_rfl) (by kernel_rfl) (by kernel_rfl) (fun _ _ _ h => h) (Or.inl ⟨by rfl, fun w hS => ?_⟩) HS0.out ?_
          · (obtain ⟨q1, q2, q3, q4, q5, q6, q7, q8, q9, _⟩ := hS; go_simp)
          simp only [Act.put, List.setIfInBounds_toArray, List.set_cons_zero, List.set_cons_succ]
          refine AnyBut.one 13 (by kernel_rfl) rfl (by rfl) (fun KK hK => ?_)
          go_simp
          go_at_call 40
          refine (TKH.out wr.drew (by exact HTr.out) (by show 3 < wr.heap.size; omega)).mono ?_
          rintro e w' ⟨rfl, hbt0⟩
          have hbt : Below wr.heap.size wr w' := (Below.refl _ _).drew.trans hbt0
          have H5 : Hash w' g h b 64 L := HHH.out.below hbt (by exact hwgl)
          have HS1 : Hid ((fun w' : World => w'.cell? ⟨g, 1, none⟩ = some (.int .u32 (a0 : Int)) ∧ w'.cell? ⟨g, 2, none⟩ = some (.int .u32 (a1 : Int)) ∧ w'.cell? ⟨g, 3, none⟩ = some (.int .u32 (a2 : Int)) ∧ w'.cell? ⟨g, 4, none⟩ = some (.int .u32 (a3 : Int)) ∧ w'.cell? ⟨g, 5, none⟩ = some (.int .u32 (a4 : Int)) ∧ w'.cell? ⟨g, 6, none⟩ = some (.int .u32 (a5 : Int)) ∧ w'.cell? ⟨g, 7, none⟩ = some (.int .u32 (a6 : Int)) ∧ w'.cell? ⟨g, 8, none⟩ = some (.int .u32 (a7 : Int)) ∧ w'.cell? ⟨g, 74, none⟩ = some (.int .i64 (L : Int)) ∧ w'.rangeAt g 9 (b.map V8)) w') := by
            have c : ∀ i, i < 8 → w'.cell? ⟨g, 1 + i, none⟩ = some (.int .u32 (h.getD i 0 : Nat)) := fun i hi => H5.word i hi
            rw [HAA.eq] at c
            exact ⟨c 0 (by omega), c 1 (by omega), c 2 (by omega), c 3 (by omega), c 4 (by omega), c 5 (by omega), c 6 (by omega), c 7 (by omega), H5.lenAt, H5.block⟩
          refine hK.out _ _ (fun _ => HS1.out) ?_
          clear hK KK
          refine AnyBut.take 14 (some 31) (v := (.pointer (some ⟨g, 0, none⟩))) rfl rfl (by kernel_rfl) (by decide) (by kernel_rfl) (by kernel_rfl) (by kernel_rfl) (by kernel_rfl) (fun _ _ _ h => h) (Or.inl ⟨by rfl, fun w hS => ?_⟩) HS1.out ?_
          · go_simp
          simp only [Act.put, List.setIfInBounds_toArray, List.set_cons_zero, List.set_cons_succ]
          refine AnyBut.take 15 (some 32) (v := (.pointer (some ⟨g, 1, none⟩))) rfl rfl (by kernel_rfl) (by decide) (by kernel_rfl) (by kernel_rfl) (by kernel_rfl) (by kernel_rfl) (fun _ _ _ h => h) (Or.inl ⟨by rfl, fun w hS => ?_⟩) HS1.out ?_
          · go_simp
          simp only [Act.put, List.setIfInBounds_toArray, List.set_cons_zero, List.set_cons_succ]
          refine AnyBut.one 16 (by kernel_rfl) rfl (by rfl) (fun KK hK => ?_)
          obtain ⟨d1, d2, d3, d4, d5, d6, d7, d8, d9, f1, f2, f3, f4, f5, f6, f7, f8, f9⟩ := H5.all
          go_simp
          refine hK.out _ _ (fun h => absurd rfl h) ?_
          clear hK KK
          refine AnyBut.done (by kernel_rfl) ?_
          generalize hwz : World.setCell _ ⟨g, 8, none⟩ _ = wz
          have H6 : Hash wz g [t0, t1, t2, t3, t4, t5, t6, t7] b 64 L := by rw [← hwz]; exact H5.setWords (h' := [t0, t1, t2, t3, t4, t5, t6, t7]) rfl
          have K6 : Keep g wr wz := by rw [← hwz]; exact (Keep.of_below hbt).trans (setCells_only g ([t0, t1, t2, t3, t4, t5, t6, t7].map V32) 1 w').keep
          clear hwz d1 d2 d3 d4 d5 d6 d7 d8 d9 f1 f2 f3 f4 f5 f6 f7 f8 f9 HS0 HS1
          have c73 := H6.heldAt
          have f73 := H6.frozen 73
          have HH6 : Hid (Hash wz g [t0, t1, t2, t3, t4, t5, t6, t7] b 64 L) := H6
          have HK6 : Hid (Keep g wr wz) := K6
          clear H6 K6
          go_wp2
          go_meet
          case rel =>
            refine ⟨t, 0, _, ?_, HNX, HK6.out.set rfl _⟩
            rw [HPRE.eq, ← HLL.eq]
            exact HH6.out.setHeld 0
        · have hlt : ((held : Int) == 64) = false := by rw [beq_eq_false_iff_ne]; omega
          have hh := s.held
          go_wp2
          go_meet
          case rel => exact ⟨h, held, _, H, s.pre (by omega), Keep.refl _ _⟩
      case rest =>
        obtain ⟨h', held', q, H', s', K'⟩ := hcut
        have hh' := s'.lt
        obtain ⟨n, hn⟩ : ∃ n, n = Nat.min m (64 - held') := ⟨_, rfl⟩
        have hn1 : 0 < n ∧ n ≤ m ∧ held' + n ≤ 64 := by
          rw [hn]
          show 0 < min m (64 - held') ∧ min m (64 - held') ≤ m ∧ held' + min m (64 - held') ≤ 64
          omega
        obtain ⟨hn0, hnm, hn64⟩ := hn1
        obtain ⟨dd, hdd⟩ : ∃ dd, dd = (ds.drop k).take n := ⟨_, rfl⟩
        have hddl : dd.length = n := by rw [hdd, List.length_take, List.length_drop, HDL.out]; omega
        have hdd8 : ∀ x ∈ dd, x < 256 := fun x hx => HD8.out x (by rw [hdd] at hx; exact List.mem_of_mem_drop (List.mem_of_mem_take hx))
        have hcsl : cs.length = bs.length + k := by rw [HCS.eq, List.length_append, List.length_take, HDL.out]; omega
        have HST : Bl.St (cs ++ dd) h' (Bl.over b held' dd) (held' + dd.length) := s'.put dd hdd8 (by omega) (by omega) (by rw [hcsl, hddl]; have := HLEN.out; rw [HDL.out] at this; omega)
        have HFIN : Is (cs ++ dd) (bs ++ ds.take (k + n)) := ⟨by rw [HCS.eq, hdd, List.append_assoc, List.take_add]⟩
        have hsb : sb ≠ g := by
          rcases HOFF.out with e | e
          · omega
          · exact e ⟨sb, so, none⟩ rfl
        have hcell : ∀ i, i < len → w.cell? ⟨sb, so + i, none⟩ = some (.int .u8 (ds.getD i 0 : Nat)) := by
          rcases HC.out with e | ⟨b', off', e, hc'⟩
          · omega
          · cases e; exact hc'
        have hsl : sb < w.heap.size := block_lt_of_cell (hcell 0 (by omega))
        have HSRC : Hid (∀ j v, (dd.map V8)[j]? = some v → wc.drew.cell? ((⟨sb, so + k, none⟩ : Addr).add j) = some v) := fun j v hv => by
          have hj : j < dd.length := by simpa using (List.getElem?_eq_some_iff.1 hv).1
          rw [Addr.add_mid]
          have e1 : wc.cell? ⟨sb, so + k + j, none⟩ = w.cell? ⟨sb, so + (k + j), none⟩ := by
            rw [Nat.add_assoc]
            exact (K'.cell (p := ⟨sb, so + (k + j), none⟩) hsb (by show sb < wr.heap.size; have := HK.out.size; omega)).trans (HK.out.cell (p := ⟨sb, so + (k + j), none⟩) hsb hsl)
          show wc.cell? ⟨sb, so + k + j, none⟩ = some v
          rw [e1, hcell (k + j) (by omega), ← hv, List.getElem?_map, hdd, List.getElem?_take_of_lt (by omega), List.getElem?_drop, List.getD_eq_getElem?_getD, List.getElem?_eq_getElem (by rw [HDL.out]; omega)]; rfl
        have HNE : Hid (n = Nat.min m (64 - held')) := hn
        have HDDL : Hid (dd.length = n) := hddl
        have HDV : Hid ((dd.map V8).length = n) := by show _ = _; rw [List.length_map, hddl]
        have c73 := H'.heldAt
        have HH' : Hash wc g h' b held' cs.length := H'
        have KK' : Hid (Keep g wr wc) := K'
        have i0 : (0 : Int) ≤ (held' : Int) := Int.natCast_nonneg _
        have i64 : (held' : Int) < 64 := by omega
        have i64' : (held' : Int) ≤ 64 := by omega
        have hne : ¬ 64 = held' := by omega
        clear hn hdd hddl hdd8 hcell hsl H' K' s' s H ch
        go_wp2_with fail
        go_region_law (refine step_copy_only rfl (.tmp 43) (.tmp 44) rfl ⟨sb, so + k, none⟩ (64 - held') (64 - held') m c' g (9 + held') rfl rfl (hcells h' b held' cs.length) 69 HH'.row (dd.map V8) n HDV.out HNE.out HSRC.out (by rw [HH'.length]; omega) (v8_one dd) ?_; intro w4 hg4 ho4)
        have H4 : Hash w4 g h' (Bl.over b held' dd) held' cs.length := by
          refine ⟨?_, HH'.wl, ?_⟩
          · rw [hg4.out, splice_block held' cs.length HH'.wl HH'.bl (by rw [HDDL.out]; exact hn64)]
          · unfold Bl.over; simp [HH'.bl, HDDL.out]; omega
        have K4 : Hid (Keep g w w4) := (HK.out.trans KK'.out).trans ((Only.refl _ _).drew.trans ho4).keep
        have d73 := H4.heldAt
        have d74 := H4.lenAt
        have e73 := H4.frozen 73
        have e74 := H4.frozen 74
        have HH4 : Hid (Hash w4 g h' (Bl.over b held' dd) held' cs.length) := H4
        have n0 : (0 : Int) ≤ (n : Int) := Int.natCast_nonneg _
        have nm : (n : Int) ≤ (m : Int) := by omega
        have ncl : cs.length + n < 9223372036854775808 := by rw [hcsl]; have := HLEN.out; rw [HDL.out] at this; omega
        obtain ⟨L, hL⟩ : ∃ L, L = cs.length := ⟨_, rfl⟩
        rw [← hL] at d74 ncl
        have HLL : Is L cs.length := ⟨hL⟩
        have E73 : (held' : Int) + (n : Int) = ((held' + n : Nat) : Int) := by omega
        have E74 : (L : Int) + (n : Int) = ((L + n : Nat) : Int) := by omega
        have HEND : Hid (HashOf ((w4.setCell ⟨g, 73, none⟩ (.int .i64 ((held' : Int) + (n : Int)))).setCell ⟨g, 74, none⟩ (.int .i64 ((L : Int) + (n : Int)))) g (bs ++ ds.take (k + n)) ∧ Keep g w ((w4.setCell ⟨g, 73, none⟩ (.int .i64 ((held' : Int) + (n : Int)))).setCell ⟨g, 74, none⟩ (.int .i64 ((L : Int) + (n : Int))))) := by
          refine ⟨?_, (K4.out.set rfl _).set rfl _⟩
          rw [E73, E74, ← HFIN.eq]
          refine ⟨h', Bl.over b held' dd, held' + dd.length, ?_, HST⟩
          rw [List.length_append, HDDL.out, ← HLL.eq]
          exact (HH4.out.setHeld (held' + n)).setLen (L + n)
        clear hg4 ho4 H4 hL E73 E74 HST HFIN c73 HH' KK' HSRC HNE HDDL HDV HK HTr hl63 hcsl HCS
        by_cases hnc : n = c'
        · have hmn : m = n := by omega
          subst hmn
          subst hnc
          go_wp2
          go_roundw
          case rel => exact ⟨k + m, 0, 0, _, by omega, rfl, Nat.le_refl _, (fun h => by omega), HEND.out⟩
          case measure => simp [sliceLen]; omega
        · have hnc' : (n : Int) < (c' : Int) := by omega
          have hnc2 : ¬ c' = n := fun e => hnc e.symm
          go_wp2
          go_roundw
          case rel => exact ⟨k + n, m - n, c' - n, _, by omega, rfl, by omega, (fun _ => ⟨sb, so, rfl, by rw [Nat.add_assoc]⟩), HEND.out⟩
          case measure => simp [sliceLen]; omega
end Go.Proofs.YtefpaebbendnmaaDoor.BK
