/- Proved: lists of texts of the call's own beside a log and its disk. -/
import Derived.Test.YtkfgcbpiellimaaDoorFrame
namespace Go.Proofs.YtkfgcbpiellimaaDoor
open Go.RowKit
/- two lists of texts, each in a block of its own from N on, apart from one another and from the blocks of F -/
structure Held (w : World) (N : Nat) (u : Value) (xs : List ByteArray) (v : Value) (ys : List ByteArray) (F : List Nat) : Prop where
  a : OwnS w N u xs
  b : OwnS w N v ys
  ab : ∀ k, u.ownBlock = some k → v.ownBlock ≠ some k
  af : ∀ k, u.ownBlock = some k → k ∉ F
  bf : ∀ k, v.ownBlock = some k → k ∉ F
section
variable {w w' : World} {N : Nat} {u v u' v' : Value} {xs ys xs' ys' : List ByteArray} {F F' : List Nat}
theorem ownN_nil (w : World) (N : Nat) : OwnS w N nil0 [] := ⟨rfl, .inl ⟨rfl, rfl⟩⟩
theorem Held.start (w : World) (N : Nat) (F : List Nat) : Held w N nil0 [] nil0 [] F := ⟨ownN_nil w N, ownN_nil w N, (by intro k h; cases h), (by intro k h; cases h), (by intro k h; cases h)⟩
theorem Held.turn (H : Held w N u xs v ys F) (hT : Turn F F' w w') : Held w' N u xs v ys F' := by
  refine ⟨own_keep H.a (fun k hk => hT.chg.block k (H.a.lt k hk).2 (H.af k hk)), own_keep H.b (fun k hk => hT.chg.block k (H.b.lt k hk).2 (H.bf k hk)), H.ab, fun k hk => ?_, fun k hk => ?_⟩
  · exact hT.apart (rs := [k]) (fun j hj => by rw [List.mem_singleton.1 hj]; exact H.af k hk) (fun j hj => by rw [List.mem_singleton.1 hj]; exact (H.a.lt k hk).2) k (List.mem_singleton.2 rfl)
  · exact hT.apart (rs := [k]) (fun j hj => by rw [List.mem_singleton.1 hj]; exact H.bf k hk) (fun j hj => by rw [List.mem_singleton.1 hj]; exact (H.b.lt k hk).2) k (List.mem_singleton.2 rfl)
theorem Held.below (H : Held w N u xs v ys F) (hB : Below w.heap.size w w') : Held w' N u xs v ys F := ⟨own_below H.a hB, own_below H.b hB, H.ab, H.af, H.bf⟩
theorem Held.app_b (H : Held w N u xs v ys F) (hF : ∀ k ∈ F, k < w.heap.size) (hG : w.grownBy w' v.ownBlock) (hO : OwnS w' N v' ys') (hv : v'.ownBlock = v.ownBlock ∨ v'.ownBlock = some w.heap.size) : Held w' N u xs v' ys' F := by
  refine ⟨own_keep H.a (fun k hk => hG.block k (H.a.lt k hk).2 (fun e => H.ab k hk e.symm)), hO, fun k hk e => ?_, H.af, fun k hk hm => ?_⟩
  · rcases hv with h | h
    · exact H.ab k hk (h ▸ e)
    · rw [h] at e
      have := (H.a.lt k hk).2
      have := Option.some.inj e
      omega
  · rcases hv with h | h
    · exact H.bf k (h ▸ hk) hm
    · rw [h] at hk
      have := hF k hm
      have := Option.some.inj hk
      omega
theorem Held.app_a (H : Held w N u xs v ys F) (hF : ∀ k ∈ F, k < w.heap.size) (hO : OwnS w' N u' xs') (hv : u'.ownBlock = u.ownBlock ∨ u'.ownBlock = some w.heap.size) : Held w' N u' xs' nil0 [] F := by
  refine ⟨hO, ownN_nil _ _, (by intro k _ e; cases e), fun k hk hm => ?_, (by intro k e; cases e)⟩
  rcases hv with h | h
  · exact H.af k (h ▸ hk) hm
  · rw [h] at hk
    have := hF k hm
    have := Option.some.inj hk
    omega
theorem Held.nil_a (H : Held w N u xs v ys F) : Held w N nil0 [] v ys F := ⟨ownN_nil _ _, H.b, (by intro k e; cases e), (by intro k e; cases e), H.bf⟩
theorem Held.nil_b (H : Held w N u xs v ys F) : Held w N u xs nil0 [] F := ⟨H.a, ownN_nil _ _, (by intro k _ e; cases e), H.af, (by intro k e; cases e)⟩
theorem Turn.grown {w0 : World} {F0 : List Nat} (h : Turn F0 F w0 w) (hG : w.grownBy w' v.ownBlock) (hb : ∀ k, v.ownBlock = some k → w0.heap.size ≤ k) : Turn F0 F w0 w' := by
  refine ⟨⟨hG.os.trans h.chg.os, hG.tape.trans h.chg.tape, hG.output.trans h.chg.output, Nat.le_trans h.chg.size hG.size, fun k hk hn => ?_⟩, h.grow⟩
  rw [hG.block k (Nat.lt_of_lt_of_le hk h.chg.size) (fun e => by have := hb k e.symm; omega)]
  exact h.chg.block k hk hn
theorem Turn.under {w0 : World} {F0 : List Nat} (h : Turn F0 F w0 w) (hB : Below w.heap.size w w') : Turn F0 F w0 w' := h.trans (Turn.of_below hB)
theorem Good.grown {q g kg M : Nat} {vr vw vp : Value} {l : Wl.Lg} {s : Sc.St} (G : Good w q g vr vw l kg vp s M) (hG : w.grownBy w' v.ownBlock) (hf : ∀ k, v.ownBlock = some k → k ∉ lfoot q g vr vw kg vp) (h0 : ∀ k, v.ownBlock = some k → 0 < k) : Good w' q g vr vw l kg vp s M := by
  refine G.keep (Chg.grown hG) (fun k hk hm => ?_) (fun hm => ?_)
  · exact hf k (by simpa using hm) hk
  · have := h0 0 (by simpa using hm); omega
end
/- the cells of one call that came in -/
theorem Acts.at {W w : World} {a : Option Addr} {len k : Nat} (h : Acts W a len) (hb : Below W.heap.size W w) (hk : k < len) : ∃ b off, a = some ⟨b, off, none⟩ ∧ ∃ x : Act, x.Fits W ∧ w.cell? ⟨b, off + k * 4, none⟩ = some (.int .i64 x.kind) ∧ w.cell? ⟨b, off + k * 4 + 2, none⟩ = some (.string x.s) := by
  rcases h with h | ⟨b, off, ha, hc⟩
  · omega
  · obtain ⟨x, hx, hr⟩ := hc k hk
    have hl : b < W.heap.size := block_lt_of_cell (hr 0 _ rfl)
    refine ⟨b, off, ha, x, hx, ?_, ?_⟩
    · exact (hb.cell (p := ⟨b, off + k * 4 + 0, none⟩) hl).trans (hr 0 _ rfl)
    · exact (hb.cell (p := ⟨b, off + k * 4 + 2, none⟩) hl).trans (hr 2 _ rfl)
theorem cut_size (x : ByteArray) (n : Nat) (h : n ≤ x.size) : (x.extract 0 n).size = n := by simp; omega
end Go.Proofs.YtkfgcbpiellimaaDoor
