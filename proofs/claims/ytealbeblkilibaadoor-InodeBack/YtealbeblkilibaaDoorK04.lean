/- Proved: plain facts on what is encoded being decoded as it was, through bytes, too; a path's parts are no longer than it. -/
import Derived.Test.YtealbeblkilibaaDoorK02
import Derived.Test.YtealbeblkilibaaDoorJ10
import Derived.Test.YtealbeblkilibaaDoorJ12
namespace Go.Proofs.YtealbeblkilibaaDoor
open Go.RowKit
open Ino (Nd Ar Pt)
open FI (Fv)
namespace Ino
theorem fb_le {f : Fv} (h : FI.Good f) : (Fi.fb (FI.fd f)).length ≤ 4200 := by
  obtain ⟨t, k, n, s⟩ := f
  rcases h.kind with ⟨h1, h2, h3, h4⟩ | ⟨h1, h2⟩
  · simp only at h1 h2 h3 h4
    subst h1 h4
    have hv := Fi.varint_length 8 n.toNat (by omega)
    unfold Fi.fb FI.fd
    simp
    omega
  · simp only at h1 h2
    subst h1 h2
    have hl : s.size ≤ 4096 := h.len
    have hv := Fi.varint_length 1 s.size (by omega)
    unfold Fi.fb FI.fd
    simp [FI.bl_length]
    omega
theorem enc_le : ∀ (l : List Fv), (∀ f ∈ l, FI.Good f) → (FI.enc l).length ≤ 4200 * l.length
  | [], _ => by simp [FI.enc, Fi.enc]
  | f :: l, h => by
    have h1 := fb_le (h f List.mem_cons_self)
    have h2 := enc_le l (fun x hx => h x (List.mem_cons_of_mem _ hx))
    rw [FI.enc_cons, List.length_append, List.length_cons]
    omega
/- fields whose tags rise, the last not above -/
structure Rise (k : Nat) (l : List Fv) : Prop where
  good : ∀ f ∈ l, FI.Good f
  up : Fi.Up (l.map FI.fd)
  top : ∀ f ∈ l, f.tag.toNat ≤ k
theorem up_put : ∀ (l : List Fi.Fd) (f : Fi.Fd), Fi.Up l → (∀ x ∈ l, x.tag ≤ f.tag) → Fi.Up (l ++ [f])
  | [], _, _, _ => trivial
  | [x], _f, _, h => ⟨h x List.mem_cons_self, trivial⟩
  | _ :: y :: l, f, h, h2 => ⟨h.1, up_put (y :: l) f h.2 (fun x hx => h2 x (List.mem_cons_of_mem _ hx))⟩
theorem Rise.nil : Rise 0 [] := ⟨fun f hf => (by cases hf), trivial, fun f hf => (by cases hf)⟩
theorem Rise.one {k : Nat} {l : List Fv} (h : Rise k l) (f : Fv) (t : Nat) (ht : f.tag = t) (hk : k ≤ t) (hg : FI.Good f) : Rise t (l ++ [f]) := by
  refine ⟨fun x hx => ?_, ?_, fun x hx => ?_⟩
  · rcases List.mem_append.1 hx with hx | hx
    · exact h.good x hx
    · rw [List.mem_singleton.1 hx]; exact hg
  · rw [List.map_append]
    refine up_put _ _ h.up fun y hy => ?_
    obtain ⟨z, hz, rfl⟩ := List.mem_map.1 hy
    show z.tag.toNat ≤ f.tag.toNat
    have := h.top z hz
    omega
  · rcases List.mem_append.1 hx with hx | hx
    · have := h.top x hx; omega
    · rw [List.mem_singleton.1 hx]; omega
theorem Rise.le {k m : Nat} {l : List Fv} (h : Rise k l) (hk : k ≤ m) : Rise m l := ⟨h.good, h.up, fun f hf => by have := h.top f hf; omega⟩
theorem Rise.num {k : Nat} {l : List Fv} (h : Rise k l) (t : Nat) (n : Int) (hk : k ≤ t) (h1 : 1 ≤ t) (h2 : t ≤ 63) (hn : 0 ≤ n) (hm : n ≤ 4611686018427387904) : Rise t (l ++ numF t n) := by
  unfold numF
  by_cases h0 : n = 0
  · rw [if_pos h0, List.append_nil]; exact h.le hk
  · rw [if_neg h0]
    exact h.one _ t rfl hk ⟨by show (1 : Int) ≤ (t : Int); omega, by show (t : Int) ≤ 63; omega, by show (0 : Nat) ≤ 4096; omega, .inl ⟨rfl, hn, hm, rfl⟩⟩
theorem Rise.digest {k : Nat} {l : List Fv} (h : Rise k l) (d : List UInt8) (hk : k ≤ 3) (hd : d.length = 32) : Rise 3 (l ++ sumF d) := by
  unfold sumF
  refine h.one _ 3 rfl hk ⟨by show (1 : Int) ≤ 3; omega, by show (3 : Int) ≤ 63; omega, ?_, .inr ⟨rfl, rfl⟩⟩
  show (Go.Proofs.YtealbeblkilibaaDoor.mk d).size ≤ 4096
  have : (Go.Proofs.YtealbeblkilibaaDoor.mk d).size = d.length := by simp [Go.Proofs.YtealbeblkilibaaDoor.mk, ByteArray.size]
  omega
theorem chk_range {n : Nd} (h : chk n = 0) : (0 ≤ n.kind ∧ n.kind ≤ 4611686018427387904) ∧ (0 ≤ n.size ∧ n.size ≤ 4611686018427387904) ∧ (0 ≤ n.content ∧ n.content ≤ 4611686018427387904) ∧ (0 ≤ n.version ∧ n.version ≤ 4611686018427387904) ∧ (0 ≤ n.opened ∧ n.opened ≤ 4611686018427387904) := by
  rcases chk_cases h with h | h
  · subst h; decide
  · simp only [isFile, okSize, okStamp, Bool.and_eq_true, beq_iff_eq, decide_eq_true_eq] at h
    omega
theorem recN_rise {n : Nd} (hs : n.sum.length = 32) (h : chk n = 0) : Rise 6 (recN n) := by
  obtain ⟨⟨a0, a1⟩, ⟨b0, b1⟩, ⟨c0, c1⟩, ⟨d0, d1⟩, ⟨e0, e1⟩⟩ := chk_range h
  unfold recN
  have r1 : Rise 1 (numF 1 n.kind) := Rise.nil.num 1 n.kind (by omega) (by omega) (by omega) a0 a1
  have r2 : Rise 2 (numF 1 n.kind ++ numF 2 n.size) := r1.num 2 n.size (by omega) (by omega) (by omega) b0 b1
  have r3 : Rise 3 (numF 1 n.kind ++ numF 2 n.size ++ (if n.kind = 2 then sumF n.sum else [])) := by
    by_cases hk : n.kind = 2
    · rw [if_pos hk]; exact r2.digest n.sum (by omega) hs
    · rw [if_neg hk, List.append_nil]; exact r2.le (by omega)
  exact ((r3.num 4 n.content (by omega) (by omega) (by omega) c0 c1).num 5 n.version (by omega) (by omega) (by omega) d0 d1).num 6 n.opened (by omega) (by omega) (by omega) e0 e1
theorem recA_rise {a : Ar} (hs : a.sum.length = 32) (h : chkA a = 0) : Rise 5 (recA a) := by
  have hr : (0 ≤ a.size ∧ a.size ≤ 4611686018427387904) ∧ (0 ≤ a.version ∧ a.version ≤ 4611686018427387904) := by
    unfold chkA at h
    by_cases h1 : okA a = true
    · simp only [okA, okSize, okStamp, Bool.and_eq_true, bne_iff_ne, decide_eq_true_eq] at h1
      omega
    · rw [if_neg h1] at h; omega
  obtain ⟨⟨a0, a1⟩, ⟨b0, b1⟩⟩ := hr
  unfold recA
  have r1 : Rise 2 (numF 2 a.size) := Rise.nil.num 2 a.size (by omega) (by omega) (by omega) a0 a1
  exact (r1.digest a.sum (by omega) hs).num 5 a.version (by omega) (by omega) (by omega) b0 b1
theorem Rise.dec {k : Nat} {l : List Fv} (h : Rise k l) (hl : l.length ≤ 10) : FI.Dec (FI.enc l) l :=
  ⟨by have := enc_le l h.good; omega, h.good, h.up, rfl⟩
theorem names_le : ∀ (s : Pm.T), ∀ n ∈ Pm.names s, n.length ≤ s.length
  | [], n, hn => by simp [Pm.names] at hn; subst hn; simp
  | c :: r, n, hn => by
    have ih := names_le r
    unfold Pm.names at hn
    by_cases hc : c = 47
    · rw [if_pos hc] at hn
      rcases List.mem_cons.1 hn with rfl | hn
      · simp
      · have := ih n hn; rw [List.length_cons]; omega
    · rw [if_neg hc] at hn
      rcases List.mem_cons.1 hn with rfl | hn
      · have hh : ((Pm.names r).headD []).length ≤ r.length := by
          cases hr : Pm.names r with
          | nil => simp
          | cons x l => exact ih x (by rw [hr]; exact List.mem_cons_self)
        rw [List.length_cons, List.length_cons]; omega
      · have := ih n (List.mem_of_mem_tail hn); rw [List.length_cons]; omega
theorem key_sizes (p : ByteArray) : ∀ x ∈ keyL (bl p), x.s.size ≤ p.size := fun x hx => by
  obtain ⟨q, hq, rfl⟩ := List.mem_map.1 hx
  have hq2 : q ∈ Pm.names (bl p) := by
    unfold Pm.split at hq
    split at hq
    · cases hq
    · exact hq
  have := names_le _ q hq2
  have hb : (bl p).length = p.size := bl_length p
  show (Go.Proofs.YtealbeblkilibaaDoor.mk q).size ≤ p.size
  rw [mk_size]
  omega
end Ino
end Go.Proofs.YtealbeblkilibaaDoor
