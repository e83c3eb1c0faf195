/- Proved: plain facts: fields without fault are the record of their bytes, and the other way. -/
import Derived.Test.YtpbobmhffdmmmaaWorks
namespace Go.Proofs.Ytpbobmhffdmmmaa
open Go.RowKit
theorem fault_up : ∀ (p : Int) (fs : List Fv), fault p fs = 0 → Fi.Up (fs.map fd)
  | _, [], _ => trivial
  | _, [_], _ => trivial
  | p, f :: g :: l, h => by
    have hg := fault_good p (f :: g :: l) h
    have gf := hg f List.mem_cons_self
    have gg := hg g (List.mem_cons_of_mem _ List.mem_cons_self)
    by_cases h3 : f.tag < p
    · rw [fault_state gf.may (by have := gf.len; omega) h3] at h; omega
    · rw [fault_next gf.may (by have := gf.len; omega) h3] at h
      refine ⟨?_, fault_up f.tag (g :: l) h⟩
      by_cases h4 : g.tag < f.tag
      · rw [fault_state gg.may (by have := gg.len; omega) h4] at h; omega
      · show f.tag.toNat ≤ g.tag.toNat
        omega
theorem fault_none : ∀ (p : Int) (fs : List Fv), (∀ f ∈ fs, Good f) → Fi.Up (fs.map fd) → (∀ f, fs.head? = some f → p ≤ f.tag) → fault p fs = 0
  | _, [], _, _, _ => rfl
  | p, f :: l, hg, hu, hp => by
    have gf := hg f List.mem_cons_self
    rw [fault_next gf.may (by have := gf.len; omega) (by have := hp f rfl; omega)]
    refine fault_none f.tag l (fun x hx => hg x (List.mem_cons_of_mem _ hx)) ?_ ?_
    · cases l with
      | nil => trivial
      | cons g l => exact hu.2
    · intro g he
      cases l with
      | nil => cases he
      | cons g' l =>
        cases he
        have h1 : f.tag.toNat ≤ g.tag.toNat := hu.1
        have h2 := (hg g (List.mem_cons_of_mem _ List.mem_cons_self)).tag1
        have h3 := gf.tag1
        omega
theorem enc_dec {fs : List Fv} (h : encE fs = 0) : Dec (enc fs) fs := by
  unfold encE at h
  by_cases hf : fault 0 fs = 0
  · rw [if_neg (by simp [hf])] at h
    by_cases hl : 65536 < (enc fs).length
    · rw [if_pos hl] at h; omega
    · exact ⟨by omega, fault_good 0 fs hf, fault_up 0 fs hf, rfl⟩
  · rw [if_pos hf] at h
    exact absurd h hf
theorem dec_enc {bs : List Nat} {fs : List Fv} (h : Dec bs fs) : encE fs = 0 := by
  have hf : fault 0 fs = 0 := fault_none 0 fs h.good h.up (fun f hf => by
    have := (h.good f (List.mem_of_head? hf)).tag1
    omega)
  unfold encE
  rw [if_neg (by simp [hf]), if_neg (by rw [h.eq]; have := h.len; omega)]
theorem encS_of {fs : List Fv} (h : encE fs = 0) : encS fs = tb (enc fs) := by unfold encS; rw [if_pos h]
theorem encS_bl {fs : List Fv} (h : encE fs = 0) : bl (encS fs) = enc fs := by
  rw [encS_of h, bl_tb (enc_lt (enc_dec h).good)]
theorem encS_back {s : ByteArray} {fs : List Fv} (h : Dec (bl s) fs) : encS fs = s := by
  rw [encS_of (dec_enc h), h.eq, tb_bl]
theorem encS_size (fs : List Fv) : (encS fs).size ≤ 65536 := by
  by_cases h : encE fs = 0
  · rw [encS_of h, tb_size]; exact (enc_dec h).len
  · unfold encS; rw [if_neg h]; decide
/- the fields as few leaves them -/
theorem cut_fits {f : Fv} (h : f.Fits) : (cut f).Fits := by
  unfold cut
  split
  · exact h
  · refine ⟨h.tag, h.kind, h.n, ?_⟩
    show (f.s.extract 0 4100).size ≤ _
    rw [ByteArray.size_extract]
    omega
theorem few_fits {w : World} {a : Option Addr} {len : Nat} {fs : List Fv} (h : FieldsL w a len fs) (n : Nat) : ∀ f ∈ (fs.take n).map cut, f.Fits := fun f hf => by
  obtain ⟨g, hg, rfl⟩ := List.mem_map.1 hf
  exact cut_fits (h.2.1 g (List.mem_of_mem_take hg))
end Go.Proofs.Ytpbobmhffdmmmaa
