/- Proved, no program in it: what putting field by field comes to: no fault, and of each tag the texts in the order in which they were put. -/
import Derived.Test.YtpbobmhffdmmmaaPut
import Derived.Test.YtpbobmhffdmmmaaEnc
import Derived.Test.YtpbobmhffdmmmaaNumT
namespace Go.Proofs.Ytpbobmhffdmmmaa
open Go.RowKit
theorem fault_cons {p : Int} {g : Fv} {l : List Fv} (h : fault p (g :: l) = 0) : May g ∧ ¬ 4096 < g.s.size ∧ ¬ g.tag < p ∧ fault g.tag l = 0 := by
  by_cases h1 : May g
  · by_cases h2 : 4096 < g.s.size
    · rw [fault_long h1 h2] at h; cases h
    · by_cases h3 : g.tag < p
      · rw [fault_state h1 h2 h3] at h; cases h
      · rw [fault_next h1 h2 h3] at h; exact ⟨h1, h2, h3, h⟩
  · rw [fault_arg h1] at h; cases h
theorem fault_ge : ∀ (p : Int) (l : List Fv), fault p l = 0 → ∀ x ∈ l, p ≤ x.tag
  | _, [], _, x, hx => by cases hx
  | p, g :: l, h, x, hx => by
    obtain ⟨_, _, h3, h4⟩ := fault_cons h
    rcases List.mem_cons.1 hx with rfl | hx
    · omega
    · have := fault_ge g.tag l h4 x hx
      omega
theorem fault_put (f : Fv) (hf : Good f) : ∀ (p : Int) (l : List Fv), fault p l = 0 → p ≤ f.tag → fault p (putV l f) = 0
  | p, [], _, hp => by
    show fault p [f] = 0
    rw [fault_next hf.may (by have := hf.len; omega) (by omega)]; rfl
  | p, g :: l, h, hp => by
    obtain ⟨h1, h2, h3, h4⟩ := fault_cons h
    unfold putV
    split
    · rename_i hlt
      rw [fault_next hf.may (by have := hf.len; omega) (by omega), fault_next h1 h2 (by omega)]
      exact h4
    · rename_i hlt
      rw [fault_next h1 h2 h3]
      exact fault_put f hf g.tag l h4 (by omega)
theorem filter_put (p : Fv → Bool) (f : Fv) (hp : ∀ x, p x = true → p f = true → x.tag = f.tag) : ∀ (q : Int) (l : List Fv), fault q l = 0 → (putV l f).filter p = l.filter p ++ (if p f then [f] else [])
  | q, [], _ => by by_cases h : p f = true <;> simp [putV, h]
  | q, g :: l, h => by
    obtain ⟨_, _, _, h4⟩ := fault_cons h
    unfold putV
    split
    · rename_i hlt
      by_cases hpf : p f = true
      · have hno : (g :: l).filter p = [] := by
          rw [List.filter_eq_nil_iff]
          intro x hx hpx
          have ht := hp x hpx hpf
          rcases List.mem_cons.1 hx with rfl | hx
          · omega
          · have := fault_ge g.tag l h4 x hx
            omega
        rw [List.filter_cons, if_pos hpf, hno, if_pos hpf]; rfl
      · rw [List.filter_cons, if_neg hpf, if_neg hpf, List.append_nil]
    · rw [List.filter_cons, List.filter_cons, filter_put p f hp g.tag l h4]
      by_cases hg : p g = true <;> simp [hg]
def okB (f : Fv) : Bool := decide (encE [f] = 0)
def putAll (fs : List Fv) : List Fv := fs.foldl (fun r f => if okB f then putV r f else r) []
theorem putAll_succ (fs : List Fv) (k : Nat) (hk : k < fs.length) : putAll (fs.take (k + 1)) = if okB (fs.getD k fv0) then putV (putAll (fs.take k)) (fs.getD k fv0) else putAll (fs.take k) := by
  unfold putAll
  rw [List.take_succ_eq_append_getElem hk, List.foldl_append, List.getD_eq_getElem?_getD, List.getElem?_eq_getElem hk]
  rfl
theorem ok_good {f : Fv} (h : okB f = true) : Good f := by
  have h1 : encE [f] = 0 := of_decide_eq_true h
  have h2 : fault 0 [f] = 0 := by
    unfold encE at h1
    split at h1
    · exact h1
    · rename_i hn; exact Decidable.not_not.1 hn
  exact fault_good 0 [f] h2 f (by simp)
theorem putAll_fault (fs : List Fv) : ∀ k, k ≤ fs.length → fault 0 (putAll (fs.take k)) = 0
  | 0, _ => by simp [putAll, fault]
  | k + 1, hk => by
    rw [putAll_succ fs k (by omega)]
    have ih := putAll_fault fs k (by omega)
    split
    · rename_i h
      have hg := ok_good h
      exact fault_put _ hg 0 _ ih (by have := hg.tag1; omega)
    · exact ih
theorem putAll_len (fs : List Fv) : ∀ k, k ≤ fs.length → (putAll (fs.take k)).length ≤ k
  | 0, _ => by simp [putAll]
  | k + 1, hk => by
    rw [putAll_succ fs k (by omega)]
    have ih := putAll_len fs k (by omega)
    split
    · rw [putV_length]; omega
    · omega
theorem putAll_filter (tag : Int) (fs : List Fv) : ∀ k, k ≤ fs.length → (putAll (fs.take k)).filter (hit tag 1) = (fs.take k).filter (fun x => okB x && hit tag 1 x)
  | 0, _ => by simp [putAll]
  | k + 1, hk => by
    have hkl : k < fs.length := by omega
    have ih := putAll_filter tag fs k (by omega)
    rw [putAll_succ fs k hkl, List.take_succ_eq_append_getElem hkl, List.filter_append, ← ih]
    have hge : fs[k] = fs.getD k fv0 := by rw [List.getD_eq_getElem?_getD, List.getElem?_eq_getElem hkl]; rfl
    rw [hge]
    generalize fs.getD k fv0 = g at *
    by_cases h : okB g = true
    · rw [if_pos h, filter_put (hit tag 1) g (fun x hx hg => by simp [hit] at hx hg; omega) 0 _ (putAll_fault fs k (by omega))]
      by_cases h2 : hit tag 1 g = true <;> simp [h, h2]
    · rw [if_neg h]; simp [h]
theorem putAll_err (fs : List Fv) : encE (putAll fs) = 0 ∨ (encE (putAll fs) = 3 ∧ encS (putAll fs) = ByteArray.empty) := by
  have h := putAll_fault fs fs.length (Nat.le_refl _)
  rw [List.take_length] at h
  by_cases h2 : 65536 < (enc (putAll fs)).length
  · have h3 : encE (putAll fs) = 3 := by simp [encE, h, h2]
    exact .inr ⟨h3, by unfold encS; rw [if_neg (by rw [h3]; decide)]⟩
  · exact .inl (by simp [encE, h, h2])
end Go.Proofs.Ytpbobmhffdmmmaa
