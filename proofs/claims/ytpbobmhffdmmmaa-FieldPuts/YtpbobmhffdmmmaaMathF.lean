/- Proved: plain facts on how the document reads records: fields of whatever tag and number have bytes of their own, too. -/
import Derived.Test.YtpbobmhffdmmmaaMathE
namespace Go.Proofs.Ytpbobmhffdmmmaa
open Go.RowKit
/- a field as the document's reader makes it -/
structure Raw (f : Fv) : Prop where
  tag0 : 0 ≤ f.tag
  tag127 : f.tag ≤ 127
  size : f.s.size ≤ 65536
  kind : (f.kind = 0 ∧ 0 ≤ f.n ∧ f.n ≤ 9223372036854775807 ∧ f.s = ByteArray.empty) ∨ (f.kind = 1 ∧ f.n = 0)
theorem Good.raw {f : Fv} (h : Good f) : Raw f := ⟨by have := h.tag1; omega, by have := h.tag63; omega, by have := h.len; omega, h.kind.imp (fun ⟨a, b, c, d⟩ => ⟨a, b, by omega, d⟩) id⟩
theorem Raw.fits {f : Fv} (h : Raw f) : f.Fits := by
  have h1 := h.tag0; have h2 := h.tag127; have h3 := h.kind; have h4 := h.size
  refine ⟨?_, ?_, ?_, ?_⟩
  · unfold In64; omega
  · unfold In64; omega
  · unfold In64; omega
  · omega
theorem raw_inj {f g : Fv} {r r' : List Nat} (hf : Raw f) (hg : Raw g) (e : Fi.fb (fd f) ++ r = Fi.fb (fd g) ++ r') : f = g ∧ r = r' := by
  obtain ⟨ft, fk, fn, fs⟩ := f
  obtain ⟨gt, gk, gn, gs⟩ := g
  have h1 := hf.tag0; have h2 := hg.tag0; have h3 := hf.kind; have h4 := hg.kind
  simp only at h1 h2 h3 h4
  obtain ⟨t, rfl⟩ := Int.eq_ofNat_of_zero_le h1
  obtain ⟨u, rfl⟩ := Int.eq_ofNat_of_zero_le h2
  rcases h3 with ⟨rfl, a1, a2, rfl⟩ | ⟨rfl, rfl⟩
  · obtain ⟨m, rfl⟩ := Int.eq_ofNat_of_zero_le a1
    rcases h4 with ⟨rfl, b1, b2, rfl⟩ | ⟨rfl, rfl⟩
    · obtain ⟨k, rfl⟩ := Int.eq_ofNat_of_zero_le b1
      rw [fb_num, fb_num] at e
      obtain ⟨e1, e2⟩ := List.cons.inj e
      obtain ⟨e3, e4⟩ := Fi.varint_inj m k r r' e2
      have : t = u := by omega
      subst this; subst e3
      exact ⟨rfl, e4⟩
    · rw [fb_num, fb_text] at e
      obtain ⟨e1, _⟩ := List.cons.inj e
      omega
  · rcases h4 with ⟨rfl, b1, b2, rfl⟩ | ⟨rfl, rfl⟩
    · obtain ⟨k, rfl⟩ := Int.eq_ofNat_of_zero_le b1
      rw [fb_text, fb_num] at e
      obtain ⟨e1, _⟩ := List.cons.inj e
      omega
    · rw [fb_text, fb_text] at e
      obtain ⟨e1, e2⟩ := List.cons.inj e
      have e2 : Fi.varint fs.size ++ (bl fs ++ r) = Fi.varint gs.size ++ (bl gs ++ r') := by rw [← List.append_assoc, ← List.append_assoc]; exact e2
      obtain ⟨e3, e4⟩ := Fi.varint_inj _ _ _ _ e2
      obtain ⟨e5, e6⟩ := List.append_inj e4 (by rw [bl_length, bl_length, e3])
      have : t = u := by omega
      subst this
      rw [bl_inj e5]
      exact ⟨rfl, e6⟩
theorem raw_pre : ∀ (p l : List Fv) (r : List Nat), (∀ f ∈ p, Raw f) → (∀ f ∈ l, Raw f) → enc l = enc p ++ r → ∃ l', l = p ++ l' ∧ enc l' = r
  | [], l, r, _, _, e => ⟨l, rfl, e⟩
  | f :: p, [], r, _, _, e => by
    rw [enc_cons] at e
    have h1 := congrArg List.length e
    have h2 := @Fi.fb_two (fd f)
    simp [enc, Fi.enc] at h1
    omega
  | f :: p, g :: l, r, hp, hl, e => by
    rw [enc_cons, enc_cons, List.append_assoc] at e
    obtain ⟨e1, e2⟩ := raw_inj (hl g List.mem_cons_self) (hp f List.mem_cons_self) e
    obtain ⟨l', h1, h2⟩ := raw_pre p l r (fun x hx => hp x (List.mem_cons_of_mem _ hx)) (fun x hx => hl x (List.mem_cons_of_mem _ hx)) e2
    exact ⟨l', by rw [e1, h1]; rfl, h2⟩
/- what the reader has, and what is left -/
structure RRead (bs : List Nat) (pre : List Fv) (at_ : Nat) : Prop where
  le : at_ ≤ bs.length
  raw : ∀ f ∈ pre, Raw f
  eq : enc pre = bs.take at_
theorem RRead.stuck {bs : List Nat} {pre : List Fv} {k : Nat} (h : RRead bs pre k) (hk : k < bs.length) (hF : ∀ f r, ¬ Front (bs.drop k) f r) : ∀ l, ¬ Dec bs l := fun l hd => by
  obtain ⟨l', e, e2⟩ := raw_pre pre l (bs.drop k) h.raw (fun f hf => (hd.good f hf).raw) (by rw [hd.eq, h.eq, List.take_append_drop])
  cases l' with
  | nil =>
    have := congrArg List.length e2
    simp [enc, Fi.enc] at this
    omega
  | cons f l' =>
    exact hF f (enc l') ⟨hd.good f (by rw [e]; exact List.mem_append_right _ List.mem_cons_self), by rw [← e2, enc_cons]⟩
theorem RRead.whole {bs : List Nat} {pre : List Fv} (h : RRead bs pre bs.length) (he : encE pre ≠ 0) : ∀ l, ¬ Dec bs l := fun l hd => by
  obtain ⟨l', e, e2⟩ := raw_pre pre l [] h.raw (fun f hf => (hd.good f hf).raw) (by rw [hd.eq, h.eq, List.append_nil, List.take_of_length_le (Nat.le_refl _)])
  rw [enc_nil_of e2, List.append_nil] at e
  subst e
  exact he (dec_enc hd)
/- the number at the front of t: bytes that go on, then one that does not -/
theorem val_varint (n : Nat) : Fi.val (Fi.varint n) = n := by
  induction n using Nat.strongRecOn with
  | ind n ih =>
    by_cases h : n < 128
    · rw [Fi.varint_small h, Fi.val, Fi.val]; omega
    · rw [Fi.varint_large h, Fi.val, ih (n / 128) (by omega)]; omega
theorem num_is {p : List Nat} {b n : Nat} {r x : List Nat} (hp : ∀ y ∈ p, 128 ≤ y) (hb : b < 128) (e : p ++ b :: r = Fi.varint n ++ x) : Fi.varint n = p ++ [b] ∧ Fi.val (p ++ [b]) = n ∧ r = x := by
  obtain ⟨q, c, e1, h1, h2, _⟩ := Fi.varint_ends n
  have e2 : p ++ b :: r = q ++ c :: x := by rw [e, e1, List.append_assoc]; rfl
  obtain ⟨a1, a2, a3⟩ := Fi.cut_same p q b c r x hp hb h1 h2 e2
  subst a1; subst a2
  exact ⟨e1, by rw [← e1, val_varint], a3⟩
/- nobody's front: the number does not end; the text is too short; the number has a needless byte -/
theorem front_none {h : Nat} {t : List Nat} {k : Nat} (hk : k = min t.length 9) (hc : ∀ x ∈ t.take k, 128 ≤ x) : ∀ f r, ¬ Front (h :: t) f r := fun f r hf => by
  obtain ⟨_, _, f0, hh, _⟩ := of_front hf
  rcases hh with ⟨_, n, _, hn⟩ | ⟨_, n, r', hn, _⟩
  · exact Fi.num_none k hk hc n r hn
  · exact Fi.num_none k hk hc n r' hn
theorem front_num {h : Nat} {p : List Nat} {b : Nat} {r : List Nat} {f : Fv} {rest : List Nat} (hp : ∀ y ∈ p, 128 ≤ y) (hb : b < 128) (hf : Front (h :: (p ++ b :: r)) f rest) :
    ∃ n, Fi.varint n = p ++ [b] ∧ n = Fi.val (p ++ [b]) ∧ (h % 2 = 1 → n ≤ r.length) := by
  obtain ⟨_, _, f0, hh, _⟩ := of_front hf
  rcases hh with ⟨h0, n, _, hn⟩ | ⟨h1, n, r', hn, _, hr, _⟩
  · obtain ⟨a, b', _⟩ := num_is hp hb hn.1
    exact ⟨n, a, b'.symm, fun h1 => by omega⟩
  · obtain ⟨a, b', c⟩ := num_is hp hb hn.1
    exact ⟨n, a, b'.symm, fun _ => by rw [c]; exact hr⟩
theorem front_short {h : Nat} {p : List Nat} {b : Nat} {r : List Nat} (hp : ∀ y ∈ p, 128 ≤ y) (hb : b < 128) (h1 : h % 2 = 1) (hn : r.length < Fi.val (p ++ [b])) : ∀ f rest, ¬ Front (h :: (p ++ b :: r)) f rest := fun f rest hf => by
  obtain ⟨n, _, e, hl⟩ := front_num hp hb hf
  have := hl h1
  omega
theorem front_needless {h : Nat} {p : List Nat} {b : Nat} {r : List Nat} (hp : ∀ y ∈ p, 128 ≤ y) (hb : b < 128) (hn : Fi.varint (Fi.val (p ++ [b])) ≠ p ++ [b]) : ∀ f rest, ¬ Front (h :: (p ++ b :: r)) f rest := fun f rest hf => by
  obtain ⟨n, e1, e, _⟩ := front_num hp hb hf
  rw [← e] at hn
  exact hn e1
end Go.Proofs.Ytpbobmhffdmmmaa
