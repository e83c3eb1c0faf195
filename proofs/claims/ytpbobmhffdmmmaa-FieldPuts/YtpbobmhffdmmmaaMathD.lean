/- Proved: plain facts on records: bytes have one record at most; what stands at the front of bytes decides; tags that do not fall. -/
import Derived.Test.YtpbobmhffdmmmaaIter
namespace Go.Proofs.Ytpbobmhffdmmmaa
open Go.RowKit
/- the record that has the bytes -/
structure Dec (bs : List Nat) (l : List Fv) : Prop where
  len : bs.length ≤ 65536
  good : ∀ f ∈ l, Good f
  up : Fi.Up (l.map fd)
  eq : enc l = bs
theorem fd_inj {f g : Fv} (hf : Good f) (hg : Good g) (h : fd f = fd g) : f = g := by
  obtain ⟨ft, fk, fn, fs⟩ := f
  obtain ⟨gt, gk, gn, gs⟩ := g
  have h1 := hf.tag1; have h2 := hg.tag1; have h3 := hf.kind; have h4 := hg.kind
  simp only [fd, Fi.Fd.mk.injEq] at h h1 h2 h3 h4
  obtain ⟨a, b, c, d⟩ := h
  have e1 : ft = gt := by omega
  have e2 : fk = gk := by omega
  have e3 : fn = gn := by omega
  rw [e1, e2, e3, bl_inj d]
theorem enc_cons (f : Fv) (l : List Fv) : enc (f :: l) = Fi.fb (fd f) ++ enc l := by simp [enc, Fi.enc]
theorem enc_app (a b : List Fv) : enc (a ++ b) = enc a ++ enc b := by simp [enc, Fi.enc]
theorem enc_pre : ∀ (p l : List Fv) (r : List Nat), (∀ f ∈ p, Good f) → (∀ f ∈ l, Good f) → enc l = enc p ++ r → ∃ l', l = p ++ l' ∧ enc l' = r
  | [], l, r, _, _, e => ⟨l, rfl, e⟩
  | f :: p, [], r, _, _, e => by
    rw [enc_cons] at e
    have h1 := congrArg List.length e
    have h2 := @Fi.fb_two (fd f)
    simp [enc, Fi.enc] at h1
    omega
  | f :: p, g :: l, r, hp, hl, e => by
    rw [enc_cons, enc_cons, List.append_assoc] at e
    obtain ⟨e1, e2⟩ := Fi.fb_inj (hl g List.mem_cons_self).ok (hp f List.mem_cons_self).ok e
    obtain ⟨l', h1, h2⟩ := enc_pre p l r (fun x hx => hp x (List.mem_cons_of_mem _ hx)) (fun x hx => hl x (List.mem_cons_of_mem _ hx)) e2
    exact ⟨l', by rw [fd_inj (hl g List.mem_cons_self) (hp f List.mem_cons_self) e1, h1]; rfl, h2⟩
theorem enc_nil_of {l : List Fv} (h : enc l = []) : l = [] := by
  cases l with
  | nil => rfl
  | cons f l =>
    rw [enc_cons] at h
    have h1 := congrArg List.length h
    have h2 := @Fi.fb_two (fd f)
    rw [List.length_append, List.length_nil] at h1
    omega
theorem enc_one {a b : List Fv} (ha : ∀ f ∈ a, Good f) (hb : ∀ f ∈ b, Good f) (h : enc a = enc b) : a = b := by
  obtain ⟨l', h1, h2⟩ := enc_pre b a [] hb ha (by rw [List.append_nil]; exact h)
  rw [enc_nil_of h2, List.append_nil] at h1
  exact h1
theorem Dec.one {bs : List Nat} {a b : List Fv} (ha : Dec bs a) (hb : Dec bs b) : a = b := enc_one ha.good hb.good (ha.eq.trans hb.eq.symm)
theorem enc_len (l : List Fv) : 2 * l.length ≤ (enc l).length := by
  induction l with
  | nil => simp
  | cons f l ih =>
    have h2 := @Fi.fb_two (fd f)
    rw [enc_cons, List.length_append, List.length_cons]
    omega
theorem up_left : ∀ (a b : List Fi.Fd), Fi.Up (a ++ b) → Fi.Up a
  | [], _, _ => trivial
  | [_], _, _ => trivial
  | _ :: y :: a, b, h => ⟨h.1, up_left (y :: a) b h.2⟩
def lastTag (l : List Fv) : Int := match l.getLast? with | some f => f.tag | none => 0
theorem lastTag_snoc (l : List Fv) (f : Fv) : lastTag (l ++ [f]) = f.tag := by simp [lastTag]
theorem up_snoc : ∀ (l : List Fv) (f : Fv), (∀ x ∈ l, Good x) → Good f → (Fi.Up ((l ++ [f]).map fd) ↔ Fi.Up (l.map fd) ∧ lastTag l ≤ f.tag)
  | [], f, _, hf => by
    have := hf.tag1
    refine ⟨fun _ => ⟨trivial, ?_⟩, fun _ => trivial⟩
    show (0 : Int) ≤ f.tag
    omega
  | [x], f, hl, hf => by
    have h1 := hf.tag1
    have h2 := (hl x List.mem_cons_self).tag1
    show (x.tag.toNat ≤ f.tag.toNat ∧ True) ↔ True ∧ x.tag ≤ f.tag
    constructor
    · rintro ⟨h, _⟩; exact ⟨trivial, by omega⟩
    · rintro ⟨_, h⟩; exact ⟨by omega, trivial⟩
  | x :: y :: l, f, hl, hf => by
    have ih := up_snoc (y :: l) f (fun z hz => hl z (List.mem_cons_of_mem _ hz)) hf
    have e : lastTag (x :: y :: l) = lastTag (y :: l) := by simp [lastTag]
    rw [e]
    show (x.tag.toNat ≤ y.tag.toNat ∧ Fi.Up (((y :: l) ++ [f]).map fd)) ↔ (x.tag.toNat ≤ y.tag.toNat ∧ Fi.Up ((y :: l).map fd)) ∧ _
    rw [ih, and_assoc]
theorem dec_falls {bs : List Nat} {pre : List Fv} {f : Fv} {rest : List Nat} (h : Read bs (pre ++ [f]) rest) (ht : f.tag < lastTag pre) : ∀ l, ¬ Dec bs l := fun l hd => by
  obtain ⟨l', e, _⟩ := enc_pre (pre ++ [f]) l rest h.1 hd.good (hd.eq.trans h.2)
  have hu := hd.up
  rw [e, List.map_append] at hu
  have := ((up_snoc pre f (fun x hx => h.1 x (List.mem_append_left _ hx)) (h.1 f (List.mem_append_right _ List.mem_cons_self))).1 (up_left _ _ hu)).2
  omega
theorem dec_stuck {bs : List Nat} {pre : List Fv} {rest : List Nat} (h : Read bs pre rest) (hr : rest ≠ []) (hF : ∀ f r, ¬ Front rest f r) : ∀ l, ¬ Dec bs l := fun l hd => by
  obtain ⟨l', e, e2⟩ := enc_pre pre l rest h.1 hd.good (hd.eq.trans h.2)
  cases l' with
  | nil => exact hr (e2.symm.trans rfl)
  | cons f l' =>
    exact hF f (enc l') ⟨hd.good f (by rw [e]; exact List.mem_append_right _ List.mem_cons_self), by rw [← e2, enc_cons]⟩
end Go.Proofs.Ytpbobmhffdmmmaa
