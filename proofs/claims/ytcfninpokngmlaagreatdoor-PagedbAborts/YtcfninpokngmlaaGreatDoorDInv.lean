/- Proved: plain facts of what a database has on its disk and in its log, and of what is found behind a loss of power (stage 10). No program is named. -/
import Derived.Test.YtcfninpokngmlaaGreatDoorDCom
import Derived.Test.YtcfninpokngmlaaGreatDoorMathO
namespace Pd
open Wl
def KK (f : Nat → Bool) (s : Sc.St) : List ByteArray := Sc.keepI f s.pend 0 s.kept
theorem KK_nil {s : Sc.St} (h : s.pend = []) (f : Nat → Bool) : KK f s = s.kept := by unfold KK; rw [h]; rfl
theorem KK_length (f : Nat → Bool) (s : Sc.St) : (KK f s).length = s.kept.length := Sc.keepI_length _ _ _ _
/- the pages of a state: told by the log, or at their places -/
structure Fnd (ks : List ByteArray) (n cnt : Nat) (S : Ab) (m : Mp) : Prop where
  ok : S.Ok cnt
  room : n + 8 * cnt ≤ ks.length
  has : ∀ i, 1 ≤ i → i < S.pgs.length → get m i = some (S.sh i) ∨ (get m i = none ∧ plc ks n i = pageOf i (S.sh i))
  zero : get m 0 = some S.stt.sheet ∨ (get m 0 = none ∧ (plc ks n 0 = pageOf 0 S.stt.sheet ∨ (plc ks n 0 = Pg.blank ∧ S = Ab.init)))
theorem Fnd.move {ks ks' : List ByteArray} {n cnt : Nat} {S : Ab} {m : Mp} (h : Fnd ks n cnt S m) (hl : ks'.length = ks.length) (hp : ∀ i, get m i = none → plc ks' n i = plc ks n i) : Fnd ks' n cnt S m := by
  refine ⟨h.ok, by rw [hl]; exact h.room, fun i h1 h2 => ?_, ?_⟩
  · rcases h.has i h1 h2 with e | ⟨e, e2⟩
    · exact .inl e
    · exact .inr ⟨e, by rw [hp i e]; exact e2⟩
  · rcases h.zero with e | ⟨e, e2⟩
    · exact .inl e
    · exact .inr ⟨e, by rw [hp 0 e]; exact e2⟩
theorem Fnd.out {ks ks' : List ByteArray} {n cnt : Nat} {S : Ab} {m : Mp} (h : Fnd ks n cnt S m) (hl : ks'.length = ks.length) (ho : ∀ x, n ≤ x → ks'.getD x Sc.zero64 = ks.getD x Sc.zero64) : Fnd ks' n cnt S m :=
  h.move hl (fun _ _ => plc_same fun _ _ => ho _ (by omega))
theorem Fnd.kept {ks : List ByteArray} {n cnt : Nat} {S : Ab} {m : Mp} (h : Fnd ks n cnt S m) (hu : Up m) {l : List (Nat × ByteArray)} (hl : ∀ q ∈ l, q ∈ wrAll n m) (f : Nat → Bool) (k : Nat) : Fnd (Sc.keepI f l k ks) n cnt S m :=
  h.move (Sc.keepI_length _ _ _ _) (fun _ hi => keep_plc hl f k ks hi hu)
theorem Fnd.settled {ks : List ByteArray} {n cnt : Nat} {S : Ab} {m : Mp} (h : Fnd ks n cnt S m) (hu : Up m) (hf : Fine cnt m) (k : Nat) : Fnd (Sc.keepI (fun _ => true) (wrAll n m) k ks) n cnt S [] := by
  have hkey : ∀ i x, get m i = some x → plc (Sc.keepI (fun _ => true) (wrAll n m) k ks) n i = pageOf i x := fun i x e => by
    have hm := get_mem e
    have h1 := hf _ hm
    have h2 := h.room
    simp only at h1
    exact kept_plc hu ks hm h1.2 (by simp only; omega) k
  refine ⟨h.ok, by rw [Sc.keepI_length]; exact h.room, fun i h1 h2 => .inr ⟨rfl, ?_⟩, .inr ⟨rfl, ?_⟩⟩
  · rcases h.has i h1 h2 with e | ⟨e, e2⟩
    · exact hkey i _ e
    · rw [keep_plc (fun q hq => hq) _ k ks e hu]; exact e2
  · rcases h.zero with e | ⟨e, e2⟩
    · exact .inl (hkey 0 _ e)
    · rw [keep_plc (fun q hq => hq) _ k ks e hu]; exact e2
/- what a disk has -/
def Dsk (ks : List ByteArray) (n cnt K : Nat) (S : Ab) : Prop := ∃ e rs ms, e ≤ K ∧ Fit rs ∧ On ks 0 n e (frames rs) ∧ Recs n cnt rs ms ∧ Fnd ks n cnt S (mOf ms)
theorem Dsk.up {ks : List ByteArray} {n cnt K K' : Nat} {S : Ab} (h : Dsk ks n cnt K S) (hk : K ≤ K') : Dsk ks n cnt K' S := by
  obtain ⟨e, rs, ms, h1, h2⟩ := h
  exact ⟨e, rs, ms, by omega, h2⟩
/- a database between calls, on a disk that has power -/
structure Inv (K : Nat) (d : Db) (S : Ab) : Prop where
  down : d.s.down = false
  pend : d.s.pend = []
  sok : Sc.Ok d.s
  lost : d.lost = false
  llost : d.l.lost = false
  wait : d.l.wait = []
  base : d.l.base = 0
  ln : d.l.n = d.n
  lok : d.l.Ok
  on : On d.s.kept 0 d.n d.l.epoch d.l.bytes
  recs : ∃ ms, Recs d.n d.cnt d.l.recs ms ∧ d.m = mOf ms
  fnd : Fnd d.s.kept d.n d.cnt S d.m
  st : d.st = S.stt
  ep : d.l.epoch ≤ K
  dn : d.s.dn ≤ K
theorem Inv.dsk {K : Nat} {d : Db} {S : Ab} (h : Inv K d S) (f : Nat → Bool) : Dsk (KK f d.s) d.n d.cnt K S := by
  obtain ⟨ms, h1, h2⟩ := h.recs
  rw [KK_nil h.pend]
  exact ⟨d.l.epoch, d.l.recs, ms, h.ep, h.lok.is.2, by rw [← h.lok.is.1]; exact h.on, h1, by rw [← h2]; exact h.fnd⟩
theorem Inv.upm {K : Nat} {d : Db} {S : Ab} (h : Inv K d S) : Up d.m ∧ Fine d.cnt d.m ∧ d.m.length ≤ d.cnt := by
  obtain ⟨ms, h1, h2⟩ := h.recs
  have h3 := h1.m
  rw [← h2] at h3
  exact ⟨h3.1, h3.2, fine_length h3.1 h3.2⟩
theorem Inv.up {K K' : Nat} {d : Db} {S : Ab} (h : Inv K d S) (hk : K ≤ K') : Inv K' d S :=
  ⟨h.down, h.pend, h.sok, h.lost, h.llost, h.wait, h.base, h.ln, h.lok, h.on, h.recs, h.fnd, h.st, Nat.le_trans h.ep hk, Nat.le_trans h.dn hk⟩
theorem Inv.n2 {K : Nat} {d : Db} {S : Ab} (h : Inv K d S) : 2 ≤ d.n ∧ d.n ≤ 65536 ∧ d.cnt ≤ 1000 := by
  have h1 := h.lok.two
  have h2 := h.lok.most
  rw [h.ln] at h1 h2
  rw [h.base] at h2
  exact ⟨h1, by omega, h.fnd.ok.small⟩
/- what a call leaves: done, or the power went within it -/
structure Aft (K : Nat) (d d1 : Db) (e : Int) (was now : Ab) : Prop where
  n : d1.n = d.n
  cnt : d1.cnt = d.cnt
  len : d1.s.kept.length = d.s.kept.length
  dn : d1.s.dn ≤ K
  sok : Sc.Ok d1.s
  told : (e = 0 ∧ Inv K d1 now ∧ (d.s.left = -1 → d1.s.left = -1)) ∨ (e = 10 ∧ d.s.left ≠ -1 ∧ d1.s.down = true ∧ ∀ f, Dsk (KK f d1.s) d.n d.cnt K was ∨ Dsk (KK f d1.s) d.n d.cnt K now)
/- writes, until the power goes -/
theorem wrs_res : ∀ (l : List (Nat × ByteArray)) (s : Sc.St), s.down = false → (∀ p ∈ l, p.1 < s.kept.length ∧ p.2.size = 64) → ∃ k, (wrs l s).1.kept = s.kept ∧ (wrs l s).1.pend = s.pend ++ l.take k ∧ (wrs l s).1.dn ≤ s.dn + l.length ∧ (((wrs l s).2 = 0 ∧ (wrs l s).1.down = false ∧ k = l.length ∧ (s.left = -1 → (wrs l s).1.left = -1)) ∨ ((wrs l s).2 = 10 ∧ (wrs l s).1.down = true ∧ s.left ≠ -1))
  | [], s, hd, _ => ⟨0, rfl, by simp [wrs], Nat.le_refl _, .inl ⟨rfl, hd, rfl, fun h => h⟩⟩
  | p :: l, s, hd, hl => by
    obtain ⟨h1, h2⟩ := hl p List.mem_cons_self
    have hh : Sc.has s (p.1 : Int) = true := Sc.has_iff.2 ⟨by omega, by omega⟩
    have hdn : ¬ s.down = true := by rw [hd]; decide
    have hhn : ¬ Sc.has s (p.1 : Int) = false := by rw [hh]; decide
    have h64 : ¬ 64 < p.2.size := by omega
    rw [wrs_cons]
    by_cases h0 : s.left = 0
    · have e1 : Sc.writeE s (p.1 : Int) p.2 = 10 := by unfold Sc.writeE; rw [if_neg hdn, if_neg hhn, if_neg h64, if_pos h0]
      have e2 : Sc.writeS s (p.1 : Int) p.2 = Sc.fell s := by unfold Sc.writeS; rw [if_neg hdn, if_neg hhn, if_neg h64, if_pos h0]
      rw [e1, if_neg (by decide), e2]
      exact ⟨0, rfl, by simp [Sc.fell], by show s.dn ≤ _; omega, .inr ⟨rfl, rfl, by omega⟩⟩
    · have e1 : Sc.writeE s (p.1 : Int) p.2 = 0 := by unfold Sc.writeE; rw [if_neg hdn, if_neg hhn, if_neg h64, if_neg h0]
      have e2 : Sc.writeS s (p.1 : Int) p.2 = Sc.put s p.1 p.2 := by unfold Sc.writeS; rw [if_neg hdn, if_neg hhn, if_neg h64, if_neg h0]; rfl
      rw [e1, if_pos rfl, e2]
      have hleft : (Sc.put s p.1 p.2).left = if 0 < s.left then s.left - 1 else s.left := rfl
      obtain ⟨k, a1, a2, a3, a4⟩ := wrs_res l (Sc.put s p.1 p.2) hd (fun q hq => hl q (List.mem_cons_of_mem _ hq))
      refine ⟨k + 1, a1, ?_, by rw [List.length_cons]; have : (Sc.put s p.1 p.2).dn = s.dn + 1 := rfl; omega, ?_⟩
      · rw [a2]
        show s.pend ++ [(p.1, Sc.fill p.2)] ++ l.take k = s.pend ++ (p :: l).take (k + 1)
        rw [fill_64 h2, List.append_assoc]
        rfl
      · rcases a4 with ⟨b1, b2, b3, b4⟩ | ⟨b1, b2, b3⟩
        · exact .inl ⟨b1, b2, by rw [b3, List.length_cons], fun h => b4 (by rw [hleft, if_neg (by omega)]; exact h)⟩
        · exact .inr ⟨b1, b2, fun h => b3 (by rw [hleft, if_neg (by omega)]; exact h)⟩
/- the log's first sector, written and flushed -/
theorem mark_res (s : Sc.St) (base e l : Nat) (hp : s.pend = []) : (markS s base e l).dn ≤ s.dn + 2 ∧ (∀ f x, x ≠ base → (KK f (markS s base e l)).getD x Sc.zero64 = s.kept.getD x Sc.zero64) ∧ (markE s base e l = 10 → s.left ≠ -1) ∧ (s.left = -1 → (markS s base e l).left = -1) := by
  have hone : ∀ (f : Nat → Bool) (y : ByteArray) x, x ≠ base → (Sc.keepI f [(base, y)] 0 s.kept).getD x Sc.zero64 = s.kept.getD x Sc.zero64 := fun f y x hx => by
    rw [List.getD_eq_getElem?_getD, Sc.keepI_apart f x _ _ _ (fun q hq => by rw [List.mem_singleton.1 hq]; exact fun h => hx h.symm), ← List.getD_eq_getElem?_getD]
  have hpend : (Sc.put s base (head20 e l)).pend = [(base, Sc.fill (head20 e l))] := by
    show s.pend ++ [(base, Sc.fill (head20 e l))] = _
    rw [hp]
    rfl
  have hleft : (Sc.put s base (head20 e l)).left = if 0 < s.left then s.left - 1 else s.left := rfl
  unfold markS markE
  by_cases h0 : s.left = 0
  · rw [if_pos h0, if_pos h0]
    refine ⟨by show s.dn ≤ _; omega, fun f x hx => ?_, fun _ => by omega, fun h => h⟩
    show (Sc.keepI f s.pend 0 s.kept).getD x _ = _
    rw [hp]
    rfl
  · rw [if_neg h0, if_neg h0]
    by_cases h1 : (Sc.put s base (head20 e l)).left = 0
    · rw [if_pos h1, if_pos h1]
      refine ⟨by show s.dn + 1 ≤ _; omega, fun f x hx => ?_, fun _ => by rw [hleft] at h1; split at h1 <;> omega, fun h => by rw [hleft, if_neg (by omega)] at h1; omega⟩
      show (Sc.keepI f (Sc.put s base (head20 e l)).pend 0 s.kept).getD x _ = _
      rw [hpend]
      exact hone f _ x hx
    · rw [if_neg h1, if_neg h1]
      refine ⟨by show s.dn + 1 + 1 ≤ _; omega, fun f x hx => ?_, fun h => absurd h (by decide), fun h => ?_⟩
      · show (Sc.keepI f [] 0 (Sc.keepI (fun _ => true) (Sc.put s base (head20 e l)).pend 0 s.kept)).getD x _ = _
        rw [hpend]
        exact hone (fun _ => true) _ x hx
      · show (if 0 < (Sc.put s base (head20 e l)).left then _ else _) = _
        rw [hleft, if_neg (by omega : ¬ 0 < s.left), if_neg (by omega)]
        exact h
/- a sync, base 0 -/
theorem putsN_left1 {s : Sc.St} (h : s.left = -1) (base : Nat) (al : List UInt8) (k j : Nat) : (putsN s base al k j).left = -1 := by
  show (if 0 < s.left then s.left - j else s.left) = -1
  rw [if_neg (by omega)]; exact h
theorem sync_more (s : Sc.St) (n e : Nat) (b al : ByteArray) (hp : s.pend = []) (hn : 2 ≤ n) (hr : al.size ≤ 64 * (n - 1)) : (syncS s 0 e b al).dn ≤ s.dn + n + 4 ∧ (∀ f x, n ≤ x → (KK f (syncS s 0 e b al)).getD x Sc.zero64 = s.kept.getD x Sc.zero64) ∧ (syncE s 0 e b al = 10 → s.left ≠ -1) ∧ (s.left = -1 → (syncS s 0 e b al).left = -1) := by
  have hm : many b.size al.size ≤ n := by unfold many; omega
  have hm2 : b.size / 64 + many b.size al.size ≤ n - 1 ∨ many b.size al.size = 0 := by unfold many; omega
  have hparts : ∀ (f : Nat → Bool) (j x : Nat), j ≤ many b.size al.size → n ≤ x → (Sc.keepI f (s.pend ++ parts 0 al.data.toList (b.size / 64) j) 0 s.kept).getD x Sc.zero64 = s.kept.getD x Sc.zero64 := fun f j x hj hx => by
    rw [hp, List.nil_append, List.getD_eq_getElem?_getD, Sc.keepI_apart f x _ _ _ (fun q hq => ?_), ← List.getD_eq_getElem?_getD]
    obtain ⟨i, hi, rfl⟩ := List.mem_map.1 hq
    have := List.mem_range.1 hi
    simp only
    omega
  unfold syncS syncE
  by_cases h1 : 0 ≤ s.left ∧ s.left < (many b.size al.size : Int)
  · rw [if_pos h1, if_pos h1]
    refine ⟨?_, fun f x hx => hparts f _ x (by omega) hx, fun _ => by omega, fun h => by omega⟩
    show s.dn + s.left.toNat ≤ _
    omega
  · rw [if_neg h1, if_neg h1]
    by_cases h2 : (putsN s 0 al.data.toList (b.size / 64) (many b.size al.size)).left = 0
    · rw [if_pos h2, if_pos h2]
      refine ⟨by show s.dn + many b.size al.size ≤ _; omega, fun f x hx => hparts f _ x (Nat.le_refl _) hx, fun _ h => ?_, fun h => ?_⟩
      · rw [putsN_left1 h] at h2; omega
      · rw [putsN_left1 h] at h2; omega
    · rw [if_neg h2, if_neg h2]
      obtain ⟨a1, a2, a3, a4⟩ := mark_res (Sc.flushed (putsN s 0 al.data.toList (b.size / 64) (many b.size al.size))) 0 e al.size rfl
      have hl : s.left = -1 → (Sc.flushed (putsN s 0 al.data.toList (b.size / 64) (many b.size al.size))).left = -1 := fun h => by
        show (if 0 < (putsN s 0 al.data.toList (b.size / 64) (many b.size al.size)).left then _ else _) = _
        rw [putsN_left1 h]
        rfl
      refine ⟨Nat.le_trans a1 (by show s.dn + many b.size al.size + 1 + 2 ≤ _; omega), fun f x hx => ?_, fun h h' => a3 h (hl h'), fun h => a4 (hl h)⟩
      rw [a2 f x (by omega)]
      exact hparts _ _ x (Nat.le_refl _) hx
end Pd
