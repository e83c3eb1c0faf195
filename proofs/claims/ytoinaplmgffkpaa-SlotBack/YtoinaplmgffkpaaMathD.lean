/- Proved: plain: how a node is read from the front of its bytes; reading undoes writing, and what is cut or longer is none (stage 11). -/
import Derived.Test.YtoinaplmgffkpaaEncB
namespace Go.Proofs.Ytoinaplmgffkpaa
open Go.RowKit
open Sl (Cel Nod)
structure In where
  l : List Nat
  bad : Bool
def cutF (s : In) (n : Nat) : Bool := s.bad || decide (s.l.length < n)
def cutV (s : In) (n : Nat) : List Nat := if cutF s n then [] else s.l.take n
def cutS (s : In) (n : Nat) : In := if cutF s n then ⟨s.l, true⟩ else ⟨s.l.drop n, s.bad⟩
def le : List Nat → Nat
  | [] => 0
  | b :: l => b + 256 * le l
def numV (s : In) (n : Nat) : Nat := le (cutV s n)
def txtV (s : In) : List Nat := cutV (cutS s 1) (numV s 1)
def txtS (s : In) : In := cutS (cutS s 1) (numV s 1)
def celM (s : In) : Nat := numV (txtS s) 1
def celT (s : In) : In := cutS (txtS s) 1
def celV (s : In) : Cel := ⟨tb (txtV s), if celM s = 0 then tb (txtV (celT s)) else ⟨#[]⟩, if celM s = 1 then (numV (cutS (celT s) 4) 4 : Int) else 0, if celM s = 1 then (numV (celT s) 4 : Int) else 0⟩
def celE (s : In) : In := cutS (cutS (celT s) 4) 4
def celS (s : In) : In := if celM s = 0 then txtS (celT s) else if celM s = 1 then ⟨(celE s).l, (celE s).bad || decide (numV (cutS (celT s) 4) 4 = 0)⟩ else ⟨(celT s).l, true⟩
def celsS : Nat → In → In
  | 0, s => s
  | k + 1, s => celS (celsS k s)
def celsV : Nat → In → List Cel
  | 0, _ => []
  | k + 1, s => celsV k s ++ [celV (celsS k s)]
def brS : Nat → In → In
  | 0, s => s
  | k + 1, s => cutS (txtS (brS k s)) 4
def brK : Nat → In → List ByteArray
  | 0, _ => []
  | k + 1, s => brK k s ++ [tb (txtV (brS k s))]
def brD : Nat → In → List Int
  | 0, _ => []
  | k + 1, s => brD k s ++ [(numV (txtS (brS k s)) 4 : Int)]
def lfV (s : In) : Nod := ⟨true, celsV (numV s 1) (cutS s 1), [], []⟩
def lfS (s : In) : In := celsS (numV s 1) (cutS s 1)
def bnV (s : In) : Nod := ⟨false, [], brK (numV s 1) (cutS (cutS s 1) 4), [(numV (cutS s 1) 4 : Int)] ++ brD (numV s 1) (cutS (cutS s 1) 4)⟩
def bnS (s : In) : In := brS (numV s 1) (cutS (cutS s 1) 4)
def ndV (s : In) : Nod := if numV s 1 = 1 then lfV (cutS s 1) else if numV s 1 = 2 then bnV (cutS s 1) else Sl.nod0
def ndS (s : In) : In := if numV s 1 = 1 then lfS (cutS s 1) else if numV s 1 = 2 then bnS (cutS s 1) else cutS s 1
def decOk (s : In) : Bool := !(ndS s).bad && (decide ((ndS s).l = []) && Sl.may (ndV s))
def decN (s : In) : Nod := if decOk s then ndV s else Sl.nod0
def decE (s : In) : Int := if decOk s then 0 else 5
/- lengths and sizes -/
theorem cutS_len (s : In) (n : Nat) : (cutS s n).l.length ≤ s.l.length := by
  unfold cutS
  split
  · exact Nat.le_refl _
  · show (s.l.drop n).length ≤ _
    rw [List.length_drop]; omega
theorem cutS_mem {s : In} {n x : Nat} (h : x ∈ (cutS s n).l) : x ∈ s.l := by
  unfold cutS at h
  split at h
  · exact h
  · exact List.mem_of_mem_drop h
theorem cutV_len (s : In) (n : Nat) : (cutV s n).length ≤ n ∧ (cutV s n).length ≤ s.l.length := by
  unfold cutV
  split
  · exact ⟨Nat.zero_le _, Nat.zero_le _⟩
  · rw [List.length_take]; omega
theorem cutV_mem {s : In} {n x : Nat} (h : x ∈ cutV s n) : x ∈ s.l := by
  unfold cutV at h
  split at h
  · cases h
  · exact List.mem_of_mem_take h
theorem le_lt : ∀ (l : List Nat), (∀ x ∈ l, x < 256) → le l < 256 ^ l.length
  | [], _ => by simp [le]
  | b :: l, h => by
    have h1 := h b (by simp)
    have h2 := le_lt l (fun x hx => h x (by simp [hx]))
    rw [le, List.length_cons, Nat.pow_succ]
    omega
theorem le_snoc (b : Nat) : ∀ (l : List Nat), le (l ++ [b]) = le l + 256 ^ l.length * b
  | [] => by simp [le]
  | a :: l => by
    rw [List.cons_append, le, le_snoc b l, le, List.length_cons, Nat.pow_succ, Nat.mul_add, ← Nat.add_assoc, ← Nat.mul_assoc, Nat.mul_comm 256 (256 ^ l.length)]
structure Ok8 (s : In) : Prop where
  b : ∀ x ∈ s.l, x < 256
  n : s.l.length ≤ 1000
theorem Ok8.cut {s : In} (h : Ok8 s) (n : Nat) : Ok8 (cutS s n) := ⟨fun x hx => h.b x (cutS_mem hx), Nat.le_trans (cutS_len s n) h.n⟩
theorem Ok8.num {s : In} (h : Ok8 s) (n : Nat) : numV s n < 256 ^ n := by
  unfold numV
  have h1 := le_lt (cutV s n) (fun x hx => h.b x (cutV_mem hx))
  exact Nat.lt_of_lt_of_le h1 (Nat.pow_le_pow_right (by omega) (cutV_len s n).1)
theorem Ok8.txt {s : In} (h : Ok8 s) : Ok8 (txtS s) := (h.cut 1).cut _
theorem Ok8.celT {s : In} (h : Ok8 s) : Ok8 (celT s) := h.txt.cut 1
theorem Ok8.cel {s : In} (h : Ok8 s) : Ok8 (celS s) := by
  unfold celS
  split
  · exact h.celT.txt
  · split
    · exact ⟨((h.celT.cut 4).cut 4).b, ((h.celT.cut 4).cut 4).n⟩
    · exact ⟨h.celT.b, h.celT.n⟩
theorem Ok8.cels {s : In} (h : Ok8 s) : ∀ k, Ok8 (celsS k s)
  | 0 => h
  | k + 1 => (h.cels k).cel
theorem Ok8.br {s : In} (h : Ok8 s) : ∀ k, Ok8 (brS k s)
  | 0 => h
  | k + 1 => ((h.br k).txt).cut 4
theorem celsV_len (s : In) : ∀ k, (celsV k s).length = k
  | 0 => rfl
  | k + 1 => by rw [celsV, List.length_append, celsV_len s k]; rfl
theorem brK_len (s : In) : ∀ k, (brK k s).length = k
  | 0 => rfl
  | k + 1 => by rw [brK, List.length_append, brK_len s k]; rfl
theorem brD_len (s : In) : ∀ k, (brD k s).length = k
  | 0 => rfl
  | k + 1 => by rw [brD, List.length_append, brD_len s k]; rfl
theorem txtV_len {s : In} (h : Ok8 s) : (txtV s).length ≤ 255 := by
  have h1 := (cutV_len (cutS s 1) (numV s 1)).1
  have h2 := h.num 1
  unfold txtV
  omega
/- what has no fault has none behind more bytes: the same is read, and the rest is longer -/
def ext (s : In) (u : List Nat) : In := ⟨s.l ++ u, s.bad⟩
theorem cut_bad {s : In} {n : Nat} (h : (cutS s n).bad = false) : cutF s n = false ∧ s.bad = false := by
  unfold cutS at h
  cases hf : cutF s n with
  | true => rw [hf] at h; cases h
  | false => rw [hf] at h; exact ⟨rfl, h⟩
theorem cut_ext {s : In} {n : Nat} (u : List Nat) (h : (cutS s n).bad = false) : cutV (ext s u) n = cutV s n ∧ cutS (ext s u) n = ext (cutS s n) u := by
  obtain ⟨hf, hb⟩ := cut_bad h
  have hl : n ≤ s.l.length := by
    unfold cutF at hf
    rw [hb] at hf
    simpa using hf
  have hf2 : cutF (ext s u) n = false := by
    unfold cutF ext
    rw [hb]
    simp; omega
  unfold cutV cutS
  rw [hf, hf2]
  simp only [Bool.false_eq_true, if_false, ext]
  rw [List.take_append_of_le_length hl, List.drop_append_of_le_length hl]
  exact ⟨rfl, rfl⟩
theorem num_ext {s : In} {n : Nat} (u : List Nat) (h : (cutS s n).bad = false) : numV (ext s u) n = numV s n := by
  unfold numV
  rw [(cut_ext u h).1]
theorem txt_bad {s : In} (h : (txtS s).bad = false) : (cutS s 1).bad = false := (cut_bad h).2
theorem txt_ext {s : In} (u : List Nat) (h : (txtS s).bad = false) : txtV (ext s u) = txtV s ∧ txtS (ext s u) = ext (txtS s) u := by
  have h1 := txt_bad h
  unfold txtV txtS
  rw [num_ext u h1, (cut_ext u h1).2]
  exact cut_ext u h
theorem celT_bad {s : In} (h : (celT s).bad = false) : (txtS s).bad = false := (cut_bad h).2
theorem cel_bad {s : In} (h : (celS s).bad = false) : (celT s).bad = false := by
  unfold celS at h
  split at h
  · exact (cut_bad (txt_bad h)).2
  · split at h
    · have h' : ((celE s).bad || decide (numV (cutS (celT s) 4) 4 = 0)) = false := h
      rw [Bool.or_eq_false_iff] at h'
      exact (cut_bad (cut_bad h'.1).2).2
    · cases h
theorem celT_ext {s : In} (u : List Nat) (h : (celT s).bad = false) : celT (ext s u) = ext (celT s) u ∧ celM (ext s u) = celM s ∧ txtV (ext s u) = txtV s := by
  have h1 := celT_bad h
  have h2 := txt_ext u h1
  unfold celT celM
  rw [h2.2]
  exact ⟨(cut_ext u h).2, num_ext u h, h2.1⟩
theorem cel_ext {s : In} (u : List Nat) (h : (celS s).bad = false) : celV (ext s u) = celV s ∧ celS (ext s u) = ext (celS s) u := by
  have hT := cel_bad h
  obtain ⟨e1, e2, e3⟩ := celT_ext u hT
  unfold celS at h ⊢
  unfold celV celE
  rw [e1, e2, e3]
  by_cases m0 : celM s = 0
  · rw [if_pos m0] at h
    simp only [m0, if_true]
    obtain ⟨t1, t2⟩ := txt_ext u h
    rw [t1, t2]
    exact ⟨rfl, rfl⟩
  · rw [if_neg m0] at h
    simp only [m0, if_false]
    by_cases m1 : celM s = 1
    · rw [if_pos m1] at h
      simp only [m1, if_true]
      have h' : ((celE s).bad || decide (numV (cutS (celT s) 4) 4 = 0)) = false := h
      rw [Bool.or_eq_false_iff] at h'
      have hb : (cutS (cutS (celT s) 4) 4).bad = false := h'.1
      have h4 := (cut_bad hb).2
      rw [num_ext u h4, (cut_ext u h4).2, num_ext u hb, (cut_ext u hb).2]
      exact ⟨rfl, rfl⟩
    · rw [if_neg m1] at h
      cases h
theorem cels_ext {s : In} (u : List Nat) : ∀ k, (celsS k s).bad = false → s.bad = false ∧ celsV k (ext s u) = celsV k s ∧ celsS k (ext s u) = ext (celsS k s) u
  | 0, h => ⟨h, rfl, rfl⟩
  | k + 1, h => by
    have h1 := (cut_bad (celT_bad (cel_bad h))).2
    obtain ⟨h0, h2, h3⟩ := cels_ext u k (cut_bad (txt_bad (celT_bad (cel_bad h)))).2
    rw [celsV, celsS, celsV, celsS, h2, h3, (cel_ext u h).1, (cel_ext u h).2]
    exact ⟨h0, rfl, rfl⟩
theorem br_ext {s : In} (u : List Nat) : ∀ k, (brS k s).bad = false → s.bad = false ∧ brK k (ext s u) = brK k s ∧ brD k (ext s u) = brD k s ∧ brS k (ext s u) = ext (brS k s) u
  | 0, h => ⟨h, rfl, rfl, rfl⟩
  | k + 1, h => by
    have h1 : (txtS (brS k s)).bad = false := (cut_bad h).2
    obtain ⟨h0, h2, h3, h4⟩ := br_ext u k (cut_bad (txt_bad h1)).2
    have h5 : (cutS (txtS (brS k s)) 4).bad = false := h
    rw [brK, brD, brS, brK, brD, brS, h2, h3, h4, (txt_ext u h1).1, (txt_ext u h1).2, num_ext u h5, (cut_ext u h5).2]
    exact ⟨h0, rfl, rfl, rfl⟩
theorem lf_ext {s : In} (u : List Nat) (h : (lfS s).bad = false) : (cutS s 1).bad = false ∧ lfV (ext s u) = lfV s ∧ lfS (ext s u) = ext (lfS s) u := by
  obtain ⟨h0, _, _⟩ := cels_ext (s := cutS s 1) [] (numV s 1) h
  obtain ⟨_, h2, h3⟩ := cels_ext (s := cutS s 1) u (numV s 1) h
  unfold lfV lfS
  rw [num_ext u h0, (cut_ext u h0).2, h2, h3]
  exact ⟨h0, rfl, rfl⟩
theorem bn_ext {s : In} (u : List Nat) (h : (bnS s).bad = false) : (cutS s 1).bad = false ∧ bnV (ext s u) = bnV s ∧ bnS (ext s u) = ext (bnS s) u := by
  obtain ⟨h0, h2, h3, h4⟩ := br_ext (s := cutS (cutS s 1) 4) u (numV s 1) h
  have h1 := (cut_bad h0).2
  unfold bnV bnS
  rw [num_ext u h1, (cut_ext u h1).2, num_ext u h0, (cut_ext u h0).2, h2, h3, h4]
  exact ⟨h1, rfl, rfl⟩
theorem nd_ext {s : In} (u : List Nat) (h : (ndS s).bad = false) : ndV (ext s u) = ndV s ∧ ndS (ext s u) = ext (ndS s) u := by
  have h0 : (cutS s 1).bad = false := by
    unfold ndS at h
    split at h
    · exact (cut_bad (lf_ext [] h).1).2
    · split at h
      · exact (cut_bad (bn_ext [] h).1).2
      · exact h
  unfold ndV ndS at *
  rw [num_ext u h0, (cut_ext u h0).2]
  split
  · rename_i h1
    rw [if_pos h1] at h
    exact (lf_ext u h).2
  · rename_i h1
    rw [if_neg h1] at h
    split
    · rename_i h2
      rw [if_pos h2] at h
      exact (bn_ext u h).2
    · exact ⟨rfl, rfl⟩
/- reading undoes writing -/
theorem cut_at_ (a u : List Nat) (n : Nat) (h : a.length = n) : cutV ⟨a ++ u, false⟩ n = a ∧ cutS ⟨a ++ u, false⟩ n = ⟨u, false⟩ := by
  subst h
  have hf : cutF ⟨a ++ u, false⟩ a.length = false := by unfold cutF; simp
  unfold cutV cutS
  rw [hf]
  simp
theorem le_four (x : Nat) : ∀ k, le (four x k) = x % 256 ^ k
  | 0 => by rw [Nat.pow_zero, Nat.mod_one]; rfl
  | k + 1 => by
    rw [four, le_snoc, four_length, le_four x k, Nat.pow_succ, Nat.mod_mul]
theorem one_at (b : Nat) (u : List Nat) : numV ⟨b :: u, false⟩ 1 = b ∧ cutS ⟨b :: u, false⟩ 1 = ⟨u, false⟩ := by
  have h := cut_at_ [b] u 1 rfl
  rw [List.singleton_append] at h
  unfold numV
  rw [h.1, h.2]
  exact ⟨by simp [le], rfl⟩
theorem four_at (x : Nat) (u : List Nat) (hx : x < 4294967296) : numV ⟨four x 4 ++ u, false⟩ 4 = x ∧ cutS ⟨four x 4 ++ u, false⟩ 4 = ⟨u, false⟩ := by
  have h := cut_at_ (four x 4) u 4 (four_length x 4)
  unfold numV
  rw [h.1, h.2, le_four]
  exact ⟨Nat.mod_eq_of_lt hx, rfl⟩
theorem txt_at (k : ByteArray) (u : List Nat) : txtV ⟨tx k ++ u, false⟩ = bl k ∧ txtS ⟨tx k ++ u, false⟩ = ⟨u, false⟩ := by
  have h1 := one_at k.size (bl k ++ u)
  have e : tx k ++ u = k.size :: (bl k ++ u) := rfl
  unfold txtV txtS
  rw [e, h1.1, h1.2]
  exact cut_at_ (bl k) u k.size (bl_length k)
theorem cel_at {c : Cel} (h : celOk c = true) (u : List Nat) : celV ⟨cbytes c ++ u, false⟩ = c ∧ celS ⟨cbytes c ++ u, false⟩ = ⟨u, false⟩ := by
  unfold cbytes
  by_cases h0 : c.over = 0
  · rw [if_pos h0]
    have hp := celOk_plain h h0
    have e : tx c.key ++ (0 :: tx c.val) ++ u = tx c.key ++ (0 :: (tx c.val ++ u)) := by simp
    rw [e]
    have t1 := txt_at c.key (0 :: (tx c.val ++ u))
    have t2 := one_at 0 (tx c.val ++ u)
    have t3 := txt_at c.val u
    have hM : celM ⟨tx c.key ++ (0 :: (tx c.val ++ u)), false⟩ = 0 := by unfold celM; rw [t1.2, t2.1]
    have hT : celT ⟨tx c.key ++ (0 :: (tx c.val ++ u)), false⟩ = ⟨tx c.val ++ u, false⟩ := by unfold celT; rw [t1.2, t2.2]
    unfold celV celS
    rw [hM, hT, t1.1, t3.1, t3.2, if_pos rfl, if_pos rfl, tb_bl, tb_bl]
    refine ⟨?_, rfl⟩
    obtain ⟨ck, cx, co, cl⟩ := c
    simp only at h0 hp
    obtain ⟨_, _, _, _, rfl⟩ := hp
    subst h0
    rfl
  · rw [if_neg h0]
    have hp := celOk_over h h0
    have e : tx c.key ++ (1 :: (four c.len.toNat 4 ++ four c.over.toNat 4)) ++ u = tx c.key ++ (1 :: (four c.len.toNat 4 ++ (four c.over.toNat 4 ++ u))) := by simp
    rw [e]
    have t1 := txt_at c.key (1 :: (four c.len.toNat 4 ++ (four c.over.toNat 4 ++ u)))
    have t2 := one_at 1 (four c.len.toNat 4 ++ (four c.over.toNat 4 ++ u))
    have t3 := four_at c.len.toNat (four c.over.toNat 4 ++ u) (by omega)
    have t4 := four_at c.over.toNat u (by omega)
    have hM : celM ⟨tx c.key ++ (1 :: (four c.len.toNat 4 ++ (four c.over.toNat 4 ++ u))), false⟩ = 1 := by unfold celM; rw [t1.2, t2.1]
    have hT : celT ⟨tx c.key ++ (1 :: (four c.len.toNat 4 ++ (four c.over.toNat 4 ++ u))), false⟩ = ⟨four c.len.toNat 4 ++ (four c.over.toNat 4 ++ u), false⟩ := by unfold celT; rw [t1.2, t2.2]
    unfold celV celS celE
    rw [hM, hT, t1.1, t3.1, t3.2, t4.1, t4.2, if_neg (by omega), if_pos rfl, if_pos rfl, if_neg (by omega), if_pos rfl, tb_bl]
    refine ⟨?_, ?_⟩
    · obtain ⟨ck, cx, co, cl⟩ := c
      simp only at h0 hp ⊢
      obtain ⟨_, _, h3, _, h5, _, rfl⟩ := hp
      rw [Int.toNat_of_nonneg (by omega), Int.toNat_of_nonneg h5]
      rfl
    · rw [decide_eq_false (by omega)]
      rfl
theorem cels_at {cs : List Cel} (h : ∀ c ∈ cs, celOk c = true) : ∀ (k : Nat) (u : List Nat), k ≤ cs.length → celsV k ⟨(cs.take k).flatMap cbytes ++ u, false⟩ = cs.take k ∧ celsS k ⟨(cs.take k).flatMap cbytes ++ u, false⟩ = ⟨u, false⟩
  | 0, u, _ => ⟨rfl, rfl⟩
  | k + 1, u, hk => by
    have hlt : k < cs.length := by omega
    rw [flat_take cs k hlt, List.append_assoc]
    obtain ⟨i1, i2⟩ := cels_at h k (cbytes (cs.getD k Sl.cel0) ++ u) (by omega)
    obtain ⟨c1, c2⟩ := cel_at (h _ (Sl.getD_mem cs k Sl.cel0 hlt)) u
    rw [celsV, celsS, i1, i2, c1, c2, Sl.take_more cs k Sl.cel0 hlt]
    exact ⟨rfl, rfl⟩
theorem br_at {ks : List ByteArray} {ds : List Int} (hd : ∀ d ∈ ds, Sl.isPage d = true) (hl : ds.length = ks.length + 1) : ∀ (k : Nat) (u : List Nat), k ≤ ks.length → brK k ⟨bflat ks ds k ++ u, false⟩ = ks.take k ∧ brD k ⟨bflat ks ds k ++ u, false⟩ = (ds.drop 1).take k ∧ brS k ⟨bflat ks ds k ++ u, false⟩ = ⟨u, false⟩
  | 0, u, _ => ⟨rfl, rfl, rfl⟩
  | k + 1, u, hk => by
    have hlt : k < ks.length := by omega
    have hdl : k + 1 < ds.length := by omega
    rw [bflat, List.append_assoc]
    obtain ⟨i1, i2, i3⟩ := br_at hd hl k (bpart ks ds k ++ u) (by omega)
    unfold bpart at i1 i2 i3 ⊢
    have hp := hd _ (Sl.getD_mem ds (k + 1) 0 hdl)
    unfold Sl.isPage at hp
    rw [Bool.and_eq_true, decide_eq_true_eq, decide_eq_true_eq] at hp
    have e : tx (ks.getD k ByteArray.empty) ++ four (ds.getD (k + 1) 0).toNat 4 ++ u = tx (ks.getD k ByteArray.empty) ++ (four (ds.getD (k + 1) 0).toNat 4 ++ u) := List.append_assoc ..
    have t1 := txt_at (ks.getD k ByteArray.empty) (four (ds.getD (k + 1) 0).toNat 4 ++ u)
    have t2 := four_at (ds.getD (k + 1) 0).toNat u (by omega)
    rw [brK, brD, brS, i1, i2, i3, e, t1.1, t1.2, t2.1, t2.2, tb_bl, Int.toNat_of_nonneg (by omega), Sl.take_more ks k ByteArray.empty hlt]
    refine ⟨rfl, ?_, rfl⟩
    have hlt2 : k < (ds.drop 1).length := by rw [List.length_drop]; omega
    rw [Sl.take_more (ds.drop 1) k 0 hlt2]
    congr 2
    rw [List.getD_eq_getElem?_getD, List.getD_eq_getElem?_getD, List.getElem?_drop, Nat.add_comm]
theorem nd_at {n : Nod} (h : Sl.may n = true) (u : List Nat) : ndV ⟨nbytes n ++ u, false⟩ = n ∧ ndS ⟨nbytes n ++ u, false⟩ = ⟨u, false⟩ := by
  obtain ⟨lf, cs, ks, ds⟩ := n
  cases lf with
  | true =>
    have hm := may_leaf h rfl
    simp only at hm
    obtain ⟨hc, hl, _, rfl, rfl⟩ := hm
    have e : nbytes ⟨true, cs, [], []⟩ ++ u = 1 :: (cs.length :: (cs.flatMap cbytes ++ u)) := rfl
    have t1 := one_at 1 (cs.length :: (cs.flatMap cbytes ++ u))
    have t2 := one_at cs.length (cs.flatMap cbytes ++ u)
    have t3 := cels_at hc cs.length u (Nat.le_refl _)
    rw [List.take_length] at t3
    rw [e]
    unfold ndV ndS
    rw [t1.1, t1.2, if_pos rfl, if_pos rfl]
    unfold lfV lfS
    rw [t2.1, t2.2, t3.1, t3.2]
    exact ⟨rfl, rfl⟩
  | false =>
    have hm := may_branch h rfl
    simp only at hm
    obtain ⟨hk, hl, _, rfl, hkd, hd⟩ := hm
    have hp := hd _ (Sl.getD_mem ds 0 0 (by omega))
    unfold Sl.isPage at hp
    rw [Bool.and_eq_true, decide_eq_true_eq, decide_eq_true_eq] at hp
    have e : nbytes ⟨false, [], ks, ds⟩ ++ u = 2 :: (ks.length :: (four (ds.getD 0 0).toNat 4 ++ (bflat ks ds ks.length ++ u))) := by
      show 2 :: (ks.length :: ((four (ds.getD 0 0).toNat 4 ++ bflat ks ds ks.length) ++ u)) = _
      rw [List.append_assoc]
    have t1 := one_at 2 (ks.length :: (four (ds.getD 0 0).toNat 4 ++ (bflat ks ds ks.length ++ u)))
    have t2 := one_at ks.length (four (ds.getD 0 0).toNat 4 ++ (bflat ks ds ks.length ++ u))
    have t3 := four_at (ds.getD 0 0).toNat (bflat ks ds ks.length ++ u) (by omega)
    have t4 := br_at hd hkd ks.length u (Nat.le_refl _)
    rw [e]
    unfold ndV ndS
    rw [t1.1, t1.2, if_neg (by omega), if_pos rfl, if_neg (by omega), if_pos rfl]
    unfold bnV bnS
    rw [t2.1, t2.2, t3.1, t3.2, t4.1, t4.2.1, t4.2.2, List.take_length, Int.toNat_of_nonneg (by omega), List.take_of_length_le (by rw [List.length_drop]; omega)]
    refine ⟨?_, rfl⟩
    congr 1
    have := Sl.drop_more ds 0 0 (by omega)
    rw [List.drop_zero, Nat.zero_add] at this
    rw [List.singleton_append]
    exact this.symm
/- a node's bytes are read as it; with a byte more, or cut, they are none -/
structure Back (n : Nod) : Prop where
  yes : decN ⟨nbytes n, false⟩ = n ∧ decE ⟨nbytes n, false⟩ = 0
  more : decE ⟨nbytes n ++ [0], false⟩ = 5
  cut : ∀ j, j < (nbytes n).length → decE ⟨(nbytes n).take j, false⟩ = 5
theorem back_ok {n : Nod} (h : Sl.may n = true) : Back n := by
  have h0 := nd_at h []
  rw [List.append_nil] at h0
  have ok : decOk ⟨nbytes n, false⟩ = true := by unfold decOk; rw [h0.1, h0.2, h]; rfl
  refine ⟨?_, ?_, fun j hj => ?_⟩
  · unfold decN decE
    rw [ok, h0.1]
    exact ⟨rfl, rfl⟩
  · have h1 := nd_at h [0]
    have ok : decOk ⟨nbytes n ++ [0], false⟩ = false := by unfold decOk; rw [h1.2]; rfl
    unfold decE
    rw [ok]
    rfl
  · have ok : decOk ⟨(nbytes n).take j, false⟩ = false := by
      unfold decOk
      cases hb : (ndS ⟨(nbytes n).take j, false⟩).bad with
      | true => rfl
      | false =>
        have h2 := (nd_ext ((nbytes n).drop j) hb).2
        have e : ext ⟨(nbytes n).take j, false⟩ ((nbytes n).drop j) = ⟨nbytes n, false⟩ := by unfold ext; rw [List.take_append_drop]
        rw [e, h0.2] at h2
        have h3 := congrArg In.l h2
        unfold ext at h3
        have h4 := congrArg List.length h3
        simp only [List.length_nil, List.length_append, List.length_drop] at h4
        omega
    unfold decE
    rw [ok]
    rfl
end Go.Proofs.Ytoinaplmgffkpaa
