/- Proved: plain arithmetic of a hash that is written in pieces: what its words, its block and its counts are for the bytes so far. No program is named. -/
import Derived.Test.YtefpaebbendnmaaDoorKMathB
namespace Bl
def init : List Nat := [1795745351, 3144134277, 1013904242, 2773480762, 1359893119, 2600822924, 528734635, 1541459225]
theorem init_eq : first.set 0 (first.getD 0 0 ^^^ 16842784) = init := by decide
theorem init_words : Words 8 init := ⟨rfl, by decide⟩
def blk (bs : List Nat) (q : Nat) : List Nat := (bs.drop (64 * q)).take 64
def chain (bs : List Nat) : Nat → List Nat
  | 0 => init
  | q + 1 => taken (chain bs q) (blk bs q) (64 * (q + 1)) false
def pad (l : List Nat) : List Nat := l ++ zeros (64 - l.length)
def full (n : Nat) : Nat := (n - 1) / 64
def digest (bs : List Nat) : List Nat := bytes (taken (chain bs (full bs.length)) (pad (bs.drop (64 * full bs.length))) bs.length true)
theorem sub8 {bs cs : List Nat} (h : ∀ x ∈ bs, x < 256) (hs : ∀ x ∈ cs, x ∈ bs) : Bytes8 cs.length cs := ⟨rfl, fun x hx => h x (hs x hx)⟩
theorem blk8 {bs : List Nat} (h : ∀ x ∈ bs, x < 256) (q : Nat) : Bytes8 (blk bs q).length (blk bs q) := sub8 h fun _ hx => List.mem_of_mem_drop (List.mem_of_mem_take hx)
theorem chain_words {bs : List Nat} (h : ∀ x ∈ bs, x < 256) : ∀ q, 64 * q < 18446744073709551616 → Words 8 (chain bs q)
  | 0, _ => init_words
  | q + 1, hq => taken_words (chain_words h q (by omega)) (blk8 h q) hq false
theorem chain_append (cs ds : List Nat) : ∀ q, 64 * q ≤ cs.length → chain (cs ++ ds) q = chain cs q
  | 0, _ => rfl
  | q + 1, hq => by
    have e : blk (cs ++ ds) q = blk cs q := by
      unfold blk
      rw [List.drop_append_of_le_length (by omega), List.take_append_of_le_length (by simp; omega)]
    show taken (chain (cs ++ ds) q) (blk (cs ++ ds) q) (64 * (q + 1)) false = taken (chain cs q) (blk cs q) (64 * (q + 1)) false
    rw [e, chain_append cs ds q (by omega)]
/- what a hash holds that has the bytes bs: the words, the block, how many bytes of it are held -/
structure St (bs h b : List Nat) (held : Nat) : Prop where
  num : held + 64 * full bs.length = bs.length
  hs : h = chain bs (full bs.length)
  bl : Bytes8 64 b
  hd : b.take held = bs.drop (64 * full bs.length)
  all : ∀ x ∈ bs, x < 256
  len : bs.length < 9223372036854775808
/- the same while more bytes are at hand: the block is not full -/
structure Pre (bs h b : List Nat) (held q : Nat) : Prop where
  num : held + 64 * q = bs.length
  hs : h = chain bs q
  bl : Bytes8 64 b
  hd : b.take held = bs.drop (64 * q)
  all : ∀ x ∈ bs, x < 256
  len : bs.length < 9223372036854775808
  lt : held < 64
theorem St.held {bs h b : List Nat} {held : Nat} (s : St bs h b held) : held ≤ 64 := by
  have := s.num
  unfold full at this
  omega
theorem St.words {bs h b : List Nat} {held : Nat} (s : St bs h b held) : Words 8 h := by
  have h1 := s.num
  have h2 := s.len
  rw [s.hs]; exact chain_words s.all _ (by omega)
theorem Pre.words {bs h b : List Nat} {held q : Nat} (s : Pre bs h b held q) : Words 8 h := by
  have h1 := s.num
  have h2 := s.len
  rw [s.hs]; exact chain_words s.all _ (by omega)
theorem St.new : St [] init (zeros 64) 0 := ⟨rfl, rfl, zeros_bytes 64, rfl, (fun x hx => by cases hx), by decide⟩
theorem St.pre {bs h b : List Nat} {held : Nat} (s : St bs h b held) (hl : held < 64) : Pre bs h b held (full bs.length) := ⟨s.num, s.hs, s.bl, s.hd, s.all, s.len, hl⟩
theorem St.next {bs h b : List Nat} (s : St bs h b 64) : Pre bs (taken h b bs.length false) b 0 (full bs.length + 1) := by
  have e := s.num
  have hb : b = bs.drop (64 * full bs.length) := by rw [← s.hd, List.take_of_length_le (by rw [s.bl.1]; exact Nat.le_refl _)]
  have hk : blk bs (full bs.length) = b := by
    unfold blk
    rw [← hb, List.take_of_length_le (by rw [s.bl.1]; exact Nat.le_refl _)]
  refine ⟨by omega, ?_, s.bl, ?_, s.all, s.len, by omega⟩
  · show _ = taken (chain bs (full bs.length)) (blk bs (full bs.length)) (64 * (full bs.length + 1)) false
    rw [hk, ← s.hs, show 64 * (full bs.length + 1) = bs.length by omega]
  · rw [List.take_zero, List.drop_eq_nil_of_le (by omega)]
def over (b : List Nat) (o : Nat) (ds : List Nat) : List Nat := b.take o ++ (ds ++ b.drop (o + ds.length))
theorem Pre.put {bs h b : List Nat} {held q : Nat} (s : Pre bs h b held q) (ds : List Nat) (hd : ∀ x ∈ ds, x < 256) (h1 : 0 < ds.length) (h2 : held + ds.length ≤ 64) (hl : bs.length + ds.length < 9223372036854775808) : St (bs ++ ds) h (over b held ds) (held + ds.length) := by
  have e := s.num
  have ef : full (bs ++ ds).length = q := by rw [List.length_append]; unfold full; omega
  have hbl := s.bl.1
  refine ⟨by rw [ef, List.length_append]; omega, by rw [ef, chain_append bs ds q (by omega)]; exact s.hs, ⟨?_, fun x hx => ?_⟩, ?_, fun x hx => ?_, by rw [List.length_append]; exact hl⟩
  · unfold over; simp; omega
  · unfold over at hx
    rcases List.mem_append.1 hx with hx | hx
    · exact s.bl.2 x (List.mem_of_mem_take hx)
    rcases List.mem_append.1 hx with hx | hx
    · exact hd x hx
    · exact s.bl.2 x (List.mem_of_mem_drop hx)
  · rw [ef, List.drop_append_of_le_length (by omega), ← s.hd]
    unfold over
    rw [← List.append_assoc]
    exact List.take_left' (by simp; omega)
  · rcases List.mem_append.1 hx with hx | hx
    · exact s.all x hx
    · exact hd x hx
theorem St.last {bs h b : List Nat} {held : Nat} (s : St bs h b held) : b.take held ++ zeros (64 - held) = pad (bs.drop (64 * full bs.length)) ∧ Bytes8 64 (b.take held ++ zeros (64 - held)) := by
  have e := s.num
  have hh := s.held
  refine ⟨?_, ?_, fun x hx => ?_⟩
  · unfold pad
    rw [← s.hd, List.length_take, s.bl.1, Nat.min_eq_left hh]
  · rw [List.length_append, List.length_take, s.bl.1, (zeros_bytes _).1]; omega
  · rcases List.mem_append.1 hx with hx | hx
    · exact s.bl.2 x (List.mem_of_mem_take hx)
    · exact (zeros_bytes _).2 x hx
theorem St.digest {bs h b : List Nat} {held : Nat} (s : St bs h b held) : bytes (taken h (b.take held ++ zeros (64 - held)) bs.length true) = Bl.digest bs := by
  unfold Bl.digest
  rw [s.last.1, s.hs]
theorem digest_bytes (bs : List Nat) : Bytes8 32 (digest bs) := bytes_bytes _
end Bl
