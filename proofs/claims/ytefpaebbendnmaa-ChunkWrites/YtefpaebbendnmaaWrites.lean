/- Proved: the law ChunkWrites answers true, whatever comes in. -/
import Derived.Test.YtefpaebbendnmaaWorks
import Derived.Test.YtefpaebbendnmaaRSam
namespace Go.Proofs.Ytefpaebbendnmaa
open Go.RowKit
open Ck (T wr wrE wrT tr trE trT rd rdE rdT)
theorem seq (s : ByteArray) : (s.toList == s.toList) = true := by simp
set_option maxHeartbeats 4000000 in
set_option maxRecDepth 20000 in
theorem writes_walk (s : ByteArray) (o : Int) (d : ByteArray) (w : World) (hs : s.size ≤ 9223372036854775807) (ho : -9223372036854775808 ≤ o ∧ o ≤ 9223372036854775807) (hd : d.size ≤ 9223372036854775807) :
    Calls Try.prog 4 #[.string s, .int .i64 o, .string d] w fun e w' => e = .returned (.bool true) ∧ Below w.heap.size w w' := by
  obtain ⟨ho1, ho2⟩ := ho
  have HF1 := (show Hid _ from fun W => few_any s W hs)
  have HF2 := (show Hid _ from fun W => few_any d W hd)
  have hz1 := fewT_size s
  have hz2 := fewT_size d
  generalize fewT s = S at *
  generalize fewT d = D at *
  have HW := (show Hid _ from fun W => write_any S D o W (by omega) (by omega))
  have HRW := (show Hid _ from fun W => rwrite_any S D o W (by omega) (by omega) ho1)
  have HT := (show Hid _ from fun W => trunc_any S o W (by omega))
  have HRT := (show Hid _ from fun W => rtrunc_any S o W (by omega))
  have HR := (show Hid _ from fun W => read_any S o (D.size : Int) W (by omega) (by omega))
  have HRR := (show Hid _ from fun W => rread_any S o (D.size : Int) W (by omega) (by omega))
  have HX := (show Hid _ from fun W => works_any W)
  generalize mk (wrT (bl S) o (bl D)) = A at *
  generalize (wrE (bl S) o (bl D) : Nat) = a at *
  generalize mk (trT (bl S) o) = B at *
  generalize (trE (bl S) o : Nat) = b at *
  generalize mk (rdT (bl S) o (D.size : Int)) = C at *
  generalize (rdE (bl S) o (D.size : Int) : Nat) = c at *
  have q1 := seq A
  have q2 := seq B
  have q3 := seq C
  go_enter Try.func4, Try.ntmps4
  go_wp2_with (first
    | (go_at_call 8; refine (HF1.out _).mono ?_; rintro e w1 ⟨rfl, rfl⟩)
    | (go_at_call 8; refine (HF2.out _).mono ?_; rintro e w1 ⟨rfl, rfl⟩)
    | (go_at_call 19; refine (HW.out _).mono ?_; rintro e w2 ⟨rfl, hB⟩; have HB2 := (show Hid _ from hB); clear hB)
    | (go_at_call 20; refine (HRW.out _).mono ?_; rintro e w1 ⟨rfl, rfl⟩)
    | (go_at_call 21; refine (HT.out _).mono ?_; rintro e w3 ⟨rfl, hB⟩; have HB3 := (show Hid _ from below_next HB2.out hB HB2.out.size); clear hB)
    | (go_at_call 22; refine (HRT.out _).mono ?_; rintro e w1 ⟨rfl, rfl⟩)
    | (go_at_call 23; refine (HR.out _).mono ?_; rintro e w4 ⟨rfl, hB⟩; have HB4 := (show Hid _ from below_next HB3.out hB HB3.out.size); clear hB)
    | (go_at_call 24; refine (HRR.out _).mono ?_; rintro e w1 ⟨rfl, rfl⟩)
    | (go_at_call 18; refine (HX.out _).mono ?_; rintro e w5 ⟨rfl, hB⟩; have HB5 := (show Hid _ from below_next HB4.out hB HB4.out.size); clear hB))
  go_ret
  exact ⟨rfl, HB5.out⟩
end Go.Proofs.Ytefpaebbendnmaa
