/- Proved: what the document's Split and Join answer (stage 11). -/
import Derived.Test.YtoinaplmgffkpaaRSplL
import Derived.Test.YtoinaplmgffkpaaRSplB
import Derived.Test.YtoinaplmgffkpaaRJnL
import Derived.Test.YtoinaplmgffkpaaRJnB
namespace Go.Proofs.Ytoinaplmgffkpaa
open Go.RowKit
open Sl (Cel Nod)
theorem rsplit_any (n : Nod) (p : Pt) (w : World) (hN : Lies w n p) (hF : Fit n) :
    Calls Try.prog 20 #[nv n p] w (RsPost w n) := by
  cases hm : Sl.may n with
  | false => exact rsplit_no n p w hN hF (.inl hm)
  | true =>
    rcases Nat.eq_zero_or_pos (spN n) with hz | hz
    · exact rsplit_no n p w hN hF (.inr ⟨hm, hz⟩)
    · cases hf : n.leaf with
      | true => exact rsplit_leaf n p w hN hF hm hf (by rw [spN_leaf hf] at hz; omega)
      | false => exact rsplit_branch n p w hN hF hm hf (by rw [spN_branch hf] at hz; omega)
theorem rjoin_any (l r : Nod) (p q : Pt) (k : ByteArray) (w : World) (hL : Lies w l p) (hR : Lies w r q) (hFl : Fit l) (hFr : Fit r) (hk : k.size ≤ 140737488355328) (hz1 : l.cells.length + r.cells.length ≤ 200) (hz2 : l.keys.length + r.keys.length ≤ 200) (hz3 : l.kids.length + r.kids.length ≤ 200) :
    Calls Try.prog 22 #[nv l p, nv r q, .string k] w (JoPost w l r k) := by
  cases hml : Sl.may l with
  | false => exact rjoin_no l r p q k w hL hR hFl hFr hk hz1 hz2 hz3 (.inl hml)
  | true =>
    cases hmr : Sl.may r with
    | false => exact rjoin_no l r p q k w hL hR hFl hFr hk hz1 hz2 hz3 (.inr (.inl ⟨hml, hmr⟩))
    | true =>
      by_cases h : l.leaf = r.leaf
      · cases hlf : l.leaf with
        | true => exact rjoin_leaf l r p q k w hL hR hFl hFr hk hz1 hz2 hz3 hml hmr hlf (h.symm.trans hlf)
        | false => exact rjoin_branch l r p q k w hL hR hFl hFr hk hz1 hz2 hz3 hml hmr hlf (h.symm.trans hlf)
      · exact rjoin_no l r p q k w hL hR hFl hFr hk hz1 hz2 hz3 (.inr (.inr ⟨hml, hmr, h⟩))
end Go.Proofs.Ytoinaplmgffkpaa
