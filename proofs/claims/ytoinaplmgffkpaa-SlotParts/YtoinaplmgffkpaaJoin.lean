/- Proved: what slot's Join answers (stage 11). -/
import Derived.Test.YtoinaplmgffkpaaJoinB
import Derived.Test.YtoinaplmgffkpaaJoinL
namespace Go.Proofs.Ytoinaplmgffkpaa
open Go.RowKit
open Sl (Cel Nod)
theorem join_any (l r : Nod) (p q : Pt) (k : ByteArray) (w : World) (hL : Lies w l p) (hR : Lies w r q) (hFl : Fit l) (hFr : Fit r) (hk : k.size ≤ 140737488355328) (hz1 : l.cells.length + r.cells.length ≤ 900) (hz2 : l.keys.length + r.keys.length ≤ 900) (hz3 : l.kids.length + r.kids.length ≤ 900) :
    Calls Try.prog 21 #[nv l p, nv r q, .string k] w (JoPost w l r k) := by
  cases hml : Sl.may l with
  | false => exact join_no l r p q k w hL hR hFl hFr hk hz1 hz2 hz3 (.inl hml)
  | true =>
    cases hmr : Sl.may r with
    | false => exact join_no l r p q k w hL hR hFl hFr hk hz1 hz2 hz3 (.inr (.inl ⟨hml, hmr⟩))
    | true =>
      by_cases h : l.leaf = r.leaf
      · cases hlf : l.leaf with
        | true => exact join_leaf l r p q k w hL hR hFl hFr hk hz1 hz2 hz3 hml hmr hlf (h.symm.trans hlf)
        | false => exact join_branch l r p q k w hL hR hFl hFr hk hz1 hz2 hz3 hml hmr hlf (h.symm.trans hlf)
      · exact join_no l r p q k w hL hR hFl hFr hk hz1 hz2 hz3 (.inr (.inr ⟨hml, hmr, h⟩))
end Go.Proofs.Ytoinaplmgffkpaa
