/- Proved: PagedbNobody's walk, over a call that comes in. -/
import Derived.Test.YtcfninpokngmlaaGreatDoorJ19
import Derived.Test.YtcfninpokngmlaaGreatDoorJ20
namespace Go.Proofs.YtcfninpokngmlaaGreatDoor
open Go.RowKit
theorem nobody_walk (a : Actv) (w : World) (_ : a.Fits w) (hT : Tab w) :
    Calls Tryz.prog 5 #[.agg a.cells] w fun e w' => e = .returned (.bool true) ∧ Below w.heap.size w w' :=
  nobody_core a.kind a.id a.kd a.s (.slice a.ka a.kl a.kc) w hT
end Go.Proofs.YtcfninpokngmlaaGreatDoor
