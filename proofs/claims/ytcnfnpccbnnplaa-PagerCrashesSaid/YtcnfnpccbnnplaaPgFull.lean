/- The walk of the law PagerFull: the pages run out, and one given back comes again. -/
import Derived.Test.YtcnfnpccbnnplaaPgKept
import Derived.IntWalk
namespace Go.Proofs.Ytcnfnpccbnnplaa
open Go.RowKit Go.Maps
set_option maxRecDepth 100000

theorem Bs.kept {w0 w w' : World} {X : Nat → Prop} {v : Value} {l : List UInt8} (h : Bs w v l) (hm : Mx w0 X w w') (hX : ∀ k, v.ownBlock = some k → X k) : Bs w' v l := h.moved hm (fun k hk hp => hp.2 (hX k hk))
def fullFree (m k : Nat) (H : Lg) : Prop := H.free = List.range' (k + 1) (m + 1 - k)

end Go.Proofs.Ytcnfnpccbnnplaa
