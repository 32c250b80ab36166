/- The walk of HexaWhich. -/
import Derived.Test.YtpfjbcfnpfgidaaDoorDhzzz
import Derived.Test.YtpfjbcfnpfgidaaDoorDhzzn
import Derived.Test.YtpfjbcfnpfgidaaDoorDhznz
import Derived.Test.YtpfjbcfnpfgidaaDoorDhznn
import Derived.Test.YtpfjbcfnpfgidaaDoorDhnzz
import Derived.Test.YtpfjbcfnpfgidaaDoorDhnzn
import Derived.Test.YtpfjbcfnpfgidaaDoorDhnnz
import Derived.Test.YtpfjbcfnpfgidaaDoorDhnnn
namespace Go.Proofs.YtpfjbcfnpfgidaaDoor
open Go.RowKit
theorem hexawhich_walk (a b c : Int) (w : World) (ho : OrdAt w) :
    Calls Tryd.prog 3 #[tri a b c] w fun e w' => e = .returned (.bool true) ∧ Below w.heap.size w w' := by
  by_cases ha : a = 0 <;> by_cases hb : b = 0 <;> by_cases hc : c = 0
  · subst ha
    subst hb
    subst hc
    exact hw_zzz   w ho
  · subst ha
    subst hb
    exact hw_zzn c (by simpa using hc) w ho
  · subst ha
    subst hc
    exact hw_znz b (by simpa using hb) w ho
  · subst ha
    exact hw_znn b c (by simpa using hb) (by simpa using hc) w ho
  · subst hb
    subst hc
    exact hw_nzz a (by simpa using ha) w ho
  · subst hb
    exact hw_nzn a c (by simpa using ha) (by simpa using hc) w ho
  · subst hc
    exact hw_nnz a b (by simpa using ha) (by simpa using hb) w ho
  · exact hw_nnn a b c (by simpa using ha) (by simpa using hb) (by simpa using hc) w ho
end Go.Proofs.YtpfjbcfnpfgidaaDoor
