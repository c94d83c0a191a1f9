/-
  Contracts of chapter 3's Pending and TreeGet, of the model and of the program.
-/
import Derived.Test.YtccdleafkhnfmaaGreatQImpl
import Derived.Test.YtccdleafkhnfmaaGreatImplAll
import Derived.Test.YtccdleafkhnfmaaGreatSpecAll
import Derived.Test.YtccdleafkhnfmaaGreatMapGet
import Derived.Deep.LoopGhost
import Derived.Deep.RegionWith
namespace Go.Proofs.YtccdleafkhnfmaaGreat
open Go.RowKit

/-- Pending's answer -/
def pendT (T : Tr) (k : Int) : ML := if okT T = true then pendF 7 T k else []
theorem pendT_length (T : Tr) (k : Int) : (pendT T k).length ≤ 42 := by
  unfold pendT
  split
  · exact pendF_length k (okT_depth (by assumption))
  · simp
/-- TreeGet's answer -/
def getT (T : Tr) (k : Int) : Int × Bool := if okT T = true then getP (allL (leafF 7 T k).pairs (pendF 7 T k)) k else (0, false)

end Go.Proofs.YtccdleafkhnfmaaGreat
