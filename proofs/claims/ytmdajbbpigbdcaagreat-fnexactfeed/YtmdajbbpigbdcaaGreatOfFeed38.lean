/-
  The laws' function that looks for marks in a node.
  The walk of the law FnExactRise.
-/
import Derived.Test.YtmdajbbpigbdcaaGreatOfFeed26
import Derived.Test.YtmdajbbpigbdcaaGreatOfFeed7
import Derived.Test.YtmdajbbpigbdcaaGreatOfFeed36
import Derived.Test.YtmdajbbpigbdcaaGreatOfFeed37
import Derived.Test.YtmdajbbpigbdcaaGreatOfFeed20
import Derived.Deep.RegionHeld3
namespace Go.Proofs.YtmdajbbpigbdcaaGreat
set_option maxRecDepth 100000
set_option maxHeartbeats 8000000
section
open Go.RowKit
end
section
open Go.RowKit

theorem markK_small {n : Nat} {D : Nd} (h : D.small n) : markK n 1 D ≤ 67108864 ∧ ¬ markK n 1 D < 0 := by
 obtain ⟨h1, h2, h3, h4, h5, h6, h7, h8⟩ := h
 have a := mkT_le n D.T1
 have b := mkT_le n D.T2
 unfold markK
 omega
theorem NodD.srcs {n : Nat} {w : World} {lo : Nat} {N : NodV} {D : Nd} (h : NodD n w lo N D) : ∃ F1 F2 : Nat → Prop, Src true n w F1 N.s.x D.T1 ∧ Src true n w F2 N.o.x D.T2 := by
 obtain ⟨c1, c2, c3, c4, c5, c6, h1, h2, h3, h4, h5, h6, h7, o1, o2, o3, o4, o5, o6⟩ := h
 exact ⟨_, _, MacI.src o2, MacI.src o6⟩
end
end Go.Proofs.YtmdajbbpigbdcaaGreat
