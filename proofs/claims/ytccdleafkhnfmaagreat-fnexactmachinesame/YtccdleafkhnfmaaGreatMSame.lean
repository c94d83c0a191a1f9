/-
  MachineSame of both sides, at two machines in memory.
-/
import Derived.Test.YtccdleafkhnfmaaGreatMSameS
import Derived.Test.YtccdleafkhnfmaaGreatMSameI
import Derived.Test.YtccdleafkhnfmaaGreatColl
import Derived.Test.YtccdleafkhnfmaaGreatMSpec
namespace Go.Proofs.YtccdleafkhnfmaaGreat
open Go.RowKit

theorem specMachineSame_any (n n2 : Nat) (m m2 : MacV) (T T2 : Tr) (l1 l2 : DL) (w : World) (h : MacAt n w m T l1) (h2 : MacAt n2 w m2 T2 l2) (hs : sizeT n T ≤ 1099511627776) (hs2 : sizeT n2 T2 ≤ 1099511627776) :
    Calls Tryz.prog 5 #[m.val, m2.val] w fun e w' => e = .returned (.bool (decide (l1 = l2) && decide (mapT T = mapT T2))) ∧ Below w.heap.size w w' := by
  obtain ⟨a1, a2, a3, a4, a5, q1, q2, q3, q4, q5, rfl⟩ := h.shape
  obtain ⟨e1, e2, e3, e4, e5, r1, r2, r3, r4, r5, rfl⟩ := h2.shape
  exact specMachineSame_core _ _ a1 a2 a3 a4 a5 e1 e2 e3 e4 e5 _ _ _ _ q1 q2 q3 q4 q5 _ _ _ _ r1 r2 r3 r4 r5 l1 l2 (mapT T) (mapT T2) w h.2 h2.2
    (fun u hu => specTreeMap_any n _ T u (h.1.below hu) hs) (fun u hu => specTreeMap_any n2 _ T2 u (h2.1.below hu) hs2)

theorem implMachineSame_any (n n2 : Nat) (m m2 : MacV) (T T2 : Tr) (l1 l2 : DL) (w : World) (h : MacAt n w m T l1) (h2 : MacAt n2 w m2 T2 l2) :
    Calls Tryz.prog 7 #[m.val, m2.val] w fun e w' => e = .returned (.bool (decide (l1 = l2) && decide (mapT T = mapT T2))) ∧ Below w.heap.size w w' := by
  obtain ⟨a1, a2, a3, a4, a5, q1, q2, q3, q4, q5, rfl⟩ := h.shape
  obtain ⟨e1, e2, e3, e4, e5, r1, r2, r3, r4, r5, rfl⟩ := h2.shape
  exact implMachineSame_core _ _ a1 a2 a3 a4 a5 e1 e2 e3 e4 e5 _ _ _ _ q1 q2 q3 q4 q5 _ _ _ _ r1 r2 r3 r4 r5 l1 l2 (mapT T) (mapT T2) w h.2 h2.2
    (fun u hu => implTreeMap_any n _ T u (h.1.below hu)) (fun u hu => implTreeMap_any n2 _ T2 u (h2.1.below hu))

end Go.Proofs.YtccdleafkhnfmaaGreat
