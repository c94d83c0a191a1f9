/-
  Contracts of the model's chapter 2: TreeDepth, TreeOk, l2Count, TreeCount, l2Kid, KidOf.
-/
import Derived.Test.YtmoaccohnmkleaaTreeDepth
namespace Go.Proofs.Ytmoaccohnmkleaa
open Go.RowKit

set_option maxHeartbeats 400000 in
theorem specTreeDepth_any (n : Nat) (x : TV) (T : Tr) (w : World) (ht : TreeAt n w x T) (hsz : sizeT n T ≤ 1099511627776) :
    Calls Try.prog 24 #[x.val] w fun e w' => e = .returned (.int .i64 (depthT T : Nat)) ∧ Below w.heap.size w w' := by
  have TT : Hid (TreeAt n w x T) := ht
  clear ht
  obtain ⟨lf, p, c, k, b⟩ := x
  have B0 : Hid _ := bel_box w #[.bool lf, p, c, k, b]
  have HC := l2Depth_any 7 (by omega) n ⟨lf, p, c, k, b⟩ T 0 1000 _ (TT.out.below B0.out) hsz (by omega) (by omega) (by omega) (by omega)
  have HC' : Hid _ := HC
  clear HC
  show Calls Try.prog 24 #[.agg #[.bool lf, p, c, k, b]] w _
  unfold depthT
  generalize depthF 7 T 0 1000 = d at *
  go_enter Try.func24, Try.ntmps24
  go_wp2_with fail
  refine Calls.mono HC'.out ?_
  rintro e w1 ⟨rfl, hb1⟩
  have B1 : Hid (Below w.heap.size w w1) := Below.and B0.out hb1
  clear hb1 B0
  go_wp2
  go_ret
  exact ⟨rfl, B1.out⟩

set_option maxHeartbeats 400000 in
theorem specTreeOk_any (n : Nat) (x : TV) (T : Tr) (w : World) (ht : TreeAt n w x T) (hsz : sizeT n T ≤ 1099511627776) :
    Calls Try.prog 13 #[x.val] w fun e w' => e = .returned (.bool (okT T)) ∧ Below w.heap.size w w' := by
  have TT : Hid (TreeAt n w x T) := ht
  clear ht
  obtain ⟨lf, p, c, k, b⟩ := x
  have B0 : Hid _ := bel_box w #[.bool lf, p, c, k, b]
  have HC := specTreeDepth_any n ⟨lf, p, c, k, b⟩ T _ (TT.out.below B0.out) hsz
  have HC' : Hid _ := HC
  clear HC
  show Calls Try.prog 13 #[.agg #[.bool lf, p, c, k, b]] w _
  unfold okT
  generalize depthT T = d at *
  go_enter Try.func13, Try.ntmps13
  go_wp2_with fail
  refine Calls.mono HC'.out ?_
  rintro e w1 ⟨rfl, hb1⟩
  have B1 : Hid (Below w.heap.size w w1) := Below.and B0.out hb1
  clear hb1 B0
  go_wp2
  go_ret
  exact ⟨rfl, B1.out⟩

/-- WHAT COUNTS A TREE, as the function g does. -/
def CountIs (g : FuncId) (n : Nat) : Prop := ∀ (x : TV) (T : Tr) (w : World), TreeAt n w x T → sizeT n T ≤ 1099511627776 →
    Calls Try.prog g #[x.val] w fun e w' => e = .returned (.tuple #[.int .i64 (pairsF n T : Nat), .int .i64 (msgsF n T : Nat)]) ∧ Below w.heap.size w w'

theorem ret_ints {a b c d : Int} (h : a = c) (h2 : b = d) : Ending.returned (.tuple #[.int .i64 a, .int .i64 b]) = .returned (.tuple #[.int .i64 c, .int .i64 d]) := by rw [h, h2]

end Go.Proofs.Ytmoaccohnmkleaa
