/-
  Contracts of the program's chapter 2: TreeDepth, TreeOk, countAll, TreeCount, kidAt, KidOf.
-/
import Derived.Test.YtmoaccohnmkleaaTreeImplF
namespace Go.Proofs.Ytmoaccohnmkleaa
open Go.RowKit

set_option maxHeartbeats 400000 in
theorem implTreeDepth_any (n : Nat) (x : TV) (T : Tr) (w : World) (ht : TreeAt n w x T) :
    Calls Try.prog 30 #[x.val] w fun e w' => e = .returned (.int .i64 (depthT T : Nat)) ∧ Below w.heap.size w w' := by
  have TT : Hid (TreeAt n w x T) := ht
  clear ht
  obtain ⟨lf, p, c, k, b⟩ := x
  have B0 : Hid _ := bel_box w #[.bool lf, p, c, k, b]
  have HR : Hid (∀ w0, Below w.heap.size w w0 → Calls Try.prog 42 #[.agg #[.bool lf, p, c, k, b]] w0 fun e w' => e = .returned (.agg #[.int .i64 (kindN T), .int .i64 0, .int .i64 1000, .int .i64 0, .bool lf, p, c, k, b]) ∧ Below w0.heap.size w0 w') := fun w0 hb => rootOf_any n ⟨lf, p, c, k, b⟩ T w0 (TT.out.below hb)
  have HD : Hid (∀ w0, Below w.heap.size w w0 → Calls Try.prog 43 #[.agg #[.int .i64 (kindN T), .int .i64 0, .int .i64 1000, .int .i64 0, .bool lf, p, c, k, b]] w0 fun e w' => e = .returned (.int .i64 (depthT T : Nat)) ∧ Below w0.heap.size w0 w') := fun w0 hb => depth_any 7 (by omega) n ⟨lf, p, c, k, b⟩ T 0 1000 w0 (TT.out.below hb)
  generalize depthT T = d at *
  generalize kindN T = kn at *
  show Calls Try.prog 30 #[.agg #[.bool lf, p, c, k, b]] w _
  go_enter Try.func30, Try.ntmps30
  go_wp2_with fail
  refine Calls.mono (HR.out _ B0.out) ?_
  rintro e w1 ⟨rfl, hb1⟩
  have B1 : Hid (Below w.heap.size w w1) := Below.and B0.out hb1
  clear hb1 B0
  go_wp2_with fail
  refine Calls.mono (HD.out _ B1.out) ?_
  rintro e w2 ⟨rfl, hb2⟩
  have B2 : Hid (Below w.heap.size w w2) := Below.and B1.out hb2
  clear hb2 B1
  go_wp2
  go_ret
  exact ⟨rfl, B2.out⟩

set_option maxHeartbeats 400000 in
theorem implTreeOk_any (n : Nat) (x : TV) (T : Tr) (w : World) (ht : TreeAt n w x T) :
    Calls Try.prog 16 #[x.val] w fun e w' => e = .returned (.bool (okT T)) ∧ Below w.heap.size w w' := by
  have TT : Hid (TreeAt n w x T) := ht
  clear ht
  obtain ⟨lf, p, c, k, b⟩ := x
  have B0 : Hid _ := bel_box w #[.bool lf, p, c, k, b]
  have HC := implTreeDepth_any n ⟨lf, p, c, k, b⟩ T _ (TT.out.below B0.out)
  have HC' : Hid _ := HC
  clear HC
  show Calls Try.prog 16 #[.agg #[.bool lf, p, c, k, b]] w _
  unfold okT
  generalize depthT T = d at *
  go_enter Try.func16, Try.ntmps16
  go_wp2_with fail
  refine Calls.mono HC'.out ?_
  rintro e w1 ⟨rfl, hb1⟩
  have B1 : Hid (Below w.heap.size w w1) := Below.and B0.out hb1
  clear hb1 B0
  go_wp2
  go_ret
  exact ⟨rfl, B1.out⟩

end Go.Proofs.Ytmoaccohnmkleaa
