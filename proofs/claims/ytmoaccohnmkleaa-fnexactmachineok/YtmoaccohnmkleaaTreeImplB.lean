/-
  Contracts of the program's chapter 2: rootOf, kid.
-/
import Derived.Test.YtmoaccohnmkleaaTreeImplA
namespace Go.Proofs.Ytmoaccohnmkleaa
open Go.RowKit

theorem BoxAt.second (t1 t2 : TypeId) (w : World) (A Z : Array Value) : BoxAt t2 (((w.alloc (.cells A t1)).alloc (.cells Z t2)).drew) (w.heap.size + 1) Z := by
  have e : (w.alloc (.cells A t1)).heap.size = w.heap.size + 1 := by simp
  have := heap_alloc_new (w.alloc (.cells A t1)) (.cells Z t2)
  rw [e] at this
  exact this

set_option maxHeartbeats 1000000 in
theorem rootOf_any (n : Nat) (x : TV) (T : Tr) (w : World) (ht : TreeAt n w x T) :
    Calls Try.prog 42 #[x.val] w fun e w' => e = .returned (placedV (kindN T) 0 1000 0 x) ∧ Below w.heap.size w w' := by
  obtain ⟨a1, a2, a3, a4, q1, q2, q3, q4, hx⟩ := ht.shape
  have TT : Hid (TreeAt n w x T) := ht
  clear ht
  subst hx
  generalize T.pairs.length = n1 at *
  generalize T.cuts.length = n2 at *
  generalize T.kids.length = n3 at *
  generalize T.buf.length = n4 at *
  show Calls Try.prog 42 #[.agg #[.bool T.leaf, .slice a1 n1 q1, .slice a2 n2 q2, .slice a3 n3 q3, .slice a4 n4 q4]] w fun e w' => e = .returned (.agg #[.int .i64 (kindN T), .int .i64 0, .int .i64 1000, .int .i64 0, .bool T.leaf, .slice a1 n1 q1, .slice a2 n2 q2, .slice a3 n3 q3, .slice a4 n4 q4]) ∧ Below w.heap.size w w'
  go_enter Try.func42, Try.ntmps42
  go_wp2_with fail
  have B0 : Hid (Below w.heap.size w (((w.alloc (.cells #[.bool T.leaf, .slice a1 n1 q1, .slice a2 n2 q2, .slice a3 n3 q3, .slice a4 n4 q4] 37)).alloc (.cells #[.int .i64 0, .int .i64 0, .int .i64 0, .int .i64 0, .bool false, .slice none 0 0, .slice none 0 0, .slice none 0 0, .slice none 0 0] 85)).drew)) :=
    (((Below.refl _ _).alloc (Nat.le_refl _) _).alloc (by simp) _).drew
  have HC : Hid (∀ w0, Below w.heap.size w w0 → Calls Try.prog 48 #[.agg #[.bool T.leaf, .slice a1 n1 q1, .slice a2 n2 q2, .slice a3 n3 q3, .slice a4 n4 q4]] w0 fun e w' => e = .returned (.int .i64 (kindN T)) ∧ Below w0.heap.size w0 w') := fun w0 hb => kindOf_any n ⟨T.leaf, .slice a1 n1 q1, .slice a2 n2 q2, .slice a3 n3 q3, .slice a4 n4 q4⟩ T w0 (TT.out.below hb)
  go_region_with (go_at_call 48; refine (HC.out _ B0.out).mono ?_; rintro e w1 ⟨rfl, hb1⟩; obtain ⟨hc, hf⟩ := bcell hb1)
  all_goals
    have B1 : Hid (Below w.heap.size w w1) := Below.and B0.out hb1
    have k1 := ((BoxAt.second 37 85 w _ _).step hb1).cells
    go_wp2
    refine bodyPost_ret (v := .agg #[.int .i64 (kindN T), .int .i64 0, .int .i64 1000, .int .i64 0, .bool T.leaf, .slice a1 n1 q1, .slice a2 n2 q2, .slice a3 n3 q3, .slice a4 n4 q4]) (by simp [results, Try.results42, go_sem, k1]) rfl ⟨rfl, ?_⟩
    repeat (refine Below.setCell ?_ (by simp only []; omega) _)
    exact B1.out

end Go.Proofs.Ytmoaccohnmkleaa
