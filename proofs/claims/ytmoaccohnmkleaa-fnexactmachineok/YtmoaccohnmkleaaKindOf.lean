/-
  Contracts of the program's chapter 2: kindOf, tooDeep, has, splits, rootOf, kid.
-/
import Derived.Test.YtmoaccohnmkleaaTreeToB
namespace Go.Proofs.Ytmoaccohnmkleaa
open Go.RowKit

/-- A BOX. -/
def BoxAt (t : TypeId) (u : World) (B : Nat) (A : Array Value) : Prop := u.heap[B]? = some (.cells A t (0, 0))
theorem BoxAt.step {t : TypeId} {u w' : World} {B : Nat} {A : Array Value} (h : BoxAt t u B A) (hb : Below u.heap.size u w') : BoxAt t w' B A :=
  (hb.block _ (Array.getElem?_eq_some_iff.1 h).1).trans h
theorem BoxAt.cells {t : TypeId} {u : World} {B : Nat} {A : Array Value} (h : BoxAt t u B A) : ∀ j, u.cell? ⟨B, j, none⟩ = A[j]? := fun j => cell_of_row u B j A t (0, 0) h
theorem BoxAt.start (t : TypeId) (w : World) (A : Array Value) : BoxAt t (w.alloc (.cells A t)) w.heap.size A := heap_alloc_new w _
theorem bel_new (w : World) (o : Obj) : Below w.heap.size w (w.alloc o) := (Below.refl _ _).alloc (Nat.le_refl _) _

/-- what kind a tree is of -/
def kindN (T : Tr) : Int := if T.leaf = true then (if T.cuts.length = 0 ∧ T.kids.length = 0 ∧ T.buf.length = 0 then 1 else 0) else (if T.pairs.length = 0 then 2 else 0)
theorem kindN_leaf {T : Tr} (h : T.leaf = true) (hb : T.cuts.length = 0 ∧ T.kids.length = 0 ∧ T.buf.length = 0) : kindN T = 1 := by rw [kindN, if_pos h, if_pos hb]
theorem kindN_leaf_no {T : Tr} (h : T.leaf = true) (hb : ¬ (T.cuts.length = 0 ∧ T.kids.length = 0 ∧ T.buf.length = 0)) : kindN T = 0 := by rw [kindN, if_pos h, if_neg hb]
theorem kindN_fork {T : Tr} (h : T.leaf = false) (hb : T.pairs.length = 0) : kindN T = 2 := by rw [kindN, if_neg (by rw [h]; decide), if_pos hb]
theorem kindN_fork_no {T : Tr} (h : T.leaf = false) (hb : ¬ T.pairs.length = 0) : kindN T = 0 := by rw [kindN, if_neg (by rw [h]; decide), if_neg hb]

set_option maxHeartbeats 1000000 in
theorem kindOf_any (n : Nat) (x : TV) (T : Tr) (w : World) (ht : TreeAt n w x T) :
    Calls Try.prog 48 #[x.val] w fun e w' => e = .returned (.int .i64 (kindN T)) ∧ Below w.heap.size w w' := by
  obtain ⟨a1, a2, a3, a4, q1, q2, q3, q4, rfl⟩ := ht.shape
  show Calls Try.prog 48 #[.agg #[.bool T.leaf, .slice a1 T.pairs.length q1, .slice a2 T.cuts.length q2, .slice a3 T.kids.length q3, .slice a4 T.buf.length q4]] w _
  have K1 : Hid (T.leaf = true → (T.cuts.length = 0 ∧ T.kids.length = 0 ∧ T.buf.length = 0) → kindN T = 1) := kindN_leaf
  have K2 : Hid (T.leaf = true → ¬ (T.cuts.length = 0 ∧ T.kids.length = 0 ∧ T.buf.length = 0) → kindN T = 0) := kindN_leaf_no
  have K3 : Hid (T.leaf = false → T.pairs.length = 0 → kindN T = 2) := kindN_fork
  have K4 : Hid (T.leaf = false → ¬ T.pairs.length = 0 → kindN T = 0) := kindN_fork_no
  clear ht
  generalize kindN T = R at *
  generalize T.pairs.length = n1 at *
  generalize T.cuts.length = n2 at *
  generalize T.kids.length = n3 at *
  generalize T.buf.length = n4 at *
  cases hlf : T.leaf
  · cases h1 : ((n1 : Int) == 0)
    · have E := K4.out hlf (by rw [beq_eq_false_iff_ne] at h1; omega)
      subst E
      cases h2 : ((n2 : Int) == 0) <;> cases h3 : ((n3 : Int) == 0) <;> cases h4 : ((n4 : Int) == 0)
      all_goals
        go_enter Try.func48, Try.ntmps48
        go_wp2
        go_ret
        exact ⟨rfl, bel_new _ _⟩
    · have E := K3.out hlf (by rw [beq_iff_eq] at h1; omega)
      subst E
      cases h2 : ((n2 : Int) == 0) <;> cases h3 : ((n3 : Int) == 0) <;> cases h4 : ((n4 : Int) == 0)
      all_goals
        go_enter Try.func48, Try.ntmps48
        go_wp2
        go_ret
        exact ⟨rfl, bel_new _ _⟩
  · cases h2 : ((n2 : Int) == 0)
    · have E := K2.out hlf (by rw [beq_eq_false_iff_ne] at h2; omega)
      subst E
      cases h3 : ((n3 : Int) == 0) <;> cases h4 : ((n4 : Int) == 0)
      all_goals
        go_enter Try.func48, Try.ntmps48
        go_wp2
        go_ret
        exact ⟨rfl, bel_new _ _⟩
    · cases h3 : ((n3 : Int) == 0)
      · have E := K2.out hlf (by rw [beq_eq_false_iff_ne] at h3; omega)
        subst E
        cases h4 : ((n4 : Int) == 0)
        all_goals
          go_enter Try.func48, Try.ntmps48
          go_wp2
          go_ret
          exact ⟨rfl, bel_new _ _⟩
      · cases h4 : ((n4 : Int) == 0)
        · have E := K2.out hlf (by rw [beq_eq_false_iff_ne] at h4; omega)
          subst E
          go_enter Try.func48, Try.ntmps48
          go_wp2
          go_ret
          exact ⟨rfl, bel_new _ _⟩
        · have E := K1.out hlf (by rw [beq_iff_eq] at h2 h3 h4; omega)
          subst E
          go_enter Try.func48, Try.ntmps48
          go_wp2
          go_ret
          exact ⟨rfl, bel_new _ _⟩

/-- THE VALUES OF A PLACE, AND OF A TREE AT ITS PLACE. -/
abbrev placeV (kd lo hi ab : Int) : Value := .agg #[.int .i64 kd, .int .i64 lo, .int .i64 hi, .int .i64 ab]
abbrev placedV (kd lo hi ab : Int) (x : TV) : Value := .agg #[.int .i64 kd, .int .i64 lo, .int .i64 hi, .int .i64 ab, .bool x.lf, x.p, x.c, x.k, x.b]

end Go.Proofs.Ytmoaccohnmkleaa
