/-
  The laws' own functions that write marks into a list of pairs, and look for them.
-/
import Derived.Test.YteegcblndbljlaaPairs
import Derived.Test.YteegcblndbljlaaSorted
namespace Go.Proofs.Yteegcblndbljlaa
open Go.RowKit

theorem flatP_cons (p : Int × Int) (l : List (Int × Int)) : flatP (p :: l) = .int .i64 p.1 :: .int .i64 p.2 :: flatP l := rfl
theorem flatP_set (l : List (Int × Int)) (a b : Int) : ∀ i, i < l.length → ((flatP l).set (i * 2) (.int .i64 a)).set (i * 2 + 1) (.int .i64 b) = flatP (l.set i (a, b)) := by
  induction l with
  | nil => intro i h; simp at h
  | cons p l ih =>
    intro i h
    cases i with
    | zero => simp [flatP_cons]
    | succ i =>
      have := ih i (by simpa using h)
      rw [flatP_cons, List.set_cons_succ, flatP_cons, show (i + 1) * 2 = i * 2 + 1 + 1 by omega, List.set_cons_succ, List.set_cons_succ, List.set_cons_succ, List.set_cons_succ, this]

def marksP (k : Int) (n : Nat) : List (Int × Int) := (List.range n).map fun (i : Nat) => (k + 2 * i, k + 2 * i + 1)
theorem marksP_length (k : Int) (n : Nat) : (marksP k n).length = n := by simp [marksP]
theorem marksP_succ (k : Int) (n : Nat) : marksP k (n + 1) = marksP k n ++ [(k + 2 * n, k + 2 * n + 1)] := by simp [marksP, List.range_succ]
theorem marksP_at (k : Int) (n i : Nat) (h : i < n) : kOf (marksP k n) i = k + 2 * i ∧ vOf (marksP k n) i = k + 2 * i + 1 := by
  simp [marksP, kOf, vOf, List.getD, h]
def midP (k : Int) (l : List (Int × Int)) (i : Nat) : List (Int × Int) := marksP k i ++ l.drop i
theorem midP_length (k : Int) (l : List (Int × Int)) (i : Nat) (h : i ≤ l.length) : (midP k l i).length = l.length := by simp [midP, marksP_length]; omega
theorem midP_zero (k : Int) (l : List (Int × Int)) : midP k l 0 = l := by simp [midP, marksP]
theorem midP_full (k : Int) (l : List (Int × Int)) : midP k l l.length = marksP k l.length := by simp [midP]
theorem midP_step (k : Int) (l : List (Int × Int)) (i : Nat) (h : i < l.length) : (midP k l i).set i (k + 2 * i, k + 2 * i + 1) = midP k l (i + 1) := by
  rw [midP, midP, marksP_succ, List.drop_eq_getElem_cons h, List.set_append_right _ _ (by rw [marksP_length]; omega), marksP_length, Nat.sub_self, List.set_cons_zero]
  simp

end Go.Proofs.Yteegcblndbljlaa
