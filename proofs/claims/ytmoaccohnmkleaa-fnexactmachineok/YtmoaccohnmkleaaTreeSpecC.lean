/-
  Contracts of the model's chapter 2: TreeCount, l2Kid, KidOf; of the program's countAll, kidAt.
-/
import Derived.Test.YtmoaccohnmkleaaTreeSpecB
namespace Go.Proofs.Ytmoaccohnmkleaa
open Go.RowKit

/-- how many of the first cuts are at most k, up to the first that is not -/
def prefK (l : List Int) (k : Int) : Nat := (l.takeWhile fun c => decide (c ≤ k)).length
theorem prefK_at {l : List Int} {k : Int} {n : Nat} (hn : n ≤ l.length) (h : ∀ i, i < n → iAt l i ≤ k) (h2 : n < l.length → ¬ iAt l n ≤ k) : prefK l k = n := by
  induction l generalizing n with
  | nil => simp at hn; subst hn; rfl
  | cons a l ih =>
    cases n with
    | zero =>
      have := h2 (by simp)
      simp only [iAt, List.getD_cons_zero] at this
      simp [prefK, this]
    | succ n =>
      have ha := h 0 (by omega)
      simp only [iAt, List.getD_cons_zero] at ha
      have := ih (n := n) (by simpa using hn) (fun i hi => by simpa [iAt] using h (i + 1) (by omega)) (fun hl => by simpa [iAt] using h2 (by simpa using hl))
      simp only [prefK] at this ⊢
      rw [List.takeWhile_cons_of_pos (by simpa using ha), List.length_cons, this]
theorem prefK_le (l : List Int) (k : Int) : prefK l k ≤ l.length := by
  unfold prefK
  exact (List.takeWhile_sublist _).length_le

/-- KidOf's answer -/
def kidOfT (T : Tr) (k : Int) : Int := if T.leaf = true ∨ okT T = false then -1 else (prefK T.cuts k : Nat)

end Go.Proofs.Ytmoaccohnmkleaa
