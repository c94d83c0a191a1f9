/-
  MapGet as a plain function.
-/
import Derived.Test.YteegcblndbljlaaMath
namespace Go.Proofs.Yteegcblndbljlaa

def getP : List (Int × Int) → Int → Int × Bool
  | [], _ => (0, false)
  | p :: l, k => if p.1 = k then (p.2, true) else getP l k

theorem getP_hit {l : List (Int × Int)} {x : Int} : ∀ {i : Nat}, i < l.length → (∀ j, j < i → kOf l j ≠ x) → kOf l i = x → getP l x = (vOf l i, true) := by
  induction l with
  | nil => intro i h; simp at h
  | cons p l ih =>
    intro i h hall hx
    cases i with
    | zero =>
      simp only [kOf, List.getD_cons_zero] at hx
      simp [getP, hx, vOf]
    | succ i =>
      have h0 := hall 0 (by omega)
      simp only [kOf, List.getD_cons_zero] at h0
      rw [getP, if_neg h0, ih (by simpa using h) (fun j hj => by have := hall (j + 1) (by omega); simpa [kOf] using this) (by simpa [kOf] using hx)]
      simp [vOf]
theorem getP_none {l : List (Int × Int)} {x : Int} (hall : ∀ j, j < l.length → kOf l j ≠ x) : getP l x = (0, false) := by
  induction l with
  | nil => rfl
  | cons p l ih =>
    have h0 := hall 0 (by simp)
    simp only [kOf, List.getD_cons_zero] at h0
    rw [getP, if_neg h0]
    exact ih (fun j hj => by have := hall (j + 1) (by simpa using hj); simpa [kOf] using this)

end Go.Proofs.Yteegcblndbljlaa
