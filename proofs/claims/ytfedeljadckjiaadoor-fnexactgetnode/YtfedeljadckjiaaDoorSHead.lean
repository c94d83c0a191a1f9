/-
  The model's GetNode: its first two numbers.
-/
import Derived.Test.YtfedeljadckjiaaDoorSpecRead
import Derived.Test.YtfedeljadckjiaaDoorL5Num
namespace Go.Proofs.YtfedeljadckjiaaDoor

theorem curN_true {bs : List Int} {at_ x p : Int} (h : curN bs at_ true = (x, p, true)) : getN bs at_ = some (x, p) := by
  unfold curN at h
  cases hg : getN bs at_ with
  | none => rw [hg] at h; simp at h
  | some xp =>
    obtain ⟨x', p'⟩ := xp
    rw [hg] at h
    simp only [Prod.mk.injEq, and_true] at h
    rw [h.1, h.2]
theorem curN_false {bs : List Int} {at_ x p : Int} (h : curN bs at_ true = (x, p, false)) : getN bs at_ = none := by
  unfold curN at h
  cases hg : getN bs at_ with
  | none => rfl
  | some xp =>
    obtain ⟨x', p'⟩ := xp
    rw [hg] at h
    simp at h
theorem curN_off {bs : List Int} {at_ x p : Int} {k : Bool} (h : curN bs at_ false = (x, p, k)) : k = false := by
  unfold curN at h
  cases hg : getN bs at_ with
  | none => rw [hg] at h; simp at h; exact h.2.2
  | some xp => rw [hg] at h; simp at h; exact h.2.2
theorem head_read {bs : List Int} {x0 p1 n p2 : Int} {k1 k2 : Bool} (h1 : curN bs 0 true = (x0, p1, k1)) (h2 : curN bs p1 k1 = (n, p2, k2)) :
    ((k2 && inB n 0 4) = true → getN bs 0 = some (x0, p1) ∧ countN bs p1 0 4 = some (n, p2)) ∧ ((k2 && inB n 0 4) = false → specRead bs = none) := by
  cases k1 with
  | false =>
    have := curN_off h2
    subst this
    refine ⟨fun h => by simp at h, fun _ => ?_⟩
    unfold specRead
    rw [curN_false h1]
  | true =>
    have g1 := curN_true h1
    cases k2 with
    | false =>
      have g2 := curN_false h2
      refine ⟨fun h => by simp at h, fun _ => ?_⟩
      unfold specRead countN
      rw [g1]
      simp only [g2]
    | true =>
      have g2 := curN_true h2
      simp only [Bool.true_and]
      refine ⟨fun h => ⟨g1, ?_⟩, fun h => ?_⟩
      · unfold countN
        rw [g2]
        simp only
        rw [if_pos (inB_iff.1 h)]
      · unfold specRead countN
        rw [g1]
        simp only [g2]
        rw [if_neg (fun hh => by rw [inB_iff.2 hh] at h; cases h)]
/-- a pair, by two numbers of the cursor -/
theorem pair_step {bs : List Int} {p2 at_ x q1 y q2 : Int} {kx ky : Bool} {j : Nat} {l : List (Int × Int)} (hl : pairsN bs p2 j = some (l, at_)) (h1 : curN bs at_ true = (x, q1, kx)) (h2 : curN bs q1 kx = (y, q2, ky)) :
    (ky = true → pairsN bs p2 (j + 1) = some (l ++ [(x, y)], q2)) ∧ (ky = false → pairsN bs p2 (j + 1) = none) := by
  cases kx with
  | false =>
    have := curN_off h2
    subst this
    refine ⟨fun h => by simp at h, fun _ => ?_⟩
    rw [pairsN, hl]
    simp only [numsN, curN_false h1]
  | true =>
    have g1 := curN_true h1
    cases ky with
    | false =>
      refine ⟨fun h => by simp at h, fun _ => ?_⟩
      rw [pairsN, hl]
      simp only [numsN, g1, curN_false h2]
    | true =>
      refine ⟨fun _ => ?_, fun h => by simp at h⟩
      rw [pairsN, hl]
      simp [numsN, g1, curN_true h2]
theorem spec_leaf_none {bs : List Int} {p1 n p2 : Int} {j : Nat} (h0 : getN bs 0 = some (1, p1)) (h1 : countN bs p1 0 4 = some (n, p2)) (hj : (j : Int) ≤ n) (h : pairsN bs p2 j = none) : specRead bs = none := by
  unfold specRead sleafA
  rw [h0]
  simp only [h1, if_true]
  rw [pairsN_none h n.toNat (by omega)]

end Go.Proofs.YtfedeljadckjiaaDoor
