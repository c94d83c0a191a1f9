/-
  Who rules last, by a map of keys to places; plain mathematics.
-/
import Derived.Test.YtlapcjbhhonagaaMathShrink
import Derived.Test.YtlapcjbhhonagaaSpecShrink
namespace Go.Proofs.Ytlapcjbhhonagaa

def rulAt (l : ML) (k : Nat) : Bool := (mO l k == 1) || (mO l k == 2)
def rulersF (l : ML) : Nat → PL
  | 0 => []
  | k + 1 => if rulAt l k = true then putF (rulersF l k) (mK l k) k else rulersF l k

theorem rulers_mapP {l : ML} (hok : ∀ m ∈ l, okM m = true) : ∀ k, k ≤ l.length → k ≤ 1000000000 → MapP (rulersF l k)
  | 0, _, _ => ⟨List.Pairwise.nil, fun p hp => by simp [rulersF] at hp⟩
  | k + 1, h, h2 => by
    rw [rulersF]
    have ih := rulers_mapP hok k (by omega) (by omega)
    split
    · have hm := hok l[k] (List.getElem_mem (by omega))
      rw [ml_at l k (by omega)] at hm
      exact putF_mapP ih (msgOkB_in hm).2.1 (by omega)
    · exact ih

theorem rulers_get (l : ML) (x : Int) (hA : ∀ k, Asc (rulersF l k)) : ∀ k,
    ((getP (rulersF l k) x).2 = true → ∃ j : Nat, j < k ∧ (getP (rulersF l k) x).1 = j ∧ mK l j = x ∧ rulAt l j = true ∧ ∀ j', j < j' → j' < k → mK l j' = x → rulAt l j' = false) ∧
    ((getP (rulersF l k) x).2 = false → ∀ j, j < k → mK l j = x → rulAt l j = false)
  | 0 => ⟨fun h => by simp [rulersF, getP] at h, fun _ j hj => by omega⟩
  | k + 1 => by
    obtain ⟨h1, h2⟩ := rulers_get l x hA k
    rw [rulersF]
    cases hr : rulAt l k
    · simp only [Bool.false_eq_true, if_false]
      refine ⟨fun h => ?_, fun h j hj he => ?_⟩
      · obtain ⟨j, g1, g2, g3, g4, g5⟩ := h1 h
        refine ⟨j, by omega, g2, g3, g4, fun j' q1 q2 q3 => ?_⟩
        by_cases e : j' = k
        · subst e; exact hr
        · exact g5 j' q1 (by omega) q3
      · by_cases e : j = k
        · subst e; exact hr
        · exact h2 h j (by omega) he
    · simp only [if_true]
      by_cases hx : x = mK l k
      · subst hx
        rw [getP_putF_same (hA k)]
        refine ⟨fun _ => ⟨k, by omega, rfl, rfl, hr, fun j' q1 q2 => by omega⟩, fun h => by cases h⟩
      · rw [getP_putF_other (hA k) hx]
        refine ⟨fun h => ?_, fun h j hj he => ?_⟩
        · obtain ⟨j, g1, g2, g3, g4, g5⟩ := h1 h
          refine ⟨j, by omega, g2, g3, g4, fun j' q1 q2 q3 => ?_⟩
          by_cases e : j' = k
          · subst e; exact absurd q3.symm hx
          · exact g5 j' q1 (by omega) q3
        · by_cases e : j = k
          · subst e; exact absurd he.symm hx
          · exact h2 h j (by omega) he

theorem ruled_iff (l : ML) (i : Nat) (x : Int) : ruledB (l.drop i) x = true ↔ ∃ j, i ≤ j ∧ j < l.length ∧ mK l j = x ∧ rulAt l j = true := by
  rw [ruledB, List.any_eq_true]
  constructor
  · rintro ⟨m, hm, hq⟩
    obtain ⟨j, hj, rfl⟩ := List.getElem_of_mem hm
    rw [List.length_drop] at hj
    rw [List.getElem_drop, ml_at l (i + j) (by omega)] at hq
    simp only [Bool.and_eq_true, beq_iff_eq] at hq
    exact ⟨i + j, by omega, by omega, hq.1, hq.2⟩
  · rintro ⟨j, h1, h2, h3, h4⟩
    refine ⟨(mO l j, mK l j, mV l j), ?_, by simp only [Bool.and_eq_true, beq_iff_eq]; exact ⟨h3, h4⟩⟩
    rw [← ml_at l j h2]
    have : l[j] = (l.drop i)[j - i]'(by rw [List.length_drop]; omega) := by rw [List.getElem_drop]; congr 1; omega
    rw [this]
    exact List.getElem_mem _

/-- the program's test is the model's -/
theorem keep_iff {l : ML} (hA : ∀ k, Asc (rulersF l k)) {i : Nat} (x : Int) :
    ruledB (l.drop (i + 1)) x = ((getP (rulersF l l.length) x).2 && !(decide ((i : Int) ≥ (getP (rulersF l l.length) x).1))) := by
  obtain ⟨h1, h2⟩ := rulers_get l x hA l.length
  rw [Bool.eq_iff_iff, ruled_iff, Bool.and_eq_true, Bool.not_eq_true', decide_eq_false_iff_not]
  constructor
  · rintro ⟨j, g1, g2, g3, g4⟩
    cases hr : (getP (rulersF l l.length) x).2
    · have := h2 hr j g2 g3; rw [g4] at this; cases this
    · obtain ⟨n, q1, q2, q3, q4, q5⟩ := h1 hr
      refine ⟨rfl, ?_⟩
      rw [q2]
      intro hle
      have := q5 j (by omega) g2 g3
      rw [g4] at this; cases this
  · rintro ⟨hr, hlt⟩
    obtain ⟨n, q1, q2, q3, q4, q5⟩ := h1 hr
    rw [q2] at hlt
    exact ⟨n, by omega, q1, q3, q4⟩

theorem wo_step (l : ML) (k : Nat) (h : k < l.length) : woF (l.drop k) = if ruledB (l.drop (k + 1)) (mK l k) = true then woF (l.drop (k + 1)) else (mO l k, mK l k, mV l k) :: woF (l.drop (k + 1)) := by
  rw [drop_consM l k h, woF]
theorem woF_sub (l : ML) : ∀ m ∈ woF l, m ∈ l := by
  induction l with
  | nil => intro m hm; simp [woF] at hm
  | cons p l ih =>
    intro m hm
    rw [woF] at hm
    split at hm
    · simp [ih m hm]
    · rcases List.mem_cons.1 hm with rfl | hm
      · simp
      · simp [ih m hm]
theorem woF_length (l : ML) : (woF l).length ≤ l.length := by
  induction l with
  | nil => simp [woF]
  | cons p l ih => rw [woF]; split <;> simp <;> omega

end Go.Proofs.Ytlapcjbhhonagaa
