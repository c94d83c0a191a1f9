/-
  What a message makes of a map, key by key; plain mathematics.
-/
import Derived.Test.YtccdleafkhnfmaaGreatPart1
namespace Go.Proofs.YtccdleafkhnfmaaGreat

theorem putF_cons_lt {p : Int × Int} {l : PL} {k v : Int} (h : p.1 < k) : putF (p :: l) k v = p :: putF l k v := by
  simp [putF, h, show ¬ k < p.1 by omega]
theorem putF_cons_eq {p : Int × Int} {l : PL} {k v : Int} (hg : ∀ q ∈ l, p.1 < q.1) (h : p.1 = k) : putF (p :: l) k v = (k, v) :: l := by
  obtain ⟨f1, f2, _⟩ := filter_gt (k := k) (fun q hq => by have := hg q hq; omega)
  simp [putF, show ¬ p.1 < k by omega, show ¬ k < p.1 by omega, f1, f2]
theorem putF_cons_gt {p : Int × Int} {l : PL} {k v : Int} (hg : ∀ q ∈ l, p.1 < q.1) (h : k < p.1) : putF (p :: l) k v = (k, v) :: p :: l := by
  obtain ⟨f1, f2, _⟩ := filter_gt (k := k) (fun q hq => by have := hg q hq; omega)
  simp [putF, show ¬ p.1 < k by omega, h, f1, f2]

theorem getP_putF_other {l : PL} (h : Asc l) {j k v : Int} (hj : j ≠ k) : getP (putF l k v) j = getP l j := by
  induction l with
  | nil => simp [putF, getP, Ne.symm hj]
  | cons p l ih =>
    obtain ⟨h1, h2⟩ := h.cons
    by_cases hlt : p.1 < k
    · rw [putF_cons_lt hlt, getP, getP, ih h2]
    · by_cases he : p.1 = k
      · rw [putF_cons_eq h1 he, getP, getP, if_neg (by simpa using Ne.symm hj), if_neg (by omega)]
      · rw [putF_cons_gt h1 (by omega), getP, if_neg (by simpa using Ne.symm hj)]
theorem getP_putF_same {l : PL} (h : Asc l) (k v : Int) : getP (putF l k v) k = (v, true) := by
  induction l with
  | nil => simp [putF, getP]
  | cons p l ih =>
    obtain ⟨h1, h2⟩ := h.cons
    by_cases hlt : p.1 < k
    · rw [putF_cons_lt hlt, getP, if_neg (by omega), ih h2]
    · by_cases he : p.1 = k
      · rw [putF_cons_eq h1 he, getP, if_pos rfl]
      · rw [putF_cons_gt h1 (by omega), getP, if_pos rfl]
theorem getP_delF_other (l : PL) {j k : Int} (hj : j ≠ k) : getP (delF l k) j = getP l j := by
  induction l with
  | nil => rfl
  | cons p l ih =>
    by_cases he : p.1 = k
    · rw [delF, List.filter_cons_of_neg (by simp [he]), getP, if_neg (by omega)]; exact ih
    · rw [delF, List.filter_cons_of_pos (by simp [he]), getP, getP]
      have : getP (List.filter (fun p => decide (p.1 ≠ k)) l) j = getP l j := ih
      rw [this]
theorem getP_delF_same (l : PL) (k : Int) : getP (delF l k) k = (0, false) := by
  induction l with
  | nil => rfl
  | cons p l ih =>
    by_cases he : p.1 = k
    · rw [delF, List.filter_cons_of_neg (by simp [he])]; exact ih
    · rw [delF, List.filter_cons_of_pos (by simp [he]), getP, if_neg he]; exact ih
/-- WHERE NOTHING IS TO BE DONE, the map stays -/
theorem doL_stays {l : PL} {o k v : Int} (h : mapOkB l = false ∨ msgOkB o k v = false ∨ o = 4) : doL l (o, k, v) = l := by
  unfold doL
  split
  · rename_i h1
    simp only at h1
    rcases h with h | h | h
    · rw [h] at h1; cases h1.1
    · rw [h] at h1; cases h1.2
    · subst h; simp [doP]
  · rfl
theorem doL_is {l : PL} {o k v : Int} (h1 : mapOkB l = true) (h2 : msgOkB o k v = true) : doL l (o, k, v) = doP l (o, k, v) := by
  simp [doL, h1, h2]
theorem doL_other {l : PL} {o k v j : Int} (hj : j ≠ k) : getP (doL l (o, k, v)) j = getP l j := by
  unfold doL
  split
  · rename_i h1
    have hA := ((mapOkB_iff l).1 h1.1).1
    unfold doP
    simp only
    split
    · exact getP_putF_other hA hj
    · split
      · exact getP_delF_other l hj
      · split
        · exact getP_putF_other hA hj
        · rfl
  · rfl

end Go.Proofs.YtccdleafkhnfmaaGreat
