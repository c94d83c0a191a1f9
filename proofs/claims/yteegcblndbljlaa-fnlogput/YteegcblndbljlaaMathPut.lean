/-
  The model's way of putting into a map, pair by pair, comes to the plain function.
-/
import Derived.Test.YteegcblndbljlaaMathMap
namespace Go.Proofs.Yteegcblndbljlaa

def stp (k v : Int) (s : PL × Bool) (p : Int × Int) : PL × Bool :=
  if s.2 = false ∧ k ≤ p.1 then (if p.1 = k then (s.1 ++ [(k, v)], true) else (s.1 ++ [(k, v)] ++ [p], true))
  else (if p.1 = k then s else (s.1 ++ [p], s.2))
def stpTo (k v : Int) (l : PL) (i : Nat) : PL × Bool := (l.take i).foldl (stp k v) ([], false)
def stpEnd (k v : Int) (s : PL × Bool) : PL := if s.2 = true then s.1 else s.1 ++ [(k, v)]

theorem stpTo_succ (k v : Int) (l : PL) (i : Nat) (h : i < l.length) : stpTo k v l (i + 1) = stp k v (stpTo k v l i) (kOf l i, vOf l i) := by
  have e : (kOf l i, vOf l i) = l[i] := by simp [kOf, vOf, List.getD, h]
  rw [stpTo, List.take_succ_eq_append_getElem h, List.foldl_append, e]; rfl
theorem stp_length (k v : Int) (s : PL × Bool) (p : Int × Int) : (stp k v s p).1.length ≤ s.1.length + 2 := by
  unfold stp
  split <;> split <;> simp
theorem stpTo_length (k v : Int) (l : PL) (i : Nat) : (stpTo k v l i).1.length ≤ 2 * i := by
  have h : ∀ (l : PL) (s : PL × Bool), (l.foldl (stp k v) s).1.length ≤ s.1.length + 2 * l.length := by
    intro l
    induction l with
    | nil => intro s; simp
    | cons p l ih =>
      intro s
      have h1 := ih (stp k v s p)
      have h2 := stp_length k v s p
      rw [List.foldl_cons]
      simp only [List.length_cons]
      omega
  have := h (l.take i) ([], false)
  have hl : (l.take i).length ≤ i := List.length_take_le _ _
  unfold stpTo
  simp only [List.length_nil] at this
  omega

theorem stp_true (k v : Int) (l : PL) (acc : PL) : l.foldl (stp k v) (acc, true) = (acc ++ delF l k, true) := by
  induction l generalizing acc with
  | nil => simp [delF]
  | cons p l ih =>
    rw [List.foldl_cons]
    by_cases h : p.1 = k
    · rw [show stp k v (acc, true) p = (acc, true) by simp [stp, h], ih, delF, delF, List.filter_cons_of_neg (by simp [h])]
    · rw [show stp k v (acc, true) p = (acc ++ [p], true) by simp [stp, h], ih, delF, delF, List.filter_cons_of_pos (by simp [h])]
      simp
theorem stp_put {l : PL} (h : Asc l) (k v : Int) (acc : PL) : stpEnd k v (l.foldl (stp k v) (acc, false)) = acc ++ putF l k v := by
  induction l generalizing acc with
  | nil => simp [stpEnd, putF]
  | cons p l ih =>
    obtain ⟨h1, h2⟩ := h.cons
    rw [List.foldl_cons]
    by_cases hlt : p.1 < k
    · rw [show stp k v (acc, false) p = (acc ++ [p], false) by simp [stp, show ¬ k ≤ p.1 by omega, show ¬ p.1 = k by omega], ih h2]
      have e : putF (p :: l) k v = p :: putF l k v := by simp [putF, hlt, show ¬ k < p.1 by omega]
      rw [e]; simp
    · by_cases he : p.1 = k
      · have hg : ∀ q ∈ l, k < q.1 := fun q hq => by have := h1 q hq; omega
        obtain ⟨f1, f2, f3⟩ := filter_gt hg
        rw [show stp k v (acc, false) p = (acc ++ [(k, v)], true) by simp [stp, he], stp_true, delF, f3]
        have e : putF (p :: l) k v = (k, v) :: l := by simp [putF, hlt, show ¬ k < p.1 by omega, f1, f2]
        rw [e]; simp [stpEnd]
      · have hg : ∀ q ∈ l, k < q.1 := fun q hq => by have := h1 q hq; omega
        obtain ⟨f1, f2, f3⟩ := filter_gt hg
        rw [show stp k v (acc, false) p = (acc ++ [(k, v)] ++ [p], true) by simp [stp, show k ≤ p.1 by omega, he], stp_true, delF, f3]
        have e : putF (p :: l) k v = (k, v) :: p :: l := by simp [putF, hlt, show k < p.1 by omega, f1, f2]
        rw [e]; simp [stpEnd]
theorem stpTo_full {l : PL} (h : Asc l) (k v : Int) : stpEnd k v (stpTo k v l l.length) = putF l k v := by
  have := stp_put h k v []
  simpa [stpTo] using this

theorem delF_succ (l : PL) (k : Int) (i : Nat) (h : i < l.length) : delF (l.take (i + 1)) k = if kOf l i = k then delF (l.take i) k else delF (l.take i) k ++ [(kOf l i, vOf l i)] := by
  have e : (kOf l i, vOf l i) = l[i] := by simp [kOf, vOf, List.getD, h]
  rw [List.take_succ_eq_append_getElem h, delF, List.filter_append, ← e]
  by_cases hk : kOf l i = k
  · simp [hk, delF]
  · simp [hk, delF]

end Go.Proofs.Yteegcblndbljlaa
