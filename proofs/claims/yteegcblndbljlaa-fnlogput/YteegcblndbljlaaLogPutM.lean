/-
  What LogPut makes of a log, as plain functions.
-/
import Derived.Test.YteegcblndbljlaaLogAt
namespace Go.Proofs.Yteegcblndbljlaa
open Go.RowKit

/-- one entry that is put at the place k -/
def stepE (c : EL) (k : Nat) (e : En) : EL := if k < c.length then (if eT c k = e.1 then c else c.take k ++ [e]) else c ++ [e]
/-- the first j entries of a list that are put from the place k on -/
def putS (c : EL) (k : Nat) (l3 : EL) : Nat → EL
  | 0 => c
  | j + 1 => stepE (putS c k l3 j) (k + j) (l3.getD j en0)
theorem putS_zero (c : EL) (k : Nat) (l3 : EL) : putS c k l3 0 = c := rfl
theorem putS_succ (c : EL) (k : Nat) (l3 : EL) (j : Nat) : putS c k l3 (j + 1) = stepE (putS c k l3 j) (k + j) (l3.getD j en0) := rfl
theorem putS_len (c : EL) (k : Nat) (l3 : EL) (hk : k ≤ c.length) : ∀ j, k + j ≤ (putS c k l3 j).length ∧ (putS c k l3 j).length ≤ c.length + j := by
  intro j
  induction j with
  | zero => exact ⟨hk, Nat.le_refl _⟩
  | succ j ih =>
    rw [putS_succ]
    unfold stepE
    split
    · split
      · omega
      · rw [List.length_append, List.length_take]; simp; omega
    · rw [List.length_append]; simp; omega
theorem putS_same {c : EL} {k : Nat} {l3 : EL} {j : Nat} (h1 : k + j < (putS c k l3 j).length) (h2 : eT (putS c k l3 j) (k + j) = eT l3 j) : putS c k l3 (j + 1) = putS c k l3 j := by
  rw [putS_succ]; unfold stepE; rw [if_pos h1, if_pos (by unfold eT at h2 ⊢; exact h2)]
theorem putS_cut {c : EL} {k : Nat} {l3 : EL} {j : Nat} (h1 : k + j < (putS c k l3 j).length) (h2 : ¬ eT (putS c k l3 j) (k + j) = eT l3 j)  : putS c k l3 (j + 1) = (putS c k l3 j).take (k + j) ++ [(eT l3 j, eC l3 j, eS l3 j, eO l3 j, eK l3 j, eV l3 j)] := by
  rw [putS_succ]; unfold stepE; rw [if_pos h1, if_neg (by unfold eT at h2 ⊢; exact h2)]; rfl
theorem putS_app {c : EL} {k : Nat} {l3 : EL} {j : Nat} (h1 : ¬ k + j < (putS c k l3 j).length)  : putS c k l3 (j + 1) = putS c k l3 j ++ [(eT l3 j, eC l3 j, eS l3 j, eO l3 j, eK l3 j, eV l3 j)] := by
  rw [putS_succ]; unfold stepE; rw [if_neg h1]; rfl

/-- s entries from the first on have the same Term in both, and no more -/
def SameP (a b : EL) (s : Nat) : Prop := s ≤ a.length ∧ s ≤ b.length ∧ (∀ i, i < s → eT a i = eT b i) ∧ (s < a.length → s < b.length → ¬ eT a s = eT b s)
theorem eT_drop (c : EL) (k i : Nat) : eT (c.drop k) i = eT c (k + i) := by simp [eT, List.getD]
theorem putS_keep {c : EL} {k : Nat} {l3 : EL} {s : Nat} (h : SameP (c.drop k) l3 s) (hk : k ≤ c.length) : ∀ j, j ≤ s → putS c k l3 j = c := by
  intro j
  obtain ⟨h1, h2, h3, _⟩ := h
  rw [List.length_drop] at h1
  induction j with
  | zero => intro _; rfl
  | succ j ih =>
    intro hj
    have e := ih (by omega)
    rw [putS_same (by rw [e]; omega) (by rw [e]; have := h3 j (by omega); rw [eT_drop] at this; exact this), e]
theorem putS_over {c : EL} {k : Nat} {l3 : EL} {s : Nat} (h : SameP (c.drop k) l3 s) (hk : k ≤ c.length) (hs : s < l3.length) : ∀ j, s < j → j ≤ l3.length → putS c k l3 j = c.take (k + s) ++ (l3.take j).drop s := by
  intro j
  have keep := putS_keep h hk s (Nat.le_refl _)
  obtain ⟨h1, h2, h3, h4⟩ := h
  rw [List.length_drop] at h1 h4
  induction j with
  | zero => intro h; omega
  | succ j ih =>
    intro hj hl
    have ht : (l3.take (j + 1)).drop s = (l3.take j).drop s ++ [l3[j]] := by
      rw [List.take_succ_eq_append_getElem (by omega), List.drop_append_of_le_length (by rw [List.length_take]; omega)]
    by_cases hjs : j = s
    · subst hjs
      have hd : (l3.take j).drop j = [] := List.drop_of_length_le (by rw [List.length_take]; omega)
      rw [ht, hd, List.nil_append, el_at l3 j (by omega)]
      by_cases hlt : k + j < c.length
      · rw [putS_cut (by rw [keep]; exact hlt) (by rw [keep]; have := h4 (by omega) hs; rw [eT_drop] at this; exact this), keep]
      · rw [putS_app (by rw [keep]; exact hlt), keep, List.take_of_length_le (by omega)]
    · have e := ih (by omega) (by omega)
      have hlen : (putS c k l3 j).length = k + j := by
        rw [e, List.length_append, List.length_take, List.length_drop, List.length_take]; omega
      rw [putS_app (by rw [hlen]; omega), e, ht, el_at l3 j (by omega), List.append_assoc]
theorem putS_eq {c : EL} {k : Nat} {l3 : EL} {s : Nat} (h : SameP (c.drop k) l3 s) (hk : k ≤ c.length) : putS c k l3 l3.length = if s = l3.length then c else c.take (k + s) ++ l3.drop s := by
  have hs := h.2.1
  split
  · rename_i e
    exact putS_keep h hk _ (by omega)
  · rename_i e
    rw [putS_over h hk (by omega) l3.length (by omega) (Nat.le_refl _), List.take_length]

/-- where the list is put -/
def putAt (b pr : Int) : Nat := (pr - b).toNat
def putX (b : Int) (l : EL) (pr : Int) (l3 : EL) : EL := putS l (putAt b pr) l3 l3.length
/-- the entry ahead of the list is there -/
def putC (b bt : Int) (l : EL) (pr pt : Int) : Bool := decide (0 ≤ pt ∧ termB b bt l pr = pt)
def putK (b bt : Int) (l : EL) (pr pt : Int) (l3 : EL) : Bool := logOkB b bt l && (putC b bt l pr pt && logOkB b bt (putX b l pr l3))
def putL (b bt : Int) (l : EL) (pr pt : Int) (l3 : EL) : EL := if logOkB b bt l = true then (if putK b bt l pr pt l3 = true then putX b l pr l3 else l) else []
def putB (b bt : Int) (l : EL) : Int := if logOkB b bt l = true then b else 0
def putT (b bt : Int) (l : EL) : Int := if logOkB b bt l = true then bt else 0
theorem putC_at {b bt : Int} {l : EL} {pr pt : Int} (h : putC b bt l pr pt = true) : pr - b = putAt b pr ∧ putAt b pr ≤ l.length := by
  unfold putC at h
  simp only [decide_eq_true_eq] at h
  obtain ⟨h0, h1⟩ := h
  unfold termB at h1
  unfold putAt
  split at h1
  · omega
  · cases hp : placeB b l pr with
    | none => rw [hp] at h1; simp at h1; omega
    | some n => have := placeB_some hp; omega
theorem putL_len (b bt : Int) (l : EL) (pr pt : Int) (l3 : EL) : (putL b bt l pr pt l3).length ≤ l.length + l3.length := by
  unfold putL
  split
  · split
    · rename_i h
      unfold putK at h
      simp only [Bool.and_eq_true] at h
      exact (putS_len l (putAt b pr) l3 (putC_at h.2.1).2 l3.length).2
    · omega
  · simp
theorem put_bad {b bt : Int} {l : EL} {pr pt : Int} {l3 : EL} (h : logOkB b bt l = false) : putL b bt l pr pt l3 = [] ∧ putB b bt l = 0 ∧ putT b bt l = 0 ∧ putK b bt l pr pt l3 = false := by
  simp [putL, putB, putT, putK, h]
theorem put_no {b bt : Int} {l : EL} {pr pt : Int} {l3 : EL} (h : logOkB b bt l = true) (h2 : putC b bt l pr pt = false ∨ logOkB b bt (putX b l pr l3) = false) : putL b bt l pr pt l3 = l ∧ putB b bt l = b ∧ putT b bt l = bt ∧ putK b bt l pr pt l3 = false := by
  have hk : putK b bt l pr pt l3 = false := by rcases h2 with h2 | h2 <;> simp [putK, h2]
  simp [putL, putB, putT, h, hk]
theorem put_yes {b bt : Int} {l : EL} {pr pt : Int} {l3 : EL} (h : logOkB b bt l = true) (h2 : putC b bt l pr pt = true) (h3 : logOkB b bt (putX b l pr l3) = true) : putL b bt l pr pt l3 = putX b l pr l3 ∧ putB b bt l = b ∧ putT b bt l = bt ∧ putK b bt l pr pt l3 = true := by
  have hk : putK b bt l pr pt l3 = true := by simp [putK, h, h2, h3]
  simp [putL, putB, putT, h, hk]

end Go.Proofs.Yteegcblndbljlaa
