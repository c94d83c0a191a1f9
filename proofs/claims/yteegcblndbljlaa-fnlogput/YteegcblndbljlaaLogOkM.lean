/-
  What a log that is right tells: its last number, its Terms.
-/
import Derived.Test.YteegcblndbljlaaLogAt
import Derived.Test.YteegcblndbljlaaEntsSl
namespace Go.Proofs.Yteegcblndbljlaa
open Go.RowKit

theorem logOk_parts {b bt : Int} {l : EL} (h : logOkB b bt l = true) : 0 ≤ b ∧ b + l.length ≤ 100000 ∧ 0 ≤ bt ∧ entsOk bt l = true := by
  unfold logOkB at h
  simp only [Bool.and_eq_true, decide_eq_true_eq] at h
  exact ⟨(inB_iff.1 h.1).1, h.2.2.1, (inB_iff.1 h.2.1).1, h.2.2.2⟩
theorem ok_last {b bt : Int} {l : EL} (h : logOkB b bt l = true) : lastN b l = b + l.length := by
  obtain ⟨h0, h1, _⟩ := logOk_parts h
  unfold lastN
  split
  · rename_i hz; rw [hz]; simp
  · exact IntWalk.wrap64_in _ ⟨by omega, by omega⟩
theorem prevT_step {bt : Int} {l : EL} (h : entsOk bt l = true) {k : Nat} (hk : k < l.length) : prevT bt l k ≤ prevT bt l (k + 1) := by
  have := entsOk_at h hk
  unfold entAt at this
  simp only [Bool.and_eq_true] at this
  rw [prevT_succ]
  exact (inB_iff.1 this.1).1
theorem prevT_mono {bt : Int} {l : EL} (h : entsOk bt l = true) (j : Nat) : ∀ m, j + m ≤ l.length → prevT bt l j ≤ prevT bt l (j + m) := by
  intro m
  induction m with
  | zero => intro _; exact Int.le_refl _
  | succ m ih =>
    intro hm
    have h1 := ih (by omega)
    have h2 := prevT_step h (show j + m < l.length by omega)
    rw [show j + (m + 1) = j + m + 1 by omega]
    omega
theorem term_at {b bt : Int} {l : EL} {i : Int} (h0 : 0 ≤ termB b bt l i) : ∃ k : Nat, k ≤ l.length ∧ i = b + k ∧ termB b bt l i = prevT bt l k := by
  by_cases hi : i = b
  · exact ⟨0, Nat.zero_le _, by omega, by unfold termB; rw [if_pos hi]; rfl⟩
  · unfold termB at h0 ⊢
    rw [if_neg hi] at h0 ⊢
    cases hp : placeB b l i with
    | none => rw [hp] at h0; simp at h0
    | some n =>
      have := placeB_some hp
      exact ⟨n + 1, by omega, by omega, by rw [prevT_succ]⟩
theorem term_of {b bt : Int} {l : EL} {k : Nat} (hk : k ≤ l.length) : termB b bt l (b + k) = prevT bt l k := by
  cases k with
  | zero => unfold termB; rw [if_pos (by omega)]; rfl
  | succ k =>
    unfold termB
    rw [if_neg (by omega), placeB_at (n := k) (by omega) (by omega), prevT_succ]
theorem term_in {b bt : Int} {l : EL} {i : Int} (h : logOkB b bt l = true) (h0 : 0 ≤ termB b bt l i) : b ≤ i ∧ i ≤ b + l.length ∧ bt ≤ termB b bt l i ∧ termB b bt l i ≤ prevT bt l l.length := by
  obtain ⟨k, hk, hi, ht⟩ := term_at h0
  have he := (logOk_parts h).2.2.2
  have h1 := prevT_mono he 0 k (by omega)
  have h2 := prevT_mono he k (l.length - k) (by omega)
  rw [show k + (l.length - k) = l.length by omega] at h2
  rw [Nat.zero_add, prevT_zero] at h1
  rw [ht]
  exact ⟨by omega, by omega, h1, h2⟩
theorem ents_len {b : Int} {l : EL} {i : Int} (h1 : b < i) (h2 : i ≤ b + l.length + 1) : ((entsB b l i).length : Int) = b + l.length - i + 1 := by
  obtain ⟨n, hn⟩ : ∃ n : Nat, i - b = n + 1 := ⟨(i - b - 1).toNat, by omega⟩
  rw [entsB_to hn (by omega), List.length_drop]
  omega

end Go.Proofs.Yteegcblndbljlaa
