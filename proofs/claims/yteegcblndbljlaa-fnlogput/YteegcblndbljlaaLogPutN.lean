/-
  What was put into a log is there; put again it changes nothing; what is ahead of it stays.
-/
import Derived.Test.YteegcblndbljlaaLogPutM
import Derived.Test.YteegcblndbljlaaLogOkM
namespace Go.Proofs.Yteegcblndbljlaa
open Go.RowKit

theorem eT_take {c : EL} {m i : Nat} (h : i < m) : eT (c.take m) i = eT c i := by simp [eT, List.getD, h]
theorem eT_left {c d : EL} {i : Nat} (h : i < c.length) : eT (c ++ d) i = eT c i := by simp [eT, List.getD, List.getElem?_append_left h]
theorem eT_snoc {c : EL} {i : Nat} {e : En} (h : i = c.length) : eT (c ++ [e]) i = e.1 := by subst h; simp [eT, List.getD]
theorem eT_getD (l : EL) (j : Nat) : (l.getD j en0).1 = eT l j := rfl
theorem putS_low {c : EL} {k : Nat} {l3 : EL} (hk : k ≤ c.length) : ∀ j i, i < k → eT (putS c k l3 j) i = eT c i := by
  intro j
  induction j with
  | zero => intro i _; rfl
  | succ j ih =>
    intro i hi
    have hl := (putS_len c k l3 hk j).1
    rw [putS_succ]
    unfold stepE
    split
    · split
      · exact ih i hi
      · rw [eT_left (by rw [List.length_take]; omega), eT_take (by omega)]; exact ih i hi
    · rw [eT_left (by omega)]; exact ih i hi
theorem putS_at {c : EL} {k : Nat} {l3 : EL} (hk : k ≤ c.length) : ∀ j i, i < j → k + i < (putS c k l3 j).length ∧ eT (putS c k l3 j) (k + i) = eT l3 i := by
  intro j
  induction j with
  | zero => intro i h; omega
  | succ j ih =>
    intro i hi
    have hl := (putS_len c k l3 hk j).1
    rw [putS_succ]
    unfold stepE
    by_cases hij : i = j
    · subst hij
      split
      · rename_i h1
        split
        · rename_i h2
          exact ⟨h1, by rw [h2, eT_getD]⟩
        · have hlen : ((putS c k l3 i).take (k + i)).length = k + i := by rw [List.length_take]; omega
          refine ⟨by rw [List.length_append, hlen]; simp, ?_⟩
          rw [eT_snoc hlen.symm, eT_getD]
      · rename_i h1
        have hlen : (putS c k l3 i).length = k + i := by omega
        refine ⟨by rw [List.length_append, hlen]; simp, ?_⟩
        rw [eT_snoc hlen.symm, eT_getD]
    · obtain ⟨h1, h2⟩ := ih i (by omega)
      split
      · split
        · exact ⟨h1, h2⟩
        · refine ⟨by rw [List.length_append, List.length_take]; simp; omega, ?_⟩
          rw [eT_left (by rw [List.length_take]; omega), eT_take (by omega)]; exact h2
      · refine ⟨by rw [List.length_append]; omega, ?_⟩
        rw [eT_left h1]; exact h2
theorem putS_again {c : EL} {k : Nat} {l3 : EL} (h : ∀ i, i < l3.length → k + i < c.length ∧ eT c (k + i) = eT l3 i) : ∀ j, j ≤ l3.length → putS c k l3 j = c := by
  intro j
  induction j with
  | zero => intro _; rfl
  | succ j ih =>
    intro hj
    have e := ih (by omega)
    obtain ⟨h1, h2⟩ := h j (by omega)
    rw [putS_same (by rw [e]; exact h1) (by rw [e]; exact h2), e]

/-- all that the law asks of a log into which was put -/
theorem put_facts {b bt : Int} {l : EL} {pr pt : Int} {l3 : EL} (h : putK b bt l pr pt l3 = true) :
    0 ≤ b ∧ b ≤ pr ∧ pr + l3.length ≤ 100000 ∧ pr - b ≤ l.length ∧ putL b bt l pr pt l3 = putX b l pr l3 ∧ putB b bt l = b ∧ putT b bt l = bt ∧ logOkB b bt l = true ∧ logOkB b bt (putX b l pr l3) = true ∧
      (∀ j : Nat, j < l3.length → termB b bt (putX b l pr l3) (pr + 1 + j) = eT l3 j) ∧
      (∀ q : Nat, b + q ≤ pr → termB b bt (putX b l pr l3) (b + q) = termB b bt l (b + q)) ∧
      putL b bt (putX b l pr l3) pr pt l3 = putX b l pr l3 ∧ putB b bt (putX b l pr l3) = b ∧ putT b bt (putX b l pr l3) = bt ∧ putK b bt (putX b l pr l3) pr pt l3 = true := by
  unfold putK at h
  simp only [Bool.and_eq_true] at h
  obtain ⟨hok, hC, hX⟩ := h
  have hat := putC_at hC
  obtain ⟨hb0, hbn, -⟩ := logOk_parts hX
  have hxe : putX b l pr l3 = putS l (putAt b pr) l3 l3.length := rfl
  generalize hk : putAt b pr = k at *
  have hlow := putS_low (l3 := l3) hat.2 l3.length
  have hats := putS_at (l3 := l3) hat.2 l3.length
  have hlen := (putS_len l k l3 hat.2 l3.length).1
  rw [← hxe] at hlow hats hlen
  have hy := put_yes (l3 := l3) hok hC hX
  have hag : putS (putX b l pr l3) k l3 l3.length = putX b l pr l3 := putS_again hats _ (Nat.le_refl _)
  generalize putX b l pr l3 = X at *
  have hkX : k ≤ X.length := by omega
  have hprev : ∀ q : Nat, q ≤ k → prevT bt X q = prevT bt l q := fun q hq => by
    cases q with
    | zero => rfl
    | succ q => rw [prevT_succ, prevT_succ]; exact hlow q (by omega)
  have ht2 : ∀ q : Nat, b + q ≤ pr → termB b bt X (b + q) = termB b bt l (b + q) := fun q hq => by
    rw [term_of (show q ≤ X.length by omega), term_of (show q ≤ l.length by omega)]
    exact hprev q (by omega)
  have hCX : putC b bt X pr pt = true := by
    unfold putC at hC ⊢
    simp only [decide_eq_true_eq] at hC ⊢
    refine ⟨hC.1, ?_⟩
    have e : pr = b + (k : Int) := by omega
    have := ht2 k (by omega)
    rw [← e] at this
    rw [this]
    exact hC.2
  have hXX : putX b X pr l3 = X := by
    show putS X (putAt b pr) l3 l3.length = X
    rw [hk]; exact hag
  have hy2 := put_yes (l3 := l3) hX hCX (by rw [hXX]; exact hX)
  rw [hXX] at hy2
  refine ⟨hb0, by omega, by omega, by omega, hy.1, hy.2.1, hy.2.2.1, hok, hX, fun j hj => ?_, ht2, hy2.1, hy2.2.1, hy2.2.2.1, hy2.2.2.2⟩
  obtain ⟨h1, h2⟩ := hats j hj
  rw [show pr + 1 + (j : Int) = b + ((k + j + 1 : Nat) : Int) by omega, term_of (by omega), prevT_succ]
  exact h2
theorem put_fails {b bt : Int} {l : EL} {pr pt : Int} {l3 : EL} (h : putK b bt l pr pt l3 = false) : (b = putB b bt l ∧ bt = putT b bt l ∧ l = putL b bt l pr pt l3) ∨ (putL b bt l pr pt l3).length = 0 := by
  cases hok : logOkB b bt l with
  | false => right; rw [(put_bad hok).1]; rfl
  | true =>
    left
    unfold putB putT putL
    rw [if_pos hok, if_pos hok, if_pos hok, if_neg (by rw [h]; simp)]
    exact ⟨rfl, rfl, rfl⟩

end Go.Proofs.Yteegcblndbljlaa
