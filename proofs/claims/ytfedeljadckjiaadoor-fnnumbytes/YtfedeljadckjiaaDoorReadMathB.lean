/-
  What is put is read, and what is read is put: the number form there and back.
-/
import Derived.Test.YtfedeljadckjiaaDoorReadMath
namespace Go.Proofs.YtfedeljadckjiaaDoor
open Go.RowKit

theorem numN_codeN (x : Int) : numN (codeN x) = x := by
  unfold codeN numN; split <;> split <;> omega
theorem codeN_numN {c : Int} (h : 0 ≤ c) : codeN (numN c) = c := by
  unfold codeN numN; split <;> split <;> omega

/-- a form is read -/
theorem readC_sevens (r : List Int) : ∀ (k f : Nat) (u c m : Int), k < f → 1 ≤ u → 0 ≤ m → m < topN k → (0 < m ∨ u = 1) → c + m * u ≤ 4000000000 → readC f u c (sevens k m ++ r) = some (c + m * u, (sevens k m).length) := by
  intro k
  induction k with
  | zero =>
    intro f u c m hf hu h0 ht hp hm
    obtain ⟨f, rfl⟩ : ∃ f', f = f' + 1 := ⟨f - 1, by omega⟩
    simp only [topN] at ht
    have e : m % 128 = m := by omega
    simp only [sevens, List.singleton_append, readC, if_pos ht, e]
    rw [if_pos ⟨hp, hm⟩]; rfl
  | succ k ih =>
    intro f u c m hf hu h0 ht hp hm
    obtain ⟨f, rfl⟩ : ∃ f', f = f' + 1 := ⟨f - 1, by omega⟩
    by_cases hb : 127 < m
    · rw [sevens_go k hb, List.cons_append, readC, if_neg (by omega)]
      have e1 : (m % 128 + 128) % 128 = m % 128 := by omega
      have e2 : c + m % 128 * u + m / 128 * (u * 128) = c + m * u := by
        have : m = m % 128 + 128 * (m / 128) := by omega
        calc c + m % 128 * u + m / 128 * (u * 128) = c + (m % 128 + 128 * (m / 128)) * u := by rw [Int.add_mul, Int.mul_comm u 128, ← Int.mul_assoc, Int.mul_comm (m / 128) 128, Int.add_assoc]
          _ = c + m * u := by rw [← this]
      rw [e1, ih f (u * 128) (c + m % 128 * u) (m / 128) (by omega) (by omega) (by omega) (by rw [topN] at ht; omega) (.inl (by omega)) (by rw [e2]; exact hm), e2]
      simp
    · have e : m % 128 = m := by omega
      rw [sevens_stop _ hb]
      simp only [List.singleton_append, readC, if_pos (show m < 128 by omega), e]
      rw [if_pos ⟨hp, hm⟩]; rfl
theorem getN_putN {x : Int} (h1 : -2000000000 ≤ x) (h2 : x ≤ 2000000000) (l r : List Int) : getN (l ++ putN x ++ r) l.length = some (x, (l.length : Int) + ((putN x).length : Int)) := by
  have hc := codeN_in h1 h2
  unfold getN fromB
  rw [if_neg (by omega), Int.toNat_natCast, List.append_assoc, List.drop_left, putN_in h1 h2, readC_sevens r 4 5 1 0 (codeN x) (by decide) (by decide) hc.1 (by simp [topN]; omega) (.inr rfl) (by omega)]
  simp [numN_codeN]

/-- what is read is a form -/
theorem sevens_readC : ∀ (f : Nat) (u c : Int) (r : List Int) (C : Int) (n : Nat), (∀ b ∈ r, 0 ≤ b ∧ b ≤ 255) → 1 ≤ u → readC (f + 1) u c r = some (C, n) → ∃ m, C = c + m * u ∧ 0 ≤ m ∧ (0 < m ∨ u = 1) ∧ sevens f m = r.take n ∧ n ≤ r.length := by
  intro f
  induction f with
  | zero =>
    intro u c r C n hr hu h
    cases r with
    | nil => simp [readC] at h
    | cons b r =>
      have hb := hr b (by simp)
      simp only [readC] at h
      by_cases hlt : b < 128
      · rw [if_pos hlt] at h
        split at h
        · rename_i hc
          simp only [Option.some.injEq, Prod.mk.injEq] at h
          obtain ⟨rfl, rfl⟩ := h
          have e : b % 128 = b := by omega
          exact ⟨b, by rw [e], hb.1, hc.1, by simp [sevens], by simp⟩
        · cases h
      · rw [if_neg hlt] at h; simp at h
  | succ f ih =>
    intro u c r C n hr hu h
    cases r with
    | nil => simp [readC] at h
    | cons b r =>
      have hb := hr b (by simp)
      rw [readC] at h
      by_cases hlt : b < 128
      · rw [if_pos hlt] at h
        split at h
        · rename_i hc
          simp only [Option.some.injEq, Prod.mk.injEq] at h
          obtain ⟨rfl, rfl⟩ := h
          have e : b % 128 = b := by omega
          exact ⟨b, by rw [e], hb.1, hc.1, by rw [sevens_stop _ (by omega)]; simp, by simp⟩
        · cases h
      · rw [if_neg hlt] at h
        cases hq : readC (f + 1) (u * 128) (c + b % 128 * u) r with
        | none => rw [hq] at h; cases h
        | some q =>
          obtain ⟨C', n'⟩ := q
          rw [hq] at h
          simp only [Option.map_some, Option.some.injEq, Prod.mk.injEq] at h
          obtain ⟨rfl, rfl⟩ := h
          obtain ⟨m, h1, h2, h3, h4, h5⟩ := ih (u * 128) _ r C' n' (fun x hx => hr x (by simp [hx])) (by omega) hq
          have hm : 0 < m := by
            rcases h3 with h3 | h3
            · exact h3
            · omega
          refine ⟨b % 128 + 128 * m, ?_, by omega, .inl (by omega), ?_, by simp; omega⟩
          · rw [h1, Int.add_mul, Int.mul_comm u 128, ← Int.mul_assoc, Int.mul_comm m 128, Int.add_assoc]
          · rw [sevens_go f (by omega), show (b % 128 + 128 * m) % 128 + 128 = b by omega, show (b % 128 + 128 * m) / 128 = m by omega, h4]
            simp
theorem readC_high : ∀ (f : Nat) (u c : Int) (r : List Int) (C : Int) (n : Nat), readC f u c r = some (C, n) → C ≤ 4000000000 := by
  intro f
  induction f with
  | zero => intro u c r C n h; cases h
  | succ f ih =>
    intro u c r C n h
    cases r with
    | nil => simp [readC] at h
    | cons b r =>
      rw [readC] at h
      split at h
      · split at h
        · rename_i hc
          simp only [Option.some.injEq, Prod.mk.injEq] at h
          obtain ⟨rfl, rfl⟩ := h
          exact hc.2
        · cases h
      · cases hq : readC f (u * 128) (c + b % 128 * u) r with
        | none => rw [hq] at h; cases h
        | some q =>
          obtain ⟨C', n'⟩ := q
          rw [hq] at h
          simp only [Option.map_some, Option.some.injEq, Prod.mk.injEq] at h
          obtain ⟨rfl, rfl⟩ := h
          exact ih _ _ _ _ _ hq
/-- a number that is read: its bytes stand there -/
theorem putN_getN {bs : List Int} (hb : inByte bs) {at_ x p : Int} (h : getN bs at_ = some (x, p)) : 0 ≤ at_ ∧ p = at_ + (putN x).length ∧ 0 < (putN x).length ∧ p ≤ bs.length ∧ (-2000000000 ≤ x ∧ x ≤ 2000000000) ∧ putN x = (bs.drop at_.toNat).take (putN x).length := by
  unfold getN at h
  cases hq : readC 5 1 0 (fromB bs at_) with
  | none => rw [hq] at h; cases h
  | some q =>
    obtain ⟨C, n⟩ := q
    rw [hq] at h
    simp only [Option.map_some, Option.some.injEq, Prod.mk.injEq] at h
    obtain ⟨rfl, rfl⟩ := h
    have hat : 0 ≤ at_ := by
      by_cases h0 : at_ < 0
      · unfold fromB at hq; rw [if_pos h0] at hq; simp [readC] at hq
      · omega
    have hf : fromB bs at_ = bs.drop at_.toNat := by unfold fromB; rw [if_neg (by omega)]
    rw [hf] at hq
    have hi := readC_high _ _ _ _ _ _ hq
    obtain ⟨m, h1, h2, h3, h4, h5⟩ := sevens_readC 4 1 0 _ C n (fun b hb' => hb b (List.mem_of_mem_drop hb')) (by decide) hq
    have hm : C = m := by omega
    subst hm
    have hr := (numN_in h2).2 hi
    have hp : putN (numN C) = (bs.drop at_.toNat).take n := by rw [putN_in hr.1 hr.2, codeN_numN h2, h4]
    have hl : (putN (numN C)).length = n := by rw [hp]; simp at h5 ⊢; omega
    have hpos : 0 < (putN (numN C)).length := by rw [putN_in hr.1 hr.2]; exact sevens_pos _ _
    refine ⟨hat, by rw [hl], hpos, ?_, hr, by rw [hl]; exact hp⟩
    simp at h5
    rw [hl] at hpos
    omega

end Go.Proofs.YtfedeljadckjiaaDoor
