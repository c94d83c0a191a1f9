/-
  What FnKids asks of a tree, as plain facts.
-/
import Derived.Test.YtmpiijphpnjlnaaDKid
import Derived.Test.YtmpiijphpnjlnaaPart3
namespace Go.Proofs.Ytmpiijphpnjlnaa
open Go.RowKit

theorem prefK_all : ∀ {l : List Int} {k : Int} {j : Nat}, j < prefK l k → iAt l j ≤ k
  | [], k, j, h => by simp [prefK] at h
  | c :: l, k, j, h => by
    by_cases hc : c ≤ k
    · rw [prefK_cons_pos hc] at h
      cases j with
      | zero => simpa [iAt] using hc
      | succ j =>
        have := prefK_all (l := l) (k := k) (j := j) (by omega)
        simpa [iAt] using this
    · rw [prefK_cons_neg hc] at h
      omega
theorem prefK_stop : ∀ {l : List Int} {k : Int}, prefK l k < l.length → k < iAt l (prefK l k)
  | [], k, h => by simp [prefK] at h
  | c :: l, k, h => by
    by_cases hc : c ≤ k
    · rw [prefK_cons_pos hc] at h ⊢
      have := prefK_stop (l := l) (k := k) (by simpa using h)
      simpa [iAt] using this
    · rw [prefK_cons_neg hc]
      simp [iAt]
      omega

theorem kids_no {T : Tr} (k : Int) (h : okT T = false) : ((depthT T : Nat) : Int) = 0 ∧ kidOfT T k = -1 := by
  refine ⟨?_, by rw [kidOfT, if_pos (.inr h)]⟩
  unfold okT at h
  have := of_decide_eq_false h
  omega
theorem kids_leaf {T : Tr} (k : Int) (h : okT T = true) (hl : T.leaf = true) : ((depthT T : Nat) : Int) = 1 ∧ kidOfT T k = -1 ∧ pairsF 8 T = T.pairs.length ∧ msgsF 8 T = 0 := by
  obtain ⟨h1, _, _⟩ := ok_sh h
  generalize depthT T = d at *
  cases d with
  | zero => exact h1.elim
  | succ d =>
    rcases h1 with ⟨_, rfl, _, _, h5, h6⟩ | ⟨h0, _⟩
    · refine ⟨by omega, by rw [kidOfT, if_pos (.inl hl)], ?_, ?_⟩
      · rw [pairsF, h5]; rfl
      · rw [msgsF, h5, h6]; rfl
    · rw [hl] at h0; cases h0
theorem kids_fork {T : Tr} (k : Int) (h : okT T = true) (hl : T.leaf = false) : 1 < ((depthT T : Nat) : Int) ∧ kidOfT T k = (prefK T.cuts k : Nat) ∧ prefK T.cuts k ≤ T.cuts.length ∧ T.cuts.length + 1 = T.kids.length ∧ T.buf.length ≤ msgsF 8 T := by
  obtain ⟨h1, _, _⟩ := ok_sh h
  refine ⟨?_, by rw [kidOfT, if_neg (by rw [hl, h]; simp)], prefK_le _ _, ?_, by rw [msgsF]; omega⟩
  · generalize depthT T = d at *
    cases d with
    | zero => exact h1.elim
    | succ d =>
      rcases h1 with ⟨h0, _⟩ | ⟨_, _, h2, _, _, _, h6⟩
      · rw [hl] at h0; cases h0
      · cases d with
        | zero =>
          cases hk : T.kids with
          | nil => rw [hk] at h2; simp at h2
          | cons t l => exact (h6 t (by rw [hk]; simp)).elim
        | succ d => omega
  · generalize depthT T = d at *
    cases d with
    | zero => exact h1.elim
    | succ d =>
      rcases h1 with ⟨h0, _⟩ | ⟨_, _, _, _, h4, _⟩
      · rw [hl] at h0; cases h0
      · exact h4

theorem big_any (a : Option Addr) (n cap : Nat) (hn : n ≤ maxLen) (w : World) :
    Calls Try.prog 8 #[.slice a n cap] w fun e w' => e = .returned (.bool (decide (n > 1048576))) ∧ w' = w := by
  unfold maxLen at hn
  by_cases h : n > 1048576
  · have hd : decide ((n : Int) > 1048576) = true := decide_eq_true (by omega)
    go_enter Try.func8, Try.ntmps8
    go_wp2
    go_ret
    exact ⟨ret_bool (by simp [h]; try omega), rfl⟩
  · go_enter Try.func8, Try.ntmps8
    go_wp2
    go_ret
    exact ⟨ret_bool (by simp [h]; try omega), rfl⟩

end Go.Proofs.Ytmpiijphpnjlnaa
