/-
  What shrunk messages do to a map, key by key; shrunk again they are the same; plain mathematics.
-/
import Derived.Test.YtlapcjbhhonagaaMathShrink
import Derived.Test.YtlapcjbhhonagaaImplAll
import Derived.Test.YtlapcjbhhonagaaMathRul
namespace Go.Proofs.Ytlapcjbhhonagaa

/-- what a message makes of the value of key k -/
def effK (k : Int) (s : Int × Bool) (m : Int × Int × Int) : Int × Bool :=
  if m.2.1 = k then (if m.1 = 1 then (m.2.2, true) else if m.1 = 2 then (0, false) else if m.1 = 3 then (clampI (s.1 + m.2.2), true) else s) else s
theorem effK_other {k : Int} {s : Int × Bool} {m : Int × Int × Int} (h : m.2.1 ≠ k) : effK k s m = s := by rw [effK, if_neg h]
theorem effK_fold_other {k : Int} (l : ML) (h : ∀ m ∈ l, m.2.1 ≠ k) (s : Int × Bool) : l.foldl (effK k) s = s := by
  induction l generalizing s with
  | nil => rfl
  | cons m l ih => rw [List.foldl_cons, effK_other (h m (by simp))]; exact ih (fun q hq => h q (by simp [hq])) s
theorem getP_doP {l : PL} (hA : Asc l) (m : Int × Int × Int) (k : Int) : getP (doP l m) k = effK k (getP l k) m := by
  unfold doP effK
  by_cases hk : m.2.1 = k
  · subst hk
    rw [if_pos rfl]
    split
    · exact getP_putF_same hA _ _
    · split
      · exact getP_delF_same _ _
      · split
        · exact getP_putF_same hA _ _
        · rfl
  · rw [if_neg hk]
    split
    · exact getP_putF_other hA (Ne.symm hk)
    · split
      · exact getP_delF_other _ (Ne.symm hk)
      · split
        · exact getP_putF_other hA (Ne.symm hk)
        · rfl
theorem getP_fold (ms : ML) (hok : ∀ m ∈ ms, okM m = true) (k : Int) {l : PL} (h : MapP l) : MapP (ms.foldl doP l) ∧ getP (ms.foldl doP l) k = ms.foldl (effK k) (getP l k) := by
  induction ms generalizing l with
  | nil => exact ⟨h, rfl⟩
  | cons m ms ih =>
    have := ih (fun q hq => hok q (by simp [hq])) (doP_mapP h (hok m (by simp)))
    rw [getP_doP h.1] at this
    exact this
theorem getP_gt {l : PL} {k : Int} (h : ∀ q ∈ l, k < q.1) : getP l k = (0, false) := by
  induction l with
  | nil => rfl
  | cons p l ih =>
    have := h p (by simp)
    rw [getP, if_neg (by omega)]
    exact ih (fun q hq => h q (by simp [hq]))
/-- two maps of the same values are one -/
theorem asc_ext : ∀ {l1 l2 : PL}, Asc l1 → Asc l2 → (∀ k, getP l1 k = getP l2 k) → l1 = l2
  | [], [], _, _, _ => rfl
  | [], q :: l2, _, _, h => by have := h q.1; simp [getP] at this
  | p :: l1, [], _, _, h => by have := h p.1; simp [getP] at this
  | p :: l1, q :: l2, h1, h2, h => by
    obtain ⟨a1, a2⟩ := h1.cons
    obtain ⟨b1, b2⟩ := h2.cons
    have e : p.1 = q.1 := by
      by_cases hlt : p.1 < q.1
      · have := h p.1
        rw [getP_gt (l := q :: l2) (fun r hr => by rcases List.mem_cons.1 hr with rfl | hr; exact hlt; have := b1 r hr; omega)] at this
        simp [getP] at this
      · by_cases hgt : q.1 < p.1
        · have := h q.1
          rw [getP_gt (l := p :: l1) (fun r hr => by rcases List.mem_cons.1 hr with rfl | hr; exact hgt; have := a1 r hr; omega)] at this
          simp [getP] at this
        · omega
    have ev : p.2 = q.2 := by
      have := h p.1
      rw [getP, if_pos rfl, getP, if_pos e.symm] at this
      exact congrArg Prod.fst this
    have ep : p = q := Prod.ext e ev
    subst ep
    refine congrArg (p :: ·) (asc_ext a2 b2 (fun k => ?_))
    by_cases hk : p.1 = k
    · subst hk; rw [getP_gt a1, getP_gt b1]
    · have := h k
      rw [getP, if_neg hk, getP, if_neg hk] at this
      exact this

/-- an overruled value is forgotten -/
theorem over_forgets {k : Int} (l : ML) (h : overB l k = true) (s s' : Int × Bool) : (okMs l).foldl (effK k) s = (okMs l).foldl (effK k) s' := by
  induction l generalizing s s' with
  | nil => simp [overB] at h
  | cons m l ih =>
    rw [overB, List.any_cons, ← overB, Bool.or_eq_true] at h
    by_cases h1 : okM m = true
    · rw [okMs, List.filter_cons_of_pos h1, List.foldl_cons, List.foldl_cons]
      rcases h with h | h
      · simp only [h1, Bool.true_and, Bool.and_eq_true, beq_iff_eq, rulB, Bool.or_eq_true] at h
        have e : effK k s m = effK k s' m := by
          unfold effK
          rw [if_pos h.1, if_pos h.1]
          rcases h.2 with h2 | h2
          · rw [if_pos h2, if_pos h2]
          · have h3 : m.1 ≠ 1 := by omega
            rw [if_neg h3, if_neg h3, if_pos h2, if_pos h2]
        rw [e]
      · exact ih h _ _
    · rw [okMs, List.filter_cons_of_neg h1]
      rcases h with h | h
      · simp [h1] at h
      · exact ih h _ _
theorem kept_eff (k : Int) (l : ML) (s : Int × Bool) : (keptF l).foldl (effK k) s = (okMs l).foldl (effK k) s := by
  induction l generalizing s with
  | nil => rfl
  | cons m l ih =>
    rw [keptF]
    by_cases h1 : okM m = true
    · have e : okMs (m :: l) = m :: okMs l := by rw [okMs, List.filter_cons_of_pos h1]; rfl
      rw [e, List.foldl_cons]
      by_cases h2 : m.1 = 4
      · rw [if_neg (by simp [h2]), ih]
        have : effK k s m = s := by simp [effK, h2]
        rw [this]
      · cases hb : overB l m.2.1
        · rw [if_pos ⟨h1, h2, rfl⟩, List.foldl_cons, ih]
        · rw [if_neg (by simp), ih]
          by_cases hk : m.2.1 = k
          · subst hk; exact over_forgets l hb _ _
          · rw [effK_other hk]
    · have e : okMs (m :: l) = okMs l := by rw [okMs, List.filter_cons_of_neg h1]; rfl
      rw [if_neg (by simp [h1]), e, ih]

/-- of two messages of one key the first is no put, the second no ruler -/
def Good (A : ML) : Prop := A.Pairwise fun a b => a.2.1 = b.2.1 → a.1 ≠ 1 ∧ rulB b = false
theorem joins_spec {A : ML} {m : Int × Int × Int} (h : joinsB A m = true) : m.1 = 3 ∧ ∃ n, firstI A m.2.1 = (n : Nat) ∧ n < A.length ∧ mK A n = m.2.1 ∧ mO A n = 1 := by
  simp only [joinsB, Bool.and_eq_true, decide_eq_true_eq, beq_iff_eq] at h
  obtain ⟨h0, h1, h3⟩ := h
  refine ⟨h3, ?_⟩
  rcases firstI_spec A m.2.1 with ⟨q, _⟩ | ⟨n, q1, q2, q3, q4⟩
  · omega
  · exact ⟨n, q1, q2, q3, by rw [q1] at h1; simpa using h1⟩
theorem Good.parts {X Y : ML} {p : Int × Int × Int} (h : Good (X ++ p :: Y)) : Good X ∧ (∀ b ∈ Y, p.2.1 = b.2.1 → p.1 ≠ 1 ∧ rulB b = false) ∧ Good Y ∧ (∀ a ∈ X, (a.2.1 = p.2.1 → a.1 ≠ 1 ∧ rulB p = false) ∧ ∀ b ∈ Y, a.2.1 = b.2.1 → a.1 ≠ 1 ∧ rulB b = false) := by
  obtain ⟨h1, h2, h3⟩ := List.pairwise_append.1 h
  obtain ⟨h4, h5⟩ := List.pairwise_cons.1 h2
  exact ⟨h1, h4, h5, fun a ha => ⟨h3 a ha p (by simp), fun b hb => h3 a ha b (by simp [hb])⟩⟩
theorem Good.mk {X Y : ML} {p : Int × Int × Int} (h1 : Good X) (h4 : ∀ b ∈ Y, p.2.1 = b.2.1 → p.1 ≠ 1 ∧ rulB b = false) (h5 : Good Y) (h3 : ∀ a ∈ X, (a.2.1 = p.2.1 → a.1 ≠ 1 ∧ rulB p = false) ∧ ∀ b ∈ Y, a.2.1 = b.2.1 → a.1 ≠ 1 ∧ rulB b = false) : Good (X ++ p :: Y) := by
  refine List.pairwise_append.2 ⟨h1, List.pairwise_cons.2 ⟨h4, h5⟩, fun a ha b hb => ?_⟩
  rcases List.mem_cons.1 hb with rfl | hb
  · exact (h3 a ha).1
  · exact (h3 a ha).2 b hb
theorem split_at (A : ML) {n : Nat} (h : n < A.length) : A = A.take n ++ (mO A n, mK A n, mV A n) :: A.drop (n + 1) := by
  rw [← drop_consM A n h, List.take_append_drop]
theorem step_set {A : ML} {m : Int × Int × Int} {n : Nat} (hj : joinsB A m = true) (hf : firstI A m.2.1 = (n : Nat)) (hn : n < A.length) (hk : mK A n = m.2.1) (ho : mO A n = 1) :
    stepS A m = A.take n ++ (1, m.2.1, clampI (mV A n + m.2.2)) :: A.drop (n + 1) := by
  rw [stepS, if_pos hj, hf, Int.toNat_natCast, ho, hk, List.set_eq_take_append_cons_drop, if_pos hn]
theorem good_step {A : ML} (hA : Good A) {m : Int × Int × Int} (hm : okN m) (hr : rulB m = true → ∀ a ∈ A, a.2.1 ≠ m.2.1) : Good (stepS A m) := by
  cases hj : joinsB A m
  · have e : stepS A m = A ++ [m] := by rw [stepS, hj]; rfl
    rw [e]
    refine Good.mk hA (fun b hb => by simp at hb) List.Pairwise.nil (fun a ha => ⟨fun he => ?_, fun b hb => by simp at hb⟩)
    have hnr : rulB m = false := by
      cases hb : rulB m
      · rfl
      · exact absurd he (hr hb a ha)
    refine ⟨fun h1 => ?_, hnr⟩
    have h3 : m.1 = 3 := by
      have := (msgOkB_in hm.1).1
      have h4 := hm.2
      simp only [rulB, Bool.or_eq_false_iff, beq_eq_false_iff_ne] at hnr
      have := hnr.1; have := hnr.2
      omega
    rcases firstI_spec A m.2.1 with ⟨_, q⟩ | ⟨n, q1, q2, q3, q4⟩
    · exact q a ha he
    · have ho : mO A n ≠ 1 := fun ho => by
        have : joinsB A m = true := by simp [joinsB, q1, ho, h3]
        rw [hj] at this; cases this
      obtain ⟨i, hi, rfl⟩ := List.getElem_of_mem ha
      rw [ml_at A i hi] at he h1
      simp only at he h1
      have hin : i ≠ n := fun e => by subst e; exact ho h1
      have hlt : ¬ i < n := fun hlt => q4 i hlt he
      have := List.pairwise_iff_getElem.1 hA n i q2 hi (by omega)
      rw [ml_at A n q2, ml_at A i hi] at this
      have := (this (by simp only; omega)).2
      simp [rulB, h1] at this
  · obtain ⟨h3, n, q1, q2, q3, q4⟩ := joins_spec hj
    rw [step_set hj q1 q2 q3 q4]
    have hs := split_at A q2
    rw [q3, q4] at hs
    rw [hs] at hA
    obtain ⟨g1, g2, g3, g4⟩ := hA.parts
    exact Good.mk g1 g2 g3 g4
theorem eff_step {A : ML} (hA : Good A) (m : Int × Int × Int) (k : Int) (s : Int × Bool) : (stepS A m).foldl (effK k) s = effK k (A.foldl (effK k) s) m := by
  cases hj : joinsB A m
  · have e : stepS A m = A ++ [m] := by rw [stepS, hj]; rfl
    rw [e, List.foldl_append]; rfl
  · obtain ⟨h3, n, q1, q2, q3, q4⟩ := joins_spec hj
    rw [step_set hj q1 q2 q3 q4]
    have hs := split_at A q2
    rw [q3, q4] at hs
    have hA' := hA
    rw [hs] at hA'
    obtain ⟨_, g2, _, _⟩ := hA'.parts
    have hY : ∀ b ∈ A.drop (n + 1), b.2.1 ≠ m.2.1 := fun b hb he => (g2 b hb he.symm).1 rfl
    have hA2 : A.foldl (effK k) s = (A.drop (n + 1)).foldl (effK k) (effK k ((A.take n).foldl (effK k) s) (1, m.2.1, mV A n)) := by
      conv => lhs; rw [hs]
      rw [List.foldl_append, List.foldl_cons]
    rw [hA2, List.foldl_append, List.foldl_cons]
    by_cases hk : m.2.1 = k
    · subst hk
      rw [effK_fold_other _ hY, effK_fold_other _ hY]
      simp [effK, h3]
    · rw [effK_other (m := (1, m.2.1, clampI (mV A n + m.2.2))) hk, effK_other (m := (1, m.2.1, mV A n)) hk, effK_other (m := m) hk]
theorem fold_good (l : ML) (hl : NoRul l) (ho : ∀ m ∈ l, okN m) (A : ML) (h : Good A) (hA : ∀ m ∈ l, rulB m = true → ∀ a ∈ A, a.2.1 ≠ m.2.1) (k : Int) (s : Int × Bool) :
    Good (l.foldl stepS A) ∧ (l.foldl stepS A).foldl (effK k) s = l.foldl (effK k) (A.foldl (effK k) s) := by
  induction l generalizing A with
  | nil => exact ⟨h, rfl⟩
  | cons m l ih =>
    obtain ⟨hl1, hl2⟩ := List.pairwise_cons.1 hl
    rw [List.foldl_cons, List.foldl_cons, ← eff_step h]
    refine ih hl2 (fun q hq => ho q (by simp [hq])) (stepS A m) (good_step h (ho m (by simp)) (hA m (by simp))) (fun q hq hr => ?_)
    refine step_keys A m q.2.1 (hA q (by simp [hq]) hr) (fun he => ?_)
    have := hl1 q hq he
    rw [hr] at this; cases this
theorem shrink_good (ms : ML) (k : Int) (s : Int × Bool) : Good (shrinkF ms) ∧ (shrinkF ms).foldl (effK k) s = (okMs ms).foldl (effK k) s := by
  have := fold_good (keptF ms) (kept_norul ms) (fun m hm => (kept_sub ms m hm).2) [] List.Pairwise.nil (fun m _ _ a ha => by simp at ha) k s
  rw [← kept_eff]
  exact this
theorem okMs_shrink (ms : ML) : okMs (shrinkF ms) = shrinkF ms := List.filter_eq_self.2 (fun a ha => (shrinkF_ok ms a ha).1)

/-- SHRUNK MESSAGES DO WHAT THEY DID -/
theorem allL_shrink (l : PL) (ms : ML) : allL l (shrinkF ms) = allL l ms := by
  cases hb : mapOkB l
  · rw [allL_of_not hb, allL_of_not hb]
  · have h := (mapOkB_iff l).1 hb
    rw [allL_ok h, allL_ok h, okMs_shrink]
    have g1 := fun k => getP_fold (shrinkF ms) (fun m hm => (shrinkF_ok ms m hm).1) k h
    have g2 := fun k => getP_fold (okMs ms) (fun m hm => (List.mem_filter.1 hm).2) k h
    refine asc_ext (g1 0).1.1 (g2 0).1.1 (fun k => ?_)
    rw [(g1 k).2, (g2 k).2, (shrink_good ms k _).2]

theorem kept_good {A : ML} (hA : Good A) (ho : ∀ a ∈ A, okN a) : keptF A = A := by
  induction A with
  | nil => rfl
  | cons m l ih =>
    obtain ⟨h1, h2⟩ := List.pairwise_cons.1 hA
    have hm := ho m (by simp)
    have hb : overB l m.2.1 = false := by
      rw [overB, List.any_eq_false]
      intro b hb hc
      simp only [Bool.and_eq_true, beq_iff_eq] at hc
      have := (h1 b hb hc.2.1.symm).2
      rw [hc.2.2] at this; cases this
    rw [keptF, if_pos ⟨hm.1, hm.2, hb⟩, ih h2 (fun a ha => ho a (by simp [ha]))]
theorem fold_same (l : ML) (A : ML) (h : Good (A ++ l)) : l.foldl stepS A = A ++ l := by
  induction l generalizing A with
  | nil => simp
  | cons m l ih =>
    have hj : joinsB A m = false := by
      rw [Bool.eq_false_iff]
      intro hj
      obtain ⟨_, n, q1, q2, q3, q4⟩ := joins_spec hj
      have := (h.parts.2.2.2 _ (mem_mO q2)).1 q3
      exact this.1 q4
    have e : stepS A m = A ++ [m] := by rw [stepS, hj]; rfl
    rw [List.foldl_cons, e, ih (A ++ [m]) (by simpa using h)]
    simp
/-- SHRUNK AGAIN THEY ARE THE SAME -/
theorem shrink_again (ms : ML) : shrinkF (shrinkF ms) = shrinkF ms := by
  have h := (shrink_good ms 0 (0, false)).1
  have e := kept_good h (shrinkF_ok ms)
  rw [shrinkF, e, fold_same _ [] (by simpa using h)]
  simp

end Go.Proofs.Ytlapcjbhhonagaa
