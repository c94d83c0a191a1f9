/-
  What chapter 3 says of trees, as plain functions: what is pending of a key, what a key has; plain mathematics.
-/
import Derived.Test.YtccdleafkhnfmaaGreatPart3
import Derived.Test.YtccdleafkhnfmaaGreatMathDo
namespace Go.Proofs.YtccdleafkhnfmaaGreat

/-- the messages of a key -/
def ofK (ms : ML) (k : Int) : ML := ms.filter fun m => decide (m.2.1 = k)
theorem ofK_append (a b : ML) (k : Int) : ofK (a ++ b) k = ofK a k ++ ofK b k := by simp [ofK]
theorem ofK_all (ms : ML) (k : Int) : ∀ m ∈ ofK ms k, m.2.1 = k := fun m hm => by simpa using (List.mem_filter.1 hm).2
theorem ofK_length (ms : ML) (k : Int) : (ofK ms k).length ≤ ms.length := List.length_filter_le _ _
theorem ofK_id {ms : ML} {k : Int} (h : ∀ m ∈ ms, m.2.1 = k) : ofK ms k = ms := List.filter_eq_self.2 fun m hm => by simpa using h m hm
theorem ofK_succ (l : ML) (k : Int) (i : Nat) (h : i < l.length) : ofK (l.take (i + 1)) k = if mK l i = k then ofK (l.take i) k ++ [(mO l i, mK l i, mV l i)] else ofK (l.take i) k := by
  rw [take_succM l i h, ofK_append]
  by_cases hk : mK l i = k
  · simp [hk, ofK]
  · simp [hk, ofK]

/-- which kid a key belongs to -/
def kidK (T : Tr) (k : Int) : Tr := kidT T (prefK T.cuts k)
/-- the leaf of a key, in a tree of a height of at most n -/
def leafF : Nat → Tr → Int → Tr
  | 0, T, _ => T
  | n + 1, T, k => if T.leaf = true then T else leafF n (kidK T k) k
/-- what is pending of a key -/
def pendF : Nat → Tr → Int → ML
  | 0, _, _ => []
  | n + 1, T, k => if T.leaf = true then [] else pendF n (kidK T k) k ++ ofK T.buf k
theorem pendF_all : ∀ (n : Nat) (T : Tr) (k : Int), ∀ m ∈ pendF n T k, m.2.1 = k
  | 0, _, _ => fun m hm => by simp [pendF] at hm
  | n + 1, T, k => fun m hm => by
    rw [pendF] at hm
    split at hm
    · simp at hm
    · rcases List.mem_append.1 hm with h | h
      · exact pendF_all n _ k m h
      · exact ofK_all _ _ m h

/-- what a message of its key makes of what a key has -/
def updV (x : Int × Bool) (m : Int × Int × Int) : Int × Bool :=
  if msgOkB m.1 m.2.1 m.2.2 = true then (if m.1 = 1 then (m.2.2, true) else if m.1 = 2 then (0, false) else if m.1 = 3 then (clampI (x.1 + m.2.2), true) else x) else x
def updA (x : Int × Bool) (ms : ML) : Int × Bool := ms.foldl updV x
theorem updA_append (x : Int × Bool) (a b : ML) : updA x (a ++ b) = updA (updA x a) b := by simp [updA, List.foldl_append]

theorem getP_doL_same {l : PL} (h : MapP l) (o k v : Int) : getP (doL l (o, k, v)) k = updV (getP l k) (o, k, v) := by
  have hm : mapOkB l = true := (mapOkB_iff l).2 h
  unfold doL updV
  by_cases hk : msgOkB o k v = true
  · simp only [hm, hk, and_self, if_true]
    unfold doP
    simp only
    split
    · exact getP_putF_same h.1 k v
    · split
      · exact getP_delF_same l k
      · split
        · exact getP_putF_same h.1 k _
        · rfl
  · simp [hk]
theorem getP_allL {l : PL} (h : MapP l) (ms : ML) (k : Int) : getP (allL l ms) k = updA (getP l k) (ofK ms k) := by
  induction ms generalizing l with
  | nil => rfl
  | cons m ms ih =>
    obtain ⟨o, j, v⟩ := m
    have e : allL l ((o, j, v) :: ms) = allL (doL l (o, j, v)) ms := rfl
    rw [e, ih (doL_mapP h _)]
    by_cases hj : j = k
    · subst hj
      rw [getP_doL_same h]
      simp [ofK, updA]
    · rw [doL_other (Ne.symm hj)]
      simp [ofK, hj]

/-- what a key has, in a tree -/
def valF (n : Nat) (T : Tr) (k : Int) : Int × Bool := updA (getP (leafF n T k).pairs k) (pendF n T k)

/-- the one pair of a key, where there is one -/
def oneP (l : PL) (k : Int) : PL := if (getP l k).2 = true then [(k, (getP l k).1)] else []
theorem getP_snd {l : PL} {k : Int} (h : (getP l k).2 = true) : (k, (getP l k).1) ∈ l := by
  induction l with
  | nil => simp [getP] at h
  | cons p l ih =>
    rw [getP] at h ⊢
    split
    · rename_i hp
      rw [← hp]; exact List.mem_cons_self
    · rename_i hp
      rw [if_neg hp] at h
      exact List.mem_cons_of_mem _ (ih h)
theorem getP_false {l : PL} {k : Int} (h : ¬ (getP l k).2 = true) : getP l k = (0, false) := by
  induction l with
  | nil => rfl
  | cons p l ih =>
    rw [getP] at h ⊢
    split
    · rename_i hp; rw [if_pos hp] at h; simp at h
    · rename_i hp; rw [if_neg hp] at h; exact ih h
theorem oneP_mapP {l : PL} (h : MapP l) (k : Int) : MapP (oneP l k) := by
  unfold oneP
  split
  · rename_i hk
    refine ⟨by simp [Asc, keys], fun p hp => ?_⟩
    obtain rfl := List.mem_singleton.1 hp
    exact h.2 _ (getP_snd hk)
  · exact ⟨by simp [Asc, keys], fun p hp => by simp at hp⟩
theorem oneP_get (l : PL) (k : Int) : getP (oneP l k) k = getP l k := by
  unfold oneP
  split
  · rename_i hk
    rw [getP, if_pos rfl]
    exact Prod.ext rfl hk.symm
  · rename_i hk
    rw [getP_false hk]; rfl
theorem oneP_length (l : PL) (k : Int) : (oneP l k).length ≤ 1 := by unfold oneP; split <;> simp

/-- TREES THAT ARE RIGHT -/
theorem depthF_leaf_ok {m : Nat} {T : Tr} {lo hi : Int} (h : depthF (m + 1) T lo hi ≠ 0) (hl : T.leaf = true) : leafOkB T lo hi = true := by
  rw [depthF_leaf hl] at h
  split at h
  · assumption
  · exact absurd rfl h
theorem depthF_fork_ok {m : Nat} {T : Tr} {lo hi : Int} (h : depthF (m + 1) T lo hi ≠ 0) (hl : T.leaf = false) : forkOkB T lo hi = true ∧ ∀ i, i < T.kids.length → depthF m (kidT T i) (fromT T lo i) (toT T hi i) ≠ 0 := by
  cases hf : forkOkB T lo hi
  · rw [depthF_no hl hf] at h; exact absurd rfl h
  · refine ⟨rfl, fun i hi0 h0 => ?_⟩
    rw [depthF_fork hl hf] at h
    exact h (kidsD_zero (d := kidF m T lo hi) hi0 h0)
theorem forkOk_parts {T : Tr} {lo hi : Int} (h : forkOkB T lo hi = true) : T.pairs = [] ∧ (2 ≤ T.kids.length ∧ T.kids.length ≤ 4) ∧ T.cuts.length + 1 = T.kids.length ∧ T.buf.length ≤ 6 ∧ bufOkB T lo hi = true ∧ cutsOkB T lo hi = true := by
  simp only [forkOkB, shapeB, Bool.and_eq_true, decide_eq_true_eq] at h
  obtain ⟨⟨h1, h2, h3, h4⟩, h5, h6⟩ := h
  exact ⟨List.length_eq_zero_iff.1 h1, h2, h3, h4, h5, h6⟩
theorem leafOk_parts {T : Tr} {lo hi : Int} (h : leafOkB T lo hi = true) : MapP T.pairs ∧ T.pairs.length ≤ 4 ∧ T.kids = [] ∧ T.buf = [] ∧ T.cuts = [] ∧ ∀ p ∈ T.pairs, lo ≤ p.1 ∧ p.1 < hi := by
  simp only [leafOkB, Bool.and_eq_true, decide_eq_true_eq] at h
  obtain ⟨h1, h2, h3, h4⟩ := h
  refine ⟨(mapOkB_iff _).1 h1, h2, List.length_eq_zero_iff.1 (by omega), List.length_eq_zero_iff.1 (by omega), List.length_eq_zero_iff.1 (by omega), fun p hp => ?_⟩
  obtain ⟨i, hi0, rfl⟩ := List.getElem_of_mem hp
  have h5 := inB_iff.1 (allB_at h4 hi0)
  simp only [kOf, List.getD, List.getElem?_eq_getElem hi0, Option.getD_some] at h5
  omega
theorem bufOk_parts {T : Tr} {lo hi : Int} (h : bufOkB T lo hi = true) : ∀ m ∈ T.buf, msgOkB m.1 m.2.1 m.2.2 = true ∧ lo ≤ m.2.1 ∧ m.2.1 < hi := by
  intro m hm
  obtain ⟨i, hi0, rfl⟩ := List.getElem_of_mem hm
  have h5 := allB_at h hi0
  simp only [msgAt, Bool.and_eq_true] at h5
  have h6 := inB_iff.1 h5.2.2
  rw [ml_at _ _ hi0]
  exact ⟨h5.1, h6.1, by show mK T.buf i < hi; omega⟩
theorem okT_depth {T : Tr} (h : okT T = true) : depthF 7 T 0 1000 ≠ 0 := by
  have h2 : 0 < depthF 7 T 0 1000 := of_decide_eq_true h
  exact Nat.pos_iff_ne_zero.1 h2
/-- the kid of a key stands in its place -/
theorem kidK_in {T : Tr} {lo hi : Int} (h : forkOkB T lo hi = true) (k : Int) : prefK T.cuts k < T.kids.length := by
  have := (forkOk_parts h).2.2.1
  have := prefK_le T.cuts k
  omega
theorem leafF_ok : ∀ {m : Nat} {T : Tr} {lo hi : Int} (k : Int), depthF m T lo hi ≠ 0 → MapP (leafF m T k).pairs ∧ (leafF m T k).pairs.length ≤ 4 ∧ (leafF m T k).leaf = true
  | 0, _, _, _, _, h => absurd rfl h
  | m + 1, T, lo, hi, k, h => by
    cases hl : T.leaf
    · have hf := depthF_fork_ok h hl
      rw [leafF, if_neg (by rw [hl]; simp)]
      exact leafF_ok k (hf.2 _ (kidK_in hf.1 k))
    · rw [leafF, if_pos hl]
      have := leafOk_parts (depthF_leaf_ok h hl)
      exact ⟨this.1, this.2.1, hl⟩
theorem pendF_length : ∀ {m : Nat} {T : Tr} {lo hi : Int} (k : Int), depthF m T lo hi ≠ 0 → (pendF m T k).length ≤ 6 * m
  | 0, _, _, _, _, h => absurd rfl h
  | m + 1, T, lo, hi, k, h => by
    rw [pendF]
    cases hl : T.leaf
    · have hf := depthF_fork_ok h hl
      have h1 := pendF_length k (hf.2 _ (kidK_in hf.1 k))
      have h2 := ofK_length T.buf k
      have h3 := (forkOk_parts hf.1).2.2.2.1
      rw [if_neg (by simp), List.length_append]
      show (pendF m (kidT T (prefK T.cuts k)) k).length + _ ≤ _
      omega
    · simp

/-- TreeGet's two ways are one -/
theorem get_ways {T : Tr} (h : okT T = true) (k : Int) : getP (allL (leafF 7 T k).pairs (pendF 7 T k)) k = getP (allL (oneP (leafF 7 T k).pairs k) (pendF 7 T k)) k := by
  have hM := (leafF_ok k (okT_depth h)).1
  rw [getP_allL hM, getP_allL (oneP_mapP hM k), oneP_get]

end Go.Proofs.YtccdleafkhnfmaaGreat
