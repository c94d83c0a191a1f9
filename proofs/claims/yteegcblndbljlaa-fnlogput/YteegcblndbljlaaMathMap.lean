/-
  Maps as ascending lists of pairs: putting, deleting, getting; plain mathematics.
-/
import Derived.Test.YteegcblndbljlaaMathGet
namespace Go.Proofs.Yteegcblndbljlaa

abbrev PL := List (Int × Int)
def keys (l : PL) : List Int := l.map (·.1)
def vals (l : PL) : List Int := l.map (·.2)
theorem keys_length (l : PL) : (keys l).length = l.length := by simp [keys]
theorem vals_length (l : PL) : (vals l).length = l.length := by simp [vals]

/-- ascending by key -/
def Asc (l : PL) : Prop := (keys l).Pairwise (· < ·)
theorem Asc.le {l : PL} (h : Asc l) : (keys l).Pairwise (· ≤ ·) := h.imp (fun h => Int.le_of_lt h)
theorem Asc.cons {p : Int × Int} {l : PL} (h : Asc (p :: l)) : (∀ q ∈ l, p.1 < q.1) ∧ Asc l := by
  have := List.pairwise_cons.1 (show (p.1 :: keys l).Pairwise (· < ·) from h)
  exact ⟨fun q hq => this.1 q.1 (List.mem_map_of_mem hq), this.2⟩
theorem Asc.mk {p : Int × Int} {l : PL} (h1 : ∀ q ∈ l, p.1 < q.1) (h2 : Asc l) : Asc (p :: l) := by
  show (p.1 :: keys l).Pairwise (· < ·)
  refine List.pairwise_cons.2 ⟨fun a ha => ?_, h2⟩
  obtain ⟨q, hq, rfl⟩ := List.mem_map.1 ha
  exact h1 q hq

def putF (l : PL) (k v : Int) : PL := l.filter (fun p => decide (p.1 < k)) ++ (k, v) :: l.filter (fun p => decide (k < p.1))
def delF (l : PL) (k : Int) : PL := l.filter (fun p => decide (p.1 ≠ k))

theorem filter_gt {l : PL} {k : Int} (h : ∀ q ∈ l, k < q.1) : l.filter (fun p => decide (p.1 < k)) = [] ∧ l.filter (fun p => decide (k < p.1)) = l ∧ l.filter (fun p => decide (p.1 ≠ k)) = l := by
  refine ⟨List.filter_eq_nil_iff.2 (fun q hq => ?_), List.filter_eq_self.2 (fun q hq => ?_), List.filter_eq_self.2 (fun q hq => ?_)⟩
  · have := h q hq; simp; omega
  · have := h q hq; simp; omega
  · have := h q hq; simp; omega
theorem countP_gt {l : PL} {k : Int} (h : ∀ q ∈ l, k < q.1) : (keys l).countP (fun x => decide (x < k)) = 0 := by
  rw [List.countP_eq_zero]
  intro a ha
  obtain ⟨q, hq, rfl⟩ := List.mem_map.1 ha
  have := h q hq; simp; omega
theorem contains_gt {l : PL} {k : Int} (h : ∀ q ∈ l, k < q.1) : (keys l).contains k = false := by
  rw [Bool.eq_false_iff]
  intro hc
  have hm : k ∈ keys l := by simpa using hc
  obtain ⟨q, hq, e⟩ := List.mem_map.1 hm
  have := h q hq; omega

/-- the three cases of a map whose first pair is p -/
theorem keys_cons (p : Int × Int) (l : PL) : keys (p :: l) = p.1 :: keys l := rfl
theorem vals_cons (p : Int × Int) (l : PL) : vals (p :: l) = p.2 :: vals l := rfl

theorem count_cons (p : Int × Int) (l : PL) (k : Int) : (keys (p :: l)).countP (fun x => decide (x < k)) = (keys l).countP (fun x => decide (x < k)) + if p.1 < k then 1 else 0 := by
  rw [keys_cons, List.countP_cons]; simp
theorem contains_cons (p : Int × Int) (l : PL) (k : Int) : (keys (p :: l)).contains k = (decide (k = p.1) || (keys l).contains k) := by
  rw [keys_cons, List.contains_cons]
  congr 1

/-- PUT, FOUND: the keys stay, one value turns -/
theorem put_found_keys {l : PL} (h : Asc l) {k v : Int} (hf : (keys l).contains k = true) : keys (putF l k v) = keys l ∧ vals (putF l k v) = (vals l).set ((keys l).countP (fun x => decide (x < k))) v := by
  induction l with
  | nil => simp [keys] at hf
  | cons p l ih =>
    obtain ⟨h1, h2⟩ := h.cons
    by_cases hlt : p.1 < k
    · have hf' : (keys l).contains k = true := by rw [contains_cons] at hf; simpa [show ¬ k = p.1 by omega] using hf
      have := ih h2 hf'
      have e : putF (p :: l) k v = p :: putF l k v := by simp [putF, hlt, show ¬ k < p.1 by omega]
      rw [e, count_cons, if_pos hlt, keys_cons, keys_cons, vals_cons, vals_cons, this.1, this.2]
      simp
    · have hp : k = p.1 := by
        rw [contains_cons] at hf
        rcases Bool.or_eq_true _ _ ▸ hf with h' | h'
        · simpa using h'
        · have hm : k ∈ keys l := by simpa using h'
          obtain ⟨q, hq, e⟩ := List.mem_map.1 hm
          have := h1 q hq; omega
      have hg : ∀ q ∈ l, k < q.1 := fun q hq => by rw [hp]; exact h1 q hq
      obtain ⟨f1, f2, _⟩ := filter_gt hg
      have e : putF (p :: l) k v = (k, v) :: l := by simp [putF, hlt, show ¬ k < p.1 by omega, f1, f2]
      rw [e, count_cons, countP_gt hg, if_neg hlt]
      simp [keys_cons, vals_cons, hp]

/-- PUT, NOT FOUND: both rows are opened at one place -/
theorem put_new_keys {l : PL} (h : Asc l) {k v : Int} (hf : (keys l).contains k = false) :
    keys (putF l k v) = (keys l).take ((keys l).countP (fun x => decide (x < k))) ++ k :: (keys l).drop ((keys l).countP (fun x => decide (x < k))) ∧
    vals (putF l k v) = (vals l).take ((keys l).countP (fun x => decide (x < k))) ++ v :: (vals l).drop ((keys l).countP (fun x => decide (x < k))) := by
  induction l with
  | nil => simp [keys, vals, putF]
  | cons p l ih =>
    obtain ⟨h1, h2⟩ := h.cons
    rw [contains_cons, Bool.or_eq_false_iff] at hf
    have hne : ¬ k = p.1 := by simpa using hf.1
    by_cases hlt : p.1 < k
    · have := ih h2 hf.2
      have e : putF (p :: l) k v = p :: putF l k v := by simp [putF, hlt, show ¬ k < p.1 by omega]
      rw [e, count_cons, if_pos hlt, keys_cons, keys_cons, vals_cons, vals_cons, this.1, this.2]
      simp
    · have hg : ∀ q ∈ l, k < q.1 := fun q hq => by have := h1 q hq; omega
      obtain ⟨f1, f2, _⟩ := filter_gt hg
      have e : putF (p :: l) k v = (k, v) :: p :: l := by simp [putF, hlt, show k < p.1 by omega, f1, f2]
      rw [e, count_cons, countP_gt hg, if_neg hlt]
      simp [keys_cons, vals_cons]

theorem del_found_keys {l : PL} (h : Asc l) {k : Int} (hf : (keys l).contains k = true) :
    keys (delF l k) = (keys l).take ((keys l).countP (fun x => decide (x < k))) ++ (keys l).drop ((keys l).countP (fun x => decide (x < k)) + 1) ∧
    vals (delF l k) = (vals l).take ((keys l).countP (fun x => decide (x < k))) ++ (vals l).drop ((keys l).countP (fun x => decide (x < k)) + 1) := by
  induction l with
  | nil => simp [keys] at hf
  | cons p l ih =>
    obtain ⟨h1, h2⟩ := h.cons
    by_cases hlt : p.1 < k
    · have hf' : (keys l).contains k = true := by rw [contains_cons] at hf; simpa [show ¬ k = p.1 by omega] using hf
      have := ih h2 hf'
      have e : delF (p :: l) k = p :: delF l k := by simp [delF, show ¬ p.1 = k by omega]
      rw [e, count_cons, if_pos hlt, keys_cons, keys_cons, vals_cons, vals_cons, this.1, this.2]
      simp
    · have hp : k = p.1 := by
        rw [contains_cons] at hf
        rcases Bool.or_eq_true _ _ ▸ hf with h' | h'
        · simpa using h'
        · have hm : k ∈ keys l := by simpa using h'
          obtain ⟨q, hq, e⟩ := List.mem_map.1 hm
          have := h1 q hq; omega
      have hg : ∀ q ∈ l, k < q.1 := fun q hq => by rw [hp]; exact h1 q hq
      obtain ⟨_, _, f3⟩ := filter_gt hg
      have e : delF (p :: l) k = l := by rw [delF, List.filter_cons_of_neg (by simp [hp]), f3]
      rw [e, count_cons, countP_gt hg, if_neg hlt]
      simp [keys_cons, vals_cons]

theorem del_none {l : PL} {k : Int} (hf : (keys l).contains k = false) : delF l k = l := by
  rw [delF, List.filter_eq_self]
  intro q hq
  simp only [ne_eq, decide_not, Bool.not_eq_eq_eq_not, Bool.not_true, decide_eq_false_iff_not]
  intro e
  have : k ∈ keys l := List.mem_map.2 ⟨q, hq, e⟩
  rw [Bool.eq_false_iff] at hf
  exact hf (by simpa using this)

theorem get_keys {l : PL} (h : Asc l) (k : Int) : (if (keys l).contains k then ((vals l).getD ((keys l).countP (fun x => decide (x < k))) 0, true) else (0, false)) = getP l k := by
  induction l with
  | nil => simp [keys, getP]
  | cons p l ih =>
    obtain ⟨h1, h2⟩ := h.cons
    have := ih h2
    rw [contains_cons, count_cons, getP, vals_cons]
    by_cases hlt : p.1 < k
    · rw [if_neg (show ¬ p.1 = k by omega), if_pos hlt, ← this]
      simp [show ¬ k = p.1 by omega]
    · by_cases he : p.1 = k
      · have hg : ∀ q ∈ l, k < q.1 := fun q hq => by have := h1 q hq; omega
        rw [countP_gt hg, if_neg hlt, if_pos he]
        simp [he.symm]
      · have hg : ∀ q ∈ l, k < q.1 := fun q hq => by have := h1 q hq; omega
        rw [if_neg he, ← this, contains_gt hg]
        simp [show ¬ k = p.1 by omega]

theorem putF_asc {l : PL} (h : Asc l) (k v : Int) : Asc (putF l k v) := by
  show (keys (l.filter _ ++ (k, v) :: l.filter _)).Pairwise (· < ·)
  rw [keys, List.map_append, List.map_cons]
  refine List.pairwise_append.2 ⟨?_, List.pairwise_cons.2 ⟨?_, ?_⟩, ?_⟩
  · exact List.pairwise_map.2 ((List.pairwise_map.1 h).filter _)
  · intro a ha
    obtain ⟨q, hq, rfl⟩ := List.mem_map.1 ha
    simpa using (List.mem_filter.1 hq).2
  · exact List.pairwise_map.2 ((List.pairwise_map.1 h).filter _)
  · intro a ha b hb
    obtain ⟨q, hq, rfl⟩ := List.mem_map.1 ha
    have h1 : q.1 < k := by simpa using (List.mem_filter.1 hq).2
    rcases List.mem_cons.1 hb with rfl | hb
    · exact h1
    · obtain ⟨r, hr, rfl⟩ := List.mem_map.1 hb
      have h2 : k < r.1 := by simpa using (List.mem_filter.1 hr).2
      omega
theorem delF_asc {l : PL} (h : Asc l) (k : Int) : Asc (delF l k) := List.pairwise_map.2 ((List.pairwise_map.1 h).filter _)

/-- each pair within its limits -/
def PairIn (p : Int × Int) : Prop := (0 ≤ p.1 ∧ p.1 ≤ 999) ∧ (-1000000000 ≤ p.2 ∧ p.2 ≤ 1000000000)
def MapP (l : PL) : Prop := Asc l ∧ ∀ p ∈ l, PairIn p

theorem okAt_iff {l : PL} {i : Nat} : okAt l i = true ↔ PairIn (kOf l i, vOf l i) ∧ (i = 0 ∨ kOf l (i - 1) < kOf l i) := by
  simp [okAt, PairIn, inB, and_assoc]

theorem mapOkB_iff (l : PL) : mapOkB l = true ↔ MapP l := by
  constructor
  · intro h
    have hat : ∀ i, i < l.length → okAt l i = true := fun i hi => mapOkB_at h hi
    have hlt : ∀ j, j < l.length → ∀ i, i < j → kOf l i < kOf l j := by
      intro j
      induction j with
      | zero => intro _ i hi; omega
      | succ j ih =>
        intro hj i hi
        have h1 := (okAt_iff.1 (hat (j + 1) hj)).2
        have h2 : kOf l j < kOf l (j + 1) := by simpa using h1
        by_cases e : i = j
        · subst e; exact h2
        · have := ih (by omega) i (by omega); omega
    have hk : ∀ i (hi : i < l.length), l[i] = (kOf l i, vOf l i) := fun i hi => by simp [kOf, vOf, List.getD, hi]
    refine ⟨?_, ?_⟩
    · refine List.pairwise_map.2 (List.pairwise_iff_getElem.2 (fun i j hi hj hij => ?_))
      rw [hk i hi, hk j hj]
      exact hlt j hj i hij
    · intro p hp
      obtain ⟨i, hi, rfl⟩ := List.getElem_of_mem hp
      rw [hk i hi]
      exact (okAt_iff.1 (hat i hi)).1
  · rintro ⟨h1, h2⟩
    have hk : ∀ i (hi : i < l.length), l[i] = (kOf l i, vOf l i) := fun i hi => by simp [kOf, vOf, List.getD, hi]
    refine mapOkB_true (fun i hi => okAt_iff.2 ⟨?_, ?_⟩)
    · rw [← hk i hi]; exact h2 _ (List.getElem_mem hi)
    · by_cases h0 : i = 0
      · exact Or.inl h0
      · right
        have := List.pairwise_iff_getElem.1 (List.pairwise_map.1 h1) (i - 1) i (by omega) hi (by omega)
        rw [hk i hi, hk (i - 1) (by omega)] at this
        exact this

def clampI (x : Int) : Int := if x < -1000000000 then -1000000000 else if 1000000000 < x then 1000000000 else x
theorem clampI_in (x : Int) : -1000000000 ≤ clampI x ∧ clampI x ≤ 1000000000 := by unfold clampI; split <;> (try split) <;> omega

/-- the map behind a message that is right -/
def doP (l : PL) (m : Int × Int × Int) : PL :=
  if m.1 = 1 then putF l m.2.1 m.2.2 else if m.1 = 2 then delF l m.2.1 else if m.1 = 3 then putF l m.2.1 (clampI ((getP l m.2.1).1 + m.2.2)) else l
/-- the map behind a message -/
def doL (l : PL) (m : Int × Int × Int) : PL := if mapOkB l = true ∧ msgOkB m.1 m.2.1 m.2.2 = true then doP l m else l
def allL (l : PL) (ms : List (Int × Int × Int)) : PL := ms.foldl doL l

theorem putF_mapP {l : PL} (h : MapP l) {k v : Int} (hk : 0 ≤ k ∧ k ≤ 999) (hv : -1000000000 ≤ v ∧ v ≤ 1000000000) : MapP (putF l k v) := by
  refine ⟨putF_asc h.1 k v, fun p hp => ?_⟩
  rcases List.mem_append.1 hp with h1 | h1
  · exact h.2 p (List.mem_filter.1 h1).1
  · rcases List.mem_cons.1 h1 with rfl | h2
    · exact ⟨hk, hv⟩
    · exact h.2 p (List.mem_filter.1 h2).1
theorem delF_mapP {l : PL} (h : MapP l) (k : Int) : MapP (delF l k) := ⟨delF_asc h.1 k, fun p hp => h.2 p (List.mem_filter.1 hp).1⟩
theorem putF_length (l : PL) (k v : Int) : (putF l k v).length ≤ l.length + 1 := by
  have h : ∀ (l : PL), (l.filter (fun p => decide (p.1 < k))).length + (l.filter (fun p => decide (k < p.1))).length ≤ l.length := by
    intro l
    induction l with
    | nil => simp
    | cons p l ih =>
      by_cases h1 : p.1 < k
      · have h2 : ¬ k < p.1 := by omega
        simp [h1, h2]; omega
      · by_cases h2 : k < p.1
        · simp [h1, h2]; omega
        · simp [h1, h2]; omega
  have := h l
  simp [putF]; omega
theorem delF_length (l : PL) (k : Int) : (delF l k).length ≤ l.length := List.length_filter_le _ _

theorem msgOkB_in {o k v : Int} (h : msgOkB o k v = true) : (1 ≤ o ∧ o ≤ 4) ∧ (0 ≤ k ∧ k ≤ 999) ∧ (-1000000000 ≤ v ∧ v ≤ 1000000000) := by
  simp only [msgOkB, Bool.and_eq_true, inB_iff] at h
  exact ⟨h.1, h.2.1, h.2.2.1⟩

theorem doP_mapP {l : PL} (h : MapP l) {m : Int × Int × Int} (hm : msgOkB m.1 m.2.1 m.2.2 = true) : MapP (doP l m) := by
  obtain ⟨_, h2, h3⟩ := msgOkB_in hm
  unfold doP
  split
  · exact putF_mapP h h2 h3
  · split
    · exact delF_mapP h _
    · split
      · exact putF_mapP h h2 (clampI_in _)
      · exact h
theorem doP_length (l : PL) (m : Int × Int × Int) : (doP l m).length ≤ l.length + 1 := by
  unfold doP
  split
  · exact putF_length _ _ _
  · split
    · have := delF_length l m.2.1; omega
    · split
      · exact putF_length _ _ _
      · omega
theorem doL_length (l : PL) (m : Int × Int × Int) : (doL l m).length ≤ l.length + 1 := by
  unfold doL
  split
  · exact doP_length _ _
  · omega
theorem allL_length (l : PL) (ms : List (Int × Int × Int)) : (allL l ms).length ≤ l.length + ms.length := by
  induction ms generalizing l with
  | nil => simp [allL]
  | cons m ms ih =>
    have h1 := ih (doL l m)
    have h2 := doL_length l m
    simp only [allL, List.foldl_cons, List.length_cons] at *
    omega
theorem doL_of_not {l : PL} (h : mapOkB l = false) (m : Int × Int × Int) : doL l m = l := by simp [doL, h]
theorem allL_of_not {l : PL} (h : mapOkB l = false) (ms : List (Int × Int × Int)) : allL l ms = l := by
  induction ms with
  | nil => rfl
  | cons m ms ih => rw [allL, List.foldl_cons, doL_of_not h]; exact ih
theorem doL_mapP {l : PL} (h : MapP l) (m : Int × Int × Int) : MapP (doL l m) := by
  unfold doL
  split
  · exact doP_mapP h (by simp_all)
  · exact h
theorem allL_mapP {l : PL} (h : MapP l) (ms : List (Int × Int × Int)) : MapP (allL l ms) := by
  induction ms generalizing l with
  | nil => exact h
  | cons m ms ih => exact ih (doL_mapP h m)

end Go.Proofs.Yteegcblndbljlaa
