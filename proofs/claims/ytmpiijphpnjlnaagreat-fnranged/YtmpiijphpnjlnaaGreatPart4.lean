/-
  What a message makes of a map, key by key; plain mathematics.
  What chapter 3 says of trees, as plain functions: what is pending of a key, what a key has; plain mathematics.
  What map a tree tells, as plain functions: kid by kid as the model says it, leaf by leaf as the program does; plain mathematics.
  Appending to a row of one's own: one element that was just laid; a whole list.
  Contracts of the program's messages behind an interface, and of its sum at the limit.
  Shrinking messages, as the model and as the program do it; plain mathematics: both come to one.
  What comes of a tree that is given messages, as plain functions; shapes and weights.
  Appending a list to a row of one's own, at a step of a region that draws its order.
  Rows and trees with the blocks that they lie in: what stays when other blocks are written.
-/
import Derived.Test.YtmpiijphpnjlnaaGreatPart1
import Derived.Test.YtmpiijphpnjlnaaGreatPart3
import Derived.Laws.AppendOwnNone
import Derived.Deep.RegionHeld3
import Derived.Deep.AppendLies
import Derived.Test.YtmpiijphpnjlnaaGreatPart2
namespace Go.Proofs.YtmpiijphpnjlnaaGreat

theorem putF_cons_lt {p : Int × Int} {l : PL} {k v : Int} (h : p.1 < k) : putF (p :: l) k v = p :: putF l k v := by
  simp [putF, h, show ¬ k < p.1 by omega]
theorem putF_cons_eq {p : Int × Int} {l : PL} {k v : Int} (hg : ∀ q ∈ l, p.1 < q.1) (h : p.1 = k) : putF (p :: l) k v = (k, v) :: l := by
  obtain ⟨f1, f2, _⟩ := filter_gt (k := k) (fun q hq => by have := hg q hq; omega)
  simp [putF, show ¬ p.1 < k by omega, show ¬ k < p.1 by omega, f1, f2]
theorem putF_cons_gt {p : Int × Int} {l : PL} {k v : Int} (hg : ∀ q ∈ l, p.1 < q.1) (h : k < p.1) : putF (p :: l) k v = (k, v) :: p :: l := by
  obtain ⟨f1, f2, _⟩ := filter_gt (k := k) (fun q hq => by have := hg q hq; omega)
  simp [putF, show ¬ p.1 < k by omega, h, f1, f2]

theorem getP_putF_other {l : PL} (h : Asc l) {j k v : Int} (hj : j ≠ k) : getP (putF l k v) j = getP l j := by
  induction l with
  | nil => simp [putF, getP, Ne.symm hj]
  | cons p l ih =>
    obtain ⟨h1, h2⟩ := h.cons
    by_cases hlt : p.1 < k
    · rw [putF_cons_lt hlt, getP, getP, ih h2]
    · by_cases he : p.1 = k
      · rw [putF_cons_eq h1 he, getP, getP, if_neg (by simpa using Ne.symm hj), if_neg (by omega)]
      · rw [putF_cons_gt h1 (by omega), getP, if_neg (by simpa using Ne.symm hj)]
theorem getP_putF_same {l : PL} (h : Asc l) (k v : Int) : getP (putF l k v) k = (v, true) := by
  induction l with
  | nil => simp [putF, getP]
  | cons p l ih =>
    obtain ⟨h1, h2⟩ := h.cons
    by_cases hlt : p.1 < k
    · rw [putF_cons_lt hlt, getP, if_neg (by omega), ih h2]
    · by_cases he : p.1 = k
      · rw [putF_cons_eq h1 he, getP, if_pos rfl]
      · rw [putF_cons_gt h1 (by omega), getP, if_pos rfl]
theorem getP_delF_other (l : PL) {j k : Int} (hj : j ≠ k) : getP (delF l k) j = getP l j := by
  induction l with
  | nil => rfl
  | cons p l ih =>
    by_cases he : p.1 = k
    · rw [delF, List.filter_cons_of_neg (by simp [he]), getP, if_neg (by omega)]; exact ih
    · rw [delF, List.filter_cons_of_pos (by simp [he]), getP, getP]
      have : getP (List.filter (fun p => decide (p.1 ≠ k)) l) j = getP l j := ih
      rw [this]
theorem getP_delF_same (l : PL) (k : Int) : getP (delF l k) k = (0, false) := by
  induction l with
  | nil => rfl
  | cons p l ih =>
    by_cases he : p.1 = k
    · rw [delF, List.filter_cons_of_neg (by simp [he])]; exact ih
    · rw [delF, List.filter_cons_of_pos (by simp [he]), getP, if_neg he]; exact ih
/-- WHERE NOTHING IS TO BE DONE, the map stays -/
theorem doL_stays {l : PL} {o k v : Int} (h : mapOkB l = false ∨ msgOkB o k v = false ∨ o = 4) : doL l (o, k, v) = l := by
  unfold doL
  split
  · rename_i h1
    simp only at h1
    rcases h with h | h | h
    · rw [h] at h1; cases h1.1
    · rw [h] at h1; cases h1.2
    · subst h; simp [doP]
  · rfl
theorem doL_is {l : PL} {o k v : Int} (h1 : mapOkB l = true) (h2 : msgOkB o k v = true) : doL l (o, k, v) = doP l (o, k, v) := by
  simp [doL, h1, h2]
theorem doL_other {l : PL} {o k v j : Int} (hj : j ≠ k) : getP (doL l (o, k, v)) j = getP l j := by
  unfold doL
  split
  · rename_i h1
    have hA := ((mapOkB_iff l).1 h1.1).1
    unfold doP
    simp only
    split
    · exact getP_putF_other hA hj
    · split
      · exact getP_delF_other l hj
      · split
        · exact getP_putF_other hA hj
        · rfl
  · rfl

end Go.Proofs.YtmpiijphpnjlnaaGreat

namespace Go.Proofs.YtmpiijphpnjlnaaGreat

/-- the messages of a key -/
def ofK (ms : ML) (k : Int) : ML := ms.filter fun m => decide (m.2.1 = k)
theorem ofK_append (a b : ML) (k : Int) : ofK (a ++ b) k = ofK a k ++ ofK b k := by simp [ofK]
theorem ofK_all (ms : ML) (k : Int) : ∀ m ∈ ofK ms k, m.2.1 = k := fun m hm => by simpa using (List.mem_filter.1 hm).2
theorem ofK_length (ms : ML) (k : Int) : (ofK ms k).length ≤ ms.length := List.length_filter_le _ _
theorem ofK_id {ms : ML} {k : Int} (h : ∀ m ∈ ms, m.2.1 = k) : ofK ms k = ms := List.filter_eq_self.2 fun m hm => by simpa using h m hm
theorem ofK_succ (l : ML) (k : Int) (i : Nat) (h : i < l.length) : ofK (l.take (i + 1)) k = if mK l i = k then ofK (l.take i) k ++ [(mO l i, mK l i, mV l i)] else ofK (l.take i) k := by
  rw [take_succM l i h, ofK_append]
  by_cases hk : mK l i = k
  · simp [hk, ofK]
  · simp [hk, ofK]

/-- which kid a key belongs to -/
def kidK (T : Tr) (k : Int) : Tr := kidT T (prefK T.cuts k)
/-- the leaf of a key, in a tree of a height of at most n -/
def leafF : Nat → Tr → Int → Tr
  | 0, T, _ => T
  | n + 1, T, k => if T.leaf = true then T else leafF n (kidK T k) k
/-- what is pending of a key -/
def pendF : Nat → Tr → Int → ML
  | 0, _, _ => []
  | n + 1, T, k => if T.leaf = true then [] else pendF n (kidK T k) k ++ ofK T.buf k
theorem pendF_all : ∀ (n : Nat) (T : Tr) (k : Int), ∀ m ∈ pendF n T k, m.2.1 = k
  | 0, _, _ => fun m hm => by simp [pendF] at hm
  | n + 1, T, k => fun m hm => by
    rw [pendF] at hm
    split at hm
    · simp at hm
    · rcases List.mem_append.1 hm with h | h
      · exact pendF_all n _ k m h
      · exact ofK_all _ _ m h

/-- what a message of its key makes of what a key has -/
def updV (x : Int × Bool) (m : Int × Int × Int) : Int × Bool :=
  if msgOkB m.1 m.2.1 m.2.2 = true then (if m.1 = 1 then (m.2.2, true) else if m.1 = 2 then (0, false) else if m.1 = 3 then (clampI (x.1 + m.2.2), true) else x) else x
def updA (x : Int × Bool) (ms : ML) : Int × Bool := ms.foldl updV x
theorem updA_append (x : Int × Bool) (a b : ML) : updA x (a ++ b) = updA (updA x a) b := by simp [updA, List.foldl_append]

theorem getP_doL_same {l : PL} (h : MapP l) (o k v : Int) : getP (doL l (o, k, v)) k = updV (getP l k) (o, k, v) := by
  have hm : mapOkB l = true := (mapOkB_iff l).2 h
  unfold doL updV
  by_cases hk : msgOkB o k v = true
  · simp only [hm, hk, and_self, if_true]
    unfold doP
    simp only
    split
    · exact getP_putF_same h.1 k v
    · split
      · exact getP_delF_same l k
      · split
        · exact getP_putF_same h.1 k _
        · rfl
  · simp [hk]
theorem getP_allL {l : PL} (h : MapP l) (ms : ML) (k : Int) : getP (allL l ms) k = updA (getP l k) (ofK ms k) := by
  induction ms generalizing l with
  | nil => rfl
  | cons m ms ih =>
    obtain ⟨o, j, v⟩ := m
    have e : allL l ((o, j, v) :: ms) = allL (doL l (o, j, v)) ms := rfl
    rw [e, ih (doL_mapP h _)]
    by_cases hj : j = k
    · subst hj
      rw [getP_doL_same h]
      simp [ofK, updA]
    · rw [doL_other (Ne.symm hj)]
      simp [ofK, hj]

/-- what a key has, in a tree -/
def valF (n : Nat) (T : Tr) (k : Int) : Int × Bool := updA (getP (leafF n T k).pairs k) (pendF n T k)

/-- the one pair of a key, where there is one -/
def oneP (l : PL) (k : Int) : PL := if (getP l k).2 = true then [(k, (getP l k).1)] else []
theorem getP_snd {l : PL} {k : Int} (h : (getP l k).2 = true) : (k, (getP l k).1) ∈ l := by
  induction l with
  | nil => simp [getP] at h
  | cons p l ih =>
    rw [getP] at h ⊢
    split
    · rename_i hp
      rw [← hp]; exact List.mem_cons_self
    · rename_i hp
      rw [if_neg hp] at h
      exact List.mem_cons_of_mem _ (ih h)
theorem getP_false {l : PL} {k : Int} (h : ¬ (getP l k).2 = true) : getP l k = (0, false) := by
  induction l with
  | nil => rfl
  | cons p l ih =>
    rw [getP] at h ⊢
    split
    · rename_i hp; rw [if_pos hp] at h; simp at h
    · rename_i hp; rw [if_neg hp] at h; exact ih h
theorem oneP_mapP {l : PL} (h : MapP l) (k : Int) : MapP (oneP l k) := by
  unfold oneP
  split
  · rename_i hk
    refine ⟨by simp [Asc, keys], fun p hp => ?_⟩
    obtain rfl := List.mem_singleton.1 hp
    exact h.2 _ (getP_snd hk)
  · exact ⟨by simp [Asc, keys], fun p hp => by simp at hp⟩
theorem oneP_get (l : PL) (k : Int) : getP (oneP l k) k = getP l k := by
  unfold oneP
  split
  · rename_i hk
    rw [getP, if_pos rfl]
    exact Prod.ext rfl hk.symm
  · rename_i hk
    rw [getP_false hk]; rfl
theorem oneP_length (l : PL) (k : Int) : (oneP l k).length ≤ 1 := by unfold oneP; split <;> simp

/-- TREES THAT ARE RIGHT -/
theorem depthF_leaf_ok {m : Nat} {T : Tr} {lo hi : Int} (h : depthF (m + 1) T lo hi ≠ 0) (hl : T.leaf = true) : leafOkB T lo hi = true := by
  rw [depthF_leaf hl] at h
  split at h
  · assumption
  · exact absurd rfl h
theorem depthF_fork_ok {m : Nat} {T : Tr} {lo hi : Int} (h : depthF (m + 1) T lo hi ≠ 0) (hl : T.leaf = false) : forkOkB T lo hi = true ∧ ∀ i, i < T.kids.length → depthF m (kidT T i) (fromT T lo i) (toT T hi i) ≠ 0 := by
  cases hf : forkOkB T lo hi
  · rw [depthF_no hl hf] at h; exact absurd rfl h
  · refine ⟨rfl, fun i hi0 h0 => ?_⟩
    rw [depthF_fork hl hf] at h
    exact h (kidsD_zero (d := kidF m T lo hi) hi0 h0)
theorem forkOk_parts {T : Tr} {lo hi : Int} (h : forkOkB T lo hi = true) : T.pairs = [] ∧ (2 ≤ T.kids.length ∧ T.kids.length ≤ 4) ∧ T.cuts.length + 1 = T.kids.length ∧ T.buf.length ≤ 6 ∧ bufOkB T lo hi = true ∧ cutsOkB T lo hi = true := by
  simp only [forkOkB, shapeB, Bool.and_eq_true, decide_eq_true_eq] at h
  obtain ⟨⟨h1, h2, h3, h4⟩, h5, h6⟩ := h
  exact ⟨List.length_eq_zero_iff.1 h1, h2, h3, h4, h5, h6⟩
theorem leafOk_parts {T : Tr} {lo hi : Int} (h : leafOkB T lo hi = true) : MapP T.pairs ∧ T.pairs.length ≤ 4 ∧ T.kids = [] ∧ T.buf = [] ∧ T.cuts = [] ∧ ∀ p ∈ T.pairs, lo ≤ p.1 ∧ p.1 < hi := by
  simp only [leafOkB, Bool.and_eq_true, decide_eq_true_eq] at h
  obtain ⟨h1, h2, h3, h4⟩ := h
  refine ⟨(mapOkB_iff _).1 h1, h2, List.length_eq_zero_iff.1 (by omega), List.length_eq_zero_iff.1 (by omega), List.length_eq_zero_iff.1 (by omega), fun p hp => ?_⟩
  obtain ⟨i, hi0, rfl⟩ := List.getElem_of_mem hp
  have h5 := inB_iff.1 (allB_at h4 hi0)
  simp only [kOf, List.getD, List.getElem?_eq_getElem hi0, Option.getD_some] at h5
  omega
theorem bufOk_parts {T : Tr} {lo hi : Int} (h : bufOkB T lo hi = true) : ∀ m ∈ T.buf, msgOkB m.1 m.2.1 m.2.2 = true ∧ lo ≤ m.2.1 ∧ m.2.1 < hi := by
  intro m hm
  obtain ⟨i, hi0, rfl⟩ := List.getElem_of_mem hm
  have h5 := allB_at h hi0
  simp only [msgAt, Bool.and_eq_true] at h5
  have h6 := inB_iff.1 h5.2.2
  rw [ml_at _ _ hi0]
  exact ⟨h5.1, h6.1, by show mK T.buf i < hi; omega⟩
theorem okT_depth {T : Tr} (h : okT T = true) : depthF 7 T 0 1000 ≠ 0 := by
  have h2 : 0 < depthF 7 T 0 1000 := of_decide_eq_true h
  exact Nat.pos_iff_ne_zero.1 h2
/-- the kid of a key stands in its place -/
theorem kidK_in {T : Tr} {lo hi : Int} (h : forkOkB T lo hi = true) (k : Int) : prefK T.cuts k < T.kids.length := by
  have := (forkOk_parts h).2.2.1
  have := prefK_le T.cuts k
  omega
theorem leafF_ok : ∀ {m : Nat} {T : Tr} {lo hi : Int} (k : Int), depthF m T lo hi ≠ 0 → MapP (leafF m T k).pairs ∧ (leafF m T k).pairs.length ≤ 4 ∧ (leafF m T k).leaf = true
  | 0, _, _, _, _, h => absurd rfl h
  | m + 1, T, lo, hi, k, h => by
    cases hl : T.leaf
    · have hf := depthF_fork_ok h hl
      rw [leafF, if_neg (by rw [hl]; simp)]
      exact leafF_ok k (hf.2 _ (kidK_in hf.1 k))
    · rw [leafF, if_pos hl]
      have := leafOk_parts (depthF_leaf_ok h hl)
      exact ⟨this.1, this.2.1, hl⟩
theorem pendF_length : ∀ {m : Nat} {T : Tr} {lo hi : Int} (k : Int), depthF m T lo hi ≠ 0 → (pendF m T k).length ≤ 6 * m
  | 0, _, _, _, _, h => absurd rfl h
  | m + 1, T, lo, hi, k, h => by
    rw [pendF]
    cases hl : T.leaf
    · have hf := depthF_fork_ok h hl
      have h1 := pendF_length k (hf.2 _ (kidK_in hf.1 k))
      have h2 := ofK_length T.buf k
      have h3 := (forkOk_parts hf.1).2.2.2.1
      rw [if_neg (by simp), List.length_append]
      show (pendF m (kidT T (prefK T.cuts k)) k).length + _ ≤ _
      omega
    · simp

/-- TreeGet's two ways are one -/
theorem get_ways {T : Tr} (h : okT T = true) (k : Int) : getP (allL (leafF 7 T k).pairs (pendF 7 T k)) k = getP (allL (oneP (leafF 7 T k).pairs k) (pendF 7 T k)) k := by
  have hM := (leafF_ok k (okT_depth h)).1
  rw [getP_allL hM, getP_allL (oneP_mapP hM k), oneP_get]

end Go.Proofs.YtmpiijphpnjlnaaGreat

namespace Go.Proofs.YtmpiijphpnjlnaaGreat

theorem getP_append_left {A B : PL} {k : Int} (h : ∀ p ∈ B, p.1 ≠ k) : getP (A ++ B) k = getP A k := by
  induction A with
  | nil =>
    show getP B k = (0, false)
    induction B with
    | nil => rfl
    | cons p B ih => rw [getP, if_neg (h p List.mem_cons_self)]; exact ih fun q hq => h q (List.mem_cons_of_mem _ hq)
  | cons p A ih => rw [List.cons_append, getP, getP, ih]
theorem getP_append_right {A B : PL} {k : Int} (h : ∀ p ∈ A, p.1 ≠ k) : getP (A ++ B) k = getP B k := by
  induction A with
  | nil => rfl
  | cons p A ih => rw [List.cons_append, getP, if_neg (h p List.mem_cons_self)]; exact ih fun q hq => h q (List.mem_cons_of_mem _ hq)
theorem getP_no {l : PL} {k : Int} (h : ∀ p ∈ l, p.1 ≠ k) : getP l k = (0, false) := by
  have := getP_append_left (A := []) h
  simpa [getP] using this
theorem asc_append {A B : PL} {c : Int} (hA : Asc A) (hB : Asc B) (h1 : ∀ p ∈ A, p.1 < c) (h2 : ∀ p ∈ B, c ≤ p.1) : Asc (A ++ B) := by
  show (keys (A ++ B)).Pairwise (· < ·)
  rw [keys, List.map_append]
  refine List.pairwise_append.2 ⟨hA, hB, fun a ha b hb => ?_⟩
  obtain ⟨p, hp, rfl⟩ := List.mem_map.1 ha
  obtain ⟨q, hq, rfl⟩ := List.mem_map.1 hb
  have := h1 p hp
  have := h2 q hq
  omega
theorem asc_ext : ∀ {l1 l2 : PL}, Asc l1 → Asc l2 → (∀ k, getP l1 k = getP l2 k) → l1 = l2
  | [], [], _, _, _ => rfl
  | [], q :: l2, _, _, h => by have := h q.1; rw [getP, getP, if_pos rfl] at this; simp at this
  | p :: l1, [], _, _, h => by have := h p.1; rw [getP, getP, if_pos rfl] at this; simp at this
  | p :: l1, q :: l2, h1, h2, h => by
    obtain ⟨a1, a2⟩ := h1.cons
    obtain ⟨b1, b2⟩ := h2.cons
    have n1 : ∀ j, j ≤ p.1 → getP l1 j = (0, false) := fun j hj => getP_no fun r hr => by have := a1 r hr; omega
    have n2 : ∀ j, j ≤ q.1 → getP l2 j = (0, false) := fun j hj => getP_no fun r hr => by have := b1 r hr; omega
    have hk : p.1 = q.1 := by
      rcases Int.lt_trichotomy p.1 q.1 with hlt | he | hgt
      · have := h p.1
        rw [getP, if_pos rfl, getP, if_neg (by omega), n2 _ (by omega)] at this
        simp at this
      · exact he
      · have := h q.1
        rw [getP, if_neg (by omega), n1 _ (by omega), getP, if_pos rfl] at this
        simp at this
    have hv := h p.1
    rw [getP, if_pos rfl, getP, if_pos hk.symm] at hv
    have hpq : p = q := Prod.ext hk (by simpa using hv)
    subst hpq
    rw [asc_ext a2 b2 fun j => ?_]
    by_cases hj : p.1 = j
    · subst hj; rw [n1 _ (Int.le_refl _), n2 _ (Int.le_refl _)]
    · have := h j
      rw [getP, if_neg hj, getP, if_neg hj] at this
      exact this

theorem asc_lenIn : ∀ {l : PL} {lo : Int}, Asc l → lo ≤ 1000 → (∀ p ∈ l, lo ≤ p.1 ∧ p.1 ≤ 999) → (l.length : Int) ≤ 1000 - lo
  | [], lo, _, h, _ => by simp; omega
  | p :: l, lo, hA, hlo, h => by
    obtain ⟨h1, h2⟩ := hA.cons
    have hp := h p List.mem_cons_self
    have := asc_lenIn (lo := p.1 + 1) h2 (by omega) fun q hq => ⟨by have := h1 q hq; omega, (h q (List.mem_cons_of_mem _ hq)).2⟩
    simp only [List.length_cons]
    omega
theorem MapP.length {l : PL} (h : MapP l) : l.length ≤ 1000 := by
  have := asc_lenIn (lo := 0) h.1 (by decide) fun p hp => (h.2 p hp).1
  omega

/-- keys within bounds -/
def KeysIn (lo hi : Int) (l : PL) : Prop := ∀ p ∈ l, lo ≤ p.1 ∧ p.1 < hi
/-- MAPS SIDE BY SIDE, with the cuts between. -/
def Chain : Int → Int → List Int → List PL → Prop
  | lo, hi, [], [M] => MapP M ∧ KeysIn lo hi M
  | lo, hi, c :: cs, M :: Ms => (MapP M ∧ KeysIn lo c M) ∧ lo < c ∧ c < hi ∧ Chain c hi cs Ms
  | _, _, _, _ => False
theorem mapP_append {A B : PL} {c : Int} (hA : MapP A) (hB : MapP B) (h1 : ∀ p ∈ A, p.1 < c) (h2 : ∀ p ∈ B, c ≤ p.1) : MapP (A ++ B) :=
  ⟨asc_append hA.1 hB.1 h1 h2, fun p hp => (List.mem_append.1 hp).elim (hA.2 p) (hB.2 p)⟩
theorem Chain.flat : ∀ {cs : List Int} {lo hi : Int} {Ms : List PL}, Chain lo hi cs Ms → MapP Ms.flatten ∧ KeysIn lo hi Ms.flatten
  | [], _, _, [M], h => by rw [List.flatten_cons, List.flatten_nil, List.append_nil]; exact h
  | [], _, _, [], h => h.elim
  | [], _, _, _ :: _ :: _, h => h.elim
  | _ :: _, _, _, [], h => h.elim
  | c :: cs, lo, hi, M :: Ms, ⟨⟨h1, h2⟩, h3, h4, h5⟩ => by
    obtain ⟨h6, h7⟩ := Chain.flat h5
    rw [List.flatten_cons]
    refine ⟨mapP_append h1 h6 (fun p hp => (h2 p hp).2) (fun p hp => (h7 p hp).1), fun p hp => ?_⟩
    rcases List.mem_append.1 hp with hp | hp
    · have := h2 p hp; omega
    · have := h7 p hp; omega
theorem prefK_cons_pos {c k : Int} {cs : List Int} (h : c ≤ k) : prefK (c :: cs) k = prefK cs k + 1 := by
  simp only [prefK]
  rw [List.takeWhile_cons_of_pos (by simpa using h), List.length_cons]
theorem prefK_cons_neg {c k : Int} {cs : List Int} (h : ¬ c ≤ k) : prefK (c :: cs) k = 0 := by simp [prefK, h]
theorem Chain.get : ∀ {cs : List Int} {lo hi : Int} {Ms : List PL} (k : Int), Chain lo hi cs Ms → getP Ms.flatten k = getP (Ms.getD (prefK cs k) []) k
  | [], _, _, [M], k, _ => by simp [prefK]
  | [], _, _, [], _, h => h.elim
  | [], _, _, _ :: _ :: _, _, h => h.elim
  | _ :: _, _, _, [], _, h => h.elim
  | c :: cs, lo, hi, M :: Ms, k, ⟨⟨h1, h2⟩, h3, h4, h5⟩ => by
    rw [List.flatten_cons]
    by_cases hc : c ≤ k
    · rw [prefK_cons_pos hc, List.getD_cons_succ, ← Chain.get k h5]
      exact getP_append_right fun p hp => by have := h2 p hp; omega
    · rw [prefK_cons_neg hc, List.getD_cons_zero]
      exact getP_append_left fun p hp => by have := (Chain.flat h5).2 p hp; omega

def frC (cs : List Int) (lo : Int) (i : Nat) : Int := if i = 0 then lo else iAt cs (i - 1)
def toC (cs : List Int) (hi : Int) (i : Nat) : Int := if i < cs.length then iAt cs i else hi
theorem Chain.of : ∀ {cs : List Int} {lo hi : Int} {Ms : List PL}, Ms.length = cs.length + 1 → (∀ i, i < cs.length → frC cs lo i < iAt cs i ∧ iAt cs i < hi) →
    (∀ i, i < Ms.length → MapP (Ms.getD i []) ∧ KeysIn (frC cs lo i) (toC cs hi i) (Ms.getD i [])) → Chain lo hi cs Ms
  | [], lo, hi, [M], _, _, h => by simpa [frC, toC, Chain] using h 0 (by simp)
  | [], _, _, [], hl, _, _ => by simp at hl
  | [], _, _, _ :: _ :: _, hl, _, _ => by simp at hl
  | _ :: _, _, _, [], hl, _, _ => by simp at hl
  | c :: cs, lo, hi, M :: Ms, hl, hc, h => by
    have h0 := h 0 (by simp)
    have c0 := hc 0 (by simp)
    simp only [frC, toC, if_true, List.length_cons, Nat.zero_lt_succ, iAt, List.getD_cons_zero] at h0 c0
    refine ⟨h0, c0.1, c0.2, Chain.of (by simpa using hl) (fun i hi0 => ?_) (fun i hi0 => ?_)⟩
    · have := hc (i + 1) (by simpa using hi0)
      simp only [frC, iAt, Nat.add_one_ne_zero, if_false, Nat.add_sub_cancel, List.getD_cons_succ] at this ⊢
      cases i with
      | zero => simpa using this
      | succ i => simpa using this
    · have := h (i + 1) (by simpa using hi0)
      simp only [frC, toC, iAt, Nat.add_one_ne_zero, if_false, Nat.add_sub_cancel, List.getD_cons_succ, List.length_cons, Nat.add_lt_add_iff_right] at this ⊢
      cases i with
      | zero => simpa using this
      | succ i => simpa using this

/-- the model's way: all kids' maps side by side, and the messages above -/
def mapF : Nat → Tr → PL
  | 0, _ => []
  | n + 1, T => allL (T.pairs ++ (T.kids.map (mapF n)).flatten) T.buf
/-- the messages of one kid -/
def mineK (cs : List Int) (i : Nat) (ms : ML) : ML := ms.filter fun m => decide (cntK cs m.2.1 cs.length = i)
/-- the program's way: the messages come down, leaf by leaf -/
def toldF : Nat → Tr → ML → PL
  | 0, _, _ => []
  | n + 1, T, ab => if T.leaf = true then allL T.pairs ab else ((List.range T.kids.length).map fun i => toldF n (kidT T i) (mineK T.cuts i (T.buf ++ ab))).flatten

theorem doL_mem {l : PL} {m : Int × Int × Int} {p : Int × Int} (h : p ∈ doL l m) : p ∈ l ∨ p.1 = m.2.1 := by
  have hput : ∀ v, p ∈ putF l m.2.1 v → p ∈ l ∨ p.1 = m.2.1 := fun v hp => by
    rcases List.mem_append.1 hp with h1 | h1
    · exact .inl (List.mem_filter.1 h1).1
    · rcases List.mem_cons.1 h1 with rfl | h2
      · exact .inr rfl
      · exact .inl (List.mem_filter.1 h2).1
  unfold doL at h
  split at h
  · unfold doP at h
    split at h
    · exact hput _ h
    · split at h
      · exact .inl (List.mem_filter.1 h).1
      · split at h
        · exact hput _ h
        · exact .inl h
  · exact .inl h
theorem allL_keys {l : PL} {ms : ML} {lo hi : Int} (h : KeysIn lo hi l) (hm : ∀ m ∈ ms, lo ≤ m.2.1 ∧ m.2.1 < hi) : KeysIn lo hi (allL l ms) := by
  induction ms generalizing l with
  | nil => exact h
  | cons m ms ih =>
    refine ih (l := doL l m) (fun p hp => ?_) fun x hx => hm x (List.mem_cons_of_mem _ hx)
    rcases doL_mem hp with h1 | h1
    · exact h p h1
    · rw [h1]; exact hm m List.mem_cons_self

theorem cut_parts {T : Tr} {lo hi : Int} (h : cutsOkB T lo hi = true) : ∀ i, i < T.cuts.length → frC T.cuts lo i < iAt T.cuts i ∧ iAt T.cuts i < hi := by
  intro i hi0
  have := inB_iff.1 (allB_at h hi0)
  simp only [fromT] at this
  unfold frC
  omega
theorem fork_kids {m : Nat} {T : Tr} {lo hi : Int} (h : depthF (m + 1) T lo hi ≠ 0) (hl : T.leaf = false) : ∀ i, i < T.kids.length → depthF m (kidT T i) (frC T.cuts lo i) (toC T.cuts hi i) ≠ 0 := (depthF_fork_ok h hl).2
theorem valF_fork {m : Nat} {T : Tr} {k : Int} (hl : T.leaf = false) : valF (m + 1) T k = updA (valF m (kidK T k) k) (ofK T.buf k) := by
  rw [valF, leafF, pendF, if_neg (by rw [hl]; simp), if_neg (by rw [hl]; simp), updA_append]; rfl
theorem valF_leaf {m : Nat} {T : Tr} {k : Int} (hl : T.leaf = true) : valF (m + 1) T k = getP T.pairs k := by
  rw [valF, leafF, pendF, if_pos hl, if_pos hl]; rfl

theorem mapF_is : ∀ {m : Nat} {T : Tr} {lo hi : Int}, depthF m T lo hi ≠ 0 → MapP (mapF m T) ∧ KeysIn lo hi (mapF m T) ∧ ∀ k, getP (mapF m T) k = valF m T k
  | 0, _, _, _, h => absurd rfl h
  | m + 1, T, lo, hi, h => by
    cases hl : T.leaf
    · have hf := (depthF_fork_ok h hl).1
      obtain ⟨q1, q2, q3, q4, q5, q6⟩ := forkOk_parts hf
      have hk := fork_kids h hl
      have hb := bufOk_parts q5
      have C : Chain lo hi T.cuts (T.kids.map (mapF m)) := by
        refine Chain.of (by rw [List.length_map]; omega) (cut_parts q6) fun i hi0 => ?_
        rw [List.length_map] at hi0
        have e : (T.kids.map (mapF m)).getD i [] = mapF m (kidT T i) := by simp [List.getD, kidT, hi0]
        rw [e]
        have := mapF_is (hk i hi0)
        exact ⟨this.1, this.2.1⟩
      obtain ⟨f1, f2⟩ := C.flat
      rw [mapF, q1, List.nil_append]
      refine ⟨allL_mapP f1 _, allL_keys f2 fun x hx => (hb x hx).2, fun k => ?_⟩
      have hi0 := kidK_in hf k
      rw [getP_allL f1, C.get k, valF_fork hl]
      have e : (T.kids.map (mapF m)).getD (prefK T.cuts k) [] = mapF m (kidK T k) := by simp [List.getD, kidT, kidK, hi0]
      have e2 : getP (mapF m (kidK T k)) k = valF m (kidK T k) k := (mapF_is (hk _ hi0)).2.2 k
      rw [e, e2]
    · obtain ⟨q1, q2, q3, q4, q5, q6⟩ := leafOk_parts (depthF_leaf_ok h hl)
      have e : mapF (m + 1) T = T.pairs := by rw [mapF, q3, q4]; simp [allL]
      rw [e]
      exact ⟨q1, q6, fun k => (valF_leaf hl).symm⟩

theorem prefK_range {cs : List Int} {lo hi k : Int} {i : Nat} (hlen : i ≤ cs.length) (h : ∀ i, i < cs.length → frC cs lo i < iAt cs i ∧ iAt cs i < hi) (hk : lo ≤ k ∧ k < hi) (e : prefK cs k = i) : frC cs lo i ≤ k ∧ k < toC cs hi i := by
  induction cs generalizing lo i with
  | nil => simp at hlen; subst hlen; simpa [frC, toC] using hk
  | cons c cs ih =>
    have c0 := h 0 (by simp)
    simp only [frC, if_true, iAt, List.getD_cons_zero] at c0
    have hs : ∀ i, i < cs.length → frC cs c i < iAt cs i ∧ iAt cs i < hi := fun i hi0 => by
      have := h (i + 1) (by simpa using hi0)
      simp only [frC, iAt, Nat.add_one_ne_zero, if_false, Nat.add_sub_cancel, List.getD_cons_succ] at this ⊢
      cases i with
      | zero => simpa using this
      | succ i => simpa using this
    by_cases hc : c ≤ k
    · rw [prefK_cons_pos hc] at e
      subst e
      have := ih (lo := c) (i := prefK cs k) (by simpa using hlen) hs ⟨hc, hk.2⟩ rfl
      simp only [frC, toC, iAt, Nat.add_one_ne_zero, if_false, Nat.add_sub_cancel, List.getD_cons_succ, List.length_cons, Nat.add_lt_add_iff_right] at this ⊢
      generalize prefK cs k = j at *
      cases j with
      | zero => simpa using this
      | succ j => simpa using this
    · rw [prefK_cons_neg hc] at e
      subst e
      simp only [frC, toC, if_true, List.length_cons, Nat.zero_lt_succ, iAt, List.getD_cons_zero]
      omega
theorem ofK_mineK {cs : List Int} {k : Int} {i : Nat} (ms : ML) (e : cntK cs k cs.length = i) : ofK (mineK cs i ms) k = ofK ms k := by
  unfold ofK mineK
  rw [List.filter_filter]
  refine List.filter_congr fun m _ => ?_
  by_cases hm : m.2.1 = k
  · simp [hm, e]
  · simp [hm]

theorem toldF_is : ∀ {m : Nat} {T : Tr} {lo hi : Int} {ab : ML}, depthF m T lo hi ≠ 0 → (∀ x ∈ ab, lo ≤ x.2.1 ∧ x.2.1 < hi) →
    MapP (toldF m T ab) ∧ KeysIn lo hi (toldF m T ab) ∧ ∀ k, getP (toldF m T ab) k = updA (valF m T k) (ofK ab k)
  | 0, _, _, _, _, h, _ => absurd rfl h
  | m + 1, T, lo, hi, ab, h, hab => by
    cases hl : T.leaf
    · have hf := (depthF_fork_ok h hl).1
      obtain ⟨q1, q2, q3, q4, q5, q6⟩ := forkOk_parts hf
      have hk := fork_kids h hl
      have hb := bufOk_parts q5
      have hall : ∀ x ∈ T.buf ++ ab, lo ≤ x.2.1 ∧ x.2.1 < hi := fun x hx => (List.mem_append.1 hx).elim (fun h => (hb x h).2) (hab x)
      have hcp : ∀ k, cntK T.cuts k T.cuts.length = prefK T.cuts k := fun k => cntK_pref (cuts_asc q6)
      have hmine : ∀ i, i < T.kids.length → ∀ x ∈ mineK T.cuts i (T.buf ++ ab), frC T.cuts lo i ≤ x.2.1 ∧ x.2.1 < toC T.cuts hi i := fun i hi0 x hx => by
        obtain ⟨h1, h2⟩ := List.mem_filter.1 hx
        rw [decide_eq_true_eq, hcp] at h2
        exact prefK_range (by omega) (cut_parts q6) (hall x h1) h2
      have e : ∀ i, i < T.kids.length → ((List.range T.kids.length).map fun i => toldF m (kidT T i) (mineK T.cuts i (T.buf ++ ab))).getD i [] = toldF m (kidT T i) (mineK T.cuts i (T.buf ++ ab)) := fun i hi0 => by simp [List.getD, hi0]
      have C : Chain lo hi T.cuts ((List.range T.kids.length).map fun i => toldF m (kidT T i) (mineK T.cuts i (T.buf ++ ab))) := by
        refine Chain.of (by simp; omega) (cut_parts q6) fun i hi0 => ?_
        rw [List.length_map, List.length_range] at hi0
        rw [e i hi0]
        have := toldF_is (hk i hi0) (hmine i hi0)
        exact ⟨this.1, this.2.1⟩
      obtain ⟨f1, f2⟩ := C.flat
      rw [toldF, if_neg (by rw [hl]; simp)]
      refine ⟨f1, f2, fun k => ?_⟩
      have hi0 := kidK_in hf k
      rw [C.get k, valF_fork hl, e _ hi0, (toldF_is (hk _ hi0) (hmine _ hi0)).2.2 k, ofK_mineK _ (hcp k), ofK_append, updA_append]; rfl
    · obtain ⟨q1, q2, q3, q4, q5, q6⟩ := leafOk_parts (depthF_leaf_ok h hl)
      rw [toldF, if_pos hl]
      exact ⟨allL_mapP q1 _, allL_keys q6 hab, fun k => by rw [getP_allL q1, valF_leaf hl]⟩

/-- THE TWO WAYS ARE ONE. -/
theorem told_map {T : Tr} (h : okT T = true) : toldF 7 T [] = mapF 7 T := by
  have h1 := mapF_is (okT_depth h)
  have h2 := toldF_is (ab := []) (okT_depth h) (fun x hx => by simp at hx)
  exact asc_ext h2.1.1 h1.1.1 fun k => by rw [h2.2.2 k, h1.2.2 k]; rfl

/-- a range of a map -/
def rangeL (l : PL) (lo hi : Int) : PL := l.filter fun p => decide (lo ≤ p.1 ∧ p.1 < hi)
theorem rangeL_length (l : PL) (lo hi : Int) : (rangeL l lo hi).length ≤ l.length := List.length_filter_le _ _
theorem rangeL_snoc (l : PL) (p : Int × Int) (lo hi : Int) : rangeL (l ++ [p]) lo hi = if lo ≤ p.1 ∧ p.1 < hi then rangeL l lo hi ++ [p] else rangeL l lo hi := by
  unfold rangeL
  rw [List.filter_append]
  by_cases h : lo ≤ p.1 ∧ p.1 < hi
  · simp [h]
  · simp [h]
/-- behind the first key that is too great nothing comes -/
theorem rangeL_stop {A B : PL} {p : Int × Int} {lo hi : Int} (h : Asc (A ++ p :: B)) (hp : hi ≤ p.1) : rangeL (A ++ p :: B) lo hi = rangeL A lo hi := by
  have hB : ∀ q ∈ p :: B, ¬ (lo ≤ q.1 ∧ q.1 < hi) := by
    have h2 : Asc (p :: B) := by
      have := List.pairwise_append.1 (show (keys A ++ keys (p :: B)).Pairwise (· < ·) by rw [keys, keys, ← List.map_append]; exact h)
      exact this.2.1
    intro q hq
    rcases List.mem_cons.1 hq with rfl | hq
    · omega
    · have := h2.cons.1 q hq; omega
  unfold rangeL
  have e : List.filter (fun p => decide (lo ≤ p.1 ∧ p.1 < hi)) (p :: B) = [] := List.filter_eq_nil_iff.2 (fun q hq => by simpa using hB q hq)
  rw [List.filter_append, e, List.append_nil]

end Go.Proofs.YtmpiijphpnjlnaaGreat

namespace Go.Proofs.YtmpiijphpnjlnaaGreat
open Go.RowKit

theorem chg_of_grown {w w' : World} {r : Option Nat} (h : w.grownBy w' r) : Chg (fun g => r = some g) w w' :=
  ⟨h.os, h.tape, h.output, h.size, fun k hk hn => h.block k hk (fun e => hn e.symm)⟩
theorem below_of_own {w w' : World} {base e size n : Nat} {v : Value} {xs : List Value} (h : w.ownsRow base e size v n xs) (hc : Chg (fun g => v.ownBlock = some g) w w') (hb : base ≤ w.heap.size) : Below base w w' :=
  hc.below (fun g _ hg => (h.lt g hg).1) hb

theorem app_one {P : Program} {ops : Array Oper} {rest : List Oper} {o : Oper} {a : Act} {Q : Exit → Act → World → Prop} (W : World) (hgd : o.guard = none) (s x : Operand) (t : TypeId)
    (ho : o.op = .call { callee := .builtin .append, args := #[s, x], argTypes := #[t, t] })
    (base : Nat) (e : TypeId) (i : TypeInfo) (z : Value) (size bytes : Nat) (ht : P.underlying t = some (.slice e)) (hi : P.info? e = some i) (hz : i.zero = some z)
    (hsize : i.size = size) (hby : i.bytes = bytes) (hzs : z.cells.size = size) (hsz : 0 < size)
    (v : Value) (n : Nat) (xs : List Value) (hs : a.eval s = v) (hown : W.ownsRow base e size v n xs)
    (news : List Value) (hx : a.eval x = .slice (some ⟨W.heap.size, 0, none⟩) 1 1) (hl : news.length = size) (h1 : ∀ u ∈ news, u.oneCell' = true)
    (h63 : n + 1 ≤ maxLen) (hbytes : (n + 1) * bytes ≤ 140737488355328) (hbase : base ≤ W.heap.size)
    (h : ∀ v' w', w'.ownsRow base e size v' (n + 1) (xs ++ news) → Chg (fun g => v.ownBlock = some g) W w' → Below base W w' → wpList P ops Q rest (a.put o.dst v') w') :
    wpList P ops Q (o :: rest) a (W.alloc (.cells news.toArray e)) := by
  refine wpList_append_own _ hgd s x t ho base e i z size bytes ht hi hz hsize hby hzs hsz v n xs hs (hown.alloc _) ⟨W.heap.size, 0, none⟩ 1 1 news hx (by omega) ?_ h1 h63 hbytes (by simp; omega) ?_
  · intro j u hj
    rw [Go.WideShapes.add_plain, Nat.zero_add, cell_of_cells (heap_alloc_new W _)]
    simpa using hj
  · intro v' w' h2 h3 _
    have hc : Chg (fun g => v.ownBlock = some g) W w' := ((Chg.refl _ _).alloc _).trans (chg_of_grown h3) (fun _ _ e => e)
    exact h v' w' h2 hc (below_of_own hown hc hbase)

theorem app_row {P : Program} {ops : Array Oper} {rest : List Oper} {o : Oper} {a : Act} {Q : Exit → Act → World → Prop} (W : World) (hgd : o.guard = none) (s x : Operand) (t : TypeId)
    (ho : o.op = .call { callee := .builtin .append, args := #[s, x], argTypes := #[t, t] })
    (base : Nat) (e : TypeId) (i : TypeInfo) (z : Value) (size bytes : Nat) (ht : P.underlying t = some (.slice e)) (hi : P.info? e = some i) (hz : i.zero = some z)
    (hsize : i.size = size) (hby : i.bytes = bytes) (hzs : z.cells.size = size) (hsz : 0 < size)
    (v : Value) (n : Nat) (xs : List Value) (hs : a.eval s = v) (hown : W.ownsRow base e size v n xs)
    (u : Value) (m : Nat) (news : List Value) (hx : a.eval x = u) (hr : Row W u m news) (hl : news.length = m * size) (h1 : ∀ y ∈ news, y.oneCell' = true)
    (h63 : n + m ≤ maxLen) (hbytes : (n + m) * bytes ≤ 140737488355328) (hbase : base ≤ W.heap.size)
    (h : ∀ v' w', w'.ownsRow base e size v' (n + m) (xs ++ news) → Chg (fun g => v.ownBlock = some g) W w' → Below base W w' → wpList P ops Q rest (a.put o.dst v') w') :
    wpList P ops Q (o :: rest) a W := by
  obtain ⟨sa, b, off, cap, rfl, hle, hmx, hsa, hcell, hnil⟩ := hr
  cases sa with
  | none =>
    have hc0 := hnil rfl
    have hm0 : m = 0 := by omega
    subst hc0
    subst hm0
    have hn0 : news = [] := List.length_eq_zero_iff.1 (by omega)
    subst hn0
    refine wpList_append_own_none hgd s x t ho base e i size ht hi v n xs hs hown hx ?_
    exact h v W (by simpa using hown) (Chg.refl _ _) (Below.refl _ _)
  | some ad =>
    refine wpList_append_own _ hgd s x t ho base e i z size bytes ht hi hz hsize hby hzs hsz v n xs hs hown ad m cap news hx hl ?_ h1 h63 hbytes hbase ?_
    · intro j y hj
      have hjl := (List.getElem?_eq_some_iff.1 hj).1
      have hm : 0 < m := by
        rcases Nat.eq_zero_or_pos m with h0 | h0
        · subst h0; omega
        · exact h0
      have := hsa hm
      simp only [Option.some.injEq] at this
      subst this
      rw [Go.WideShapes.add_plain]
      exact hcell j y hj
    · intro v' w' h2 h3 _
      have hc := chg_of_grown h3
      exact h v' w' h2 hc (below_of_own hown hc hbase)

theorem flatP_one (l : List (Int × Int)) : ∀ y ∈ flatP l, y.oneCell' = true := by
  induction l with
  | nil => intro y hy; simp [flatP] at hy
  | cons p l ih =>
    intro y hy
    rw [show flatP (p :: l) = .int .i64 p.1 :: .int .i64 p.2 :: flatP l from rfl] at hy
    rcases List.mem_cons.1 hy with rfl | hy
    · rfl
    · rcases List.mem_cons.1 hy with rfl | hy
      · rfl
      · exact ih y hy
theorem two_one (a b : Int) : ∀ u ∈ [Value.int .i64 a, Value.int .i64 b], u.oneCell' = true := by
  intro u hu; simp at hu; rcases hu with rfl | rfl <;> rfl
theorem room_of {n bytes : Nat} (h : n ≤ 8388608) (hb : bytes ≤ 256) : n + 1 ≤ maxLen ∧ (n + 1) * bytes ≤ 140737488355328 := by
  refine ⟨by unfold maxLen; omega, ?_⟩
  have : (n + 1) * bytes ≤ (n + 1) * 256 := Nat.mul_le_mul_left _ hb
  omega
theorem flatP_snoc (l : List (Int × Int)) (k v : Int) : flatP l ++ [.int .i64 k, .int .i64 v] = flatP (l ++ [(k, v)]) := by rw [flatP_append]; rfl

theorem empty_own (W : World) (base : Nat) (e size : Nat) (hb : base ≤ W.heap.size) : (W.alloc (.cells #[] e)).ownsRow base e size (.slice (some ⟨W.heap.size, 0, none⟩) 0 0) 0 [] :=
  ⟨by simp, .inr ⟨W.heap.size, 0, #[], rfl, hb, heap_alloc_new _ _, Nat.le_refl _, Nat.zero_le _, by simp, by simp⟩⟩

end Go.Proofs.YtmpiijphpnjlnaaGreat

namespace Go.Proofs.YtmpiijphpnjlnaaGreat
open Go.RowKit

theorem limit_eq (x : Int) : max (-1000000000) (min 1000000000 x) = clampI x := by
  unfold clampI; split <;> (try split) <;> omega
set_option maxHeartbeats 400000 in
theorem limitedSum_any (a b : Int) (w : World) (ha0 : -1000000000 ≤ a) (ha1 : a ≤ 1000000000) (hb0 : -1000000000 ≤ b) (hb1 : b ≤ 1000000000) :
    Calls Tryz.prog 67 #[.int .i64 a, .int .i64 b] w fun e w' => e = .returned (.int .i64 (clampI (a + b))) ∧ w' = w := by
  have E : Hid (max (-1000000000) (min 1000000000 (a + b)) = clampI (a + b)) := limit_eq _
  go_enter Tryz.func67, Tryz.ntmps67
  go_wp2
  go_ret
  exact ⟨ret_int E.out, rfl⟩

/-- a message as a value behind the interface -/
def encC (m : Int × Int × Int) : Value :=
  if m.1 = 1 then .iface 100 (.agg #[.int .i64 m.2.1, .int .i64 m.2.2]) else if m.1 = 2 then .iface 102 (.agg #[.int .i64 m.2.1]) else if m.1 = 3 then .iface 104 (.agg #[.int .i64 m.2.1, .int .i64 m.2.2]) else .iface 107 (.agg #[.int .i64 m.2.1])
theorem encC_iface (m : Int × Int × Int) : ∃ t x, encC m = .iface t x := by unfold encC; split <;> (try split) <;> (try split) <;> exact ⟨_, _, rfl⟩
theorem encC_one (m : Int × Int × Int) : (encC m).oneCell' = true := by
  obtain ⟨t, x, h⟩ := encC_iface m; rw [h]; rfl

set_option maxHeartbeats 400000 in
theorem changeOf_any (o k v : Int) (w : World) :
    Calls Tryz.prog 64 #[.agg #[.int .i64 o, .int .i64 k, .int .i64 v]] w fun e w' => e = .returned (encC (o, k, v)) ∧ Below w.heap.size w w' := by
  rcases (show o = 1 ∨ o = 2 ∨ o = 3 ∨ (o ≠ 1 ∧ o ≠ 2 ∧ o ≠ 3) from by omega) with rfl | rfl | rfl | ⟨h1, h2, h3⟩
  · have E : Hid (encC (1, k, v) = .iface 100 (.agg #[.int .i64 k, .int .i64 v])) := rfl
    go_enter Tryz.func64, Tryz.ntmps64
    go_wp2
    go_ret
    exact ⟨by rw [E.out]; rfl, (Below.refl _ _).alloc (Nat.le_refl _) _⟩
  · have E : Hid (encC (2, k, v) = .iface 102 (.agg #[.int .i64 k])) := rfl
    go_enter Tryz.func64, Tryz.ntmps64
    go_wp2
    go_ret
    exact ⟨by rw [E.out]; rfl, (Below.refl _ _).alloc (Nat.le_refl _) _⟩
  · have E : Hid (encC (3, k, v) = .iface 104 (.agg #[.int .i64 k, .int .i64 v])) := rfl
    go_enter Tryz.func64, Tryz.ntmps64
    go_wp2
    go_ret
    exact ⟨by rw [E.out]; rfl, (Below.refl _ _).alloc (Nat.le_refl _) _⟩
  · have E : Hid (encC (o, k, v) = .iface 107 (.agg #[.int .i64 k])) := by show encC _ = _; simp [encC, h1, h2, h3]
    have q1 : (o == 1) = false := by simpa using h1
    have q2 : (o == 2) = false := by simpa using h2
    have q3 : (o == 3) = false := by simpa using h3
    clear h1 h2 h3
    go_enter Tryz.func64, Tryz.ntmps64
    go_wp2
    go_ret
    exact ⟨by rw [E.out]; rfl, (Below.refl _ _).alloc (Nat.le_refl _) _⟩

theorem ta_99_99 (k v : Int) (w : World) : (Instr.typeAssert (.iface 100 (.agg #[.int .i64 k, .int .i64 v])) 71 100 true).run Tryz.prog w = .ok (.tuple #[.agg #[.int .i64 k, .int .i64 v], .bool true]) w := by kernel_rfl
theorem ta_99_105 (k v : Int) (w : World) : (Instr.typeAssert (.iface 100 (.agg #[.int .i64 k, .int .i64 v])) 71 102 true).run Tryz.prog w = .ok (.tuple #[.agg #[.int .i64 0], .bool false]) w := by kernel_rfl
theorem ta_99_101 (k v : Int) (w : World) : (Instr.typeAssert (.iface 100 (.agg #[.int .i64 k, .int .i64 v])) 71 104 true).run Tryz.prog w = .ok (.tuple #[.agg #[.int .i64 0, .int .i64 0], .bool false]) w := by kernel_rfl
theorem ta_99_107 (k v : Int) (w : World) : (Instr.typeAssert (.iface 100 (.agg #[.int .i64 k, .int .i64 v])) 71 107 true).run Tryz.prog w = .ok (.tuple #[.agg #[.int .i64 0], .bool false]) w := by kernel_rfl
theorem ta_105_99 (k : Int) (w : World) : (Instr.typeAssert (.iface 102 (.agg #[.int .i64 k])) 71 100 true).run Tryz.prog w = .ok (.tuple #[.agg #[.int .i64 0, .int .i64 0], .bool false]) w := by kernel_rfl
theorem ta_105_105 (k : Int) (w : World) : (Instr.typeAssert (.iface 102 (.agg #[.int .i64 k])) 71 102 true).run Tryz.prog w = .ok (.tuple #[.agg #[.int .i64 k], .bool true]) w := by kernel_rfl
theorem ta_105_101 (k : Int) (w : World) : (Instr.typeAssert (.iface 102 (.agg #[.int .i64 k])) 71 104 true).run Tryz.prog w = .ok (.tuple #[.agg #[.int .i64 0, .int .i64 0], .bool false]) w := by kernel_rfl
theorem ta_105_107 (k : Int) (w : World) : (Instr.typeAssert (.iface 102 (.agg #[.int .i64 k])) 71 107 true).run Tryz.prog w = .ok (.tuple #[.agg #[.int .i64 0], .bool false]) w := by kernel_rfl
theorem ta_101_99 (k v : Int) (w : World) : (Instr.typeAssert (.iface 104 (.agg #[.int .i64 k, .int .i64 v])) 71 100 true).run Tryz.prog w = .ok (.tuple #[.agg #[.int .i64 0, .int .i64 0], .bool false]) w := by kernel_rfl
theorem ta_101_105 (k v : Int) (w : World) : (Instr.typeAssert (.iface 104 (.agg #[.int .i64 k, .int .i64 v])) 71 102 true).run Tryz.prog w = .ok (.tuple #[.agg #[.int .i64 0], .bool false]) w := by kernel_rfl
theorem ta_101_101 (k v : Int) (w : World) : (Instr.typeAssert (.iface 104 (.agg #[.int .i64 k, .int .i64 v])) 71 104 true).run Tryz.prog w = .ok (.tuple #[.agg #[.int .i64 k, .int .i64 v], .bool true]) w := by kernel_rfl
theorem ta_101_107 (k v : Int) (w : World) : (Instr.typeAssert (.iface 104 (.agg #[.int .i64 k, .int .i64 v])) 71 107 true).run Tryz.prog w = .ok (.tuple #[.agg #[.int .i64 0], .bool false]) w := by kernel_rfl
theorem ta_107_99 (k : Int) (w : World) : (Instr.typeAssert (.iface 107 (.agg #[.int .i64 k])) 71 100 true).run Tryz.prog w = .ok (.tuple #[.agg #[.int .i64 0, .int .i64 0], .bool false]) w := by kernel_rfl
theorem ta_107_105 (k : Int) (w : World) : (Instr.typeAssert (.iface 107 (.agg #[.int .i64 k])) 71 102 true).run Tryz.prog w = .ok (.tuple #[.agg #[.int .i64 0], .bool false]) w := by kernel_rfl
theorem ta_107_101 (k : Int) (w : World) : (Instr.typeAssert (.iface 107 (.agg #[.int .i64 k])) 71 104 true).run Tryz.prog w = .ok (.tuple #[.agg #[.int .i64 0, .int .i64 0], .bool false]) w := by kernel_rfl
theorem ta_107_107 (k : Int) (w : World) : (Instr.typeAssert (.iface 107 (.agg #[.int .i64 k])) 71 107 true).run Tryz.prog w = .ok (.tuple #[.agg #[.int .i64 k], .bool true]) w := by kernel_rfl

theorem Tryz.info71 : (Tryz.prog.info? 71).map (fun i => (i.zero, i.size, i.bytes)) = some (some .nilIface, 1, 16) := by kernel_rfl

def okM (m : Int × Int × Int) : Bool := msgOkB m.1 m.2.1 m.2.2
def okMs (ms : ML) : ML := ms.filter okM
theorem okMs_succ (ms : ML) (k : Nat) (h : k < ms.length) : okMs (ms.take (k + 1)) = if msgOkB (mO ms k) (mK ms k) (mV ms k) = true then okMs (ms.take k) ++ [(mO ms k, mK ms k, mV ms k)] else okMs (ms.take k) := by
  rw [take_succM ms k h, okMs, List.filter_append]
  by_cases hm : msgOkB (mO ms k) (mK ms k) (mV ms k) = true
  · simp [hm, okMs, okM]
  · simp [hm, okMs, okM]
theorem okMs_length (ms : ML) : (okMs ms).length ≤ ms.length := List.length_filter_le _ _

set_option maxRecDepth 100000 in
set_option maxHeartbeats 2000000 in
theorem changesOf_any (vm : Value) (ms : ML) (w : World) (hm : Row w vm ms.length (flatM ms)) (hn : ms.length ≤ 2097152) :
    Calls Tryz.prog 43 #[vm] w fun e w' => ∃ v', e = .returned v' ∧ w'.ownsRow w.heap.size 71 1 v' (okMs ms).length ((okMs ms).map encC) ∧ Below w.heap.size w w' := by
  obtain ⟨i0, hi, hz0, hz1, hz2⟩ := info_parts Tryz.info71
  obtain ⟨a, b, off, cap, rfl, hcap, hmax, ha, ho, hk, hv⟩ := hm.msgs
  unfold maxLen at hmax
  go_enter Tryz.func43, Tryz.ntmps43
  go_wp2
  go_loopw [3, 8] (fun out i wr => ∃ k : Nat, k ≤ ms.length ∧ i = .int .i64 k ∧ wr.ownsRow w.heap.size 71 1 out (okMs (ms.take k)).length ((okMs (ms.take k)).map encC) ∧ Below w.heap.size w wr)
    (fun _ i _ => ms.length - (intOf i).toNat)
  case atStart => exact ⟨0, Nat.zero_le _, rfl, World.ownsRow_nil _ _ _ _, Below.refl _ _⟩
  case round =>
    obtain ⟨k, hkl, rfl, hown, hb⟩ := hrel
    by_cases hlt : k < ms.length
    · have hal := ha (by omega)
      subst hal
      have d0 := (hb.cell (by exact cell_lt (ho k hlt))).trans (ho k hlt)
      have d1 := (hb.cell (by exact cell_lt (hk k hlt))).trans (hk k hlt)
      have d2 := (hb.cell (by exact cell_lt (hv k hlt))).trans (hv k hlt)
      have hds := okMs_succ ms k hlt
      have hal := okMs_length (ms.take k)
      have htl : (ms.take k).length ≤ k := List.length_take_le _ _
      generalize okMs (ms.take k) = A at *
      have ba : Below w.heap.size w (wr.alloc (.cells #[.int .i64 (mO ms k), .int .i64 (mK ms k), .int .i64 (mV ms k)] 37)) := hb.alloc hb.size _
      have OW : Hid (wr.ownsRow w.heap.size 71 1 u3 A.length (A.map encC)) := hown
      clear ho hk hv hown hm
      cases hq : msgOkB (mO ms k) (mK ms k) (mV ms k)
      · have DS : Hid _ := hds.trans (if_neg (by rw [hq]; decide))
        clear hds
        go_wp2_with fail
        refine (implMsgOk_any _ _ _ _).mono ?_
        rw [hq]
        rintro e w1 ⟨rfl, b1⟩
        have B1 := ba.trans (b1.mono ba.size)
        have OW1 := owns_below (OW.out.alloc (.cells #[.int .i64 (mO ms k), .int .i64 (mK ms k), .int .i64 (mV ms k)] 37)) b1
        clear b1 ba hq
        go_wp2
        go_roundw
        case rel => exact ⟨k + 1, by omega, by go_num, by rw [DS.out]; exact OW1, B1⟩
        case measure => simp [intOf]; omega
      · have DS : Hid _ := hds.trans (if_pos hq)
        clear hds
        go_wp2_with fail
        refine (implMsgOk_any _ _ _ _).mono ?_
        rw [hq]
        rintro e w1 ⟨rfl, b1⟩
        have B1 := ba.trans (b1.mono ba.size)
        have OW1 := owns_below (OW.out.alloc (.cells #[.int .i64 (mO ms k), .int .i64 (mK ms k), .int .i64 (mV ms k)] 37)) b1
        obtain ⟨hc, _⟩ := bcell b1
        have b1' : Hid _ := b1
        have OW1' : Hid (w1.ownsRow w.heap.size 71 1 u3 A.length (A.map encC)) := OW1
        clear b1 ba hq OW1 OW
        go_wp2_with fail
        refine (changeOf_any _ _ _ _).mono ?_
        rintro e w2 ⟨rfl, b2⟩
        have B2 := B1.trans (b2.mono B1.size)
        have B2s := B2.size
        have OW2 := owns_below OW1'.out b2
        obtain ⟨t, x, hx⟩ := encC_iface (mO ms k, mK ms k, mV ms k)
        have HX : Hid _ := hx
        have HE : Hid _ := encC_one (mO ms k, mK ms k, mV ms k)
        rw [hx]
        clear hx hc b1' OW1' b2 B1
        have HR : Hid _ := room_of (n := A.length) (bytes := 16) (by omega) (by decide)
        have H1 : Hid (∀ u ∈ [Value.iface t x], u.oneCell' = true) := fun u hu => by simp at hu; subst hu; rfl
        go_wp2_with (at_builtin; refine app_one w2 rfl _ _ 68 rfl w.heap.size 71 i0 _ 1 16 Tryz.underlying68 hi hz0 hz1 hz2 rfl (by decide) u3 _ _ rfl OW2 [.iface t x] rfl rfl H1.out HR.out.1 HR.out.2 B2s ?_)
        intro v3 w3 ho3 _ hb3
        have B3 := B2.trans hb3
        clear OW2 hb3 B2
        go_wp2
        go_roundw
        case rel => exact ⟨k + 1, by omega, by go_num, by rw [DS.out, List.length_append, List.map_append, List.map_cons, HX.out]; exact ho3, B3⟩
        case measure => simp [intOf]; omega
    · go_wp2
      go_ret
      have hkk : k = ms.length := by omega
      subst hkk
      rw [List.take_of_length_le (Nat.le_refl _)] at hown
      exact ⟨_, rfl, hown, hb⟩

end Go.Proofs.YtmpiijphpnjlnaaGreat

namespace Go.Proofs.YtmpiijphpnjlnaaGreat

/-- a put or a delete -/
def rulB (m : Int × Int × Int) : Bool := (m.1 == 1) || (m.1 == 2)
def ruledB (l : ML) (k : Int) : Bool := l.any fun m => (m.2.1 == k) && rulB m
def overB (l : ML) (k : Int) : Bool := l.any fun m => okM m && ((m.2.1 == k) && rulB m)
/-- the messages that are left: right ones, no gets, none that a later one overrules -/
def keptF : ML → ML
  | [] => []
  | m :: l => if okM m = true ∧ m.1 ≠ 4 ∧ overB l m.2.1 = false then m :: keptF l else keptF l
/-- the place of the first of a key; -1: none -/
def firstI : ML → Int → Int
  | [], _ => -1
  | m :: l, k => if m.2.1 = k then 0 else if firstI l k < 0 then -1 else firstI l k + 1
def joinsB (A : ML) (m : Int × Int × Int) : Bool := decide (0 ≤ firstI A m.2.1) && ((mO A (firstI A m.2.1).toNat == 1) && (m.1 == 3))
def stepS (A : ML) (m : Int × Int × Int) : ML :=
  if joinsB A m = true then A.set (firstI A m.2.1).toNat (mO A (firstI A m.2.1).toNat, mK A (firstI A m.2.1).toNat, clampI (mV A (firstI A m.2.1).toNat + m.2.2)) else A ++ [m]
def shrinkF (ms : ML) : ML := (keptF ms).foldl stepS []

theorem firstI_spec (A : ML) (k : Int) : (firstI A k = -1 ∧ ∀ m ∈ A, m.2.1 ≠ k) ∨ ∃ n, firstI A k = (n : Nat) ∧ n < A.length ∧ mK A n = k ∧ ∀ j, j < n → mK A j ≠ k := by
  induction A with
  | nil => left; exact ⟨rfl, fun m hm => by simp at hm⟩
  | cons m l ih =>
    rw [firstI]
    by_cases h : m.2.1 = k
    · rw [if_pos h]; right; exact ⟨0, rfl, by simp, by simp [mK, h], fun j hj => by omega⟩
    · rw [if_neg h]
      rcases ih with ⟨h1, h2⟩ | ⟨n, h1, h2, h3, h4⟩
      · left
        rw [h1]
        exact ⟨by simp, fun q hq => by rcases List.mem_cons.1 hq with rfl | hq; exact h; exact h2 q hq⟩
      · right
        rw [h1, if_neg (by omega)]
        refine ⟨n + 1, by simp, by simp; omega, by simpa [mK] using h3, fun j hj => ?_⟩
        cases j with
        | zero => simpa [mK] using h
        | succ j => have := h4 j (by omega); simpa [mK] using this
theorem firstI_len (A : ML) (k : Int) : firstI A k < A.length := by
  rcases firstI_spec A k with ⟨h, _⟩ | ⟨n, h, h2, _⟩ <;> omega
theorem firstI_ge (A : ML) (k : Int) : -1 ≤ firstI A k := by
  rcases firstI_spec A k with ⟨h, _⟩ | ⟨n, h, h2, _⟩ <;> omega
theorem firstI_at {A : ML} {k : Int} {n : Nat} (h1 : n < A.length) (h2 : mK A n = k) (h3 : ∀ j, j < n → mK A j ≠ k) : firstI A k = n := by
  rcases firstI_spec A k with ⟨_, h⟩ | ⟨n', h, h4, h5, h6⟩
  · exact absurd h2 (by have := h A[n] (List.getElem_mem h1); rw [ml_at A n h1] at this; exact this)
  · rw [h]
    by_cases hlt : n' < n
    · exact absurd h5 (h3 n' hlt)
    · by_cases hgt : n < n'
      · exact absurd h2 (h6 n hgt)
      · omega
theorem firstI_none {A : ML} {k : Int} (h : ∀ m ∈ A, m.2.1 ≠ k) : firstI A k = -1 := by
  rcases firstI_spec A k with ⟨h, _⟩ | ⟨n, h1, h2, h3, _⟩
  · exact h
  · exact absurd h3 (by have := h A[n] (List.getElem_mem h2); rw [ml_at A n h2] at this; exact this)

/-- what is put together of the program's parts -/
def wgF (l : ML) : ML := l.filter fun m => m.1 != 4
def woF : ML → ML
  | [] => []
  | m :: l => if ruledB l m.2.1 = true then woF l else m :: woF l
def stepJ (s : ML × PL) (m : Int × Int × Int) : ML × PL :=
  if m.1 = 1 then (s.1 ++ [m], putF s.2 m.2.1 s.1.length)
  else if m.1 = 3 ∧ (getP s.2 m.2.1).2 = true then (s.1.set (getP s.2 m.2.1).1.toNat (1, m.2.1, clampI (mV s.1 (getP s.2 m.2.1).1.toNat + m.2.2)), s.2)
  else (s.1 ++ [m], s.2)
def joinF (l : ML) : ML := (l.foldl stepJ ([], [])).1

theorem over_eq (l : ML) (k : Int) : ruledB (wgF (okMs l)) k = overB l k := by
  induction l with
  | nil => rfl
  | cons m l ih =>
    rw [overB, List.any_cons, ← overB, ← ih]
    by_cases h1 : okM m = true
    · by_cases h2 : m.1 = 4
      · rw [okMs, List.filter_cons_of_pos h1, wgF, List.filter_cons_of_neg (by simp [h2])]
        simp [rulB, h2, wgF, okMs]
      · rw [okMs, List.filter_cons_of_pos h1, wgF, List.filter_cons_of_pos (by simp [h2]), ruledB, List.any_cons]
        simp [h1, wgF, okMs, ruledB]
    · rw [okMs, List.filter_cons_of_neg h1]
      simp [h1, wgF, okMs]
theorem kept_eq (ms : ML) : woF (wgF (okMs ms)) = keptF ms := by
  induction ms with
  | nil => rfl
  | cons m l ih =>
    have ho := over_eq l m.2.1
    rw [keptF]
    by_cases h1 : okM m = true
    · by_cases h2 : m.1 = 4
      · rw [if_neg (by simp [h2]), okMs, List.filter_cons_of_pos h1, wgF, List.filter_cons_of_neg (by simp [h2])]
        exact ih
      · rw [okMs, List.filter_cons_of_pos h1, wgF, List.filter_cons_of_pos (by simp [h2]), woF]
        have ho' : ruledB (List.filter (fun m => m.1 != 4) (List.filter okM l)) m.2.1 = overB l m.2.1 := ho
        have ih' : woF (List.filter (fun m => m.1 != 4) (List.filter okM l)) = keptF l := ih
        rw [ho', ih']
        cases hb : overB l m.2.1
        · rw [if_neg (by decide), if_pos ⟨h1, h2, rfl⟩]
        · rw [if_pos rfl, if_neg (by simp)]
    · rw [if_neg (by simp [h1]), okMs, List.filter_cons_of_neg h1]
      exact ih

/-- what is left holds no ruler behind one of its key -/
theorem kept_sub (l : ML) : ∀ m ∈ keptF l, m ∈ l ∧ okM m = true ∧ m.1 ≠ 4 := by
  induction l with
  | nil => intro m hm; simp [keptF] at hm
  | cons p l ih =>
    intro m hm
    rw [keptF] at hm
    split at hm
    · rename_i h
      rcases List.mem_cons.1 hm with rfl | hm
      · exact ⟨by simp, h.1, h.2.1⟩
      · have := ih m hm; exact ⟨by simp [this.1], this.2⟩
    · have := ih m hm; exact ⟨by simp [this.1], this.2⟩
def NoRul (l : ML) : Prop := l.Pairwise fun a b => a.2.1 = b.2.1 → rulB b = false
theorem kept_norul (l : ML) : NoRul (keptF l) := by
  induction l with
  | nil => exact List.Pairwise.nil
  | cons p l ih =>
    rw [keptF]
    split
    · rename_i h
      refine List.pairwise_cons.2 ⟨fun b hb he => ?_, ih⟩
      obtain ⟨hb1, hb2, _⟩ := kept_sub l b hb
      have h2 := h.2.2
      rw [overB, List.any_eq_false] at h2
      have := h2 b hb1
      simpa [hb2, he] using this
    · exact ih

/-- how the two ways stand side by side: P tells of each key that a put leads where it lies -/
structure Side (A : ML) (P : PL) : Prop where
  asc : Asc P
  has : ∀ k, (getP P k).2 = true → ∃ n : Nat, (getP P k).1 = n ∧ firstI A k = n ∧ n < A.length ∧ mO A n = 1
  hasnt : ∀ k, (getP P k).2 = false → 0 ≤ firstI A k → mO A (firstI A k).toNat ≠ 1

theorem firstI_append (A : ML) (m : Int × Int × Int) (k : Int) : firstI (A ++ [m]) k = if 0 ≤ firstI A k then firstI A k else if m.2.1 = k then (A.length : Int) else -1 := by
  induction A with
  | nil => by_cases h : m.2.1 = k <;> simp [firstI, h]
  | cons p l ih =>
    have hl := firstI_len l k
    have hg := firstI_ge l k
    rw [List.cons_append, firstI, firstI, ih]
    by_cases h : p.2.1 = k
    · simp [h]
    · rw [if_neg h, if_neg h]
      simp only [List.length_cons]
      generalize firstI l k = x at *
      by_cases hm : m.2.1 = k
      · simp only [hm, if_true]; (repeat' split) <;> omega
      · simp only [hm, if_false]; (repeat' split) <;> omega
theorem mO_append_lt {A : ML} {m : Int × Int × Int} {n : Nat} (h : n < A.length) : mO (A ++ [m]) n = mO A n := by simp [mO, List.getD, List.getElem?_append_left h]
theorem mO_append_eq {A : ML} {m : Int × Int × Int} : mO (A ++ [m]) A.length = m.1 := by simp [mO, List.getD]
theorem firstI_set {A : ML} {n : Nat} {x : Int × Int × Int} (hx : n < A.length → x.2.1 = mK A n) (k : Int) : firstI (A.set n x) k = firstI A k := by
  induction A generalizing n with
  | nil => simp
  | cons p l ih =>
    cases n with
    | zero =>
      rw [List.set_cons_zero, firstI, firstI, hx (by simp)]
      simp [mK]
    | succ n =>
      rw [List.set_cons_succ, firstI, firstI, ih (fun h => by have := hx (by simpa using h); simpa [mK] using this)]

/-- ONE STEP: both ways take the same one, where no ruler comes behind one of its key -/
theorem side_step {A : ML} {P : PL} (h : Side A P) (m : Int × Int × Int) (hr : rulB m = true → ∀ a ∈ A, a.2.1 ≠ m.2.1) :
    (stepJ (A, P) m).1 = stepS A m ∧ Side (stepJ (A, P) m).1 (stepJ (A, P) m).2 := by
  by_cases h1 : m.1 = 1
  · have hn := firstI_none (hr (by simp [rulB, h1]))
    have e1 : stepJ (A, P) m = (A ++ [m], putF P m.2.1 A.length) := by simp [stepJ, h1]
    have e2 : stepS A m = A ++ [m] := by rw [stepS, if_neg (by simp [joinsB, hn])]
    rw [e1, e2]
    refine ⟨rfl, putF_asc h.asc _ _, fun k hk => ?_, fun k hk h0 => ?_⟩
    · by_cases hkm : k = m.2.1
      · subst hkm
        rw [getP_putF_same h.asc]
        refine ⟨A.length, rfl, ?_, by simp, by rw [mO_append_eq]; exact h1⟩
        show firstI (A ++ [m]) m.2.1 = _
        rw [firstI_append, hn]; simp
      · have hk' : (getP P k).2 = true := by rw [← getP_putF_other h.asc (v := A.length) hkm]; exact hk
        obtain ⟨n, g1, g2, g3, g4⟩ := h.has k hk'
        refine ⟨n, by rw [getP_putF_other h.asc hkm]; exact g1, ?_, by simp; omega, by show mO (A ++ [m]) n = 1; rw [mO_append_lt g3]; exact g4⟩
        show firstI (A ++ [m]) k = _
        rw [firstI_append, g2, if_pos (by omega)]
    · by_cases hkm : k = m.2.1
      · subst hkm
        rw [getP_putF_same h.asc] at hk; cases hk
      · have hk' : (getP P k).2 = false := by rw [← getP_putF_other h.asc (v := A.length) hkm]; exact hk
        have h0' : 0 ≤ firstI (A ++ [m]) k := h0
        show mO (A ++ [m]) (firstI (A ++ [m]) k).toNat ≠ 1
        rw [firstI_append] at h0' ⊢
        have hl := firstI_len A k
        by_cases hp : 0 ≤ firstI A k
        · rw [if_pos hp, mO_append_lt (by omega)]
          exact h.hasnt k hk' hp
        · rw [if_neg hp, if_neg (fun e => hkm e.symm)] at h0'
          omega
  · by_cases h3 : m.1 = 3 ∧ (getP P m.2.1).2 = true
    · obtain ⟨n, g1, g2, g3, g4⟩ := h.has _ h3.2
      have hk : mK A n = m.2.1 := by
        rcases firstI_spec A m.2.1 with ⟨q, _⟩ | ⟨n', q, _, q3, _⟩
        · omega
        · have : n = n' := by omega
          subst this; exact q3
      have e1 : stepJ (A, P) m = (A.set n (1, m.2.1, clampI (mV A n + m.2.2)), P) := by simp [stepJ, h3.1, h3.2, g1]
      have e2 : stepS A m = A.set n (1, m.2.1, clampI (mV A n + m.2.2)) := by
        rw [stepS, if_pos (by simp [joinsB, g2, g4, h3.1])]
        simp [g2, g4, hk]
      rw [e1, e2]
      have hf : ∀ k, firstI (A.set n (1, m.2.1, clampI (mV A n + m.2.2))) k = firstI A k := fun k => firstI_set (x := (1, m.2.1, clampI (mV A n + m.2.2))) (fun _ => hk.symm) k
      have ho : ∀ j, mO (A.set n (1, m.2.1, clampI (mV A n + m.2.2))) j = mO A j := by
        intro j
        by_cases hj : j = n
        · subst hj
          rw [g4]; simp [mO, List.getD, g3]
        · simp [mO, List.getD, List.getElem?_set_ne (fun e => hj e.symm)]
      refine ⟨rfl, h.asc, fun k hk => ?_, fun k hk h0 => ?_⟩
      · obtain ⟨n', q1, q2, q3, q4⟩ := h.has k hk
        exact ⟨n', q1, by rw [hf]; exact q2, by simpa using q3, by rw [ho]; exact q4⟩
      · rw [hf] at h0 ⊢
        rw [ho]
        exact h.hasnt k hk h0
    · have e1 : stepJ (A, P) m = (A ++ [m], P) := by simp [stepJ, h1, h3]
      have hj : joinsB A m = false := by
        rw [Bool.eq_false_iff]
        intro hj
        simp only [joinsB, Bool.and_eq_true, decide_eq_true_eq, beq_iff_eq] at hj
        obtain ⟨j1, j2, j3⟩ := hj
        cases hp : (getP P m.2.1).2
        · exact h.hasnt _ hp j1 j2
        · exact h3 ⟨j3, hp⟩
      have e2 : stepS A m = A ++ [m] := by rw [stepS, hj]; rfl
      rw [e1, e2]
      refine ⟨rfl, h.asc, fun k hk => ?_, fun k hk h0 => ?_⟩
      · obtain ⟨n, g1, g2, g3, g4⟩ := h.has k hk
        refine ⟨n, g1, ?_, by simp; omega, by show mO (A ++ [m]) n = 1; rw [mO_append_lt g3]; exact g4⟩
        show firstI (A ++ [m]) k = _
        rw [firstI_append, g2, if_pos (by omega)]
      · have h0' : 0 ≤ firstI (A ++ [m]) k := h0
        show mO (A ++ [m]) (firstI (A ++ [m]) k).toNat ≠ 1
        rw [firstI_append] at h0' ⊢
        have hl := firstI_len A k
        by_cases hp : 0 ≤ firstI A k
        · rw [if_pos hp, mO_append_lt (by omega)]
          exact h.hasnt k hk hp
        · rw [if_neg hp] at h0' ⊢
          by_cases hm : m.2.1 = k
          · rw [if_pos hm, Int.toNat_natCast, mO_append_eq]; exact h1
          · rw [if_neg hm] at h0'; omega

theorem step_keys (A : ML) (m : Int × Int × Int) (k : Int) (hA : ∀ a ∈ A, a.2.1 ≠ k) (hm : m.2.1 ≠ k) : ∀ a ∈ stepS A m, a.2.1 ≠ k := by
  unfold stepS
  split
  · rename_i hj
    intro a ha
    rcases List.mem_or_eq_of_mem_set ha with h | h
    · exact hA a h
    · subst h
      have hl := firstI_len A m.2.1
      simp only [joinsB, Bool.and_eq_true, decide_eq_true_eq] at hj
      have hi : (firstI A m.2.1).toNat < A.length := by omega
      have := hA A[(firstI A m.2.1).toNat] (List.getElem_mem hi)
      rw [ml_at A _ hi] at this
      exact this
  · intro a ha
    rcases List.mem_append.1 ha with h | h
    · exact hA a h
    · simp at h; subst h; exact hm

theorem fold_side (l : ML) (hl : NoRul l) (A : ML) (P : PL) (h : Side A P) (hA : ∀ m ∈ l, rulB m = true → ∀ a ∈ A, a.2.1 ≠ m.2.1) : (l.foldl stepJ (A, P)).1 = l.foldl stepS A := by
  induction l generalizing A P with
  | nil => rfl
  | cons m l ih =>
    obtain ⟨hl1, hl2⟩ := List.pairwise_cons.1 hl
    obtain ⟨e, hs⟩ := side_step h m (hA m (by simp))
    rw [List.foldl_cons, List.foldl_cons, ← e]
    refine ih hl2 (stepJ (A, P) m).1 (stepJ (A, P) m).2 hs (fun q hq hr => ?_)
    rw [e]
    refine step_keys A m q.2.1 (hA q (by simp [hq]) hr) (fun he => ?_)
    have := hl1 q hq he
    rw [hr] at this; cases this

/-- BOTH WAYS COME TO ONE -/
theorem shrink_eq (ms : ML) : joinF (woF (wgF (okMs ms))) = shrinkF ms := by
  rw [kept_eq, joinF, shrinkF]
  refine fold_side _ (kept_norul ms) [] [] ⟨List.Pairwise.nil, fun k hk => by simp [getP] at hk, fun k _ h0 => by simp [firstI] at h0⟩ (fun m _ _ a ha => by simp at ha)

/-- each of them is right, and no get -/
def okN (m : Int × Int × Int) : Prop := okM m = true ∧ m.1 ≠ 4
theorem okM_put (k v : Int) (hk : 0 ≤ k ∧ k ≤ 999) (hv : -1000000000 ≤ v ∧ v ≤ 1000000000) : okM (1, k, v) = true := by
  show msgOkB 1 k v = true
  simp [msgOkB, inB, hk, hv]
theorem mem_mO {A : ML} {n : Nat} (h : n < A.length) : (mO A n, mK A n, mV A n) ∈ A := by rw [← ml_at A n h]; exact List.getElem_mem h
theorem stepS_ok {A : ML} (hA : ∀ a ∈ A, okN a) {m : Int × Int × Int} (hm : okN m) : ∀ a ∈ stepS A m, okN a := by
  unfold stepS
  split
  · rename_i hj
    intro a ha
    rcases List.mem_or_eq_of_mem_set ha with h | h
    · exact hA a h
    · subst h
      have hl := firstI_len A m.2.1
      simp only [joinsB, Bool.and_eq_true, decide_eq_true_eq, beq_iff_eq] at hj
      have hi : (firstI A m.2.1).toNat < A.length := by omega
      have h1 := hA _ (mem_mO hi)
      rw [hj.2.1] at h1 ⊢
      exact ⟨okM_put _ _ (msgOkB_in h1.1).2.1 (clampI_in _), by simp⟩
  · intro a ha
    rcases List.mem_append.1 ha with h | h
    · exact hA a h
    · simp at h; subst h; exact hm
theorem stepS_length (A : ML) (m : Int × Int × Int) : (stepS A m).length ≤ A.length + 1 := by
  unfold stepS; split <;> simp
theorem foldS_ok (l : ML) (hl : ∀ m ∈ l, okN m) (A : ML) (hA : ∀ a ∈ A, okN a) : ∀ a ∈ l.foldl stepS A, okN a := by
  induction l generalizing A with
  | nil => exact hA
  | cons m l ih => exact ih (fun q hq => hl q (by simp [hq])) _ (stepS_ok hA (hl m (by simp)))
theorem foldS_length (l : ML) (A : ML) : (l.foldl stepS A).length ≤ A.length + l.length := by
  induction l generalizing A with
  | nil => simp
  | cons m l ih =>
    have h1 := ih (stepS A m)
    have h2 := stepS_length A m
    rw [List.foldl_cons]; simp only [List.length_cons]; omega
theorem kept_length (l : ML) : (keptF l).length ≤ l.length := by
  induction l with
  | nil => simp [keptF]
  | cons m l ih => rw [keptF]; split <;> simp <;> omega
theorem shrinkF_ok (ms : ML) : ∀ a ∈ shrinkF ms, okN a := foldS_ok _ (fun m hm => (kept_sub ms m hm).2) [] (fun a ha => by simp at ha)
theorem shrinkF_length (ms : ML) : (shrinkF ms).length ≤ ms.length := by
  have h1 := foldS_length (keptF ms) []
  have h2 := kept_length ms
  unfold shrinkF; simp at h1; omega

end Go.Proofs.YtmpiijphpnjlnaaGreat

namespace Go.Proofs.YtmpiijphpnjlnaaGreat
open Go.RowKit

/-- trees side by side, and the cuts between them -/
abbrev TM := List Tr × List Int

/-- the messages that belong to one of trees side by side; those that do not -/
def mineF (cs : List Int) (i : Nat) (b : ML) : ML := b.filter fun m => decide (prefK cs m.2.1 = i)
def restF (cs : List Int) (i : Nat) (b : ML) : ML := b.filter fun m => !decide (prefK cs m.2.1 = i)
theorem mineF_succ (cs : List Int) (i : Nat) (b : ML) (j : Nat) (h : j < b.length) : mineF cs i (b.take (j + 1)) = if prefK cs (mK b j) = i then mineF cs i (b.take j) ++ [(mO b j, mK b j, mV b j)] else mineF cs i (b.take j) := by
  rw [take_succM b j h, mineF, List.filter_append]
  by_cases hq : prefK cs (mK b j) = i
  · rw [if_pos hq]; simp [mineF, hq]
  · rw [if_neg hq]; simp [mineF, hq]
theorem restF_succ (cs : List Int) (i : Nat) (b : ML) (j : Nat) (h : j < b.length) : restF cs i (b.take (j + 1)) = if prefK cs (mK b j) = i then restF cs i (b.take j) else restF cs i (b.take j) ++ [(mO b j, mK b j, mV b j)] := by
  rw [take_succM b j h, restF, List.filter_append]
  by_cases hq : prefK cs (mK b j) = i
  · rw [if_pos hq]; simp [restF, hq]
  · rw [if_neg hq]; simp [restF, hq]
theorem mine_rest (cs : List Int) (i : Nat) (b : ML) : (mineF cs i b).length + (restF cs i b).length = b.length := by
  induction b with
  | nil => rfl
  | cons a l ih =>
    unfold mineF restF at *
    by_cases h : prefK cs a.2.1 = i <;> simp [h] <;> omega
theorem mineF_length (cs : List Int) (i : Nat) (b : ML) : (mineF cs i b).length ≤ b.length := List.length_filter_le _ _
theorem restF_length (cs : List Int) (i : Nat) (b : ML) : (restF cs i b).length ≤ b.length := List.length_filter_le _ _
/-- how many belong to the first n -/
def mineSum (cs : List Int) (b : ML) : Nat → Nat
  | 0 => 0
  | k + 1 => mineSum cs b k + (mineF cs k b).length
theorem mineSum_le (cs : List Int) (b : ML) (n : Nat) : mineSum cs b n ≤ b.length := by
  have key : ∀ n, mineSum cs b n = (b.filter fun m => decide (prefK cs m.2.1 < n)).length := by
    intro n
    induction n with
    | zero =>
      rw [mineSum, List.filter_eq_nil_iff.2 (fun a _ => by simp)]
      rfl
    | succ n ih =>
      rw [mineSum, ih, mineF]
      clear ih
      induction b with
      | nil => rfl
      | cons a l ih =>
        rcases Nat.lt_trichotomy (prefK cs a.2.1) n with h | h | h
        · simp [show prefK cs a.2.1 < n from h, show ¬ prefK cs a.2.1 = n by omega, show prefK cs a.2.1 < n + 1 by omega]; omega
        · simp [h]; omega
        · simp [show ¬ prefK cs a.2.1 < n by omega, show ¬ prefK cs a.2.1 = n by omega, show ¬ prefK cs a.2.1 < n + 1 by omega]; omega
  rw [key]
  exact List.length_filter_le _ _

/-- to which of the first n most messages belong, and how many -/
def mostTo (cs : List Int) (b : ML) : Nat → Nat × Int
  | 0 => (0, -1)
  | k + 1 => if (mostTo cs b k).2 < ((mineF cs k b).length : Int) then (k, ((mineF cs k b).length : Int)) else mostTo cs b k
theorem mostTo_is (cs : List Int) (b : ML) : ∀ n, 0 < n → (mostTo cs b n).1 < n ∧ (mostTo cs b n).2 = ((mineF cs (mostTo cs b n).1 b).length : Int) := by
  intro n hn
  induction n with
  | zero => omega
  | succ n ih =>
    rw [mostTo]
    by_cases h : (mostTo cs b n).2 < ((mineF cs n b).length : Int)
    · rw [if_pos h]; exact ⟨Nat.lt_succ_self _, rfl⟩
    · rw [if_neg h]
      rcases Nat.eq_zero_or_pos n with h0 | h0
      · subst h0
        exfalso
        apply h
        simp only [mostTo]
        omega
      · exact ⟨Nat.lt_succ_of_lt (ih h0).1, (ih h0).2⟩
theorem mostTo_ge (cs : List Int) (b : ML) : ∀ n i, i < n → ((mineF cs i b).length : Int) ≤ (mostTo cs b n).2 := by
  intro n
  induction n with
  | zero => intro i h; omega
  | succ n ih =>
    intro i hi
    rw [mostTo]
    by_cases h : (mostTo cs b n).2 < ((mineF cs n b).length : Int)
    · rw [if_pos h]
      by_cases hin : i = n
      · subst hin; exact Int.le_refl _
      · have := ih i (by omega)
        simp only
        omega
    · rw [if_neg h]
      by_cases hin : i = n
      · subst hin; omega
      · exact ih i (by omega)
theorem mostTo_lo (cs : List Int) (b : ML) : ∀ n, -1 ≤ (mostTo cs b n).2 ∧ (mostTo cs b n).2 ≤ b.length ∧ (mostTo cs b n).1 ≤ n := by
  intro n
  rcases Nat.eq_zero_or_pos n with h0 | h0
  · subst h0; simp [mostTo]
  · have := mostTo_is cs b n h0
    have := mineF_length cs (mostTo cs b n).1 b
    omega
theorem most_pos {cs : List Int} {b : ML} {n : Nat} (hb : 0 < b.length) (hn : cs.length < n) : 0 < (mineF cs (mostTo cs b n).1 b).length := by
  have h1 := (mostTo_is cs b n (by omega)).2
  have h2 := mostTo_ge cs b n (prefK cs (b[0]'hb).2.1) (by have := prefK_le cs (b[0]'hb).2.1; omega)
  have h3 : 0 < (mineF cs (prefK cs (b[0]'hb).2.1) b).length := by
    apply List.length_pos_of_mem (a := b[0]'hb)
    exact List.mem_filter.2 ⟨List.getElem_mem hb, by simp⟩
  omega

/-- how many go into the next one -/
def manyN (r : Nat) : Nat := if r = 3 then 3 else 2
theorem manyN_two (r : Nat) : manyN r = 2 ∨ (manyN r = 3 ∧ r = 3) := by unfold manyN; split <;> simp_all

def leafT (ps : PL) : Tr := ⟨true, ps, [], [], []⟩
/-- the leaves of pairs, from the i-th on, f at most; the cuts ahead of them -/
def lfTF (ps : PL) : Nat → Nat → List Tr
  | 0, _ => []
  | f + 1, i => if i < ps.length then leafT ((ps.drop i).take (manyN (ps.length - i))) :: lfTF ps f (i + manyN (ps.length - i)) else []
def lfCF (ps : PL) : Nat → Nat → List Int
  | 0, _ => []
  | f + 1, i => if i < ps.length then (if 0 < i then [kOf ps i] else []) ++ lfCF ps f (i + manyN (ps.length - i)) else []
def lfT (ps : PL) (i : Nat) : List Tr := lfTF ps (ps.length - i) i
def lfC (ps : PL) (i : Nat) : List Int := lfCF ps (ps.length - i) i
theorem lfTF_more (ps : PL) : ∀ f g i, ps.length - i ≤ f → ps.length - i ≤ g → lfTF ps f i = lfTF ps g i
  | 0, 0, _, _, _ => rfl
  | 0, g + 1, i, h, _ => by rw [lfTF, lfTF, if_neg (by omega)]
  | f + 1, 0, i, _, h => by rw [lfTF, lfTF, if_neg (by omega)]
  | f + 1, g + 1, i, hf, hg => by
    have := manyN_two (ps.length - i)
    rw [lfTF, lfTF]
    split
    · rw [lfTF_more ps f g _ (by omega) (by omega)]
    · rfl
theorem lfCF_more (ps : PL) : ∀ f g i, ps.length - i ≤ f → ps.length - i ≤ g → lfCF ps f i = lfCF ps g i
  | 0, 0, _, _, _ => rfl
  | 0, g + 1, i, h, _ => by rw [lfCF, lfCF, if_neg (by omega)]
  | f + 1, 0, i, _, h => by rw [lfCF, lfCF, if_neg (by omega)]
  | f + 1, g + 1, i, hf, hg => by
    have := manyN_two (ps.length - i)
    rw [lfCF, lfCF]
    split
    · rw [lfCF_more ps f g _ (by omega) (by omega)]
    · rfl
theorem lfT_eq (ps : PL) (i : Nat) : lfT ps i = if i < ps.length then leafT ((ps.drop i).take (manyN (ps.length - i))) :: lfT ps (i + manyN (ps.length - i)) else [] := by
  have h2 := manyN_two (ps.length - i)
  unfold lfT
  rw [lfTF_more ps (ps.length - i) (ps.length - i + 1) i (by omega) (by omega), lfTF]
  split
  · rw [lfTF_more ps (ps.length - i) (ps.length - (i + manyN (ps.length - i))) _ (by omega) (by omega)]
  · rfl
theorem lfC_eq (ps : PL) (i : Nat) : lfC ps i = if i < ps.length then (if 0 < i then [kOf ps i] else []) ++ lfC ps (i + manyN (ps.length - i)) else [] := by
  have h2 := manyN_two (ps.length - i)
  unfold lfC
  rw [lfCF_more ps (ps.length - i) (ps.length - i + 1) i (by omega) (by omega), lfCF]
  split
  · rw [lfCF_more ps (ps.length - i) (ps.length - (i + manyN (ps.length - i))) _ (by omega) (by omega)]
  · rfl
def leafM (ps : PL) : TM := if ps.length ≤ 4 then ([leafT ps], []) else (lfT ps 0, lfC ps 0)

def packT (m : TM) (i : Nat) : Tr := ⟨false, [], (m.2.drop i).take (manyN (m.1.length - i) - 1), (m.1.drop i).take (manyN (m.1.length - i)), []⟩
def pkTF (m : TM) : Nat → Nat → List Tr
  | 0, _ => []
  | f + 1, i => if i < m.1.length then packT m i :: pkTF m f (i + manyN (m.1.length - i)) else []
def pkCF (m : TM) : Nat → Nat → List Int
  | 0, _ => []
  | f + 1, i => if i < m.1.length then (if 0 < i then [iAt m.2 (i - 1)] else []) ++ pkCF m f (i + manyN (m.1.length - i)) else []
def pkT (m : TM) (i : Nat) : List Tr := pkTF m (m.1.length - i) i
def pkC (m : TM) (i : Nat) : List Int := pkCF m (m.1.length - i) i
theorem pkTF_more (m : TM) : ∀ f g i, m.1.length - i ≤ f → m.1.length - i ≤ g → pkTF m f i = pkTF m g i
  | 0, 0, _, _, _ => rfl
  | 0, g + 1, i, h, _ => by rw [pkTF, pkTF, if_neg (by omega)]
  | f + 1, 0, i, _, h => by rw [pkTF, pkTF, if_neg (by omega)]
  | f + 1, g + 1, i, hf, hg => by
    have := manyN_two (m.1.length - i)
    rw [pkTF, pkTF]
    split
    · rw [pkTF_more m f g _ (by omega) (by omega)]
    · rfl
theorem pkCF_more (m : TM) : ∀ f g i, m.1.length - i ≤ f → m.1.length - i ≤ g → pkCF m f i = pkCF m g i
  | 0, 0, _, _, _ => rfl
  | 0, g + 1, i, h, _ => by rw [pkCF, pkCF, if_neg (by omega)]
  | f + 1, 0, i, _, h => by rw [pkCF, pkCF, if_neg (by omega)]
  | f + 1, g + 1, i, hf, hg => by
    have := manyN_two (m.1.length - i)
    rw [pkCF, pkCF]
    split
    · rw [pkCF_more m f g _ (by omega) (by omega)]
    · rfl
theorem pkT_eq (m : TM) (i : Nat) : pkT m i = if i < m.1.length then packT m i :: pkT m (i + manyN (m.1.length - i)) else [] := by
  have h2 := manyN_two (m.1.length - i)
  unfold pkT
  rw [pkTF_more m (m.1.length - i) (m.1.length - i + 1) i (by omega) (by omega), pkTF]
  split
  · rw [pkTF_more m (m.1.length - i) (m.1.length - (i + manyN (m.1.length - i))) _ (by omega) (by omega)]
  · rfl
theorem pkC_eq (m : TM) (i : Nat) : pkC m i = if i < m.1.length then (if 0 < i then [iAt m.2 (i - 1)] else []) ++ pkC m (i + manyN (m.1.length - i)) else [] := by
  have h2 := manyN_two (m.1.length - i)
  unfold pkC
  rw [pkCF_more m (m.1.length - i) (m.1.length - i + 1) i (by omega) (by omega), pkCF]
  split
  · rw [pkCF_more m (m.1.length - i) (m.1.length - (i + manyN (m.1.length - i))) _ (by omega) (by omega)]
  · rfl
def packM (m : TM) : TM := (pkT m 0, pkC m 0)

def putM (m : TM) (i : Nat) (x : TM) : TM := (m.1.take i ++ x.1 ++ m.1.drop (i + 1), m.2.take i ++ x.2 ++ m.2.drop i)

def sideT (f : Nat → TM) : Nat → List Tr
  | 0 => []
  | k + 1 => sideT f k ++ (f k).1
def sideC (f : Nat → TM) (cs : List Int) : Nat → List Int
  | 0 => []
  | k + 1 => (sideC f cs k ++ if 0 < k then [iAt cs (k - 1)] else []) ++ (f k).2
def kidM (g : Tr → ML → TM) (m : TM) (b : ML) (i : Nat) : TM := if 0 < (mineF m.2 i b).length then g (m.1.getD i noTr) (mineF m.2 i b) else ([m.1.getD i noTr], [])
def downM (g : Tr → ML → TM) (m : TM) (b : ML) : TM := (sideT (kidM g m b) m.1.length, sideC (kidM g m b) m.2 m.1.length)

def loopM (g : Tr → ML → TM) : Nat → TM → ML → TM × ML
  | 0, m, b => (m, b)
  | f + 1, m, b => if 6 < b.length then loopM g f (putM m (mostTo m.2 b m.1.length).1 (g (m.1.getD (mostTo m.2 b m.1.length).1 noTr) (mineF m.2 (mostTo m.2 b m.1.length).1 b))) (restF m.2 (mostTo m.2 b m.1.length).1 b) else (m, b)

/-- what the messages b, shrunk, make of kids -/
def endM (g : Tr → ML → TM) (r : TM × ML) : TM := if 4 < r.1.1.length then packM (downM g r.1 r.2) else ([⟨false, [], r.1.2, r.1.1, r.2⟩], [])
/-- WHAT COMES OF A TREE of the depth d. -/
def giveM : Nat → Tr → ML → TM
  | 0, T, _ => ([T], [])
  | d + 1, T, ms => if T.leaf = true then leafM (allL T.pairs ms) else
      endM (giveM d) (loopM (giveM d) (shrinkF (T.buf ++ ms)).length (T.kids, T.cuts) (shrinkF (T.buf ++ ms)))

def rootM : Nat → TM → Tr
  | 0, m => m.1.getD 0 noTr
  | f + 1, m => if 4 < m.1.length then rootM f (packM m) else if m.1.length = 1 then m.1.getD 0 noTr else ⟨false, [], m.2, m.1, []⟩

def bothM (f : Nat → TM) (m : TM) : TM := (sideT f m.1.length, sideC f m.2 m.1.length)
def endD (o : TM) : TM := if 4 < o.1.length then packM o else ([⟨false, [], o.2, o.1, []⟩], [])
def drainM : Nat → Tr → TM
  | 0, T => ([T], [])
  | d + 1, T => if T.leaf = true then ([T], []) else
      endD (bothM (fun i => drainM d ((downM (giveM d) (T.kids, T.cuts) T.buf).1.getD i noTr)) (downM (giveM d) (T.kids, T.cuts) T.buf))

/-- THE SHAPE OF A TREE of the depth d. -/
def shT : Nat → Tr → Prop
  | 0, _ => False
  | d + 1, T => (T.leaf = true ∧ d = 0 ∧ T.pairs.length ≤ 4 ∧ T.cuts = [] ∧ T.kids = [] ∧ T.buf = []) ∨
      (T.leaf = false ∧ T.pairs = [] ∧ 2 ≤ T.kids.length ∧ T.kids.length ≤ 4 ∧ T.cuts.length + 1 = T.kids.length ∧ T.buf.length ≤ 6 ∧ ∀ t ∈ T.kids, shT d t)
/-- leaves and messages -/
def wt : Nat → Tr → Nat
  | 0, _ => 0
  | d + 1, T => if T.leaf = true then 1 else (T.kids.map (wt d)).sum + T.buf.length
def wtL (d : Nat) (ts : List Tr) : Nat := (ts.map (wt d)).sum
theorem wtL_append (d : Nat) (a b : List Tr) : wtL d (a ++ b) = wtL d a + wtL d b := by simp [wtL, List.sum_append]
theorem wtL_one (d : Nat) (t : Tr) : wtL d [t] = wt d t := by simp [wtL]
theorem wtL_nil (d : Nat) : wtL d [] = 0 := rfl
theorem wtL_cons (d : Nat) (t : Tr) (l : List Tr) : wtL d (t :: l) = wt d t + wtL d l := by simp [wtL]
theorem wt_pos : ∀ {d : Nat} {T : Tr}, shT d T → 1 ≤ wt d T
  | 0, _, h => h.elim
  | d + 1, T, h => by
    rcases h with ⟨h, _⟩ | ⟨h1, _, h2, _, _, _, h3⟩
    · rw [wt, if_pos h]; exact Nat.le_refl _
    · rw [wt, if_neg (by rw [h1]; simp)]
      match hk : T.kids with
      | [] => rw [hk] at h2; simp at h2
      | t :: l =>
        have := wt_pos (h3 t (by rw [hk]; simp))
        simp only [List.map_cons, List.sum_cons]
        omega
theorem wtL_length {d : Nat} : ∀ {ts : List Tr}, (∀ t ∈ ts, shT d t) → ts.length ≤ wtL d ts
  | [], _ => Nat.le_refl _
  | t :: l, h => by
    have := wt_pos (h t (by simp))
    have := wtL_length (ts := l) (fun u hu => h u (by simp [hu]))
    rw [wtL_cons]
    simp only [List.length_cons]
    omega

/-- SIDE BY SIDE, all of the depth d. -/
def MOk (d : Nat) (m : TM) : Prop := m.2.length + 1 = m.1.length ∧ ∀ t ∈ m.1, shT d t
theorem MOk.one {d : Nat} {t : Tr} (h : shT d t) : MOk d ([t], []) := ⟨rfl, fun u hu => by simp at hu; subst hu; exact h⟩
theorem getD_mem {l : List Tr} {i : Nat} (h : i < l.length) : l.getD i noTr ∈ l := by
  simp [List.getD, h]

theorem leafT_sh {ps : PL} (h : ps.length ≤ 4) : shT 1 (leafT ps) := .inl ⟨rfl, rfl, h, rfl, rfl, rfl⟩
theorem lf_ok (ps : PL) : ∀ n i, ps.length - i ≤ n → (2 ≤ ps.length - i ∨ ps.length ≤ i) → (∀ t ∈ lfT ps i, shT 1 t) ∧ (lfT ps i).length * 2 ≤ ps.length - i ∧ wtL 1 (lfT ps i) = (lfT ps i).length ∧ (lfC ps i).length + (if i = 0 ∧ 0 < ps.length then 1 else 0) = (lfT ps i).length := by
  intro n
  induction n with
  | zero =>
    intro i h h2
    rw [lfT_eq, lfC_eq, if_neg (show ¬ i < ps.length by omega), if_neg (show ¬ i < ps.length by omega), if_neg (show ¬ (i = 0 ∧ 0 < ps.length) by omega)]
    exact ⟨fun t ht => by simp at ht, by simp, rfl, rfl⟩
  | succ n ih =>
    intro i h h2
    rw [lfT_eq, lfC_eq]
    by_cases hi : i < ps.length
    · rw [if_pos hi, if_pos hi]
      have hm := manyN_two (ps.length - i)
      obtain ⟨k1, k2, k3, k4⟩ := ih (i + manyN (ps.length - i)) (by omega) (by
        rcases hm with e | ⟨e, e2⟩
        · rw [e]
          have : manyN (ps.length - i) ≠ 3 := by omega
          have : ps.length - i ≠ 3 := fun h3 => by rw [h3] at this; exact this rfl
          omega
        · omega)
      refine ⟨fun t ht => ?_, ?_, ?_, ?_⟩
      · rcases List.mem_cons.1 ht with rfl | ht
        · exact leafT_sh (by simp; omega)
        · exact k1 t ht
      · simp only [List.length_cons]; omega
      · rw [wtL_cons, k3]; simp [wt, leafT]; omega
      · simp only [List.length_cons, List.length_append]
        rw [if_neg (by omega)] at k4
        by_cases h0 : i = 0
        · subst h0; simp [hi] at *; omega
        · rw [if_pos (Nat.pos_of_ne_zero h0), if_neg (by omega)]; simp; omega
    · rw [if_neg hi, if_neg hi, if_neg (show ¬ (i = 0 ∧ 0 < ps.length) by omega)]
      exact ⟨fun t ht => by simp at ht, by simp, rfl, rfl⟩
theorem leafM_ok {ps : PL} {L : Nat} (h : ps.length ≤ 4 + L) (hL : 0 < L) : MOk 1 (leafM ps) ∧ wtL 1 (leafM ps).1 ≤ 1 + L := by
  unfold leafM
  by_cases h4 : ps.length ≤ 4
  · rw [if_pos h4]
    exact ⟨MOk.one (leafT_sh h4), by simp only [wtL_one, wt, leafT, if_true]; omega⟩
  · rw [if_neg h4]
    obtain ⟨k1, k2, k3, k4⟩ := lf_ok ps ps.length 0 (by omega) (by omega)
    rw [if_pos ⟨rfl, by omega⟩] at k4
    exact ⟨⟨k4, k1⟩, by simp only; rw [k3]; omega⟩

theorem pk_ok {d : Nat} {m : TM} (hm : MOk d m) : ∀ n i, m.1.length - i ≤ n → (2 ≤ m.1.length - i ∨ m.1.length ≤ i) → (∀ t ∈ pkT m i, shT (d + 1) t) ∧ (pkT m i).length * 2 ≤ m.1.length - i ∧ wtL (d + 1) (pkT m i) = wtL d (m.1.drop i) ∧ (pkC m i).length + (if i = 0 ∧ 0 < m.1.length then 1 else 0) = (pkT m i).length := by
  intro n
  induction n with
  | zero =>
    intro i h h2
    rw [pkT_eq, pkC_eq, if_neg (show ¬ i < m.1.length by omega), if_neg (show ¬ i < m.1.length by omega), if_neg (show ¬ (i = 0 ∧ 0 < m.1.length) by omega), List.drop_eq_nil_of_le (by omega)]
    exact ⟨fun t ht => by simp at ht, by simp, rfl, rfl⟩
  | succ n ih =>
    intro i h h2
    rw [pkT_eq, pkC_eq]
    by_cases hi : i < m.1.length
    · rw [if_pos hi, if_pos hi]
      have hmn := manyN_two (m.1.length - i)
      obtain ⟨k1, k2, k3, k4⟩ := ih (i + manyN (m.1.length - i)) (by omega) (by
        rcases hmn with e | ⟨e, e2⟩
        · rw [e]
          have : manyN (m.1.length - i) ≠ 3 := by omega
          have : m.1.length - i ≠ 3 := fun h3 => by rw [h3] at this; exact this rfl
          omega
        · omega)
      refine ⟨fun t ht => ?_, ?_, ?_, ?_⟩
      · rcases List.mem_cons.1 ht with rfl | ht
        · refine .inr ⟨rfl, rfl, ?_, ?_, ?_, Nat.zero_le _, fun u hu => ?_⟩
          · simp [packT]; omega
          · simp [packT]; omega
          · have := hm.1
            simp [packT]; omega
          · exact hm.2 u (List.mem_of_mem_drop (List.mem_of_mem_take hu))
        · exact k1 t ht
      · simp only [List.length_cons]; omega
      · rw [wtL_cons, k3, show wt (d + 1) (packT m i) = wtL d ((m.1.drop i).take (manyN (m.1.length - i))) by simp [wt, packT, wtL], ← wtL_append]
        rw [show m.1.drop (i + manyN (m.1.length - i)) = (m.1.drop i).drop (manyN (m.1.length - i)) by rw [List.drop_drop], List.take_append_drop]
      · simp only [List.length_cons, List.length_append]
        rw [if_neg (by omega)] at k4
        by_cases h0 : i = 0
        · subst h0; simp [hi] at *; omega
        · rw [if_pos (Nat.pos_of_ne_zero h0), if_neg (by omega)]; simp; omega
    · rw [if_neg hi, if_neg hi, if_neg (show ¬ (i = 0 ∧ 0 < m.1.length) by omega), List.drop_eq_nil_of_le (by omega)]
      exact ⟨fun t ht => by simp at ht, by simp, rfl, rfl⟩
theorem packM_ok {d : Nat} {m : TM} (hm : MOk d m) (h2 : 2 ≤ m.1.length) : MOk (d + 1) (packM m) ∧ wtL (d + 1) (packM m).1 = wtL d m.1 ∧ (packM m).1.length * 2 ≤ m.1.length := by
  obtain ⟨k1, k2, k3, k4⟩ := pk_ok hm m.1.length 0 (by omega) (by omega)
  rw [if_pos ⟨rfl, by omega⟩] at k4
  exact ⟨⟨k4, k1⟩, k3, k2⟩

theorem putM_ok {d : Nat} {m x : TM} {i : Nat} (hm : MOk d m) (hx : MOk d x) (hi : i < m.1.length) : MOk d (putM m i x) ∧ wtL d (putM m i x).1 + wt d (m.1.getD i noTr) = wtL d m.1 + wtL d x.1 ∧ (putM m i x).1.length + 1 = m.1.length + x.1.length := by
  obtain ⟨h1, h2⟩ := hm
  obtain ⟨h3, h4⟩ := hx
  refine ⟨⟨?_, fun t ht => ?_⟩, ?_, ?_⟩
  · simp [putM]; omega
  · simp only [putM, List.mem_append] at ht
    rcases ht with (ht | ht) | ht
    · exact h2 t (List.mem_of_mem_take ht)
    · exact h4 t ht
    · exact h2 t (List.mem_of_mem_drop ht)
  · have e : m.1 = m.1.take i ++ [m.1.getD i noTr] ++ m.1.drop (i + 1) := by
      have : m.1.getD i noTr = m.1[i] := by simp [List.getD, hi]
      rw [this, List.append_assoc, List.singleton_append, ← List.drop_eq_getElem_cons hi, List.take_append_drop]
    have e2 : wtL d m.1 = wtL d (m.1.take i) + wt d (m.1.getD i noTr) + wtL d (m.1.drop (i + 1)) := by
      conv => lhs; rw [e]
      rw [wtL_append, wtL_append, wtL_one]
    rw [e2, putM]
    simp only
    rw [wtL_append, wtL_append]
    omega
  · simp [putM]; omega

/-- how a row of trees grows, kid by kid -/
theorem side_ok {d : Nat} {m : TM} (f : Nat → TM) (a : Nat → Nat) (hf : ∀ i, i < m.1.length → MOk d (f i) ∧ wtL d (f i).1 ≤ wt d (m.1.getD i noTr) + a i) :
    ∀ k, k ≤ m.1.length → (∀ t ∈ sideT f k, shT d t) ∧ (sideC f m.2 k).length + (if k = 0 then 0 else 1) = (sideT f k).length ∧ wtL d (sideT f k) ≤ wtL d (m.1.take k) + ((List.range k).map a).sum ∧ k ≤ (sideT f k).length := by
  intro k
  induction k with
  | zero => intro _; exact ⟨fun t ht => by simp [sideT] at ht, rfl, by simp [sideT, wtL], Nat.le_refl _⟩
  | succ k ih =>
    intro hk
    obtain ⟨k1, k2, k3, k4⟩ := ih (by omega)
    obtain ⟨⟨f1, f2⟩, f3⟩ := hf k (by omega)
    refine ⟨fun t ht => ?_, ?_, ?_, ?_⟩
    · rcases List.mem_append.1 ht with ht | ht
      · exact k1 t ht
      · exact f2 t ht
    · simp only [sideC, sideT, List.length_append]
      rw [if_neg (Nat.succ_ne_zero k)]
      by_cases h0 : k = 0
      · subst h0; simp [sideC, sideT] at *; omega
      · rw [if_neg h0] at k2
        rw [if_pos (Nat.pos_of_ne_zero h0)]; simp; omega
    · rw [sideT, wtL_append, List.take_succ_eq_append_getElem (show k < m.1.length by omega), wtL_append, wtL_one, List.range_succ, List.map_append, List.sum_append]
      rw [show m.1.getD k noTr = m.1[k] by simp [List.getD, show k < m.1.length by omega]] at f3
      simp only [List.map_cons, List.map_nil, List.sum_cons, List.sum_nil]
      omega
    · simp only [sideT, List.length_append]; omega
theorem bothM_ok {d : Nat} {m : TM} (hm : MOk d m) (f : Nat → TM) (a : Nat → Nat) (hf : ∀ i, i < m.1.length → MOk d (f i) ∧ wtL d (f i).1 ≤ wt d (m.1.getD i noTr) + a i) : MOk d (bothM f m) ∧ wtL d (bothM f m).1 ≤ wtL d m.1 + ((List.range m.1.length).map a).sum ∧ m.1.length ≤ (bothM f m).1.length := by
  obtain ⟨k1, k2, k3, k4⟩ := side_ok f a hf m.1.length (Nat.le_refl _)
  have := hm.1
  rw [if_neg (by omega)] at k2
  rw [List.take_of_length_le (Nat.le_refl _)] at k3
  exact ⟨⟨k2, k1⟩, k3, k4⟩
theorem downM_both (g : Tr → ML → TM) (m : TM) (b : ML) : downM g m b = bothM (kidM g m b) m := rfl

/-- a function that keeps the depth d -/
def Keeps (d : Nat) (g : Tr → ML → TM) : Prop := ∀ T ms, shT d T → 0 < ms.length → MOk d (g T ms) ∧ wtL d (g T ms).1 ≤ wt d T + ms.length
theorem mineSum_range (cs : List Int) (b : ML) : ∀ n, ((List.range n).map fun i => (mineF cs i b).length).sum = mineSum cs b n
  | 0 => rfl
  | n + 1 => by rw [List.range_succ, List.map_append, List.sum_append, mineSum_range cs b n]; simp [mineSum]
theorem kidM_ok {d : Nat} {g : Tr → ML → TM} (hg : Keeps d g) {m : TM} (hm : MOk d m) (b : ML) : ∀ i, i < m.1.length → MOk d (kidM g m b i) ∧ wtL d (kidM g m b i).1 ≤ wt d (m.1.getD i noTr) + (mineF m.2 i b).length := by
  intro i hi
  unfold kidM
  by_cases h : 0 < (mineF m.2 i b).length
  · rw [if_pos h]
    exact hg _ _ (hm.2 _ (getD_mem hi)) h
  · rw [if_neg h]
    exact ⟨MOk.one (hm.2 _ (getD_mem hi)), by simp only [wtL_one]; omega⟩
theorem downM_ok {d : Nat} {g : Tr → ML → TM} (hg : Keeps d g) {m : TM} (hm : MOk d m) (b : ML) : MOk d (downM g m b) ∧ wtL d (downM g m b).1 ≤ wtL d m.1 + b.length ∧ m.1.length ≤ (downM g m b).1.length := by
  obtain ⟨k1, k2, k3⟩ := bothM_ok hm (kidM g m b) (fun i => (mineF m.2 i b).length) (kidM_ok hg hm b)
  rw [mineSum_range] at k2
  have := mineSum_le m.2 b m.1.length
  rw [downM_both]
  exact ⟨k1, by omega, k3⟩

theorem loopM_ok {d : Nat} {g : Tr → ML → TM} (hg : Keeps d g) : ∀ f m b, MOk d m → b.length ≤ f → MOk d (loopM g f m b).1 ∧ wtL d (loopM g f m b).1.1 + (loopM g f m b).2.length ≤ wtL d m.1 + b.length ∧ m.1.length ≤ (loopM g f m b).1.1.length ∧ (loopM g f m b).2.length ≤ 6
  | 0, m, b, hm, hb => ⟨hm, Nat.le_refl _, Nat.le_refl _, by simp only [loopM]; omega⟩
  | f + 1, m, b, hm, hb => by
    rw [loopM]
    by_cases h : 6 < b.length
    · rw [if_pos h]
      have hp := most_pos (cs := m.2) (b := b) (n := m.1.length) (by omega) (by have := hm.1; omega)
      have hi := (mostTo_is m.2 b m.1.length (by have := hm.1; omega)).1
      generalize (mostTo m.2 b m.1.length).1 = i at *
      have hk := hg _ _ (hm.2 _ (getD_mem hi)) hp
      have hmr := mine_rest m.2 i b
      have hpm := putM_ok hm hk.1 hi
      have hlen := hk.1.1
      obtain ⟨k1, k2, k3, k4⟩ := loopM_ok hg f _ (restF m.2 i b) hpm.1 (by omega)
      exact ⟨k1, by omega, by omega, k4⟩
    · rw [if_neg h]
      exact ⟨hm, Nat.le_refl _, Nat.le_refl _, by simp only; omega⟩

theorem giveM_ok : ∀ d, Keeps d (giveM d)
  | 0 => fun _ _ h _ => h.elim
  | d + 1 => fun T ms h hms => by
    rcases h with ⟨h1, rfl, h2, _⟩ | ⟨h1, _, h2, h3, h4, h5, h6⟩
    · rw [giveM, if_pos h1]
      have := allL_length T.pairs ms
      obtain ⟨k1, k2⟩ := leafM_ok (ps := allL T.pairs ms) (L := ms.length) (by omega) hms
      exact ⟨k1, by rw [wt, if_pos h1]; exact k2⟩
    · rw [giveM, if_neg (by rw [h1]; simp)]
      have hl := shrinkF_length (T.buf ++ ms)
      rw [List.length_append] at hl
      obtain ⟨k1, k2, k3, k4⟩ := loopM_ok (giveM_ok d) _ (T.kids, T.cuts) (shrinkF (T.buf ++ ms)) ⟨h4, h6⟩ (Nat.le_refl _)
      generalize loopM (giveM d) (shrinkF (T.buf ++ ms)).length (T.kids, T.cuts) (shrinkF (T.buf ++ ms)) = r at *
      have hw : wt (d + 1) T = wtL d T.kids + T.buf.length := by rw [wt, if_neg (by rw [h1]; simp)]; rfl
      simp only at k2 k3
      unfold endM
      by_cases hr : 4 < r.1.1.length
      · rw [if_pos hr]
        obtain ⟨q1, q2, q3⟩ := downM_ok (giveM_ok d) k1 r.2
        obtain ⟨p1, p2, _⟩ := packM_ok q1 (by omega)
        exact ⟨p1, by omega⟩
      · rw [if_neg hr]
        refine ⟨MOk.one (.inr ⟨rfl, rfl, by simp only; omega, by simp only; omega, k1.1, k4, k1.2⟩), ?_⟩
        rw [wtL_one, wt, if_neg (by simp)]
        show wtL d r.1.1 + r.2.length ≤ _
        omega

theorem drainM_ok : ∀ d T, shT d T → MOk d (drainM d T) ∧ wtL d (drainM d T).1 ≤ wt d T
  | 0, _, h => h.elim
  | d + 1, T, h => by
    rcases h with ⟨h1, rfl, h2, h3⟩ | ⟨h1, h0, h2, h3, h4, h5, h6⟩
    · rw [drainM, if_pos h1]
      exact ⟨MOk.one (.inl ⟨h1, rfl, h2, h3⟩), by rw [wtL_one]; exact Nat.le_refl _⟩
    · rw [drainM, if_neg (by rw [h1]; simp)]
      obtain ⟨q1, q2, q3⟩ := downM_ok (giveM_ok d) (m := (T.kids, T.cuts)) ⟨h4, h6⟩ T.buf
      generalize downM (giveM d) (T.kids, T.cuts) T.buf = m at *
      obtain ⟨p1, p2, p3⟩ := bothM_ok q1 (fun i => drainM d (m.1.getD i noTr)) (fun _ => 0) (fun i hi => drainM_ok d _ (q1.2 _ (getD_mem hi)))
      generalize bothM (fun i => drainM d (m.1.getD i noTr)) m = o at *
      have hw : wt (d + 1) T = wtL d T.kids + T.buf.length := by rw [wt, if_neg (by rw [h1]; simp)]; rfl
      have hz : ((List.range m.1.length).map fun _ => 0).sum = 0 := by
        generalize m.1.length = n
        induction n with
        | zero => rfl
        | succ n ih => rw [List.range_succ, List.map_append, List.sum_append, ih]; rfl
      simp only at q2 q3
      unfold endD
      by_cases hr : 4 < o.1.length
      · rw [if_pos hr]
        obtain ⟨r1, r2, _⟩ := packM_ok p1 (by omega)
        exact ⟨r1, by omega⟩
      · rw [if_neg hr]
        refine ⟨MOk.one (.inr ⟨rfl, rfl, by simp only; omega, by simp only; omega, p1.1, Nat.zero_le _, p1.2⟩), ?_⟩
        rw [wtL_one, wt, if_neg (by simp)]
        show wtL d o.1 + 0 ≤ _
        omega

theorem rootM_ok : ∀ f d m, MOk d m → m.1.length ≤ f → ∃ e, d ≤ e ∧ e ≤ d + f ∧ shT e (rootM f m) ∧ wt e (rootM f m) ≤ wtL d m.1
  | 0, d, m, hm, hf => absurd hm.1 (by omega)
  | f + 1, d, m, hm, hf => by
    rw [rootM]
    by_cases h : 4 < m.1.length
    · rw [if_pos h]
      obtain ⟨p1, p2, p3⟩ := packM_ok hm (by omega)
      obtain ⟨e, e1, e2, e3, e4⟩ := rootM_ok f (d + 1) (packM m) p1 (by omega)
      exact ⟨e, by omega, by omega, e3, by omega⟩
    · rw [if_neg h]
      by_cases h1 : m.1.length = 1
      · rw [if_pos h1]
        refine ⟨d, Nat.le_refl _, by omega, hm.2 _ (getD_mem (by omega)), ?_⟩
        match hm1 : m.1 with
        | [] => rw [hm1] at h1; simp at h1
        | [t] => simp [wtL]
        | _ :: _ :: _ => rw [hm1] at h1; simp at h1
      · rw [if_neg h1]
        have := hm.1
        refine ⟨d + 1, by omega, by omega, .inr ⟨rfl, rfl, by simp only; omega, by simp only; omega, hm.1, Nat.zero_le _, hm.2⟩, ?_⟩
        rw [wt, if_neg (by simp)]
        exact Nat.le_refl _

theorem sum_le_kids {d : Nat} : ∀ {ts : List Tr}, (∀ t ∈ ts, sizeT d t + 3 ≤ 7 * wt d t) → (ts.map (sizeT d)).sum + 3 * ts.length ≤ 7 * (ts.map (wt d)).sum
  | [], _ => by simp
  | t :: l, h => by
    have h1 := h t (by simp)
    have h2 := sum_le_kids (ts := l) (fun u hu => h u (by simp [hu]))
    simp only [List.map_cons, List.sum_cons, List.length_cons]
    omega
theorem size_wt : ∀ d T, shT d T → sizeT d T + 3 ≤ 7 * wt d T
  | 0, _, h => h.elim
  | d + 1, T, h => by
    rcases h with ⟨h1, rfl, h2, h3, h4, h5⟩ | ⟨h1, h0, h2, h3, h4, h5, h6⟩
    · rw [wt, if_pos h1, sizeT, h3, h4, h5]
      simp
      omega
    · rw [wt, if_neg (by rw [h1]; simp), sizeT, h0]
      have := sum_le_kids (fun t ht => size_wt d t (h6 t ht))
      simp only [List.length_nil]
      omega
theorem sum_wt_kids {d c : Nat} : ∀ {ts : List Tr}, (∀ t ∈ ts, wt d t + 2 ≤ c) → (ts.map (wt d)).sum + 2 * ts.length ≤ ts.length * c
  | [], _ => by simp
  | t :: l, h => by
    have h1 := h t (by simp)
    have h2 := sum_wt_kids (ts := l) (fun u hu => h u (by simp [hu]))
    simp only [List.map_cons, List.sum_cons, List.length_cons, Nat.add_mul, Nat.one_mul]
    omega
theorem wt_le : ∀ d T, shT d T → wt d T + 2 ≤ 3 * 4 ^ d
  | 0, _, h => h.elim
  | d + 1, T, h => by
    rcases h with ⟨h1, rfl, _⟩ | ⟨h1, h0, h2, h3, h4, h5, h6⟩
    · rw [wt, if_pos h1]; decide
    · rw [wt, if_neg (by rw [h1]; simp), Nat.pow_succ]
      have h7 := sum_wt_kids (fun t ht => wt_le d t (h6 t ht))
      have h8 : T.kids.length * (3 * 4 ^ d) ≤ 4 * (3 * 4 ^ d) := Nat.mul_le_mul_right _ h3
      have h9 : 2 ≤ 3 * 4 ^ d := by have : 0 < 4 ^ d := Nat.pow_pos (by decide); omega
      rcases (show T.kids.length = 2 ∨ T.kids.length = 3 ∨ T.kids.length = 4 by omega) with e | e | e <;> rw [e] at h7 <;> omega

/-- what is right has a shape -/
theorem sh_of_depth : ∀ {m : Nat} {T : Tr} {lo up : Int}, depthF m T lo up ≠ 0 → shT (depthF m T lo up) T
  | 0, _, _, _, h => absurd rfl h
  | m + 1, T, lo, up, h => by
    cases hl : T.leaf
    · have hk := depthF_fork_ok h hl
      have hp := forkOk_parts hk.1
      have e := depthF_fork (m := m) hl hk.1
      have he := kidsD_yes (d := kidF m T lo up) (n := T.kids.length) (hk.2 0 (by omega)) (fun i hi => by
        rcases Nat.decEq (kidF m T lo up i) (kidF m T lo up 0) with hne | he
        · exact absurd (e.trans (kidsD_ne hi hne)) h
        · exact he)
      rw [e, he]
      refine .inr ⟨hl, hp.1, hp.2.1.1, hp.2.1.2, hp.2.2.1, hp.2.2.2.1, fun t ht => ?_⟩
      obtain ⟨i, hi, rfl⟩ := List.getElem_of_mem ht
      have h1 := sh_of_depth (hk.2 i hi)
      have h2 : kidF m T lo up i = kidF m T lo up 0 := by
        rcases Nat.decEq (kidF m T lo up i) (kidF m T lo up 0) with hne | he
        · exact absurd (e.trans (kidsD_ne hi hne)) h
        · exact he
      rw [← h2]
      have h3 : kidT T i = T.kids[i] := by simp [kidT, List.getD, hi]
      rw [← h3]
      exact h1
    · have hp := leafOk_parts (depthF_leaf_ok h hl)
      have e := depthF_leaf (m := m) (lo := lo) (hi := up) hl
      rw [if_pos (depthF_leaf_ok h hl)] at e
      rw [e]
      exact .inl ⟨hl, rfl, hp.2.1, hp.2.2.2.2.1, hp.2.2.1, hp.2.2.2.1⟩

end Go.Proofs.YtmpiijphpnjlnaaGreat

namespace Go.Proofs.YtmpiijphpnjlnaaGreat
open Go.RowKit

theorem wp_app_row {P : Program} {o : Oper} {a : Act} {K : Act → World → Prop} {Q : Exit → Act → World → Prop} (W : World) (s x : Operand) (t : TypeId)
    (ho : o.op = .call { callee := .builtin .append, args := #[s, x], argTypes := #[t, t] })
    (base : Nat) (e : TypeId) (i : TypeInfo) (z : Value) (size bytes : Nat) (ht : P.underlying t = some (.slice e)) (hi : P.info? e = some i) (hz : i.zero = some z)
    (hsize : i.size = size) (hby : i.bytes = bytes) (hzs : z.cells.size = size) (hsz : 0 < size)
    (v : Value) (n : Nat) (xs : List Value) (hs : a.eval s = v) (hown : W.ownsRow base e size v n xs)
    (u : Value) (m : Nat) (news : List Value) (hx : a.eval x = u) (hr : Row W u m news) (hl : news.length = m * size) (h1 : ∀ y ∈ news, y.oneCell' = true)
    (h63 : n + m ≤ maxLen) (hbytes : (n + m) * bytes ≤ 140737488355328) (hbase : base ≤ W.heap.size)
    (h : ∀ v' w', w'.ownsRow base e size v' (n + m) (xs ++ news) → Chg (fun g => v.ownBlock = some g) W w' → Below base W w' → K (a.put o.dst v') w') : o.wp P a W K Q := by
  obtain ⟨sa, b, off, cap, rfl, hle, hmx, hsa, hcell, hnil⟩ := hr
  by_cases hm : 0 < m
  · obtain rfl := hsa hm
    refine wp_append_lies W s x t ho base e i z size bytes ht hi hz hsize hby hzs hsz v n xs hs hown ⟨b, off, none⟩ m cap news hx hl ?_ h1 hm h63 hbytes hbase _ rfl ?_
    · intro j y hj
      rw [Go.WideShapes.add_plain]
      exact hcell j y hj
    · intro g cap' w' h2 h3 _ _
      have hc := chg_of_grown h3
      exact h _ w' h2 hc (below_of_own hown hc hbase)
  · have hm0 : m = 0 := by omega
    subst hm0
    have hn0 : news = [] := List.length_eq_zero_iff.1 (by omega)
    subst hn0
    cases sa with
    | none =>
      have hc0 := hnil rfl
      subst hc0
      have hrun := run_append_owned_none (P := P) (w := W) base t o.type e i size ht hi v n xs hown
      unfold Oper.wp
      simp [execOp, ho, resolve, invoke, builtin, hs, hx, hrun, Result.andThen]
      exact h v W (by simpa using hown) (Chg.refl _ _) (Below.refl _ _)
    | some ad =>
      obtain ⟨v', w', hr, h2, h3, _⟩ := run_append_own_at (P := P) W base t o.type e i z size bytes ht hi hz hsize hby hzs hsz v n xs hown ad 0 cap [] (by simp) (by intro j y hj; simp at hj) h1 h63 hbytes hbase
      unfold Oper.wp
      simp [execOp, ho, resolve, invoke, builtin, hs, hx, hr, Result.andThen]
      have hc := chg_of_grown h3
      exact h _ w' h2 hc (below_of_own hown hc hbase)

theorem step_app_row {P : Program} {ops : Array Oper} {o : Oper} {a : Act} {K : Act → World → Prop} {Q : Exit → Act → World → Prop} {E : Prop} (W : World) (hgd : o.guard = none) (s x : Operand) (t : TypeId)
    (ho : o.op = .call { callee := .builtin .append, args := #[s, x], argTypes := #[t, t] })
    (base : Nat) (e : TypeId) (i : TypeInfo) (z : Value) (size bytes : Nat) (ht : P.underlying t = some (.slice e)) (hi : P.info? e = some i) (hz : i.zero = some z)
    (hsize : i.size = size) (hby : i.bytes = bytes) (hzs : z.cells.size = size) (hsz : 0 < size)
    (v : Value) (n : Nat) (xs : List Value) (hs : a.eval s = v) (hown : W.ownsRow base e size v n xs)
    (u : Value) (m : Nat) (news : List Value) (hx : a.eval x = u) (hr : Row W u m news) (hl : news.length = m * size) (h1 : ∀ y ∈ news, y.oneCell' = true)
    (h63 : n + m ≤ maxLen) (hbytes : (n + m) * bytes ≤ 140737488355328) (hbase : base ≤ W.heap.size)
    (h : ∀ v' w', w'.ownsRow base e size v' (n + m) (xs ++ news) → Chg (fun g => v.ownBlock = some g) W w' → Below base W w' → K (a.put o.dst v') w') :
    if Region.wanted o (yielded ops a.tmps) = true then Oper.wp P o a W K Q else E := by
  have hw : Region.wanted o (yielded ops a.tmps) = true := by simp [Region.wanted, hgd]
  rw [if_pos hw]
  exact wp_app_row W s x t ho base e i z size bytes ht hi hz hsize hby hzs hsz v n xs hs hown u m news hx hr hl h1 h63 hbytes hbase h

theorem flatM_one (l : ML) : ∀ y ∈ flatM l, y.oneCell' = true := by
  induction l with
  | nil => intro y hy; simp [flatM] at hy
  | cons p l ih =>
    intro y hy
    rw [flatM_cons] at hy
    rcases List.mem_cons.1 hy with rfl | hy
    · rfl
    · rcases List.mem_cons.1 hy with rfl | hy
      · rfl
      · rcases List.mem_cons.1 hy with rfl | hy
        · rfl
        · exact ih y hy
theorem three_one (a b c : Int) : ∀ u ∈ [Value.int .i64 a, Value.int .i64 b, Value.int .i64 c], u.oneCell' = true := by
  intro u hu; simp at hu; rcases hu with rfl | rfl | rfl <;> rfl

end Go.Proofs.YtmpiijphpnjlnaaGreat

namespace Go.Proofs.YtmpiijphpnjlnaaGreat
open Go.RowKit

/-- A ROW whose cells lie in a block of F. -/
def RowF (w : World) (F : Nat → Prop) (v : Value) (n : Nat) (xs : List Value) : Prop :=
  ∃ (a : Option Addr) (b off cap : Nat), v = .slice a n cap ∧ n ≤ cap ∧ cap ≤ maxLen ∧ (0 < n → a = some ⟨b, off, none⟩ ∧ F b) ∧ (∀ j u, xs[j]? = some u → w.cell? ⟨b, off + j, none⟩ = some u) ∧ (a = none → cap = 0) ∧ (n = 0 → xs = [])
theorem RowF.row {w : World} {F : Nat → Prop} {v : Value} {n : Nat} {xs : List Value} (h : RowF w F v n xs) : Row w v n xs := by
  obtain ⟨a, b, off, cap, h1, h2, h3, h4, h5, h6, _⟩ := h
  exact ⟨a, b, off, cap, h1, h2, h3, fun hn => (h4 hn).1, h5, h6⟩
theorem RowF.mono {w : World} {F G : Nat → Prop} {v : Value} {n : Nat} {xs : List Value} (h : RowF w F v n xs) (hFG : ∀ g, F g → G g) : RowF w G v n xs := by
  obtain ⟨a, b, off, cap, h1, h2, h3, h4, h5, h6, h7⟩ := h
  exact ⟨a, b, off, cap, h1, h2, h3, fun hn => ⟨(h4 hn).1, hFG _ (h4 hn).2⟩, h5, h6, h7⟩
theorem RowF.frame {w w' : World} {F : Nat → Prop} {v : Value} {n : Nat} {xs : List Value} (h : RowF w F v n xs) (hf : ∀ g, F g → g < w.heap.size → w'.heap[g]? = w.heap[g]?) : RowF w' F v n xs := by
  obtain ⟨a, b, off, cap, h1, h2, h3, h4, h5, h6, h7⟩ := h
  refine ⟨a, b, off, cap, h1, h2, h3, h4, fun j u hj => ?_, h6, h7⟩
  have hc := h5 j u hj
  rcases Nat.eq_zero_or_pos n with h0 | h0
  · rw [h7 h0] at hj; simp at hj
  · rw [World.cell?_of_block (hf b (h4 h0).2 (cell_lt hc))]
    exact hc
/-- the blocks are there -/
theorem RowF.lt {w : World} {F : Nat → Prop} {v : Value} {n : Nat} {xs : List Value} (h : RowF w F v n xs) (hx : 0 < n → xs ≠ []) : RowF w (fun g => F g ∧ g < w.heap.size) v n xs := by
  obtain ⟨a, b, off, cap, h1, h2, h3, h4, h5, h6, h7⟩ := h
  refine ⟨a, b, off, cap, h1, h2, h3, fun hn => ⟨(h4 hn).1, (h4 hn).2, ?_⟩, h5, h6, h7⟩
  obtain ⟨u, hu⟩ : ∃ u, xs[0]? = some u := by
    cases hxs : xs with
    | nil => exact absurd hxs (hx hn)
    | cons a l => exact ⟨a, rfl⟩
  exact cell_lt (h5 0 u hu)
theorem RowF.of_row {w : World} {v : Value} {n : Nat} {xs : List Value} (h : Row w v n xs) (h0 : n = 0 → xs = []) (hx : 0 < n → xs ≠ []) : RowF w (fun g => g < w.heap.size) v n xs := by
  obtain ⟨a, b, off, cap, h1, h2, h3, h4, h5, h6⟩ := h
  have : RowF w (fun _ => True) v n xs := ⟨a, b, off, cap, h1, h2, h3, fun hn => ⟨h4 hn, trivial⟩, h5, h6, h0⟩
  exact (this.lt hx).mono fun g hg => hg.2
theorem RowF.of_owns {w : World} {base e size n : Nat} {v : Value} {xs : List Value} (h : w.ownsRow base e size v n xs) : RowF w (fun g => v.ownBlock = some g) v n xs := by
  have h0 := h
  obtain ⟨hl, h | ⟨g, cap, cur, rfl, hg, hh, hn, hcap, hsz, htake⟩⟩ := h
  · obtain ⟨rfl, rfl⟩ := h
    have hx : xs = [] := by simpa using hl
    subst hx
    exact ⟨none, 0, 0, 0, rfl, Nat.le_refl _, Nat.zero_le _, fun h => absurd h (Nat.lt_irrefl _), fun j u hj => by simp at hj, fun _ => rfl, fun _ => rfl⟩
  · refine ⟨some ⟨g, 0, none⟩, g, 0, cap, rfl, hn, hcap, fun _ => ⟨rfl, rfl⟩, fun j u hj => ?_, (fun h => by cases h), fun h => ?_⟩
    · have hlt : j < n * size := by
        have := (List.getElem?_eq_some_iff.1 hj).1
        omega
      rw [Nat.zero_add, h0.cellAt j hlt]
      exact hj
    · subst h
      exact List.length_eq_zero_iff.1 (by omega)
/-- a stretch of a row -/
theorem flat_get {xs : List Value} {i m size : Nat} (j : Nat) : ((xs.drop (i * size)).take (m * size))[j]? = if j < m * size then xs[i * size + j]? else none := by
  rw [List.getElem?_take]
  split
  · rw [List.getElem?_drop]
  · rfl

theorem flatP_ne (l : List (Int × Int)) : (l.length = 0 → flatP l = []) ∧ (0 < l.length → flatP l ≠ []) := by
  have := flatP_length l
  exact ⟨fun h => List.length_eq_zero_iff.1 (by omega), fun h e => by rw [e] at this; simp at this; omega⟩
theorem flatI_ne (l : List Int) : (l.length = 0 → flatI l = []) ∧ (0 < l.length → flatI l ≠ []) := by
  have := flatI_length l
  exact ⟨fun h => List.length_eq_zero_iff.1 (by omega), fun h e => by rw [e] at this; simp at this; omega⟩
theorem flatM_ne (l : ML) : (l.length = 0 → flatM l = []) ∧ (0 < l.length → flatM l ≠ []) := by
  have := flatM_length l
  exact ⟨fun h => List.length_eq_zero_iff.1 (by omega), fun h e => by rw [e] at this; simp at this; omega⟩
theorem flatT_ne (l : List TV) : (l.length = 0 → flatT l = []) ∧ (0 < l.length → flatT l ≠ []) := by
  have := flatT_length l
  exact ⟨fun h => List.length_eq_zero_iff.1 (by omega), fun h e => by rw [e] at this; simp at this; omega⟩

/-- A TREE whose rows lie in blocks of F. -/
def TreeF : Nat → World → (Nat → Prop) → TV → Tr → Prop
  | 0, _, _, _, _ => False
  | n + 1, w, F, x, T => x.lf = T.leaf ∧ RowF w F x.p T.pairs.length (flatP T.pairs) ∧ RowF w F x.c T.cuts.length (flatI T.cuts) ∧ RowF w F x.b T.buf.length (flatM T.buf) ∧
      ∃ xs : List TV, xs.length = T.kids.length ∧ RowF w F x.k xs.length (flatT xs) ∧ ∀ i, i < xs.length → TreeF n w F (tvAt xs i) (kidT T i)
/-- A LIST OF TREES whose rows lie in blocks of F. -/
def TreesF (n : Nat) (w : World) (F : Nat → Prop) (v : Value) (ts : List Tr) : Prop :=
  ∃ xs : List TV, xs.length = ts.length ∧ RowF w F v xs.length (flatT xs) ∧ ∀ i, i < xs.length → TreeF n w F (tvAt xs i) (ts.getD i noTr)
theorem TreeF.treeAt : ∀ {n : Nat} {w : World} {F : Nat → Prop} {x : TV} {T : Tr}, TreeF n w F x T → TreeAt n w x T
  | 0, _, _, _, _, h => h
  | _ + 1, _, _, _, _, ⟨h1, h2, h3, h4, xs, h5, h6, h7⟩ => ⟨h1, h2.row, h3.row, h4.row, xs, h5, h6.row, fun i hi => (h7 i hi).treeAt⟩
theorem TreeF.mono : ∀ {n : Nat} {w : World} {F G : Nat → Prop} {x : TV} {T : Tr}, TreeF n w F x T → (∀ g, F g → G g) → TreeF n w G x T
  | 0, _, _, _, _, _, h, _ => h
  | _ + 1, _, _, _, _, _, ⟨h1, h2, h3, h4, xs, h5, h6, h7⟩, k => ⟨h1, h2.mono k, h3.mono k, h4.mono k, xs, h5, h6.mono k, fun i hi => (h7 i hi).mono k⟩
theorem TreeF.frame : ∀ {n : Nat} {w w' : World} {F : Nat → Prop} {x : TV} {T : Tr}, TreeF n w F x T → (∀ g, F g → g < w.heap.size → w'.heap[g]? = w.heap[g]?) → TreeF n w' F x T
  | 0, _, _, _, _, _, h, _ => h
  | _ + 1, _, _, _, _, _, ⟨h1, h2, h3, h4, xs, h5, h6, h7⟩, k => ⟨h1, h2.frame k, h3.frame k, h4.frame k, xs, h5, h6.frame k, fun i hi => (h7 i hi).frame k⟩
theorem TreeF.lt : ∀ {n : Nat} {w : World} {F : Nat → Prop} {x : TV} {T : Tr}, TreeF n w F x T → TreeF n w (fun g => F g ∧ g < w.heap.size) x T
  | 0, _, _, _, _, h => h
  | _ + 1, _, _, _, _, ⟨h1, h2, h3, h4, xs, h5, h6, h7⟩ => ⟨h1, h2.lt (flatP_ne _).2, h3.lt (flatI_ne _).2, h4.lt (flatM_ne _).2, xs, h5, h6.lt (flatT_ne _).2, fun i hi => (h7 i hi).lt⟩
theorem TreeF.of_treeAt : ∀ {n : Nat} {w : World} {x : TV} {T : Tr}, TreeAt n w x T → TreeF n w (fun g => g < w.heap.size) x T
  | 0, _, _, _, h => h
  | _ + 1, _, _, _, ⟨h1, h2, h3, h4, xs, h5, h6, h7⟩ => ⟨h1, RowF.of_row h2 (flatP_ne _).1 (flatP_ne _).2, RowF.of_row h3 (flatI_ne _).1 (flatI_ne _).2, RowF.of_row h4 (flatM_ne _).1 (flatM_ne _).2, xs, h5, RowF.of_row h6 (flatT_ne _).1 (flatT_ne _).2, fun i hi => TreeF.of_treeAt (h7 i hi)⟩
theorem TreeF.up : ∀ {n : Nat} {w : World} {F : Nat → Prop} {x : TV} {T : Tr}, TreeF n w F x T → TreeF (n + 1) w F x T
  | 0, _, _, _, _, h => h.elim
  | _ + 1, _, _, _, _, ⟨h1, h2, h3, h4, xs, h5, h6, h7⟩ => ⟨h1, h2, h3, h4, xs, h5, h6, fun i hi => (h7 i hi).up⟩
theorem TreeF.le {n m : Nat} {w : World} {F : Nat → Prop} {x : TV} {T : Tr} (h : TreeF n w F x T) (hm : n ≤ m) : TreeF m w F x T := by
  induction hm with
  | refl => exact h
  | step _ ih => exact ih.up
theorem TreeF.chg {n : Nat} {w w' : World} {F P : Nat → Prop} {x : TV} {T : Tr} (h : TreeF n w F x T) (hc : Chg P w w') (hd : ∀ g, F g → ¬ P g) : TreeF n w' F x T := h.frame fun g hg hl => hc.block g hl (hd g hg)
theorem TreeF.below {n : Nat} {w w' : World} {F : Nat → Prop} {x : TV} {T : Tr} (h : TreeF n w F x T) (hb : Below w.heap.size w w') : TreeF n w' F x T := h.frame fun g _ hl => hb.block g hl
theorem RowF.below {w w' : World} {F : Nat → Prop} {v : Value} {n : Nat} {xs : List Value} (h : RowF w F v n xs) (hb : Below w.heap.size w w') : RowF w' F v n xs := h.frame fun g _ hl => hb.block g hl
theorem RowF.chg {w w' : World} {F P : Nat → Prop} {v : Value} {n : Nat} {xs : List Value} (h : RowF w F v n xs) (hc : Chg P w w') (hd : ∀ g, F g → ¬ P g) : RowF w' F v n xs := h.frame fun g hg hl => hc.block g hl (hd g hg)
theorem TreesF.below {n : Nat} {w w' : World} {F : Nat → Prop} {v : Value} {ts : List Tr} (h : TreesF n w F v ts) (hb : Below w.heap.size w w') : TreesF n w' F v ts := by
  obtain ⟨xs, h1, h2, h3⟩ := h
  exact ⟨xs, h1, h2.below hb, fun i hi => (h3 i hi).below hb⟩
theorem TreesF.chg {n : Nat} {w w' : World} {F P : Nat → Prop} {v : Value} {ts : List Tr} (h : TreesF n w F v ts) (hc : Chg P w w') (hd : ∀ g, F g → ¬ P g) : TreesF n w' F v ts := by
  obtain ⟨xs, h1, h2, h3⟩ := h
  exact ⟨xs, h1, h2.chg hc hd, fun i hi => (h3 i hi).chg hc hd⟩
theorem TreesF.mono {n : Nat} {w : World} {F G : Nat → Prop} {v : Value} {ts : List Tr} (h : TreesF n w F v ts) (k : ∀ g, F g → G g) : TreesF n w G v ts := by
  obtain ⟨xs, h1, h2, h3⟩ := h
  exact ⟨xs, h1, h2.mono k, fun i hi => (h3 i hi).mono k⟩
theorem TreesF.le {n m : Nat} {w : World} {F : Nat → Prop} {v : Value} {ts : List Tr} (h : TreesF n w F v ts) (hm : n ≤ m) : TreesF m w F v ts := by
  obtain ⟨xs, h1, h2, h3⟩ := h
  exact ⟨xs, h1, h2, fun i hi => (h3 i hi).le hm⟩
theorem TreesF.treesAt {n : Nat} {w : World} {F : Nat → Prop} {v : Value} {ts : List Tr} (h : TreesF n w F v ts) : TreesAt n w v ts := by
  obtain ⟨xs, h1, h2, h3⟩ := h
  exact ⟨xs, h1, h2.row, fun i hi => (h3 i hi).treeAt⟩
theorem TreeF.parts {n : Nat} {w : World} {F : Nat → Prop} {x : TV} {T : Tr} (h : TreeF (n + 1) w F x T) :
    x.lf = T.leaf ∧ RowF w F x.p T.pairs.length (flatP T.pairs) ∧ RowF w F x.c T.cuts.length (flatI T.cuts) ∧ RowF w F x.b T.buf.length (flatM T.buf) ∧ TreesF n w F x.k T.kids := by
  obtain ⟨h1, h2, h3, h4, xs, h5, h6, h7⟩ := h
  exact ⟨h1, h2, h3, h4, xs, h5, h6, h7⟩
theorem TreeF.mk {n : Nat} {w : World} {F : Nat → Prop} {x : TV} {T : Tr} (h1 : x.lf = T.leaf) (h2 : RowF w F x.p T.pairs.length (flatP T.pairs)) (h3 : RowF w F x.c T.cuts.length (flatI T.cuts)) (h4 : RowF w F x.b T.buf.length (flatM T.buf)) (h5 : TreesF n w F x.k T.kids) : TreeF (n + 1) w F x T := by
  obtain ⟨xs, h5, h6, h7⟩ := h5
  exact ⟨h1, h2, h3, h4, xs, h5, h6, h7⟩
theorem flatT_oneF {n : Nat} {w : World} {F : Nat → Prop} {ts : List Tr} {xs : List TV} (h : ∀ i, i < xs.length → TreeF n w F (tvAt xs i) (ts.getD i noTr)) : ∀ y ∈ flatT xs, y.oneCell' = true := by
  intro y hy
  obtain ⟨x, hx, hy2⟩ := List.mem_flatMap.1 hy
  obtain ⟨i, hi, rfl⟩ := List.getElem_of_mem hx
  have := h i hi
  have e : tvAt xs i = xs[i] := by simp [tvAt, List.getD, hi]
  rw [e] at this
  obtain ⟨a1, a2, a3, a4, c1, c2, c3, c4, hs⟩ := this.treeAt.shape
  rw [hs] at hy2
  simp [TV.cells] at hy2
  rcases hy2 with rfl | rfl | rfl | rfl | rfl <;> rfl

/-- THE NIL ROW. -/
theorem RowF.nil (w : World) (F : Nat → Prop) : RowF w F (.slice none 0 0) 0 [] :=
  ⟨none, 0, 0, 0, rfl, Nat.le_refl _, Nat.zero_le _, fun h => absurd h (Nat.lt_irrefl _), fun j u hj => by simp at hj, fun _ => rfl, fun _ => rfl⟩
theorem TreesF.nil (n : Nat) (w : World) (F : Nat → Prop) : TreesF n w F (.slice none 0 0) [] := ⟨[], rfl, RowF.nil w F, fun i hi => by simp at hi⟩

end Go.Proofs.YtmpiijphpnjlnaaGreat
