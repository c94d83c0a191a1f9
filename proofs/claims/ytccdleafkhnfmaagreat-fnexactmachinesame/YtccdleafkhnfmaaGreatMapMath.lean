/-
  What map a tree tells, as plain functions: kid by kid as the model says it, leaf by leaf as the program does; plain mathematics.
-/
import Derived.Test.YtccdleafkhnfmaaGreatQueryMath
namespace Go.Proofs.YtccdleafkhnfmaaGreat

theorem getP_append_left {A B : PL} {k : Int} (h : ∀ p ∈ B, p.1 ≠ k) : getP (A ++ B) k = getP A k := by
  induction A with
  | nil =>
    show getP B k = (0, false)
    induction B with
    | nil => rfl
    | cons p B ih => rw [getP, if_neg (h p List.mem_cons_self)]; exact ih fun q hq => h q (List.mem_cons_of_mem _ hq)
  | cons p A ih => rw [List.cons_append, getP, getP, ih]
theorem getP_append_right {A B : PL} {k : Int} (h : ∀ p ∈ A, p.1 ≠ k) : getP (A ++ B) k = getP B k := by
  induction A with
  | nil => rfl
  | cons p A ih => rw [List.cons_append, getP, if_neg (h p List.mem_cons_self)]; exact ih fun q hq => h q (List.mem_cons_of_mem _ hq)
theorem getP_no {l : PL} {k : Int} (h : ∀ p ∈ l, p.1 ≠ k) : getP l k = (0, false) := by
  have := getP_append_left (A := []) h
  simpa [getP] using this
theorem asc_append {A B : PL} {c : Int} (hA : Asc A) (hB : Asc B) (h1 : ∀ p ∈ A, p.1 < c) (h2 : ∀ p ∈ B, c ≤ p.1) : Asc (A ++ B) := by
  show (keys (A ++ B)).Pairwise (· < ·)
  rw [keys, List.map_append]
  refine List.pairwise_append.2 ⟨hA, hB, fun a ha b hb => ?_⟩
  obtain ⟨p, hp, rfl⟩ := List.mem_map.1 ha
  obtain ⟨q, hq, rfl⟩ := List.mem_map.1 hb
  have := h1 p hp
  have := h2 q hq
  omega
theorem asc_ext : ∀ {l1 l2 : PL}, Asc l1 → Asc l2 → (∀ k, getP l1 k = getP l2 k) → l1 = l2
  | [], [], _, _, _ => rfl
  | [], q :: l2, _, _, h => by have := h q.1; rw [getP, getP, if_pos rfl] at this; simp at this
  | p :: l1, [], _, _, h => by have := h p.1; rw [getP, getP, if_pos rfl] at this; simp at this
  | p :: l1, q :: l2, h1, h2, h => by
    obtain ⟨a1, a2⟩ := h1.cons
    obtain ⟨b1, b2⟩ := h2.cons
    have n1 : ∀ j, j ≤ p.1 → getP l1 j = (0, false) := fun j hj => getP_no fun r hr => by have := a1 r hr; omega
    have n2 : ∀ j, j ≤ q.1 → getP l2 j = (0, false) := fun j hj => getP_no fun r hr => by have := b1 r hr; omega
    have hk : p.1 = q.1 := by
      rcases Int.lt_trichotomy p.1 q.1 with hlt | he | hgt
      · have := h p.1
        rw [getP, if_pos rfl, getP, if_neg (by omega), n2 _ (by omega)] at this
        simp at this
      · exact he
      · have := h q.1
        rw [getP, if_neg (by omega), n1 _ (by omega), getP, if_pos rfl] at this
        simp at this
    have hv := h p.1
    rw [getP, if_pos rfl, getP, if_pos hk.symm] at hv
    have hpq : p = q := Prod.ext hk (by simpa using hv)
    subst hpq
    rw [asc_ext a2 b2 fun j => ?_]
    by_cases hj : p.1 = j
    · subst hj; rw [n1 _ (Int.le_refl _), n2 _ (Int.le_refl _)]
    · have := h j
      rw [getP, if_neg hj, getP, if_neg hj] at this
      exact this

theorem asc_lenIn : ∀ {l : PL} {lo : Int}, Asc l → lo ≤ 1000 → (∀ p ∈ l, lo ≤ p.1 ∧ p.1 ≤ 999) → (l.length : Int) ≤ 1000 - lo
  | [], lo, _, h, _ => by simp; omega
  | p :: l, lo, hA, hlo, h => by
    obtain ⟨h1, h2⟩ := hA.cons
    have hp := h p List.mem_cons_self
    have := asc_lenIn (lo := p.1 + 1) h2 (by omega) fun q hq => ⟨by have := h1 q hq; omega, (h q (List.mem_cons_of_mem _ hq)).2⟩
    simp only [List.length_cons]
    omega
theorem MapP.length {l : PL} (h : MapP l) : l.length ≤ 1000 := by
  have := asc_lenIn (lo := 0) h.1 (by decide) fun p hp => (h.2 p hp).1
  omega

/-- keys within bounds -/
def KeysIn (lo hi : Int) (l : PL) : Prop := ∀ p ∈ l, lo ≤ p.1 ∧ p.1 < hi
/-- MAPS SIDE BY SIDE, with the cuts between. -/
def Chain : Int → Int → List Int → List PL → Prop
  | lo, hi, [], [M] => MapP M ∧ KeysIn lo hi M
  | lo, hi, c :: cs, M :: Ms => (MapP M ∧ KeysIn lo c M) ∧ lo < c ∧ c < hi ∧ Chain c hi cs Ms
  | _, _, _, _ => False
theorem mapP_append {A B : PL} {c : Int} (hA : MapP A) (hB : MapP B) (h1 : ∀ p ∈ A, p.1 < c) (h2 : ∀ p ∈ B, c ≤ p.1) : MapP (A ++ B) :=
  ⟨asc_append hA.1 hB.1 h1 h2, fun p hp => (List.mem_append.1 hp).elim (hA.2 p) (hB.2 p)⟩
theorem Chain.flat : ∀ {cs : List Int} {lo hi : Int} {Ms : List PL}, Chain lo hi cs Ms → MapP Ms.flatten ∧ KeysIn lo hi Ms.flatten
  | [], _, _, [M], h => by rw [List.flatten_cons, List.flatten_nil, List.append_nil]; exact h
  | [], _, _, [], h => h.elim
  | [], _, _, _ :: _ :: _, h => h.elim
  | _ :: _, _, _, [], h => h.elim
  | c :: cs, lo, hi, M :: Ms, ⟨⟨h1, h2⟩, h3, h4, h5⟩ => by
    obtain ⟨h6, h7⟩ := Chain.flat h5
    rw [List.flatten_cons]
    refine ⟨mapP_append h1 h6 (fun p hp => (h2 p hp).2) (fun p hp => (h7 p hp).1), fun p hp => ?_⟩
    rcases List.mem_append.1 hp with hp | hp
    · have := h2 p hp; omega
    · have := h7 p hp; omega
theorem prefK_cons_pos {c k : Int} {cs : List Int} (h : c ≤ k) : prefK (c :: cs) k = prefK cs k + 1 := by
  simp only [prefK]
  rw [List.takeWhile_cons_of_pos (by simpa using h), List.length_cons]
theorem prefK_cons_neg {c k : Int} {cs : List Int} (h : ¬ c ≤ k) : prefK (c :: cs) k = 0 := by simp [prefK, h]
theorem Chain.get : ∀ {cs : List Int} {lo hi : Int} {Ms : List PL} (k : Int), Chain lo hi cs Ms → getP Ms.flatten k = getP (Ms.getD (prefK cs k) []) k
  | [], _, _, [M], k, _ => by simp [prefK]
  | [], _, _, [], _, h => h.elim
  | [], _, _, _ :: _ :: _, _, h => h.elim
  | _ :: _, _, _, [], _, h => h.elim
  | c :: cs, lo, hi, M :: Ms, k, ⟨⟨h1, h2⟩, h3, h4, h5⟩ => by
    rw [List.flatten_cons]
    by_cases hc : c ≤ k
    · rw [prefK_cons_pos hc, List.getD_cons_succ, ← Chain.get k h5]
      exact getP_append_right fun p hp => by have := h2 p hp; omega
    · rw [prefK_cons_neg hc, List.getD_cons_zero]
      exact getP_append_left fun p hp => by have := (Chain.flat h5).2 p hp; omega

def frC (cs : List Int) (lo : Int) (i : Nat) : Int := if i = 0 then lo else iAt cs (i - 1)
def toC (cs : List Int) (hi : Int) (i : Nat) : Int := if i < cs.length then iAt cs i else hi
theorem Chain.of : ∀ {cs : List Int} {lo hi : Int} {Ms : List PL}, Ms.length = cs.length + 1 → (∀ i, i < cs.length → frC cs lo i < iAt cs i ∧ iAt cs i < hi) →
    (∀ i, i < Ms.length → MapP (Ms.getD i []) ∧ KeysIn (frC cs lo i) (toC cs hi i) (Ms.getD i [])) → Chain lo hi cs Ms
  | [], lo, hi, [M], _, _, h => by simpa [frC, toC, Chain] using h 0 (by simp)
  | [], _, _, [], hl, _, _ => by simp at hl
  | [], _, _, _ :: _ :: _, hl, _, _ => by simp at hl
  | _ :: _, _, _, [], hl, _, _ => by simp at hl
  | c :: cs, lo, hi, M :: Ms, hl, hc, h => by
    have h0 := h 0 (by simp)
    have c0 := hc 0 (by simp)
    simp only [frC, toC, if_true, List.length_cons, Nat.zero_lt_succ, iAt, List.getD_cons_zero] at h0 c0
    refine ⟨h0, c0.1, c0.2, Chain.of (by simpa using hl) (fun i hi0 => ?_) (fun i hi0 => ?_)⟩
    · have := hc (i + 1) (by simpa using hi0)
      simp only [frC, iAt, Nat.add_one_ne_zero, if_false, Nat.add_sub_cancel, List.getD_cons_succ] at this ⊢
      cases i with
      | zero => simpa using this
      | succ i => simpa using this
    · have := h (i + 1) (by simpa using hi0)
      simp only [frC, toC, iAt, Nat.add_one_ne_zero, if_false, Nat.add_sub_cancel, List.getD_cons_succ, List.length_cons, Nat.add_lt_add_iff_right] at this ⊢
      cases i with
      | zero => simpa using this
      | succ i => simpa using this

/-- the model's way: all kids' maps side by side, and the messages above -/
def mapF : Nat → Tr → PL
  | 0, _ => []
  | n + 1, T => allL (T.pairs ++ (T.kids.map (mapF n)).flatten) T.buf
/-- the messages of one kid -/
def mineK (cs : List Int) (i : Nat) (ms : ML) : ML := ms.filter fun m => decide (cntK cs m.2.1 cs.length = i)
/-- the program's way: the messages come down, leaf by leaf -/
def toldF : Nat → Tr → ML → PL
  | 0, _, _ => []
  | n + 1, T, ab => if T.leaf = true then allL T.pairs ab else ((List.range T.kids.length).map fun i => toldF n (kidT T i) (mineK T.cuts i (T.buf ++ ab))).flatten

theorem doL_mem {l : PL} {m : Int × Int × Int} {p : Int × Int} (h : p ∈ doL l m) : p ∈ l ∨ p.1 = m.2.1 := by
  have hput : ∀ v, p ∈ putF l m.2.1 v → p ∈ l ∨ p.1 = m.2.1 := fun v hp => by
    rcases List.mem_append.1 hp with h1 | h1
    · exact .inl (List.mem_filter.1 h1).1
    · rcases List.mem_cons.1 h1 with rfl | h2
      · exact .inr rfl
      · exact .inl (List.mem_filter.1 h2).1
  unfold doL at h
  split at h
  · unfold doP at h
    split at h
    · exact hput _ h
    · split at h
      · exact .inl (List.mem_filter.1 h).1
      · split at h
        · exact hput _ h
        · exact .inl h
  · exact .inl h
theorem allL_keys {l : PL} {ms : ML} {lo hi : Int} (h : KeysIn lo hi l) (hm : ∀ m ∈ ms, lo ≤ m.2.1 ∧ m.2.1 < hi) : KeysIn lo hi (allL l ms) := by
  induction ms generalizing l with
  | nil => exact h
  | cons m ms ih =>
    refine ih (l := doL l m) (fun p hp => ?_) fun x hx => hm x (List.mem_cons_of_mem _ hx)
    rcases doL_mem hp with h1 | h1
    · exact h p h1
    · rw [h1]; exact hm m List.mem_cons_self

theorem cut_parts {T : Tr} {lo hi : Int} (h : cutsOkB T lo hi = true) : ∀ i, i < T.cuts.length → frC T.cuts lo i < iAt T.cuts i ∧ iAt T.cuts i < hi := by
  intro i hi0
  have := inB_iff.1 (allB_at h hi0)
  simp only [fromT] at this
  unfold frC
  omega
theorem fork_kids {m : Nat} {T : Tr} {lo hi : Int} (h : depthF (m + 1) T lo hi ≠ 0) (hl : T.leaf = false) : ∀ i, i < T.kids.length → depthF m (kidT T i) (frC T.cuts lo i) (toC T.cuts hi i) ≠ 0 := (depthF_fork_ok h hl).2
theorem valF_fork {m : Nat} {T : Tr} {k : Int} (hl : T.leaf = false) : valF (m + 1) T k = updA (valF m (kidK T k) k) (ofK T.buf k) := by
  rw [valF, leafF, pendF, if_neg (by rw [hl]; simp), if_neg (by rw [hl]; simp), updA_append]; rfl
theorem valF_leaf {m : Nat} {T : Tr} {k : Int} (hl : T.leaf = true) : valF (m + 1) T k = getP T.pairs k := by
  rw [valF, leafF, pendF, if_pos hl, if_pos hl]; rfl

theorem mapF_is : ∀ {m : Nat} {T : Tr} {lo hi : Int}, depthF m T lo hi ≠ 0 → MapP (mapF m T) ∧ KeysIn lo hi (mapF m T) ∧ ∀ k, getP (mapF m T) k = valF m T k
  | 0, _, _, _, h => absurd rfl h
  | m + 1, T, lo, hi, h => by
    cases hl : T.leaf
    · have hf := (depthF_fork_ok h hl).1
      obtain ⟨q1, q2, q3, q4, q5, q6⟩ := forkOk_parts hf
      have hk := fork_kids h hl
      have hb := bufOk_parts q5
      have C : Chain lo hi T.cuts (T.kids.map (mapF m)) := by
        refine Chain.of (by rw [List.length_map]; omega) (cut_parts q6) fun i hi0 => ?_
        rw [List.length_map] at hi0
        have e : (T.kids.map (mapF m)).getD i [] = mapF m (kidT T i) := by simp [List.getD, kidT, hi0]
        rw [e]
        have := mapF_is (hk i hi0)
        exact ⟨this.1, this.2.1⟩
      obtain ⟨f1, f2⟩ := C.flat
      rw [mapF, q1, List.nil_append]
      refine ⟨allL_mapP f1 _, allL_keys f2 fun x hx => (hb x hx).2, fun k => ?_⟩
      have hi0 := kidK_in hf k
      rw [getP_allL f1, C.get k, valF_fork hl]
      have e : (T.kids.map (mapF m)).getD (prefK T.cuts k) [] = mapF m (kidK T k) := by simp [List.getD, kidT, kidK, hi0]
      have e2 : getP (mapF m (kidK T k)) k = valF m (kidK T k) k := (mapF_is (hk _ hi0)).2.2 k
      rw [e, e2]
    · obtain ⟨q1, q2, q3, q4, q5, q6⟩ := leafOk_parts (depthF_leaf_ok h hl)
      have e : mapF (m + 1) T = T.pairs := by rw [mapF, q3, q4]; simp [allL]
      rw [e]
      exact ⟨q1, q6, fun k => (valF_leaf hl).symm⟩

theorem prefK_range {cs : List Int} {lo hi k : Int} {i : Nat} (hlen : i ≤ cs.length) (h : ∀ i, i < cs.length → frC cs lo i < iAt cs i ∧ iAt cs i < hi) (hk : lo ≤ k ∧ k < hi) (e : prefK cs k = i) : frC cs lo i ≤ k ∧ k < toC cs hi i := by
  induction cs generalizing lo i with
  | nil => simp at hlen; subst hlen; simpa [frC, toC] using hk
  | cons c cs ih =>
    have c0 := h 0 (by simp)
    simp only [frC, if_true, iAt, List.getD_cons_zero] at c0
    have hs : ∀ i, i < cs.length → frC cs c i < iAt cs i ∧ iAt cs i < hi := fun i hi0 => by
      have := h (i + 1) (by simpa using hi0)
      simp only [frC, iAt, Nat.add_one_ne_zero, if_false, Nat.add_sub_cancel, List.getD_cons_succ] at this ⊢
      cases i with
      | zero => simpa using this
      | succ i => simpa using this
    by_cases hc : c ≤ k
    · rw [prefK_cons_pos hc] at e
      subst e
      have := ih (lo := c) (i := prefK cs k) (by simpa using hlen) hs ⟨hc, hk.2⟩ rfl
      simp only [frC, toC, iAt, Nat.add_one_ne_zero, if_false, Nat.add_sub_cancel, List.getD_cons_succ, List.length_cons, Nat.add_lt_add_iff_right] at this ⊢
      generalize prefK cs k = j at *
      cases j with
      | zero => simpa using this
      | succ j => simpa using this
    · rw [prefK_cons_neg hc] at e
      subst e
      simp only [frC, toC, if_true, List.length_cons, Nat.zero_lt_succ, iAt, List.getD_cons_zero]
      omega
theorem ofK_mineK {cs : List Int} {k : Int} {i : Nat} (ms : ML) (e : cntK cs k cs.length = i) : ofK (mineK cs i ms) k = ofK ms k := by
  unfold ofK mineK
  rw [List.filter_filter]
  refine List.filter_congr fun m _ => ?_
  by_cases hm : m.2.1 = k
  · simp [hm, e]
  · simp [hm]

theorem toldF_is : ∀ {m : Nat} {T : Tr} {lo hi : Int} {ab : ML}, depthF m T lo hi ≠ 0 → (∀ x ∈ ab, lo ≤ x.2.1 ∧ x.2.1 < hi) →
    MapP (toldF m T ab) ∧ KeysIn lo hi (toldF m T ab) ∧ ∀ k, getP (toldF m T ab) k = updA (valF m T k) (ofK ab k)
  | 0, _, _, _, _, h, _ => absurd rfl h
  | m + 1, T, lo, hi, ab, h, hab => by
    cases hl : T.leaf
    · have hf := (depthF_fork_ok h hl).1
      obtain ⟨q1, q2, q3, q4, q5, q6⟩ := forkOk_parts hf
      have hk := fork_kids h hl
      have hb := bufOk_parts q5
      have hall : ∀ x ∈ T.buf ++ ab, lo ≤ x.2.1 ∧ x.2.1 < hi := fun x hx => (List.mem_append.1 hx).elim (fun h => (hb x h).2) (hab x)
      have hcp : ∀ k, cntK T.cuts k T.cuts.length = prefK T.cuts k := fun k => cntK_pref (cuts_asc q6)
      have hmine : ∀ i, i < T.kids.length → ∀ x ∈ mineK T.cuts i (T.buf ++ ab), frC T.cuts lo i ≤ x.2.1 ∧ x.2.1 < toC T.cuts hi i := fun i hi0 x hx => by
        obtain ⟨h1, h2⟩ := List.mem_filter.1 hx
        rw [decide_eq_true_eq, hcp] at h2
        exact prefK_range (by omega) (cut_parts q6) (hall x h1) h2
      have e : ∀ i, i < T.kids.length → ((List.range T.kids.length).map fun i => toldF m (kidT T i) (mineK T.cuts i (T.buf ++ ab))).getD i [] = toldF m (kidT T i) (mineK T.cuts i (T.buf ++ ab)) := fun i hi0 => by simp [List.getD, hi0]
      have C : Chain lo hi T.cuts ((List.range T.kids.length).map fun i => toldF m (kidT T i) (mineK T.cuts i (T.buf ++ ab))) := by
        refine Chain.of (by simp; omega) (cut_parts q6) fun i hi0 => ?_
        rw [List.length_map, List.length_range] at hi0
        rw [e i hi0]
        have := toldF_is (hk i hi0) (hmine i hi0)
        exact ⟨this.1, this.2.1⟩
      obtain ⟨f1, f2⟩ := C.flat
      rw [toldF, if_neg (by rw [hl]; simp)]
      refine ⟨f1, f2, fun k => ?_⟩
      have hi0 := kidK_in hf k
      rw [C.get k, valF_fork hl, e _ hi0, (toldF_is (hk _ hi0) (hmine _ hi0)).2.2 k, ofK_mineK _ (hcp k), ofK_append, updA_append]; rfl
    · obtain ⟨q1, q2, q3, q4, q5, q6⟩ := leafOk_parts (depthF_leaf_ok h hl)
      rw [toldF, if_pos hl]
      exact ⟨allL_mapP q1 _, allL_keys q6 hab, fun k => by rw [getP_allL q1, valF_leaf hl]⟩

/-- THE TWO WAYS ARE ONE. -/
theorem told_map {T : Tr} (h : okT T = true) : toldF 7 T [] = mapF 7 T := by
  have h1 := mapF_is (okT_depth h)
  have h2 := toldF_is (ab := []) (okT_depth h) (fun x hx => by simp at hx)
  exact asc_ext h2.1.1 h1.1.1 fun k => by rw [h2.2.2 k, h1.2.2 k]; rfl

/-- a range of a map -/
def rangeL (l : PL) (lo hi : Int) : PL := l.filter fun p => decide (lo ≤ p.1 ∧ p.1 < hi)
theorem rangeL_length (l : PL) (lo hi : Int) : (rangeL l lo hi).length ≤ l.length := List.length_filter_le _ _
theorem rangeL_snoc (l : PL) (p : Int × Int) (lo hi : Int) : rangeL (l ++ [p]) lo hi = if lo ≤ p.1 ∧ p.1 < hi then rangeL l lo hi ++ [p] else rangeL l lo hi := by
  unfold rangeL
  rw [List.filter_append]
  by_cases h : lo ≤ p.1 ∧ p.1 < hi
  · simp [h]
  · simp [h]
/-- behind the first key that is too great nothing comes -/
theorem rangeL_stop {A B : PL} {p : Int × Int} {lo hi : Int} (h : Asc (A ++ p :: B)) (hp : hi ≤ p.1) : rangeL (A ++ p :: B) lo hi = rangeL A lo hi := by
  have hB : ∀ q ∈ p :: B, ¬ (lo ≤ q.1 ∧ q.1 < hi) := by
    have h2 : Asc (p :: B) := by
      have := List.pairwise_append.1 (show (keys A ++ keys (p :: B)).Pairwise (· < ·) by rw [keys, keys, ← List.map_append]; exact h)
      exact this.2.1
    intro q hq
    rcases List.mem_cons.1 hq with rfl | hq
    · omega
    · have := h2.cons.1 q hq; omega
  unfold rangeL
  have e : List.filter (fun p => decide (lo ≤ p.1 ∧ p.1 < hi)) (p :: B) = [] := List.filter_eq_nil_iff.2 (fun q hq => by simpa using hB q hq)
  rw [List.filter_append, e, List.append_nil]

end Go.Proofs.YtccdleafkhnfmaaGreat
