/-
  Contracts of the program's chapter 2: depthByKids, depth.
  Contracts of the program's chapter 2: TreeDepth, TreeOk, countAll, TreeCount, kidAt, KidOf.
  Contracts of the program's chapter 2: kidAt, KidOf.
  What a message makes of a map, key by key; plain mathematics.
  What chapter 3 says of trees, as plain functions: what is pending of a key, what a key has; plain mathematics.
  What map a tree tells, as plain functions: kid by kid as the model says it, leaf by leaf as the program does; plain mathematics.
  Appending to a row of one's own: one element that was just laid; a whole list.
  Contracts of the program's messages behind an interface, and of its sum at the limit.
-/
import Derived.Test.YtbmcojelgbkafaaDoorOfNodes3
import Derived.Test.YtbmcojelgbkafaaDoorOfNodes1
import Derived.Laws.AppendOwnNone
namespace Go.Proofs.YtbmcojelgbkafaaDoor
set_option maxRecDepth 100000
set_option maxHeartbeats 8000000
section
open Go.RowKit
end
section
open Go.RowKit
end
section
open Go.RowKit

def cntK (l : List Int) (k : Int) : Nat → Nat
 | 0 => 0
 | n + 1 => cntK l k n + (if iAt l n ≤ k then 1 else 0)
end
section
theorem putF_cons_lt {p : Int × Int} {l : PL} {k v : Int} (h : p.1 < k) : putF (p :: l) k v = p :: putF l k v := by
 simp [putF, h, show ¬ k < p.1 by omega]
theorem putF_cons_eq {p : Int × Int} {l : PL} {k v : Int} (hg : ∀ q ∈ l, p.1 < q.1) (h : p.1 = k) : putF (p :: l) k v = (k, v) :: l := by
 obtain ⟨f1, f2, _⟩ := filter_gt (k := k) (fun q hq => by have := hg q hq; omega)
 simp [putF, show ¬ p.1 < k by omega, show ¬ k < p.1 by omega, f1, f2]
theorem putF_cons_gt {p : Int × Int} {l : PL} {k v : Int} (hg : ∀ q ∈ l, p.1 < q.1) (h : k < p.1) : putF (p :: l) k v = (k, v) :: p :: l := by
 obtain ⟨f1, f2, _⟩ := filter_gt (k := k) (fun q hq => by have := hg q hq; omega)
 simp [putF, show ¬ p.1 < k by omega, h, f1, f2]

theorem getP_putF_other {l : PL} (h : Asc l) {j k v : Int} (hj : j ≠ k) : getP (putF l k v) j = getP l j := by
 induction l with
 | nil => simp [putF, getP, Ne.symm hj]
 | cons p l ih =>
  obtain ⟨h1, h2⟩ := h.cons
  by_cases hlt : p.1 < k
  ·rw [putF_cons_lt hlt, getP, getP, ih h2]
  ·by_cases he : p.1 = k
   ·rw [putF_cons_eq h1 he, getP, getP, if_neg (by simpa using Ne.symm hj), if_neg (by omega)]
   ·rw [putF_cons_gt h1 (by omega), getP, if_neg (by simpa using Ne.symm hj)]
theorem getP_putF_same {l : PL} (h : Asc l) (k v : Int) : getP (putF l k v) k = (v, true) := by
 induction l with
 | nil => simp [putF, getP]
 | cons p l ih =>
  obtain ⟨h1, h2⟩ := h.cons
  by_cases hlt : p.1 < k
  ·rw [putF_cons_lt hlt, getP, if_neg (by omega), ih h2]
  ·by_cases he : p.1 = k
   ·rw [putF_cons_eq h1 he, getP, if_pos rfl]
   ·rw [putF_cons_gt h1 (by omega), getP, if_pos rfl]
theorem getP_delF_other (l : PL) {j k : Int} (hj : j ≠ k) : getP (delF l k) j = getP l j := by
 induction l with
 | nil => rfl
 | cons p l ih =>
  by_cases he : p.1 = k
  ·rw [delF, List.filter_cons_of_neg (by simp [he]), getP, if_neg (by omega)]; exact ih
  ·rw [delF, List.filter_cons_of_pos (by simp [he]), getP, getP]
   have : getP (List.filter (fun p => decide (p.1 ≠ k)) l) j = getP l j := ih
   rw [this]
theorem getP_delF_same (l : PL) (k : Int) : getP (delF l k) k = (0, false) := by
 induction l with
 | nil => rfl
 | cons p l ih =>
  by_cases he : p.1 = k
  ·rw [delF, List.filter_cons_of_neg (by simp [he])]; exact ih
  ·rw [delF, List.filter_cons_of_pos (by simp [he]), getP, if_neg he]; exact ih
theorem doL_other {l : PL} {o k v j : Int} (hj : j ≠ k) : getP (doL l (o, k, v)) j = getP l j := by
 unfold doL
 split
 ·rename_i h1
  have hA := ((mapOkB_iff l).1 h1.1).1
  unfold doP
  simp only
  split
  ·exact getP_putF_other hA hj
  ·split
   ·exact getP_delF_other l hj
   ·split
    ·exact getP_putF_other hA hj
    ·rfl
 ·rfl
end
section
def ofK (ms : ML) (k : Int) : ML := ms.filter fun m => decide (m.2.1 = k)
theorem ofK_append (a b : ML) (k : Int) : ofK (a ++ b) k = ofK a k ++ ofK b k := by simp [ofK]
def kidK (T : Tr) (k : Int) : Tr := kidT T (prefK T.cuts k)
def leafF : Nat → Tr → Int → Tr
 | 0, T, _ => T
 | n + 1, T, k => if T.leaf = true then T else leafF n (kidK T k) k
def pendF : Nat → Tr → Int → ML
 | 0, _, _ => []
 | n + 1, T, k => if T.leaf = true then [] else pendF n (kidK T k) k ++ ofK T.buf k
def updV (x : Int × Bool) (m : Int × Int × Int) : Int × Bool :=
 if msgOkB m.1 m.2.1 m.2.2 = true then (if m.1 = 1 then (m.2.2, true) else if m.1 = 2 then (0, false) else if m.1 = 3 then (clampI (x.1 + m.2.2), true) else x) else x
def updA (x : Int × Bool) (ms : ML) : Int × Bool := ms.foldl updV x
theorem updA_append (x : Int × Bool) (a b : ML) : updA x (a ++ b) = updA (updA x a) b := by simp [updA, List.foldl_append]

theorem getP_doL_same {l : PL} (h : MapP l) (o k v : Int) : getP (doL l (o, k, v)) k = updV (getP l k) (o, k, v) := by
 have hm : mapOkB l = true := (mapOkB_iff l).2 h
 unfold doL updV
 by_cases hk : msgOkB o k v = true
 ·simp only [hm, hk, and_self, if_true]
  unfold doP
  simp only
  split
  ·exact getP_putF_same h.1 k v
  ·split
   ·exact getP_delF_same l k
   ·split
    ·exact getP_putF_same h.1 k _
    ·rfl
 ·simp [hk]
theorem getP_allL {l : PL} (h : MapP l) (ms : ML) (k : Int) : getP (allL l ms) k = updA (getP l k) (ofK ms k) := by
 induction ms generalizing l with
 | nil => rfl
 | cons m ms ih =>
  obtain ⟨o, j, v⟩ := m
  have e : allL l ((o, j, v) :: ms) = allL (doL l (o, j, v)) ms := rfl
  rw [e, ih (doL_mapP h _)]
  by_cases hj : j = k
  ·subst hj
   rw [getP_doL_same h]
   simp [ofK, updA]
  ·rw [doL_other (Ne.symm hj)]
   simp [ofK, hj]

def valF (n : Nat) (T : Tr) (k : Int) : Int × Bool := updA (getP (leafF n T k).pairs k) (pendF n T k)

def oneP (l : PL) (k : Int) : PL := if (getP l k).2 = true then [(k, (getP l k).1)] else []
theorem depthF_leaf_ok {m : Nat} {T : Tr} {lo hi : Int} (h : depthF (m + 1) T lo hi ≠ 0) (hl : T.leaf = true) : leafOkB T lo hi = true := by
 rw [depthF_leaf hl] at h
 split at h
 ·assumption
 ·exact absurd rfl h
theorem depthF_fork_ok {m : Nat} {T : Tr} {lo hi : Int} (h : depthF (m + 1) T lo hi ≠ 0) (hl : T.leaf = false) : forkOkB T lo hi = true ∧ ∀ i, i < T.kids.length → depthF m (kidT T i) (fromT T lo i) (toT T hi i) ≠ 0 := by
 cases hf : forkOkB T lo hi
 ·rw [depthF_no hl hf] at h; exact absurd rfl h
 ·refine ⟨rfl, fun i hi0 h0 => ?_⟩
  rw [depthF_fork hl hf] at h
  exact h (kidsD_zero (d := kidF m T lo hi) hi0 h0)
theorem forkOk_parts {T : Tr} {lo hi : Int} (h : forkOkB T lo hi = true) : T.pairs = [] ∧ (2 ≤ T.kids.length ∧ T.kids.length ≤ 4) ∧ T.cuts.length + 1 = T.kids.length ∧ T.buf.length ≤ 6 ∧ bufOkB T lo hi = true ∧ cutsOkB T lo hi = true := by
 simp only [forkOkB, shapeB, Bool.and_eq_true, decide_eq_true_eq] at h
 obtain ⟨⟨h1, h2, h3, h4⟩, h5, h6⟩ := h
 exact ⟨List.length_eq_zero_iff.1 h1, h2, h3, h4, h5, h6⟩
theorem leafOk_parts {T : Tr} {lo hi : Int} (h : leafOkB T lo hi = true) : MapP T.pairs ∧ T.pairs.length ≤ 4 ∧ T.kids = [] ∧ T.buf = [] ∧ T.cuts = [] ∧ ∀ p ∈ T.pairs, lo ≤ p.1 ∧ p.1 < hi := by
 simp only [leafOkB, Bool.and_eq_true, decide_eq_true_eq] at h
 obtain ⟨h1, h2, h3, h4⟩ := h
 refine ⟨(mapOkB_iff _).1 h1, h2, List.length_eq_zero_iff.1 (by omega), List.length_eq_zero_iff.1 (by omega), List.length_eq_zero_iff.1 (by omega), fun p hp => ?_⟩
 obtain ⟨i, hi0, rfl⟩ := List.getElem_of_mem hp
 have h5 := inB_iff.1 (allB_at h4 hi0)
 simp only [kOf, List.getD, List.getElem?_eq_getElem hi0, Option.getD_some] at h5
 omega
theorem bufOk_parts {T : Tr} {lo hi : Int} (h : bufOkB T lo hi = true) : ∀ m ∈ T.buf, msgOkB m.1 m.2.1 m.2.2 = true ∧ lo ≤ m.2.1 ∧ m.2.1 < hi := by
 intro m hm
 obtain ⟨i, hi0, rfl⟩ := List.getElem_of_mem hm
 have h5 := allB_at h hi0
 simp only [msgAt, Bool.and_eq_true] at h5
 have h6 := inB_iff.1 h5.2.2
 rw [ml_at _ _ hi0]
 exact ⟨h5.1, h6.1, by show mK T.buf i < hi; omega⟩
theorem okT_depth {T : Tr} (h : okT T = true) : depthF 7 T 0 1000 ≠ 0 := by
 have h2 : 0 < depthF 7 T 0 1000 := of_decide_eq_true h
 exact Nat.pos_iff_ne_zero.1 h2
theorem kidK_in {T : Tr} {lo hi : Int} (h : forkOkB T lo hi = true) (k : Int) : prefK T.cuts k < T.kids.length := by
 have := (forkOk_parts h).2.2.1
 have := prefK_le T.cuts k
 omega
end
section
theorem getP_append_left {A B : PL} {k : Int} (h : ∀ p ∈ B, p.1 ≠ k) : getP (A ++ B) k = getP A k := by
 induction A with
 | nil =>
  show getP B k = (0, false)
  induction B with
  | nil => rfl
  | cons p B ih => rw [getP, if_neg (h p List.mem_cons_self)]; exact ih fun q hq => h q (List.mem_cons_of_mem _ hq)
 | cons p A ih => rw [List.cons_append, getP, getP, ih]
theorem getP_append_right {A B : PL} {k : Int} (h : ∀ p ∈ A, p.1 ≠ k) : getP (A ++ B) k = getP B k := by
 induction A with
 | nil => rfl
 | cons p A ih => rw [List.cons_append, getP, if_neg (h p List.mem_cons_self)]; exact ih fun q hq => h q (List.mem_cons_of_mem _ hq)
theorem getP_no {l : PL} {k : Int} (h : ∀ p ∈ l, p.1 ≠ k) : getP l k = (0, false) := by
 have := getP_append_left (A := []) h
 simpa [getP] using this
theorem asc_append {A B : PL} {c : Int} (hA : Asc A) (hB : Asc B) (h1 : ∀ p ∈ A, p.1 < c) (h2 : ∀ p ∈ B, c ≤ p.1) : Asc (A ++ B) := by
 show (keys (A ++ B)).Pairwise (· < ·)
 rw [keys, List.map_append]
 refine List.pairwise_append.2 ⟨hA, hB, fun a ha b hb => ?_⟩
 obtain ⟨p, hp, rfl⟩ := List.mem_map.1 ha
 obtain ⟨q, hq, rfl⟩ := List.mem_map.1 hb
 have := h1 p hp
 have := h2 q hq
 omega
theorem asc_ext : ∀ {l1 l2 : PL}, Asc l1 → Asc l2 → (∀ k, getP l1 k = getP l2 k) → l1 = l2
 | [], [], _, _, _ => rfl
 | [], q :: l2, _, _, h => by have := h q.1; rw [getP, getP, if_pos rfl] at this; simp at this
 | p :: l1, [], _, _, h => by have := h p.1; rw [getP, getP, if_pos rfl] at this; simp at this
 | p :: l1, q :: l2, h1, h2, h => by
  obtain ⟨a1, a2⟩ := h1.cons
  obtain ⟨b1, b2⟩ := h2.cons
  have n1 : ∀ j, j ≤ p.1 → getP l1 j = (0, false) := fun j hj => getP_no fun r hr => by have := a1 r hr; omega
  have n2 : ∀ j, j ≤ q.1 → getP l2 j = (0, false) := fun j hj => getP_no fun r hr => by have := b1 r hr; omega
  have hk : p.1 = q.1 := by
   rcases Int.lt_trichotomy p.1 q.1 with hlt | he | hgt
   ·have := h p.1
    rw [getP, if_pos rfl, getP, if_neg (by omega), n2 _ (by omega)] at this
    simp at this
   ·exact he
   ·have := h q.1
    rw [getP, if_neg (by omega), n1 _ (by omega), getP, if_pos rfl] at this
    simp at this
  have hv := h p.1
  rw [getP, if_pos rfl, getP, if_pos hk.symm] at hv
  have hpq : p = q := Prod.ext hk (by simpa using hv)
  subst hpq
  rw [asc_ext a2 b2 fun j => ?_]
  by_cases hj : p.1 = j
  ·subst hj; rw [n1 _ (Int.le_refl _), n2 _ (Int.le_refl _)]
  ·have := h j
   rw [getP, if_neg hj, getP, if_neg hj] at this
   exact this

def KeysIn (lo hi : Int) (l : PL) : Prop := ∀ p ∈ l, lo ≤ p.1 ∧ p.1 < hi
def Chain : Int → Int → List Int → List PL → Prop
 | lo, hi, [], [M] => MapP M ∧ KeysIn lo hi M
 | lo, hi, c :: cs, M :: Ms => (MapP M ∧ KeysIn lo c M) ∧ lo < c ∧ c < hi ∧ Chain c hi cs Ms
 | _, _, _, _ => False
theorem mapP_append {A B : PL} {c : Int} (hA : MapP A) (hB : MapP B) (h1 : ∀ p ∈ A, p.1 < c) (h2 : ∀ p ∈ B, c ≤ p.1) : MapP (A ++ B) :=
 ⟨asc_append hA.1 hB.1 h1 h2, fun p hp => (List.mem_append.1 hp).elim (hA.2 p) (hB.2 p)⟩
theorem Chain.flat : ∀ {cs : List Int} {lo hi : Int} {Ms : List PL}, Chain lo hi cs Ms → MapP Ms.flatten ∧ KeysIn lo hi Ms.flatten
 | [], _, _, [M], h => by rw [List.flatten_cons, List.flatten_nil, List.append_nil]; exact h
 | [], _, _, [], h => h.elim
 | [], _, _, _ :: _ :: _, h => h.elim
 | _ :: _, _, _, [], h => h.elim
 | c :: cs, lo, hi, M :: Ms, ⟨⟨h1, h2⟩, h3, h4, h5⟩ => by
  obtain ⟨h6, h7⟩ := Chain.flat h5
  rw [List.flatten_cons]
  refine ⟨mapP_append h1 h6 (fun p hp => (h2 p hp).2) (fun p hp => (h7 p hp).1), fun p hp => ?_⟩
  rcases List.mem_append.1 hp with hp | hp
  ·have := h2 p hp; omega
  ·have := h7 p hp; omega
theorem prefK_cons_pos {c k : Int} {cs : List Int} (h : c ≤ k) : prefK (c :: cs) k = prefK cs k + 1 := by
 simp only [prefK]
 rw [List.takeWhile_cons_of_pos (by simpa using h), List.length_cons]
theorem prefK_cons_neg {c k : Int} {cs : List Int} (h : ¬ c ≤ k) : prefK (c :: cs) k = 0 := by simp [prefK, h]
theorem Chain.get : ∀ {cs : List Int} {lo hi : Int} {Ms : List PL} (k : Int), Chain lo hi cs Ms → getP Ms.flatten k = getP (Ms.getD (prefK cs k) []) k
 | [], _, _, [M], k, _ => by simp [prefK]
 | [], _, _, [], _, h => h.elim
 | [], _, _, _ :: _ :: _, _, h => h.elim
 | _ :: _, _, _, [], _, h => h.elim
 | c :: cs, lo, hi, M :: Ms, k, ⟨⟨h1, h2⟩, h3, h4, h5⟩ => by
  rw [List.flatten_cons]
  by_cases hc : c ≤ k
  ·rw [prefK_cons_pos hc, List.getD_cons_succ, ← Chain.get k h5]
   exact getP_append_right fun p hp => by have := h2 p hp; omega
  ·rw [prefK_cons_neg hc, List.getD_cons_zero]
   exact getP_append_left fun p hp => by have := (Chain.flat h5).2 p hp; omega

def frC (cs : List Int) (lo : Int) (i : Nat) : Int := if i = 0 then lo else iAt cs (i - 1)
def toC (cs : List Int) (hi : Int) (i : Nat) : Int := if i < cs.length then iAt cs i else hi
theorem Chain.of : ∀ {cs : List Int} {lo hi : Int} {Ms : List PL}, Ms.length = cs.length + 1 → (∀ i, i < cs.length → frC cs lo i < iAt cs i ∧ iAt cs i < hi) →
  (∀ i, i < Ms.length → MapP (Ms.getD i []) ∧ KeysIn (frC cs lo i) (toC cs hi i) (Ms.getD i [])) → Chain lo hi cs Ms
 | [], lo, hi, [M], _, _, h => by simpa [frC, toC, Chain] using h 0 (by simp)
 | [], _, _, [], hl, _, _ => by simp at hl
 | [], _, _, _ :: _ :: _, hl, _, _ => by simp at hl
 | _ :: _, _, _, [], hl, _, _ => by simp at hl
 | c :: cs, lo, hi, M :: Ms, hl, hc, h => by
  have h0 := h 0 (by simp)
  have c0 := hc 0 (by simp)
  simp only [frC, toC, if_true, List.length_cons, Nat.zero_lt_succ, iAt, List.getD_cons_zero] at h0 c0
  refine ⟨h0, c0.1, c0.2, Chain.of (by simpa using hl) (fun i hi0 => ?_) (fun i hi0 => ?_)⟩
  ·have := hc (i + 1) (by simpa using hi0)
   simp only [frC, iAt, Nat.add_one_ne_zero, if_false, Nat.add_sub_cancel, List.getD_cons_succ] at this ⊢
   cases i with
   | zero => simpa using this
   | succ i => simpa using this
  ·have := h (i + 1) (by simpa using hi0)
   simp only [frC, toC, iAt, Nat.add_one_ne_zero, if_false, Nat.add_sub_cancel, List.getD_cons_succ, List.length_cons, Nat.add_lt_add_iff_right] at this ⊢
   cases i with
   | zero => simpa using this
   | succ i => simpa using this

def mapF : Nat → Tr → PL
 | 0, _ => []
 | n + 1, T => allL (T.pairs ++ (T.kids.map (mapF n)).flatten) T.buf
def mineK (cs : List Int) (i : Nat) (ms : ML) : ML := ms.filter fun m => decide (cntK cs m.2.1 cs.length = i)
def toldF : Nat → Tr → ML → PL
 | 0, _, _ => []
 | n + 1, T, ab => if T.leaf = true then allL T.pairs ab else ((List.range T.kids.length).map fun i => toldF n (kidT T i) (mineK T.cuts i (T.buf ++ ab))).flatten

theorem doL_mem {l : PL} {m : Int × Int × Int} {p : Int × Int} (h : p ∈ doL l m) : p ∈ l ∨ p.1 = m.2.1 := by
 have hput : ∀ v, p ∈ putF l m.2.1 v → p ∈ l ∨ p.1 = m.2.1 := fun v hp => by
  rcases List.mem_append.1 hp with h1 | h1
  ·exact .inl (List.mem_filter.1 h1).1
  ·rcases List.mem_cons.1 h1 with rfl | h2
   ·exact .inr rfl
   ·exact .inl (List.mem_filter.1 h2).1
 unfold doL at h
 split at h
 ·unfold doP at h
  split at h
  ·exact hput _ h
  ·split at h
   ·exact .inl (List.mem_filter.1 h).1
   ·split at h
    ·exact hput _ h
    ·exact .inl h
 ·exact .inl h
theorem allL_keys {l : PL} {ms : ML} {lo hi : Int} (h : KeysIn lo hi l) (hm : ∀ m ∈ ms, lo ≤ m.2.1 ∧ m.2.1 < hi) : KeysIn lo hi (allL l ms) := by
 induction ms generalizing l with
 | nil => exact h
 | cons m ms ih =>
  refine ih (l := doL l m) (fun p hp => ?_) fun x hx => hm x (List.mem_cons_of_mem _ hx)
  rcases doL_mem hp with h1 | h1
  ·exact h p h1
  ·rw [h1]; exact hm m List.mem_cons_self

theorem cut_parts {T : Tr} {lo hi : Int} (h : cutsOkB T lo hi = true) : ∀ i, i < T.cuts.length → frC T.cuts lo i < iAt T.cuts i ∧ iAt T.cuts i < hi := by
 intro i hi0
 have := inB_iff.1 (allB_at h hi0)
 simp only [fromT] at this
 unfold frC
 omega
theorem fork_kids {m : Nat} {T : Tr} {lo hi : Int} (h : depthF (m + 1) T lo hi ≠ 0) (hl : T.leaf = false) : ∀ i, i < T.kids.length → depthF m (kidT T i) (frC T.cuts lo i) (toC T.cuts hi i) ≠ 0 := (depthF_fork_ok h hl).2
theorem valF_fork {m : Nat} {T : Tr} {k : Int} (hl : T.leaf = false) : valF (m + 1) T k = updA (valF m (kidK T k) k) (ofK T.buf k) := by
 rw [valF, leafF, pendF, if_neg (by rw [hl]; simp), if_neg (by rw [hl]; simp), updA_append]; rfl
theorem valF_leaf {m : Nat} {T : Tr} {k : Int} (hl : T.leaf = true) : valF (m + 1) T k = getP T.pairs k := by
 rw [valF, leafF, pendF, if_pos hl, if_pos hl]; rfl

theorem mapF_is : ∀ {m : Nat} {T : Tr} {lo hi : Int}, depthF m T lo hi ≠ 0 → MapP (mapF m T) ∧ KeysIn lo hi (mapF m T) ∧ ∀ k, getP (mapF m T) k = valF m T k
 | 0, _, _, _, h => absurd rfl h
 | m + 1, T, lo, hi, h => by
  cases hl : T.leaf
  ·have hf := (depthF_fork_ok h hl).1
   obtain ⟨q1, q2, q3, q4, q5, q6⟩ := forkOk_parts hf
   have hk := fork_kids h hl
   have hb := bufOk_parts q5
   have C : Chain lo hi T.cuts (T.kids.map (mapF m)) := by
    refine Chain.of (by rw [List.length_map]; omega) (cut_parts q6) fun i hi0 => ?_
    rw [List.length_map] at hi0
    have e : (T.kids.map (mapF m)).getD i [] = mapF m (kidT T i) := by simp [List.getD, kidT, hi0]
    rw [e]
    have := mapF_is (hk i hi0)
    exact ⟨this.1, this.2.1⟩
   obtain ⟨f1, f2⟩ := C.flat
   rw [mapF, q1, List.nil_append]
   refine ⟨allL_mapP f1 _, allL_keys f2 fun x hx => (hb x hx).2, fun k => ?_⟩
   have hi0 := kidK_in hf k
   rw [getP_allL f1, C.get k, valF_fork hl]
   have e : (T.kids.map (mapF m)).getD (prefK T.cuts k) [] = mapF m (kidK T k) := by simp [List.getD, kidT, kidK, hi0]
   have e2 : getP (mapF m (kidK T k)) k = valF m (kidK T k) k := (mapF_is (hk _ hi0)).2.2 k
   rw [e, e2]
  ·obtain ⟨q1, q2, q3, q4, q5, q6⟩ := leafOk_parts (depthF_leaf_ok h hl)
   have e : mapF (m + 1) T = T.pairs := by rw [mapF, q3, q4]; simp [allL]
   rw [e]
   exact ⟨q1, q6, fun k => (valF_leaf hl).symm⟩

theorem prefK_range {cs : List Int} {lo hi k : Int} {i : Nat} (hlen : i ≤ cs.length) (h : ∀ i, i < cs.length → frC cs lo i < iAt cs i ∧ iAt cs i < hi) (hk : lo ≤ k ∧ k < hi) (e : prefK cs k = i) : frC cs lo i ≤ k ∧ k < toC cs hi i := by
 induction cs generalizing lo i with
 | nil => simp at hlen; subst hlen; simpa [frC, toC] using hk
 | cons c cs ih =>
  have c0 := h 0 (by simp)
  simp only [frC, if_true, iAt, List.getD_cons_zero] at c0
  have hs : ∀ i, i < cs.length → frC cs c i < iAt cs i ∧ iAt cs i < hi := fun i hi0 => by
   have := h (i + 1) (by simpa using hi0)
   simp only [frC, iAt, Nat.add_one_ne_zero, if_false, Nat.add_sub_cancel, List.getD_cons_succ] at this ⊢
   cases i with
   | zero => simpa using this
   | succ i => simpa using this
  by_cases hc : c ≤ k
  ·rw [prefK_cons_pos hc] at e
   subst e
   have := ih (lo := c) (i := prefK cs k) (by simpa using hlen) hs ⟨hc, hk.2⟩ rfl
   simp only [frC, toC, iAt, Nat.add_one_ne_zero, if_false, Nat.add_sub_cancel, List.getD_cons_succ, List.length_cons, Nat.add_lt_add_iff_right] at this ⊢
   generalize prefK cs k = j at *
   cases j with
   | zero => simpa using this
   | succ j => simpa using this
  ·rw [prefK_cons_neg hc] at e
   subst e
   simp only [frC, toC, if_true, List.length_cons, Nat.zero_lt_succ, iAt, List.getD_cons_zero]
   omega
def rangeL (l : PL) (lo hi : Int) : PL := l.filter fun p => decide (lo ≤ p.1 ∧ p.1 < hi)
end
section
open Go.RowKit

theorem chg_of_grown {w w' : World} {r : Option Nat} (h : w.grownBy w' r) : Chg (fun g => r = some g) w w' :=
 ⟨h.os, h.tape, h.output, h.size, fun k hk hn => h.block k hk (fun e => hn e.symm)⟩
theorem below_of_own {w w' : World} {base e size n : Nat} {v : Value} {xs : List Value} (h : w.ownsRow base e size v n xs) (hc : Chg (fun g => v.ownBlock = some g) w w') (hb : base ≤ w.heap.size) : Below base w w' :=
 hc.below (fun g _ hg => (h.lt g hg).1) hb

theorem app_one {P : Program} {ops : Array Oper} {rest : List Oper} {o : Oper} {a : Act} {Q : Exit → Act → World → Prop} (W : World) (hgd : o.guard = none) (s x : Operand) (t : TypeId)
  (ho : o.op = .call { callee := .builtin .append, args := #[s, x], argTypes := #[t, t] })
  (base : Nat) (e : TypeId) (i : TypeInfo) (z : Value) (size bytes : Nat) (ht : P.underlying t = some (.slice e)) (hi : P.info? e = some i) (hz : i.zero = some z)
  (hsize : i.size = size) (hby : i.bytes = bytes) (hzs : z.cells.size = size) (hsz : 0 < size)
  (v : Value) (n : Nat) (xs : List Value) (hs : a.eval s = v) (hown : W.ownsRow base e size v n xs)
  (news : List Value) (hx : a.eval x = .slice (some ⟨W.heap.size, 0, none⟩) 1 1) (hl : news.length = size) (h1 : ∀ u ∈ news, u.oneCell' = true)
  (h63 : n + 1 ≤ maxLen) (hbytes : (n + 1) * bytes ≤ 140737488355328) (hbase : base ≤ W.heap.size)
  (h : ∀ v' w', w'.ownsRow base e size v' (n + 1) (xs ++ news) → Chg (fun g => v.ownBlock = some g) W w' → Below base W w' → wpList P ops Q rest (a.put o.dst v') w') :
  wpList P ops Q (o :: rest) a (W.alloc (.cells news.toArray e)) := by
 refine wpList_append_own _ hgd s x t ho base e i z size bytes ht hi hz hsize hby hzs hsz v n xs hs (hown.alloc _) ⟨W.heap.size, 0, none⟩ 1 1 news hx (by omega) ?_ h1 h63 hbytes (by simp; omega) ?_
 ·intro j u hj
  rw [Go.WideShapes.add_plain, Nat.zero_add, cell_of_cells (heap_alloc_new W _)]
  simpa using hj
 ·intro v' w' h2 h3 _
  have hc : Chg (fun g => v.ownBlock = some g) W w' := ((Chg.refl _ _).alloc _).trans (chg_of_grown h3) (fun _ _ e => e)
  exact h v' w' h2 hc (below_of_own hown hc hbase)

theorem app_row {P : Program} {ops : Array Oper} {rest : List Oper} {o : Oper} {a : Act} {Q : Exit → Act → World → Prop} (W : World) (hgd : o.guard = none) (s x : Operand) (t : TypeId)
  (ho : o.op = .call { callee := .builtin .append, args := #[s, x], argTypes := #[t, t] })
  (base : Nat) (e : TypeId) (i : TypeInfo) (z : Value) (size bytes : Nat) (ht : P.underlying t = some (.slice e)) (hi : P.info? e = some i) (hz : i.zero = some z)
  (hsize : i.size = size) (hby : i.bytes = bytes) (hzs : z.cells.size = size) (hsz : 0 < size)
  (v : Value) (n : Nat) (xs : List Value) (hs : a.eval s = v) (hown : W.ownsRow base e size v n xs)
  (u : Value) (m : Nat) (news : List Value) (hx : a.eval x = u) (hr : Row W u m news) (hl : news.length = m * size) (h1 : ∀ y ∈ news, y.oneCell' = true)
  (h63 : n + m ≤ maxLen) (hbytes : (n + m) * bytes ≤ 140737488355328) (hbase : base ≤ W.heap.size)
  (h : ∀ v' w', w'.ownsRow base e size v' (n + m) (xs ++ news) → Chg (fun g => v.ownBlock = some g) W w' → Below base W w' → wpList P ops Q rest (a.put o.dst v') w') :
  wpList P ops Q (o :: rest) a W := by
 obtain ⟨sa, b, off, cap, rfl, hle, hmx, hsa, hcell, hnil⟩ := hr
 cases sa with
 | none =>
  have hc0 := hnil rfl
  have hm0 : m = 0 := by omega
  subst hc0
  subst hm0
  have hn0 : news = [] := List.length_eq_zero_iff.1 (by omega)
  subst hn0
  refine wpList_append_own_none hgd s x t ho base e i size ht hi v n xs hs hown hx ?_
  exact h v W (by simpa using hown) (Chg.refl _ _) (Below.refl _ _)
 | some ad =>
  refine wpList_append_own _ hgd s x t ho base e i z size bytes ht hi hz hsize hby hzs hsz v n xs hs hown ad m cap news hx hl ?_ h1 h63 hbytes hbase ?_
  ·intro j y hj
   have hjl := (List.getElem?_eq_some_iff.1 hj).1
   have hm : 0 < m := by
    rcases Nat.eq_zero_or_pos m with h0 | h0
    ·subst h0; omega
    ·exact h0
   have := hsa hm
   simp only [Option.some.injEq] at this
   subst this
   rw [Go.WideShapes.add_plain]
   exact hcell j y hj
  ·intro v' w' h2 h3 _
   have hc := chg_of_grown h3
   exact h v' w' h2 hc (below_of_own hown hc hbase)

theorem flatP_one (l : List (Int × Int)) : ∀ y ∈ flatP l, y.oneCell' = true := by
 induction l with
 | nil => intro y hy; simp [flatP] at hy
 | cons p l ih =>
  intro y hy
  rw [show flatP (p :: l) = .int .i64 p.1 :: .int .i64 p.2 :: flatP l from rfl] at hy
  rcases List.mem_cons.1 hy with rfl | hy
  ·rfl
  ·rcases List.mem_cons.1 hy with rfl | hy
   ·rfl
   ·exact ih y hy
theorem two_one (a b : Int) : ∀ u ∈ [Value.int .i64 a, Value.int .i64 b], u.oneCell' = true := by
 intro u hu; simp at hu; rcases hu with rfl | rfl <;> rfl
theorem room_of {n bytes : Nat} (h : n ≤ 8388608) (hb : bytes ≤ 256) : n + 1 ≤ maxLen ∧ (n + 1) * bytes ≤ 140737488355328 := by
 refine ⟨by unfold maxLen; omega, ?_⟩
 have : (n + 1) * bytes ≤ (n + 1) * 256 := Nat.mul_le_mul_left _ hb
 omega
theorem flatP_snoc (l : List (Int × Int)) (k v : Int) : flatP l ++ [.int .i64 k, .int .i64 v] = flatP (l ++ [(k, v)]) := by rw [flatP_append]; rfl

theorem empty_own (W : World) (base : Nat) (e size : Nat) (hb : base ≤ W.heap.size) : (W.alloc (.cells #[] e)).ownsRow base e size (.slice (some ⟨W.heap.size, 0, none⟩) 0 0) 0 [] :=
 ⟨by simp, .inr ⟨W.heap.size, 0, #[], rfl, hb, heap_alloc_new _ _, Nat.le_refl _, Nat.zero_le _, by simp, by simp⟩⟩
end
section
open Go.RowKit

def okM (m : Int × Int × Int) : Bool := msgOkB m.1 m.2.1 m.2.2
def okMs (ms : ML) : ML := ms.filter okM
end
end Go.Proofs.YtbmcojelgbkafaaDoor
