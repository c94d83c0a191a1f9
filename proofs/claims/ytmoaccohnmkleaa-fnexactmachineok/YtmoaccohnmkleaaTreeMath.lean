/-
  What chapter 2 says of trees, as plain functions.
-/
import Derived.Test.YtmoaccohnmkleaaTree
namespace Go.Proofs.Ytmoaccohnmkleaa

/-- all below a number -/
def allB (n : Nat) (f : Nat → Bool) : Bool := (List.range n).all f
theorem allB_true {n : Nat} {f : Nat → Bool} (h : ∀ i, i < n → f i = true) : allB n f = true := by
  simp only [allB, List.all_eq_true, List.mem_range]; exact h
theorem allB_false {n : Nat} {f : Nat → Bool} {i : Nat} (hi : i < n) (h : f i = false) : allB n f = false := by
  rw [Bool.eq_false_iff]
  intro hc
  simp only [allB, List.all_eq_true, List.mem_range] at hc
  rw [hc i hi] at h
  cases h
theorem allB_at {n : Nat} {f : Nat → Bool} (h : allB n f = true) {i : Nat} (hi : i < n) : f i = true := by
  simp only [allB, List.all_eq_true, List.mem_range] at h
  exact h i hi

def pairAt (T : Tr) (lo hi : Int) (i : Nat) : Bool := inB (kOf T.pairs i) lo (hi - 1)
def pairsInB (T : Tr) (lo hi : Int) : Bool := allB T.pairs.length (pairAt T lo hi)
def leafOkB (T : Tr) (lo hi : Int) : Bool := mapOkB T.pairs && (decide (T.pairs.length ≤ 4) && (decide (T.cuts.length + T.kids.length + T.buf.length = 0) && pairsInB T lo hi))
def msgAt (T : Tr) (lo hi : Int) (i : Nat) : Bool := msgOkB (mO T.buf i) (mK T.buf i) (mV T.buf i) && (!(mO T.buf i == 4) && inB (mK T.buf i) lo (hi - 1))
def bufOkB (T : Tr) (lo hi : Int) : Bool := allB T.buf.length (msgAt T lo hi)
/-- from where on, and below what, the keys of the i-th kid lie -/
def fromT (T : Tr) (lo : Int) (i : Nat) : Int := if i = 0 then lo else iAt T.cuts (i - 1)
def toT (T : Tr) (hi : Int) (i : Nat) : Int := if i < T.cuts.length then iAt T.cuts i else hi
def cutAt (T : Tr) (lo hi : Int) (i : Nat) : Bool := inB (iAt T.cuts i) (fromT T lo i + 1) (hi - 1)
def cutsOkB (T : Tr) (lo hi : Int) : Bool := allB T.cuts.length (cutAt T lo hi)
def shapeB (T : Tr) : Bool := decide (T.pairs.length = 0) && (decide (2 ≤ T.kids.length ∧ T.kids.length ≤ 4) && (decide (T.cuts.length + 1 = T.kids.length) && decide (T.buf.length ≤ 6)))
def forkOkB (T : Tr) (lo hi : Int) : Bool := shapeB T && (bufOkB T lo hi && cutsOkB T lo hi)
/-- one more than the depth of all kids, where it is one -/
def kidsD (d : Nat → Nat) (n : Nat) : Nat := if (!(d 0 == 0) && allB n fun i => d i == d 0) = true then d 0 + 1 else 0
/-- the depth of a tree whose keys lie from lo on and below hi, of at most m; 0: it is not right -/
def depthF : Nat → Tr → Int → Int → Nat
  | 0, _, _, _ => 0
  | m + 1, T, lo, hi => if T.leaf = true then (if leafOkB T lo hi = true then 1 else 0) else if forkOkB T lo hi = true then kidsD (fun i => depthF m (kidT T i) (fromT T lo i) (toT T hi i)) T.kids.length else 0
def kidF (m : Nat) (T : Tr) (lo hi : Int) (i : Nat) : Nat := depthF m (kidT T i) (fromT T lo i) (toT T hi i)

theorem depthF_leaf {m : Nat} {T : Tr} {lo hi : Int} (h : T.leaf = true) : depthF (m + 1) T lo hi = if leafOkB T lo hi = true then 1 else 0 := by rw [depthF, if_pos h]
theorem depthF_no {m : Nat} {T : Tr} {lo hi : Int} (h : T.leaf = false) (hf : forkOkB T lo hi = false) : depthF (m + 1) T lo hi = 0 := by
  rw [depthF, if_neg (by rw [h]; decide), if_neg (by rw [hf]; decide)]
theorem depthF_fork {m : Nat} {T : Tr} {lo hi : Int} (h : T.leaf = false) (hf : forkOkB T lo hi = true) : depthF (m + 1) T lo hi = kidsD (kidF m T lo hi) T.kids.length := by
  rw [depthF, if_neg (by rw [h]; decide), if_pos hf]; rfl
theorem kidsD_zero {d : Nat → Nat} {n i : Nat} (hi : i < n) (h : d i = 0) : kidsD d n = 0 := by
  rw [kidsD, if_neg]
  intro hc
  simp only [Bool.and_eq_true] at hc
  have := allB_at hc.2 hi
  simp only [beq_iff_eq] at this
  rw [h] at this
  rw [← this] at hc
  simp at hc
theorem kidsD_ne {d : Nat → Nat} {n i : Nat} (hi : i < n) (h : d i ≠ d 0) : kidsD d n = 0 := by
  rw [kidsD, if_neg]
  intro hc
  simp only [Bool.and_eq_true] at hc
  have := allB_at hc.2 hi
  simp only [beq_iff_eq] at this
  exact h this
theorem kidsD_yes {d : Nat → Nat} {n : Nat} (h0 : d 0 ≠ 0) (h : ∀ i, i < n → d i = d 0) : kidsD d n = d 0 + 1 := by
  rw [kidsD, if_pos]
  simp only [Bool.and_eq_true]
  refine ⟨by simpa using h0, allB_true fun i hi => by simpa using h i hi⟩
theorem kidsD_le {d : Nat → Nat} {n m : Nat} (h : ∀ i, d i ≤ m) : kidsD d n ≤ m + 1 := by
  unfold kidsD
  split
  · have := h 0; omega
  · omega
theorem depthF_le : ∀ (m : Nat) (T : Tr) (lo hi : Int), depthF m T lo hi ≤ m
  | 0, _, _, _ => by simp [depthF]
  | m + 1, T, lo, hi => by
    rw [depthF]
    split
    · split <;> omega
    · split
      · exact kidsD_le fun i => depthF_le m _ _ _
      · omega

/-- how many pairs, messages a tree has -/
def pairsF : Nat → Tr → Nat
  | 0, _ => 0
  | n + 1, T => T.pairs.length + (T.kids.map (pairsF n)).sum
def msgsF : Nat → Tr → Nat
  | 0, _ => 0
  | n + 1, T => T.buf.length + (T.kids.map (msgsF n)).sum
def sumF (f : Tr → Nat) (ts : List Tr) (k : Nat) : Nat := ((ts.take k).map f).sum
theorem sumF_succ (f : Tr → Nat) (ts : List Tr) (k : Nat) (h : k < ts.length) : sumF f ts (k + 1) = sumF f ts k + f (ts.getD k noTr) := by
  rw [sumF, sumF, List.take_succ_eq_append_getElem h, List.map_append, List.sum_append]
  simp [List.getD, h]
theorem sumF_all (f : Tr → Nat) (ts : List Tr) : sumF f ts ts.length = (ts.map f).sum := by simp [sumF]
theorem sumF_zero (f : Tr → Nat) (ts : List Tr) : sumF f ts 0 = 0 := by simp [sumF]
theorem sumF_le (f : Tr → Nat) (ts : List Tr) : ∀ k, sumF f ts k ≤ (ts.map f).sum := by
  intro k
  have h : (ts.map f).sum = ((ts.take k).map f).sum + ((ts.drop k).map f).sum := by
    rw [← List.sum_append, ← List.map_append, List.take_append_drop]
  rw [sumF, h]
  omega
theorem sum_map_le {f g : Tr → Nat} (h : ∀ t, f t ≤ g t) : ∀ ts : List Tr, (ts.map f).sum ≤ (ts.map g).sum
  | [] => Nat.le_refl _
  | t :: ts => by
    have := sum_map_le h ts
    have := h t
    simp only [List.map_cons, List.sum_cons]
    omega
theorem pairsF_le : ∀ (n : Nat) (T : Tr), pairsF n T ≤ sizeT n T
  | 0, _ => Nat.le_refl _
  | n + 1, T => by
    have := sum_map_le (pairsF_le n) T.kids
    rw [pairsF, sizeT]
    omega
theorem msgsF_le : ∀ (n : Nat) (T : Tr), msgsF n T ≤ sizeT n T
  | 0, _ => Nat.le_refl _
  | n + 1, T => by
    have := sum_map_le (msgsF_le n) T.kids
    rw [msgsF, sizeT]
    omega

/-- how many of the first cuts are at most k -/
def cutsTo (l : List Int) (k : Int) : Nat := (l.filter fun c => decide (c ≤ k)).length

/-- the answers of chapter 2 -/
def depthT (T : Tr) : Nat := depthF 7 T 0 1000
def okT (T : Tr) : Bool := decide (0 < depthT T)

end Go.Proofs.Ytmoaccohnmkleaa
