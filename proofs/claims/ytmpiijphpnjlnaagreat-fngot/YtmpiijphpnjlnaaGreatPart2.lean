/-
  Trees of messages as plain data, and what it is that a struct's value leads to one.
  What chapter 2 says of trees, as plain functions.
  Contracts of MapOk, the model's and the program's.
  Contracts of the model's chapter 2: l2Leaf.
  The contract of the model's l2Depth.
  Contracts of the model's chapter 2: TreeDepth, TreeOk, l2Count, TreeCount, l2Kid, KidOf.
  Contracts of the model's chapter 2: TreeCount, l2Kid, KidOf; of the program's countAll, kidAt.
  Trees that own their memory; contracts of the laws' own functions that copy a tree.
  Contracts of the laws' own functions that copy a tree, of any height.
-/
import Derived.Test.YtmpiijphpnjlnaaGreatPart1
namespace Go.Proofs.YtmpiijphpnjlnaaGreat
open Go.RowKit

/-- A TREE. -/
structure Tr where
  leaf : Bool
  pairs : List (Int × Int)
  cuts : List Int
  kids : List Tr
  buf : ML

/-- THE FIVE CELLS OF A TREE'S STRUCT. -/
structure TV where
  lf : Bool
  p : Value
  c : Value
  k : Value
  b : Value

def TV.cells (x : TV) : List Value := [.bool x.lf, x.p, x.c, x.k, x.b]
abbrev TV.val (x : TV) : Value := .agg #[.bool x.lf, x.p, x.c, x.k, x.b]
def flatT (l : List TV) : List Value := l.flatMap TV.cells
def flatI (l : List Int) : List Value := l.map (.int .i64)

def noTr : Tr := ⟨true, [], [], [], []⟩
def noTV : TV := ⟨false, .slice none 0 0, .slice none 0 0, .slice none 0 0, .slice none 0 0⟩
/-- the i-th kid, cut -/
def kidT (T : Tr) (i : Nat) : Tr := T.kids.getD i noTr
def cutT (T : Tr) (i : Nat) : Int := T.cuts.getD i 0
def iAt (l : List Int) (i : Nat) : Int := l.getD i 0
def tvAt (l : List TV) (i : Nat) : TV := l.getD i noTV

theorem flatI_length (l : List Int) : (flatI l).length = l.length := by simp [flatI]
theorem flatI_at (l : List Int) (i : Nat) (h : i < l.length) : (flatI l)[i]? = some (.int .i64 (iAt l i)) := by simp [flatI, iAt, List.getD, h]
theorem flatT_cons (x : TV) (l : List TV) : flatT (x :: l) = .bool x.lf :: x.p :: x.c :: x.k :: x.b :: flatT l := rfl
theorem flatT_append (l m : List TV) : flatT (l ++ m) = flatT l ++ flatT m := by simp [flatT, List.flatMap_append]
theorem flatT_length (l : List TV) : (flatT l).length = l.length * 5 := by
  induction l with
  | nil => rfl
  | cons a l ih => rw [flatT_cons]; simp only [List.length_cons]; omega
theorem flatT_at (l : List TV) : ∀ i, i < l.length → (flatT l)[i * 5]? = some (.bool (tvAt l i).lf) ∧ (flatT l)[i * 5 + 1]? = some (tvAt l i).p ∧ (flatT l)[i * 5 + 2]? = some (tvAt l i).c ∧ (flatT l)[i * 5 + 3]? = some (tvAt l i).k ∧ (flatT l)[i * 5 + 4]? = some (tvAt l i).b := by
  induction l with
  | nil => intro i h; simp at h
  | cons a l ih =>
    intro i h
    cases i with
    | zero => simp [flatT_cons, tvAt]
    | succ i =>
      have := ih i (by simpa using h)
      rw [show (i + 1) * 5 = i * 5 + 1 + 1 + 1 + 1 + 1 by omega, flatT_cons]
      rw [show i * 5 + 1 + 1 + 1 + 1 + 1 + 1 = (i * 5 + 1) + 1 + 1 + 1 + 1 + 1 by omega, show i * 5 + 1 + 1 + 1 + 1 + 1 + 2 = (i * 5 + 2) + 1 + 1 + 1 + 1 + 1 by omega, show i * 5 + 1 + 1 + 1 + 1 + 1 + 3 = (i * 5 + 3) + 1 + 1 + 1 + 1 + 1 by omega, show i * 5 + 1 + 1 + 1 + 1 + 1 + 4 = (i * 5 + 4) + 1 + 1 + 1 + 1 + 1 by omega]
      simpa [tvAt] using this
theorem flatT_set (l : List TV) (y : TV) : ∀ i, i < l.length → (((((flatT l).set (i * 5) (.bool y.lf)).set (i * 5 + 1) y.p).set (i * 5 + 2) y.c).set (i * 5 + 3) y.k).set (i * 5 + 4) y.b = flatT (l.set i y) := by
  induction l with
  | nil => intro i h; simp at h
  | cons a l ih =>
    intro i h
    cases i with
    | zero => simp [flatT_cons]
    | succ i =>
      have := ih i (by simpa using h)
      rw [flatT_cons, List.set_cons_succ, flatT_cons, show (i + 1) * 5 + 4 = (i * 5 + 4) + 1 + 1 + 1 + 1 + 1 by omega, show (i + 1) * 5 + 3 = (i * 5 + 3) + 1 + 1 + 1 + 1 + 1 by omega, show (i + 1) * 5 + 2 = (i * 5 + 2) + 1 + 1 + 1 + 1 + 1 by omega, show (i + 1) * 5 + 1 = (i * 5 + 1) + 1 + 1 + 1 + 1 + 1 by omega, show (i + 1) * 5 = i * 5 + 1 + 1 + 1 + 1 + 1 by omega]
      simp only [List.set_cons_succ]
      rw [this]

theorem Row.ints {w : World} {v : Value} {l : List Int} (h : Row w v l.length (flatI l)) :
    ∃ (a : Option Addr) (b off cap : Nat), v = .slice a l.length cap ∧ l.length ≤ cap ∧ cap ≤ maxLen ∧ (0 < l.length → a = some ⟨b, off, none⟩) ∧
      (∀ i, i < l.length → w.cell? ⟨b, off + i, none⟩ = some (.int .i64 (iAt l i))) := by
  obtain ⟨a, b, off, cap, h1, h2, h3, h4, h5, _⟩ := h
  exact ⟨a, b, off, cap, h1, h2, h3, h4, fun i hi => h5 _ _ (flatI_at l i hi)⟩
theorem Row.trees {w : World} {v : Value} {l : List TV} (h : Row w v l.length (flatT l)) :
    ∃ (a : Option Addr) (b off cap : Nat), v = .slice a l.length cap ∧ l.length ≤ cap ∧ cap ≤ maxLen ∧ (0 < l.length → a = some ⟨b, off, none⟩) ∧
      (∀ i, i < l.length → w.cell? ⟨b, off + i * 5, none⟩ = some (.bool (tvAt l i).lf)) ∧ (∀ i, i < l.length → w.cell? ⟨b, off + i * 5 + 1, none⟩ = some (tvAt l i).p) ∧ (∀ i, i < l.length → w.cell? ⟨b, off + i * 5 + 2, none⟩ = some (tvAt l i).c) ∧
      (∀ i, i < l.length → w.cell? ⟨b, off + i * 5 + 3, none⟩ = some (tvAt l i).k) ∧ (∀ i, i < l.length → w.cell? ⟨b, off + i * 5 + 4, none⟩ = some (tvAt l i).b) := by
  obtain ⟨a, b, off, cap, h1, h2, h3, h4, h5, _⟩ := h
  exact ⟨a, b, off, cap, h1, h2, h3, h4, fun i hi => h5 _ _ (flatT_at l i hi).1, fun i hi => h5 _ _ (flatT_at l i hi).2.1, fun i hi => h5 _ _ (flatT_at l i hi).2.2.1, fun i hi => h5 _ _ (flatT_at l i hi).2.2.2.1, fun i hi => h5 _ _ (flatT_at l i hi).2.2.2.2⟩
theorem Row.len {w : World} {v : Value} {n : Nat} {xs : List Value} (h : Row w v n xs) : ∃ (a : Option Addr) (cap : Nat), v = .slice a n cap ∧ n ≤ maxLen := by
  obtain ⟨a, b, off, cap, h1, h2, h3, _⟩ := h
  exact ⟨a, cap, h1, Nat.le_trans h2 h3⟩

/-- THE STRUCT x LEADS TO THE TREE T, of a height of at most n. -/
def TreeAt : Nat → World → TV → Tr → Prop
  | 0, _, _, _ => False
  | n + 1, w, x, T => x.lf = T.leaf ∧ Row w x.p T.pairs.length (flatP T.pairs) ∧ Row w x.c T.cuts.length (flatI T.cuts) ∧ Row w x.b T.buf.length (flatM T.buf) ∧
      ∃ xs : List TV, xs.length = T.kids.length ∧ Row w x.k xs.length (flatT xs) ∧ ∀ i, i < xs.length → TreeAt n w (tvAt xs i) (kidT T i)

/-- ROWS OF TREES. -/
def TreesAt (n : Nat) (w : World) (v : Value) (ts : List Tr) : Prop :=
  ∃ xs : List TV, xs.length = ts.length ∧ Row w v xs.length (flatT xs) ∧ ∀ i, i < xs.length → TreeAt n w (tvAt xs i) (ts.getD i noTr)

theorem TreeAt.below : ∀ {n : Nat} {w w' : World} {x : TV} {T : Tr}, TreeAt n w x T → Below w.heap.size w w' → TreeAt n w' x T
  | 0, _, _, _, _, h, _ => h
  | _ + 1, _, _, _, _, ⟨h1, h2, h3, h4, xs, h5, h6, h7⟩, hb => ⟨h1, h2.below hb, h3.below hb, h4.below hb, xs, h5, h6.below hb, fun i hi => (h7 i hi).below hb⟩
theorem TreesAt.below {n : Nat} {w w' : World} {v : Value} {ts : List Tr} (h : TreesAt n w v ts) (hb : Below w.heap.size w w') : TreesAt n w' v ts := by
  obtain ⟨xs, h5, h6, h7⟩ := h
  exact ⟨xs, h5, h6.below hb, fun i hi => (h7 i hi).below hb⟩
theorem TreeAt.up : ∀ {n : Nat} {w : World} {x : TV} {T : Tr}, TreeAt n w x T → TreeAt (n + 1) w x T
  | 0, _, _, _, h => h.elim
  | _ + 1, _, _, _, ⟨h1, h2, h3, h4, xs, h5, h6, h7⟩ => ⟨h1, h2, h3, h4, xs, h5, h6, fun i hi => (h7 i hi).up⟩
theorem TreeAt.le {n m : Nat} {w : World} {x : TV} {T : Tr} (h : TreeAt n w x T) (hm : n ≤ m) : TreeAt m w x T := by
  induction hm with
  | refl => exact h
  | step _ ih => exact ih.up
theorem TreeAt.parts {n : Nat} {w : World} {x : TV} {T : Tr} (h : TreeAt (n + 1) w x T) :
    x.lf = T.leaf ∧ Row w x.p T.pairs.length (flatP T.pairs) ∧ Row w x.c T.cuts.length (flatI T.cuts) ∧ Row w x.b T.buf.length (flatM T.buf) ∧ TreesAt n w x.k T.kids := by
  obtain ⟨h1, h2, h3, h4, xs, h5, h6, h7⟩ := h
  exact ⟨h1, h2, h3, h4, xs, h5, h6, h7⟩
theorem TreeAt.mk {n : Nat} {w : World} {x : TV} {T : Tr} (h1 : x.lf = T.leaf) (h2 : Row w x.p T.pairs.length (flatP T.pairs)) (h3 : Row w x.c T.cuts.length (flatI T.cuts)) (h4 : Row w x.b T.buf.length (flatM T.buf)) (h5 : TreesAt n w x.k T.kids) : TreeAt (n + 1) w x T := by
  obtain ⟨xs, h5, h6, h7⟩ := h5
  exact ⟨h1, h2, h3, h4, xs, h5, h6, h7⟩

/-- how many things a tree has -/
def sizeT : Nat → Tr → Nat
  | 0, _ => 0
  | n + 1, T => T.pairs.length + (T.cuts.length + (T.kids.length + (T.kids.map (sizeT n)).sum + T.buf.length))
def sizeTs (n : Nat) (ts : List Tr) : Nat := ts.length + (ts.map (sizeT n)).sum
def sumTo (n : Nat) (ts : List Tr) (k : Nat) : Nat := ((ts.take k).map (sizeT n)).sum
theorem sumTo_succ (n : Nat) (ts : List Tr) (k : Nat) (h : k < ts.length) : sumTo n ts (k + 1) = sumTo n ts k + sizeT n (ts.getD k noTr) := by
  rw [sumTo, sumTo, List.take_succ_eq_append_getElem h, List.map_append, List.sum_append]
  simp [List.getD, h]
theorem sumTo_all (n : Nat) (ts : List Tr) : sumTo n ts ts.length = (ts.map (sizeT n)).sum := by simp [sumTo]
theorem sumTo_le (n : Nat) (ts : List Tr) : ∀ k, sumTo n ts k ≤ (ts.map (sizeT n)).sum := by
  intro k
  have h : (ts.map (sizeT n)).sum = ((ts.take k).map (sizeT n)).sum + ((ts.drop k).map (sizeT n)).sum := by
    rw [← List.sum_append, ← List.map_append, List.take_append_drop]
  rw [sumTo, h]
  omega
theorem sizeT_kid {n : Nat} {T : Tr} {i : Nat} (hi : i < T.kids.length) : sizeT n (kidT T i) + T.kids.length ≤ sizeT (n + 1) T := by
  have h1 := sumTo_le n T.kids (i + 1)
  rw [sumTo_succ n T.kids i hi] at h1
  show sizeT n (T.kids.getD i noTr) + _ ≤ T.pairs.length + (T.cuts.length + (T.kids.length + (T.kids.map (sizeT n)).sum + T.buf.length))
  omega

/-- what is left of a budget -/
def leftOf (left : Int) (n : Nat) : Int := if (n : Int) ≤ left then left - n else -1

end Go.Proofs.YtmpiijphpnjlnaaGreat

namespace Go.Proofs.YtmpiijphpnjlnaaGreat

/-- all below a number -/
def allB (n : Nat) (f : Nat → Bool) : Bool := (List.range n).all f
theorem allB_true {n : Nat} {f : Nat → Bool} (h : ∀ i, i < n → f i = true) : allB n f = true := by
  simp only [allB, List.all_eq_true, List.mem_range]; exact h
theorem allB_false {n : Nat} {f : Nat → Bool} {i : Nat} (hi : i < n) (h : f i = false) : allB n f = false := by
  rw [Bool.eq_false_iff]
  intro hc
  simp only [allB, List.all_eq_true, List.mem_range] at hc
  rw [hc i hi] at h
  cases h
theorem allB_at {n : Nat} {f : Nat → Bool} (h : allB n f = true) {i : Nat} (hi : i < n) : f i = true := by
  simp only [allB, List.all_eq_true, List.mem_range] at h
  exact h i hi

def pairAt (T : Tr) (lo hi : Int) (i : Nat) : Bool := inB (kOf T.pairs i) lo (hi - 1)
def pairsInB (T : Tr) (lo hi : Int) : Bool := allB T.pairs.length (pairAt T lo hi)
def leafOkB (T : Tr) (lo hi : Int) : Bool := mapOkB T.pairs && (decide (T.pairs.length ≤ 4) && (decide (T.cuts.length + T.kids.length + T.buf.length = 0) && pairsInB T lo hi))
def msgAt (T : Tr) (lo hi : Int) (i : Nat) : Bool := msgOkB (mO T.buf i) (mK T.buf i) (mV T.buf i) && (!(mO T.buf i == 4) && inB (mK T.buf i) lo (hi - 1))
def bufOkB (T : Tr) (lo hi : Int) : Bool := allB T.buf.length (msgAt T lo hi)
/-- from where on, and below what, the keys of the i-th kid lie -/
def fromT (T : Tr) (lo : Int) (i : Nat) : Int := if i = 0 then lo else iAt T.cuts (i - 1)
def toT (T : Tr) (hi : Int) (i : Nat) : Int := if i < T.cuts.length then iAt T.cuts i else hi
def cutAt (T : Tr) (lo hi : Int) (i : Nat) : Bool := inB (iAt T.cuts i) (fromT T lo i + 1) (hi - 1)
def cutsOkB (T : Tr) (lo hi : Int) : Bool := allB T.cuts.length (cutAt T lo hi)
def shapeB (T : Tr) : Bool := decide (T.pairs.length = 0) && (decide (2 ≤ T.kids.length ∧ T.kids.length ≤ 4) && (decide (T.cuts.length + 1 = T.kids.length) && decide (T.buf.length ≤ 6)))
def forkOkB (T : Tr) (lo hi : Int) : Bool := shapeB T && (bufOkB T lo hi && cutsOkB T lo hi)
/-- one more than the depth of all kids, where it is one -/
def kidsD (d : Nat → Nat) (n : Nat) : Nat := if (!(d 0 == 0) && allB n fun i => d i == d 0) = true then d 0 + 1 else 0
/-- the depth of a tree whose keys lie from lo on and below hi, of at most m; 0: it is not right -/
def depthF : Nat → Tr → Int → Int → Nat
  | 0, _, _, _ => 0
  | m + 1, T, lo, hi => if T.leaf = true then (if leafOkB T lo hi = true then 1 else 0) else if forkOkB T lo hi = true then kidsD (fun i => depthF m (kidT T i) (fromT T lo i) (toT T hi i)) T.kids.length else 0
def kidF (m : Nat) (T : Tr) (lo hi : Int) (i : Nat) : Nat := depthF m (kidT T i) (fromT T lo i) (toT T hi i)

theorem depthF_leaf {m : Nat} {T : Tr} {lo hi : Int} (h : T.leaf = true) : depthF (m + 1) T lo hi = if leafOkB T lo hi = true then 1 else 0 := by rw [depthF, if_pos h]
theorem depthF_no {m : Nat} {T : Tr} {lo hi : Int} (h : T.leaf = false) (hf : forkOkB T lo hi = false) : depthF (m + 1) T lo hi = 0 := by
  rw [depthF, if_neg (by rw [h]; decide), if_neg (by rw [hf]; decide)]
theorem depthF_fork {m : Nat} {T : Tr} {lo hi : Int} (h : T.leaf = false) (hf : forkOkB T lo hi = true) : depthF (m + 1) T lo hi = kidsD (kidF m T lo hi) T.kids.length := by
  rw [depthF, if_neg (by rw [h]; decide), if_pos hf]; rfl
theorem kidsD_zero {d : Nat → Nat} {n i : Nat} (hi : i < n) (h : d i = 0) : kidsD d n = 0 := by
  rw [kidsD, if_neg]
  intro hc
  simp only [Bool.and_eq_true] at hc
  have := allB_at hc.2 hi
  simp only [beq_iff_eq] at this
  rw [h] at this
  rw [← this] at hc
  simp at hc
theorem kidsD_ne {d : Nat → Nat} {n i : Nat} (hi : i < n) (h : d i ≠ d 0) : kidsD d n = 0 := by
  rw [kidsD, if_neg]
  intro hc
  simp only [Bool.and_eq_true] at hc
  have := allB_at hc.2 hi
  simp only [beq_iff_eq] at this
  exact h this
theorem kidsD_yes {d : Nat → Nat} {n : Nat} (h0 : d 0 ≠ 0) (h : ∀ i, i < n → d i = d 0) : kidsD d n = d 0 + 1 := by
  rw [kidsD, if_pos]
  simp only [Bool.and_eq_true]
  refine ⟨by simpa using h0, allB_true fun i hi => by simpa using h i hi⟩
theorem kidsD_le {d : Nat → Nat} {n m : Nat} (h : ∀ i, d i ≤ m) : kidsD d n ≤ m + 1 := by
  unfold kidsD
  split
  · have := h 0; omega
  · omega
theorem depthF_le : ∀ (m : Nat) (T : Tr) (lo hi : Int), depthF m T lo hi ≤ m
  | 0, _, _, _ => by simp [depthF]
  | m + 1, T, lo, hi => by
    rw [depthF]
    split
    · split <;> omega
    · split
      · exact kidsD_le fun i => depthF_le m _ _ _
      · omega

/-- how many pairs, messages a tree has -/
def pairsF : Nat → Tr → Nat
  | 0, _ => 0
  | n + 1, T => T.pairs.length + (T.kids.map (pairsF n)).sum
def msgsF : Nat → Tr → Nat
  | 0, _ => 0
  | n + 1, T => T.buf.length + (T.kids.map (msgsF n)).sum
def sumF (f : Tr → Nat) (ts : List Tr) (k : Nat) : Nat := ((ts.take k).map f).sum
theorem sumF_succ (f : Tr → Nat) (ts : List Tr) (k : Nat) (h : k < ts.length) : sumF f ts (k + 1) = sumF f ts k + f (ts.getD k noTr) := by
  rw [sumF, sumF, List.take_succ_eq_append_getElem h, List.map_append, List.sum_append]
  simp [List.getD, h]
theorem sumF_all (f : Tr → Nat) (ts : List Tr) : sumF f ts ts.length = (ts.map f).sum := by simp [sumF]
theorem sumF_zero (f : Tr → Nat) (ts : List Tr) : sumF f ts 0 = 0 := by simp [sumF]
theorem sumF_le (f : Tr → Nat) (ts : List Tr) : ∀ k, sumF f ts k ≤ (ts.map f).sum := by
  intro k
  have h : (ts.map f).sum = ((ts.take k).map f).sum + ((ts.drop k).map f).sum := by
    rw [← List.sum_append, ← List.map_append, List.take_append_drop]
  rw [sumF, h]
  omega
theorem sum_map_le {f g : Tr → Nat} (h : ∀ t, f t ≤ g t) : ∀ ts : List Tr, (ts.map f).sum ≤ (ts.map g).sum
  | [] => Nat.le_refl _
  | t :: ts => by
    have := sum_map_le h ts
    have := h t
    simp only [List.map_cons, List.sum_cons]
    omega
theorem pairsF_le : ∀ (n : Nat) (T : Tr), pairsF n T ≤ sizeT n T
  | 0, _ => Nat.le_refl _
  | n + 1, T => by
    have := sum_map_le (pairsF_le n) T.kids
    rw [pairsF, sizeT]
    omega
theorem msgsF_le : ∀ (n : Nat) (T : Tr), msgsF n T ≤ sizeT n T
  | 0, _ => Nat.le_refl _
  | n + 1, T => by
    have := sum_map_le (msgsF_le n) T.kids
    rw [msgsF, sizeT]
    omega

/-- how many of the first cuts are at most k -/
def cutsTo (l : List Int) (k : Int) : Nat := (l.filter fun c => decide (c ≤ k)).length

/-- the answers of chapter 2 -/
def depthT (T : Tr) : Nat := depthF 7 T 0 1000
def okT (T : Tr) : Bool := decide (0 < depthT T)

end Go.Proofs.YtmpiijphpnjlnaaGreat

namespace Go.Proofs.YtmpiijphpnjlnaaGreat
open Go.RowKit

theorem okAt_false_k {l : List (Int × Int)} {k : Nat} (h : inB (kOf l k) 0 999 = false) : okAt l k = false := by simp [okAt, h]
theorem okAt_false_v {l : List (Int × Int)} {k : Nat} (h : inB (vOf l k) (-1000000000) 1000000000 = false) : okAt l k = false := by simp [okAt, h]
theorem okAt_zero {l : List (Int × Int)} (h : inB (kOf l 0) 0 999 = true) (h' : inB (vOf l 0) (-1000000000) 1000000000 = true) : okAt l 0 = true := by simp [okAt, h, h']
theorem okAt_succ {l : List (Int × Int)} {k : Nat} (h : inB (kOf l (k + 1)) 0 999 = true) (h' : inB (vOf l (k + 1)) (-1000000000) 1000000000 = true) (hlt : kOf l k < kOf l (k + 1)) : okAt l (k + 1) = true := by simp [okAt, h, h', hlt]
theorem okAt_false_lt {l : List (Int × Int)} {k : Nat} (hlt : kOf l (k + 1) ≤ kOf l k) : okAt l (k + 1) = false := by
  have : ¬ kOf l k < kOf l (k + 1) := by omega
  simp [okAt, this]

set_option maxHeartbeats 1000000 in
theorem specMapOk_any (v : Value) (l : List (Int × Int)) (w : World) (h : Row w v l.length (flatP l)) :
    Calls Tryz.prog 68 #[v] w fun e w' => e = .returned (.bool (mapOkB l)) ∧ Below w.heap.size w w' := by
  obtain ⟨a, b, off, cap, rfl, hcap, hmax, ha, hk, hv⟩ := h.pairs
  unfold maxLen at hmax
  go_enter Tryz.func68, Tryz.ntmps68
  go_wp2
  go_loopw [3] (fun i wr => ∃ k : Nat, k ≤ l.length ∧ i = .int .i64 k ∧ (∀ i, i < k → okAt l i = true) ∧ Below w.heap.size w wr)
    (fun i _ => l.length - (intOf i).toNat)
  case atStart => exact ⟨0, Nat.zero_le _, rfl, fun i hi => absurd hi (Nat.not_lt_zero _), Below.refl _ _⟩
  case round =>
    obtain ⟨k, hkl, rfl, hall, hb⟩ := hrel
    have ALL : Hid (∀ i, i < k → okAt l i = true) := hall
    clear hall
    by_cases hlt : k < l.length
    · have hal := ha (by omega)
      subst hal
      have d0 : wr.cell? ⟨b, off + k * 2, none⟩ = some (.int .i64 (kOf l k)) := (hb.cell (by exact cell_lt (hk k hlt))).trans (hk k hlt)
      have d1 : wr.cell? ⟨b, off + k * 2 + 1, none⟩ = some (.int .i64 (vOf l k)) := (hb.cell (by exact cell_lt (hv k hlt))).trans (hv k hlt)
      cases hK : inB (kOf l k) 0 999
      · have NE : Hid (mapOkB l = false) := mapOkB_false hlt (okAt_false_k hK)
        clear hk hv
        go_wp2_with fail
        go_quiet ((go_at_call 76; exact Calls.quiet_of_same (l1In_any _ _ _ _)))
        go_wp2
        go_ret
        exact ⟨ret_bool NE.out.symm, below_drewN hb _⟩
      · cases hV : inB (vOf l k) (-1000000000) 1000000000
        · have NE : Hid (mapOkB l = false) := mapOkB_false hlt (okAt_false_v hV)
          clear hk hv
          go_wp2_with fail
          go_quiet (first | (go_at_call 76; exact Calls.quiet_of_same (l1In_any _ _ _ _)) | (go_at_call 90; exact Calls.quiet_of_same (l1Value_any _ _)))
          go_wp2
          go_ret
          exact ⟨ret_bool NE.out.symm, below_drewN hb _⟩
        · cases k with
          | zero =>
            have OK : Hid (okAt l 0 = true) := okAt_zero hK hV
            simp only [Nat.zero_mul, Nat.add_zero] at d0 d1
            clear hk hv
            go_wp2_with fail
            go_quiet (first | (go_at_call 76; exact Calls.quiet_of_same (l1In_any _ _ _ _)) | (go_at_call 90; exact Calls.quiet_of_same (l1Value_any _ _)))
            go_wp2
            go_roundw
            case rel => exact ⟨1, by omega, by go_num, fun i hi => by rw [show i = 0 by omega]; exact OK.out, below_drewN hb _⟩
            case measure => simp [intOf]; omega
          | succ k =>
            have hpos : (0 : Int) < ((k + 1 : Nat) : Int) := by omega
            have d2 : wr.cell? ⟨b, off + k * 2, none⟩ = some (.int .i64 (kOf l k)) := (hb.cell (by exact cell_lt (hk k (by omega)))).trans (hk k (by omega))
            clear hk hv
            by_cases hord : kOf l k < kOf l (k + 1)
            · have OK : Hid (okAt l (k + 1) = true) := okAt_succ hK hV hord
              go_wp2_with fail
              go_quiet (first | (go_at_call 76; exact Calls.quiet_of_same (l1In_any _ _ _ _)) | (go_at_call 90; exact Calls.quiet_of_same (l1Value_any _ _)))
              go_wp2
              go_roundw
              case rel => exact ⟨k + 1 + 1, by omega, by go_num, fun i hi => if h : i < k + 1 then ALL.out i h else by rw [show i = k + 1 by omega]; exact OK.out, below_drewN hb _⟩
              case measure => simp [intOf]; omega
            · have NE : Hid (mapOkB l = false) := mapOkB_false hlt (okAt_false_lt (by omega))
              go_wp2_with fail
              go_quiet (first | (go_at_call 76; exact Calls.quiet_of_same (l1In_any _ _ _ _)) | (go_at_call 90; exact Calls.quiet_of_same (l1Value_any _ _)))
              go_wp2
              go_ret
              exact ⟨ret_bool NE.out.symm, below_drewN hb _⟩
    · go_wp2
      go_ret
      exact ⟨ret_bool (mapOkB_true (fun i hi => ALL.out i (by omega))).symm, hb⟩

set_option maxHeartbeats 1000000 in
theorem implMapOk_any (v : Value) (l : List (Int × Int)) (w : World) (h : Row w v l.length (flatP l)) :
    Calls Tryz.prog 21 #[v] w fun e w' => e = .returned (.bool (mapOkB l)) ∧ Below w.heap.size w w' := by
  obtain ⟨a, b, off, cap, rfl, hcap, hmax, ha, hk, hv⟩ := h.pairs
  unfold maxLen at hmax
  go_enter Tryz.func21, Tryz.ntmps21
  go_wp2
  go_loopw [7] (fun i wr => ∃ k : Nat, k ≤ l.length ∧ i = .int .i64 k ∧ (∀ i, i < k → okAt l i = true) ∧ Below w.heap.size w wr)
    (fun i _ => l.length - (intOf i).toNat)
  case atStart => exact ⟨0, Nat.zero_le _, rfl, fun i hi => absurd hi (Nat.not_lt_zero _), Below.refl _ _⟩
  case round =>
    obtain ⟨k, hkl, rfl, hall, hb⟩ := hrel
    have ALL : Hid (∀ i, i < k → okAt l i = true) := hall
    clear hall
    by_cases hlt : k < l.length
    · have hal := ha (by omega)
      subst hal
      have hbl := cell_lt (hk k hlt)
      have d0 : wr.cell? ⟨b, off + k * 2, none⟩ = some (.int .i64 (kOf l k)) := (hb.cell (by exact hbl)).trans (hk k hlt)
      have d1 : wr.cell? ⟨b, off + k * 2 + 1, none⟩ = some (.int .i64 (vOf l k)) := (hb.cell (by exact hbl)).trans (hv k hlt)
      have hb' : ∀ o, Below w.heap.size w (wr.alloc o) := fun o => hb.alloc hb.size o
      cases hK : inB (kOf l k) 0 999
      · have NE : Hid (mapOkB l = false) := mapOkB_false hlt (okAt_false_k hK)
        clear hk hv
        go_wp2_with (go_at_call 38; refine (keyOk_any _ _).mono ?_; rintro e w' ⟨rfl, rfl⟩)
        go_ret
        exact ⟨ret_bool NE.out.symm, hb' _⟩
      · cases hV : inB (vOf l k) (-1000000000) 1000000000
        · have NE : Hid (mapOkB l = false) := mapOkB_false hlt (okAt_false_v hV)
          clear hk hv
          go_wp2_with (first | (go_at_call 38; refine (keyOk_any _ _).mono ?_; rintro e w' ⟨rfl, rfl⟩) | (go_at_call 39; refine (valueOk_any _ _).mono ?_; rintro e w' ⟨rfl, rfl⟩))
          go_ret
          exact ⟨ret_bool NE.out.symm, hb' _⟩
        · cases k with
          | zero =>
            have OK : Hid (okAt l 0 = true) := okAt_zero hK hV
            simp only [Nat.zero_mul, Nat.add_zero] at d0 d1
            clear hk hv
            go_wp2_with (first | (go_at_call 38; refine (keyOk_any _ _).mono ?_; rintro e w' ⟨rfl, rfl⟩) | (go_at_call 39; refine (valueOk_any _ _).mono ?_; rintro e w' ⟨rfl, rfl⟩))
            go_quiet (fail)
            go_wp2
            go_roundw
            case rel => exact ⟨1, by omega, by go_num, fun i hi => by rw [show i = 0 by omega]; exact OK.out, below_drewN (hb' _) _⟩
            case measure => simp [intOf]; omega
          | succ k =>
            have hpos : (0 : Int) < ((k + 1 : Nat) : Int) := by omega
            have hwk : IntKind.i64.wrap (k : Int) = (k : Int) := by rw [IntKind.wrap_i64]; omega
            have hkb : (k : Int) < (l.length : Int) := by omega
            have hbr : b < wr.heap.size := Nat.lt_of_lt_of_le hbl hb.size
            have hbn : ¬ b = wr.heap.size := by omega
            have d2 : wr.cell? ⟨b, off + k * 2, none⟩ = some (.int .i64 (kOf l k)) := (hb.cell (by exact hbl)).trans (hk k (by omega))
            have d2' : ∀ o, (wr.alloc o).cell? ⟨b, off + k * 2, none⟩ = some (.int .i64 (kOf l k)) := fun o => (((Below.refl _ _).alloc (Nat.le_refl _) o).cell (p := ⟨b, off + k * 2, none⟩) hbr).trans d2
            clear hk hv
            by_cases hord : kOf l k < kOf l (k + 1)
            · have OK : Hid (okAt l (k + 1) = true) := okAt_succ hK hV hord
              go_wp2_with (first | (go_at_call 38; refine (keyOk_any _ _).mono ?_; rintro e w' ⟨rfl, rfl⟩) | (go_at_call 39; refine (valueOk_any _ _).mono ?_; rintro e w' ⟨rfl, rfl⟩))
              go_quiet (fail)
              go_wp2
              go_roundw
              case rel => exact ⟨k + 1 + 1, by omega, by go_num, fun i hi => if h : i < k + 1 then ALL.out i h else by rw [show i = k + 1 by omega]; exact OK.out, below_drewN (hb' _) _⟩
              case measure => simp [intOf]; omega
            · have NE : Hid (mapOkB l = false) := mapOkB_false hlt (okAt_false_lt (by omega))
              go_wp2_with (first | (go_at_call 38; refine (keyOk_any _ _).mono ?_; rintro e w' ⟨rfl, rfl⟩) | (go_at_call 39; refine (valueOk_any _ _).mono ?_; rintro e w' ⟨rfl, rfl⟩))
              go_quiet (fail)
              go_wp2
              go_ret
              exact ⟨ret_bool NE.out.symm, below_drewN (hb' _) _⟩
    · go_wp2
      go_ret
      exact ⟨ret_bool (mapOkB_true (fun i hi => ALL.out i (by omega))).symm, hb⟩

end Go.Proofs.YtmpiijphpnjlnaaGreat

namespace Go.Proofs.YtmpiijphpnjlnaaGreat
open Go.RowKit

/-- A BOX OF A TREE'S STRUCT. -/
def OneAt (u : World) (B : Nat) (A : Array Value) : Prop := u.heap[B]? = some (.cells A 29 (0, 0))
theorem OneAt.step {u w' : World} {B : Nat} {A : Array Value} (h : OneAt u B A) (hb : Below u.heap.size u w') : OneAt w' B A :=
  (hb.block _ (Array.getElem?_eq_some_iff.1 h).1).trans h
theorem OneAt.cells {u : World} {B : Nat} {A : Array Value} (h : OneAt u B A) : ∀ j, u.cell? ⟨B, j, none⟩ = A[j]? := fun j => cell_of_row u B j A 29 (0, 0) h
theorem OneAt.start (w : World) (A : Array Value) : OneAt (w.alloc (.cells A 29)) w.heap.size A := heap_alloc_new w _
theorem bel_box (w : World) (A : Array Value) : Below w.heap.size w (w.alloc (.cells A 29)) := (Below.refl _ _).alloc (Nat.le_refl _) _

theorem TreesAt.len {n : Nat} {w : World} {v : Value} {ts : List Tr} (h : TreesAt n w v ts) : ∃ (a : Option Addr) (cap : Nat), v = .slice a ts.length cap ∧ ts.length ≤ maxLen := by
  obtain ⟨xs, hl, hr, _⟩ := h
  obtain ⟨a, q, e, m⟩ := hr.len
  rw [hl] at e m
  exact ⟨a, q, e, m⟩

theorem leaf_no1 {T : Tr} {lo hi : Int} (h : mapOkB T.pairs = false) : leafOkB T lo hi = false := by simp [leafOkB, h]
theorem leaf_no2 {T : Tr} {lo hi : Int} (h : ¬ T.pairs.length ≤ 4) : leafOkB T lo hi = false := by
  rw [leafOkB, decide_eq_false h]; simp
theorem leaf_no3 {T : Tr} {lo hi : Int} (h : ¬ T.cuts.length + T.kids.length + T.buf.length = 0) : leafOkB T lo hi = false := by
  rw [leafOkB, decide_eq_false h]; simp
theorem leaf_no4 {T : Tr} {lo hi : Int} {i : Nat} (hi' : i < T.pairs.length) (h : pairAt T lo hi i = false) : leafOkB T lo hi = false := by
  rw [leafOkB, pairsInB, allB_false hi' h]; simp
theorem leaf_yes {T : Tr} {lo hi : Int} (h1 : mapOkB T.pairs = true) (h2 : T.pairs.length ≤ 4) (h3 : T.cuts.length + T.kids.length + T.buf.length = 0) (h4 : ∀ i, i < T.pairs.length → pairAt T lo hi i = true) : leafOkB T lo hi = true := by
  rw [leafOkB, h1, decide_eq_true h2, decide_eq_true h3, pairsInB, allB_true h4]; rfl

/-- 1 of a leaf that is right, else 0 -/
def leafD (T : Tr) (lo hi : Int) : Int := if leafOkB T lo hi = true then 1 else 0
theorem leafD_no {T : Tr} {lo hi : Int} (h : leafOkB T lo hi = false) : leafD T lo hi = 0 := by simp [leafD, h]
theorem leafD_yes {T : Tr} {lo hi : Int} (h : leafOkB T lo hi = true) : leafD T lo hi = 1 := by simp [leafD, h]

set_option maxHeartbeats 2000000 in
theorem l2Leaf_any (n : Nat) (x : TV) (T : Tr) (lo hi : Int) (w : World) (ht : TreeAt n w x T) (hsz : sizeT n T ≤ 1099511627776) (hh0 : 0 ≤ hi) (hh1 : hi ≤ 1000) :
    Calls Tryz.prog 75 #[x.val, .int .i64 lo, .int .i64 hi] w fun e w' => e = .returned (.int .i64 (leafD T lo hi)) ∧ Below w.heap.size w w' := by
  cases n with
  | zero => exact ht.elim
  | succ n =>
  obtain ⟨lf, p, c, k, b⟩ := x
  obtain ⟨hlf, hp, hc, hb, hk⟩ := ht.parts
  simp only at hlf hp hc hb hk
  obtain ⟨a2, q2, rfl, m2⟩ := hc.len
  obtain ⟨a3, q3, rfl, m3⟩ := hk.len
  obtain ⟨a4, q4, rfl, m4⟩ := hb.len
  obtain ⟨a, bb, off, cap, rfl, hcap, hmax, ha, ck, cv⟩ := hp.pairs
  have R1 : Hid (Row w (.slice a T.pairs.length cap) T.pairs.length (flatP T.pairs)) := hp
  unfold maxLen at hmax
  clear m2 m3 m4
  have hS : sizeT (n + 1) T = T.pairs.length + (T.cuts.length + (T.kids.length + (T.kids.map (sizeT n)).sum + T.buf.length)) := rfl
  have m2 : T.cuts.length ≤ 1099511627776 := by omega
  have m3 : T.kids.length ≤ 1099511627776 := by omega
  have m4 : T.buf.length ≤ 1099511627776 := by omega
  clear hS hsz
  clear ht hp hc hb hk hlf
  show Calls Tryz.prog 75 #[.agg #[.bool lf, .slice a T.pairs.length cap, .slice a2 T.cuts.length q2, .slice a3 T.kids.length q3, .slice a4 T.buf.length q4], .int .i64 lo, .int .i64 hi] w _
  have B0 : Hid _ := bel_box w #[.bool lf, .slice a T.pairs.length cap, .slice a2 T.cuts.length q2, .slice a3 T.kids.length q3, .slice a4 T.buf.length q4]
  have S0 : Hid (OneAt _ w.heap.size _) := OneAt.start w #[.bool lf, .slice a T.pairs.length cap, .slice a2 T.cuts.length q2, .slice a3 T.kids.length q3, .slice a4 T.buf.length q4]
  cases hmo : mapOkB T.pairs
  · have E : Hid (leafOkB T lo hi = false) := leaf_no1 hmo
    go_enter Tryz.func75, Tryz.ntmps75
    go_wp2_with fail
    refine (specMapOk_any _ _ _ (R1.out.below B0.out)).mono ?_
    rintro e w1 ⟨he, hb1⟩
    rw [hmo] at he
    subst he
    have B1 : Hid (Below w.heap.size w w1) := Below.and B0.out hb1
    clear B0 S0 hb1
    go_wp2
    go_ret
    exact ⟨ret_int (leafD_no E.out).symm, B1.out⟩
  · by_cases h4 : T.pairs.length ≤ 4
    · by_cases h0 : T.cuts.length + T.kids.length + T.buf.length = 0
      · have z2 : T.cuts.length = 0 := by omega
        have z3 : T.kids.length = 0 := by omega
        have z4 : T.buf.length = 0 := by omega
        have YES : Hid ((∀ i, i < T.pairs.length → pairAt T lo hi i = true) → leafOkB T lo hi = true) := fun h => leaf_yes hmo h4 (by omega) h
        rw [z2, z3, z4] at B0 S0 ⊢
        clear z2 z3 z4 h0
        go_enter Tryz.func75, Tryz.ntmps75
        go_wp2_with fail
        refine (specMapOk_any _ _ _ (R1.out.below B0.out)).mono ?_
        rintro e w1 ⟨he, hb1⟩
        rw [hmo] at he
        subst he
        have B1 : Hid (Below w.heap.size w w1) := Below.and B0.out hb1
        have S1 : Hid (OneAt w1 w.heap.size #[.bool lf, .slice a T.pairs.length cap, .slice a2 0 q2, .slice a3 0 q3, .slice a4 0 q4]) := S0.out.step hb1
        have k0 := S1.out.cells
        clear B0 S0 hb1
        go_wp2
        go_loopw [7] (fun i wr => ∃ k : Nat, k ≤ T.pairs.length ∧ i = .int .i64 k ∧ wr = w1 ∧ Hid (∀ i, i < k → pairAt T lo hi i = true))
          (fun i _ => T.pairs.length - (intOf i).toNat)
        case atStart => exact ⟨0, Nat.zero_le _, rfl, rfl, fun i hi => absurd hi (Nat.not_lt_zero _)⟩
        case round =>
          obtain ⟨k, hkl, rfl, rfl, ALL⟩ := hrel
          by_cases hlt : k < T.pairs.length
          · have hal := ha (by omega)
            subst hal
            have d0 := (B1.out.cell (by exact cell_lt (ck k hlt))).trans (ck k hlt)
            clear ck cv ha
            cases hq : inB (kOf T.pairs k) lo (hi - 1)
            · have NO : Hid (leafOkB T lo hi = false) := leaf_no4 hlt hq
              go_wp2_with (go_at_call 76; refine (l1In_any _ _ _ _).mono ?_; rintro e w' ⟨rfl, rfl⟩)
              go_ret
              exact ⟨ret_int (leafD_no NO.out).symm, B1.out⟩
            · have YS : Hid (pairAt T lo hi k = true) := hq
              go_wp2_with (go_at_call 76; refine (l1In_any _ _ _ _).mono ?_; rintro e w' ⟨rfl, rfl⟩)
              go_roundw
              case rel => exact ⟨k + 1, by omega, by go_num, trivial, fun i hi => if h : i < k then ALL.out i h else by rw [show i = k by omega]; exact YS.out⟩
              case measure => simp [intOf]; omega
          · clear ck cv ha
            go_wp2
            go_ret
            exact ⟨ret_int (leafD_yes (YES.out (fun i hi => ALL.out i (by omega)))).symm, B1.out⟩
      · have E : Hid (leafOkB T lo hi = false) := leaf_no3 (by omega)
        have hpos : (0 : Int) < (T.cuts.length : Int) + (T.kids.length : Int) + (T.buf.length : Int) := by omega
        clear h0
        go_enter Tryz.func75, Tryz.ntmps75
        go_wp2_with fail
        refine (specMapOk_any _ _ _ (R1.out.below B0.out)).mono ?_
        rintro e w1 ⟨he, hb1⟩
        rw [hmo] at he
        subst he
        have B1 : Hid (Below w.heap.size w w1) := Below.and B0.out hb1
        have S1 : Hid (OneAt w1 w.heap.size #[.bool lf, .slice a T.pairs.length cap, .slice a2 T.cuts.length q2, .slice a3 T.kids.length q3, .slice a4 T.buf.length q4]) := S0.out.step hb1
        have k0 := S1.out.cells
        clear B0 S0 hb1
        go_wp2
        go_ret
        exact ⟨ret_int (leafD_no E.out).symm, B1.out⟩
    · have E : Hid (leafOkB T lo hi = false) := leaf_no2 h4
      have h4' : (4 : Int) < (T.pairs.length : Int) := by omega
      clear h4
      go_enter Tryz.func75, Tryz.ntmps75
      go_wp2_with fail
      refine (specMapOk_any _ _ _ (R1.out.below B0.out)).mono ?_
      rintro e w1 ⟨he, hb1⟩
      rw [hmo] at he
      subst he
      have B1 : Hid (Below w.heap.size w w1) := Below.and B0.out hb1
      have S1 : Hid (OneAt w1 w.heap.size #[.bool lf, .slice a T.pairs.length cap, .slice a2 T.cuts.length q2, .slice a3 T.kids.length q3, .slice a4 T.buf.length q4]) := S0.out.step hb1
      have k0 := S1.out.cells
      clear B0 S0 hb1
      go_wp2
      go_ret
      exact ⟨ret_int (leafD_no E.out).symm, B1.out⟩

end Go.Proofs.YtmpiijphpnjlnaaGreat

namespace Go.Proofs.YtmpiijphpnjlnaaGreat
open Go.RowKit

theorem leafD_depth {m : Nat} {T : Tr} {lo hi : Int} (h : T.leaf = true) : leafD T lo hi = (depthF (m + 1) T lo hi : Int) := by
  rw [depthF_leaf h, leafD]; split <;> rfl
theorem fork_no_shape {T : Tr} {lo hi : Int} (h : shapeB T = false) : forkOkB T lo hi = false := by simp [forkOkB, h]
theorem fork_no_buf {T : Tr} {lo hi : Int} {i : Nat} (hi' : i < T.buf.length) (h : msgAt T lo hi i = false) : forkOkB T lo hi = false := by rw [forkOkB, bufOkB, allB_false hi' h]; simp
theorem fork_no_cut {T : Tr} {lo hi : Int} {i : Nat} (hi' : i < T.cuts.length) (h : cutAt T lo hi i = false) : forkOkB T lo hi = false := by rw [forkOkB, cutsOkB, allB_false hi' h]; simp
theorem fork_yes {T : Tr} {lo hi : Int} (h1 : shapeB T = true) (h2 : ∀ i, i < T.buf.length → msgAt T lo hi i = true) (h3 : ∀ i, i < T.cuts.length → cutAt T lo hi i = true) : forkOkB T lo hi = true := by
  rw [forkOkB, h1, bufOkB, allB_true h2, cutsOkB, allB_true h3]; rfl
theorem shape_no1 {T : Tr} (h : ¬ T.pairs.length = 0) : shapeB T = false := by rw [shapeB, decide_eq_false h]; rfl
theorem shape_no2 {T : Tr} (h : inB (T.kids.length : Int) 2 4 = false) : shapeB T = false := by
  have : ¬ (2 ≤ T.kids.length ∧ T.kids.length ≤ 4) := by
    intro hc
    rw [inB_true (by omega) (by omega)] at h
    cases h
  rw [shapeB, decide_eq_false this]; simp
theorem shape_no3 {T : Tr} (h : ¬ T.cuts.length + 1 = T.kids.length) : shapeB T = false := by rw [shapeB, decide_eq_false h]; simp
theorem shape_no4 {T : Tr} (h : ¬ T.buf.length ≤ 6) : shapeB T = false := by rw [shapeB, decide_eq_false h]; simp
theorem shape_yes {T : Tr} (h1 : T.pairs.length = 0) (h2 : inB (T.kids.length : Int) 2 4 = true) (h3 : T.cuts.length + 1 = T.kids.length) (h4 : T.buf.length ≤ 6) : shapeB T = true := by
  have h2' := inB_iff.1 h2
  rw [shapeB, decide_eq_true h1, decide_eq_true (p := 2 ≤ T.kids.length ∧ T.kids.length ≤ 4) (by omega), decide_eq_true h3, decide_eq_true h4]; rfl

/-- WHAT l2Depth DOES, at most m deep. -/
def L2Depth (m : Nat) : Prop := ∀ (n : Nat) (x : TV) (T : Tr) (lo hi : Int) (w : World), TreeAt n w x T → sizeT n T ≤ 1099511627776 → 0 ≤ lo → lo ≤ 1000 → 0 ≤ hi → hi ≤ 1000 →
    Calls Tryz.prog 52 #[x.val, .int .i64 lo, .int .i64 hi, .int .i64 m] w fun e w' => e = .returned (.int .i64 (depthF m T lo hi : Nat)) ∧ Below w.heap.size w w'

set_option maxHeartbeats 400000 in
set_option maxRecDepth 100000 in
theorem l2Depth_zero : L2Depth 0 := by
  intro n x T lo hi w ht _ _ _ _ _
  have E : depthF 0 T lo hi = 0 := rfl
  rw [E]
  show Calls Tryz.prog 52 #[.agg #[.bool x.lf, x.p, x.c, x.k, x.b], .int .i64 lo, .int .i64 hi, .int .i64 0] w _
  go_enter Tryz.func52, Tryz.ntmps52
  go_wp2
  go_ret
  exact ⟨rfl, (Below.refl _ _).alloc (Nat.le_refl _) _⟩

set_option maxHeartbeats 400000 in
theorem l2Depth_leaf {m : Nat} (hm : m ≤ 1000) (n : Nat) (x : TV) (T : Tr) (lo hi : Int) (w : World) (ht : TreeAt n w x T) (hlf : T.leaf = true) (hsz : sizeT n T ≤ 1099511627776) (hh0 : 0 ≤ hi) (hh1 : hi ≤ 1000) :
    Calls Tryz.prog 52 #[x.val, .int .i64 lo, .int .i64 hi, .int .i64 ((m + 1 : Nat) : Int)] w fun e w' => e = .returned (.int .i64 (depthF (m + 1) T lo hi : Nat)) ∧ Below w.heap.size w w' := by
  have E : Hid (leafD T lo hi = (depthF (m + 1) T lo hi : Int)) := leafD_depth hlf
  have hlx : x.lf = true := by
    cases n with
    | zero => exact ht.elim
    | succ n => exact ht.parts.1.trans hlf
  have TT : Hid (TreeAt n w x T) := ht
  generalize depthF (m + 1) T lo hi = d at *
  have hne : (((m + 1 : Nat) : Int) == 0) = false := by rw [beq_eq_false_iff_ne]; omega
  obtain ⟨lf, p, c, k, b⟩ := x
  simp only at hlx
  subst hlx
  have B0 : Hid _ := bel_box w #[.bool true, p, c, k, b]
  clear ht
  show Calls Tryz.prog 52 #[.agg #[.bool true, p, c, k, b], .int .i64 lo, .int .i64 hi, .int .i64 ((m + 1 : Nat) : Int)] w _
  go_enter Tryz.func52, Tryz.ntmps52
  go_wp2_with fail
  refine (l2Leaf_any n ⟨true, p, c, k, b⟩ T lo hi _ (TT.out.below B0.out) hsz hh0 hh1).mono ?_
  rintro e w1 ⟨he, hb1⟩
  rw [E.out] at he
  subst he
  have B1 : Hid (Below w.heap.size w w1) := Below.and B0.out hb1
  clear hb1 B0
  go_wp2
  go_ret
  exact ⟨rfl, B1.out⟩

theorem fromT_succ {T : Tr} {lo hi : Int} {k : Nat} (h : k < T.cuts.length) : toT T hi k = fromT T lo (k + 1) := by
  simp [toT, fromT, h]

set_option maxHeartbeats 4000000 in
set_option maxRecDepth 100000 in
theorem l2Depth_fork {m : Nat} (hm : m ≤ 1000) (H : L2Depth m) (n : Nat) (x : TV) (T : Tr) (lo hi : Int) (w : World) (ht : TreeAt n w x T) (hlf : T.leaf = false) (hsz : sizeT n T ≤ 1099511627776) (hl0 : 0 ≤ lo) (hl1 : lo ≤ 1000) (hh0 : 0 ≤ hi) (hh1 : hi ≤ 1000) :
    Calls Tryz.prog 52 #[x.val, .int .i64 lo, .int .i64 hi, .int .i64 ((m + 1 : Nat) : Int)] w fun e w' => e = .returned (.int .i64 (depthF (m + 1) T lo hi : Nat)) ∧ Below w.heap.size w w' := by
  cases n with
  | zero => exact ht.elim
  | succ n =>
  obtain ⟨lf, p, c, k, b⟩ := x
  obtain ⟨hlx, hp, hc, hb, hk⟩ := ht.parts
  simp only at hlx hp hc hb hk
  rw [hlf] at hlx
  subst hlx
  have NO : Hid (forkOkB T lo hi = false → depthF (m + 1) T lo hi = 0) := depthF_no hlf
  have YES : Hid (forkOkB T lo hi = true → depthF (m + 1) T lo hi = kidsD (kidF m T lo hi) T.kids.length) := depthF_fork hlf
  generalize depthF (m + 1) T lo hi = D at *
  obtain ⟨a1, q1, rfl, _⟩ := hp.len
  obtain ⟨a2, b2, off2, q2, rfl, hcap2, hmax2, ha2, cc⟩ := hc.ints
  obtain ⟨xs, hxl, hrow, hkt⟩ := hk
  obtain ⟨a3, b3, off3, q3, he3, hcap3, hmax3, ha3, c0, c1, c2, c3, c4⟩ := hrow.trees
  rw [hxl] at he3 hcap3 ha3 c0 c1 c2 c3 c4 hkt
  subst he3
  obtain ⟨a4, b4, off4, q4, rfl, hcap4, hmax4, ha4, go, gk, gv⟩ := hb.msgs
  have hS : sizeT (n + 1) T = T.pairs.length + (T.cuts.length + (T.kids.length + (T.kids.map (sizeT n)).sum + T.buf.length)) := rfl
  have KSZ : Hid (∀ i, i < T.kids.length → sizeT n (kidT T i) ≤ 1099511627776) := fun i hi => by have := sizeT_kid (n := n) hi; omega
  have m1 : T.pairs.length ≤ 1099511627776 := by omega
  have m2 : T.cuts.length ≤ 1099511627776 := by omega
  have m3 : T.kids.length ≤ 1099511627776 := by omega
  have m4 : T.buf.length ≤ 1099511627776 := by omega
  unfold maxLen at hmax2 hmax3 hmax4
  clear hS hsz hp hc hb hrow ht
  have KT : Hid (∀ i, i < T.kids.length → TreeAt n w (tvAt xs i) (kidT T i)) := hkt
  have HH : Hid (L2Depth m) := H
  clear H hkt hxl hlf
  generalize g1 : T.pairs.length = n1 at *
  generalize g2 : T.cuts.length = n2 at *
  generalize g3 : T.kids.length = n3 at *
  generalize g4 : T.buf.length = n4 at *
  generalize gM : ((m + 1 : Nat) : Int) = M
  have G1 : Hid (T.pairs.length = n1) := g1
  have G2 : Hid (T.cuts.length = n2) := g2
  have G3 : Hid (T.kids.length = n3) := g3
  have G4 : Hid (T.buf.length = n4) := g4
  have hne : (M == 0) = false := by rw [beq_eq_false_iff_ne]; omega
  have hM0 : 0 < M := by omega
  have hM1 : M ≤ 1001 := by omega
  have MM : Hid (M - 1 = (m : Int)) := by show _ = _; omega
  clear g1 g2 g3 g4 gM
  show Calls Tryz.prog 52 #[.agg #[.bool false, .slice a1 n1 q1, .slice a2 n2 q2, .slice a3 n3 q3, .slice a4 n4 q4], .int .i64 lo, .int .i64 hi, .int .i64 M] w _
  have B0 : Hid _ := bel_box w #[.bool false, .slice a1 n1 q1, .slice a2 n2 q2, .slice a3 n3 q3, .slice a4 n4 q4]
  have S0 : Hid (OneAt _ w.heap.size _) := OneAt.start w #[.bool false, .slice a1 n1 q1, .slice a2 n2 q2, .slice a3 n3 q3, .slice a4 n4 q4]
  by_cases hp0 : n1 = 0
  case neg =>
    have E := NO.out (fork_no_shape (shape_no1 (by rw [G1.out]; exact hp0)))
    have hp1 : (0 : Int) < (n1 : Int) := by omega
    subst E
    clear NO YES KT KSZ ha2 cc ha3 c0 c1 c2 c3 c4 ha4 go gk gv S0 hp0
    go_enter Tryz.func52, Tryz.ntmps52
    go_wp2
    go_ret
    exact ⟨ret_int (by simp), B0.out⟩
  case pos =>
  subst hp0
  cases hin : inB (n3 : Int) 2 4
  · have E := NO.out (fork_no_shape (shape_no2 (by rw [G3.out]; exact hin)))
    subst E
    clear NO YES KT KSZ ha2 cc ha3 c0 c1 c2 c3 c4 ha4 go gk gv S0
    go_enter Tryz.func52, Tryz.ntmps52
    go_wp2_with (go_at_call 76; refine (l1In_any _ _ _ _).mono ?_; rintro e w' ⟨rfl, rfl⟩)
    go_ret
    exact ⟨ret_int (by simp), B0.out⟩
  by_cases hcl : n2 + 1 = n3
  case neg =>
    have E := NO.out (fork_no_shape (shape_no3 (by rw [G2.out, G3.out]; exact hcl)))
    have hcl1 : ((n2 : Int) != (n3 : Int) - 1) = true := by rw [bne_iff_ne]; omega
    subst E
    clear NO YES KT KSZ ha2 cc ha3 c0 c1 c2 c3 c4 ha4 go gk gv S0 hcl
    go_enter Tryz.func52, Tryz.ntmps52
    go_wp2_with (go_at_call 76; refine (l1In_any _ _ _ _).mono ?_; rintro e w' ⟨rfl, rfl⟩)
    go_ret
    exact ⟨ret_int (by simp), B0.out⟩
  case pos =>
  have hcl1 : ((n2 : Int) != (n3 : Int) - 1) = false := by rw [bne_eq_false_iff_eq]; omega
  by_cases hb6 : n4 ≤ 6
  case neg =>
    have E := NO.out (fork_no_shape (shape_no4 (by rw [G4.out]; exact hb6)))
    have hb61 : (6 : Int) < (n4 : Int) := by omega
    subst E
    clear NO YES KT KSZ ha2 cc ha3 c0 c1 c2 c3 c4 ha4 go gk gv S0 hcl hb6
    go_enter Tryz.func52, Tryz.ntmps52
    go_wp2_with (go_at_call 76; refine (l1In_any _ _ _ _).mono ?_; rintro e w' ⟨rfl, rfl⟩)
    go_ret
    exact ⟨ret_int (by simp), B0.out⟩
  case pos =>
  have SH : Hid (shapeB T = true) := shape_yes G1.out (by rw [G3.out]; exact hin) (by rw [G2.out, G3.out]; exact hcl) (by rw [G4.out]; exact hb6)
  have hb61 : ¬ (6 : Int) < (n4 : Int) := by omega
  have CL : Hid (n2 + 1 = n3) := hcl
  have C0 : Hid (∀ i, i < n3 → w.cell? ⟨b3, off3 + i * 5, none⟩ = some (.bool (tvAt xs i).lf)) := c0
  have C1 : Hid (∀ i, i < n3 → w.cell? ⟨b3, off3 + i * 5 + 1, none⟩ = some (tvAt xs i).p) := c1
  have C2 : Hid (∀ i, i < n3 → w.cell? ⟨b3, off3 + i * 5 + 2, none⟩ = some (tvAt xs i).c) := c2
  have C3 : Hid (∀ i, i < n3 → w.cell? ⟨b3, off3 + i * 5 + 3, none⟩ = some (tvAt xs i).k) := c3
  have C4 : Hid (∀ i, i < n3 → w.cell? ⟨b3, off3 + i * 5 + 4, none⟩ = some (tvAt xs i).b) := c4
  have CC : Hid (∀ i, i < n2 → w.cell? ⟨b2, off2 + i, none⟩ = some (.int .i64 (iAt T.cuts i))) := cc
  have GO : Hid (∀ i, i < n4 → w.cell? ⟨b4, off4 + i * 3, none⟩ = some (.int .i64 (mO T.buf i))) := go
  have GK : Hid (∀ i, i < n4 → w.cell? ⟨b4, off4 + i * 3 + 1, none⟩ = some (.int .i64 (mK T.buf i))) := gk
  have GV : Hid (∀ i, i < n4 → w.cell? ⟨b4, off4 + i * 3 + 2, none⟩ = some (.int .i64 (mV T.buf i))) := gv
  have A2 : Hid (0 < n2 → a2 = some ⟨b2, off2, none⟩) := ha2
  have A3 : Hid (0 < n3 → a3 = some ⟨b3, off3, none⟩) := ha3
  have A4 : Hid (0 < n4 → a4 = some ⟨b4, off4, none⟩) := ha4
  clear hcl c0 c1 c2 c3 c4 cc go gk gv ha2 ha3 ha4
  go_enter Tryz.func52, Tryz.ntmps52
  go_wp2_with (go_at_call 76; refine (l1In_any _ _ _ _).mono ?_; rintro e w' ⟨rfl, rfl⟩)
  go_loopw [10] (fun i wr => ∃ k : Nat, k ≤ n4 ∧ i = .int .i64 k ∧ Hid (∀ i, i < k → msgAt T lo hi i = true) ∧ Hid (Below w.heap.size w wr) ∧ Hid (OneAt wr w.heap.size #[.bool false, .slice a1 0 q1, .slice a2 n2 q2, .slice a3 n3 q3, .slice a4 n4 q4]))
    (fun i _ => n4 - (intOf i).toNat)
  case atStart => exact ⟨0, Nat.zero_le _, rfl, fun i hi => absurd hi (Nat.not_lt_zero _), B0.out, S0.out⟩
  case round =>
    obtain ⟨k, hkl, rfl, ALL, BB, SS⟩ := hrel
    clear B0 S0
    have k0 := SS.out.cells
    by_cases hlt : k < n4
    · have hal := A4.out (by omega)
      subst hal
      have e0 := (BB.out.cell (by exact cell_lt (GO.out k hlt))).trans (GO.out k hlt)
      have e1 := (BB.out.cell (by exact cell_lt (GK.out k hlt))).trans (GK.out k hlt)
      have e2 := (BB.out.cell (by exact cell_lt (GV.out k hlt))).trans (GV.out k hlt)
      cases hmo : msgOkB (mO T.buf k) (mK T.buf k) (mV T.buf k)
      · have E := NO.out (fork_no_buf (i := k) (by rw [G4.out]; exact hlt) (by rw [msgAt, hmo]; rfl))
        subst E
        go_wp2_with fail
        refine (specMsgOk_any _ _ _ _).mono ?_
        rintro e w1 ⟨he, hb1⟩
        rw [hmo] at he
        subst he
        have B1 : Hid (Below w.heap.size w w1) := Below.and BB.out hb1
        clear hb1
        go_wp2
        go_ret
        exact ⟨ret_int (by simp), B1.out⟩
      · cases ho : (mO T.buf k == 4)
        · cases hq : inB (mK T.buf k) lo (hi - 1)
          · have E := NO.out (fork_no_buf (i := k) (by rw [G4.out]; exact hlt) (by rw [msgAt, hq]; simp))
            subst E
            go_wp2_with fail
            refine (specMsgOk_any _ _ _ _).mono ?_
            rintro e w1 ⟨he, hb1⟩
            rw [hmo] at he
            subst he
            have B1 : Hid (Below w.heap.size w w1) := Below.and BB.out hb1
            have f0 := (hb1.cell (by exact cell_lt e0)).trans e0
            have f1 := (hb1.cell (by exact cell_lt e1)).trans e1
            have f2 := (hb1.cell (by exact cell_lt e2)).trans e2
            have k1 := (SS.out.step hb1).cells
            clear hb1
            go_wp2_with (go_at_call 76; refine (l1In_any _ _ _ _).mono ?_; rintro e w' ⟨rfl, rfl⟩)
            go_ret
            exact ⟨ret_int (by simp), B1.out⟩
          · have OK : Hid (msgAt T lo hi k = true) := by
              show _ = _
              rw [msgAt, hmo, ho, hq]; rfl
            go_wp2_with fail
            refine (specMsgOk_any _ _ _ _).mono ?_
            rintro e w1 ⟨he, hb1⟩
            rw [hmo] at he
            subst he
            have B1 : Hid (Below w.heap.size w w1) := Below.and BB.out hb1
            have f0 := (hb1.cell (by exact cell_lt e0)).trans e0
            have f1 := (hb1.cell (by exact cell_lt e1)).trans e1
            have f2 := (hb1.cell (by exact cell_lt e2)).trans e2
            have S1 : Hid (OneAt w1 w.heap.size #[.bool false, .slice a1 0 q1, .slice a2 n2 q2, .slice a3 n3 q3, .slice (some ⟨b4, off4, none⟩) n4 q4]) := SS.out.step hb1
            have k1 := S1.out.cells
            clear hb1
            go_wp2_with (go_at_call 76; refine (l1In_any _ _ _ _).mono ?_; rintro e w' ⟨rfl, rfl⟩)
            go_roundw
            case rel => exact ⟨k + 1, by omega, by go_num, fun i hi => if h : i < k then ALL.out i h else by rw [show i = k by omega]; exact OK.out, B1, S1⟩
            case measure => simp [intOf]; omega
        · have E := NO.out (fork_no_buf (i := k) (by rw [G4.out]; exact hlt) (by rw [msgAt, ho]; simp))
          subst E
          go_wp2_with fail
          refine (specMsgOk_any _ _ _ _).mono ?_
          rintro e w1 ⟨he, hb1⟩
          rw [hmo] at he
          subst he
          have B1 : Hid (Below w.heap.size w w1) := Below.and BB.out hb1
          have f0 := (hb1.cell (by exact cell_lt e0)).trans e0
          have f1 := (hb1.cell (by exact cell_lt e1)).trans e1
          have f2 := (hb1.cell (by exact cell_lt e2)).trans e2
          have k1 := (SS.out.step hb1).cells
          clear hb1
          go_wp2
          go_ret
          exact ⟨ret_int (by simp), B1.out⟩
    · have BUF : Hid (∀ i, i < T.buf.length → msgAt T lo hi i = true) := fun i hi => ALL.out i (by rw [G4.out] at hi; omega)
      have ZERO : Hid (kidsD (kidF m T lo hi) n3 = 0 → D = 0) := fun h => by
        cases hf : forkOkB T lo hi
        · exact NO.out hf
        · rw [YES.out hf]; exact h
      clear GO GK GV A4 ALL
      go_wp2
      clear hlt hkl
      go_loopw [11, 12, 13] (fun dp fr i wr => ∃ (k d : Nat) (y : Int), k ≤ n3 ∧ i = .int .i64 k ∧ dp = .int .i64 d ∧ fr = .int .i64 y ∧ 0 ≤ y ∧ y ≤ 1000 ∧ d ≤ 1000 ∧ Hid (k < n3 → y = fromT T lo k) ∧
          Hid ((0 < k → d = kidF m T lo hi 0 ∧ d ≠ 0) ∧ (∀ i, i < k → kidF m T lo hi i = kidF m T lo hi 0) ∧ (∀ i, i < k → i < n2 → cutAt T lo hi i = true)) ∧ Hid (Below w.heap.size w wr) ∧ Hid (OneAt wr w.heap.size #[.bool false, .slice a1 0 q1, .slice a2 n2 q2, .slice a3 n3 q3, .slice a4 n4 q4]))
        (fun _ _ i _ => n3 - (intOf i).toNat)
      case atStart => exact ⟨0, 0, lo, Nat.zero_le _, rfl, rfl, rfl, hl0, hl1, by omega, fun _ => rfl, ⟨fun h => absurd h (Nat.lt_irrefl _), fun i hi => absurd hi (Nat.not_lt_zero _), fun i hi => absurd hi (Nat.not_lt_zero _)⟩, BB, SS⟩
      case round =>
      clear BB SS k0
      obtain ⟨k, d, y, hkl, rfl, rfl, rfl, hy0, hy1, hd, YF, INV, BB, SS⟩ := hrel
      have k0 := SS.out.cells
      by_cases hlt : k < n3
      · have hal := A3.out (by omega)
        subst hal
        have e0 := (BB.out.cell (by exact cell_lt (C0.out k hlt))).trans (C0.out k hlt)
        have e1 := (BB.out.cell (by exact cell_lt (C1.out k hlt))).trans (C1.out k hlt)
        have e2 := (BB.out.cell (by exact cell_lt (C2.out k hlt))).trans (C2.out k hlt)
        have e3 := (BB.out.cell (by exact cell_lt (C3.out k hlt))).trans (C3.out k hlt)
        have e4 := (BB.out.cell (by exact cell_lt (C4.out k hlt))).trans (C4.out k hlt)
        have T0 : Hid (TreeAt n wr (tvAt xs k) (kidT T k)) := (KT.out k hlt).below BB.out
        have TS : Hid (sizeT n (kidT T k) ≤ 1099511627776) := KSZ.out k hlt
        have Y0 : Hid (y = fromT T lo k) := YF.out hlt
        obtain ⟨z, hz⟩ : ∃ z, kidF m T lo hi k = z := ⟨_, rfl⟩
        have ZE : Hid (kidF m T lo hi k = z) := hz
        clear hz
        by_cases hlast : k < n2
        · have hl3 : (k : Int) < (n3 : Int) - 1 := by have := CL.out; omega
          have hal2 := A2.out (by omega)
          subst hal2
          have ec := (BB.out.cell (by exact cell_lt (CC.out k hlast))).trans (CC.out k hlast)
          cases hcut : inB (iAt T.cuts k) (y + 1) (hi - 1)
          · have E := NO.out (fork_no_cut (i := k) (by rw [G2.out]; exact hlast) (by rw [cutAt, ← Y0.out]; exact hcut))
            subst E
            clear T0 e0 e1 e2 e3 e4
            go_wp2_with (go_at_call 76; refine (l1In_any _ _ _ _).mono ?_; rintro e w' ⟨rfl, rfl⟩)
            go_ret
            exact ⟨ret_int (by simp), BB.out⟩
          · have hc2 := inB_iff.1 hcut
            obtain ⟨TO, hTO⟩ : ∃ TO, iAt T.cuts k = TO := ⟨_, rfl⟩
            have TO0 : 0 ≤ TO := by omega
            have TO1 : TO ≤ 1000 := by omega
            have TOE : Hid (toT T hi k = TO) := by
              show _ = _
              rw [toT, if_pos (by rw [G2.out]; exact hlast), hTO]
            have NX : Hid (k + 1 < n3 → TO = fromT T lo (k + 1)) := fun _ => by rw [← TOE.out]; exact fromT_succ (by rw [G2.out]; exact hlast)
            have CU : ∀ i, i < k + 1 → i < n2 → cutAt T lo hi i = true := fun i hi h2 => if h : i < k then INV.out.2.2 i h h2 else by rw [show i = k by omega, cutAt, ← Y0.out]; exact hcut
            rw [hTO] at ec hcut
            have EE : Hid (depthF m (kidT T k) y TO = z) := by
              show _ = _
              rw [← ZE.out, kidF, ← Y0.out, TOE.out]
            have HC := HH.out n (tvAt xs k) (kidT T k) y TO wr T0.out TS.out hy0 hy1 TO0 TO1
            rw [← MM.out] at HC
            have HC' : Hid _ := HC
            have CU' : Hid (∀ i, i < k + 1 → i < n2 → cutAt T lo hi i = true) := CU
            clear HC CU hc2
            go_wp2_with (go_at_call 76; refine (l1In_any _ _ _ _).mono ?_; rintro e w' ⟨rfl, rfl⟩)
            refine Calls.mono HC'.out ?_
            rintro e w1 ⟨he, hb1⟩
            rw [EE.out] at he
            subst he
            have B1 : Hid (Below w.heap.size w w1) := Below.and BB.out hb1
            have S1 : Hid (OneAt w1 w.heap.size _) := SS.out.step hb1
            have k1 := S1.out.cells
            have ZL : z ≤ 1000 := by
              have := depthF_le m (kidT T k) (fromT T lo k) (toT T hi k)
              have h2 := ZE.out
              unfold kidF at h2
              omega
            clear hb1 T0 e0 e1 e2 e3 e4
            by_cases hz : z = 0
            · have E := ZERO.out (kidsD_zero (i := k) hlt (by rw [ZE.out]; exact hz))
              subst E
              subst hz
              go_wp2
              go_ret
              exact ⟨ret_int (by simp), B1.out⟩
            · have hz1 : ((z : Int) == 0) = false := by rw [beq_eq_false_iff_ne]; omega
              cases k with
              | zero =>
                go_wp2
                go_roundw
                case rel => exact ⟨1, z, TO, by omega, by go_num, rfl, rfl, TO0, TO1, ZL, NX, ⟨fun _ => ⟨ZE.out.symm, hz⟩, fun i hi => by rw [show i = 0 by omega], CU'.out⟩, B1, S1⟩
                case measure => simp [intOf]; omega
              | succ k =>
                have hpos : (0 : Int) < ((k + 1 : Nat) : Int) := by omega
                have HD0 : Hid (d = kidF m T lo hi 0) := (INV.out.1 (by omega)).1
                by_cases hzd : z = d
                · have hzd1 : ((z : Int) != (d : Int)) = false := by rw [bne_eq_false_iff_eq]; omega
                  have HZ : Hid (z = d) := hzd
                  clear hzd
                  go_wp2
                  go_roundw
                  case rel => exact ⟨k + 1 + 1, z, TO, by omega, by go_num, rfl, rfl, TO0, TO1, ZL, NX, ⟨fun _ => ⟨by rw [HZ.out]; exact HD0.out, hz⟩, fun i hi => if h : i < k + 1 then INV.out.2.1 i h else by rw [show i = k + 1 by omega, ZE.out, HZ.out]; exact HD0.out, CU'.out⟩, B1, S1⟩
                  case measure => simp [intOf]; omega
                · have hzd1 : ((z : Int) != (d : Int)) = true := by rw [bne_iff_ne]; omega
                  have E := ZERO.out (kidsD_ne (i := k + 1) hlt (by rw [ZE.out, ← HD0.out]; exact hzd))
                  subst E
                  go_wp2
                  go_ret
                  exact ⟨ret_int (by simp), B1.out⟩
        · have hl3 : ¬ (k : Int) < (n3 : Int) - 1 := by have := CL.out; omega
          obtain ⟨TO, hTO⟩ : ∃ TO, hi = TO := ⟨_, rfl⟩
          have TO0 : 0 ≤ TO := by omega
          have TO1 : TO ≤ 1000 := by omega
          have TOE : Hid (toT T hi k = TO) := by
            show _ = _
            rw [toT, if_neg (by rw [G2.out]; exact hlast), hTO]
          have NX : Hid (k + 1 < n3 → TO = fromT T lo (k + 1)) := fun h => absurd h (by have := CL.out; omega)
          have CU' : Hid (∀ i, i < k + 1 → i < n2 → cutAt T lo hi i = true) := fun i hi h2 => if h : i < k then INV.out.2.2 i h h2 else absurd h2 (by omega)
          have EE : Hid (depthF m (kidT T k) y TO = z) := by
            show _ = _
            rw [← ZE.out, kidF, ← Y0.out, TOE.out]
          have HC := HH.out n (tvAt xs k) (kidT T k) y TO wr T0.out TS.out hy0 hy1 TO0 TO1
          rw [← MM.out] at HC
          have HC' : Hid _ := HC
          clear HC
          rw [← hTO] at HC' EE TO0 TO1 NX TOE
          clear hTO
          go_wp2_with fail
          refine Calls.mono HC'.out ?_
          rintro e w1 ⟨he, hb1⟩
          rw [EE.out] at he
          subst he
          have B1 : Hid (Below w.heap.size w w1) := Below.and BB.out hb1
          have S1 : Hid (OneAt w1 w.heap.size _) := SS.out.step hb1
          have k1 := S1.out.cells
          have ZL : z ≤ 1000 := by
            have := depthF_le m (kidT T k) (fromT T lo k) (toT T hi k)
            have h2 := ZE.out
            unfold kidF at h2
            omega
          clear hb1 T0 e0 e1 e2 e3 e4
          by_cases hz : z = 0
          · have E := ZERO.out (kidsD_zero (i := k) hlt (by rw [ZE.out]; exact hz))
            subst E
            subst hz
            go_wp2
            go_ret
            exact ⟨ret_int (by simp), B1.out⟩
          · have hz1 : ((z : Int) == 0) = false := by rw [beq_eq_false_iff_ne]; omega
            cases k with
            | zero =>
              go_wp2
              go_roundw
              case rel => exact ⟨1, z, hi, by omega, by go_num, rfl, rfl, TO0, TO1, ZL, NX, ⟨fun _ => ⟨ZE.out.symm, hz⟩, fun i hi => by rw [show i = 0 by omega], CU'.out⟩, B1, S1⟩
              case measure => simp [intOf]; omega
            | succ k =>
              have hpos : (0 : Int) < ((k + 1 : Nat) : Int) := by omega
              have HD0 : Hid (d = kidF m T lo hi 0) := (INV.out.1 (by omega)).1
              by_cases hzd : z = d
              · have hzd1 : ((z : Int) != (d : Int)) = false := by rw [bne_eq_false_iff_eq]; omega
                have HZ : Hid (z = d) := hzd
                clear hzd
                go_wp2
                go_roundw
                case rel => exact ⟨k + 1 + 1, z, hi, by omega, by go_num, rfl, rfl, TO0, TO1, ZL, NX, ⟨fun _ => ⟨by rw [HZ.out]; exact HD0.out, hz⟩, fun i hi => if h : i < k + 1 then INV.out.2.1 i h else by rw [show i = k + 1 by omega, ZE.out, HZ.out]; exact HD0.out, CU'.out⟩, B1, S1⟩
                case measure => simp [intOf]; omega
              · have hzd1 : ((z : Int) != (d : Int)) = true := by rw [bne_iff_ne]; omega
                have E := ZERO.out (kidsD_ne (i := k + 1) hlt (by rw [ZE.out, ← HD0.out]; exact hzd))
                subst E
                go_wp2
                go_ret
                exact ⟨ret_int (by simp), B1.out⟩
      · have hkk : k = n3 := by omega
        have hk0 : 0 < k := by have := CL.out; omega
        obtain ⟨hd0, hd1⟩ := INV.out.1 hk0
        have E : Hid (D = d + 1) := by
          show _ = _
          rw [YES.out (fork_yes SH.out BUF.out (fun i hi => INV.out.2.2 i (by have := CL.out; rw [G2.out] at hi; omega) (by rw [G2.out] at hi; exact hi))), kidsD_yes (by rw [← hd0]; exact hd1) (fun i hi => INV.out.2.1 i (by omega)), hd0]
        clear hd0 hd1
        go_wp2
        go_ret
        exact ⟨ret_int (by rw [E.out]; omega), BB.out⟩

theorem l2Depth_any : ∀ m, m ≤ 1000 → L2Depth m
  | 0, _ => l2Depth_zero
  | m + 1, hm => fun n x T lo hi w ht hsz hl0 hl1 hh0 hh1 => by
    cases hlf : T.leaf
    · exact l2Depth_fork (by omega) (l2Depth_any m (by omega)) n x T lo hi w ht hlf hsz hl0 hl1 hh0 hh1
    · exact l2Depth_leaf (by omega) n x T lo hi w ht hlf hsz hh0 hh1

end Go.Proofs.YtmpiijphpnjlnaaGreat

namespace Go.Proofs.YtmpiijphpnjlnaaGreat
open Go.RowKit

set_option maxHeartbeats 400000 in
theorem specTreeDepth_any (n : Nat) (x : TV) (T : Tr) (w : World) (ht : TreeAt n w x T) (hsz : sizeT n T ≤ 1099511627776) :
    Calls Tryz.prog 32 #[x.val] w fun e w' => e = .returned (.int .i64 (depthT T : Nat)) ∧ Below w.heap.size w w' := by
  have TT : Hid (TreeAt n w x T) := ht
  clear ht
  obtain ⟨lf, p, c, k, b⟩ := x
  have B0 : Hid _ := bel_box w #[.bool lf, p, c, k, b]
  have HC := l2Depth_any 7 (by omega) n ⟨lf, p, c, k, b⟩ T 0 1000 _ (TT.out.below B0.out) hsz (by omega) (by omega) (by omega) (by omega)
  have HC' : Hid _ := HC
  clear HC
  show Calls Tryz.prog 32 #[.agg #[.bool lf, p, c, k, b]] w _
  unfold depthT
  generalize depthF 7 T 0 1000 = d at *
  go_enter Tryz.func32, Tryz.ntmps32
  go_wp2_with fail
  refine Calls.mono HC'.out ?_
  rintro e w1 ⟨rfl, hb1⟩
  have B1 : Hid (Below w.heap.size w w1) := Below.and B0.out hb1
  clear hb1 B0
  go_wp2
  go_ret
  exact ⟨rfl, B1.out⟩

set_option maxHeartbeats 400000 in
theorem specTreeOk_any (n : Nat) (x : TV) (T : Tr) (w : World) (ht : TreeAt n w x T) (hsz : sizeT n T ≤ 1099511627776) :
    Calls Tryz.prog 14 #[x.val] w fun e w' => e = .returned (.bool (okT T)) ∧ Below w.heap.size w w' := by
  have TT : Hid (TreeAt n w x T) := ht
  clear ht
  obtain ⟨lf, p, c, k, b⟩ := x
  have B0 : Hid _ := bel_box w #[.bool lf, p, c, k, b]
  have HC := specTreeDepth_any n ⟨lf, p, c, k, b⟩ T _ (TT.out.below B0.out) hsz
  have HC' : Hid _ := HC
  clear HC
  show Calls Tryz.prog 14 #[.agg #[.bool lf, p, c, k, b]] w _
  unfold okT
  generalize depthT T = d at *
  go_enter Tryz.func14, Tryz.ntmps14
  go_wp2_with fail
  refine Calls.mono HC'.out ?_
  rintro e w1 ⟨rfl, hb1⟩
  have B1 : Hid (Below w.heap.size w w1) := Below.and B0.out hb1
  clear hb1 B0
  go_wp2
  go_ret
  exact ⟨rfl, B1.out⟩

/-- WHAT COUNTS A TREE, as the function g does. -/
def CountIs (g : FuncId) (n : Nat) : Prop := ∀ (x : TV) (T : Tr) (w : World), TreeAt n w x T → sizeT n T ≤ 1099511627776 →
    Calls Tryz.prog g #[x.val] w fun e w' => e = .returned (.tuple #[.int .i64 (pairsF n T : Nat), .int .i64 (msgsF n T : Nat)]) ∧ Below w.heap.size w w'

theorem ret_ints {a b c d : Int} (h : a = c) (h2 : b = d) : Ending.returned (.tuple #[.int .i64 a, .int .i64 b]) = .returned (.tuple #[.int .i64 c, .int .i64 d]) := by rw [h, h2]

end Go.Proofs.YtmpiijphpnjlnaaGreat

namespace Go.Proofs.YtmpiijphpnjlnaaGreat
open Go.RowKit

/-- how many of the first cuts are at most k, up to the first that is not -/
def prefK (l : List Int) (k : Int) : Nat := (l.takeWhile fun c => decide (c ≤ k)).length
theorem prefK_at {l : List Int} {k : Int} {n : Nat} (hn : n ≤ l.length) (h : ∀ i, i < n → iAt l i ≤ k) (h2 : n < l.length → ¬ iAt l n ≤ k) : prefK l k = n := by
  induction l generalizing n with
  | nil => simp at hn; subst hn; rfl
  | cons a l ih =>
    cases n with
    | zero =>
      have := h2 (by simp)
      simp only [iAt, List.getD_cons_zero] at this
      simp [prefK, this]
    | succ n =>
      have ha := h 0 (by omega)
      simp only [iAt, List.getD_cons_zero] at ha
      have := ih (n := n) (by simpa using hn) (fun i hi => by simpa [iAt] using h (i + 1) (by omega)) (fun hl => by simpa [iAt] using h2 (by simpa using hl))
      simp only [prefK] at this ⊢
      rw [List.takeWhile_cons_of_pos (by simpa using ha), List.length_cons, this]
theorem prefK_le (l : List Int) (k : Int) : prefK l k ≤ l.length := by
  unfold prefK
  exact (List.takeWhile_sublist _).length_le

set_option maxHeartbeats 1000000 in
theorem l2Kid_any (n : Nat) (x : TV) (T : Tr) (x0 : Int) (w : World) (ht : TreeAt n w x T) :
    Calls Tryz.prog 26 #[x.val, .int .i64 x0] w fun e w' => e = .returned (.int .i64 (prefK T.cuts x0 : Nat)) ∧ Below w.heap.size w w' := by
  cases n with
  | zero => exact ht.elim
  | succ n =>
  obtain ⟨lf, p, c, k, b⟩ := x
  obtain ⟨-, -, hc, -, -⟩ := ht.parts
  simp only at hc
  obtain ⟨a2, b2, off2, q2, rfl, hcap2, hmax2, ha2, cc⟩ := hc.ints
  unfold maxLen at hmax2
  clear ht hc
  have PK : Hid (∀ n, n ≤ T.cuts.length → (∀ i, i < n → iAt T.cuts i ≤ x0) → (n < T.cuts.length → ¬ iAt T.cuts n ≤ x0) → prefK T.cuts x0 = n) := fun n => prefK_at
  generalize prefK T.cuts x0 = R at *
  generalize T.cuts.length = n2 at *
  show Calls Tryz.prog 26 #[.agg #[.bool lf, p, .slice a2 n2 q2, k, b], .int .i64 x0] w _
  have B0 : Hid _ := bel_box w #[.bool lf, p, .slice a2 n2 q2, k, b]
  have S0 : Hid (OneAt _ w.heap.size _) := OneAt.start w #[.bool lf, p, .slice a2 n2 q2, k, b]
  go_enter Tryz.func26, Tryz.ntmps26
  go_wp2
  go_loopw [5] (fun i wr => ∃ k' : Nat, k' ≤ n2 ∧ i = .int .i64 k' ∧ wr = w.alloc (.cells #[.bool lf, p, .slice a2 n2 q2, k, b] 29) ∧ Hid (∀ i, i < k' → iAt T.cuts i ≤ x0))
    (fun i _ => n2 - (intOf i).toNat)
  case atStart => exact ⟨0, Nat.zero_le _, rfl, rfl, fun i hi => absurd hi (Nat.not_lt_zero _)⟩
  case round =>
    obtain ⟨k', hkl, rfl, hwr, ALL⟩ := hrel
    have k0 := S0.out.cells
    rw [← hwr] at k0
    by_cases hlt : k' < n2
    · have hal := ha2 (by omega)
      subst hal
      have d0 := (B0.out.cell (by exact cell_lt (cc k' hlt))).trans (cc k' hlt)
      rw [← hwr] at d0
      have BW : Hid (Below w.heap.size w wr) := by rw [hwr]; exact B0.out
      have WR : Hid (wr = w.alloc (.cells #[.bool lf, p, .slice (some ⟨b2, off2, none⟩) n2 q2, k, b] 29)) := hwr
      clear cc ha2 hwr S0 B0
      by_cases hq : iAt T.cuts k' ≤ x0
      · have YS : Hid (iAt T.cuts k' ≤ x0) := hq
        go_wp2
        go_roundw
        case rel => exact ⟨k' + 1, by omega, by go_num, WR.out, fun i hi => if h : i < k' then ALL.out i h else by rw [show i = k' by omega]; exact YS.out⟩
        case measure => simp [intOf]; omega
      · have E : Hid (R = k') := PK.out k' (by omega) ALL.out (fun _ => by omega)
        go_wp2
        go_ret
        exact ⟨ret_int (by rw [E.out]), BW.out⟩
    · have E : Hid (R = k') := PK.out k' (by omega) ALL.out (fun h => absurd h hlt)
      have BW : Hid (Below w.heap.size w wr) := by rw [hwr]; exact B0.out
      clear cc ha2 hwr S0 B0
      go_wp2
      go_ret
      exact ⟨ret_int (by rw [E.out]), BW.out⟩

/-- KidOf's answer -/
def kidOfT (T : Tr) (k : Int) : Int := if T.leaf = true ∨ okT T = false then -1 else (prefK T.cuts k : Nat)

end Go.Proofs.YtmpiijphpnjlnaaGreat

namespace Go.Proofs.YtmpiijphpnjlnaaGreat
open Go.RowKit

/-- THE STRUCT x LEADS TO THE TREE T, in rows of its own, all of them from the block `base` on. -/
def TreeOwn : Nat → World → Nat → TV → Tr → Prop
  | 0, _, _, _, _ => False
  | n + 1, w, base, x, T => x.lf = T.leaf ∧ w.ownsRow base 52 2 x.p T.pairs.length (flatP T.pairs) ∧ w.ownsRow base 3 1 x.c T.cuts.length (flatI T.cuts) ∧ w.ownsRow base 37 3 x.b T.buf.length (flatM T.buf) ∧
      ∃ xs : List TV, xs.length = T.kids.length ∧ w.ownsRow base 29 5 x.k xs.length (flatT xs) ∧ ∀ i, i < xs.length → TreeOwn n w base (tvAt xs i) (kidT T i)

theorem owns_same {w w' : World} {base e size n : Nat} {v : Value} {xs : List Value} (h : w.ownsRow base e size v n xs) (hb : ∀ g, base ≤ g → g < w.heap.size → w'.heap[g]? = w.heap[g]?) : w'.ownsRow base e size v n xs := by
  obtain ⟨hl, h | ⟨g, cap, cur, rfl, hg, hh, hn, hcap, hsz, htake⟩⟩ := h
  · exact ⟨hl, .inl h⟩
  · refine ⟨hl, .inr ⟨g, cap, cur, rfl, hg, ?_, hn, hcap, hsz, htake⟩⟩
    rw [hb g hg (Array.getElem?_eq_some_iff.1 hh).1]
    exact hh
theorem TreeOwn.same : ∀ {n : Nat} {w w' : World} {base : Nat} {x : TV} {T : Tr}, TreeOwn n w base x T → (∀ g, base ≤ g → g < w.heap.size → w'.heap[g]? = w.heap[g]?) → TreeOwn n w' base x T
  | 0, _, _, _, _, _, h, _ => h
  | _ + 1, _, _, _, _, _, ⟨h1, h2, h3, h4, xs, h5, h6, h7⟩, hb => ⟨h1, owns_same h2 hb, owns_same h3 hb, owns_same h4 hb, xs, h5, owns_same h6 hb, fun i hi => (h7 i hi).same hb⟩
theorem TreeOwn.below {n : Nat} {w w' : World} {base : Nat} {x : TV} {T : Tr} (h : TreeOwn n w base x T) (hb : Below w.heap.size w w') : TreeOwn n w' base x T :=
  h.same fun g _ hg => hb.block g hg
theorem TreeOwn.low : ∀ {n : Nat} {w : World} {base base' : Nat} {x : TV} {T : Tr}, TreeOwn n w base x T → base' ≤ base → TreeOwn n w base' x T
  | 0, _, _, _, _, _, h, _ => h
  | _ + 1, _, _, _, _, _, ⟨h1, h2, h3, h4, xs, h5, h6, h7⟩, hb => ⟨h1, owns_mono h2 hb, owns_mono h3 hb, owns_mono h4 hb, xs, h5, owns_mono h6 hb, fun i hi => (h7 i hi).low hb⟩
theorem TreeOwn.treeAt : ∀ {n : Nat} {w : World} {base : Nat} {x : TV} {T : Tr}, TreeOwn n w base x T → TreeAt n w x T
  | 0, _, _, _, _, h => h
  | _ + 1, _, _, _, _, ⟨h1, h2, h3, h4, xs, h5, h6, h7⟩ => ⟨h1, Row.of_owns h2, Row.of_owns h3, Row.of_owns h4, xs, h5, Row.of_owns h6, fun i hi => (h7 i hi).treeAt⟩
def TreesOwn (n : Nat) (w : World) (base : Nat) (v : Value) (ts : List Tr) : Prop :=
  ∃ xs : List TV, xs.length = ts.length ∧ w.ownsRow base 29 5 v xs.length (flatT xs) ∧ ∀ i, i < xs.length → TreeOwn n w base (tvAt xs i) (ts.getD i noTr)
theorem TreesOwn.below {n : Nat} {w w' : World} {base : Nat} {v : Value} {ts : List Tr} (h : TreesOwn n w base v ts) (hb : Below w.heap.size w w') : TreesOwn n w' base v ts := by
  obtain ⟨xs, h5, h6, h7⟩ := h
  exact ⟨xs, h5, owns_below h6 hb, fun i hi => (h7 i hi).below hb⟩
theorem TreesOwn.low {n : Nat} {w : World} {base base' : Nat} {v : Value} {ts : List Tr} (h : TreesOwn n w base v ts) (hb : base' ≤ base) : TreesOwn n w base' v ts := by
  obtain ⟨xs, h5, h6, h7⟩ := h
  exact ⟨xs, h5, owns_mono h6 hb, fun i hi => (h7 i hi).low hb⟩
theorem TreeOwn.mk {n : Nat} {w : World} {base : Nat} {x : TV} {T : Tr} (h1 : x.lf = T.leaf) (h2 : w.ownsRow base 52 2 x.p T.pairs.length (flatP T.pairs)) (h3 : w.ownsRow base 3 1 x.c T.cuts.length (flatI T.cuts)) (h4 : w.ownsRow base 37 3 x.b T.buf.length (flatM T.buf)) (h5 : TreesOwn n w base x.k T.kids) : TreeOwn (n + 1) w base x T := by
  obtain ⟨xs, h5, h6, h7⟩ := h5
  exact ⟨h1, h2, h3, h4, xs, h5, h6, h7⟩
theorem TreeOwn.parts {n : Nat} {w : World} {base : Nat} {x : TV} {T : Tr} (h : TreeOwn (n + 1) w base x T) : x.lf = T.leaf ∧ w.ownsRow base 52 2 x.p T.pairs.length (flatP T.pairs) ∧ w.ownsRow base 3 1 x.c T.cuts.length (flatI T.cuts) ∧ w.ownsRow base 37 3 x.b T.buf.length (flatM T.buf) ∧ TreesOwn n w base x.k T.kids := by
  obtain ⟨h1, h2, h3, h4, xs, h5, h6, h7⟩ := h
  exact ⟨h1, h2, h3, h4, xs, h5, h6, h7⟩

theorem Tryz.info3 : (Tryz.prog.info? 3).map (fun i => (i.zero, i.size, i.bytes)) = some (some (.int .i64 0), 1, 8) := by kernel_rfl
theorem Tryz.info29 : (Tryz.prog.info? 29).map (fun i => (i.zero, i.size, i.bytes)) = some (some (.agg #[.bool false, .slice none 0 0, .slice none 0 0, .slice none 0 0, .slice none 0 0]), 5, 104) := by kernel_rfl

def filledI (l : List Int) (k : Nat) : List Int := l.take k ++ List.replicate (l.length - k) 0
theorem filledI_length (l : List Int) (k : Nat) (hk : k ≤ l.length) : (filledI l k).length = l.length := by simp [filledI]; omega
theorem filledI_full (l : List Int) : filledI l l.length = l := by simp [filledI]
theorem filledI_step (l : List Int) (k : Nat) (hk : k < l.length) : (filledI l k).set k (iAt l k) = filledI l (k + 1) := by
  obtain ⟨m, hm⟩ : ∃ m, l.length - k = m + 1 := ⟨l.length - k - 1, by omega⟩
  have e : iAt l k = l[k] := by simp [iAt, List.getD, hk]
  rw [filledI, filledI, List.take_succ_eq_append_getElem hk, hm, show l.length - (k + 1) = m by omega, List.replicate_succ, List.set_append_right _ _ (by simp; omega), e, List.append_assoc]
  simp only [List.length_take, show min k l.length = k by omega, Nat.sub_self, List.set_cons_zero, List.singleton_append]
theorem flatI_set (l : List Int) (i : Nat) (x : Int) : (flatI l).set i (.int .i64 x) = flatI (l.set i x) := by simp [flatI, List.map_set]

theorem tvAt_set_eq (l : List TV) (y : TV) (k : Nat) (hk : k < l.length) : tvAt (l.set k y) k = y := by simp [tvAt, List.getD, hk]
theorem tvAt_set_ne (l : List TV) (y : TV) (k i : Nat) (h : k ≠ i) : tvAt (l.set k y) i = tvAt l i := by simp [tvAt, List.getD, h]
theorem flatT_zero (n : Nat) (i : Nat) : (flatT (List.replicate n noTV))[i]? = (if i < n * 5 then some (if i % 5 = 0 then .bool false else .slice none 0 0) else none) := by
  induction n generalizing i with
  | zero => simp [flatT]
  | succ n ih =>
    rw [List.replicate_succ, flatT_cons]
    match i with
    | 0 => simp [noTV]
    | 1 => simp [noTV]; omega
    | 2 => simp [noTV]; omega
    | 3 => simp [noTV]; omega
    | 4 => simp [noTV]; omega
    | i + 5 =>
      simp only [List.getElem?_cons_succ]
      rw [ih i, show (i + 5) % 5 = i % 5 by omega]
      by_cases h : i < n * 5
      · rw [if_pos h, if_pos (show i + 5 < (n + 1) * 5 by omega)]
      · rw [if_neg h, if_neg (show ¬ i + 5 < (n + 1) * 5 by omega)]
theorem madeCells_tree (n : Nat) : (madeCells #[.bool false, .slice none 0 0, .slice none 0 0, .slice none 0 0, .slice none 0 0] (n * 5)).toList = flatT (List.replicate n noTV) := by
  apply List.ext_getElem?
  intro j
  rw [flatT_zero]
  by_cases hj : j < n * 5
  · rw [if_pos hj]
    simp only [madeCells]
    have : j % 5 = 0 ∨ j % 5 = 1 ∨ j % 5 = 2 ∨ j % 5 = 3 ∨ j % 5 = 4 := by omega
    rcases this with h | h | h | h | h <;> simp [hj, h]
  · rw [if_neg hj]
    simp [madeCells, hj]

end Go.Proofs.YtmpiijphpnjlnaaGreat

namespace Go.Proofs.YtmpiijphpnjlnaaGreat
open Go.RowKit

theorem TreeOwn.setCell {n : Nat} {w : World} {base : Nat} {x : TV} {T : Tr} (h : TreeOwn n w base x T) {a : Addr} (ha : a.block < base) (u : Value) : TreeOwn n (w.setCell a u) base x T :=
  h.same fun g hg _ => Below.heap_setCell _ _ _ _ (by omega)

/-- A TREE'S STRUCT HAS FOUR SLICES. -/
theorem TreeAt.shape : ∀ {n : Nat} {w : World} {x : TV} {T : Tr}, TreeAt n w x T → ∃ (a1 a2 a3 a4 : Option Addr) (c1 c2 c3 c4 : Nat), x = ⟨T.leaf, .slice a1 T.pairs.length c1, .slice a2 T.cuts.length c2, .slice a3 T.kids.length c3, .slice a4 T.buf.length c4⟩
  | 0, _, _, _, h => h.elim
  | _ + 1, _, ⟨lf, p, c, k, b⟩, T, ⟨h1, h2, h3, h4, xs, h5, h6, h7⟩ => by
    simp only at h1 h2 h3 h4 h6
    obtain ⟨a1, c1, rfl, _⟩ := h2.len
    obtain ⟨a2, c2, rfl, _⟩ := h3.len
    obtain ⟨a4, c4, rfl, _⟩ := h4.len
    obtain ⟨a3, c3, rfl, _⟩ := h6.len
    subst h1
    exact ⟨a1, a2, a3, a4, c1, c2, c3, c4, by rw [h5]⟩

theorem TreesOwn.slice {n : Nat} {w : World} {base : Nat} {v : Value} {ts : List Tr} (h : TreesOwn n w base v ts) : ∃ (a : Option Addr) (m q : Nat), v = .slice a m q := by
  obtain ⟨xs, _, h6, _⟩ := h
  obtain ⟨a, q, e, _⟩ := (Row.of_owns h6).len
  exact ⟨a, _, q, e⟩
theorem TreesOwn.setCell {n : Nat} {w : World} {base : Nat} {v : Value} {ts : List Tr} (h : TreesOwn n w base v ts) {a : Addr} (ha : a.block < base) (u : Value) : TreesOwn n (w.setCell a u) base v ts := by
  obtain ⟨xs, h5, h6, h7⟩ := h
  exact ⟨xs, h5, ownsRow_setCell_below h6 ha u, fun i hi => (h7 i hi).setCell ha u⟩

end Go.Proofs.YtmpiijphpnjlnaaGreat
