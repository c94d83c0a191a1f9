/-
  Trees of messages as plain data, and what it is that a struct's value leads to one.
  What chapter 2 says of trees, as plain functions.
  Contracts of MapOk, the model's and the program's.
  Contracts of the model's chapter 2: l2Leaf.
-/
import Derived.Test.YtbmcojelgbkafaaDoorOfNodes1
namespace Go.Proofs.YtbmcojelgbkafaaDoor
set_option maxRecDepth 100000
set_option maxHeartbeats 8000000
section
open Go.RowKit

structure Tr where
 leaf : Bool
 pairs : List (Int × Int)
 cuts : List Int
 kids : List Tr
 buf : ML

structure TV where
 lf : Bool
 p : Value
 c : Value
 k : Value
 b : Value

def TV.cells (x : TV) : List Value := [.bool x.lf, x.p, x.c, x.k, x.b]
abbrev TV.val (x : TV) : Value := .agg #[.bool x.lf, x.p, x.c, x.k, x.b]
def flatT (l : List TV) : List Value := l.flatMap TV.cells
def flatI (l : List Int) : List Value := l.map (.int .i64)

def noTr : Tr := ⟨true, [], [], [], []⟩
def noTV : TV := ⟨false, .slice none 0 0, .slice none 0 0, .slice none 0 0, .slice none 0 0⟩
def kidT (T : Tr) (i : Nat) : Tr := T.kids.getD i noTr
def cutT (T : Tr) (i : Nat) : Int := T.cuts.getD i 0
def iAt (l : List Int) (i : Nat) : Int := l.getD i 0
def tvAt (l : List TV) (i : Nat) : TV := l.getD i noTV

theorem flatI_length (l : List Int) : (flatI l).length = l.length := by simp [flatI]
theorem flatI_at (l : List Int) (i : Nat) (h : i < l.length) : (flatI l)[i]? = some (.int .i64 (iAt l i)) := by simp [flatI, iAt, List.getD, h]
theorem flatT_cons (x : TV) (l : List TV) : flatT (x :: l) = .bool x.lf :: x.p :: x.c :: x.k :: x.b :: flatT l := rfl
theorem flatT_append (l m : List TV) : flatT (l ++ m) = flatT l ++ flatT m := by simp [flatT, List.flatMap_append]
theorem flatT_length (l : List TV) : (flatT l).length = l.length * 5 := by
 induction l with
 | nil => rfl
 | cons a l ih => rw [flatT_cons]; simp only [List.length_cons]; omega
theorem flatT_at (l : List TV) : ∀ i, i < l.length → (flatT l)[i * 5]? = some (.bool (tvAt l i).lf) ∧ (flatT l)[i * 5 + 1]? = some (tvAt l i).p ∧ (flatT l)[i * 5 + 2]? = some (tvAt l i).c ∧ (flatT l)[i * 5 + 3]? = some (tvAt l i).k ∧ (flatT l)[i * 5 + 4]? = some (tvAt l i).b := by
 induction l with
 | nil => intro i h; simp at h
 | cons a l ih =>
  intro i h
  cases i with
  | zero => simp [flatT_cons, tvAt]
  | succ i =>
   have := ih i (by simpa using h)
   rw [show (i + 1) * 5 = i * 5 + 1 + 1 + 1 + 1 + 1 by omega, flatT_cons]
   rw [show i * 5 + 1 + 1 + 1 + 1 + 1 + 1 = (i * 5 + 1) + 1 + 1 + 1 + 1 + 1 by omega, show i * 5 + 1 + 1 + 1 + 1 + 1 + 2 = (i * 5 + 2) + 1 + 1 + 1 + 1 + 1 by omega, show i * 5 + 1 + 1 + 1 + 1 + 1 + 3 = (i * 5 + 3) + 1 + 1 + 1 + 1 + 1 by omega, show i * 5 + 1 + 1 + 1 + 1 + 1 + 4 = (i * 5 + 4) + 1 + 1 + 1 + 1 + 1 by omega]
   simpa [tvAt] using this
theorem flatT_set (l : List TV) (y : TV) : ∀ i, i < l.length → (((((flatT l).set (i * 5) (.bool y.lf)).set (i * 5 + 1) y.p).set (i * 5 + 2) y.c).set (i * 5 + 3) y.k).set (i * 5 + 4) y.b = flatT (l.set i y) := by
 induction l with
 | nil => intro i h; simp at h
 | cons a l ih =>
  intro i h
  cases i with
  | zero => simp [flatT_cons]
  | succ i =>
   have := ih i (by simpa using h)
   rw [flatT_cons, List.set_cons_succ, flatT_cons, show (i + 1) * 5 + 4 = (i * 5 + 4) + 1 + 1 + 1 + 1 + 1 by omega, show (i + 1) * 5 + 3 = (i * 5 + 3) + 1 + 1 + 1 + 1 + 1 by omega, show (i + 1) * 5 + 2 = (i * 5 + 2) + 1 + 1 + 1 + 1 + 1 by omega, show (i + 1) * 5 + 1 = (i * 5 + 1) + 1 + 1 + 1 + 1 + 1 by omega, show (i + 1) * 5 = i * 5 + 1 + 1 + 1 + 1 + 1 by omega]
   simp only [List.set_cons_succ]
   rw [this]

theorem Row.ints {w : World} {v : Value} {l : List Int} (h : Row w v l.length (flatI l)) :
  ∃ (a : Option Addr) (b off cap : Nat), v = .slice a l.length cap ∧ l.length ≤ cap ∧ cap ≤ maxLen ∧ (0 < l.length → a = some ⟨b, off, none⟩) ∧
   (∀ i, i < l.length → w.cell? ⟨b, off + i, none⟩ = some (.int .i64 (iAt l i))) := by
 obtain ⟨a, b, off, cap, h1, h2, h3, h4, h5, _⟩ := h
 exact ⟨a, b, off, cap, h1, h2, h3, h4, fun i hi => h5 _ _ (flatI_at l i hi)⟩
theorem Row.trees {w : World} {v : Value} {l : List TV} (h : Row w v l.length (flatT l)) :
  ∃ (a : Option Addr) (b off cap : Nat), v = .slice a l.length cap ∧ l.length ≤ cap ∧ cap ≤ maxLen ∧ (0 < l.length → a = some ⟨b, off, none⟩) ∧
   (∀ i, i < l.length → w.cell? ⟨b, off + i * 5, none⟩ = some (.bool (tvAt l i).lf)) ∧ (∀ i, i < l.length → w.cell? ⟨b, off + i * 5 + 1, none⟩ = some (tvAt l i).p) ∧ (∀ i, i < l.length → w.cell? ⟨b, off + i * 5 + 2, none⟩ = some (tvAt l i).c) ∧
   (∀ i, i < l.length → w.cell? ⟨b, off + i * 5 + 3, none⟩ = some (tvAt l i).k) ∧ (∀ i, i < l.length → w.cell? ⟨b, off + i * 5 + 4, none⟩ = some (tvAt l i).b) := by
 obtain ⟨a, b, off, cap, h1, h2, h3, h4, h5, _⟩ := h
 exact ⟨a, b, off, cap, h1, h2, h3, h4, fun i hi => h5 _ _ (flatT_at l i hi).1, fun i hi => h5 _ _ (flatT_at l i hi).2.1, fun i hi => h5 _ _ (flatT_at l i hi).2.2.1, fun i hi => h5 _ _ (flatT_at l i hi).2.2.2.1, fun i hi => h5 _ _ (flatT_at l i hi).2.2.2.2⟩
theorem Row.len {w : World} {v : Value} {n : Nat} {xs : List Value} (h : Row w v n xs) : ∃ (a : Option Addr) (cap : Nat), v = .slice a n cap ∧ n ≤ maxLen := by
 obtain ⟨a, b, off, cap, h1, h2, h3, _⟩ := h
 exact ⟨a, cap, h1, Nat.le_trans h2 h3⟩

def TreeAt : Nat → World → TV → Tr → Prop
 | 0, _, _, _ => False
 | n + 1, w, x, T => x.lf = T.leaf ∧ Row w x.p T.pairs.length (flatP T.pairs) ∧ Row w x.c T.cuts.length (flatI T.cuts) ∧ Row w x.b T.buf.length (flatM T.buf) ∧
   ∃ xs : List TV, xs.length = T.kids.length ∧ Row w x.k xs.length (flatT xs) ∧ ∀ i, i < xs.length → TreeAt n w (tvAt xs i) (kidT T i)

def TreesAt (n : Nat) (w : World) (v : Value) (ts : List Tr) : Prop :=
 ∃ xs : List TV, xs.length = ts.length ∧ Row w v xs.length (flatT xs) ∧ ∀ i, i < xs.length → TreeAt n w (tvAt xs i) (ts.getD i noTr)

theorem TreeAt.below : ∀ {n : Nat} {w w' : World} {x : TV} {T : Tr}, TreeAt n w x T → Below w.heap.size w w' → TreeAt n w' x T
 | 0, _, _, _, _, h, _ => h
 | _ + 1, _, _, _, _, ⟨h1, h2, h3, h4, xs, h5, h6, h7⟩, hb => ⟨h1, h2.below hb, h3.below hb, h4.below hb, xs, h5, h6.below hb, fun i hi => (h7 i hi).below hb⟩
theorem TreeAt.parts {n : Nat} {w : World} {x : TV} {T : Tr} (h : TreeAt (n + 1) w x T) :
  x.lf = T.leaf ∧ Row w x.p T.pairs.length (flatP T.pairs) ∧ Row w x.c T.cuts.length (flatI T.cuts) ∧ Row w x.b T.buf.length (flatM T.buf) ∧ TreesAt n w x.k T.kids := by
 obtain ⟨h1, h2, h3, h4, xs, h5, h6, h7⟩ := h
 exact ⟨h1, h2, h3, h4, xs, h5, h6, h7⟩
theorem TreeAt.mk {n : Nat} {w : World} {x : TV} {T : Tr} (h1 : x.lf = T.leaf) (h2 : Row w x.p T.pairs.length (flatP T.pairs)) (h3 : Row w x.c T.cuts.length (flatI T.cuts)) (h4 : Row w x.b T.buf.length (flatM T.buf)) (h5 : TreesAt n w x.k T.kids) : TreeAt (n + 1) w x T := by
 obtain ⟨xs, h5, h6, h7⟩ := h5
 exact ⟨h1, h2, h3, h4, xs, h5, h6, h7⟩

def sizeT : Nat → Tr → Nat
 | 0, _ => 0
 | n + 1, T => T.pairs.length + (T.cuts.length + (T.kids.length + (T.kids.map (sizeT n)).sum + T.buf.length))
def sizeTs (n : Nat) (ts : List Tr) : Nat := ts.length + (ts.map (sizeT n)).sum
def sumTo (n : Nat) (ts : List Tr) (k : Nat) : Nat := ((ts.take k).map (sizeT n)).sum
theorem sumTo_succ (n : Nat) (ts : List Tr) (k : Nat) (h : k < ts.length) : sumTo n ts (k + 1) = sumTo n ts k + sizeT n (ts.getD k noTr) := by
 rw [sumTo, sumTo, List.take_succ_eq_append_getElem h, List.map_append, List.sum_append]
 simp [List.getD, h]
theorem sumTo_le (n : Nat) (ts : List Tr) : ∀ k, sumTo n ts k ≤ (ts.map (sizeT n)).sum := by
 intro k
 have h : (ts.map (sizeT n)).sum = ((ts.take k).map (sizeT n)).sum + ((ts.drop k).map (sizeT n)).sum := by
  rw [← List.sum_append, ← List.map_append, List.take_append_drop]
 rw [sumTo, h]
 omega
theorem sizeT_kid {n : Nat} {T : Tr} {i : Nat} (hi : i < T.kids.length) : sizeT n (kidT T i) + T.kids.length ≤ sizeT (n + 1) T := by
 have h1 := sumTo_le n T.kids (i + 1)
 rw [sumTo_succ n T.kids i hi] at h1
 show sizeT n (T.kids.getD i noTr) + _ ≤ T.pairs.length + (T.cuts.length + (T.kids.length + (T.kids.map (sizeT n)).sum + T.buf.length))
 omega

def leftOf (left : Int) (n : Nat) : Int := if (n : Int) ≤ left then left - n else -1
end
section
def allB (n : Nat) (f : Nat → Bool) : Bool := (List.range n).all f
theorem allB_true {n : Nat} {f : Nat → Bool} (h : ∀ i, i < n → f i = true) : allB n f = true := by
 simp only [allB, List.all_eq_true, List.mem_range]; exact h
theorem allB_false {n : Nat} {f : Nat → Bool} {i : Nat} (hi : i < n) (h : f i = false) : allB n f = false := by
 rw [Bool.eq_false_iff]
 intro hc
 simp only [allB, List.all_eq_true, List.mem_range] at hc
 rw [hc i hi] at h
 cases h
theorem allB_at {n : Nat} {f : Nat → Bool} (h : allB n f = true) {i : Nat} (hi : i < n) : f i = true := by
 simp only [allB, List.all_eq_true, List.mem_range] at h
 exact h i hi

def pairAt (T : Tr) (lo hi : Int) (i : Nat) : Bool := inB (kOf T.pairs i) lo (hi - 1)
def pairsInB (T : Tr) (lo hi : Int) : Bool := allB T.pairs.length (pairAt T lo hi)
def leafOkB (T : Tr) (lo hi : Int) : Bool := mapOkB T.pairs && (decide (T.pairs.length ≤ 4) && (decide (T.cuts.length + T.kids.length + T.buf.length = 0) && pairsInB T lo hi))
def msgAt (T : Tr) (lo hi : Int) (i : Nat) : Bool := msgOkB (mO T.buf i) (mK T.buf i) (mV T.buf i) && (!(mO T.buf i == 4) && inB (mK T.buf i) lo (hi - 1))
def bufOkB (T : Tr) (lo hi : Int) : Bool := allB T.buf.length (msgAt T lo hi)
def fromT (T : Tr) (lo : Int) (i : Nat) : Int := if i = 0 then lo else iAt T.cuts (i - 1)
def toT (T : Tr) (hi : Int) (i : Nat) : Int := if i < T.cuts.length then iAt T.cuts i else hi
def cutAt (T : Tr) (lo hi : Int) (i : Nat) : Bool := inB (iAt T.cuts i) (fromT T lo i + 1) (hi - 1)
def cutsOkB (T : Tr) (lo hi : Int) : Bool := allB T.cuts.length (cutAt T lo hi)
def shapeB (T : Tr) : Bool := decide (T.pairs.length = 0) && (decide (2 ≤ T.kids.length ∧ T.kids.length ≤ 4) && (decide (T.cuts.length + 1 = T.kids.length) && decide (T.buf.length ≤ 6)))
def forkOkB (T : Tr) (lo hi : Int) : Bool := shapeB T && (bufOkB T lo hi && cutsOkB T lo hi)
def kidsD (d : Nat → Nat) (n : Nat) : Nat := if (!(d 0 == 0) && allB n fun i => d i == d 0) = true then d 0 + 1 else 0
def depthF : Nat → Tr → Int → Int → Nat
 | 0, _, _, _ => 0
 | m + 1, T, lo, hi => if T.leaf = true then (if leafOkB T lo hi = true then 1 else 0) else if forkOkB T lo hi = true then kidsD (fun i => depthF m (kidT T i) (fromT T lo i) (toT T hi i)) T.kids.length else 0
def kidF (m : Nat) (T : Tr) (lo hi : Int) (i : Nat) : Nat := depthF m (kidT T i) (fromT T lo i) (toT T hi i)

theorem depthF_leaf {m : Nat} {T : Tr} {lo hi : Int} (h : T.leaf = true) : depthF (m + 1) T lo hi = if leafOkB T lo hi = true then 1 else 0 := by rw [depthF, if_pos h]
theorem depthF_no {m : Nat} {T : Tr} {lo hi : Int} (h : T.leaf = false) (hf : forkOkB T lo hi = false) : depthF (m + 1) T lo hi = 0 := by
 rw [depthF, if_neg (by rw [h]; decide), if_neg (by rw [hf]; decide)]
theorem depthF_fork {m : Nat} {T : Tr} {lo hi : Int} (h : T.leaf = false) (hf : forkOkB T lo hi = true) : depthF (m + 1) T lo hi = kidsD (kidF m T lo hi) T.kids.length := by
 rw [depthF, if_neg (by rw [h]; decide), if_pos hf]; rfl
theorem kidsD_zero {d : Nat → Nat} {n i : Nat} (hi : i < n) (h : d i = 0) : kidsD d n = 0 := by
 rw [kidsD, if_neg]
 intro hc
 simp only [Bool.and_eq_true] at hc
 have := allB_at hc.2 hi
 simp only [beq_iff_eq] at this
 rw [h] at this
 rw [← this] at hc
 simp at hc
theorem kidsD_ne {d : Nat → Nat} {n i : Nat} (hi : i < n) (h : d i ≠ d 0) : kidsD d n = 0 := by
 rw [kidsD, if_neg]
 intro hc
 simp only [Bool.and_eq_true] at hc
 have := allB_at hc.2 hi
 simp only [beq_iff_eq] at this
 exact h this
theorem kidsD_yes {d : Nat → Nat} {n : Nat} (h0 : d 0 ≠ 0) (h : ∀ i, i < n → d i = d 0) : kidsD d n = d 0 + 1 := by
 rw [kidsD, if_pos]
 simp only [Bool.and_eq_true]
 refine ⟨by simpa using h0, allB_true fun i hi => by simpa using h i hi⟩
theorem kidsD_le {d : Nat → Nat} {n m : Nat} (h : ∀ i, d i ≤ m) : kidsD d n ≤ m + 1 := by
 unfold kidsD
 split
 ·have := h 0; omega
 ·omega
theorem depthF_le : ∀ (m : Nat) (T : Tr) (lo hi : Int), depthF m T lo hi ≤ m
 | 0, _, _, _ => by simp [depthF]
 | m + 1, T, lo, hi => by
  rw [depthF]
  split
  ·split <;> omega
  ·split
   ·exact kidsD_le fun i => depthF_le m _ _ _
   ·omega

def pairsF : Nat → Tr → Nat
 | 0, _ => 0
 | n + 1, T => T.pairs.length + (T.kids.map (pairsF n)).sum
def msgsF : Nat → Tr → Nat
 | 0, _ => 0
 | n + 1, T => T.buf.length + (T.kids.map (msgsF n)).sum
def sumF (f : Tr → Nat) (ts : List Tr) (k : Nat) : Nat := ((ts.take k).map f).sum
def cutsTo (l : List Int) (k : Int) : Nat := (l.filter fun c => decide (c ≤ k)).length

def depthT (T : Tr) : Nat := depthF 7 T 0 1000
def okT (T : Tr) : Bool := decide (0 < depthT T)
end
section
open Go.RowKit

theorem okAt_false_k {l : List (Int × Int)} {k : Nat} (h : inB (kOf l k) 0 999 = false) : okAt l k = false := by simp [okAt, h]
theorem okAt_false_v {l : List (Int × Int)} {k : Nat} (h : inB (vOf l k) (-1000000000) 1000000000 = false) : okAt l k = false := by simp [okAt, h]
theorem okAt_zero {l : List (Int × Int)} (h : inB (kOf l 0) 0 999 = true) (h' : inB (vOf l 0) (-1000000000) 1000000000 = true) : okAt l 0 = true := by simp [okAt, h, h']
theorem okAt_succ {l : List (Int × Int)} {k : Nat} (h : inB (kOf l (k + 1)) 0 999 = true) (h' : inB (vOf l (k + 1)) (-1000000000) 1000000000 = true) (hlt : kOf l k < kOf l (k + 1)) : okAt l (k + 1) = true := by simp [okAt, h, h', hlt]
theorem okAt_false_lt {l : List (Int × Int)} {k : Nat} (hlt : kOf l (k + 1) ≤ kOf l k) : okAt l (k + 1) = false := by
 have : ¬ kOf l k < kOf l (k + 1) := by omega
 simp [okAt, this]

theorem specMapOk_any (v : Value) (l : List (Int × Int)) (w : World) (h : Row w v l.length (flatP l)) :
  Calls Tryd.prog 76 #[v] w fun e w' => e = .returned (.bool (mapOkB l)) ∧ Below w.heap.size w w' := by
 obtain ⟨a, b, off, cap, rfl, hcap, hmax, ha, hk, hv⟩ := h.pairs
 unfold maxLen at hmax
 go_enter Tryd.func76, Tryd.ntmps76
 go_wp2
 go_loopw [3] (fun i wr => ∃ k : Nat, k ≤ l.length ∧ i = .int .i64 k ∧ (∀ i, i < k → okAt l i = true) ∧ Below w.heap.size w wr)
  (fun i _ => l.length - (intOf i).toNat)
 case atStart => exact ⟨0, Nat.zero_le _, rfl, fun i hi => absurd hi (Nat.not_lt_zero _), Below.refl _ _⟩
 case round =>
  obtain ⟨k, hkl, rfl, hall, hb⟩ := hrel
  have ALL : Hid (∀ i, i < k → okAt l i = true) := hall
  clear hall
  by_cases hlt : k < l.length
  ·have hal := ha (by omega)
   subst hal
   have d0 : wr.cell? ⟨b, off + k * 2, none⟩ = some (.int .i64 (kOf l k)) := (hb.cell (by exact cell_lt (hk k hlt))).trans (hk k hlt)
   have d1 : wr.cell? ⟨b, off + k * 2 + 1, none⟩ = some (.int .i64 (vOf l k)) := (hb.cell (by exact cell_lt (hv k hlt))).trans (hv k hlt)
   cases hK : inB (kOf l k) 0 999
   ·have NE : Hid (mapOkB l = false) := mapOkB_false hlt (okAt_false_k hK)
    clear hk hv
    go_wp2_with fail
    go_quiet ((go_at_call 27; exact Calls.quiet_of_same (l1In_any _ _ _ _)))
    go_wp2
    go_ret
    exact ⟨ret_bool NE.out.symm, below_drewN hb _⟩
   ·cases hV : inB (vOf l k) (-1000000000) 1000000000
    ·have NE : Hid (mapOkB l = false) := mapOkB_false hlt (okAt_false_v hV)
     clear hk hv
     go_wp2_with fail
     go_quiet (first | (go_at_call 27; exact Calls.quiet_of_same (l1In_any _ _ _ _)) | (go_at_call 60; exact Calls.quiet_of_same (l1Value_any _ _)))
     go_wp2
     go_ret
     exact ⟨ret_bool NE.out.symm, below_drewN hb _⟩
    ·cases k with
     | zero =>
      have OK : Hid (okAt l 0 = true) := okAt_zero hK hV
      simp only [Nat.zero_mul, Nat.add_zero] at d0 d1
      clear hk hv
      go_wp2_with fail
      go_quiet (first | (go_at_call 27; exact Calls.quiet_of_same (l1In_any _ _ _ _)) | (go_at_call 60; exact Calls.quiet_of_same (l1Value_any _ _)))
      go_wp2
      go_roundw
      case rel => exact ⟨1, by omega, by go_num, fun i hi => by rw [show i = 0 by omega]; exact OK.out, below_drewN hb _⟩
      case measure => simp [intOf]; omega
     | succ k =>
      have hpos : (0 : Int) < ((k + 1 : Nat) : Int) := by omega
      have d2 : wr.cell? ⟨b, off + k * 2, none⟩ = some (.int .i64 (kOf l k)) := (hb.cell (by exact cell_lt (hk k (by omega)))).trans (hk k (by omega))
      clear hk hv
      by_cases hord : kOf l k < kOf l (k + 1)
      ·have OK : Hid (okAt l (k + 1) = true) := okAt_succ hK hV hord
       go_wp2_with fail
       go_quiet (first | (go_at_call 27; exact Calls.quiet_of_same (l1In_any _ _ _ _)) | (go_at_call 60; exact Calls.quiet_of_same (l1Value_any _ _)))
       go_wp2
       go_roundw
       case rel => exact ⟨k + 1 + 1, by omega, by go_num, fun i hi => if h : i < k + 1 then ALL.out i h else by rw [show i = k + 1 by omega]; exact OK.out, below_drewN hb _⟩
       case measure => simp [intOf]; omega
      ·have NE : Hid (mapOkB l = false) := mapOkB_false hlt (okAt_false_lt (by omega))
       go_wp2_with fail
       go_quiet (first | (go_at_call 27; exact Calls.quiet_of_same (l1In_any _ _ _ _)) | (go_at_call 60; exact Calls.quiet_of_same (l1Value_any _ _)))
       go_wp2
       go_ret
       exact ⟨ret_bool NE.out.symm, below_drewN hb _⟩
  ·go_wp2
   go_ret
   exact ⟨ret_bool (mapOkB_true (fun i hi => ALL.out i (by omega))).symm, hb⟩
end
section
open Go.RowKit

def OneAt (u : World) (B : Nat) (A : Array Value) : Prop := u.heap[B]? = some (.cells A 29 (0, 0))
theorem OneAt.step {u w' : World} {B : Nat} {A : Array Value} (h : OneAt u B A) (hb : Below u.heap.size u w') : OneAt w' B A :=
 (hb.block _ (Array.getElem?_eq_some_iff.1 h).1).trans h
theorem OneAt.cells {u : World} {B : Nat} {A : Array Value} (h : OneAt u B A) : ∀ j, u.cell? ⟨B, j, none⟩ = A[j]? := fun j => cell_of_row u B j A 29 (0, 0) h
theorem OneAt.start (w : World) (A : Array Value) : OneAt (w.alloc (.cells A 29)) w.heap.size A := heap_alloc_new w _
theorem bel_box (w : World) (A : Array Value) : Below w.heap.size w (w.alloc (.cells A 29)) := (Below.refl _ _).alloc (Nat.le_refl _) _

theorem TreesAt.len {n : Nat} {w : World} {v : Value} {ts : List Tr} (h : TreesAt n w v ts) : ∃ (a : Option Addr) (cap : Nat), v = .slice a ts.length cap ∧ ts.length ≤ maxLen := by
 obtain ⟨xs, hl, hr, _⟩ := h
 obtain ⟨a, q, e, m⟩ := hr.len
 rw [hl] at e m
 exact ⟨a, q, e, m⟩

theorem leaf_no1 {T : Tr} {lo hi : Int} (h : mapOkB T.pairs = false) : leafOkB T lo hi = false := by simp [leafOkB, h]
theorem leaf_no2 {T : Tr} {lo hi : Int} (h : ¬ T.pairs.length ≤ 4) : leafOkB T lo hi = false := by
 rw [leafOkB, decide_eq_false h]; simp
theorem leaf_no3 {T : Tr} {lo hi : Int} (h : ¬ T.cuts.length + T.kids.length + T.buf.length = 0) : leafOkB T lo hi = false := by
 rw [leafOkB, decide_eq_false h]; simp
theorem leaf_no4 {T : Tr} {lo hi : Int} {i : Nat} (hi' : i < T.pairs.length) (h : pairAt T lo hi i = false) : leafOkB T lo hi = false := by
 rw [leafOkB, pairsInB, allB_false hi' h]; simp
theorem leaf_yes {T : Tr} {lo hi : Int} (h1 : mapOkB T.pairs = true) (h2 : T.pairs.length ≤ 4) (h3 : T.cuts.length + T.kids.length + T.buf.length = 0) (h4 : ∀ i, i < T.pairs.length → pairAt T lo hi i = true) : leafOkB T lo hi = true := by
 rw [leafOkB, h1, decide_eq_true h2, decide_eq_true h3, pairsInB, allB_true h4]; rfl

def leafD (T : Tr) (lo hi : Int) : Int := if leafOkB T lo hi = true then 1 else 0
theorem leafD_no {T : Tr} {lo hi : Int} (h : leafOkB T lo hi = false) : leafD T lo hi = 0 := by simp [leafD, h]
theorem leafD_yes {T : Tr} {lo hi : Int} (h : leafOkB T lo hi = true) : leafD T lo hi = 1 := by simp [leafD, h]

theorem l2Leaf_any (n : Nat) (x : TV) (T : Tr) (lo hi : Int) (w : World) (ht : TreeAt n w x T) (hsz : sizeT n T ≤ 1099511627776) (hh0 : 0 ≤ hi) (hh1 : hi ≤ 1000) :
  Calls Tryd.prog 75 #[x.val, .int .i64 lo, .int .i64 hi] w fun e w' => e = .returned (.int .i64 (leafD T lo hi)) ∧ Below w.heap.size w w' := by
 cases n with
 | zero => exact ht.elim
 | succ n =>
 obtain ⟨lf, p, c, k, b⟩ := x
 obtain ⟨hlf, hp, hc, hb, hk⟩ := ht.parts
 simp only at hlf hp hc hb hk
 obtain ⟨a2, q2, rfl, m2⟩ := hc.len
 obtain ⟨a3, q3, rfl, m3⟩ := hk.len
 obtain ⟨a4, q4, rfl, m4⟩ := hb.len
 obtain ⟨a, bb, off, cap, rfl, hcap, hmax, ha, ck, cv⟩ := hp.pairs
 have R1 : Hid (Row w (.slice a T.pairs.length cap) T.pairs.length (flatP T.pairs)) := hp
 unfold maxLen at hmax
 clear m2 m3 m4
 have hS : sizeT (n + 1) T = T.pairs.length + (T.cuts.length + (T.kids.length + (T.kids.map (sizeT n)).sum + T.buf.length)) := rfl
 have m2 : T.cuts.length ≤ 1099511627776 := by omega
 have m3 : T.kids.length ≤ 1099511627776 := by omega
 have m4 : T.buf.length ≤ 1099511627776 := by omega
 clear hS hsz
 clear ht hp hc hb hk hlf
 show Calls Tryd.prog 75 #[.agg #[.bool lf, .slice a T.pairs.length cap, .slice a2 T.cuts.length q2, .slice a3 T.kids.length q3, .slice a4 T.buf.length q4], .int .i64 lo, .int .i64 hi] w _
 have B0 : Hid _ := bel_box w #[.bool lf, .slice a T.pairs.length cap, .slice a2 T.cuts.length q2, .slice a3 T.kids.length q3, .slice a4 T.buf.length q4]
 have S0 : Hid (OneAt _ w.heap.size _) := OneAt.start w #[.bool lf, .slice a T.pairs.length cap, .slice a2 T.cuts.length q2, .slice a3 T.kids.length q3, .slice a4 T.buf.length q4]
 cases hmo : mapOkB T.pairs
 ·have E : Hid (leafOkB T lo hi = false) := leaf_no1 hmo
  go_enter Tryd.func75, Tryd.ntmps75
  go_wp2_with fail
  refine (specMapOk_any _ _ _ (R1.out.below B0.out)).mono ?_
  rintro e w1 ⟨he, hb1⟩
  rw [hmo] at he
  subst he
  have B1 : Hid (Below w.heap.size w w1) := Below.and B0.out hb1
  clear B0 S0 hb1
  go_wp2
  go_ret
  exact ⟨ret_int (leafD_no E.out).symm, B1.out⟩
 ·by_cases h4 : T.pairs.length ≤ 4
  ·by_cases h0 : T.cuts.length + T.kids.length + T.buf.length = 0
   ·have z2 : T.cuts.length = 0 := by omega
    have z3 : T.kids.length = 0 := by omega
    have z4 : T.buf.length = 0 := by omega
    have YES : Hid ((∀ i, i < T.pairs.length → pairAt T lo hi i = true) → leafOkB T lo hi = true) := fun h => leaf_yes hmo h4 (by omega) h
    rw [z2, z3, z4] at B0 S0 ⊢
    clear z2 z3 z4 h0
    go_enter Tryd.func75, Tryd.ntmps75
    go_wp2_with fail
    refine (specMapOk_any _ _ _ (R1.out.below B0.out)).mono ?_
    rintro e w1 ⟨he, hb1⟩
    rw [hmo] at he
    subst he
    have B1 : Hid (Below w.heap.size w w1) := Below.and B0.out hb1
    have S1 : Hid (OneAt w1 w.heap.size #[.bool lf, .slice a T.pairs.length cap, .slice a2 0 q2, .slice a3 0 q3, .slice a4 0 q4]) := S0.out.step hb1
    have k0 := S1.out.cells
    clear B0 S0 hb1
    go_wp2
    go_loopw [7] (fun i wr => ∃ k : Nat, k ≤ T.pairs.length ∧ i = .int .i64 k ∧ wr = w1 ∧ Hid (∀ i, i < k → pairAt T lo hi i = true))
     (fun i _ => T.pairs.length - (intOf i).toNat)
    case atStart => exact ⟨0, Nat.zero_le _, rfl, rfl, fun i hi => absurd hi (Nat.not_lt_zero _)⟩
    case round =>
     obtain ⟨k, hkl, rfl, rfl, ALL⟩ := hrel
     by_cases hlt : k < T.pairs.length
     ·have hal := ha (by omega)
      subst hal
      have d0 := (B1.out.cell (by exact cell_lt (ck k hlt))).trans (ck k hlt)
      clear ck cv ha
      cases hq : inB (kOf T.pairs k) lo (hi - 1)
      ·have NO : Hid (leafOkB T lo hi = false) := leaf_no4 hlt hq
       go_wp2_with (go_at_call 27; refine (l1In_any _ _ _ _).mono ?_; rintro e w' ⟨rfl, rfl⟩)
       go_ret
       exact ⟨ret_int (leafD_no NO.out).symm, B1.out⟩
      ·have YS : Hid (pairAt T lo hi k = true) := hq
       go_wp2_with (go_at_call 27; refine (l1In_any _ _ _ _).mono ?_; rintro e w' ⟨rfl, rfl⟩)
       go_roundw
       case rel => exact ⟨k + 1, by omega, by go_num, trivial, fun i hi => if h : i < k then ALL.out i h else by rw [show i = k by omega]; exact YS.out⟩
       case measure => simp [intOf]; omega
     ·clear ck cv ha
      go_wp2
      go_ret
      exact ⟨ret_int (leafD_yes (YES.out (fun i hi => ALL.out i (by omega)))).symm, B1.out⟩
   ·have E : Hid (leafOkB T lo hi = false) := leaf_no3 (by omega)
    have hpos : (0 : Int) < (T.cuts.length : Int) + (T.kids.length : Int) + (T.buf.length : Int) := by omega
    clear h0
    go_enter Tryd.func75, Tryd.ntmps75
    go_wp2_with fail
    refine (specMapOk_any _ _ _ (R1.out.below B0.out)).mono ?_
    rintro e w1 ⟨he, hb1⟩
    rw [hmo] at he
    subst he
    have B1 : Hid (Below w.heap.size w w1) := Below.and B0.out hb1
    have S1 : Hid (OneAt w1 w.heap.size #[.bool lf, .slice a T.pairs.length cap, .slice a2 T.cuts.length q2, .slice a3 T.kids.length q3, .slice a4 T.buf.length q4]) := S0.out.step hb1
    have k0 := S1.out.cells
    clear B0 S0 hb1
    go_wp2
    go_ret
    exact ⟨ret_int (leafD_no E.out).symm, B1.out⟩
  ·have E : Hid (leafOkB T lo hi = false) := leaf_no2 h4
   have h4' : (4 : Int) < (T.pairs.length : Int) := by omega
   clear h4
   go_enter Tryd.func75, Tryd.ntmps75
   go_wp2_with fail
   refine (specMapOk_any _ _ _ (R1.out.below B0.out)).mono ?_
   rintro e w1 ⟨he, hb1⟩
   rw [hmo] at he
   subst he
   have B1 : Hid (Below w.heap.size w w1) := Below.and B0.out hb1
   have S1 : Hid (OneAt w1 w.heap.size #[.bool lf, .slice a T.pairs.length cap, .slice a2 T.cuts.length q2, .slice a3 T.kids.length q3, .slice a4 T.buf.length q4]) := S0.out.step hb1
   have k0 := S1.out.cells
   clear B0 S0 hb1
   go_wp2
   go_ret
   exact ⟨ret_int (leafD_no E.out).symm, B1.out⟩
end
end Go.Proofs.YtbmcojelgbkafaaDoor
