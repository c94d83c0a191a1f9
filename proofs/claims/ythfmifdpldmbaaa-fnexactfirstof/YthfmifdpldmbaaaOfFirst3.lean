/-
  Trees of messages as plain data, and what it is that a struct's value leads to one.
  Contracts of the laws' own functions that measure a tree.
  Contracts of the laws' own functions that hold two trees against each other.
-/
import Derived.Test.YthfmifdpldmbaaaOfFirst2
namespace Go.Proofs.Ythfmifdpldmbaaa
set_option maxRecDepth 100000
set_option maxHeartbeats 8000000
section
open Go.RowKit

structure Tr where
 leaf : Bool
 pairs : List (Int × Int)
 cuts : List Int
 kids : List Tr
 buf : ML

structure TV where
 lf : Bool
 p : Value
 c : Value
 k : Value
 b : Value

def TV.cells (x : TV) : List Value := [.bool x.lf, x.p, x.c, x.k, x.b]
abbrev TV.val (x : TV) : Value := .agg #[.bool x.lf, x.p, x.c, x.k, x.b]
def flatT (l : List TV) : List Value := l.flatMap TV.cells
def flatI (l : List Int) : List Value := l.map (.int .i64)

def noTr : Tr := ⟨true, [], [], [], []⟩
def noTV : TV := ⟨false, .slice none 0 0, .slice none 0 0, .slice none 0 0, .slice none 0 0⟩
def kidT (T : Tr) (i : Nat) : Tr := T.kids.getD i noTr
def cutT (T : Tr) (i : Nat) : Int := T.cuts.getD i 0
def iAt (l : List Int) (i : Nat) : Int := l.getD i 0
def tvAt (l : List TV) (i : Nat) : TV := l.getD i noTV

theorem flatI_length (l : List Int) : (flatI l).length = l.length := by simp [flatI]
theorem flatI_at (l : List Int) (i : Nat) (h : i < l.length) : (flatI l)[i]? = some (.int .i64 (iAt l i)) := by simp [flatI, iAt, List.getD, h]
theorem flatT_cons (x : TV) (l : List TV) : flatT (x :: l) = .bool x.lf :: x.p :: x.c :: x.k :: x.b :: flatT l := rfl
theorem flatT_length (l : List TV) : (flatT l).length = l.length * 5 := by
 induction l with
 | nil => rfl
 | cons a l ih => rw [flatT_cons]; simp only [List.length_cons]; omega
theorem flatT_at (l : List TV) : ∀ i, i < l.length → (flatT l)[i * 5]? = some (.bool (tvAt l i).lf) ∧ (flatT l)[i * 5 + 1]? = some (tvAt l i).p ∧ (flatT l)[i * 5 + 2]? = some (tvAt l i).c ∧ (flatT l)[i * 5 + 3]? = some (tvAt l i).k ∧ (flatT l)[i * 5 + 4]? = some (tvAt l i).b := by
 induction l with
 | nil => intro i h; simp at h
 | cons a l ih =>
  intro i h
  cases i with
  | zero => simp [flatT_cons, tvAt]
  | succ i =>
   have := ih i (by simpa using h)
   rw [show (i + 1) * 5 = i * 5 + 1 + 1 + 1 + 1 + 1 by omega, flatT_cons]
   rw [show i * 5 + 1 + 1 + 1 + 1 + 1 + 1 = (i * 5 + 1) + 1 + 1 + 1 + 1 + 1 by omega, show i * 5 + 1 + 1 + 1 + 1 + 1 + 2 = (i * 5 + 2) + 1 + 1 + 1 + 1 + 1 by omega, show i * 5 + 1 + 1 + 1 + 1 + 1 + 3 = (i * 5 + 3) + 1 + 1 + 1 + 1 + 1 by omega, show i * 5 + 1 + 1 + 1 + 1 + 1 + 4 = (i * 5 + 4) + 1 + 1 + 1 + 1 + 1 by omega]
   simpa [tvAt] using this
theorem flatT_set (l : List TV) (y : TV) : ∀ i, i < l.length → (((((flatT l).set (i * 5) (.bool y.lf)).set (i * 5 + 1) y.p).set (i * 5 + 2) y.c).set (i * 5 + 3) y.k).set (i * 5 + 4) y.b = flatT (l.set i y) := by
 induction l with
 | nil => intro i h; simp at h
 | cons a l ih =>
  intro i h
  cases i with
  | zero => simp [flatT_cons]
  | succ i =>
   have := ih i (by simpa using h)
   rw [flatT_cons, List.set_cons_succ, flatT_cons, show (i + 1) * 5 + 4 = (i * 5 + 4) + 1 + 1 + 1 + 1 + 1 by omega, show (i + 1) * 5 + 3 = (i * 5 + 3) + 1 + 1 + 1 + 1 + 1 by omega, show (i + 1) * 5 + 2 = (i * 5 + 2) + 1 + 1 + 1 + 1 + 1 by omega, show (i + 1) * 5 + 1 = (i * 5 + 1) + 1 + 1 + 1 + 1 + 1 by omega, show (i + 1) * 5 = i * 5 + 1 + 1 + 1 + 1 + 1 by omega]
   simp only [List.set_cons_succ]
   rw [this]

theorem Row.ints {w : World} {v : Value} {l : List Int} (h : Row w v l.length (flatI l)) :
  ∃ (a : Option Addr) (b off cap : Nat), v = .slice a l.length cap ∧ l.length ≤ cap ∧ cap ≤ maxLen ∧ (0 < l.length → a = some ⟨b, off, none⟩) ∧
   (∀ i, i < l.length → w.cell? ⟨b, off + i, none⟩ = some (.int .i64 (iAt l i))) := by
 obtain ⟨a, b, off, cap, h1, h2, h3, h4, h5, _⟩ := h
 exact ⟨a, b, off, cap, h1, h2, h3, h4, fun i hi => h5 _ _ (flatI_at l i hi)⟩
theorem Row.trees {w : World} {v : Value} {l : List TV} (h : Row w v l.length (flatT l)) :
  ∃ (a : Option Addr) (b off cap : Nat), v = .slice a l.length cap ∧ l.length ≤ cap ∧ cap ≤ maxLen ∧ (0 < l.length → a = some ⟨b, off, none⟩) ∧
   (∀ i, i < l.length → w.cell? ⟨b, off + i * 5, none⟩ = some (.bool (tvAt l i).lf)) ∧ (∀ i, i < l.length → w.cell? ⟨b, off + i * 5 + 1, none⟩ = some (tvAt l i).p) ∧ (∀ i, i < l.length → w.cell? ⟨b, off + i * 5 + 2, none⟩ = some (tvAt l i).c) ∧
   (∀ i, i < l.length → w.cell? ⟨b, off + i * 5 + 3, none⟩ = some (tvAt l i).k) ∧ (∀ i, i < l.length → w.cell? ⟨b, off + i * 5 + 4, none⟩ = some (tvAt l i).b) := by
 obtain ⟨a, b, off, cap, h1, h2, h3, h4, h5, _⟩ := h
 exact ⟨a, b, off, cap, h1, h2, h3, h4, fun i hi => h5 _ _ (flatT_at l i hi).1, fun i hi => h5 _ _ (flatT_at l i hi).2.1, fun i hi => h5 _ _ (flatT_at l i hi).2.2.1, fun i hi => h5 _ _ (flatT_at l i hi).2.2.2.1, fun i hi => h5 _ _ (flatT_at l i hi).2.2.2.2⟩
theorem Row.len {w : World} {v : Value} {n : Nat} {xs : List Value} (h : Row w v n xs) : ∃ (a : Option Addr) (cap : Nat), v = .slice a n cap ∧ n ≤ maxLen := by
 obtain ⟨a, b, off, cap, h1, h2, h3, _⟩ := h
 exact ⟨a, cap, h1, Nat.le_trans h2 h3⟩

def TreeAt : Nat → World → TV → Tr → Prop
 | 0, _, _, _ => False
 | n + 1, w, x, T => x.lf = T.leaf ∧ Row w x.p T.pairs.length (flatP T.pairs) ∧ Row w x.c T.cuts.length (flatI T.cuts) ∧ Row w x.b T.buf.length (flatM T.buf) ∧
   ∃ xs : List TV, xs.length = T.kids.length ∧ Row w x.k xs.length (flatT xs) ∧ ∀ i, i < xs.length → TreeAt n w (tvAt xs i) (kidT T i)

def TreesAt (n : Nat) (w : World) (v : Value) (ts : List Tr) : Prop :=
 ∃ xs : List TV, xs.length = ts.length ∧ Row w v xs.length (flatT xs) ∧ ∀ i, i < xs.length → TreeAt n w (tvAt xs i) (ts.getD i noTr)

theorem TreeAt.below : ∀ {n : Nat} {w w' : World} {x : TV} {T : Tr}, TreeAt n w x T → Below w.heap.size w w' → TreeAt n w' x T
 | 0, _, _, _, _, h, _ => h
 | _ + 1, _, _, _, _, ⟨h1, h2, h3, h4, xs, h5, h6, h7⟩, hb => ⟨h1, h2.below hb, h3.below hb, h4.below hb, xs, h5, h6.below hb, fun i hi => (h7 i hi).below hb⟩
theorem TreesAt.below {n : Nat} {w w' : World} {v : Value} {ts : List Tr} (h : TreesAt n w v ts) (hb : Below w.heap.size w w') : TreesAt n w' v ts := by
 obtain ⟨xs, h5, h6, h7⟩ := h
 exact ⟨xs, h5, h6.below hb, fun i hi => (h7 i hi).below hb⟩
theorem TreeAt.up : ∀ {n : Nat} {w : World} {x : TV} {T : Tr}, TreeAt n w x T → TreeAt (n + 1) w x T
 | 0, _, _, _, h => h.elim
 | _ + 1, _, _, _, ⟨h1, h2, h3, h4, xs, h5, h6, h7⟩ => ⟨h1, h2, h3, h4, xs, h5, h6, fun i hi => (h7 i hi).up⟩
theorem TreeAt.le {n m : Nat} {w : World} {x : TV} {T : Tr} (h : TreeAt n w x T) (hm : n ≤ m) : TreeAt m w x T := by
 induction hm with
 | refl => exact h
 | step _ ih => exact ih.up
theorem TreeAt.parts {n : Nat} {w : World} {x : TV} {T : Tr} (h : TreeAt (n + 1) w x T) :
  x.lf = T.leaf ∧ Row w x.p T.pairs.length (flatP T.pairs) ∧ Row w x.c T.cuts.length (flatI T.cuts) ∧ Row w x.b T.buf.length (flatM T.buf) ∧ TreesAt n w x.k T.kids := by
 obtain ⟨h1, h2, h3, h4, xs, h5, h6, h7⟩ := h
 exact ⟨h1, h2, h3, h4, xs, h5, h6, h7⟩
theorem TreeAt.mk {n : Nat} {w : World} {x : TV} {T : Tr} (h1 : x.lf = T.leaf) (h2 : Row w x.p T.pairs.length (flatP T.pairs)) (h3 : Row w x.c T.cuts.length (flatI T.cuts)) (h4 : Row w x.b T.buf.length (flatM T.buf)) (h5 : TreesAt n w x.k T.kids) : TreeAt (n + 1) w x T := by
 obtain ⟨xs, h5, h6, h7⟩ := h5
 exact ⟨h1, h2, h3, h4, xs, h5, h6, h7⟩

def sizeT : Nat → Tr → Nat
 | 0, _ => 0
 | n + 1, T => T.pairs.length + (T.cuts.length + (T.kids.length + (T.kids.map (sizeT n)).sum + T.buf.length))
def sizeTs (n : Nat) (ts : List Tr) : Nat := ts.length + (ts.map (sizeT n)).sum
def sumTo (n : Nat) (ts : List Tr) (k : Nat) : Nat := ((ts.take k).map (sizeT n)).sum
theorem sumTo_succ (n : Nat) (ts : List Tr) (k : Nat) (h : k < ts.length) : sumTo n ts (k + 1) = sumTo n ts k + sizeT n (ts.getD k noTr) := by
 rw [sumTo, sumTo, List.take_succ_eq_append_getElem h, List.map_append, List.sum_append]
 simp [List.getD, h]
theorem sumTo_all (n : Nat) (ts : List Tr) : sumTo n ts ts.length = (ts.map (sizeT n)).sum := by simp [sumTo]
theorem sumTo_le (n : Nat) (ts : List Tr) : ∀ k, sumTo n ts k ≤ (ts.map (sizeT n)).sum := by
 intro k
 have h : (ts.map (sizeT n)).sum = ((ts.take k).map (sizeT n)).sum + ((ts.drop k).map (sizeT n)).sum := by
  rw [← List.sum_append, ← List.map_append, List.take_append_drop]
 rw [sumTo, h]
 omega
def leftOf (left : Int) (n : Nat) : Int := if (n : Int) ≤ left then left - n else -1
end
section
open Go.RowKit

theorem szIntS_any (a : Option Addr) (n cap : Nat) (left : Int) (hn : n ≤ maxLen) (hl : 0 ≤ left) (hl2 : left ≤ 1048576) (w : World) :
  Calls Try.prog 42 #[.slice a n cap, .int .i64 left] w fun e w' => e = .returned (.int .i64 (if (n : Int) ≤ left then left - n else -1)) ∧ w' = w := by
 unfold maxLen at hn
 by_cases h : (n : Int) ≤ left
 ·go_enter Try.func42, Try.ntmps42
  go_wp2
  go_ret
  exact ⟨rfl, rfl⟩
 ·go_enter Try.func42, Try.ntmps42
  go_wp2
  go_ret
  exact ⟨rfl, rfl⟩

def SzTree (n : Nat) : Prop := ∀ (x : TV) (T : Tr) (left : Int) (w : World), TreeAt n w x T → 0 ≤ left → left ≤ 1048576 →
  Calls Try.prog 56 #[x.val, .int .i64 left] w fun e w' => e = .returned (.int .i64 (leftOf left (sizeT n T))) ∧ Below w.heap.size w w'
def SzTreeS (n : Nat) : Prop := ∀ (v : Value) (ts : List Tr) (left : Int) (w : World), TreesAt n w v ts → 0 ≤ left → left ≤ 1048576 →
  Calls Try.prog 62 #[v, .int .i64 left] w fun e w' => e = .returned (.int .i64 (leftOf left (sizeTs n ts))) ∧ Below w.heap.size w w'

theorem leftOf_yes {left : Int} {n : Nat} (h : (n : Int) ≤ left) : leftOf left n = left - n := if_pos h
theorem leftOf_no {left : Int} {n : Nat} (h : ¬ (n : Int) ≤ left) : leftOf left n = -1 := if_neg h

theorem szTreeS_of {n : Nat} (H : SzTree n) : SzTreeS n := by
 intro v ts left w hts hl0 hl1
 obtain ⟨xs, hxl, hrow, hk⟩ := hts
 obtain ⟨a, b, off, cap, rfl, hcap, hmax, ha, c0, c1, c2, c3, c4⟩ := hrow.trees
 unfold maxLen at hmax
 have XL : Hid (xs.length = ts.length) := hxl
 clear hxl
 by_cases hl : (xs.length : Int) ≤ left
 ·go_enter Try.func62, Try.ntmps62
  go_wp2
  go_loopw [1, 5] (fun lf i wr => ∃ (k : Nat) (y : Int), k ≤ xs.length ∧ i = .int .i64 k ∧ lf = .int .i64 y ∧ 0 ≤ y ∧ y ≤ 1048576 ∧ Hid (y = left - xs.length - sumTo n ts k) ∧ Below w.heap.size w wr)
   (fun _ i _ => xs.length - (intOf i).toNat)
  case atStart => exact ⟨0, left - xs.length, Nat.zero_le _, rfl, rfl, by omega, by omega, by show _ = _; simp [sumTo], Below.refl _ _⟩
  case round =>
   obtain ⟨k, y, hkl, rfl, rfl, hy0, hy1, YE, hb⟩ := hrel
   by_cases hlt : k < xs.length
   ·have hal := ha (by omega)
    subst hal
    have d0 := (hb.cell (by exact cell_lt (c0 k hlt))).trans (c0 k hlt)
    have d1 := (hb.cell (by exact cell_lt (c1 k hlt))).trans (c1 k hlt)
    have d2 := (hb.cell (by exact cell_lt (c2 k hlt))).trans (c2 k hlt)
    have d3 := (hb.cell (by exact cell_lt (c3 k hlt))).trans (c3 k hlt)
    have d4 := (hb.cell (by exact cell_lt (c4 k hlt))).trans (c4 k hlt)
    have T0 : Hid (TreeAt n wr (tvAt xs k) (ts.getD k noTr)) := (hk k hlt).below hb
    have S1 : Hid (sumTo n ts (k + 1) = sumTo n ts k + sizeT n (ts.getD k noTr)) := sumTo_succ n ts k (by have := XL.out; omega)
    have S2 : Hid (sumTo n ts (k + 1) ≤ (ts.map (sizeT n)).sum) := sumTo_le n ts (k + 1)
    clear c0 c1 c2 c3 c4 hk hrow ha
    by_cases hfit : (sizeT n (ts.getD k noTr) : Int) ≤ y
    ·go_wp2_with fail
     refine (H (tvAt xs k) _ _ _ T0.out hy0 hy1).mono ?_
     rintro e w1 ⟨he, hb1⟩
     rw [leftOf_yes hfit] at he
     subst he
     have Y2 : Hid (y - (sizeT n (ts.getD k noTr) : Int) = left - xs.length - sumTo n ts (k + 1)) := by
      have e1 := YE.out; have e2 := S1.out
      show _ = _
      omega
     clear YE S1 S2 T0 d0 d1 d2 d3 d4
     generalize sizeT n (ts.getD k noTr) = s at *
     go_wp2
     go_roundw
     case rel => exact ⟨k + 1, _, by omega, by go_num, rfl, by omega, by omega, Y2, Below.and hb hb1⟩
     case measure => simp [intOf]; omega
    ·go_wp2_with fail
     refine (H (tvAt xs k) _ _ _ T0.out hy0 hy1).mono ?_
     rintro e w1 ⟨he, hb1⟩
     rw [leftOf_no (by omega)] at he
     subst he
     have Y2 : Hid (leftOf left (sizeTs n ts) = -1) := by
      have e1 := YE.out; have e2 := S1.out; have e3 := S2.out; have e4 := XL.out
      refine leftOf_no ?_
      unfold sizeTs
      omega
     clear YE S1 S2 T0 d0 d1 d2 d3 d4
     generalize sizeT n (ts.getD k noTr) = s at *
     go_wp2
     go_ret
     exact ⟨ret_int Y2.out.symm, Below.and hb hb1⟩
   ·have hkk : k = xs.length := by omega
    subst hkk
    have Y2 : Hid (leftOf left (sizeTs n ts) = y) := by
     have e1 := YE.out
     rw [XL.out, sumTo_all] at e1
     show _ = _
     rw [leftOf_yes (by have := XL.out; unfold sizeTs; omega)]
     unfold sizeTs
     omega
    clear c0 c1 c2 c3 c4 hk hrow ha YE
    go_wp2
    go_ret
    exact ⟨ret_int Y2.out.symm, hb⟩
 ·have Y2 : Hid (leftOf left (sizeTs n ts) = -1) := leftOf_no (by have := XL.out; unfold sizeTs; omega)
  go_enter Try.func62, Try.ntmps62
  go_wp2
  go_ret
  exact ⟨ret_int Y2.out.symm, Below.refl _ _⟩

theorem szTree_of {n : Nat} (H : SzTreeS n) : SzTree (n + 1) := by
 intro x T left w ht hl0 hl1
 obtain ⟨lf, p, c, k, b⟩ := x
 obtain ⟨_, hp, hc, hb, hk⟩ := ht.parts
 simp only at hp hc hb hk
 obtain ⟨a1, cap1, rfl, m1⟩ := hp.len
 obtain ⟨a2, cap2, rfl, m2⟩ := hc.len
 obtain ⟨a4, cap4, rfl, m4⟩ := hb.len
 have KK : Hid (TreesAt n w k T.kids) := hk
 have hS : Hid (sizeT (n + 1) T = T.pairs.length + (T.cuts.length + (sizeTs n T.kids + T.buf.length))) := rfl
 clear hp hc hb hk ht
 show Calls Try.prog 56 #[.agg #[.bool lf, .slice a1 T.pairs.length cap1, .slice a2 T.cuts.length cap2, k, .slice a4 T.buf.length cap4], .int .i64 left] w _
 by_cases f1 : (T.pairs.length : Int) ≤ left
 ·by_cases f2 : (T.cuts.length : Int) ≤ left - T.pairs.length
  ·by_cases f3 : (sizeTs n T.kids : Int) ≤ left - T.pairs.length - T.cuts.length
   ·by_cases f4 : (T.buf.length : Int) ≤ left - T.pairs.length - T.cuts.length - sizeTs n T.kids
    all_goals
     go_enter Try.func56, Try.ntmps56
     go_wp2_with fail
     refine (szPairS_any _ _ _ _ m1 (by omega) (by omega) _).mono ?_
     rintro e w1 ⟨rfl, rfl⟩
     go_wp2_with fail
     refine (szIntS_any _ _ _ _ m2 (by omega) (by omega) _).mono ?_
     rintro e w1 ⟨rfl, rfl⟩
     go_wp2_with fail
     refine (H _ T.kids _ _ (KK.out.below ((Below.refl _ _).alloc (Nat.le_refl _) _)) (by omega) (by omega)).mono ?_
     rintro e w1 ⟨he, hb1⟩
     rw [leftOf_yes f3] at he
     subst he
     obtain ⟨hc, hf⟩ := bcell hb1
     have BB : Hid (Below w.heap.size w w1) := ((Below.refl _ _).alloc (Nat.le_refl _) _).trans (hb1.mono (by simp))
     clear hb1
     generalize sizeTs n T.kids = s at *
     go_wp2_with fail
     refine (szMsgS_any _ _ _ _ m4 (by omega) (by omega) _).mono ?_
     rintro e w1 ⟨rfl, rfl⟩
     go_wp2
     go_ret
     refine ⟨ret_int ?_, BB.out⟩
     rw [hS.out]
     unfold leftOf
     split <;> omega
   ·go_enter Try.func56, Try.ntmps56
    go_wp2_with fail
    refine (szPairS_any _ _ _ _ m1 (by omega) (by omega) _).mono ?_
    rintro e w1 ⟨rfl, rfl⟩
    go_wp2_with fail
    refine (szIntS_any _ _ _ _ m2 (by omega) (by omega) _).mono ?_
    rintro e w1 ⟨rfl, rfl⟩
    go_wp2_with fail
    refine (H _ T.kids _ _ (KK.out.below ((Below.refl _ _).alloc (Nat.le_refl _) _)) (by omega) (by omega)).mono ?_
    rintro e w1 ⟨he, hb1⟩
    rw [leftOf_no (by omega)] at he
    subst he
    have BB : Hid (Below w.heap.size w w1) := ((Below.refl _ _).alloc (Nat.le_refl _) _).trans (hb1.mono (by simp))
    clear hb1
    generalize sizeTs n T.kids = s at *
    go_wp2
    go_ret
    refine ⟨ret_int ?_, BB.out⟩
    rw [hS.out]
    unfold leftOf
    split <;> omega
  ·go_enter Try.func56, Try.ntmps56
   go_wp2_with fail
   refine (szPairS_any _ _ _ _ m1 (by omega) (by omega) _).mono ?_
   rintro e w1 ⟨rfl, rfl⟩
   go_wp2_with fail
   refine (szIntS_any _ _ _ _ m2 (by omega) (by omega) _).mono ?_
   rintro e w1 ⟨rfl, rfl⟩
   go_wp2
   go_ret
   refine ⟨ret_int ?_, (Below.refl _ _).alloc (Nat.le_refl _) _⟩
   rw [hS.out]
   unfold leftOf
   split <;> omega
 ·go_enter Try.func56, Try.ntmps56
  go_wp2_with fail
  refine (szPairS_any _ _ _ _ m1 (by omega) (by omega) _).mono ?_
  rintro e w1 ⟨rfl, rfl⟩
  go_wp2
  go_ret
  refine ⟨ret_int ?_, (Below.refl _ _).alloc (Nat.le_refl _) _⟩
  rw [hS.out]
  unfold leftOf
  split <;> omega

theorem szTree_any : ∀ n, SzTree n
 | 0 => fun _ _ _ _ h => h.elim
 | n + 1 => szTree_of (szTreeS_of (szTree_any n))
end
section
open Go.RowKit

theorem il_ext {l1 l2 : List Int} (hl : l1.length = l2.length) (h : ∀ i, i < l1.length → iAt l1 i = iAt l2 i) : l1 = l2 := by
 apply List.ext_getElem hl
 intro i h1 h2
 have := h i h1
 simpa [iAt, List.getD, h1, h2] using this

theorem eqIntS_any (v1 v2 : Value) (l1 l2 : List Int) (w : World) (h1 : Row w v1 l1.length (flatI l1)) (h2 : Row w v2 l2.length (flatI l2)) :
  Calls Try.prog 53 #[v1, v2] w fun e w' => e = .returned (.bool (decide (l1 = l2))) ∧ Below w.heap.size w w' := by
 obtain ⟨a, b, off, cap, rfl, hcap, hmax, ha, hk⟩ := h1.ints
 obtain ⟨a2, b2, off2, cap2, rfl, hcap2, hmax2, ha2, hk2⟩ := h2.ints
 unfold maxLen at hmax hmax2
 by_cases hl : l1.length = l2.length
 ·have hne : ((l1.length : Int) != (l2.length : Int)) = false := by rw [bne_eq_false_iff_eq]; omega
  have HL : Hid (l1.length = l2.length) := hl
  have hl2 : l1.length ≤ l2.length := by omega
  clear hl
  go_enter Try.func53, Try.ntmps53
  go_wp2
  go_loopw [5] (fun i wr => ∃ k : Nat, k ≤ l1.length ∧ i = .int .i64 k ∧ Hid (∀ i, i < k → iAt l1 i = iAt l2 i) ∧ Below w.heap.size w wr)
   (fun i _ => l1.length - (intOf i).toNat)
  case atStart => exact ⟨0, Nat.zero_le _, rfl, fun i hi => absurd hi (Nat.not_lt_zero _), Below.refl _ _⟩
  case round =>
   obtain ⟨k, hkl, rfl, ALL, hb⟩ := hrel
   by_cases hlt : k < l1.length
   ·have hal := ha (by omega)
    subst hal
    have hal2 := ha2 (by omega)
    subst hal2
    have hlt2 : k < l2.length := by omega
    have d0 := (hb.cell (by exact cell_lt (hk k hlt))).trans (hk k hlt)
    have d1 := (hb.cell (by exact cell_lt (hk2 k hlt2))).trans (hk2 k hlt2)
    clear hk ha hk2 ha2
    by_cases hq : iAt l1 k = iAt l2 k
    ·have hq' : (iAt l1 k != iAt l2 k) = false := by rw [bne_eq_false_iff_eq]; exact hq
     have EQ : Hid (iAt l1 k = iAt l2 k) := hq
     clear hq
     go_wp2_with fail
     go_quiet (fail)
     go_wp2
     go_roundw
     case rel => exact ⟨k + 1, by omega, by go_num, fun i hi => if h : i < k then ALL.out i h else by rw [show i = k by omega]; exact EQ.out, below_drewN hb _⟩
     case measure => simp [intOf]; omega
    ·have hq' : (iAt l1 k != iAt l2 k) = true := by rw [bne_iff_ne]; exact hq
     have NE : Hid (decide (l1 = l2) = false) := decide_eq_false (fun e => hq (by rw [e]))
     clear hq
     go_wp2_with fail
     go_quiet (fail)
     go_wp2
     go_ret
     exact ⟨ret_bool NE.out.symm, below_drewN hb _⟩
   ·go_wp2
    go_ret
    refine ⟨ret_bool ?_, hb⟩
    symm
    rw [decide_eq_true_iff]
    exact il_ext HL.out (fun i hi => ALL.out i (by omega))
 ·have hne : ((l1.length : Int) != (l2.length : Int)) = true := by rw [bne_iff_ne]; omega
  go_enter Try.func53, Try.ntmps53
  go_wp2
  go_ret
  refine ⟨ret_bool ?_, Below.refl _ _⟩
  symm
  rw [decide_eq_false_iff_not]
  intro h; exact hl (by rw [h])

def EqTree (n : Nat) : Prop := ∀ (x y : TV) (T : Tr) (w : World), TreeAt n w x T → TreeAt n w y T →
  Calls Try.prog 59 #[x.val, y.val] w fun e w' => e = .returned (.bool true) ∧ Below w.heap.size w w'
def EqTreeS (n : Nat) : Prop := ∀ (v u : Value) (ts : List Tr) (w : World), TreesAt n w v ts → TreesAt n w u ts →
  Calls Try.prog 68 #[v, u] w fun e w' => e = .returned (.bool true) ∧ Below w.heap.size w w'

theorem eqTreeS_of {n : Nat} (H : EqTree n) : EqTreeS n := by
 intro v u ts w hv hu
 obtain ⟨xs, hxl, hrow, hk⟩ := hv
 obtain ⟨ys, hyl, hrow2, hk2⟩ := hu
 obtain ⟨a, b, off, cap, rfl, hcap, hmax, ha, c0, c1, c2, c3, c4⟩ := hrow.trees
 obtain ⟨a2, b2, off2, cap2, rfl, hcap2, hmax2, ha2, g0, g1, g2, g3, g4⟩ := hrow2.trees
 unfold maxLen at hmax hmax2
 have hl2 : xs.length ≤ ys.length := by omega
 have hne : ((xs.length : Int) != (ys.length : Int)) = false := by rw [bne_eq_false_iff_eq]; omega
 clear hxl hyl
 go_enter Try.func68, Try.ntmps68
 go_wp2
 go_loopw [5] (fun i wr => ∃ k : Nat, k ≤ xs.length ∧ i = .int .i64 k ∧ Below w.heap.size w wr)
  (fun i _ => xs.length - (intOf i).toNat)
 case atStart => exact ⟨0, Nat.zero_le _, rfl, Below.refl _ _⟩
 case round =>
  obtain ⟨k, hkl, rfl, hb⟩ := hrel
  by_cases hlt : k < xs.length
  ·have hal := ha (by omega)
   subst hal
   have hal2 := ha2 (by omega)
   subst hal2
   have hlt2 : k < ys.length := by omega
   have d0 := (hb.cell (by exact cell_lt (c0 k hlt))).trans (c0 k hlt)
   have d1 := (hb.cell (by exact cell_lt (c1 k hlt))).trans (c1 k hlt)
   have d2 := (hb.cell (by exact cell_lt (c2 k hlt))).trans (c2 k hlt)
   have d3 := (hb.cell (by exact cell_lt (c3 k hlt))).trans (c3 k hlt)
   have d4 := (hb.cell (by exact cell_lt (c4 k hlt))).trans (c4 k hlt)
   have e0 := (hb.cell (by exact cell_lt (g0 k hlt2))).trans (g0 k hlt2)
   have e1 := (hb.cell (by exact cell_lt (g1 k hlt2))).trans (g1 k hlt2)
   have e2 := (hb.cell (by exact cell_lt (g2 k hlt2))).trans (g2 k hlt2)
   have e3 := (hb.cell (by exact cell_lt (g3 k hlt2))).trans (g3 k hlt2)
   have e4 := (hb.cell (by exact cell_lt (g4 k hlt2))).trans (g4 k hlt2)
   have T0 : Hid (TreeAt n wr.drew (tvAt xs k) (ts.getD k noTr)) := (hk k hlt).below hb.drew
   have T1 : Hid (TreeAt n wr.drew (tvAt ys k) (ts.getD k noTr)) := (hk2 k hlt2).below hb.drew
   clear c0 c1 c2 c3 c4 hk hrow ha g0 g1 g2 g3 g4 hk2 hrow2 ha2
   go_wp2_with fail
   go_region_with (go_at_call 59; refine (H (tvAt xs k) (tvAt ys k) _ _ T0.out T1.out).mono ?_; rintro e w1 ⟨rfl, hb1⟩)
   all_goals
    go_wp2
    go_roundw
    case rel => exact ⟨k + 1, by omega, by go_num, hb.drew.trans (hb1.mono hb.size)⟩
    case measure => simp [intOf]; omega
  ·clear c0 c1 c2 c3 c4 hk hrow ha g0 g1 g2 g3 g4 hk2 hrow2 ha2
   go_wp2
   go_ret
   exact ⟨rfl, hb⟩

structure TwoAt (u : World) (B : Nat) (A Z : Array Value) : Prop where
 h0 : u.heap[B]? = some (.cells A 90 (0, 0))
 h1 : u.heap[B + 1]? = some (.cells Z 90 (0, 0))
theorem TwoAt.step {u w' : World} {B : Nat} {A Z : Array Value} (h : TwoAt u B A Z) (hb : Below u.heap.size u w') : TwoAt w' B A Z := by
 have hs := (Array.getElem?_eq_some_iff.1 h.h1).1
 exact ⟨(hb.block _ (by omega)).trans h.h0, (hb.block _ (by omega)).trans h.h1⟩
theorem TwoAt.cells {u : World} {B : Nat} {A Z : Array Value} (h : TwoAt u B A Z) : (∀ j, u.cell? ⟨B, j, none⟩ = A[j]?) ∧ (∀ j, u.cell? ⟨B + 1, j, none⟩ = Z[j]?) :=
 ⟨fun j => cell_of_row u B j A 90 (0, 0) h.h0, fun j => cell_of_row u (B + 1) j Z 90 (0, 0) h.h1⟩
theorem TwoAt.start (w : World) (A Z : Array Value) : TwoAt ((w.alloc (.cells A 90)).alloc (.cells Z 90)) w.heap.size A Z := by
 have e : ∀ (x : World) (o : Obj), (x.alloc o).heap.size = x.heap.size + 1 := fun x o => by simp
 have k1 : ∀ (x : World) (o : Obj) (g : Nat), g < x.heap.size → (x.alloc o).heap[g]? = x.heap[g]? := fun x o g hg => ((Below.refl x.heap.size x).alloc (Nat.le_refl _) o).block g hg
 refine ⟨?_, ?_⟩
 ·rw [k1 _ _ _ (by rw [e]; omega)]; exact heap_alloc_new w _
 ·rw [← e w (.cells A 90)]; exact heap_alloc_new _ _

theorem eqTree_of {n : Nat} (H : EqTreeS n) : EqTree (n + 1) := by
 intro x y T w ht hu
 obtain ⟨lf, p, c, k, b⟩ := x
 obtain ⟨lf2, p2, c2, k2, b2⟩ := y
 obtain ⟨hlf, hp, hc, hb, hk⟩ := ht.parts
 obtain ⟨hlf2, hp2, hc2, hb2, hk2⟩ := hu.parts
 simp only at hlf hp hc hb hk hlf2 hp2 hc2 hb2 hk2
 subst hlf
 subst hlf2
 have R1 : Hid (Row w p T.pairs.length (flatP T.pairs)) := hp
 have R2 : Hid (Row w c T.cuts.length (flatI T.cuts)) := hc
 have R3 : Hid (TreesAt n w k T.kids) := hk
 have R4 : Hid (Row w b T.buf.length (flatM T.buf)) := hb
 have Q1 : Hid (Row w p2 T.pairs.length (flatP T.pairs)) := hp2
 have Q2 : Hid (Row w c2 T.cuts.length (flatI T.cuts)) := hc2
 have Q3 : Hid (TreesAt n w k2 T.kids) := hk2
 have Q4 : Hid (Row w b2 T.buf.length (flatM T.buf)) := hb2
 clear hp hc hb hk ht hp2 hc2 hb2 hk2 hu
 have hlf : (T.leaf != T.leaf) = false := by simp
 show Calls Try.prog 59 #[.agg #[.bool T.leaf, p, c, k, b], .agg #[.bool T.leaf, p2, c2, k2, b2]] w _
 have B0 : Hid (Below w.heap.size w ((w.alloc (.cells #[.bool T.leaf, p, c, k, b] 90)).alloc (.cells #[.bool T.leaf, p2, c2, k2, b2] 90))) := ((Below.refl _ _).alloc (Nat.le_refl _) _).alloc (by simp) _
 have S0 : Hid (TwoAt _ w.heap.size _ _) := TwoAt.start w #[.bool T.leaf, p, c, k, b] #[.bool T.leaf, p2, c2, k2, b2]
 go_enter Try.func59, Try.ntmps59
 go_wp2_with fail
 refine (eqPairS_any _ _ _ _ _ (R1.out.below B0.out) (Q1.out.below B0.out)).mono ?_
 rintro e w1 ⟨he, hb1⟩
 rw [decide_eq_true rfl] at he
 subst he
 have B1 : Hid (Below w.heap.size w w1) := Below.and B0.out hb1
 have S1 : Hid (TwoAt w1 w.heap.size #[.bool T.leaf, p, c, k, b] #[.bool T.leaf, p2, c2, k2, b2]) := S0.out.step hb1
 obtain ⟨k0, k1⟩ := S1.out.cells
 clear B0 S0 hb1
 go_wp2_with fail
 refine (eqIntS_any _ _ _ _ _ (R2.out.below B1.out) (Q2.out.below B1.out)).mono ?_
 rintro e w2 ⟨he, hb2⟩
 rw [decide_eq_true rfl] at he
 subst he
 have B2 : Hid (Below w.heap.size w w2) := Below.and B1.out hb2
 have S2 : Hid (TwoAt w2 w.heap.size #[.bool T.leaf, p, c, k, b] #[.bool T.leaf, p2, c2, k2, b2]) := S1.out.step hb2
 clear B1 S1 hb2 k0 k1
 obtain ⟨k0, k1⟩ := S2.out.cells
 go_wp2_with fail
 refine (H _ _ T.kids _ (R3.out.below B2.out) (Q3.out.below B2.out)).mono ?_
 rintro e w3 ⟨rfl, hb3⟩
 have B3 : Hid (Below w.heap.size w w3) := Below.and B2.out hb3
 have S3 : Hid (TwoAt w3 w.heap.size #[.bool T.leaf, p, c, k, b] #[.bool T.leaf, p2, c2, k2, b2]) := S2.out.step hb3
 clear B2 S2 hb3 k0 k1
 obtain ⟨k0, k1⟩ := S3.out.cells
 go_wp2_with fail
 refine (eqMsgS_any _ _ _ _ _ (R4.out.below B3.out) (Q4.out.below B3.out)).mono ?_
 rintro e w4 ⟨he, hb4⟩
 rw [decide_eq_true rfl] at he
 subst he
 have B4 : Hid (Below w.heap.size w w4) := Below.and B3.out hb4
 clear B3 S3 hb4 k0 k1
 go_wp2
 go_ret
 exact ⟨rfl, B4.out⟩

theorem eqTree_any : ∀ n, EqTree n
 | 0 => fun _ _ _ _ h => h.elim
 | n + 1 => eqTree_of (eqTreeS_of (eqTree_any n))
end
end Go.Proofs.Ythfmifdpldmbaaa
