/-
  Lists of what was done last as rows of cells; the laws' own functions on them, and slices.Equal of two.
  Boxes: a variable's block, framed.
  Trees of messages as plain data, and what it is that a struct's value leads to one.
  Contracts of the laws' own functions that measure a tree.
  Contracts of the laws' own functions that hold two trees against each other.
  Trees that own their memory; contracts of the laws' own functions that copy a tree.
  Contracts of the laws' own functions that copy a tree, of any height.
  Machines in memory: the laws' own functions on them.
-/
import Derived.Test.YtdcladffnjikkaaOfWn1
namespace Go.Proofs.Ytdcladffnjikkaa
set_option maxRecDepth 100000
set_option maxHeartbeats 8000000
section
open Go.RowKit

abbrev Dn := Int × Int × Int × Bool
abbrev DL := List Dn
abbrev dn0 : Dn := (0, 0, 0, false)
def dC (l : DL) (i : Nat) : Int := (l.getD i dn0).1
def dS (l : DL) (i : Nat) : Int := (l.getD i dn0).2.1
def dV (l : DL) (i : Nat) : Int := (l.getD i dn0).2.2.1
def dH (l : DL) (i : Nat) : Bool := (l.getD i dn0).2.2.2
theorem dl_at (l : DL) (i : Nat) (h : i < l.length) : l[i] = (dC l i, dS l i, dV l i, dH l i) := by simp [dC, dS, dV, dH, List.getD, h]
theorem dl_ext {l1 l2 : DL} (hl : l1.length = l2.length) (h : ∀ i, i < l1.length → dC l1 i = dC l2 i ∧ dS l1 i = dS l2 i ∧ dV l1 i = dV l2 i ∧ dH l1 i = dH l2 i) : l1 = l2 := by
 apply List.ext_getElem hl
 intro i h1 h2
 rw [dl_at l1 i h1, dl_at l2 i h2, (h i h1).1, (h i h1).2.1, (h i h1).2.2.1, (h i h1).2.2.2]
def flatD (l : DL) : List Value := l.flatMap fun m => [.int .i64 m.1, .int .i64 m.2.1, .int .i64 m.2.2.1, .bool m.2.2.2]
theorem flatD_cons (m : Dn) (l : DL) : flatD (m :: l) = .int .i64 m.1 :: .int .i64 m.2.1 :: .int .i64 m.2.2.1 :: .bool m.2.2.2 :: flatD l := rfl
theorem flatD_length (l : DL) : (flatD l).length = l.length * 4 := by
 induction l with
 | nil => rfl
 | cons a l ih => rw [flatD_cons]; simp only [List.length_cons]; omega
theorem flatD_at (l : DL) : ∀ i, i < l.length → (flatD l)[i * 4]? = some (.int .i64 (dC l i)) ∧ (flatD l)[i * 4 + 1]? = some (.int .i64 (dS l i)) ∧ (flatD l)[i * 4 + 2]? = some (.int .i64 (dV l i)) ∧ (flatD l)[i * 4 + 3]? = some (.bool (dH l i)) := by
 induction l with
 | nil => intro i h; simp at h
 | cons a l ih =>
  intro i h
  cases i with
  | zero => simp [flatD_cons, dC, dS, dV, dH]
  | succ i =>
   have := ih i (by simpa using h)
   have e1 : (i + 1) * 4 = i * 4 + 1 + 1 + 1 + 1 := by omega
   have e2 : (i + 1) * 4 + 1 = (i * 4 + 1) + 1 + 1 + 1 + 1 := by omega
   have e3 : (i + 1) * 4 + 2 = (i * 4 + 2) + 1 + 1 + 1 + 1 := by omega
   have e4 : (i + 1) * 4 + 3 = (i * 4 + 3) + 1 + 1 + 1 + 1 := by omega
   rw [e4, e3, e2, e1, flatD_cons]
   simpa [dC, dS, dV, dH] using this
theorem flatD_set (l : DL) (a b c : Int) (d : Bool) : ∀ i, i < l.length → ((((flatD l).set (i * 4) (.int .i64 a)).set (i * 4 + 1) (.int .i64 b)).set (i * 4 + 2) (.int .i64 c)).set (i * 4 + 3) (.bool d) = flatD (l.set i (a, b, c, d)) := by
 induction l with
 | nil => intro i h; simp at h
 | cons p l ih =>
  intro i h
  cases i with
  | zero => simp [flatD_cons]
  | succ i =>
   have := ih i (by simpa using h)
   rw [flatD_cons, List.set_cons_succ, flatD_cons, show (i + 1) * 4 + 3 = (i * 4 + 3) + 1 + 1 + 1 + 1 by omega, show (i + 1) * 4 + 2 = (i * 4 + 2) + 1 + 1 + 1 + 1 by omega, show (i + 1) * 4 = i * 4 + 1 + 1 + 1 + 1 by omega]
   simp only [List.set_cons_succ]
   rw [this]

theorem Row.dones {w : World} {v : Value} {l : DL} (h : Row w v l.length (flatD l)) :
  ∃ (a : Option Addr) (b off cap : Nat), v = .slice a l.length cap ∧ l.length ≤ cap ∧ cap ≤ maxLen ∧ (0 < l.length → a = some ⟨b, off, none⟩) ∧
   (∀ i, i < l.length → w.cell? ⟨b, off + i * 4, none⟩ = some (.int .i64 (dC l i))) ∧ (∀ i, i < l.length → w.cell? ⟨b, off + i * 4 + 1, none⟩ = some (.int .i64 (dS l i))) ∧ (∀ i, i < l.length → w.cell? ⟨b, off + i * 4 + 2, none⟩ = some (.int .i64 (dV l i))) ∧ (∀ i, i < l.length → w.cell? ⟨b, off + i * 4 + 3, none⟩ = some (.bool (dH l i))) := by
 obtain ⟨a, b, off, cap, h1, h2, h3, h4, h5, _⟩ := h
 exact ⟨a, b, off, cap, h1, h2, h3, h4, fun i hi => h5 _ _ (flatD_at l i hi).1, fun i hi => h5 _ _ (flatD_at l i hi).2.1, fun i hi => h5 _ _ (flatD_at l i hi).2.2.1, fun i hi => h5 _ _ (flatD_at l i hi).2.2.2⟩

def eqDoneB (p q : Dn) : Bool := decide (p = q)
theorem ne_of_eqDoneB {l1 l2 : DL} {k : Nat} (h : eqDoneB (dC l1 k, dS l1 k, dV l1 k, dH l1 k) (dC l2 k, dS l2 k, dV l2 k, dH l2 k) = false) : l1 ≠ l2 := by
 intro e; subst e; simp [eqDoneB] at h
abbrev dnV (a b c : Int) (d : Bool) : Value := .agg #[.int .i64 a, .int .i64 b, .int .i64 c, .bool d]

theorem eqDone_any (a b c : Int) (d : Bool) (a2 b2 c2 : Int) (d2 : Bool) (w : World) :
  Calls Try.prog 37 #[dnV a b c d, dnV a2 b2 c2 d2] w fun r w' => r = .returned (.bool (eqDoneB (a, b, c, d) (a2, b2, c2, d2))) ∧ Below w.heap.size w w' := by
 cases d <;> cases d2 <;>
 ·go_enter Try.func37, Try.ntmps37
  go_wp2
  all_goals (go_ret; refine ⟨ret_bool ?_, ((Below.refl _ _).alloc (Nat.le_refl _) _).alloc (by simp) _⟩; simp_all [eqDoneB])

theorem eqDoneS_any (v1 v2 : Value) (l1 l2 : DL) (w : World) (h1 : Row w v1 l1.length (flatD l1)) (h2 : Row w v2 l2.length (flatD l2)) :
  Calls Try.prog 16 #[v1, v2] w fun e w' => e = .returned (.bool (decide (l1 = l2))) ∧ Below w.heap.size w w' := by
 obtain ⟨a, b, off, cap, rfl, hcap, hmax, ha, ho, hk, hv, hh⟩ := h1.dones
 obtain ⟨a2, b2, off2, cap2, rfl, hcap2, hmax2, ha2, ho2, hk2, hv2, hh2⟩ := h2.dones
 unfold maxLen at hmax hmax2
 by_cases hl : l1.length = l2.length
 ·have hne : ((l1.length : Int) != (l2.length : Int)) = false := by rw [bne_eq_false_iff_eq]; omega
  have HL : Hid (l1.length = l2.length) := hl
  have hl2 : l1.length ≤ l2.length := by omega
  clear hl
  go_enter Try.func16, Try.ntmps16
  go_wp2
  go_loopw [5] (fun i wr => ∃ k : Nat, k ≤ l1.length ∧ i = .int .i64 k ∧ (∀ i, i < k → dC l1 i = dC l2 i ∧ dS l1 i = dS l2 i ∧ dV l1 i = dV l2 i ∧ dH l1 i = dH l2 i) ∧ Below w.heap.size w wr)
   (fun i _ => l1.length - (intOf i).toNat)
  case atStart => exact ⟨0, Nat.zero_le _, rfl, fun i hi => absurd hi (Nat.not_lt_zero _), Below.refl _ _⟩
  case round =>
   obtain ⟨k, hkl, rfl, hall, hb⟩ := hrel
   have ALL : Hid (∀ i, i < k → dC l1 i = dC l2 i ∧ dS l1 i = dS l2 i ∧ dV l1 i = dV l2 i ∧ dH l1 i = dH l2 i) := hall
   clear hall
   by_cases hlt : k < l1.length
   ·have hal := ha (by omega)
    subst hal
    have hal2 := ha2 (by omega)
    subst hal2
    have hlt2 : k < l2.length := by omega
    have d0 := (hb.cell (by exact cell_lt (ho k hlt))).trans (ho k hlt)
    have d1 := (hb.cell (by exact cell_lt (hk k hlt))).trans (hk k hlt)
    have d2 := (hb.cell (by exact cell_lt (hv k hlt))).trans (hv k hlt)
    have d6 := (hb.cell (by exact cell_lt (hh k hlt))).trans (hh k hlt)
    have d3 := (hb.cell (by exact cell_lt (ho2 k hlt2))).trans (ho2 k hlt2)
    have d4 := (hb.cell (by exact cell_lt (hk2 k hlt2))).trans (hk2 k hlt2)
    have d5 := (hb.cell (by exact cell_lt (hv2 k hlt2))).trans (hv2 k hlt2)
    have d7 := (hb.cell (by exact cell_lt (hh2 k hlt2))).trans (hh2 k hlt2)
    clear ho hk hv hh ha ho2 hk2 hv2 hh2 ha2
    go_wp2_with fail
    cases hq : eqDoneB (dC l1 k, dS l1 k, dV l1 k, dH l1 k) (dC l2 k, dS l2 k, dV l2 k, dH l2 k)
    ·have NE : Hid (decide (l1 = l2) = false) := decide_eq_false (ne_of_eqDoneB hq)
     go_region_with (go_at_call 37; refine (eqDone_any _ _ _ _ _ _ _ _ _).mono ?_; rintro e w1 ⟨rfl, hb1⟩)
     all_goals
      go_wp2
      go_ret
      exact ⟨ret_bool NE.out.symm, hb.drew.trans (hb1.mono hb.size)⟩
    ·have EQ : Hid (dC l1 k = dC l2 k ∧ dS l1 k = dS l2 k ∧ dV l1 k = dV l2 k ∧ dH l1 k = dH l2 k) := by show _ ∧ _; simpa [eqDoneB] using hq
     go_region_with (go_at_call 37; refine (eqDone_any _ _ _ _ _ _ _ _ _).mono ?_; rintro e w1 ⟨rfl, hb1⟩)
     all_goals
      go_wp2
      go_roundw
      case rel => exact ⟨k + 1, by omega, by go_num, fun i hi => if h : i < k then ALL.out i h else by rw [show i = k by omega]; exact EQ.out, hb.drew.trans (hb1.mono hb.size)⟩
      case measure => simp [intOf]; omega
   ·go_wp2
    go_ret
    refine ⟨ret_bool ?_, hb⟩
    symm
    rw [decide_eq_true_iff]
    exact dl_ext HL.out (fun i hi => ALL.out i (by omega))
 ·have hne : ((l1.length : Int) != (l2.length : Int)) = true := by rw [bne_iff_ne]; omega
  go_enter Try.func16, Try.ntmps16
  go_wp2
  go_ret
  refine ⟨ret_bool ?_, Below.refl _ _⟩
  symm
  rw [decide_eq_false_iff_not]
  intro h; exact hl (by rw [h])

theorem Try.info78 : (Try.prog.info? 78).map (fun i => (i.zero, i.size, i.bytes)) = some (some (.agg #[.int .i64 0, .int .i64 0, .int .i64 0, .bool false]), 4, 32) := by kernel_rfl

def filledD (l : DL) (k : Nat) : DL := l.take k ++ List.replicate (l.length - k) dn0
end
section
open Go.RowKit

theorem bel_nw (w : World) (o : Obj) : Below w.heap.size w (w.alloc o) := (Below.refl _ _).alloc (Nat.le_refl _) _
def MBox (t : TypeId) (w : World) (B : Nat) (A : Array Value) : Prop := w.heap[B]? = some (.cells A t (0, 0))
theorem MBox.start (t : TypeId) (w : World) (A : Array Value) : MBox t (w.alloc (.cells A t)) w.heap.size A := heap_alloc_new w _
theorem MBox.step {t : TypeId} {w w' : World} {B : Nat} {A : Array Value} (h : MBox t w B A) (hb : Below w.heap.size w w') : MBox t w' B A := (hb.block B (Array.getElem?_eq_some_iff.1 h).1).trans h
theorem MBox.cells {t : TypeId} {w : World} {B : Nat} {A : Array Value} (h : MBox t w B A) : ∀ j, w.cell? ⟨B, j, none⟩ = A[j]? := fun j => cell_of_row _ _ j _ t (0, 0) h
end
section
open Go.RowKit

structure Tr where
 leaf : Bool
 pairs : List (Int × Int)
 cuts : List Int
 kids : List Tr
 buf : ML

structure TV where
 lf : Bool
 p : Value
 c : Value
 k : Value
 b : Value

def TV.cells (x : TV) : List Value := [.bool x.lf, x.p, x.c, x.k, x.b]
abbrev TV.val (x : TV) : Value := .agg #[.bool x.lf, x.p, x.c, x.k, x.b]
def flatT (l : List TV) : List Value := l.flatMap TV.cells
def flatI (l : List Int) : List Value := l.map (.int .i64)

def noTr : Tr := ⟨true, [], [], [], []⟩
def noTV : TV := ⟨false, .slice none 0 0, .slice none 0 0, .slice none 0 0, .slice none 0 0⟩
def kidT (T : Tr) (i : Nat) : Tr := T.kids.getD i noTr
def cutT (T : Tr) (i : Nat) : Int := T.cuts.getD i 0
def iAt (l : List Int) (i : Nat) : Int := l.getD i 0
def tvAt (l : List TV) (i : Nat) : TV := l.getD i noTV

theorem flatI_length (l : List Int) : (flatI l).length = l.length := by simp [flatI]
theorem flatI_at (l : List Int) (i : Nat) (h : i < l.length) : (flatI l)[i]? = some (.int .i64 (iAt l i)) := by simp [flatI, iAt, List.getD, h]
theorem flatT_cons (x : TV) (l : List TV) : flatT (x :: l) = .bool x.lf :: x.p :: x.c :: x.k :: x.b :: flatT l := rfl
theorem flatT_length (l : List TV) : (flatT l).length = l.length * 5 := by
 induction l with
 | nil => rfl
 | cons a l ih => rw [flatT_cons]; simp only [List.length_cons]; omega
theorem flatT_at (l : List TV) : ∀ i, i < l.length → (flatT l)[i * 5]? = some (.bool (tvAt l i).lf) ∧ (flatT l)[i * 5 + 1]? = some (tvAt l i).p ∧ (flatT l)[i * 5 + 2]? = some (tvAt l i).c ∧ (flatT l)[i * 5 + 3]? = some (tvAt l i).k ∧ (flatT l)[i * 5 + 4]? = some (tvAt l i).b := by
 induction l with
 | nil => intro i h; simp at h
 | cons a l ih =>
  intro i h
  cases i with
  | zero => simp [flatT_cons, tvAt]
  | succ i =>
   have := ih i (by simpa using h)
   rw [show (i + 1) * 5 = i * 5 + 1 + 1 + 1 + 1 + 1 by omega, flatT_cons]
   rw [show i * 5 + 1 + 1 + 1 + 1 + 1 + 1 = (i * 5 + 1) + 1 + 1 + 1 + 1 + 1 by omega, show i * 5 + 1 + 1 + 1 + 1 + 1 + 2 = (i * 5 + 2) + 1 + 1 + 1 + 1 + 1 by omega, show i * 5 + 1 + 1 + 1 + 1 + 1 + 3 = (i * 5 + 3) + 1 + 1 + 1 + 1 + 1 by omega, show i * 5 + 1 + 1 + 1 + 1 + 1 + 4 = (i * 5 + 4) + 1 + 1 + 1 + 1 + 1 by omega]
   simpa [tvAt] using this
theorem Row.ints {w : World} {v : Value} {l : List Int} (h : Row w v l.length (flatI l)) :
  ∃ (a : Option Addr) (b off cap : Nat), v = .slice a l.length cap ∧ l.length ≤ cap ∧ cap ≤ maxLen ∧ (0 < l.length → a = some ⟨b, off, none⟩) ∧
   (∀ i, i < l.length → w.cell? ⟨b, off + i, none⟩ = some (.int .i64 (iAt l i))) := by
 obtain ⟨a, b, off, cap, h1, h2, h3, h4, h5, _⟩ := h
 exact ⟨a, b, off, cap, h1, h2, h3, h4, fun i hi => h5 _ _ (flatI_at l i hi)⟩
theorem Row.trees {w : World} {v : Value} {l : List TV} (h : Row w v l.length (flatT l)) :
  ∃ (a : Option Addr) (b off cap : Nat), v = .slice a l.length cap ∧ l.length ≤ cap ∧ cap ≤ maxLen ∧ (0 < l.length → a = some ⟨b, off, none⟩) ∧
   (∀ i, i < l.length → w.cell? ⟨b, off + i * 5, none⟩ = some (.bool (tvAt l i).lf)) ∧ (∀ i, i < l.length → w.cell? ⟨b, off + i * 5 + 1, none⟩ = some (tvAt l i).p) ∧ (∀ i, i < l.length → w.cell? ⟨b, off + i * 5 + 2, none⟩ = some (tvAt l i).c) ∧
   (∀ i, i < l.length → w.cell? ⟨b, off + i * 5 + 3, none⟩ = some (tvAt l i).k) ∧ (∀ i, i < l.length → w.cell? ⟨b, off + i * 5 + 4, none⟩ = some (tvAt l i).b) := by
 obtain ⟨a, b, off, cap, h1, h2, h3, h4, h5, _⟩ := h
 exact ⟨a, b, off, cap, h1, h2, h3, h4, fun i hi => h5 _ _ (flatT_at l i hi).1, fun i hi => h5 _ _ (flatT_at l i hi).2.1, fun i hi => h5 _ _ (flatT_at l i hi).2.2.1, fun i hi => h5 _ _ (flatT_at l i hi).2.2.2.1, fun i hi => h5 _ _ (flatT_at l i hi).2.2.2.2⟩
theorem Row.len {w : World} {v : Value} {n : Nat} {xs : List Value} (h : Row w v n xs) : ∃ (a : Option Addr) (cap : Nat), v = .slice a n cap ∧ n ≤ maxLen := by
 obtain ⟨a, b, off, cap, h1, h2, h3, _⟩ := h
 exact ⟨a, cap, h1, Nat.le_trans h2 h3⟩

def TreeAt : Nat → World → TV → Tr → Prop
 | 0, _, _, _ => False
 | n + 1, w, x, T => x.lf = T.leaf ∧ Row w x.p T.pairs.length (flatP T.pairs) ∧ Row w x.c T.cuts.length (flatI T.cuts) ∧ Row w x.b T.buf.length (flatM T.buf) ∧
   ∃ xs : List TV, xs.length = T.kids.length ∧ Row w x.k xs.length (flatT xs) ∧ ∀ i, i < xs.length → TreeAt n w (tvAt xs i) (kidT T i)

def TreesAt (n : Nat) (w : World) (v : Value) (ts : List Tr) : Prop :=
 ∃ xs : List TV, xs.length = ts.length ∧ Row w v xs.length (flatT xs) ∧ ∀ i, i < xs.length → TreeAt n w (tvAt xs i) (ts.getD i noTr)

theorem TreeAt.below : ∀ {n : Nat} {w w' : World} {x : TV} {T : Tr}, TreeAt n w x T → Below w.heap.size w w' → TreeAt n w' x T
 | 0, _, _, _, _, h, _ => h
 | _ + 1, _, _, _, _, ⟨h1, h2, h3, h4, xs, h5, h6, h7⟩, hb => ⟨h1, h2.below hb, h3.below hb, h4.below hb, xs, h5, h6.below hb, fun i hi => (h7 i hi).below hb⟩
theorem TreesAt.below {n : Nat} {w w' : World} {v : Value} {ts : List Tr} (h : TreesAt n w v ts) (hb : Below w.heap.size w w') : TreesAt n w' v ts := by
 obtain ⟨xs, h5, h6, h7⟩ := h
 exact ⟨xs, h5, h6.below hb, fun i hi => (h7 i hi).below hb⟩
theorem TreeAt.parts {n : Nat} {w : World} {x : TV} {T : Tr} (h : TreeAt (n + 1) w x T) :
  x.lf = T.leaf ∧ Row w x.p T.pairs.length (flatP T.pairs) ∧ Row w x.c T.cuts.length (flatI T.cuts) ∧ Row w x.b T.buf.length (flatM T.buf) ∧ TreesAt n w x.k T.kids := by
 obtain ⟨h1, h2, h3, h4, xs, h5, h6, h7⟩ := h
 exact ⟨h1, h2, h3, h4, xs, h5, h6, h7⟩
theorem TreeAt.mk {n : Nat} {w : World} {x : TV} {T : Tr} (h1 : x.lf = T.leaf) (h2 : Row w x.p T.pairs.length (flatP T.pairs)) (h3 : Row w x.c T.cuts.length (flatI T.cuts)) (h4 : Row w x.b T.buf.length (flatM T.buf)) (h5 : TreesAt n w x.k T.kids) : TreeAt (n + 1) w x T := by
 obtain ⟨xs, h5, h6, h7⟩ := h5
 exact ⟨h1, h2, h3, h4, xs, h5, h6, h7⟩

def sizeT : Nat → Tr → Nat
 | 0, _ => 0
 | n + 1, T => T.pairs.length + (T.cuts.length + (T.kids.length + (T.kids.map (sizeT n)).sum + T.buf.length))
def sizeTs (n : Nat) (ts : List Tr) : Nat := ts.length + (ts.map (sizeT n)).sum
def sumTo (n : Nat) (ts : List Tr) (k : Nat) : Nat := ((ts.take k).map (sizeT n)).sum
theorem sumTo_succ (n : Nat) (ts : List Tr) (k : Nat) (h : k < ts.length) : sumTo n ts (k + 1) = sumTo n ts k + sizeT n (ts.getD k noTr) := by
 rw [sumTo, sumTo, List.take_succ_eq_append_getElem h, List.map_append, List.sum_append]
 simp [List.getD, h]
theorem sumTo_all (n : Nat) (ts : List Tr) : sumTo n ts ts.length = (ts.map (sizeT n)).sum := by simp [sumTo]
theorem sumTo_le (n : Nat) (ts : List Tr) : ∀ k, sumTo n ts k ≤ (ts.map (sizeT n)).sum := by
 intro k
 have h : (ts.map (sizeT n)).sum = ((ts.take k).map (sizeT n)).sum + ((ts.drop k).map (sizeT n)).sum := by
  rw [← List.sum_append, ← List.map_append, List.take_append_drop]
 rw [sumTo, h]
 omega
theorem sizeT_kid {n : Nat} {T : Tr} {i : Nat} (hi : i < T.kids.length) : sizeT n (kidT T i) + T.kids.length ≤ sizeT (n + 1) T := by
 have h1 := sumTo_le n T.kids (i + 1)
 rw [sumTo_succ n T.kids i hi] at h1
 show sizeT n (T.kids.getD i noTr) + _ ≤ T.pairs.length + (T.cuts.length + (T.kids.length + (T.kids.map (sizeT n)).sum + T.buf.length))
 omega

def leftOf (left : Int) (n : Nat) : Int := if (n : Int) ≤ left then left - n else -1
end
section
open Go.RowKit
end
section
open Go.RowKit

theorem il_ext {l1 l2 : List Int} (hl : l1.length = l2.length) (h : ∀ i, i < l1.length → iAt l1 i = iAt l2 i) : l1 = l2 := by
 apply List.ext_getElem hl
 intro i h1 h2
 have := h i h1
 simpa [iAt, List.getD, h1, h2] using this

theorem eqIntS_any (v1 v2 : Value) (l1 l2 : List Int) (w : World) (h1 : Row w v1 l1.length (flatI l1)) (h2 : Row w v2 l2.length (flatI l2)) :
  Calls Try.prog 60 #[v1, v2] w fun e w' => e = .returned (.bool (decide (l1 = l2))) ∧ Below w.heap.size w w' := by
 obtain ⟨a, b, off, cap, rfl, hcap, hmax, ha, hk⟩ := h1.ints
 obtain ⟨a2, b2, off2, cap2, rfl, hcap2, hmax2, ha2, hk2⟩ := h2.ints
 unfold maxLen at hmax hmax2
 by_cases hl : l1.length = l2.length
 ·have hne : ((l1.length : Int) != (l2.length : Int)) = false := by rw [bne_eq_false_iff_eq]; omega
  have HL : Hid (l1.length = l2.length) := hl
  have hl2 : l1.length ≤ l2.length := by omega
  clear hl
  go_enter Try.func60, Try.ntmps60
  go_wp2
  go_loopw [5] (fun i wr => ∃ k : Nat, k ≤ l1.length ∧ i = .int .i64 k ∧ Hid (∀ i, i < k → iAt l1 i = iAt l2 i) ∧ Below w.heap.size w wr)
   (fun i _ => l1.length - (intOf i).toNat)
  case atStart => exact ⟨0, Nat.zero_le _, rfl, fun i hi => absurd hi (Nat.not_lt_zero _), Below.refl _ _⟩
  case round =>
   obtain ⟨k, hkl, rfl, ALL, hb⟩ := hrel
   by_cases hlt : k < l1.length
   ·have hal := ha (by omega)
    subst hal
    have hal2 := ha2 (by omega)
    subst hal2
    have hlt2 : k < l2.length := by omega
    have d0 := (hb.cell (by exact cell_lt (hk k hlt))).trans (hk k hlt)
    have d1 := (hb.cell (by exact cell_lt (hk2 k hlt2))).trans (hk2 k hlt2)
    clear hk ha hk2 ha2
    by_cases hq : iAt l1 k = iAt l2 k
    ·have hq' : (iAt l1 k != iAt l2 k) = false := by rw [bne_eq_false_iff_eq]; exact hq
     have EQ : Hid (iAt l1 k = iAt l2 k) := hq
     clear hq
     go_wp2_with fail
     go_quiet (fail)
     go_wp2
     go_roundw
     case rel => exact ⟨k + 1, by omega, by go_num, fun i hi => if h : i < k then ALL.out i h else by rw [show i = k by omega]; exact EQ.out, below_drewN hb _⟩
     case measure => simp [intOf]; omega
    ·have hq' : (iAt l1 k != iAt l2 k) = true := by rw [bne_iff_ne]; exact hq
     have NE : Hid (decide (l1 = l2) = false) := decide_eq_false (fun e => hq (by rw [e]))
     clear hq
     go_wp2_with fail
     go_quiet (fail)
     go_wp2
     go_ret
     exact ⟨ret_bool NE.out.symm, below_drewN hb _⟩
   ·go_wp2
    go_ret
    refine ⟨ret_bool ?_, hb⟩
    symm
    rw [decide_eq_true_iff]
    exact il_ext HL.out (fun i hi => ALL.out i (by omega))
 ·have hne : ((l1.length : Int) != (l2.length : Int)) = true := by rw [bne_iff_ne]; omega
  go_enter Try.func60, Try.ntmps60
  go_wp2
  go_ret
  refine ⟨ret_bool ?_, Below.refl _ _⟩
  symm
  rw [decide_eq_false_iff_not]
  intro h; exact hl (by rw [h])

def EqTree (n : Nat) : Prop := ∀ (x y : TV) (T : Tr) (w : World), TreeAt n w x T → TreeAt n w y T →
  Calls Try.prog 68 #[x.val, y.val] w fun e w' => e = .returned (.bool true) ∧ Below w.heap.size w w'
def EqTreeS (n : Nat) : Prop := ∀ (v u : Value) (ts : List Tr) (w : World), TreesAt n w v ts → TreesAt n w u ts →
  Calls Try.prog 77 #[v, u] w fun e w' => e = .returned (.bool true) ∧ Below w.heap.size w w'

theorem eqTreeS_of {n : Nat} (H : EqTree n) : EqTreeS n := by
 intro v u ts w hv hu
 obtain ⟨xs, hxl, hrow, hk⟩ := hv
 obtain ⟨ys, hyl, hrow2, hk2⟩ := hu
 obtain ⟨a, b, off, cap, rfl, hcap, hmax, ha, c0, c1, c2, c3, c4⟩ := hrow.trees
 obtain ⟨a2, b2, off2, cap2, rfl, hcap2, hmax2, ha2, g0, g1, g2, g3, g4⟩ := hrow2.trees
 unfold maxLen at hmax hmax2
 have hl2 : xs.length ≤ ys.length := by omega
 have hne : ((xs.length : Int) != (ys.length : Int)) = false := by rw [bne_eq_false_iff_eq]; omega
 clear hxl hyl
 go_enter Try.func77, Try.ntmps77
 go_wp2
 go_loopw [5] (fun i wr => ∃ k : Nat, k ≤ xs.length ∧ i = .int .i64 k ∧ Below w.heap.size w wr)
  (fun i _ => xs.length - (intOf i).toNat)
 case atStart => exact ⟨0, Nat.zero_le _, rfl, Below.refl _ _⟩
 case round =>
  obtain ⟨k, hkl, rfl, hb⟩ := hrel
  by_cases hlt : k < xs.length
  ·have hal := ha (by omega)
   subst hal
   have hal2 := ha2 (by omega)
   subst hal2
   have hlt2 : k < ys.length := by omega
   have d0 := (hb.cell (by exact cell_lt (c0 k hlt))).trans (c0 k hlt)
   have d1 := (hb.cell (by exact cell_lt (c1 k hlt))).trans (c1 k hlt)
   have d2 := (hb.cell (by exact cell_lt (c2 k hlt))).trans (c2 k hlt)
   have d3 := (hb.cell (by exact cell_lt (c3 k hlt))).trans (c3 k hlt)
   have d4 := (hb.cell (by exact cell_lt (c4 k hlt))).trans (c4 k hlt)
   have e0 := (hb.cell (by exact cell_lt (g0 k hlt2))).trans (g0 k hlt2)
   have e1 := (hb.cell (by exact cell_lt (g1 k hlt2))).trans (g1 k hlt2)
   have e2 := (hb.cell (by exact cell_lt (g2 k hlt2))).trans (g2 k hlt2)
   have e3 := (hb.cell (by exact cell_lt (g3 k hlt2))).trans (g3 k hlt2)
   have e4 := (hb.cell (by exact cell_lt (g4 k hlt2))).trans (g4 k hlt2)
   have T0 : Hid (TreeAt n wr.drew (tvAt xs k) (ts.getD k noTr)) := (hk k hlt).below hb.drew
   have T1 : Hid (TreeAt n wr.drew (tvAt ys k) (ts.getD k noTr)) := (hk2 k hlt2).below hb.drew
   clear c0 c1 c2 c3 c4 hk hrow ha g0 g1 g2 g3 g4 hk2 hrow2 ha2
   go_wp2_with fail
   go_region_with (go_at_call 68; refine (H (tvAt xs k) (tvAt ys k) _ _ T0.out T1.out).mono ?_; rintro e w1 ⟨rfl, hb1⟩)
   all_goals
    go_wp2
    go_roundw
    case rel => exact ⟨k + 1, by omega, by go_num, hb.drew.trans (hb1.mono hb.size)⟩
    case measure => simp [intOf]; omega
  ·clear c0 c1 c2 c3 c4 hk hrow ha g0 g1 g2 g3 g4 hk2 hrow2 ha2
   go_wp2
   go_ret
   exact ⟨rfl, hb⟩

structure TwoAt (u : World) (B : Nat) (A Z : Array Value) : Prop where
 h0 : u.heap[B]? = some (.cells A 43 (0, 0))
 h1 : u.heap[B + 1]? = some (.cells Z 43 (0, 0))
theorem TwoAt.step {u w' : World} {B : Nat} {A Z : Array Value} (h : TwoAt u B A Z) (hb : Below u.heap.size u w') : TwoAt w' B A Z := by
 have hs := (Array.getElem?_eq_some_iff.1 h.h1).1
 exact ⟨(hb.block _ (by omega)).trans h.h0, (hb.block _ (by omega)).trans h.h1⟩
theorem TwoAt.cells {u : World} {B : Nat} {A Z : Array Value} (h : TwoAt u B A Z) : (∀ j, u.cell? ⟨B, j, none⟩ = A[j]?) ∧ (∀ j, u.cell? ⟨B + 1, j, none⟩ = Z[j]?) :=
 ⟨fun j => cell_of_row u B j A 43 (0, 0) h.h0, fun j => cell_of_row u (B + 1) j Z 43 (0, 0) h.h1⟩
theorem TwoAt.start (w : World) (A Z : Array Value) : TwoAt ((w.alloc (.cells A 43)).alloc (.cells Z 43)) w.heap.size A Z := by
 have e : ∀ (x : World) (o : Obj), (x.alloc o).heap.size = x.heap.size + 1 := fun x o => by simp
 have k1 : ∀ (x : World) (o : Obj) (g : Nat), g < x.heap.size → (x.alloc o).heap[g]? = x.heap[g]? := fun x o g hg => ((Below.refl x.heap.size x).alloc (Nat.le_refl _) o).block g hg
 refine ⟨?_, ?_⟩
 ·rw [k1 _ _ _ (by rw [e]; omega)]; exact heap_alloc_new w _
 ·rw [← e w (.cells A 43)]; exact heap_alloc_new _ _

theorem eqTree_of {n : Nat} (H : EqTreeS n) : EqTree (n + 1) := by
 intro x y T w ht hu
 obtain ⟨lf, p, c, k, b⟩ := x
 obtain ⟨lf2, p2, c2, k2, b2⟩ := y
 obtain ⟨hlf, hp, hc, hb, hk⟩ := ht.parts
 obtain ⟨hlf2, hp2, hc2, hb2, hk2⟩ := hu.parts
 simp only at hlf hp hc hb hk hlf2 hp2 hc2 hb2 hk2
 subst hlf
 subst hlf2
 have R1 : Hid (Row w p T.pairs.length (flatP T.pairs)) := hp
 have R2 : Hid (Row w c T.cuts.length (flatI T.cuts)) := hc
 have R3 : Hid (TreesAt n w k T.kids) := hk
 have R4 : Hid (Row w b T.buf.length (flatM T.buf)) := hb
 have Q1 : Hid (Row w p2 T.pairs.length (flatP T.pairs)) := hp2
 have Q2 : Hid (Row w c2 T.cuts.length (flatI T.cuts)) := hc2
 have Q3 : Hid (TreesAt n w k2 T.kids) := hk2
 have Q4 : Hid (Row w b2 T.buf.length (flatM T.buf)) := hb2
 clear hp hc hb hk ht hp2 hc2 hb2 hk2 hu
 have hlf : (T.leaf != T.leaf) = false := by simp
 show Calls Try.prog 68 #[.agg #[.bool T.leaf, p, c, k, b], .agg #[.bool T.leaf, p2, c2, k2, b2]] w _
 have B0 : Hid (Below w.heap.size w ((w.alloc (.cells #[.bool T.leaf, p, c, k, b] 43)).alloc (.cells #[.bool T.leaf, p2, c2, k2, b2] 43))) := ((Below.refl _ _).alloc (Nat.le_refl _) _).alloc (by simp) _
 have S0 : Hid (TwoAt _ w.heap.size _ _) := TwoAt.start w #[.bool T.leaf, p, c, k, b] #[.bool T.leaf, p2, c2, k2, b2]
 go_enter Try.func68, Try.ntmps68
 go_wp2_with fail
 refine (eqPairS_any _ _ _ _ _ (R1.out.below B0.out) (Q1.out.below B0.out)).mono ?_
 rintro e w1 ⟨he, hb1⟩
 rw [decide_eq_true rfl] at he
 subst he
 have B1 : Hid (Below w.heap.size w w1) := Below.and B0.out hb1
 have S1 : Hid (TwoAt w1 w.heap.size #[.bool T.leaf, p, c, k, b] #[.bool T.leaf, p2, c2, k2, b2]) := S0.out.step hb1
 obtain ⟨k0, k1⟩ := S1.out.cells
 clear B0 S0 hb1
 go_wp2_with fail
 refine (eqIntS_any _ _ _ _ _ (R2.out.below B1.out) (Q2.out.below B1.out)).mono ?_
 rintro e w2 ⟨he, hb2⟩
 rw [decide_eq_true rfl] at he
 subst he
 have B2 : Hid (Below w.heap.size w w2) := Below.and B1.out hb2
 have S2 : Hid (TwoAt w2 w.heap.size #[.bool T.leaf, p, c, k, b] #[.bool T.leaf, p2, c2, k2, b2]) := S1.out.step hb2
 clear B1 S1 hb2 k0 k1
 obtain ⟨k0, k1⟩ := S2.out.cells
 go_wp2_with fail
 refine (H _ _ T.kids _ (R3.out.below B2.out) (Q3.out.below B2.out)).mono ?_
 rintro e w3 ⟨rfl, hb3⟩
 have B3 : Hid (Below w.heap.size w w3) := Below.and B2.out hb3
 have S3 : Hid (TwoAt w3 w.heap.size #[.bool T.leaf, p, c, k, b] #[.bool T.leaf, p2, c2, k2, b2]) := S2.out.step hb3
 clear B2 S2 hb3 k0 k1
 obtain ⟨k0, k1⟩ := S3.out.cells
 go_wp2_with fail
 refine (eqMsgS_any _ _ _ _ _ (R4.out.below B3.out) (Q4.out.below B3.out)).mono ?_
 rintro e w4 ⟨he, hb4⟩
 rw [decide_eq_true rfl] at he
 subst he
 have B4 : Hid (Below w.heap.size w w4) := Below.and B3.out hb4
 clear B3 S3 hb4 k0 k1
 go_wp2
 go_ret
 exact ⟨rfl, B4.out⟩

theorem eqTree_any : ∀ n, EqTree n
 | 0 => fun _ _ _ _ h => h.elim
 | n + 1 => eqTree_of (eqTreeS_of (eqTree_any n))
end
section
open Go.RowKit

def TreeOwn : Nat → World → Nat → TV → Tr → Prop
 | 0, _, _, _, _ => False
 | n + 1, w, base, x, T => x.lf = T.leaf ∧ w.ownsRow base 103 2 x.p T.pairs.length (flatP T.pairs) ∧ w.ownsRow base 3 1 x.c T.cuts.length (flatI T.cuts) ∧ w.ownsRow base 73 3 x.b T.buf.length (flatM T.buf) ∧
   ∃ xs : List TV, xs.length = T.kids.length ∧ w.ownsRow base 43 5 x.k xs.length (flatT xs) ∧ ∀ i, i < xs.length → TreeOwn n w base (tvAt xs i) (kidT T i)

def TreesOwn (n : Nat) (w : World) (base : Nat) (v : Value) (ts : List Tr) : Prop :=
 ∃ xs : List TV, xs.length = ts.length ∧ w.ownsRow base 43 5 v xs.length (flatT xs) ∧ ∀ i, i < xs.length → TreeOwn n w base (tvAt xs i) (ts.getD i noTr)
theorem Try.info3 : (Try.prog.info? 3).map (fun i => (i.zero, i.size, i.bytes)) = some (some (.int .i64 0), 1, 8) := by kernel_rfl
theorem Try.info43 : (Try.prog.info? 43).map (fun i => (i.zero, i.size, i.bytes)) = some (some (.agg #[.bool false, .slice none 0 0, .slice none 0 0, .slice none 0 0, .slice none 0 0]), 5, 104) := by kernel_rfl

def filledI (l : List Int) (k : Nat) : List Int := l.take k ++ List.replicate (l.length - k) 0
end
section
open Go.RowKit

theorem TreeAt.shape : ∀ {n : Nat} {w : World} {x : TV} {T : Tr}, TreeAt n w x T → ∃ (a1 a2 a3 a4 : Option Addr) (c1 c2 c3 c4 : Nat), x = ⟨T.leaf, .slice a1 T.pairs.length c1, .slice a2 T.cuts.length c2, .slice a3 T.kids.length c3, .slice a4 T.buf.length c4⟩
 | 0, _, _, _, h => h.elim
 | _ + 1, _, ⟨lf, p, c, k, b⟩, T, ⟨h1, h2, h3, h4, xs, h5, h6, h7⟩ => by
  simp only at h1 h2 h3 h4 h6
  obtain ⟨a1, c1, rfl, _⟩ := h2.len
  obtain ⟨a2, c2, rfl, _⟩ := h3.len
  obtain ⟨a4, c4, rfl, _⟩ := h4.len
  obtain ⟨a3, c3, rfl, _⟩ := h6.len
  subst h1
  exact ⟨a1, a2, a3, a4, c1, c2, c3, c4, by rw [h5]⟩
end
section
open Go.RowKit

structure MacV where
 x : TV
 v : Value
abbrev MacV.arr (m : MacV) : Array Value := #[.bool m.x.lf, m.x.p, m.x.c, m.x.k, m.x.b, m.v]
abbrev MacV.val (m : MacV) : Value := .agg #[.bool m.x.lf, m.x.p, m.x.c, m.x.k, m.x.b, m.v]
def MacAt (n : Nat) (w : World) (m : MacV) (T : Tr) (l : DL) : Prop := TreeAt n w m.x T ∧ Row w m.v l.length (flatD l)
theorem MacAt.below {n : Nat} {w w' : World} {m : MacV} {T : Tr} {l : DL} (h : MacAt n w m T l) (hb : Below w.heap.size w w') : MacAt n w' m T l := ⟨h.1.below hb, h.2.below hb⟩
theorem eqMachine_any (n : Nat) (m m2 : MacV) (T : Tr) (l : DL) (w : World) (h : MacAt n w m T l) (h2 : MacAt n w m2 T l) :
  Calls Try.prog 58 #[m.val, m2.val] w fun e w' => e = .returned (.bool true) ∧ Below w.heap.size w w' := by
 obtain ⟨⟨lf, p, c, k, b⟩, v⟩ := m
 obtain ⟨⟨lf2, p2, c2, k2, b2⟩, v2⟩ := m2
 have H : Hid _ := And.intro h h2
 have N1 : Hid (MBox 45 (w.alloc (.cells #[.bool lf, p, c, k, b, v] 45)) w.heap.size #[.bool lf, p, c, k, b, v]) := MBox.start _ w _
 have N2 : Hid (MBox 45 ((w.alloc (.cells #[.bool lf, p, c, k, b, v] 45)).alloc (.cells #[.bool lf2, p2, c2, k2, b2, v2] 45)) (w.alloc (.cells #[.bool lf, p, c, k, b, v] 45)).heap.size #[.bool lf2, p2, c2, k2, b2, v2]) := MBox.start _ _ _
 have N1b : Hid (MBox 45 ((w.alloc (.cells #[.bool lf, p, c, k, b, v] 45)).alloc (.cells #[.bool lf2, p2, c2, k2, b2, v2] 45)) w.heap.size #[.bool lf, p, c, k, b, v]) := N1.out.step (bel_nw _ _)
 have B2 : Hid (Below w.heap.size w ((w.alloc (.cells #[.bool lf, p, c, k, b, v] 45)).alloc (.cells #[.bool lf2, p2, c2, k2, b2, v2] 45))) := Below.and (bel_nw _ _) (bel_nw _ _)
 have e1 : (w.alloc (.cells #[.bool lf, p, c, k, b, v] 45)).heap.size = w.heap.size + 1 := by simp
 rw [e1] at N2
 have c1 := N1b.out.cells
 have d1 := N2.out.cells
 clear N1 e1 h h2
 show Calls Try.prog 58 #[.agg #[.bool lf, p, c, k, b, v], .agg #[.bool lf2, p2, c2, k2, b2, v2]] w _
 go_enter Try.func58, Try.ntmps58
 go_wp2_with fail
 generalize (w.alloc (.cells #[.bool lf, p, c, k, b, v] 45)).alloc (.cells #[.bool lf2, p2, c2, k2, b2, v2] 45) = W at *
 refine Calls.mono (eqTree_any n ⟨lf, p, c, k, b⟩ ⟨lf2, p2, c2, k2, b2⟩ T W (H.out.1.1.below B2.out) (H.out.2.1.below B2.out)) ?_
 rintro e w1 ⟨rfl, b1⟩
 have B3 : Hid (Below w.heap.size w w1) := Below.and B2.out b1
 have N3 : Hid (MBox 45 w1 w.heap.size #[.bool lf, p, c, k, b, v]) := N1b.out.step b1
 have N4 : Hid (MBox 45 w1 (w.heap.size + 1) #[.bool lf2, p2, c2, k2, b2, v2]) := N2.out.step b1
 clear c1 d1 N1b N2 B2 b1
 have c1 := N3.out.cells
 have d1 := N4.out.cells
 go_wp2_with fail
 refine Calls.mono (eqDoneS_any v v2 l l w1 (H.out.1.2.below B3.out) (H.out.2.2.below B3.out)) ?_
 rintro e w2 ⟨rfl, b2⟩
 rw [decide_eq_true rfl]
 go_wp2
 go_ret
 exact ⟨rfl, Below.and B3.out b2⟩
end
end Go.Proofs.Ytdcladffnjikkaa
