/-
  Rows and trees with the blocks that they lie in: what stays when other blocks are written.
  The contract of the model's l3Pending.
  The contract of the program's wayDown.
  The sorted map's drop, by a contract.
  The model's way of putting into a map, pair by pair, comes to the plain function.
  Contracts of the model's small functions on maps: clamp, without, put.
  Contracts of MapGet, the model's and the program's.
-/
import Derived.Test.YtbmcojelgbkafaaDoorOfNodes3
import Derived.Test.YtbmcojelgbkafaaDoorOfNodes6
import Derived.Test.YtbmcojelgbkafaaDoorOfNodes4
import Derived.Deep.DeepCutAuto
import Derived.Test.YtbmcojelgbkafaaDoorOfNodes1
namespace Go.Proofs.YtbmcojelgbkafaaDoor
set_option maxRecDepth 100000
set_option maxHeartbeats 8000000
section
open Go.RowKit

def Plain (w : World) (b : Nat) : Prop := ∃ (c : Array Value) (t : Nat), w.heap[b]? = some (.cells c t (0, 0))
theorem Plain.lt {w : World} {b : Nat} (h : Plain w b) : b < w.heap.size := by
 obtain ⟨c, t, h⟩ := h
 exact (Array.getElem?_eq_some_iff.1 h).1
def RowF (w : World) (F : Nat → Prop) (v : Value) (n : Nat) (xs : List Value) : Prop :=
 ∃ (a : Option Addr) (b off cap : Nat), v = .slice a n cap ∧ n ≤ cap ∧ cap ≤ maxLen ∧ (0 < n → a = some ⟨b, off, none⟩ ∧ F b ∧ Plain w b) ∧ (∀ j u, xs[j]? = some u → w.cell? ⟨b, off + j, none⟩ = some u) ∧ (a = none → cap = 0) ∧ (n = 0 → xs = [])
theorem RowF.row {w : World} {F : Nat → Prop} {v : Value} {n : Nat} {xs : List Value} (h : RowF w F v n xs) : Row w v n xs := by
 obtain ⟨a, b, off, cap, h1, h2, h3, h4, h5, h6, _⟩ := h
 exact ⟨a, b, off, cap, h1, h2, h3, fun hn => (h4 hn).1, h5, h6⟩
theorem RowF.mono {w : World} {F G : Nat → Prop} {v : Value} {n : Nat} {xs : List Value} (h : RowF w F v n xs) (hFG : ∀ g, F g → G g) : RowF w G v n xs := by
 obtain ⟨a, b, off, cap, h1, h2, h3, h4, h5, h6, h7⟩ := h
 exact ⟨a, b, off, cap, h1, h2, h3, fun hn => ⟨(h4 hn).1, hFG _ (h4 hn).2.1, (h4 hn).2.2⟩, h5, h6, h7⟩
theorem RowF.frame {w w' : World} {F : Nat → Prop} {v : Value} {n : Nat} {xs : List Value} (h : RowF w F v n xs) (hf : ∀ g, F g → g < w.heap.size → w'.heap[g]? = w.heap[g]?) : RowF w' F v n xs := by
 obtain ⟨a, b, off, cap, h1, h2, h3, h4, h5, h6, h7⟩ := h
 refine ⟨a, b, off, cap, h1, h2, h3, fun hn => ⟨(h4 hn).1, (h4 hn).2.1, ?_⟩, fun j u hj => ?_, h6, h7⟩
 ·obtain ⟨e1, e2, c, t, e3⟩ := h4 hn
  exact ⟨c, t, (hf b e2 (Array.getElem?_eq_some_iff.1 e3).1).trans e3⟩
 have hc := h5 j u hj
 rcases Nat.eq_zero_or_pos n with h0 | h0
 ·rw [h7 h0] at hj; simp at hj
 ·rw [World.cell?_of_block (hf b (h4 h0).2.1 (cell_lt hc))]
  exact hc
theorem RowF.lt {w : World} {F : Nat → Prop} {v : Value} {n : Nat} {xs : List Value} (h : RowF w F v n xs) (_hx : 0 < n → xs ≠ []) : RowF w (fun g => F g ∧ g < w.heap.size) v n xs := by
 obtain ⟨a, b, off, cap, h1, h2, h3, h4, h5, h6, h7⟩ := h
 exact ⟨a, b, off, cap, h1, h2, h3, fun hn => ⟨(h4 hn).1, ⟨(h4 hn).2.1, (h4 hn).2.2.lt⟩, (h4 hn).2.2⟩, h5, h6, h7⟩
theorem RowF.of_owns {w : World} {base e size n : Nat} {v : Value} {xs : List Value} (h : w.ownsRow base e size v n xs) : RowF w (fun g => v.ownBlock = some g) v n xs := by
 have h0 := h
 obtain ⟨hl, h | ⟨g, cap, cur, rfl, hg, hh, hn, hcap, hsz, htake⟩⟩ := h
 ·obtain ⟨rfl, rfl⟩ := h
  have hx : xs = [] := by simpa using hl
  subst hx
  exact ⟨none, 0, 0, 0, rfl, Nat.le_refl _, Nat.zero_le _, fun h => absurd h (Nat.lt_irrefl _), fun j u hj => by simp at hj, fun _ => rfl, fun _ => rfl⟩
 ·refine ⟨some ⟨g, 0, none⟩, g, 0, cap, rfl, hn, hcap, fun _ => ⟨rfl, rfl, _, _, hh⟩, fun j u hj => ?_, (fun h => by cases h), fun h => ?_⟩
  ·have hlt : j < n * size := by
    have := (List.getElem?_eq_some_iff.1 hj).1
    omega
   rw [Nat.zero_add, h0.cellAt j hlt]
   exact hj
  ·subst h
   exact List.length_eq_zero_iff.1 (by omega)
theorem flat_get {xs : List Value} {i m size : Nat} (j : Nat) : ((xs.drop (i * size)).take (m * size))[j]? = if j < m * size then xs[i * size + j]? else none := by
 rw [List.getElem?_take]
 split
 ·rw [List.getElem?_drop]
 ·rfl

theorem flatP_ne (l : List (Int × Int)) : (l.length = 0 → flatP l = []) ∧ (0 < l.length → flatP l ≠ []) := by
 have := flatP_length l
 exact ⟨fun h => List.length_eq_zero_iff.1 (by omega), fun h e => by rw [e] at this; simp at this; omega⟩
theorem flatI_ne (l : List Int) : (l.length = 0 → flatI l = []) ∧ (0 < l.length → flatI l ≠ []) := by
 have := flatI_length l
 exact ⟨fun h => List.length_eq_zero_iff.1 (by omega), fun h e => by rw [e] at this; simp at this; omega⟩
theorem flatM_ne (l : ML) : (l.length = 0 → flatM l = []) ∧ (0 < l.length → flatM l ≠ []) := by
 have := flatM_length l
 exact ⟨fun h => List.length_eq_zero_iff.1 (by omega), fun h e => by rw [e] at this; simp at this; omega⟩
theorem flatT_ne (l : List TV) : (l.length = 0 → flatT l = []) ∧ (0 < l.length → flatT l ≠ []) := by
 have := flatT_length l
 exact ⟨fun h => List.length_eq_zero_iff.1 (by omega), fun h e => by rw [e] at this; simp at this; omega⟩

def TreeF : Nat → World → (Nat → Prop) → TV → Tr → Prop
 | 0, _, _, _, _ => False
 | n + 1, w, F, x, T => x.lf = T.leaf ∧ RowF w F x.p T.pairs.length (flatP T.pairs) ∧ RowF w F x.c T.cuts.length (flatI T.cuts) ∧ RowF w F x.b T.buf.length (flatM T.buf) ∧
   ∃ xs : List TV, xs.length = T.kids.length ∧ RowF w F x.k xs.length (flatT xs) ∧ ∀ i, i < xs.length → TreeF n w F (tvAt xs i) (kidT T i)
def TreesF (n : Nat) (w : World) (F : Nat → Prop) (v : Value) (ts : List Tr) : Prop :=
 ∃ xs : List TV, xs.length = ts.length ∧ RowF w F v xs.length (flatT xs) ∧ ∀ i, i < xs.length → TreeF n w F (tvAt xs i) (ts.getD i noTr)
theorem TreeF.treeAt : ∀ {n : Nat} {w : World} {F : Nat → Prop} {x : TV} {T : Tr}, TreeF n w F x T → TreeAt n w x T
 | 0, _, _, _, _, h => h
 | _ + 1, _, _, _, _, ⟨h1, h2, h3, h4, xs, h5, h6, h7⟩ => ⟨h1, h2.row, h3.row, h4.row, xs, h5, h6.row, fun i hi => (h7 i hi).treeAt⟩
theorem TreeF.mono : ∀ {n : Nat} {w : World} {F G : Nat → Prop} {x : TV} {T : Tr}, TreeF n w F x T → (∀ g, F g → G g) → TreeF n w G x T
 | 0, _, _, _, _, _, h, _ => h
 | _ + 1, _, _, _, _, _, ⟨h1, h2, h3, h4, xs, h5, h6, h7⟩, k => ⟨h1, h2.mono k, h3.mono k, h4.mono k, xs, h5, h6.mono k, fun i hi => (h7 i hi).mono k⟩
theorem TreeF.frame : ∀ {n : Nat} {w w' : World} {F : Nat → Prop} {x : TV} {T : Tr}, TreeF n w F x T → (∀ g, F g → g < w.heap.size → w'.heap[g]? = w.heap[g]?) → TreeF n w' F x T
 | 0, _, _, _, _, _, h, _ => h
 | _ + 1, _, _, _, _, _, ⟨h1, h2, h3, h4, xs, h5, h6, h7⟩, k => ⟨h1, h2.frame k, h3.frame k, h4.frame k, xs, h5, h6.frame k, fun i hi => (h7 i hi).frame k⟩
theorem TreeF.lt : ∀ {n : Nat} {w : World} {F : Nat → Prop} {x : TV} {T : Tr}, TreeF n w F x T → TreeF n w (fun g => F g ∧ g < w.heap.size) x T
 | 0, _, _, _, _, h => h
 | _ + 1, _, _, _, _, ⟨h1, h2, h3, h4, xs, h5, h6, h7⟩ => ⟨h1, h2.lt (flatP_ne _).2, h3.lt (flatI_ne _).2, h4.lt (flatM_ne _).2, xs, h5, h6.lt (flatT_ne _).2, fun i hi => (h7 i hi).lt⟩
theorem TreeF.up : ∀ {n : Nat} {w : World} {F : Nat → Prop} {x : TV} {T : Tr}, TreeF n w F x T → TreeF (n + 1) w F x T
 | 0, _, _, _, _, h => h.elim
 | _ + 1, _, _, _, _, ⟨h1, h2, h3, h4, xs, h5, h6, h7⟩ => ⟨h1, h2, h3, h4, xs, h5, h6, fun i hi => (h7 i hi).up⟩
theorem TreeF.le {n m : Nat} {w : World} {F : Nat → Prop} {x : TV} {T : Tr} (h : TreeF n w F x T) (hm : n ≤ m) : TreeF m w F x T := by
 induction hm with
 | refl => exact h
 | step _ ih => exact ih.up
theorem TreeF.chg {n : Nat} {w w' : World} {F P : Nat → Prop} {x : TV} {T : Tr} (h : TreeF n w F x T) (hc : Chg P w w') (hd : ∀ g, F g → ¬ P g) : TreeF n w' F x T := h.frame fun g hg hl => hc.block g hl (hd g hg)
theorem TreeF.below {n : Nat} {w w' : World} {F : Nat → Prop} {x : TV} {T : Tr} (h : TreeF n w F x T) (hb : Below w.heap.size w w') : TreeF n w' F x T := h.frame fun g _ hl => hb.block g hl
theorem RowF.below {w w' : World} {F : Nat → Prop} {v : Value} {n : Nat} {xs : List Value} (h : RowF w F v n xs) (hb : Below w.heap.size w w') : RowF w' F v n xs := h.frame fun g _ hl => hb.block g hl
theorem RowF.chg {w w' : World} {F P : Nat → Prop} {v : Value} {n : Nat} {xs : List Value} (h : RowF w F v n xs) (hc : Chg P w w') (hd : ∀ g, F g → ¬ P g) : RowF w' F v n xs := h.frame fun g hg hl => hc.block g hl (hd g hg)
theorem TreesF.below {n : Nat} {w w' : World} {F : Nat → Prop} {v : Value} {ts : List Tr} (h : TreesF n w F v ts) (hb : Below w.heap.size w w') : TreesF n w' F v ts := by
 obtain ⟨xs, h1, h2, h3⟩ := h
 exact ⟨xs, h1, h2.below hb, fun i hi => (h3 i hi).below hb⟩
theorem TreesF.chg {n : Nat} {w w' : World} {F P : Nat → Prop} {v : Value} {ts : List Tr} (h : TreesF n w F v ts) (hc : Chg P w w') (hd : ∀ g, F g → ¬ P g) : TreesF n w' F v ts := by
 obtain ⟨xs, h1, h2, h3⟩ := h
 exact ⟨xs, h1, h2.chg hc hd, fun i hi => (h3 i hi).chg hc hd⟩
theorem TreesF.mono {n : Nat} {w : World} {F G : Nat → Prop} {v : Value} {ts : List Tr} (h : TreesF n w F v ts) (k : ∀ g, F g → G g) : TreesF n w G v ts := by
 obtain ⟨xs, h1, h2, h3⟩ := h
 exact ⟨xs, h1, h2.mono k, fun i hi => (h3 i hi).mono k⟩
theorem TreeF.parts {n : Nat} {w : World} {F : Nat → Prop} {x : TV} {T : Tr} (h : TreeF (n + 1) w F x T) :
  x.lf = T.leaf ∧ RowF w F x.p T.pairs.length (flatP T.pairs) ∧ RowF w F x.c T.cuts.length (flatI T.cuts) ∧ RowF w F x.b T.buf.length (flatM T.buf) ∧ TreesF n w F x.k T.kids := by
 obtain ⟨h1, h2, h3, h4, xs, h5, h6, h7⟩ := h
 exact ⟨h1, h2, h3, h4, xs, h5, h6, h7⟩
theorem TreeF.mk {n : Nat} {w : World} {F : Nat → Prop} {x : TV} {T : Tr} (h1 : x.lf = T.leaf) (h2 : RowF w F x.p T.pairs.length (flatP T.pairs)) (h3 : RowF w F x.c T.cuts.length (flatI T.cuts)) (h4 : RowF w F x.b T.buf.length (flatM T.buf)) (h5 : TreesF n w F x.k T.kids) : TreeF (n + 1) w F x T := by
 obtain ⟨xs, h5, h6, h7⟩ := h5
 exact ⟨h1, h2, h3, h4, xs, h5, h6, h7⟩
theorem flatT_oneF {n : Nat} {w : World} {F : Nat → Prop} {ts : List Tr} {xs : List TV} (h : ∀ i, i < xs.length → TreeF n w F (tvAt xs i) (ts.getD i noTr)) : ∀ y ∈ flatT xs, y.oneCell' = true := by
 intro y hy
 obtain ⟨x, hx, hy2⟩ := List.mem_flatMap.1 hy
 obtain ⟨i, hi, rfl⟩ := List.getElem_of_mem hx
 have := h i hi
 have e : tvAt xs i = xs[i] := by simp [tvAt, List.getD, hi]
 rw [e] at this
 obtain ⟨a1, a2, a3, a4, c1, c2, c3, c4, hs⟩ := this.treeAt.shape
 rw [hs] at hy2
 simp [TV.cells] at hy2
 rcases hy2 with rfl | rfl | rfl | rfl | rfl <;> rfl

theorem RowF.nil (w : World) (F : Nat → Prop) : RowF w F (.slice none 0 0) 0 [] :=
 ⟨none, 0, 0, 0, rfl, Nat.le_refl _, Nat.zero_le _, fun h => absurd h (Nat.lt_irrefl _), fun j u hj => by simp at hj, fun _ => rfl, fun _ => rfl⟩
theorem TreesF.nil (n : Nat) (w : World) (F : Nat → Prop) : TreesF n w F (.slice none 0 0) [] := ⟨[], rfl, RowF.nil w F, fun i hi => by simp at hi⟩
end
section
open Go.RowKit

theorem box_cells5 {u : World} {B : Nat} {x0 x1 x2 x3 x4 : Value} (h : OneAt u B #[x0, x1, x2, x3, x4]) :
  u.cell? ⟨B, 0, none⟩ = some x0 ∧ u.cell? ⟨B, 1, none⟩ = some x1 ∧ u.cell? ⟨B, 2, none⟩ = some x2 ∧ u.cell? ⟨B, 3, none⟩ = some x3 ∧ u.cell? ⟨B, 4, none⟩ = some x4 := by
 have := h.cells
 exact ⟨by rw [this]; rfl, by rw [this]; rfl, by rw [this]; rfl, by rw [this]; rfl, by rw [this]; rfl⟩
theorem OneAt.stepB {u w' : World} {B N : Nat} {A : Array Value} (h : OneAt u B A) (hb : Below N u w') (hN : B < N) : OneAt w' B A := (hb.block B hN).trans h
theorem cell_lowB {w w' : World} {N b o : Nat} {v : Value} (hb : Below N w w') (hN : b < N) (h : w.cell? ⟨b, o, none⟩ = some v) : w'.cell? ⟨b, o, none⟩ = some v := (hb.cell (p := ⟨b, o, none⟩) hN).trans h
end
section
open Go.RowKit

theorem OneAt.chg {w w' : World} {L : Nat} {A : Array Value} {p : Nat → Prop} (h : OneAt w L A) (hc : Chg p w w') (hp : ¬ p L) : OneAt w' L A :=
 (hc.block L (Array.getElem?_eq_some_iff.1 h).1 hp).trans h

theorem box_all5 {u : World} {B : Nat} {x0 x1 x2 x3 x4 : Value} (h : OneAt u B #[x0, x1, x2, x3, x4]) :
  (u.cell? ⟨B, 0, none⟩ = some x0 ∧ u.cell? ⟨B, 1, none⟩ = some x1 ∧ u.cell? ⟨B, 2, none⟩ = some x2 ∧ u.cell? ⟨B, 3, none⟩ = some x3 ∧ u.cell? ⟨B, 4, none⟩ = some x4) ∧
  (u.frozen? ⟨B, 0, none⟩ = false ∧ u.frozen? ⟨B, 1, none⟩ = false ∧ u.frozen? ⟨B, 2, none⟩ = false ∧ u.frozen? ⟨B, 3, none⟩ = false ∧ u.frozen? ⟨B, 4, none⟩ = false) :=
 ⟨box_cells5 h, frozen_of_row u B 0 _ 29 h, frozen_of_row u B 1 _ 29 h, frozen_of_row u B 2 _ 29 h, frozen_of_row u B 3 _ 29 h, frozen_of_row u B 4 _ 29 h⟩

abbrev set5 (u : World) (L : Nat) (t0 t1 t2 t3 t4 : Value) : World := ((((u.setCell ⟨L, 0, none⟩ t0).setCell ⟨L, 1, none⟩ t1).setCell ⟨L, 2, none⟩ t2).setCell ⟨L, 3, none⟩ t3).setCell ⟨L, 4, none⟩ t4
theorem OneAt.set5 {u : World} {L : Nat} {x0 x1 x2 x3 x4 : Value} (h : OneAt u L #[x0, x1, x2, x3, x4]) (t0 t1 t2 t3 t4 : Value) : OneAt (set5 u L t0 t1 t2 t3 t4) L #[t0, t1, t2, t3, t4] :=
 heap_setCell_same _ L 4 _ 29 t4 (heap_setCell_same _ L 3 _ 29 t3 (heap_setCell_same _ L 2 _ 29 t2 (heap_setCell_same _ L 1 _ 29 t1 (heap_setCell_same u L 0 _ 29 t0 h))))
theorem chg_set5 (u : World) (L : Nat) (t0 t1 t2 t3 t4 : Value) : Chg (fun g => g = L) u (set5 u L t0 t1 t2 t3 t4) :=
 (((((Chg.refl (fun g => g = L) u).setAt L 0 rfl t0).setAt L 1 rfl t1).setAt L 2 rfl t2).setAt L 3 rfl t3).setAt L 4 rfl t4
end
section
open Go.RowKit
end
section
def stp (k v : Int) (s : PL × Bool) (p : Int × Int) : PL × Bool :=
 if s.2 = false ∧ k ≤ p.1 then (if p.1 = k then (s.1 ++ [(k, v)], true) else (s.1 ++ [(k, v)] ++ [p], true))
 else (if p.1 = k then s else (s.1 ++ [p], s.2))
def stpTo (k v : Int) (l : PL) (i : Nat) : PL × Bool := (l.take i).foldl (stp k v) ([], false)
def stpEnd (k v : Int) (s : PL × Bool) : PL := if s.2 = true then s.1 else s.1 ++ [(k, v)]

theorem stpTo_succ (k v : Int) (l : PL) (i : Nat) (h : i < l.length) : stpTo k v l (i + 1) = stp k v (stpTo k v l i) (kOf l i, vOf l i) := by
 have e : (kOf l i, vOf l i) = l[i] := by simp [kOf, vOf, List.getD, h]
 rw [stpTo, List.take_succ_eq_append_getElem h, List.foldl_append, e]; rfl
theorem stp_length (k v : Int) (s : PL × Bool) (p : Int × Int) : (stp k v s p).1.length ≤ s.1.length + 2 := by
 unfold stp
 split <;> split <;> simp
theorem stpTo_length (k v : Int) (l : PL) (i : Nat) : (stpTo k v l i).1.length ≤ 2 * i := by
 have h : ∀ (l : PL) (s : PL × Bool), (l.foldl (stp k v) s).1.length ≤ s.1.length + 2 * l.length := by
  intro l
  induction l with
  | nil => intro s; simp
  | cons p l ih =>
   intro s
   have h1 := ih (stp k v s p)
   have h2 := stp_length k v s p
   rw [List.foldl_cons]
   simp only [List.length_cons]
   omega
 have := h (l.take i) ([], false)
 have hl : (l.take i).length ≤ i := List.length_take_le _ _
 unfold stpTo
 simp only [List.length_nil] at this
 omega

theorem stp_true (k v : Int) (l : PL) (acc : PL) : l.foldl (stp k v) (acc, true) = (acc ++ delF l k, true) := by
 induction l generalizing acc with
 | nil => simp [delF]
 | cons p l ih =>
  rw [List.foldl_cons]
  by_cases h : p.1 = k
  ·rw [show stp k v (acc, true) p = (acc, true) by simp [stp, h], ih, delF, delF, List.filter_cons_of_neg (by simp [h])]
  ·rw [show stp k v (acc, true) p = (acc ++ [p], true) by simp [stp, h], ih, delF, delF, List.filter_cons_of_pos (by simp [h])]
   simp
theorem stp_put {l : PL} (h : Asc l) (k v : Int) (acc : PL) : stpEnd k v (l.foldl (stp k v) (acc, false)) = acc ++ putF l k v := by
 induction l generalizing acc with
 | nil => simp [stpEnd, putF]
 | cons p l ih =>
  obtain ⟨h1, h2⟩ := h.cons
  rw [List.foldl_cons]
  by_cases hlt : p.1 < k
  ·rw [show stp k v (acc, false) p = (acc ++ [p], false) by simp [stp, show ¬ k ≤ p.1 by omega, show ¬ p.1 = k by omega], ih h2]
   have e : putF (p :: l) k v = p :: putF l k v := by simp [putF, hlt, show ¬ k < p.1 by omega]
   rw [e]; simp
  ·by_cases he : p.1 = k
   ·have hg : ∀ q ∈ l, k < q.1 := fun q hq => by have := h1 q hq; omega
    obtain ⟨f1, f2, f3⟩ := filter_gt hg
    rw [show stp k v (acc, false) p = (acc ++ [(k, v)], true) by simp [stp, he], stp_true, delF, f3]
    have e : putF (p :: l) k v = (k, v) :: l := by simp [putF, hlt, show ¬ k < p.1 by omega, f1, f2]
    rw [e]; simp [stpEnd]
   ·have hg : ∀ q ∈ l, k < q.1 := fun q hq => by have := h1 q hq; omega
    obtain ⟨f1, f2, f3⟩ := filter_gt hg
    rw [show stp k v (acc, false) p = (acc ++ [(k, v)] ++ [p], true) by simp [stp, show k ≤ p.1 by omega, he], stp_true, delF, f3]
    have e : putF (p :: l) k v = (k, v) :: p :: l := by simp [putF, hlt, show k < p.1 by omega, f1, f2]
    rw [e]; simp [stpEnd]
theorem stpTo_full {l : PL} (h : Asc l) (k v : Int) : stpEnd k v (stpTo k v l l.length) = putF l k v := by
 have := stp_put h k v []
 simpa [stpTo] using this

theorem delF_succ (l : PL) (k : Int) (i : Nat) (h : i < l.length) : delF (l.take (i + 1)) k = if kOf l i = k then delF (l.take i) k else delF (l.take i) k ++ [(kOf l i, vOf l i)] := by
 have e : (kOf l i, vOf l i) = l[i] := by simp [kOf, vOf, List.getD, h]
 rw [List.take_succ_eq_append_getElem h, delF, List.filter_append, ← e]
 by_cases hk : kOf l i = k
 ·simp [hk, delF]
 ·simp [hk, delF]
end
section
open Go.RowKit

theorem l1Min_any (a b : Int) (w : World) : Calls Tryd.prog 81 #[.int .i64 a, .int .i64 b] w fun e w' => e = .returned (.int .i64 (min a b)) ∧ w' = w := by
 by_cases h : a < b
 ·have E : Hid (min a b = a) := Int.min_eq_left (by omega)
  go_enter Tryd.func81, Tryd.ntmps81
  go_wp2
  go_ret
  exact ⟨ret_int E.out.symm, rfl⟩
 ·have E : Hid (min a b = b) := Int.min_eq_right (by omega)
  go_enter Tryd.func81, Tryd.ntmps81
  go_wp2
  go_ret
  exact ⟨ret_int E.out.symm, rfl⟩
theorem l1Max_any (a b : Int) (w : World) : Calls Tryd.prog 80 #[.int .i64 a, .int .i64 b] w fun e w' => e = .returned (.int .i64 (max a b)) ∧ w' = w := by
 by_cases h : b < a
 ·have E : Hid (max a b = a) := Int.max_eq_left (by omega)
  go_enter Tryd.func80, Tryd.ntmps80
  go_wp2
  go_ret
  exact ⟨ret_int E.out.symm, rfl⟩
 ·have E : Hid (max a b = b) := Int.max_eq_right (by omega)
  go_enter Tryd.func80, Tryd.ntmps80
  go_wp2
  go_ret
  exact ⟨ret_int E.out.symm, rfl⟩
theorem clamp_eq (x : Int) : max (min x 1000000000) (-1000000000) = clampI x := by
 unfold clampI; split <;> (try split) <;> omega
theorem l1Clamp_any (x : Int) (w : World) : Calls Tryd.prog 73 #[.int .i64 x] w fun e w' => e = .returned (.int .i64 (clampI x)) ∧ w' = w := by
 have E : Hid (max (min x 1000000000) (-1000000000) = clampI x) := clamp_eq x
 go_enter Tryd.func73, Tryd.ntmps73
 go_wp2_with fail
 refine (l1Min_any _ _ _).mono ?_
 rintro e w' ⟨rfl, rfl⟩
 generalize hm : min x 1000000000 = m at *
 clear hm
 go_wp2_with fail
 refine (l1Max_any _ _ _).mono ?_
 rintro e w' ⟨rfl, rfl⟩
 rw [E.out]
 go_wp2
 go_ret
 exact ⟨rfl, rfl⟩

theorem l1Without_any (v : Value) (l : PL) (x : Int) (w : World) (h : Row w v l.length (flatP l)) (hn : l.length ≤ 4194304) :
  Calls Tryd.prog 79 #[v, .int .i64 x] w fun e w' => ∃ v', e = .returned v' ∧ w'.ownsRow w.heap.size 52 2 v' (delF l x).length (flatP (delF l x)) ∧ Below w.heap.size w w' := by
 obtain ⟨a, b, off, cap, rfl, hcap, hmax, ha, hk, hv⟩ := h.pairs
 obtain ⟨i0, hi, hz0, hz1, hz2⟩ := info_parts Tryd.info52
 unfold maxLen at hmax
 go_enter Tryd.func79, Tryd.ntmps79
 go_wp2
 go_loopw [5, 6] (fun out i wr => ∃ k : Nat, k ≤ l.length ∧ i = .int .i64 k ∧ wr.ownsRow w.heap.size 52 2 out (delF (l.take k) x).length (flatP (delF (l.take k) x)) ∧ Below w.heap.size w wr)
  (fun _ i _ => l.length - (intOf i).toNat)
 case atStart => exact ⟨0, Nat.zero_le _, rfl, empty_own w _ 52 2 (Nat.le_refl _), (Below.refl _ _).alloc (Nat.le_refl _) _⟩
 case round =>
  obtain ⟨k, hkl, rfl, hown, hb⟩ := hrel
  by_cases hlt : k < l.length
  ·have hal := ha (by omega)
   subst hal
   have d0 := (hb.cell (by exact cell_lt (hk k hlt))).trans (hk k hlt)
   have d1 := (hb.cell (by exact cell_lt (hv k hlt))).trans (hv k hlt)
   have hds := delF_succ l x k hlt
   have hdl : (delF (l.take k) x).length ≤ k := Nat.le_trans (delF_length _ _) (List.length_take_le _ _)
   by_cases hx : kOf l k = x
   ·have hq : (kOf l k != x) = false := by simpa using hx
    rw [if_pos hx] at hds
    have DS : Hid _ := hds
    have OW : Hid _ := hown
    clear hk hv hx hds hown h
    go_wp2
    go_roundw
    case rel => exact ⟨k + 1, by omega, by go_num, by rw [DS.out]; exact OW.out, hb⟩
    case measure => simp [intOf]; omega
   ·have hq : (kOf l k != x) = true := by simpa using hx
    rw [if_neg hx] at hds
    have DS : Hid _ := hds
    generalize delF (l.take k) x = D at *
    have hbs := hb.size
    clear hk hv hx hds h
    have hrm := room_of (n := D.length) (bytes := 16) (by omega) (by decide)
    have HR : Hid _ := hrm
    clear hrm
    go_wp2_with (at_builtin; refine app_one wr rfl _ _ 24 rfl w.heap.size 52 i0 _ 2 16 Tryd.underlying24 hi hz0 hz1 hz2 rfl (by decide) u5 _ _ rfl hown [.int .i64 (kOf l k), .int .i64 (vOf l k)] rfl rfl (two_one _ _) HR.out.1 HR.out.2 hbs ?_)
    intro v' w1 ho1 _ hb1
    rw [flatP_snoc] at ho1
    have hb2 := hb.trans hb1
    clear hown hb hb1
    go_wp2
    go_roundw
    case rel => exact ⟨k + 1, by omega, by go_num, by rw [DS.out, List.length_append]; exact ho1, hb2⟩
    case measure => simp [intOf]; omega
  ·go_wp2
   go_ret
   have hkk : k = l.length := by omega
   subst hkk
   rw [List.take_of_length_le (Nat.le_refl _)] at hown
   exact ⟨_, rfl, hown, hb⟩

theorem stp_cases {k v : Int} {s : PL × Bool} {p : Int × Int} : 
  (s.2 = false → k < p.1 → stp k v s p = (s.1 ++ [(k, v)] ++ [p], true)) ∧ (s.2 = false → p.1 = k → stp k v s p = (s.1 ++ [(k, v)], true)) ∧ (s.2 = false → p.1 < k → stp k v s p = (s.1 ++ [p], false)) ∧
  (s.2 = true → p.1 ≠ k → stp k v s p = (s.1 ++ [p], true)) ∧ (s.2 = true → p.1 = k → stp k v s p = (s.1, true)) := by
 obtain ⟨a, b⟩ := s
 refine ⟨fun h1 h2 => ?_, fun h1 h2 => ?_, fun h1 h2 => ?_, fun h1 h2 => ?_, fun h1 h2 => ?_⟩ <;> simp only at h1 <;> subst h1
 ·simp [stp, show k ≤ p.1 by omega, show ¬ p.1 = k by omega]
 ·simp [stp, h2]
 ·simp [stp, show ¬ k ≤ p.1 by omega, show ¬ p.1 = k by omega]
 ·simp [stp, h2]
 ·simp [stp, h2]

theorem l1Put_any (v : Value) (l : PL) (x y : Int) (w : World) (h : Row w v l.length (flatP l)) (hn : l.length ≤ 2097152) (hasc : Asc l) :
  Calls Tryd.prog 78 #[v, .int .i64 x, .int .i64 y] w fun e w' => ∃ v', e = .returned v' ∧ w'.ownsRow w.heap.size 52 2 v' (putF l x y).length (flatP (putF l x y)) ∧ Below w.heap.size w w' := by
 obtain ⟨a, b, off, cap, rfl, hcap, hmax, ha, hk, hv⟩ := h.pairs
 obtain ⟨i0, hi, hz0, hz1, hz2⟩ := info_parts Tryd.info52
 unfold maxLen at hmax
 have FULL : Hid _ := stpTo_full hasc x y
 clear hasc h
 go_enter Tryd.func78, Tryd.ntmps78
 go_wp2
 go_loopw [7, 8, 9] (fun out put i wr => ∃ k : Nat, k ≤ l.length ∧ i = .int .i64 k ∧ put = .bool (stpTo x y l k).2 ∧ wr.ownsRow w.heap.size 52 2 out (stpTo x y l k).1.length (flatP (stpTo x y l k).1) ∧ Below w.heap.size w wr)
  (fun _ _ i _ => l.length - (intOf i).toNat)
 case atStart => exact ⟨0, Nat.zero_le _, rfl, rfl, empty_own w _ 52 2 (Nat.le_refl _), (Below.refl _ _).alloc (Nat.le_refl _) _⟩
 case round =>
  obtain ⟨k, hkl, rfl, rfl, hown, hb⟩ := hrel
  have hbs := hb.size
  by_cases hlt : k < l.length
  ·have hal := ha (by omega)
   subst hal
   have d0 := (hb.cell (by exact cell_lt (hk k hlt))).trans (hk k hlt)
   have d1 := (hb.cell (by exact cell_lt (hv k hlt))).trans (hv k hlt)
   have hds := stpTo_succ x y l k hlt
   have hdl := stpTo_length x y l k
   obtain ⟨cc1, cc2, cc3, cc4, cc5⟩ := @stp_cases x y (stpTo x y l k) (kOf l k, vOf l k)
   have hbw : b < w.heap.size := cell_lt (hk k hlt)
   clear hk hv
   generalize hS : stpTo x y l k = S at *
   clear hS
   have HR : Hid _ := room_of (n := S.1.length) (bytes := 16) (by omega) (by decide)
   have HR2 : Hid _ := room_of (n := S.1.length + 1) (bytes := 16) (by omega) (by decide)
   obtain ⟨D, fl⟩ := S
   simp only at hown cc1 cc2 cc3 cc4 cc5 HR HR2
   cases fl
   ·rcases (show x < kOf l k ∨ kOf l k = x ∨ kOf l k < x from by omega) with hc | hc | hc
    ·have DS : Hid _ := hds.trans (cc1 rfl hc)
     have hq : (kOf l k != x) = true := by rw [bne_iff_ne]; omega
     clear hds cc1 cc2 cc3 cc4 cc5
     go_wp2_with (at_builtin; refine app_one wr rfl _ _ 24 rfl w.heap.size 52 i0 _ 2 16 Tryd.underlying24 hi hz0 hz1 hz2 rfl (by decide) u7 _ _ rfl hown [.int .i64 x, .int .i64 y] rfl rfl (two_one _ _) HR.out.1 HR.out.2 hbs ?_)
     intro v1 w1 ho1 _ hb1
     rw [flatP_snoc] at ho1
     have hb2 := hb.trans hb1
     have hbs1 := hb2.size
     have e0 := (hb1.cell (p := ⟨b, off + k * 2, none⟩) hbw).trans d0
     have e1 := (hb1.cell (p := ⟨b, off + k * 2 + 1, none⟩) hbw).trans d1
     clear d0 d1 hown hb hb1 hbs
     go_wp2_with (at_builtin; refine app_one w1 rfl _ _ 24 rfl w.heap.size 52 i0 _ 2 16 Tryd.underlying24 hi hz0 hz1 hz2 rfl (by decide) v1 _ _ rfl ho1 [.int .i64 (kOf l k), .int .i64 (vOf l k)] rfl rfl (two_one _ _) HR2.out.1 HR2.out.2 hbs1 ?_)
     intro v2 w2 ho2 _ hb3
     rw [flatP_snoc] at ho2
     have hb4 := hb2.trans hb3
     clear ho1 hb2 hb3 e0 e1
     go_wp2
     go_roundw
     case rel => exact ⟨k + 1, by omega, by go_num, by rw [DS.out], by rw [DS.out, List.length_append, List.length_append]; exact ho2, hb4⟩
     case measure => simp [intOf]; omega
    ·have DS : Hid _ := hds.trans (cc2 rfl hc)
     have hq : (kOf l k != x) = false := by rw [bne_eq_false_iff_eq]; exact hc
     have hge : x ≤ kOf l k := by omega
     clear hds cc1 cc2 cc3 cc4 cc5 hc
     go_wp2_with (at_builtin; refine app_one wr rfl _ _ 24 rfl w.heap.size 52 i0 _ 2 16 Tryd.underlying24 hi hz0 hz1 hz2 rfl (by decide) u7 _ _ rfl hown [.int .i64 x, .int .i64 y] rfl rfl (two_one _ _) HR.out.1 HR.out.2 hbs ?_)
     intro v1 w1 ho1 _ hb1
     rw [flatP_snoc] at ho1
     have hb2 := hb.trans hb1
     have e0 := (hb1.cell (p := ⟨b, off + k * 2, none⟩) hbw).trans d0
     clear d0 d1 hown hb hb1 hbs
     go_wp2
     go_roundw
     case rel => exact ⟨k + 1, by omega, by go_num, by rw [DS.out], by rw [DS.out, List.length_append]; exact ho1, hb2⟩
     case measure => simp [intOf]; omega
    ·have DS : Hid _ := hds.trans (cc3 rfl hc)
     have hq : (kOf l k != x) = true := by rw [bne_iff_ne]; omega
     clear hds cc1 cc2 cc3 cc4 cc5
     go_wp2_with (at_builtin; refine app_one wr rfl _ _ 24 rfl w.heap.size 52 i0 _ 2 16 Tryd.underlying24 hi hz0 hz1 hz2 rfl (by decide) u7 _ _ rfl hown [.int .i64 (kOf l k), .int .i64 (vOf l k)] rfl rfl (two_one _ _) HR.out.1 HR.out.2 hbs ?_)
     intro v1 w1 ho1 _ hb1
     rw [flatP_snoc] at ho1
     have hb2 := hb.trans hb1
     clear d0 d1 hown hb hb1 hbs
     go_wp2
     go_roundw
     case rel => exact ⟨k + 1, by omega, by go_num, by rw [DS.out], by rw [DS.out, List.length_append]; exact ho1, hb2⟩
     case measure => simp [intOf]; omega
   ·by_cases hc : kOf l k = x
    ·have DS : Hid _ := hds.trans (cc5 rfl hc)
     have hq : (kOf l k != x) = false := by rw [bne_eq_false_iff_eq]; exact hc
     clear hds cc1 cc2 cc3 cc4 cc5 hc
     have OW : Hid _ := hown
     clear hown
     go_wp2
     go_roundw
     case rel => exact ⟨k + 1, by omega, by go_num, by rw [DS.out], by rw [DS.out]; exact OW.out, hb⟩
     case measure => simp [intOf]; omega
    ·have DS : Hid _ := hds.trans (cc4 rfl hc)
     have hq : (kOf l k != x) = true := by rw [bne_iff_ne]; exact hc
     clear hds cc1 cc2 cc3 cc4 cc5
     go_wp2_with (at_builtin; refine app_one wr rfl _ _ 24 rfl w.heap.size 52 i0 _ 2 16 Tryd.underlying24 hi hz0 hz1 hz2 rfl (by decide) u7 _ _ rfl hown [.int .i64 (kOf l k), .int .i64 (vOf l k)] rfl rfl (two_one _ _) HR.out.1 HR.out.2 hbs ?_)
     intro v1 w1 ho1 _ hb1
     rw [flatP_snoc] at ho1
     have hb2 := hb.trans hb1
     clear d0 d1 hown hb hb1 hbs
     go_wp2
     go_roundw
     case rel => exact ⟨k + 1, by omega, by go_num, by rw [DS.out], by rw [DS.out, List.length_append]; exact ho1, hb2⟩
     case measure => simp [intOf]; omega
  ·have hkk : k = l.length := by omega
   subst hkk
   have hdl := stpTo_length x y l l.length
   generalize hS : stpTo x y l l.length = S at *
   clear hS
   have HR : Hid _ := room_of (n := S.1.length) (bytes := 16) (by omega) (by decide)
   obtain ⟨D, fl⟩ := S
   simp only at hown HR
   cases fl
   ·go_wp2_with (at_builtin; refine app_one wr rfl _ _ 24 rfl w.heap.size 52 i0 _ 2 16 Tryd.underlying24 hi hz0 hz1 hz2 rfl (by decide) u7 _ _ rfl hown [.int .i64 x, .int .i64 y] rfl rfl (two_one _ _) HR.out.1 HR.out.2 hbs ?_)
    intro v1 w1 ho1 _ hb1
    rw [flatP_snoc] at ho1
    have hb2 := hb.trans hb1
    clear hown hb hb1 hbs
    go_wp2
    go_ret
    have e : putF l x y = D ++ [(x, y)] := by rw [← FULL.out]; rfl
    exact ⟨_, rfl, by rw [e, List.length_append]; exact ho1, hb2⟩
   ·have OW : Hid _ := hown
    clear hown
    go_wp2
    go_ret
    have e : putF l x y = D := by rw [← FULL.out]; rfl
    exact ⟨_, rfl, by rw [e]; exact OW.out, hb⟩
end
section
open Go.RowKit

theorem ret_two {a b : Int} {c d : Bool} {q : Int × Bool} (h : q = (a, c)) (h2 : b = a) (h3 : d = c) : Ending.returned (.tuple #[.int .i64 b, .bool d]) = .returned (.tuple #[.int .i64 q.1, .bool q.2]) := by rw [h, h2, h3]

theorem specMapGet_any (v : Value) (l : List (Int × Int)) (x : Int) (w : World) (h : Row w v l.length (flatP l)) :
  Calls Tryd.prog 77 #[v, .int .i64 x] w fun e w' => e = .returned (.tuple #[.int .i64 (getP l x).1, .bool (getP l x).2]) ∧ w' = w := by
 obtain ⟨a, b, off, cap, rfl, hcap, hmax, ha, hk, hv⟩ := h.pairs
 unfold maxLen at hmax
 go_enter Tryd.func77, Tryd.ntmps77
 go_wp2
 go_loop [6] (fun i => ∃ k : Nat, k ≤ l.length ∧ i = .int .i64 k ∧ (∀ j, j < k → kOf l j ≠ x))
  (fun i => l.length - (intOf i).toNat)
 case atStart => exact ⟨0, Nat.zero_le _, rfl, fun i hi => absurd hi (Nat.not_lt_zero _)⟩
 case round =>
  obtain ⟨k, hkl, rfl, hall⟩ := hrel
  have ALL : Hid (∀ j, j < k → kOf l j ≠ x) := hall
  clear hall
  by_cases hlt : k < l.length
  ·have hal := ha (by omega)
   subst hal
   have d0 := hk k hlt
   have d1 := hv k hlt
   by_cases hx : kOf l k = x
   ·have G : Hid (getP l x = (vOf l k, true)) := getP_hit hlt ALL.out hx
    have hq : (kOf l k == x) = true := by simpa using hx
    clear hk hv hx
    go_wp2
    go_ret2
    exact ⟨ret_two G.out rfl rfl, rfl⟩
   ·have hq : (kOf l k == x) = false := by simpa using hx
    have HX : Hid (kOf l k ≠ x) := hx
    clear hk hv hx
    go_wp2
    go_round
    case rel => exact ⟨k + 1, by omega, by go_num, fun i hi => if h : i < k then ALL.out i h else by rw [show i = k by omega]; exact HX.out⟩
    case measure => simp [intOf]; omega
  ·have G : Hid (getP l x = (0, false)) := getP_none (fun j hj => ALL.out j (by omega))
   go_wp2
   go_ret2
   exact ⟨ret_two G.out rfl rfl, rfl⟩
end
end Go.Proofs.YtbmcojelgbkafaaDoor
