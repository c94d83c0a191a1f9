/-
  Rows and trees with the blocks that they lie in: what stays when other blocks are written.
  The contract of the model's l3Pending.
  The contract of the program's wayDown.
  The sorted map's drop, by a contract.
  Contracts of the program's sorted map as a map of pairs: put, drop, get, turned by a message, made of a list.
  The program's sorted map made of a list of pairs, and told as one.
  The contracts of the program's MapAll and MapDo.
  The contract of the model's MapAll.
  Contracts of chapter 3's Pending and TreeGet, of the model and of the program.
  Contracts of the model's TreeMap and TreeRange.
-/
import Derived.Test.YtekcnibohikmdaaOfWrites6
import Derived.Test.YtekcnibohikmdaaOfWrites7
import Derived.Deep.DeepCutAuto
import Derived.Test.YtekcnibohikmdaaOfWrites2
import Derived.Deep.LoopGhost
import Derived.Deep.RegionWith
namespace Go.Proofs.Ytekcnibohikmdaa
set_option maxRecDepth 100000
set_option maxHeartbeats 8000000
section
open Go.RowKit

def Plain (w : World) (b : Nat) : Prop := ∃ (c : Array Value) (t : Nat), w.heap[b]? = some (.cells c t (0, 0))
theorem Plain.lt {w : World} {b : Nat} (h : Plain w b) : b < w.heap.size := by
 obtain ⟨c, t, h⟩ := h
 exact (Array.getElem?_eq_some_iff.1 h).1
def RowF (w : World) (F : Nat → Prop) (v : Value) (n : Nat) (xs : List Value) : Prop :=
 ∃ (a : Option Addr) (b off cap : Nat), v = .slice a n cap ∧ n ≤ cap ∧ cap ≤ maxLen ∧ (0 < n → a = some ⟨b, off, none⟩ ∧ F b ∧ Plain w b) ∧ (∀ j u, xs[j]? = some u → w.cell? ⟨b, off + j, none⟩ = some u) ∧ (a = none → cap = 0) ∧ (n = 0 → xs = [])
theorem RowF.row {w : World} {F : Nat → Prop} {v : Value} {n : Nat} {xs : List Value} (h : RowF w F v n xs) : Row w v n xs := by
 obtain ⟨a, b, off, cap, h1, h2, h3, h4, h5, h6, _⟩ := h
 exact ⟨a, b, off, cap, h1, h2, h3, fun hn => (h4 hn).1, h5, h6⟩
theorem RowF.mono {w : World} {F G : Nat → Prop} {v : Value} {n : Nat} {xs : List Value} (h : RowF w F v n xs) (hFG : ∀ g, F g → G g) : RowF w G v n xs := by
 obtain ⟨a, b, off, cap, h1, h2, h3, h4, h5, h6, h7⟩ := h
 exact ⟨a, b, off, cap, h1, h2, h3, fun hn => ⟨(h4 hn).1, hFG _ (h4 hn).2.1, (h4 hn).2.2⟩, h5, h6, h7⟩
theorem RowF.frame {w w' : World} {F : Nat → Prop} {v : Value} {n : Nat} {xs : List Value} (h : RowF w F v n xs) (hf : ∀ g, F g → g < w.heap.size → w'.heap[g]? = w.heap[g]?) : RowF w' F v n xs := by
 obtain ⟨a, b, off, cap, h1, h2, h3, h4, h5, h6, h7⟩ := h
 refine ⟨a, b, off, cap, h1, h2, h3, fun hn => ⟨(h4 hn).1, (h4 hn).2.1, ?_⟩, fun j u hj => ?_, h6, h7⟩
 ·obtain ⟨e1, e2, c, t, e3⟩ := h4 hn
  exact ⟨c, t, (hf b e2 (Array.getElem?_eq_some_iff.1 e3).1).trans e3⟩
 have hc := h5 j u hj
 rcases Nat.eq_zero_or_pos n with h0 | h0
 ·rw [h7 h0] at hj; simp at hj
 ·rw [World.cell?_of_block (hf b (h4 h0).2.1 (cell_lt hc))]
  exact hc
theorem RowF.lt {w : World} {F : Nat → Prop} {v : Value} {n : Nat} {xs : List Value} (h : RowF w F v n xs) (_hx : 0 < n → xs ≠ []) : RowF w (fun g => F g ∧ g < w.heap.size) v n xs := by
 obtain ⟨a, b, off, cap, h1, h2, h3, h4, h5, h6, h7⟩ := h
 exact ⟨a, b, off, cap, h1, h2, h3, fun hn => ⟨(h4 hn).1, ⟨(h4 hn).2.1, (h4 hn).2.2.lt⟩, (h4 hn).2.2⟩, h5, h6, h7⟩
theorem RowF.of_owns {w : World} {base e size n : Nat} {v : Value} {xs : List Value} (h : w.ownsRow base e size v n xs) : RowF w (fun g => v.ownBlock = some g) v n xs := by
 have h0 := h
 obtain ⟨hl, h | ⟨g, cap, cur, rfl, hg, hh, hn, hcap, hsz, htake⟩⟩ := h
 ·obtain ⟨rfl, rfl⟩ := h
  have hx : xs = [] := by simpa using hl
  subst hx
  exact ⟨none, 0, 0, 0, rfl, Nat.le_refl _, Nat.zero_le _, fun h => absurd h (Nat.lt_irrefl _), fun j u hj => by simp at hj, fun _ => rfl, fun _ => rfl⟩
 ·refine ⟨some ⟨g, 0, none⟩, g, 0, cap, rfl, hn, hcap, fun _ => ⟨rfl, rfl, _, _, hh⟩, fun j u hj => ?_, (fun h => by cases h), fun h => ?_⟩
  ·have hlt : j < n * size := by
    have := (List.getElem?_eq_some_iff.1 hj).1
    omega
   rw [Nat.zero_add, h0.cellAt j hlt]
   exact hj
  ·subst h
   exact List.length_eq_zero_iff.1 (by omega)
theorem flat_get {xs : List Value} {i m size : Nat} (j : Nat) : ((xs.drop (i * size)).take (m * size))[j]? = if j < m * size then xs[i * size + j]? else none := by
 rw [List.getElem?_take]
 split
 ·rw [List.getElem?_drop]
 ·rfl

theorem flatP_ne (l : List (Int × Int)) : (l.length = 0 → flatP l = []) ∧ (0 < l.length → flatP l ≠ []) := by
 have := flatP_length l
 exact ⟨fun h => List.length_eq_zero_iff.1 (by omega), fun h e => by rw [e] at this; simp at this; omega⟩
theorem flatI_ne (l : List Int) : (l.length = 0 → flatI l = []) ∧ (0 < l.length → flatI l ≠ []) := by
 have := flatI_length l
 exact ⟨fun h => List.length_eq_zero_iff.1 (by omega), fun h e => by rw [e] at this; simp at this; omega⟩
theorem flatM_ne (l : ML) : (l.length = 0 → flatM l = []) ∧ (0 < l.length → flatM l ≠ []) := by
 have := flatM_length l
 exact ⟨fun h => List.length_eq_zero_iff.1 (by omega), fun h e => by rw [e] at this; simp at this; omega⟩
theorem flatT_ne (l : List TV) : (l.length = 0 → flatT l = []) ∧ (0 < l.length → flatT l ≠ []) := by
 have := flatT_length l
 exact ⟨fun h => List.length_eq_zero_iff.1 (by omega), fun h e => by rw [e] at this; simp at this; omega⟩

def TreeF : Nat → World → (Nat → Prop) → TV → Tr → Prop
 | 0, _, _, _, _ => False
 | n + 1, w, F, x, T => x.lf = T.leaf ∧ RowF w F x.p T.pairs.length (flatP T.pairs) ∧ RowF w F x.c T.cuts.length (flatI T.cuts) ∧ RowF w F x.b T.buf.length (flatM T.buf) ∧
   ∃ xs : List TV, xs.length = T.kids.length ∧ RowF w F x.k xs.length (flatT xs) ∧ ∀ i, i < xs.length → TreeF n w F (tvAt xs i) (kidT T i)
def TreesF (n : Nat) (w : World) (F : Nat → Prop) (v : Value) (ts : List Tr) : Prop :=
 ∃ xs : List TV, xs.length = ts.length ∧ RowF w F v xs.length (flatT xs) ∧ ∀ i, i < xs.length → TreeF n w F (tvAt xs i) (ts.getD i noTr)
theorem TreeF.treeAt : ∀ {n : Nat} {w : World} {F : Nat → Prop} {x : TV} {T : Tr}, TreeF n w F x T → TreeAt n w x T
 | 0, _, _, _, _, h => h
 | _ + 1, _, _, _, _, ⟨h1, h2, h3, h4, xs, h5, h6, h7⟩ => ⟨h1, h2.row, h3.row, h4.row, xs, h5, h6.row, fun i hi => (h7 i hi).treeAt⟩
theorem TreeF.mono : ∀ {n : Nat} {w : World} {F G : Nat → Prop} {x : TV} {T : Tr}, TreeF n w F x T → (∀ g, F g → G g) → TreeF n w G x T
 | 0, _, _, _, _, _, h, _ => h
 | _ + 1, _, _, _, _, _, ⟨h1, h2, h3, h4, xs, h5, h6, h7⟩, k => ⟨h1, h2.mono k, h3.mono k, h4.mono k, xs, h5, h6.mono k, fun i hi => (h7 i hi).mono k⟩
theorem TreeF.frame : ∀ {n : Nat} {w w' : World} {F : Nat → Prop} {x : TV} {T : Tr}, TreeF n w F x T → (∀ g, F g → g < w.heap.size → w'.heap[g]? = w.heap[g]?) → TreeF n w' F x T
 | 0, _, _, _, _, _, h, _ => h
 | _ + 1, _, _, _, _, _, ⟨h1, h2, h3, h4, xs, h5, h6, h7⟩, k => ⟨h1, h2.frame k, h3.frame k, h4.frame k, xs, h5, h6.frame k, fun i hi => (h7 i hi).frame k⟩
theorem TreeF.lt : ∀ {n : Nat} {w : World} {F : Nat → Prop} {x : TV} {T : Tr}, TreeF n w F x T → TreeF n w (fun g => F g ∧ g < w.heap.size) x T
 | 0, _, _, _, _, h => h
 | _ + 1, _, _, _, _, ⟨h1, h2, h3, h4, xs, h5, h6, h7⟩ => ⟨h1, h2.lt (flatP_ne _).2, h3.lt (flatI_ne _).2, h4.lt (flatM_ne _).2, xs, h5, h6.lt (flatT_ne _).2, fun i hi => (h7 i hi).lt⟩
theorem TreeF.up : ∀ {n : Nat} {w : World} {F : Nat → Prop} {x : TV} {T : Tr}, TreeF n w F x T → TreeF (n + 1) w F x T
 | 0, _, _, _, _, h => h.elim
 | _ + 1, _, _, _, _, ⟨h1, h2, h3, h4, xs, h5, h6, h7⟩ => ⟨h1, h2, h3, h4, xs, h5, h6, fun i hi => (h7 i hi).up⟩
theorem TreeF.le {n m : Nat} {w : World} {F : Nat → Prop} {x : TV} {T : Tr} (h : TreeF n w F x T) (hm : n ≤ m) : TreeF m w F x T := by
 induction hm with
 | refl => exact h
 | step _ ih => exact ih.up
theorem TreeF.chg {n : Nat} {w w' : World} {F P : Nat → Prop} {x : TV} {T : Tr} (h : TreeF n w F x T) (hc : Chg P w w') (hd : ∀ g, F g → ¬ P g) : TreeF n w' F x T := h.frame fun g hg hl => hc.block g hl (hd g hg)
theorem TreeF.below {n : Nat} {w w' : World} {F : Nat → Prop} {x : TV} {T : Tr} (h : TreeF n w F x T) (hb : Below w.heap.size w w') : TreeF n w' F x T := h.frame fun g _ hl => hb.block g hl
theorem RowF.below {w w' : World} {F : Nat → Prop} {v : Value} {n : Nat} {xs : List Value} (h : RowF w F v n xs) (hb : Below w.heap.size w w') : RowF w' F v n xs := h.frame fun g _ hl => hb.block g hl
theorem RowF.chg {w w' : World} {F P : Nat → Prop} {v : Value} {n : Nat} {xs : List Value} (h : RowF w F v n xs) (hc : Chg P w w') (hd : ∀ g, F g → ¬ P g) : RowF w' F v n xs := h.frame fun g hg hl => hc.block g hl (hd g hg)
theorem TreesF.below {n : Nat} {w w' : World} {F : Nat → Prop} {v : Value} {ts : List Tr} (h : TreesF n w F v ts) (hb : Below w.heap.size w w') : TreesF n w' F v ts := by
 obtain ⟨xs, h1, h2, h3⟩ := h
 exact ⟨xs, h1, h2.below hb, fun i hi => (h3 i hi).below hb⟩
theorem TreesF.chg {n : Nat} {w w' : World} {F P : Nat → Prop} {v : Value} {ts : List Tr} (h : TreesF n w F v ts) (hc : Chg P w w') (hd : ∀ g, F g → ¬ P g) : TreesF n w' F v ts := by
 obtain ⟨xs, h1, h2, h3⟩ := h
 exact ⟨xs, h1, h2.chg hc hd, fun i hi => (h3 i hi).chg hc hd⟩
theorem TreesF.mono {n : Nat} {w : World} {F G : Nat → Prop} {v : Value} {ts : List Tr} (h : TreesF n w F v ts) (k : ∀ g, F g → G g) : TreesF n w G v ts := by
 obtain ⟨xs, h1, h2, h3⟩ := h
 exact ⟨xs, h1, h2.mono k, fun i hi => (h3 i hi).mono k⟩
theorem TreeF.parts {n : Nat} {w : World} {F : Nat → Prop} {x : TV} {T : Tr} (h : TreeF (n + 1) w F x T) :
  x.lf = T.leaf ∧ RowF w F x.p T.pairs.length (flatP T.pairs) ∧ RowF w F x.c T.cuts.length (flatI T.cuts) ∧ RowF w F x.b T.buf.length (flatM T.buf) ∧ TreesF n w F x.k T.kids := by
 obtain ⟨h1, h2, h3, h4, xs, h5, h6, h7⟩ := h
 exact ⟨h1, h2, h3, h4, xs, h5, h6, h7⟩
theorem TreeF.mk {n : Nat} {w : World} {F : Nat → Prop} {x : TV} {T : Tr} (h1 : x.lf = T.leaf) (h2 : RowF w F x.p T.pairs.length (flatP T.pairs)) (h3 : RowF w F x.c T.cuts.length (flatI T.cuts)) (h4 : RowF w F x.b T.buf.length (flatM T.buf)) (h5 : TreesF n w F x.k T.kids) : TreeF (n + 1) w F x T := by
 obtain ⟨xs, h5, h6, h7⟩ := h5
 exact ⟨h1, h2, h3, h4, xs, h5, h6, h7⟩
theorem flatT_oneF {n : Nat} {w : World} {F : Nat → Prop} {ts : List Tr} {xs : List TV} (h : ∀ i, i < xs.length → TreeF n w F (tvAt xs i) (ts.getD i noTr)) : ∀ y ∈ flatT xs, y.oneCell' = true := by
 intro y hy
 obtain ⟨x, hx, hy2⟩ := List.mem_flatMap.1 hy
 obtain ⟨i, hi, rfl⟩ := List.getElem_of_mem hx
 have := h i hi
 have e : tvAt xs i = xs[i] := by simp [tvAt, List.getD, hi]
 rw [e] at this
 obtain ⟨a1, a2, a3, a4, c1, c2, c3, c4, hs⟩ := this.treeAt.shape
 rw [hs] at hy2
 simp [TV.cells] at hy2
 rcases hy2 with rfl | rfl | rfl | rfl | rfl <;> rfl

theorem RowF.nil (w : World) (F : Nat → Prop) : RowF w F (.slice none 0 0) 0 [] :=
 ⟨none, 0, 0, 0, rfl, Nat.le_refl _, Nat.zero_le _, fun h => absurd h (Nat.lt_irrefl _), fun j u hj => by simp at hj, fun _ => rfl, fun _ => rfl⟩
theorem TreesF.nil (n : Nat) (w : World) (F : Nat → Prop) : TreesF n w F (.slice none 0 0) [] := ⟨[], rfl, RowF.nil w F, fun i hi => by simp at hi⟩
end
section
open Go.RowKit

theorem box_cells5 {u : World} {B : Nat} {x0 x1 x2 x3 x4 : Value} (h : OneAt u B #[x0, x1, x2, x3, x4]) :
  u.cell? ⟨B, 0, none⟩ = some x0 ∧ u.cell? ⟨B, 1, none⟩ = some x1 ∧ u.cell? ⟨B, 2, none⟩ = some x2 ∧ u.cell? ⟨B, 3, none⟩ = some x3 ∧ u.cell? ⟨B, 4, none⟩ = some x4 := by
 have := h.cells
 exact ⟨by rw [this]; rfl, by rw [this]; rfl, by rw [this]; rfl, by rw [this]; rfl, by rw [this]; rfl⟩
theorem OneAt.stepB {u w' : World} {B N : Nat} {A : Array Value} (h : OneAt u B A) (hb : Below N u w') (hN : B < N) : OneAt w' B A := (hb.block B hN).trans h
theorem cell_lowB {w w' : World} {N b o : Nat} {v : Value} (hb : Below N w w') (hN : b < N) (h : w.cell? ⟨b, o, none⟩ = some v) : w'.cell? ⟨b, o, none⟩ = some v := (hb.cell (p := ⟨b, o, none⟩) hN).trans h
end
section
open Go.RowKit

theorem OneAt.chg {w w' : World} {L : Nat} {A : Array Value} {p : Nat → Prop} (h : OneAt w L A) (hc : Chg p w w') (hp : ¬ p L) : OneAt w' L A :=
 (hc.block L (Array.getElem?_eq_some_iff.1 h).1 hp).trans h

theorem box_all5 {u : World} {B : Nat} {x0 x1 x2 x3 x4 : Value} (h : OneAt u B #[x0, x1, x2, x3, x4]) :
  (u.cell? ⟨B, 0, none⟩ = some x0 ∧ u.cell? ⟨B, 1, none⟩ = some x1 ∧ u.cell? ⟨B, 2, none⟩ = some x2 ∧ u.cell? ⟨B, 3, none⟩ = some x3 ∧ u.cell? ⟨B, 4, none⟩ = some x4) ∧
  (u.frozen? ⟨B, 0, none⟩ = false ∧ u.frozen? ⟨B, 1, none⟩ = false ∧ u.frozen? ⟨B, 2, none⟩ = false ∧ u.frozen? ⟨B, 3, none⟩ = false ∧ u.frozen? ⟨B, 4, none⟩ = false) :=
 ⟨box_cells5 h, frozen_of_row u B 0 _ 54 h, frozen_of_row u B 1 _ 54 h, frozen_of_row u B 2 _ 54 h, frozen_of_row u B 3 _ 54 h, frozen_of_row u B 4 _ 54 h⟩

abbrev set5 (u : World) (L : Nat) (t0 t1 t2 t3 t4 : Value) : World := ((((u.setCell ⟨L, 0, none⟩ t0).setCell ⟨L, 1, none⟩ t1).setCell ⟨L, 2, none⟩ t2).setCell ⟨L, 3, none⟩ t3).setCell ⟨L, 4, none⟩ t4
theorem OneAt.set5 {u : World} {L : Nat} {x0 x1 x2 x3 x4 : Value} (h : OneAt u L #[x0, x1, x2, x3, x4]) (t0 t1 t2 t3 t4 : Value) : OneAt (set5 u L t0 t1 t2 t3 t4) L #[t0, t1, t2, t3, t4] :=
 heap_setCell_same _ L 4 _ 54 t4 (heap_setCell_same _ L 3 _ 54 t3 (heap_setCell_same _ L 2 _ 54 t2 (heap_setCell_same _ L 1 _ 54 t1 (heap_setCell_same u L 0 _ 54 t0 h))))
theorem chg_set5 (u : World) (L : Nat) (t0 t1 t2 t3 t4 : Value) : Chg (fun g => g = L) u (set5 u L t0 t1 t2 t3 t4) :=
 (((((Chg.refl (fun g => g = L) u).setAt L 0 rfl t0).setAt L 1 rfl t1).setAt L 2 rfl t2).setAt L 3 rfl t3).setAt L 4 rfl t4
end
section
open Go.RowKit
end
section
open Go.RowKit
end
section
open Go.RowKit
end
section
open Go.RowKit
end
section
open Go.RowKit

theorem allL_succ (l : PL) (ms : ML) (k : Nat) (h : k < ms.length) : allL l (ms.take (k + 1)) = doL (allL l (ms.take k)) (mO ms k, mK ms k, mV ms k) := by
 rw [take_succM ms k h, allL, List.foldl_append]; rfl

theorem specMapAll_any (va vm : Value) (l : PL) (ms : ML) (w : World) (h : Row w va l.length (flatP l)) (hm : Row w vm ms.length (flatM ms)) (hn : l.length + ms.length ≤ 2097152) :
  Calls Try.prog 59 #[va, vm] w fun e w' => ∃ v', e = .returned v' ∧ w'.ownsRow w.heap.size 76 2 v' (allL l ms).length (flatP (allL l ms)) ∧ Below w.heap.size w w' := by
 obtain ⟨i0, hi, hz0, hz1, hz2⟩ := info_parts Try.info76
 have RW : Hid (Row w va l.length (flatP l)) := h
 have HR : Hid _ := room_row (n := l.length) (bytes := 16) (by omega) (by decide)
 have Hb : Hid (w.heap.size ≤ (w.alloc (.cells #[] 76)).heap.size) := by show _ ≤ _; simp
 obtain ⟨a, b, off, cap, rfl, hcap, hmax, ha, ho, hk, hv⟩ := hm.msgs
 unfold maxLen at hmax
 clear h
 go_enter Try.func59, Try.ntmps59
 go_wp2_with (at_builtin; refine app_row (w.alloc (.cells #[] 76)) rfl _ _ 49 rfl w.heap.size 76 i0 _ 2 16 Try.underlying49 hi hz0 hz1 hz2 rfl (by decide) (.slice (some ⟨w.heap.size, 0, none⟩) 0 0) 0 [] rfl (empty_own w w.heap.size 76 2 (Nat.le_refl _)) va l.length (flatP l) rfl (RW.out.below ((Below.refl _ _).alloc (Nat.le_refl _) _)) (flatP_length _) (flatP_one _) HR.out.1 HR.out.2 Hb.out ?_)
 intro v0 w0 ho0 _ hb0
 have B0 : Below w.heap.size w w0 := ((Below.refl _ _).alloc (Nat.le_refl _) _).trans hb0
 clear hb0
 go_wp2
 go_loopw [5, 6] (fun out i wr => ∃ k : Nat, k ≤ ms.length ∧ i = .int .i64 k ∧ wr.ownsRow w.heap.size 76 2 out (allL l (ms.take k)).length (flatP (allL l (ms.take k))) ∧ Below w.heap.size w wr)
  (fun _ i _ => ms.length - (intOf i).toNat)
 case atStart => exact ⟨0, Nat.zero_le _, rfl, ho0, B0⟩
 case round =>
  obtain ⟨k, hkl, rfl, hown, hb⟩ := hrel
  by_cases hlt : k < ms.length
  ·have hal := ha (by omega)
   subst hal
   have d0 := (hb.cell (by exact cell_lt (ho k hlt))).trans (ho k hlt)
   have d1 := (hb.cell (by exact cell_lt (hk k hlt))).trans (hk k hlt)
   have d2 := (hb.cell (by exact cell_lt (hv k hlt))).trans (hv k hlt)
   have DS : Hid _ := allL_succ l ms k hlt
   have hal := allL_length l (ms.take k)
   have htl : (ms.take k).length ≤ k := List.length_take_le _ _
   generalize hA : allL l (ms.take k) = A at *
   clear hA ho hk hv ho0 B0
   have OW : Hid _ := hown
   have RA : Hid (Row wr u5 A.length (flatP A)) := Row.of_owns hown
   clear hown
   go_wp2_with fail
   refine (specMapDo_any u5 A _ _ _ wr RA.out (by omega)).mono ?_
   rintro e w1 ⟨v1, rfl, o1, b1⟩
   go_wp2
   go_roundw
   case rel => exact ⟨k + 1, by omega, by go_num, by rw [DS.out]; exact owns_mono o1 hb.size, hb.trans (b1.mono hb.size)⟩
   case measure => simp [intOf]; omega
  ·go_wp2
   go_ret
   have hkk : k = ms.length := by omega
   subst hkk
   rw [List.take_of_length_le (Nat.le_refl _)] at hown
   exact ⟨_, rfl, hown, hb⟩
end
section
open Go.RowKit

def pendT (T : Tr) (k : Int) : ML := if okT T = true then pendF 7 T k else []
def getT (T : Tr) (k : Int) : Int × Bool := if okT T = true then getP (allL (leafF 7 T k).pairs (pendF 7 T k)) k else (0, false)
end
section
open Go.RowKit

def accF (m : Nat) (T : Tr) (j : Nat) : PL := T.pairs ++ ((T.kids.take j).map (mapF m)).flatten
def mapT (T : Tr) : PL := if okT T = true then mapF 7 T else []
def rangeT (T : Tr) (lo hi : Int) : PL := rangeL (mapT T) lo hi
theorem app_oneL {P : Program} {ops : Array Oper} {rest : List Oper} {o : Oper} {a : Act} {Q : Exit → Act → World → Prop} (W : World) (B : Nat) (hB : W.heap.size = B) (hgd : o.guard = none) (s x : Operand) (t : TypeId)
  (ho : o.op = .call { callee := .builtin .append, args := #[s, x], argTypes := #[t, t] })
  (base : Nat) (e : TypeId) (i : TypeInfo) (z : Value) (size bytes : Nat) (ht : P.underlying t = some (.slice e)) (hi : P.info? e = some i) (hz : i.zero = some z)
  (hsize : i.size = size) (hby : i.bytes = bytes) (hzs : z.cells.size = size) (hsz : 0 < size)
  (v : Value) (n : Nat) (xs : List Value) (hs : a.eval s = v) (hown : W.ownsRow base e size v n xs)
  (news : List Value) (hx : a.eval x = .slice (some ⟨B, 0, none⟩) 1 1) (hl : news.length = size) (h1 : ∀ u ∈ news, u.oneCell' = true)
  (h63 : n + 1 ≤ maxLen) (hbytes : (n + 1) * bytes ≤ 140737488355328) (hbase : base ≤ W.heap.size)
  (h : ∀ v' w', w'.ownsRow base e size v' (n + 1) (xs ++ news) → Chg (fun g => v.ownBlock = some g) W w' → Below base W w' → (∀ g, v'.ownBlock = some g → v.ownBlock = some g ∨ g = B + 1) → wpList P ops Q rest (a.put o.dst v') w') :
  wpList P ops Q (o :: rest) a (W.alloc (.cells news.toArray e)) := by
 subst hB
 refine wpList_append_lies _ hgd s x t ho base e i z size bytes ht hi hz hsize hby hzs hsz v n xs hs (hown.alloc _) ⟨W.heap.size, 0, none⟩ 1 1 news hx (by omega) ?_ h1 (by decide) h63 hbytes (by simp; omega) (W.heap.size + 1) (by simp) ?_
 ·intro j u hj
  rw [Go.WideShapes.add_plain, Nat.zero_add, cell_of_cells (heap_alloc_new W _)]
  simpa using hj
 ·intro g cap w' h2 h3 h4 _
  have hc : Chg (fun g => v.ownBlock = some g) W w' := ((Chg.refl _ _).alloc _).trans (chg_of_grown h3) (fun _ _ e => e)
  refine h _ w' h2 hc (below_of_own hown hc hbase) (fun g' hg' => ?_)
  have : g = g' := by simpa [Value.ownBlock] using hg'
  subst this
  exact h4
end
end Go.Proofs.Ytekcnibohikmdaa
