/-
  Rows and trees with the blocks that they lie in: what stays when other blocks are written.
  The contract of the model's l3Pending.
  The contract of the program's wayDown.
  The sorted map's drop, by a contract.
  The model's way of putting into a map, pair by pair, comes to the plain function.
  Contracts of the model's small functions on maps: clamp, without, put.
  Contracts of MapGet, the model's and the program's.
  Contracts of the model's MapDo and MapAll.
  Contracts of the program's sorted map as a map of pairs: put, drop, get, turned by a message, made of a list.
  The program's sorted map made of a list of pairs, and told as one.
  The contracts of the program's MapAll and MapDo.
  The contract of the model's MapAll.
  Contracts of chapter 3's Pending and TreeGet, of the model and of the program.
  Contracts of the model's TreeMap and TreeRange.
  Contracts of the model's l4At, l4Split.
  Rows of one's own that may be empty without room; appending to them, and where it lies.
-/
import Derived.Test.YtmdajbbpigbdcaaGreatOfFeed4
import Derived.Test.YtmdajbbpigbdcaaGreatOfFeed11
import Derived.Deep.DeepCutAuto
import Derived.Test.YtmdajbbpigbdcaaGreatOfFeed1
import Derived.Test.YtmdajbbpigbdcaaGreatOfFeed2
import Derived.Test.YtmdajbbpigbdcaaGreatOfFeed8
import Derived.Deep.LoopGhost
import Derived.Deep.RegionWith
namespace Go.Proofs.YtmdajbbpigbdcaaGreat
set_option maxRecDepth 100000
set_option maxHeartbeats 8000000
section
open Go.RowKit

def Plain (w : World) (b : Nat) : Prop := ∃ (c : Array Value) (t : Nat), w.heap[b]? = some (.cells c t (0, 0))
theorem Plain.lt {w : World} {b : Nat} (h : Plain w b) : b < w.heap.size := by
 obtain ⟨c, t, h⟩ := h
 exact (Array.getElem?_eq_some_iff.1 h).1
def RowF (w : World) (F : Nat → Prop) (v : Value) (n : Nat) (xs : List Value) : Prop :=
 ∃ (a : Option Addr) (b off cap : Nat), v = .slice a n cap ∧ n ≤ cap ∧ cap ≤ maxLen ∧ (0 < n → a = some ⟨b, off, none⟩ ∧ F b ∧ Plain w b) ∧ (∀ j u, xs[j]? = some u → w.cell? ⟨b, off + j, none⟩ = some u) ∧ (a = none → cap = 0) ∧ (n = 0 → xs = [])
theorem RowF.row {w : World} {F : Nat → Prop} {v : Value} {n : Nat} {xs : List Value} (h : RowF w F v n xs) : Row w v n xs := by
 obtain ⟨a, b, off, cap, h1, h2, h3, h4, h5, h6, _⟩ := h
 exact ⟨a, b, off, cap, h1, h2, h3, fun hn => (h4 hn).1, h5, h6⟩
theorem RowF.mono {w : World} {F G : Nat → Prop} {v : Value} {n : Nat} {xs : List Value} (h : RowF w F v n xs) (hFG : ∀ g, F g → G g) : RowF w G v n xs := by
 obtain ⟨a, b, off, cap, h1, h2, h3, h4, h5, h6, h7⟩ := h
 exact ⟨a, b, off, cap, h1, h2, h3, fun hn => ⟨(h4 hn).1, hFG _ (h4 hn).2.1, (h4 hn).2.2⟩, h5, h6, h7⟩
theorem RowF.frame {w w' : World} {F : Nat → Prop} {v : Value} {n : Nat} {xs : List Value} (h : RowF w F v n xs) (hf : ∀ g, F g → g < w.heap.size → w'.heap[g]? = w.heap[g]?) : RowF w' F v n xs := by
 obtain ⟨a, b, off, cap, h1, h2, h3, h4, h5, h6, h7⟩ := h
 refine ⟨a, b, off, cap, h1, h2, h3, fun hn => ⟨(h4 hn).1, (h4 hn).2.1, ?_⟩, fun j u hj => ?_, h6, h7⟩
 ·obtain ⟨e1, e2, c, t, e3⟩ := h4 hn
  exact ⟨c, t, (hf b e2 (Array.getElem?_eq_some_iff.1 e3).1).trans e3⟩
 have hc := h5 j u hj
 rcases Nat.eq_zero_or_pos n with h0 | h0
 ·rw [h7 h0] at hj; simp at hj
 ·rw [World.cell?_of_block (hf b (h4 h0).2.1 (cell_lt hc))]
  exact hc
theorem RowF.lt {w : World} {F : Nat → Prop} {v : Value} {n : Nat} {xs : List Value} (h : RowF w F v n xs) (_hx : 0 < n → xs ≠ []) : RowF w (fun g => F g ∧ g < w.heap.size) v n xs := by
 obtain ⟨a, b, off, cap, h1, h2, h3, h4, h5, h6, h7⟩ := h
 exact ⟨a, b, off, cap, h1, h2, h3, fun hn => ⟨(h4 hn).1, ⟨(h4 hn).2.1, (h4 hn).2.2.lt⟩, (h4 hn).2.2⟩, h5, h6, h7⟩
theorem RowF.of_owns {w : World} {base e size n : Nat} {v : Value} {xs : List Value} (h : w.ownsRow base e size v n xs) : RowF w (fun g => v.ownBlock = some g) v n xs := by
 have h0 := h
 obtain ⟨hl, h | ⟨g, cap, cur, rfl, hg, hh, hn, hcap, hsz, htake⟩⟩ := h
 ·obtain ⟨rfl, rfl⟩ := h
  have hx : xs = [] := by simpa using hl
  subst hx
  exact ⟨none, 0, 0, 0, rfl, Nat.le_refl _, Nat.zero_le _, fun h => absurd h (Nat.lt_irrefl _), fun j u hj => by simp at hj, fun _ => rfl, fun _ => rfl⟩
 ·refine ⟨some ⟨g, 0, none⟩, g, 0, cap, rfl, hn, hcap, fun _ => ⟨rfl, rfl, _, _, hh⟩, fun j u hj => ?_, (fun h => by cases h), fun h => ?_⟩
  ·have hlt : j < n * size := by
    have := (List.getElem?_eq_some_iff.1 hj).1
    omega
   rw [Nat.zero_add, h0.cellAt j hlt]
   exact hj
  ·subst h
   exact List.length_eq_zero_iff.1 (by omega)
theorem flatT_ne (l : List TV) : (l.length = 0 → flatT l = []) ∧ (0 < l.length → flatT l ≠ []) := by
 have := flatT_length l
 exact ⟨fun h => List.length_eq_zero_iff.1 (by omega), fun h e => by rw [e] at this; simp at this; omega⟩

def TreeF : Nat → World → (Nat → Prop) → TV → Tr → Prop
 | 0, _, _, _, _ => False
 | n + 1, w, F, x, T => x.lf = T.leaf ∧ RowF w F x.p T.pairs.length (flatP T.pairs) ∧ RowF w F x.c T.cuts.length (flatI T.cuts) ∧ RowF w F x.b T.buf.length (flatM T.buf) ∧
   ∃ xs : List TV, xs.length = T.kids.length ∧ RowF w F x.k xs.length (flatT xs) ∧ ∀ i, i < xs.length → TreeF n w F (tvAt xs i) (kidT T i)
def TreesF (n : Nat) (w : World) (F : Nat → Prop) (v : Value) (ts : List Tr) : Prop :=
 ∃ xs : List TV, xs.length = ts.length ∧ RowF w F v xs.length (flatT xs) ∧ ∀ i, i < xs.length → TreeF n w F (tvAt xs i) (ts.getD i noTr)
theorem TreeF.treeAt : ∀ {n : Nat} {w : World} {F : Nat → Prop} {x : TV} {T : Tr}, TreeF n w F x T → TreeAt n w x T
 | 0, _, _, _, _, h => h
 | _ + 1, _, _, _, _, ⟨h1, h2, h3, h4, xs, h5, h6, h7⟩ => ⟨h1, h2.row, h3.row, h4.row, xs, h5, h6.row, fun i hi => (h7 i hi).treeAt⟩
theorem TreeF.mono : ∀ {n : Nat} {w : World} {F G : Nat → Prop} {x : TV} {T : Tr}, TreeF n w F x T → (∀ g, F g → G g) → TreeF n w G x T
 | 0, _, _, _, _, _, h, _ => h
 | _ + 1, _, _, _, _, _, ⟨h1, h2, h3, h4, xs, h5, h6, h7⟩, k => ⟨h1, h2.mono k, h3.mono k, h4.mono k, xs, h5, h6.mono k, fun i hi => (h7 i hi).mono k⟩
theorem TreeF.frame : ∀ {n : Nat} {w w' : World} {F : Nat → Prop} {x : TV} {T : Tr}, TreeF n w F x T → (∀ g, F g → g < w.heap.size → w'.heap[g]? = w.heap[g]?) → TreeF n w' F x T
 | 0, _, _, _, _, _, h, _ => h
 | _ + 1, _, _, _, _, _, ⟨h1, h2, h3, h4, xs, h5, h6, h7⟩, k => ⟨h1, h2.frame k, h3.frame k, h4.frame k, xs, h5, h6.frame k, fun i hi => (h7 i hi).frame k⟩
theorem TreeF.below {n : Nat} {w w' : World} {F : Nat → Prop} {x : TV} {T : Tr} (h : TreeF n w F x T) (hb : Below w.heap.size w w') : TreeF n w' F x T := h.frame fun g _ hl => hb.block g hl
theorem RowF.below {w w' : World} {F : Nat → Prop} {v : Value} {n : Nat} {xs : List Value} (h : RowF w F v n xs) (hb : Below w.heap.size w w') : RowF w' F v n xs := h.frame fun g _ hl => hb.block g hl
theorem TreeF.mk {n : Nat} {w : World} {F : Nat → Prop} {x : TV} {T : Tr} (h1 : x.lf = T.leaf) (h2 : RowF w F x.p T.pairs.length (flatP T.pairs)) (h3 : RowF w F x.c T.cuts.length (flatI T.cuts)) (h4 : RowF w F x.b T.buf.length (flatM T.buf)) (h5 : TreesF n w F x.k T.kids) : TreeF (n + 1) w F x T := by
 obtain ⟨xs, h5, h6, h7⟩ := h5
 exact ⟨h1, h2, h3, h4, xs, h5, h6, h7⟩
end
section
open Go.RowKit

theorem box_cells5 {u : World} {B : Nat} {x0 x1 x2 x3 x4 : Value} (h : OneAt u B #[x0, x1, x2, x3, x4]) :
  u.cell? ⟨B, 0, none⟩ = some x0 ∧ u.cell? ⟨B, 1, none⟩ = some x1 ∧ u.cell? ⟨B, 2, none⟩ = some x2 ∧ u.cell? ⟨B, 3, none⟩ = some x3 ∧ u.cell? ⟨B, 4, none⟩ = some x4 := by
 have := h.cells
 exact ⟨by rw [this]; rfl, by rw [this]; rfl, by rw [this]; rfl, by rw [this]; rfl, by rw [this]; rfl⟩
theorem OneAt.stepB {u w' : World} {B N : Nat} {A : Array Value} (h : OneAt u B A) (hb : Below N u w') (hN : B < N) : OneAt w' B A := (hb.block B hN).trans h
theorem cell_lowB {w w' : World} {N b o : Nat} {v : Value} (hb : Below N w w') (hN : b < N) (h : w.cell? ⟨b, o, none⟩ = some v) : w'.cell? ⟨b, o, none⟩ = some v := (hb.cell (p := ⟨b, o, none⟩) hN).trans h
end
section
open Go.RowKit

theorem OneAt.chg {w w' : World} {L : Nat} {A : Array Value} {p : Nat → Prop} (h : OneAt w L A) (hc : Chg p w w') (hp : ¬ p L) : OneAt w' L A :=
 (hc.block L (Array.getElem?_eq_some_iff.1 h).1 hp).trans h

theorem box_all5 {u : World} {B : Nat} {x0 x1 x2 x3 x4 : Value} (h : OneAt u B #[x0, x1, x2, x3, x4]) :
  (u.cell? ⟨B, 0, none⟩ = some x0 ∧ u.cell? ⟨B, 1, none⟩ = some x1 ∧ u.cell? ⟨B, 2, none⟩ = some x2 ∧ u.cell? ⟨B, 3, none⟩ = some x3 ∧ u.cell? ⟨B, 4, none⟩ = some x4) ∧
  (u.frozen? ⟨B, 0, none⟩ = false ∧ u.frozen? ⟨B, 1, none⟩ = false ∧ u.frozen? ⟨B, 2, none⟩ = false ∧ u.frozen? ⟨B, 3, none⟩ = false ∧ u.frozen? ⟨B, 4, none⟩ = false) :=
 ⟨box_cells5 h, frozen_of_row u B 0 _ 45 h, frozen_of_row u B 1 _ 45 h, frozen_of_row u B 2 _ 45 h, frozen_of_row u B 3 _ 45 h, frozen_of_row u B 4 _ 45 h⟩

abbrev set5 (u : World) (L : Nat) (t0 t1 t2 t3 t4 : Value) : World := ((((u.setCell ⟨L, 0, none⟩ t0).setCell ⟨L, 1, none⟩ t1).setCell ⟨L, 2, none⟩ t2).setCell ⟨L, 3, none⟩ t3).setCell ⟨L, 4, none⟩ t4
theorem OneAt.set5 {u : World} {L : Nat} {x0 x1 x2 x3 x4 : Value} (h : OneAt u L #[x0, x1, x2, x3, x4]) (t0 t1 t2 t3 t4 : Value) : OneAt (set5 u L t0 t1 t2 t3 t4) L #[t0, t1, t2, t3, t4] :=
 heap_setCell_same _ L 4 _ 45 t4 (heap_setCell_same _ L 3 _ 45 t3 (heap_setCell_same _ L 2 _ 45 t2 (heap_setCell_same _ L 1 _ 45 t1 (heap_setCell_same u L 0 _ 45 t0 h))))
theorem chg_set5 (u : World) (L : Nat) (t0 t1 t2 t3 t4 : Value) : Chg (fun g => g = L) u (set5 u L t0 t1 t2 t3 t4) :=
 (((((Chg.refl (fun g => g = L) u).setAt L 0 rfl t0).setAt L 1 rfl t1).setAt L 2 rfl t2).setAt L 3 rfl t3).setAt L 4 rfl t4
end
section
open Go.RowKit
end
section
def stp (k v : Int) (s : PL × Bool) (p : Int × Int) : PL × Bool :=
 if s.2 = false ∧ k ≤ p.1 then (if p.1 = k then (s.1 ++ [(k, v)], true) else (s.1 ++ [(k, v)] ++ [p], true))
 else (if p.1 = k then s else (s.1 ++ [p], s.2))
def stpTo (k v : Int) (l : PL) (i : Nat) : PL × Bool := (l.take i).foldl (stp k v) ([], false)
def stpEnd (k v : Int) (s : PL × Bool) : PL := if s.2 = true then s.1 else s.1 ++ [(k, v)]
end
section
open Go.RowKit
end
section
open Go.RowKit
end
section
open Go.RowKit

theorem room_row {n bytes : Nat} (h : n ≤ 8388608) (hb : bytes ≤ 256) : 0 + n ≤ maxLen ∧ (0 + n) * bytes ≤ 140737488355328 := by
 refine ⟨by unfold maxLen; omega, ?_⟩
 have : (0 + n) * bytes ≤ (0 + n) * 256 := Nat.mul_le_mul_left _ hb
 omega
end
section
open Go.RowKit
end
section
open Go.RowKit
end
section
open Go.RowKit
end
section
open Go.RowKit
end
section
open Go.RowKit

def pendT (T : Tr) (k : Int) : ML := if okT T = true then pendF 7 T k else []
def getT (T : Tr) (k : Int) : Int × Bool := if okT T = true then getP (allL (leafF 7 T k).pairs (pendF 7 T k)) k else (0, false)
end
section
open Go.RowKit

def accF (m : Nat) (T : Tr) (j : Nat) : PL := T.pairs ++ ((T.kids.take j).map (mapF m)).flatten
def mapT (T : Tr) : PL := if okT T = true then mapF 7 T else []
def rangeT (T : Tr) (lo hi : Int) : PL := rangeL (mapT T) lo hi
end
section
open Go.RowKit
end
section
open Go.RowKit

def wrB (v : Value) (g : Nat) : Prop := ∃ n cap, v = .slice (some ⟨g, 0, none⟩) n cap ∧ 0 < cap
def OwnE (w : World) (base e size : Nat) (v : Value) (n : Nat) (xs : List Value) : Prop :=
 w.ownsRow base e size v n xs ∨ (n = 0 ∧ xs = [] ∧ ∃ g, v = .slice (some ⟨g, 0, none⟩) 0 0)

theorem OwnE.slice {w : World} {base e size n : Nat} {v : Value} {xs : List Value} (h : OwnE w base e size v n xs) : ∃ (a : Option Addr) (cap : Nat), v = .slice a n cap := by
 rcases h with h | ⟨rfl, _, g, rfl⟩
 ·obtain ⟨a, cap, h, _⟩ := (Row.of_owns h).len
  exact ⟨a, cap, h⟩
 ·exact ⟨_, _, rfl⟩
theorem OwnE.lt {w : World} {base e size n : Nat} {v : Value} {xs : List Value} (h : OwnE w base e size v n xs) : ∀ g, wrB v g → base ≤ g ∧ g < w.heap.size := by
 rintro g ⟨k, cap, rfl, hc⟩
 rcases h with h | ⟨_, _, g', hg⟩
 ·exact h.lt g rfl
 ·simp at hg; omega
theorem OwnE.rowF {w : World} {base e size n : Nat} {v : Value} {xs : List Value} (h : OwnE w base e size v n xs) : RowF w (wrB v) v n xs := by
 rcases h with h | ⟨rfl, rfl, g, rfl⟩
 ·have h0 := RowF.of_owns h
  obtain ⟨a, b, off, cap, h1, h2, h3, h4, h5, h6, h7⟩ := h0
  refine ⟨a, b, off, cap, h1, h2, h3, fun hn => ⟨(h4 hn).1, ?_, (h4 hn).2.2⟩, h5, h6, h7⟩
  obtain ⟨g, cap', e1, e2, e3⟩ := h.form hn
  have : b = g := by
   have := (h4 hn).2.1
   rw [e1] at this
   simpa [Value.ownBlock] using this.symm
  subst this
  have hc : cap = cap' := by rw [h1] at e1; simp at e1; exact e1.2
  exact ⟨n, cap', e1, by omega⟩
 ·exact ⟨_, g, 0, 0, rfl, Nat.le_refl _, Nat.zero_le _, fun h => absurd h (Nat.lt_irrefl _), fun j u hj => by simp at hj, (fun h => by cases h), fun _ => rfl⟩
theorem OwnE.chg {P : Nat → Prop} {w w' : World} {base e size n : Nat} {v : Value} {xs : List Value} (h : OwnE w base e size v n xs) (hc : Chg P w w') (hP : ∀ g, wrB v g → ¬ P g) : OwnE w' base e size v n xs := by
 rcases h with h | h
 ·have h0 := h
  obtain ⟨hl, h | ⟨g, cap, cur, rfl, hg, hh, hn, hcap, hsz, htake⟩⟩ := h
  ·exact .inl ⟨hl, .inl h⟩
  ·rcases Nat.eq_zero_or_pos cap with h1 | h1
   ·subst h1
    have : n = 0 := by omega
    subst this
    exact .inr ⟨rfl, List.length_eq_zero_iff.1 (by omega), g, rfl⟩
   ·exact .inl (owns_chg h0 hc fun g' hg' => hP g' ⟨n, cap, by simp [Value.ownBlock] at hg'; rw [hg'], h1⟩)
 ·exact .inr h
theorem OwnE.below {w w' : World} {base e size n : Nat} {v : Value} {xs : List Value} (h : OwnE w base e size v n xs) (hb : Below w.heap.size w w') : OwnE w' base e size v n xs :=
 h.chg (Chg.of_below (F := fun _ => False) hb) (fun _ _ h => h)
theorem OwnE.mono {w : World} {base base' e size n : Nat} {v : Value} {xs : List Value} (h : OwnE w base e size v n xs) (hb : base' ≤ base) : OwnE w base' e size v n xs := h.imp (fun h => owns_mono h hb) id
theorem OwnE.nil (w : World) (base e size : Nat) : OwnE w base e size (.slice none 0 0) 0 [] := .inl (World.ownsRow_nil w base e size)
theorem OwnE.zero (w : World) (base e size g : Nat) : OwnE w base e size (.slice (some ⟨g, 0, none⟩) 0 0) 0 [] := .inr ⟨rfl, rfl, g, rfl⟩
theorem wrB_zero (b g : Nat) : ¬ wrB (.slice (some ⟨b, 0, none⟩) 0 0) g := fun ⟨_, _, h, h2⟩ => by simp at h; omega

def AppTo (W : World) (base e size : Nat) (v : Value) (n : Nat) (xs : List Value) (v' : Value) (w' : World) : Prop :=
 OwnE w' base e size v' n xs ∧ Chg (wrB v) W w' ∧ Below base W w' ∧ ∀ g, wrB v' g → wrB v g ∨ W.heap.size ≤ g

theorem run_append_E {P : Program} (W : World) (t ty : TypeId) (base : Nat) (e : TypeId) (i : TypeInfo) (z : Value) (size bytes : Nat) (ht : P.underlying t = some (.slice e)) (hi : P.info? e = some i) (hz : i.zero = some z)
  (hsize : i.size = size) (hby : i.bytes = bytes) (hzs : z.cells.size = size) (hsz : 0 < size)
  (v : Value) (n : Nat) (xs : List Value) (hown : OwnE W base e size v n xs)
  (u : Value) (m : Nat) (news : List Value) (hr : Row W u m news) (hl : news.length = m * size) (h1 : ∀ y ∈ news, y.oneCell' = true)
  (h63 : n + m ≤ maxLen) (hbytes : (n + m) * bytes ≤ 140737488355328) (hbase : base ≤ W.heap.size) :
  ∃ v' w', (Builtin.append_ #[t, t] ty #[v, u]).run P W = .ok v' w' ∧ AppTo W base e size v (n + m) (xs ++ news) v' w' := by
 obtain ⟨sa, b, off, cap, rfl, hle, hmx, hsa, hcell, hnil⟩ := hr
 have hnews : ∀ ad, sa = some ad → ∀ j y, news[j]? = some y → W.cell? (ad.add j) = some y := by
  intro ad had j y hj
  have hjl := (List.getElem?_eq_some_iff.1 hj).1
  have hm : 0 < m := by
   rcases Nat.eq_zero_or_pos m with h0 | h0
   ·subst h0; omega
   ·exact h0
  have := hsa hm
  rw [had] at this
  simp only [Option.some.injEq] at this
  subst this
  rw [Go.WideShapes.add_plain]
  exact hcell j y hj
 have key : ∀ (v' : Value) (w' : World), w'.ownsRow base e size v' (n + m) (xs ++ news) → W.grownBy w' v.ownBlock → (v'.ownBlock = v.ownBlock ∨ v'.ownBlock = some W.heap.size) → W.ownsRow base e size v n xs →
   ((∀ g c, v = .slice (some ⟨g, 0, none⟩) n c → c = 0 → v' = v ∧ w' = W ∨ Below W.heap.size W w' ∧ v'.ownBlock = some W.heap.size)) →
   (∀ g c c', v = .slice (some ⟨g, 0, none⟩) n c → v' = .slice (some ⟨g, 0, none⟩) (n + m) c' → g < W.heap.size) →
   AppTo W base e size v (n + m) (xs ++ news) v' w' := by
  intro v' w' h2 h3 h4 hv hz0 hlt
  obtain ⟨_, ⟨rfl, rfl⟩ | ⟨g, c, cur, rfl, hg, hh, hn, hcap, hs, htk⟩⟩ := hv
  ·have hb : Below W.heap.size W w' := by
    have hc := chg_of_grown h3
    exact hc.below (fun g _ hg => by simp [Value.ownBlock] at hg) (Nat.le_refl _)
   refine ⟨.inl h2, Chg.of_below hb, hb.mono hbase, fun g' hg' => ?_⟩
   obtain ⟨k, c', rfl, hc'⟩ := hg'
   rcases h4 with h4 | h4
   ·simp [Value.ownBlock] at h4
   ·simp [Value.ownBlock] at h4; right; omega
  ·rcases Nat.eq_zero_or_pos c with hc0 | hc0
   ·rcases hz0 g c rfl hc0 with ⟨rfl, rfl⟩ | ⟨hb, ho⟩
    ·exact ⟨.inl h2, Chg.refl _ _, Below.refl _ _, fun g' hg' => .inl hg'⟩
    ·refine ⟨.inl h2, Chg.of_below hb, hb.mono hbase, fun g' hg' => ?_⟩
     obtain ⟨k, c', rfl, hc'⟩ := hg'
     simp [Value.ownBlock] at ho
     right; omega
   ·have hc := chg_of_grown h3
    have hc' : Chg (wrB (.slice (some ⟨g, 0, none⟩) n c)) W w' := hc.mono fun g' _ hg' => by
     simp [Value.ownBlock] at hg'
     subst hg'
     exact ⟨n, c, rfl, hc0⟩
    refine ⟨.inl h2, hc', hc'.below (fun g' _ hg' => ?_) hbase, fun g' hg' => ?_⟩
    ·obtain ⟨_, _, hg', _⟩ := hg'
     simp at hg'
     omega
    ·obtain ⟨k, c2, rfl, hc2⟩ := hg'
     rcases h4 with h4 | h4
     ·simp [Value.ownBlock] at h4
      subst h4
      exact .inl ⟨n, c, rfl, hc0⟩
     ·simp [Value.ownBlock] at h4; right; omega
 by_cases hm : m = 0
 ·subst hm
  have hn0 : news = [] := List.length_eq_zero_iff.1 (by omega)
  subst hn0
  rw [List.append_nil, Nat.add_zero]
  have hv : ∃ a c, v = .slice a n c ∧ n ≤ c ∧ (a = none → c = 0 ∧ n = 0) := by
   rcases hown with h | ⟨rfl, _, g, rfl⟩
   ·obtain ⟨a, b', off', c, h1, h2, _, h4, _, h6⟩ := Row.of_owns h
    exact ⟨a, c, h1, h2, fun h => ⟨h6 h, by have := h6 h; omega⟩⟩
   ·exact ⟨_, 0, rfl, Nat.le_refl _, fun h => by cases h⟩
  obtain ⟨a, c, rfl, hnc, hnn⟩ := hv
  refine ⟨.slice a n c, W, ?_, hown, Chg.refl _ _, Below.refl _ _, fun g hg => .inl hg⟩
  have e : (cap = 0 ∨ sa ≠ none) := by
   cases sa with
   | none => exact .inl (hnil rfl)
   | some ad => exact .inr (by simp)
  cases a with
  | none =>
   obtain ⟨rfl, rfl⟩ := hnn rfl
   cases sa <;> simp [Builtin.append_, run_underlying ht, sizeOf, typeInfo, hi, Builtin.lenOf, Builtin.firstCells, loadCells, loadCellsFrom]
  | some ad =>
   cases sa <;> simp [Builtin.append_, run_underlying ht, sizeOf, typeInfo, hi, Builtin.lenOf, Builtin.firstCells, loadCells, loadCellsFrom, hnc, storeCells]
 ·have hm' : 0 < m := by omega
  have hsa' := hsa hm'
  subst hsa'
  rcases hown with hown | ⟨rfl, rfl, g, rfl⟩
  ·obtain ⟨v', w', hr, h2, h3, h4, h5⟩ := run_append_own_at (P := P) W base t ty e i z size bytes ht hi hz hsize hby hzs hsz v n xs hown ⟨b, off, none⟩ m cap news hl (hnews _ rfl) h1 h63 hbytes hbase
   refine ⟨v', w', hr, key v' w' h2 h3 h5 hown (fun g c hv hc => ?_) (fun g c c' hv _ => ?_)⟩
   ·right
    subst hv
    subst hc
    have hn0 : n = 0 := by
     obtain ⟨_, ⟨h, _⟩ | ⟨g', c', cur, h, hg, hh, hn, hcap, hs, htk⟩⟩ := hown
     ·simp at h
     ·simp at h; omega
    subst hn0
    have hx : xs = [] := List.length_eq_zero_iff.1 (by have := hown.1; omega)
    subst hx
    subst hsize
    subst hby
    have hg2 := run_append_grow (P := P) W t ty e i z ht hi hz ⟨g, 0, none⟩ 0 0 [] (by simp) (by intro j y hj; simp at hj) ⟨b, off, none⟩ m cap news hl (hnews _ rfl) (by omega) (by simp only [maxLen] at h63; omega) (growslice_fits (by omega) hbytes)
    rw [hg2] at hr
    simp only [Result.ok.injEq] at hr
    obtain ⟨rfl, rfl⟩ := hr
    exact ⟨((Below.refl _ _).drew).alloc (Nat.le_refl _) _, rfl⟩
   ·subst hv
    exact (hown.lt g rfl).2
  ·subst hsize
   subst hby
   have hg2 := run_append_grow (P := P) W t ty e i z ht hi hz ⟨g, 0, none⟩ 0 0 [] (by simp) (by intro j y hj; simp at hj) ⟨b, off, none⟩ m cap news hl (hnews _ rfl) (by omega) (by simp only [maxLen] at h63; omega) (growslice_fits (by omega) hbytes)
   obtain ⟨v', w', hr, h2, h3, h4, h5⟩ := run_append_own_at (P := P) W base t ty e i z i.size i.bytes ht hi hz rfl rfl hzs hsz (.slice none 0 0) 0 [] (World.ownsRow_nil W base e i.size) ⟨b, off, none⟩ m cap news hl (hnews _ rfl) h1 h63 hbytes hbase
   have hg3 := run_append_nil (P := P) W t ty e i z ht hi hz ⟨b, off, none⟩ m cap news hl (hnews _ rfl) hm' (by simp only [maxLen] at h63; omega) (by have hb := hbytes; simp only [Nat.zero_add] at hb; omega)
   rw [hg3] at hr
   simp only [Result.ok.injEq] at hr
   obtain ⟨rfl, rfl⟩ := hr
   have hb : Below W.heap.size W (W.drew.alloc (.cells (news.toArray ++ Builtin.zeroCells z.cells (grownCap W m 0 e - m)) e)) := ((Below.refl _ _).drew).alloc (Nat.le_refl _) _
   refine ⟨_, _, hg2, ?_⟩
   have e1 : ([] : List Value).toArray ++ news.toArray = news.toArray := by simp
   rw [e1, Nat.zero_add, List.nil_append]
   rw [Nat.zero_add, List.nil_append] at h2
   refine ⟨.inl h2, Chg.of_below hb, hb.mono hbase, fun g' hg' => ?_⟩
   obtain ⟨k, c', hk, _⟩ := hg'
   simp at hk
   right; omega

theorem wp_appE {P : Program} {o : Oper} {a : Act} {K : Act → World → Prop} {Q : Exit → Act → World → Prop} (W : World) (s x : Operand) (t : TypeId)
  (ho : o.op = .call { callee := .builtin .append, args := #[s, x], argTypes := #[t, t] })
  (base : Nat) (e : TypeId) (i : TypeInfo) (z : Value) (size bytes : Nat) (ht : P.underlying t = some (.slice e)) (hi : P.info? e = some i) (hz : i.zero = some z)
  (hsize : i.size = size) (hby : i.bytes = bytes) (hzs : z.cells.size = size) (hsz : 0 < size)
  (v : Value) (n : Nat) (xs : List Value) (hs : a.eval s = v) (hown : OwnE W base e size v n xs)
  (u : Value) (m : Nat) (news : List Value) (hx : a.eval x = u) (hr : Row W u m news) (hl : news.length = m * size) (h1 : ∀ y ∈ news, y.oneCell' = true)
  (h63 : n + m ≤ maxLen) (hbytes : (n + m) * bytes ≤ 140737488355328) (hbase : base ≤ W.heap.size)
  (h : ∀ v' w', AppTo W base e size v (n + m) (xs ++ news) v' w' → K (a.put o.dst v') w') : o.wp P a W K Q := by
 obtain ⟨v', w', hrun, h2⟩ := run_append_E (P := P) W t o.type base e i z size bytes ht hi hz hsize hby hzs hsz v n xs hown u m news hr hl h1 h63 hbytes hbase
 unfold Oper.wp
 simp [execOp, ho, resolve, invoke, builtin, hs, hx, hrun, Result.andThen]
 exact h v' w' h2
theorem step_appE {P : Program} {ops : Array Oper} {o : Oper} {a : Act} {K : Act → World → Prop} {Q : Exit → Act → World → Prop} {E : Prop} (W : World) (hgd : o.guard = none) (s x : Operand) (t : TypeId)
  (ho : o.op = .call { callee := .builtin .append, args := #[s, x], argTypes := #[t, t] })
  (base : Nat) (e : TypeId) (i : TypeInfo) (z : Value) (size bytes : Nat) (ht : P.underlying t = some (.slice e)) (hi : P.info? e = some i) (hz : i.zero = some z)
  (hsize : i.size = size) (hby : i.bytes = bytes) (hzs : z.cells.size = size) (hsz : 0 < size)
  (v : Value) (n : Nat) (xs : List Value) (hs : a.eval s = v) (hown : OwnE W base e size v n xs)
  (u : Value) (m : Nat) (news : List Value) (hx : a.eval x = u) (hr : Row W u m news) (hl : news.length = m * size) (h1 : ∀ y ∈ news, y.oneCell' = true)
  (h63 : n + m ≤ maxLen) (hbytes : (n + m) * bytes ≤ 140737488355328) (hbase : base ≤ W.heap.size)
  (h : ∀ v' w', AppTo W base e size v (n + m) (xs ++ news) v' w' → K (a.put o.dst v') w') :
  if Region.wanted o (yielded ops a.tmps) = true then Oper.wp P o a W K Q else E := by
 have hw : Region.wanted o (yielded ops a.tmps) = true := by simp [Region.wanted, hgd]
 rw [if_pos hw]
 exact wp_appE W s x t ho base e i z size bytes ht hi hz hsize hby hzs hsz v n xs hs hown u m news hx hr hl h1 h63 hbytes hbase h
theorem list_appE {P : Program} {ops : Array Oper} {rest : List Oper} {o : Oper} {a : Act} {Q : Exit → Act → World → Prop} (W : World) (hgd : o.guard = none) (s x : Operand) (t : TypeId)
  (ho : o.op = .call { callee := .builtin .append, args := #[s, x], argTypes := #[t, t] })
  (base : Nat) (e : TypeId) (i : TypeInfo) (z : Value) (size bytes : Nat) (ht : P.underlying t = some (.slice e)) (hi : P.info? e = some i) (hz : i.zero = some z)
  (hsize : i.size = size) (hby : i.bytes = bytes) (hzs : z.cells.size = size) (hsz : 0 < size)
  (v : Value) (n : Nat) (xs : List Value) (hs : a.eval s = v) (hown : OwnE W base e size v n xs)
  (u : Value) (m : Nat) (news : List Value) (hx : a.eval x = u) (hr : Row W u m news) (hl : news.length = m * size) (h1 : ∀ y ∈ news, y.oneCell' = true)
  (h63 : n + m ≤ maxLen) (hbytes : (n + m) * bytes ≤ 140737488355328) (hbase : base ≤ W.heap.size)
  (h : ∀ v' w', AppTo W base e size v (n + m) (xs ++ news) v' w' → wpList P ops Q rest (a.put o.dst v') w') :
  wpList P ops Q (o :: rest) a W :=
 wpList_plain hgd fun _ hK => wp_appE W s x t ho base e i z size bytes ht hi hz hsize hby hzs hsz v n xs hs hown u m news hx hr hl h1 h63 hbytes hbase fun v' w' h2 => hK _ _ (h v' w' h2)

theorem Row.laid (W : World) (xs : List Value) (e B : Nat) (hB : B = W.heap.size) : Row (W.alloc (.cells xs.toArray e)) (.slice (some ⟨B, 0, none⟩) 1 1) 1 xs := by
 subst hB
 refine ⟨_, W.heap.size, 0, 1, rfl, Nat.le_refl _, by decide, fun _ => rfl, fun j u hj => ?_, fun h => by cases h⟩
 rw [Nat.zero_add, cell_of_cells (heap_alloc_new W _)]
 simpa using hj
end
end Go.Proofs.YtmdajbbpigbdcaaGreat
