/-
  Rows of trees, piece by piece; the contract of the model's l4Put over trees.
  Trees in memory of their own, each row apart from all others.
  A tree's five cells as one list: whole loads and stores.
-/
import Derived.Test.YtbmcojelgbkafaaDoorOfNodes13
import Derived.Test.YtbmcojelgbkafaaDoorOfNodes11
import Derived.Deep.MidRow
import Derived.Laws.Rows
namespace Go.Proofs.YtbmcojelgbkafaaDoor
set_option maxRecDepth 100000
set_option maxHeartbeats 8000000
section
open Go.RowKit

def Els (n : Nat) (w : World) (F : Nat → Prop) (xs : List TV) (ts : List Tr) : Prop := xs.length = ts.length ∧ ∀ i, i < xs.length → TreeF n w F (tvAt xs i) (ts.getD i noTr)
variable {n : Nat} {w w' : World} {F : Nat → Prop} {xs ys : List TV} {ts us : List Tr}
theorem Els.append (h : Els n w F xs ts) (k : Els n w F ys us) : Els n w F (xs ++ ys) (ts ++ us) := by
 refine ⟨by simp [h.1, k.1], fun i hi => ?_⟩
 rw [List.length_append] at hi
 by_cases hx : i < xs.length
 ·have e1 : tvAt (xs ++ ys) i = tvAt xs i := by simp [tvAt, List.getD, List.getElem?_append_left hx]
  have e2 : (ts ++ us).getD i noTr = ts.getD i noTr := by simp [List.getD, List.getElem?_append_left (h.1 ▸ hx : i < ts.length)]
  rw [e1, e2]
  exact h.2 i hx
 ·have e1 : tvAt (xs ++ ys) i = tvAt ys (i - xs.length) := by simp [tvAt, List.getD, List.getElem?_append_right (Nat.le_of_not_lt hx)]
  have e2 : (ts ++ us).getD i noTr = us.getD (i - xs.length) noTr := by simp [List.getD, List.getElem?_append_right (h.1 ▸ (Nat.le_of_not_lt hx) : ts.length ≤ i), h.1]
  rw [e1, e2]
  exact k.2 _ (by omega)
theorem Els.take (h : Els n w F xs ts) (k : Nat) : Els n w F (xs.take k) (ts.take k) := by
 refine ⟨by simp [h.1], fun i hi => ?_⟩
 rw [List.length_take] at hi
 have e1 : tvAt (xs.take k) i = tvAt xs i := by simp [tvAt, List.getD, show i < k by omega]
 have e2 : (ts.take k).getD i noTr = ts.getD i noTr := by simp [List.getD, show i < k by omega]
 rw [e1, e2]
 exact h.2 i (by omega)
theorem Els.drop (h : Els n w F xs ts) (k : Nat) : Els n w F (xs.drop k) (ts.drop k) := by
 refine ⟨by simp [h.1], fun i hi => ?_⟩
 rw [List.length_drop] at hi
 have e1 : tvAt (xs.drop k) i = tvAt xs (k + i) := by simp [tvAt, List.getD]
 have e2 : (ts.drop k).getD i noTr = ts.getD (k + i) noTr := by simp [List.getD]
 rw [e1, e2]
 exact h.2 _ (by omega)
theorem Els.below (h : Els n w F xs ts) (hb : Below w.heap.size w w') : Els n w' F xs ts := ⟨h.1, fun i hi => (h.2 i hi).below hb⟩
theorem Els.mono {G : Nat → Prop} (h : Els n w F xs ts) (k : ∀ g, F g → G g) : Els n w G xs ts := ⟨h.1, fun i hi => (h.2 i hi).mono k⟩
theorem TreesF.els {v : Value} (h : TreesF n w F v ts) : ∃ xs, Els n w F xs ts ∧ RowF w F v ts.length (flatT xs) := by
 obtain ⟨xs, h1, h2, h3⟩ := h
 rw [h1] at h2
 exact ⟨xs, ⟨h1, h3⟩, h2⟩
theorem Els.trees {v : Value} (h : Els n w F xs ts) (hr : RowF w F v xs.length (flatT xs)) : TreesF n w F v ts := ⟨xs, h.1, hr, h.2⟩
theorem TreesF.lt {v : Value} (h : TreesF n w F v ts) : TreesF n w (fun g => F g ∧ g < w.heap.size) v ts := by
 obtain ⟨xs, h1, h2, h3⟩ := h
 exact ⟨xs, h1, h2.lt (flatT_ne _).2, fun i hi => (h3 i hi).lt⟩
theorem TreesF.frame {v : Value} (h : TreesF n w F v ts) (hf : ∀ g, F g → g < w.heap.size → w'.heap[g]? = w.heap[g]?) : TreesF n w' F v ts := by
 obtain ⟨xs, h1, h2, h3⟩ := h
 exact ⟨xs, h1, h2.frame hf, fun i hi => (h3 i hi).frame hf⟩

theorem l4Put_any (d : Nat) (F : Nat → Prop) (vt vc ut uc : Value) (m x : TM) (i : Nat) (w : World) (ht : TreesF d w F vt m.1) (hc : RowF w F vc m.2.length (flatI m.2)) (hu : TreesF d w F ut x.1) (hd : RowF w F uc x.2.length (flatI x.2))
  (hm : m.2.length + 1 = m.1.length) (h2 : 2 ≤ m.1.length) (hi : i < m.1.length) (hn : m.1.length ≤ 1048576) (hx : x.1.length ≤ 1048576) (hx2 : x.2.length ≤ 1048576) :
  Calls Tryd.prog 67 #[.agg #[vt, vc], .int .i64 (i : Nat), .agg #[ut, uc]] w fun e w' => ∃ v1 v2, e = .returned (.agg #[v1, v2]) ∧ TreesF d w' (fun b => F b ∨ w.heap.size ≤ b) v1 (putM m i x).1 ∧ RowF w' (fun b => F b ∨ w.heap.size ≤ b) v2 (putM m i x).2.length (flatI (putM m i x).2) ∧ Below w.heap.size w w' := by
 obtain ⟨xs, ex, rx⟩ := ht.els
 obtain ⟨ys, ey, ry⟩ := hu.els
 have gx := flatT_oneF ex.2
 have gy := flatT_oneF ey.2
 rw [← ex.1] at rx
 rw [← ey.1] at ry
 have qx := rx.row
 have qy := ry.row
 have qc := hc.row
 have qd := hd.row
 obtain ⟨av, b1, o1, c1, rfl, _, _, ha1, _⟩ := rx.row
 obtain ⟨bv, b2, o2, c2, rfl, _, _, ha2, _⟩ := hc.row
 obtain ⟨a5, b5, o5, c5, rfl, _⟩ := ry.row
 obtain ⟨a6, b6, o6, c6, rfl, _⟩ := hd.row
 have hx1 := ex.1
 have hy1 := ey.1
 have := ha1 (by omega)
 subst this
 have := ha2 (by omega)
 subst this
 refine (l4Put_rows b1 o1 c1 b2 o2 c2 a5 c5 a6 c6 xs ys m.2 x.2 i w qx qc qy qd (by omega) (by omega) (by omega) (by omega) (by omega) hx2 gx gy).mono ?_
 rintro e w' ⟨v1, v2, rfl, O1, O2, hb⟩
 refine ⟨v1, v2, rfl, ?_, ?_, hb⟩
 ·have el := ((ex.take i).append ey).append (ex.drop (i + 1))
  have el' : Els d w' (fun b => F b ∨ w.heap.size ≤ b) (xs.take i ++ ys ++ xs.drop (i + 1)) (putM m i x).1 := (el.below hb).mono fun g hg => .inl hg
  exact el'.trees (O1.rowF.mono fun g hg => .inr (O1.lt g hg).1)
 ·exact O2.rowF.mono fun g hg => .inr (O2.lt g hg).1

theorem off_app_t {G : Nat → Prop} {s e sz k : Nat} {vt vc vt' : Value} {l : List Value} (a : AppTo w s e sz vt k l vt' w') : (∀ g, offB G vt vc g ∧ g < w.heap.size → offB G vt' vc g) ∧ ∀ g, offB G vt vc g → ¬ wrB vt g :=
 ⟨fun g hg => ⟨hg.1.1, fun h => (a.2.2.2 g h).elim hg.1.2.1 (fun h => by omega), hg.1.2.2⟩, fun _ hg => hg.2.1⟩
theorem off_app_c {G : Nat → Prop} {s e sz k : Nat} {vt vc vc' : Value} {l : List Value} (a : AppTo w s e sz vc k l vc' w') : (∀ g, offB G vt vc g ∧ g < w.heap.size → offB G vt vc' g) ∧ ∀ g, offB G vt vc g → ¬ wrB vc g :=
 ⟨fun g hg => ⟨hg.1.1, hg.1.2.1, fun h => (a.2.2.2 g h).elim hg.1.2.2 (fun h => by omega)⟩, fun _ hg => hg.2.2⟩
theorem TreesF.off {P : Nat → Prop} {G' : Nat → Prop} {v : Value} (h : TreesF n w F v ts) (hc : Chg P w w') (hp : ∀ g, F g → ¬ P g) (hm : ∀ g, F g ∧ g < w.heap.size → G' g) : TreesF n w' G' v ts := ((h.lt).chg hc (fun g hg => hp g hg.1)).mono hm
theorem RowF.off {P : Nat → Prop} {G' : Nat → Prop} {v : Value} {k : Nat} {l : List Value} (h : RowF w F v k l) (hx : 0 < k → l ≠ []) (hc : Chg P w w') (hp : ∀ g, F g → ¬ P g) (hm : ∀ g, F g ∧ g < w.heap.size → G' g) : RowF w' G' v k l := ((h.lt hx).chg hc (fun g hg => hp g hg.1)).mono hm
end
section
open Go.RowKit

theorem OwnE.frame {w w' : World} {base e size n : Nat} {v : Value} {xs : List Value} (h : OwnE w base e size v n xs) (hf : ∀ g, wrB v g → g < w.heap.size → w'.heap[g]? = w.heap[g]?) : OwnE w' base e size v n xs := by
 rcases h with h | h
 ·obtain ⟨hl, h | ⟨g, cap, cur, rfl, hg, hh, hn, hcap, hsz, htake⟩⟩ := h
  ·exact .inl ⟨hl, .inl h⟩
  ·rcases Nat.eq_zero_or_pos cap with h1 | h1
   ·subst h1
    have : n = 0 := by omega
    subst this
    exact .inr ⟨rfl, List.length_eq_zero_iff.1 (by omega), g, rfl⟩
   ·exact .inl ⟨hl, .inr ⟨g, cap, cur, rfl, hg, (hf g ⟨_, _, rfl, h1⟩ (Array.getElem?_eq_some_iff.1 hh).1).trans hh, hn, hcap, hsz, htake⟩⟩
 ·exact .inr h

def TreeD : Nat → World → (Nat → Prop) → TV → Tr → Prop
 | 0, _, _, _, _ => False
 | n + 1, w, F, x, T => x.lf = T.leaf ∧ OwnE w 0 52 2 x.p T.pairs.length (flatP T.pairs) ∧ OwnE w 0 3 1 x.c T.cuts.length (flatI T.cuts) ∧ OwnE w 0 54 3 x.b T.buf.length (flatM T.buf) ∧
   (∀ g, wrB x.p g ∨ wrB x.c g ∨ wrB x.b g ∨ wrB x.k g → F g) ∧
   ∃ (xs : List TV) (K : Nat → Nat → Prop), xs.length = T.kids.length ∧ OwnE w 0 29 5 x.k xs.length (flatT xs) ∧
    (∀ i, i < xs.length → TreeD n w (K i) (tvAt xs i) (T.kids.getD i noTr)) ∧
    (∀ i g, i < xs.length → K i g → F g ∧ ¬ (wrB x.p g ∨ wrB x.c g ∨ wrB x.b g ∨ wrB x.k g)) ∧
    (∀ i j g, i < j → j < xs.length → K i g → ¬ K j g)

theorem TreeD.treeF : ∀ {n : Nat} {w : World} {F : Nat → Prop} {x : TV} {T : Tr}, TreeD n w F x T → TreeF n w F x T
 | 0, _, _, _, _, h => h.elim
 | n + 1, w, F, x, T, ⟨h1, h2, h3, h4, h5, xs, K, k1, k2, k3, k4, k5⟩ => by
  refine TreeF.mk h1 (h2.rowF.mono (fun g hg => h5 g (.inl hg))) (h3.rowF.mono (fun g hg => h5 g (.inr (.inl hg)))) (h4.rowF.mono (fun g hg => h5 g (.inr (.inr (.inl hg))))) ⟨xs, k1, ?_, fun i hi => (k3 i hi).treeF.mono (fun g hg => (k4 i g hi hg).1)⟩
  have := k2.rowF.mono (G := F) (fun g hg => h5 g (.inr (.inr (.inr hg))))
  exact this
theorem TreeD.mono : ∀ {n : Nat} {w : World} {F G : Nat → Prop} {x : TV} {T : Tr}, TreeD n w F x T → (∀ g, F g → G g) → TreeD n w G x T
 | 0, _, _, _, _, _, h, _ => h.elim
 | _ + 1, _, _, _, _, _, ⟨h1, h2, h3, h4, h5, xs, K, k1, k2, k3, k4, k5⟩, hk => ⟨h1, h2, h3, h4, fun g hg => hk g (h5 g hg), xs, K, k1, k2, k3, fun i g hi hg => ⟨hk g (k4 i g hi hg).1, (k4 i g hi hg).2⟩, k5⟩
theorem TreeD.frame : ∀ {n : Nat} {w w' : World} {F : Nat → Prop} {x : TV} {T : Tr}, TreeD n w F x T → (∀ g, F g → g < w.heap.size → w'.heap[g]? = w.heap[g]?) → TreeD n w' F x T
 | 0, _, _, _, _, _, h, _ => h.elim
 | _ + 1, _, _, _, _, _, ⟨h1, h2, h3, h4, h5, xs, K, k1, k2, k3, k4, k5⟩, hf => ⟨h1, h2.frame (fun g hg => hf g (h5 g (.inl hg))), h3.frame (fun g hg => hf g (h5 g (.inr (.inl hg)))), h4.frame (fun g hg => hf g (h5 g (.inr (.inr (.inl hg))))), h5, xs, K, k1, k2.frame (fun g hg => hf g (h5 g (.inr (.inr (.inr hg))))), fun i hi => (k3 i hi).frame (fun g hg => hf g (k4 i g hi hg).1), k4, k5⟩
theorem TreeD.lt : ∀ {n : Nat} {w : World} {F : Nat → Prop} {x : TV} {T : Tr}, TreeD n w F x T → TreeD n w (fun g => F g ∧ g < w.heap.size) x T
 | 0, _, _, _, _, h => h.elim
 | _ + 1, _, _, _, _, ⟨h1, h2, h3, h4, h5, xs, K, k1, k2, k3, k4, k5⟩ => ⟨h1, h2, h3, h4, fun g hg => ⟨h5 g hg, by
   rcases hg with h | h | h | h
   ·exact (h2.lt g h).2
   ·exact (h3.lt g h).2
   ·exact (h4.lt g h).2
   ·exact (k2.lt g h).2⟩, xs, fun i g => K i g ∧ g < _, k1, k2, fun i hi => (k3 i hi).lt, fun i g hi hg => ⟨⟨(k4 i g hi hg.1).1, hg.2⟩, (k4 i g hi hg.1).2⟩, fun i j g hij hj hg hg' => k5 i j g hij hj hg.1 hg'.1⟩
theorem TreeD.chg {n : Nat} {w w' : World} {F P : Nat → Prop} {x : TV} {T : Tr} (h : TreeD n w F x T) (hc : Chg P w w') (hd : ∀ g, F g → ¬ P g) : TreeD n w' F x T := h.frame fun g hg hl => hc.block g hl (hd g hg)
theorem TreeD.below {n : Nat} {w w' : World} {F : Nat → Prop} {x : TV} {T : Tr} (h : TreeD n w F x T) (hb : Below w.heap.size w w') : TreeD n w' F x T := h.frame fun g _ hl => hb.block g hl
theorem TreeD.up : ∀ {n : Nat} {w : World} {F : Nat → Prop} {x : TV} {T : Tr}, TreeD n w F x T → TreeD (n + 1) w F x T
 | 0, _, _, _, _, h => h.elim
 | _ + 1, _, _, _, _, ⟨h1, h2, h3, h4, h5, xs, K, k1, k2, k3, k4, k5⟩ => ⟨h1, h2, h3, h4, h5, xs, K, k1, k2, fun i hi => (k3 i hi).up, k4, k5⟩
theorem TreeD.le {n m : Nat} {w : World} {F : Nat → Prop} {x : TV} {T : Tr} (h : TreeD n w F x T) (hm : n ≤ m) : TreeD m w F x T := by
 obtain ⟨k, rfl⟩ : ∃ k, m = n + k := ⟨m - n, by omega⟩
 clear hm
 induction k with
 | zero => exact h
 | succ k ih => exact ih.up
end
section
open Go.RowKit

theorem thereC {w : World} {b : Nat} {A : Array Value} {t : TypeId} (h : w.heap[b]? = some (.cells A t (0, 0))) {k : Nat} (hk : A.size = k) : w.there b 0 k := fun j hj => by
 subst hk
 rw [Nat.zero_add, cell_of_row _ _ j _ t (0, 0) h]
 exact ⟨by simp [hj], frozen_of_row w b j A t h⟩
theorem splC {cur : Array Value} {vs : List Value} (h : cur.size = vs.length) : spl cur 0 vs = vs.toArray := by
 have := spl_toList vs cur 0 (by omega)
 simp only [List.take_zero, List.nil_append, Nat.zero_add] at this
 rw [List.drop_eq_nil_of_le (by simp; omega), List.append_nil] at this
 apply Array.ext'
 simpa using this
theorem setC {W : World} {R : Nat} {t : TypeId} {A : Array Value} (h : W.heap[R]? = some (.cells A t (0, 0))) (vs : List Value) (hn : A.size = vs.length) : (W.setCells R 0 vs).heap[R]? = some (.cells vs.toArray t (0, 0)) := by
 have := heap_setCells_same R t vs 0 W A h
 rw [splC hn] at this
 exact this
def zcs : List Value := [.bool false, .slice none 0 0, .slice none 0 0, .slice none 0 0, .slice none 0 0]
def Bx (w : World) (b : Nat) (cs : List Value) : Prop := w.heap[b]? = some (.cells cs.toArray 29 (0, 0)) ∧ cs.length = 5
theorem infoT5 {cs : List Value} (h : cs.length = 5) : (Tryd.prog.info? 29).map (·.size) = some cs.length := by rw [h]; kernel_rfl
theorem Bx.start (w : World) {cs : List Value} (h : cs.length = 5) : Bx (w.alloc (.cells cs.toArray 29)) w.heap.size cs := ⟨heap_alloc_new w _, h⟩
theorem Bx.lt {w : World} {b : Nat} {cs : List Value} (h : Bx w b cs) : b < w.heap.size := (Array.getElem?_eq_some_iff.1 h.1).1
theorem Bx.step {w u : World} {b : Nat} {cs : List Value} (h : Bx w b cs) (k : Below w.heap.size w u) : Bx u b cs := ⟨(k.block b h.lt).trans h.1, h.2⟩
theorem Bx.rg {w : World} {b : Nat} {cs : List Value} (h : Bx w b cs) : w.rangeAt b 0 cs := fun j v hv => by
 rw [Nat.zero_add, cell_of_row _ _ j _ _ (0, 0) h.1]
 simpa using hv
theorem Bx.there {w : World} {b : Nat} {cs ds : List Value} (h : Bx w b cs) (hd : ds.length = 5) : w.there b 0 ds.toArray.size := fun j hj => by
 have hd' : ds.toArray.size = 5 := by simp [hd]
 have hc : cs.toArray.size = 5 := by simp [h.2]
 exact (thereC h.1 hc) j (by omega)
theorem Bx.set {w : World} {b : Nat} {cs ds : List Value} (h : Bx w b cs) (hd : ds.length = 5) : Bx (w.setCells b 0 ds) b ds := ⟨setC h.1 ds (by simp [h.2, hd]), hd⟩
theorem TV.cells_len (y : TV) : y.cells.length = 5 := rfl
theorem TreeAt.ones {n : Nat} {w : World} {y : TV} {T : Tr} (h : TreeAt n w y T) : y.cells.toArray.all (·.oneCell') = true := by
 obtain ⟨_, _, _, _, _, _, _, _, rfl⟩ := h.shape
 simp [TV.cells, Value.oneCell']
theorem ldT {P : Program} {ops : Array Oper} {rest : List Oper} {op : Oper} {a : Act} {w : World} {Q : Exit → Act → World → Prop} (hP : P = Tryd.prog) (hgd : op.guard = none) (x : Operand) (ho : op.op = .load 29 x)
  (b : Nat) (hx : a.eval x = .pointer (some ⟨b, 0, none⟩)) (cs : List Value) (hb : Bx w b cs) (h : wpList P ops Q rest (a.put op.dst (.agg cs.toArray)) w) : wpList P ops Q (op :: rest) a w := by
 subst hP
 exact wpList_load_mid hgd _ x ho b 0 hx cs _ hb.rg Tryd.underlying29 rfl (infoT5 hb.2) h
theorem stT {P : Program} {ops : Array Oper} {rest : List Oper} {op : Oper} {a : Act} {w : World} {Q : Exit → Act → World → Prop} (hP : P = Tryd.prog) (hgd : op.guard = none) (x y : Operand) (ho : op.op = .store 29 x y)
  (b : Nat) (z : TV) (hx : a.eval x = .pointer (some ⟨b, 0, none⟩)) (hy : a.eval y = z.val) {cs : List Value} (hb : Bx w b cs) (h1 : z.cells.toArray.all (·.oneCell') = true)
  (h : wpList P ops Q rest (a.put op.dst undef) (w.setCells b 0 z.cells)) : wpList P ops Q (op :: rest) a w := by
 subst hP
 exact wpList_store_mid hgd _ x y ho b 0 z.cells.toArray hx hy (hb.there rfl) (infoT5 z.cells_len) h1 h
theorem retT {fn : Func} {p : Tmp} (h : fn.results = #[.cell p 29]) (tmps : Array Value) (w : World) (g : Nat) (z : TV) (hp : tmps.getD p undef = .pointer (some ⟨g, 0, none⟩)) (hg : Bx w g z.cells) :
  (results fn tmps).run Tryd.prog w = .ok z.val w :=
 results_cell_row h tmps w g _ z.cells.toArray (0, 0) _ hp hg.1 Tryd.underlying29 rfl (infoT5 z.cells_len)
theorem put_cells {n g : Nat} {w V u : World} {y : TV} {R : Tr} {cs : List Value} (hr : Bx V g cs) (hg : w.heap.size ≤ g) (hw : Below w.heap.size w V) (hb : Below V.heap.size V u) (TY : TreeD n u (fun b => V.heap.size ≤ b) y R) :
  Bx (u.setCells g 0 y.cells) g y.cells ∧ TreeD n (u.setCells g 0 y.cells) (fun b => w.heap.size ≤ b) y R ∧ Below w.heap.size w (u.setCells g 0 y.cells) := by
 have hc : Chg (fun b => b = g) u (u.setCells g 0 y.cells) := Chg.setCells (F := fun b => b = g) (g := g) (fun _ => rfl) y.cells 0 u (Chg.refl _ _)
 have hl := hr.lt
 have h2 := Below.and hw hb
 exact ⟨(hr.step hb).set rfl, (TY.chg hc (fun b hb e => by omega)).mono (fun b hb => Nat.le_trans hw.size hb), h2.trans (hc.below (fun b _ e => by omega) h2.size)⟩
end
end Go.Proofs.YtbmcojelgbkafaaDoor
