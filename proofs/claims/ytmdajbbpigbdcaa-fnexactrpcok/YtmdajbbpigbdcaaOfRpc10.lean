/-
  toMachine: a machine copied out of the law's own kind.
  toMachine: a machine copied out of the law's own kind owns its memory.
  toNode: a node copied out of the law's own kind owns its memory.
-/
import Derived.Test.YtmdajbbpigbdcaaOfRpc4
import Derived.Test.YtmdajbbpigbdcaaOfRpc1
import Derived.Test.YtmdajbbpigbdcaaOfRpc6
import Derived.Deep.DeepCutAuto
import Derived.Deep.MidRow
import Derived.Laws.Rows
namespace Go.Proofs.Ytmdajbbpigbdcaa
open Go.RowKit

theorem six_at {W : World} {R : Nat} {t : TypeId} {x0 x1 x2 x3 x4 x5 : Value} (a b c d e f : Value) (h : W.heap[R]? = some (.cells #[x0, x1, x2, x3, x4, x5] t (0, 0))) : ((((((W.setCell ⟨R, 0, none⟩ a).setCell ⟨R, 1, none⟩ b).setCell ⟨R, 2, none⟩ c).setCell ⟨R, 3, none⟩ d).setCell ⟨R, 4, none⟩ e).setCell ⟨R, 5, none⟩ f).heap[R]? = some (.cells #[a, b, c, d, e, f] t (0, 0)) := by
  have h0 := heap_setCell_same W R 0 _ _ a h
  have h1 := heap_setCell_same _ R 1 _ _ b h0
  have h2 := heap_setCell_same _ R 2 _ _ c h1
  have h3 := heap_setCell_same _ R 3 _ _ d h2
  have h4 := heap_setCell_same _ R 4 _ _ e h3
  have h5 := heap_setCell_same _ R 5 _ _ f h4
  simpa using h5
theorem six_chg (W : World) (R : Nat) (a b c d e f : Value) : Chg (fun g => g = R) W ((((((W.setCell ⟨R, 0, none⟩ a).setCell ⟨R, 1, none⟩ b).setCell ⟨R, 2, none⟩ c).setCell ⟨R, 3, none⟩ d).setCell ⟨R, 4, none⟩ e).setCell ⟨R, 5, none⟩ f) :=
  ((((((Chg.refl (fun g => g = R) W).setAt R 0 rfl a).setAt R 1 rfl b).setAt R 2 rfl c).setAt R 3 rfl d).setAt R 4 rfl e).setAt R 5 rfl f
theorem fst_at {W : World} {R : Nat} {t : TypeId} {x0 x1 x2 x3 x4 x5 : Value} (a b c d e : Value) (h : W.heap[R]? = some (.cells #[x0, x1, x2, x3, x4, x5] t (0, 0))) : (((((W.setCell ⟨R, 0, none⟩ a).setCell ⟨R, 1, none⟩ b).setCell ⟨R, 2, none⟩ c).setCell ⟨R, 3, none⟩ d).setCell ⟨R, 4, none⟩ e).heap[R]? = some (.cells #[a, b, c, d, e, x5] t (0, 0)) := by
  have h0 := heap_setCell_same W R 0 _ _ a h
  have h1 := heap_setCell_same _ R 1 _ _ b h0
  have h2 := heap_setCell_same _ R 2 _ _ c h1
  have h3 := heap_setCell_same _ R 3 _ _ d h2
  have h4 := heap_setCell_same _ R 4 _ _ e h3
  simpa using h4
theorem fst_chg (W : World) (R : Nat) (a b c d e : Value) : Chg (fun g => g = R) W (((((W.setCell ⟨R, 0, none⟩ a).setCell ⟨R, 1, none⟩ b).setCell ⟨R, 2, none⟩ c).setCell ⟨R, 3, none⟩ d).setCell ⟨R, 4, none⟩ e) :=
  (((((Chg.refl (fun g => g = R) W).setAt R 0 rfl a).setAt R 1 rfl b).setAt R 2 rfl c).setAt R 3 rfl d).setAt R 4 rfl e
theorem lst_at {W : World} {R : Nat} {t : TypeId} {x0 x1 x2 x3 x4 x5 : Value} (f : Value) (h : W.heap[R]? = some (.cells #[x0, x1, x2, x3, x4, x5] t (0, 0))) : (W.setCell ⟨R, 5, none⟩ f).heap[R]? = some (.cells #[x0, x1, x2, x3, x4, f] t (0, 0)) := by
  have h5 := heap_setCell_same _ R 5 _ _ f h
  simpa using h5
theorem own_fst {n : Nat} {w : World} {base R : Nat} {x : TV} {T : Tr} (h : TreeOwn n w base x T) (hR : R < base) (a b c d e : Value) : TreeOwn n (((((w.setCell ⟨R, 0, none⟩ a).setCell ⟨R, 1, none⟩ b).setCell ⟨R, 2, none⟩ c).setCell ⟨R, 3, none⟩ d).setCell ⟨R, 4, none⟩ e) base x T :=
  ((((h.setCell hR a).setCell hR b).setCell hR c).setCell hR d).setCell hR e
theorem own_six {n : Nat} {w : World} {base R : Nat} {x : TV} {T : Tr} (h : TreeOwn n w base x T) (hR : R < base) (a b c d e f : Value) : TreeOwn n ((((((w.setCell ⟨R, 0, none⟩ a).setCell ⟨R, 1, none⟩ b).setCell ⟨R, 2, none⟩ c).setCell ⟨R, 3, none⟩ d).setCell ⟨R, 4, none⟩ e).setCell ⟨R, 5, none⟩ f) base x T :=
  (own_fst h hR a b c d e).setCell hR f

end Go.Proofs.Ytmdajbbpigbdcaa

namespace Go.Proofs.Ytmdajbbpigbdcaa
open Go.RowKit

theorem hid9 {p : Prop} (h : p) : Hid p := h
/-- a machine whose lists lie in memory from base on -/
def MacOwn (n : Nat) (w : World) (base : Nat) (m : MacV) (T : Tr) (l : DL) : Prop := TreeOwn n w base m.x T ∧ w.ownsRow base 109 4 m.v l.length (flatD l)
theorem MacOwn.at {n : Nat} {w : World} {base : Nat} {m : MacV} {T : Tr} {l : DL} (h : MacOwn n w base m T l) : MacAt n w m T l := ⟨h.1.treeAt, Row.of_owns h.2⟩
theorem MacOwn.low {n : Nat} {w : World} {base base' : Nat} {m : MacV} {T : Tr} {l : DL} (h : MacOwn n w base m T l) (hb : base' ≤ base) : MacOwn n w base' m T l := ⟨h.1.low hb, owns_mono h.2 hb⟩
theorem owns_but {w w' : World} {base e size k R : Nat} {v : Value} {xs : List Value} (h : w.ownsRow base e size v k xs) (hc : Chg (fun g => g = R) w w') (hR : R < base) : w'.ownsRow base e size v k xs := owns_chg h hc (fun g hg e => by have := (h.lt g hg).1; omega)
theorem MacOwn.but {n : Nat} {w w' : World} {base R : Nat} {m : MacV} {T : Tr} {l : DL} (h : MacOwn n w base m T l) (hc : Chg (fun g => g = R) w w') (hR : R < base) : MacOwn n w' base m T l := ⟨h.1.same (fun g hg hl => hc.block g hl (by omega)), owns_but h.2 hc hR⟩

set_option maxHeartbeats 2000000 in
theorem toMachine_own (n : Nat) (m : MacV) (T : Tr) (l : DL) (w : World) (h : MacAt n w m T l) (hs : sizeT n T ≤ 1048576) (hl : l.length ≤ 1048576) :
    Calls Try.prog 40 #[m.val] w fun e w' => ∃ m' : MacV, e = .returned m'.val ∧ MacOwn n w' w.heap.size m' T l ∧ Below w.heap.size w w' := by
  obtain ⟨⟨lf, p, c, k, b⟩, v⟩ := m
  have b0 : Below w.heap.size w (((w.alloc (.cells #[.bool lf, p, c, k, b, v] 50)).alloc (.cells #[.bool false, .slice none 0 0, .slice none 0 0, .slice none 0 0, .slice none 0 0, .slice none 0 0] 33)).alloc (.cells #[.bool false, .slice none 0 0, .slice none 0 0, .slice none 0 0, .slice none 0 0, .slice none 0 0] 33)) := (((Below.refl _ _).alloc (Nat.le_refl _) _).alloc (by simp) _).alloc (by simp; omega) _
  have n0 := MBox.step (MBox.step (MBox.start 50 w #[.bool lf, p, c, k, b, v]) (bel_nw _ (.cells #[.bool false, .slice none 0 0, .slice none 0 0, .slice none 0 0, .slice none 0 0, .slice none 0 0] 33))) (bel_nw _ (.cells #[.bool false, .slice none 0 0, .slice none 0 0, .slice none 0 0, .slice none 0 0, .slice none 0 0] 33))
  have n1 := MBox.step (MBox.start 33 (w.alloc (.cells #[.bool lf, p, c, k, b, v] 50)) #[.bool false, .slice none 0 0, .slice none 0 0, .slice none 0 0, .slice none 0 0, .slice none 0 0]) (bel_nw _ (.cells #[.bool false, .slice none 0 0, .slice none 0 0, .slice none 0 0, .slice none 0 0, .slice none 0 0] 33))
  have n2 := MBox.start 33 ((w.alloc (.cells #[.bool lf, p, c, k, b, v] 50)).alloc (.cells #[.bool false, .slice none 0 0, .slice none 0 0, .slice none 0 0, .slice none 0 0, .slice none 0 0] 33)) #[.bool false, .slice none 0 0, .slice none 0 0, .slice none 0 0, .slice none 0 0, .slice none 0 0]
  simp only [World.size_alloc] at n1 n2
  have zz : (((w.alloc (.cells #[.bool lf, p, c, k, b, v] 50)).alloc (.cells #[.bool false, .slice none 0 0, .slice none 0 0, .slice none 0 0, .slice none 0 0, .slice none 0 0] 33)).alloc (.cells #[.bool false, .slice none 0 0, .slice none 0 0, .slice none 0 0, .slice none 0 0, .slice none 0 0] 33)).heap.size = w.heap.size + 3 := by simp
  have c0 := n0.cells
  have H : Hid _ := And.intro h (And.intro b0 (And.intro n0 (And.intro n1 (And.intro n2 zz))))
  clear h b0 n0 n1 n2 zz
  show Calls Try.prog 40 #[.agg #[.bool lf, p, c, k, b, v]] w _
  go_enter Try.func40, Try.ntmps40
  go_wp2_with fail
  generalize (((w.alloc (.cells #[.bool lf, p, c, k, b, v] 50)).alloc (.cells #[.bool false, .slice none 0 0, .slice none 0 0, .slice none 0 0, .slice none 0 0, .slice none 0 0] 33)).alloc (.cells #[.bool false, .slice none 0 0, .slice none 0 0, .slice none 0 0, .slice none 0 0, .slice none 0 0] 33)) = W at *
  refine (toTree_any n ⟨lf, p, c, k, b⟩ T W (H.out.1.1.below H.out.2.1) hs).mono ?_
  rintro e w1 ⟨y, rfl, t1, b1⟩
  obtain ⟨h, b0, n0, n1, n2, zz⟩ := H.out
  obtain ⟨a1, a2, a3, a4, q1, q2, q3, q4, hy⟩ := t1.treeAt.shape
  generalize T.leaf = m0, T.pairs.length = m1, T.cuts.length = m2, T.kids.length = m3, T.buf.length = m4 at hy
  subst hy
  have p0 := n0.step b1
  have p1 := n1.step b1
  have p2 := n2.step b1
  have r2 := fst_at (.bool m0) (.slice a1 m1 q1) (.slice a2 m2 q2) (.slice a3 m3 q3) (.slice a4 m4 q4) p2
  have g2 := fst_chg w1 (w.heap.size + 1 + 1) (.bool m0) (.slice a1 m1 q1) (.slice a2 m2 q2) (.slice a3 m3 q3) (.slice a4 m4 q4)
  have r0 := row_chg p0 g2 (by omega)
  have r1 := row_chg p1 g2 (by omega)
  have t2 := own_fst (R := w.heap.size + 1 + 1) t1 (by omega) (.bool m0) (.slice a1 m1 q1) (.slice a2 m2 q2) (.slice a3 m3 q3) (.slice a4 m4 q4)
  have B1 := Below.and b0 b1
  have B2 := B1.trans (g2.below (fun g _ hg => by omega) B1.size)
  have f1 : ∀ j, w1.frozen? ⟨w.heap.size + 1 + 1, j, none⟩ = false := fun j => frozen_of_cells p2
  have d0 : ∀ j, w1.cell? ⟨w.heap.size + 1 + 1, j, none⟩ = (#[.bool false, .slice none 0 0, .slice none 0 0, .slice none 0 0, .slice none 0 0, .slice none 0 0] : Array Value)[j]? := fun j => cell_of_cells p2
  have d1 : ∀ j, (((((w1.setCell ⟨w.heap.size + 1 + 1, 0, none⟩ (.bool m0)).setCell ⟨w.heap.size + 1 + 1, 1, none⟩ (.slice a1 m1 q1)).setCell ⟨w.heap.size + 1 + 1, 2, none⟩ (.slice a2 m2 q2)).setCell ⟨w.heap.size + 1 + 1, 3, none⟩ (.slice a3 m3 q3)).setCell ⟨w.heap.size + 1 + 1, 4, none⟩ (.slice a4 m4 q4)).cell? ⟨w.heap.size, j, none⟩ = (#[.bool lf, p, c, k, b, v] : Array Value)[j]? := fun j => cell_of_cells r0
  have hz1 : w.heap.size + 3 ≤ w1.heap.size := by have := b1.size; omega
  have G : Hid _ := And.intro h.2 (And.intro t2 (And.intro r1 (And.intro r2 (And.intro B2 (And.intro zz hz1)))))
  clear h b0 n0 n1 n2 zz p0 p1 p2 r0 r1 r2 g2 t2 B1 B2 H t1 b1 c0
  go_wp2_with fail
  generalize hW2 : (((((w1.setCell ⟨w.heap.size + 1 + 1, 0, none⟩ (.bool m0)).setCell ⟨w.heap.size + 1 + 1, 1, none⟩ (.slice a1 m1 q1)).setCell ⟨w.heap.size + 1 + 1, 2, none⟩ (.slice a2 m2 q2)).setCell ⟨w.heap.size + 1 + 1, 3, none⟩ (.slice a3 m3 q3)).setCell ⟨w.heap.size + 1 + 1, 4, none⟩ (.slice a4 m4 q4)) = W2 at *
  obtain ⟨hv, t2, r1, r2, B2, zz, hz1⟩ := G.out
  have hz2 : W2.heap.size = w1.heap.size := by rw [← hW2]; simp
  clear d0 f1 hW2 G
  refine (toDoneS_any v l W2 (hv.below B2) hl).mono ?_
  rintro e w3 ⟨v3, rfl, o3, b3⟩
  obtain ⟨a5, q5, hv3⟩ := owns_val o3
  subst hv3
  generalize hm5 : l.length = m5 at *
  have s1 := (b3.block _ (Array.getElem?_eq_some_iff.1 r1).1).trans r1
  have s2 := (b3.block _ (Array.getElem?_eq_some_iff.1 r2).1).trans r2
  have t3 := t2.below b3
  have B3 := Below.and B2 b3
  have u2 := lst_at (.slice a5 m5 q5) s2
  have g3 : Chg (fun g => g = w.heap.size + 1 + 1) w3 (w3.setCell ⟨w.heap.size + 1 + 1, 5, none⟩ (.slice a5 m5 q5)) := (Chg.refl (fun g => g = w.heap.size + 1 + 1) w3).setAt (w.heap.size + 1 + 1) 5 rfl (.slice a5 m5 q5)
  have u1 := row_chg s1 g3 (by omega)
  have t4 := t3.setCell (a := ⟨w.heap.size + 1 + 1, 5, none⟩) (by simp only; omega) (.slice a5 m5 q5)
  have o4 := owns_chg o3 g3 (fun g hg e => by have := (o3.lt g hg).1; omega)
  have B4 := B3.trans (g3.below (fun g _ hg => by omega) B3.size)
  have x1 := six_at (.bool m0) (.slice a1 m1 q1) (.slice a2 m2 q2) (.slice a3 m3 q3) (.slice a4 m4 q4) (.slice a5 m5 q5) u1
  have g5 := six_chg (w3.setCell ⟨w.heap.size + 1 + 1, 5, none⟩ (.slice a5 m5 q5)) (w.heap.size + 1) (.bool m0) (.slice a1 m1 q1) (.slice a2 m2 q2) (.slice a3 m3 q3) (.slice a4 m4 q4) (.slice a5 m5 q5)
  have t5 := own_six (R := w.heap.size + 1) t4 (by omega) (.bool m0) (.slice a1 m1 q1) (.slice a2 m2 q2) (.slice a3 m3 q3) (.slice a4 m4 q4) (.slice a5 m5 q5)
  have o5 := owns_chg o4 g5 (fun g hg e => by have := (o4.lt g hg).1; omega)
  have B5 := B4.trans (g5.below (fun g _ hg => by omega) B4.size)
  have f2 : ∀ j, w3.frozen? ⟨w.heap.size + 1 + 1, j, none⟩ = false := fun j => frozen_of_cells s2
  have f3 : ∀ j, (w3.setCell ⟨w.heap.size + 1 + 1, 5, none⟩ (.slice a5 m5 q5)).frozen? ⟨w.heap.size + 1, j, none⟩ = false := fun j => frozen_of_cells u1
  have c2 : ∀ j, w3.cell? ⟨w.heap.size + 1 + 1, j, none⟩ = (#[.bool m0, .slice a1 m1 q1, .slice a2 m2 q2, .slice a3 m3 q3, .slice a4 m4 q4, .slice none 0 0] : Array Value)[j]? := fun j => cell_of_cells s2
  have c3 : ∀ j, (w3.setCell ⟨w.heap.size + 1 + 1, 5, none⟩ (.slice a5 m5 q5)).cell? ⟨w.heap.size + 1 + 1, j, none⟩ = (#[.bool m0, .slice a1 m1 q1, .slice a2 m2 q2, .slice a3 m3 q3, .slice a4 m4 q4, .slice a5 m5 q5] : Array Value)[j]? := fun j => cell_of_cells u2
  have c4 : ∀ j, (w3.setCell ⟨w.heap.size + 1 + 1, 5, none⟩ (.slice a5 m5 q5)).cell? ⟨w.heap.size + 1, j, none⟩ = (#[.bool false, .slice none 0 0, .slice none 0 0, .slice none 0 0, .slice none 0 0, .slice none 0 0] : Array Value)[j]? := fun j => cell_of_cells u1
  have X1 : Hid _ := x1
  have K : Hid _ := And.intro (t5.low (by omega : w.heap.size ≤ _)) (And.intro (owns_mono (base' := w.heap.size) o5 (by omega)) B5)
  clear s1 s2 t3 B3 u2 g3 u1 t4 o4 B4 x1 g5 t5 o5 B5 o3 b3 r1 r2 t2 B2 hv zz hz1 hz2 d1
  go_wp2_with fail
  simp [bodyPost, results, Try.results40, go_sem, cell_of_cells X1.out]
  refine ⟨⟨⟨m0, .slice a1 m1 q1, .slice a2 m2 q2, .slice a3 m3 q3, .slice a4 m4 q4⟩, .slice a5 m5 q5⟩, by simp, ⟨K.out.1, ?_⟩, K.out.2.2⟩
  have := K.out.2.1
  rw [hm5]
  exact this

end Go.Proofs.Ytmdajbbpigbdcaa

namespace Go.Proofs.Ytmdajbbpigbdcaa
open Go.RowKit

/-- a node whose lists lie in memory from base on -/
def NodOwn (n : Nat) (w : World) (base : Nat) (N : NodV) (D : Nd) : Prop :=
  w.ownsRow base 82 6 N.lv D.l.length (flatE D.l) ∧ MacOwn n w base N.s D.T1 D.d1 ∧ w.ownsRow base 4 1 N.vv D.vs.length (flatL D.vs) ∧ w.ownsRow base 3 1 N.nv D.nx.length (flatI D.nx) ∧ w.ownsRow base 3 1 N.mv D.mt.length (flatI D.mt) ∧ MacOwn n w base N.o D.T2 D.d2
theorem range_of {w : World} {b : Nat} {A : Array Value} {t : TypeId} (h : w.heap[b]? = some (.cells A t (0, 0))) : w.rangeAt b 0 A.toList := fun j v hv => by
  rw [Nat.zero_add, cell_of_row _ _ j _ t (0, 0) h]
  simpa using hv
theorem there_of {w : World} {b : Nat} {A : Array Value} {t : TypeId} (h : w.heap[b]? = some (.cells A t (0, 0))) {k : Nat} (hk : A.size = k) : w.there b 0 k := fun j hj => by
  subst hk
  rw [Nat.zero_add, cell_of_row _ _ j _ t (0, 0) h]
  exact ⟨by simp [hj], frozen_of_row w b j A t h⟩
theorem spl_all {cur : Array Value} {vs : List Value} (h : cur.size = vs.length) : spl cur 0 vs = vs.toArray := by
  have := spl_toList vs cur 0 (by omega)
  simp only [List.take_zero, List.nil_append, Nat.zero_add] at this
  rw [List.drop_eq_nil_of_le (by simp; omega), List.append_nil] at this
  apply Array.ext'
  simpa using this
theorem setAll_at {W : World} {R : Nat} {t : TypeId} {A : Array Value} (h : W.heap[R]? = some (.cells A t (0, 0))) (vs : List Value) (hn : A.size = vs.length) : (W.setCells R 0 vs).heap[R]? = some (.cells vs.toArray t (0, 0)) := by
  have := heap_setCells_same R t vs 0 W A h
  rw [spl_all hn] at this
  exact this
theorem step_at {w w' : World} {B : Nat} {o : Obj} (h : w.heap[B]? = some o) (hb : Below w.heap.size w w') : w'.heap[B]? = some o := (hb.block B (Array.getElem?_eq_some_iff.1 h).1).trans h
theorem set_at {W : World} {R : Nat} {t : TypeId} {A : Array Value} (i : Nat) (u : Value) (h : W.heap[R]? = some (.cells A t (0, 0))) : (W.setCell ⟨R, i, none⟩ u).heap[R]? = some (.cells (A.setIfInBounds i u) t (0, 0)) := heap_setCell_same W R i _ _ u h
theorem Row.sl {w : World} {v : Value} {k : Nat} {xs : List Value} (h : Row w v k xs) : ∃ x : Option Addr × Nat × Nat, v = .slice x.1 x.2.1 x.2.2 := by
  obtain ⟨a, _, _, cap, h1, _⟩ := h
  exact ⟨(a, k, cap), h1⟩
theorem MacAt.sl {n : Nat} {w : World} {m : MacV} {T : Tr} {l : DL} (h : MacAt n w m T l) : ∃ (b : Bool) (x1 x2 x3 x4 x5 : Option Addr × Nat × Nat), m = ⟨⟨b, .slice x1.1 x1.2.1 x1.2.2, .slice x2.1 x2.2.1 x2.2.2, .slice x3.1 x3.2.1 x3.2.2, .slice x4.1 x4.2.1 x4.2.2⟩, .slice x5.1 x5.2.1 x5.2.2⟩ := by
  obtain ⟨⟨lf, p, c, k, b⟩, v⟩ := m
  obtain ⟨t, r⟩ := h
  obtain ⟨x5, e5⟩ := r.sl
  obtain ⟨a1, a2, a3, a4, b1, b2, b3, b4, hy⟩ := t.shape
  simp only [TV.mk.injEq] at hy e5
  obtain ⟨_, f1, f2, f3, f4⟩ := hy
  subst e5 f1 f2 f3 f4
  exact ⟨lf, (a1, _, b1), (a2, _, b2), (a3, _, b3), (a4, _, b4), x5, rfl⟩
end Go.Proofs.Ytmdajbbpigbdcaa
