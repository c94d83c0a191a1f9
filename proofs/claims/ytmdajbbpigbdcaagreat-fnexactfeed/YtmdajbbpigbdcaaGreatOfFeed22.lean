/-
  toMachine: a machine copied out of the law's own kind lies in memory of its own, every row apart.
  Nodes in memory of their own: each list in a stretch of blocks of its own.
  The laws' own functions that write marks into a list of messages, and look for them.
  Marks in lists of pairs, at greater numbers.
  Strong contracts of the laws' marks: numbers; lists that are empty; trees whose kids are zero.
-/
import Derived.Test.YtmdajbbpigbdcaaGreatOfFeed21
import Derived.Test.YtmdajbbpigbdcaaGreatOfFeed7
import Derived.Test.YtmdajbbpigbdcaaGreatOfFeed6
import Derived.Test.YtmdajbbpigbdcaaGreatOfFeed2
import Derived.Test.YtmdajbbpigbdcaaGreatOfFeed3
namespace Go.Proofs.YtmdajbbpigbdcaaGreat
set_option maxRecDepth 100000
set_option maxHeartbeats 8000000
section
open Go.RowKit

theorem OwnE.of_owns {w : World} {base e size k : Nat} {v : Value} {xs : List Value} (h : w.ownsRow base e size v k xs) : OwnE w base e size v k xs := .inl h
theorem ownD_fst {n : Nat} {w : World} {F : Nat → Prop} {R : Nat} {x : TV} {T : Tr} (h : TreeD n w F x T) (hR : ¬ F R) (a b c d e : Value) : TreeD n (((((w.setCell ⟨R, 0, none⟩ a).setCell ⟨R, 1, none⟩ b).setCell ⟨R, 2, none⟩ c).setCell ⟨R, 3, none⟩ d).setCell ⟨R, 4, none⟩ e) F x T :=
 ((((h.setCell hR a).setCell hR b).setCell hR c).setCell hR d).setCell hR e
theorem ownD_six {n : Nat} {w : World} {F : Nat → Prop} {R : Nat} {x : TV} {T : Tr} (h : TreeD n w F x T) (hR : ¬ F R) (a b c d e f : Value) : TreeD n ((((((w.setCell ⟨R, 0, none⟩ a).setCell ⟨R, 1, none⟩ b).setCell ⟨R, 2, none⟩ c).setCell ⟨R, 3, none⟩ d).setCell ⟨R, 4, none⟩ e).setCell ⟨R, 5, none⟩ f) F x T :=
 (ownD_fst h hR a b c d e).setCell hR f

theorem toMachineD_any (n : Nat) (m : MacV) (T : Tr) (l : DL) (w : World) (h : MacAt n w m T l) (hs : sizeT n T ≤ 1048576) (hl : l.length ≤ 1048576) :
  Calls Tryz.prog 26 #[m.val] w fun e w' => ∃ m' : MacV, e = .returned m'.val ∧ MacD n w' (fun g => w.heap.size ≤ g) m' T l ∧ Below w.heap.size w w' := by
 obtain ⟨⟨lf, p, c, k, b⟩, v⟩ := m
 have b0 : Below w.heap.size w (((w.alloc (.cells #[.bool lf, p, c, k, b, v] 33)).alloc (.cells #[.bool false, .slice none 0 0, .slice none 0 0, .slice none 0 0, .slice none 0 0, .slice none 0 0] 48)).alloc (.cells #[.bool false, .slice none 0 0, .slice none 0 0, .slice none 0 0, .slice none 0 0, .slice none 0 0] 48)) := (((Below.refl _ _).alloc (Nat.le_refl _) _).alloc (by simp) _).alloc (by simp; omega) _
 have n0 := MBox.step (MBox.step (MBox.start 33 w #[.bool lf, p, c, k, b, v]) (bel_nw _ (.cells #[.bool false, .slice none 0 0, .slice none 0 0, .slice none 0 0, .slice none 0 0, .slice none 0 0] 48))) (bel_nw _ (.cells #[.bool false, .slice none 0 0, .slice none 0 0, .slice none 0 0, .slice none 0 0, .slice none 0 0] 48))
 have n1 := MBox.step (MBox.start 48 (w.alloc (.cells #[.bool lf, p, c, k, b, v] 33)) #[.bool false, .slice none 0 0, .slice none 0 0, .slice none 0 0, .slice none 0 0, .slice none 0 0]) (bel_nw _ (.cells #[.bool false, .slice none 0 0, .slice none 0 0, .slice none 0 0, .slice none 0 0, .slice none 0 0] 48))
 have n2 := MBox.start 48 ((w.alloc (.cells #[.bool lf, p, c, k, b, v] 33)).alloc (.cells #[.bool false, .slice none 0 0, .slice none 0 0, .slice none 0 0, .slice none 0 0, .slice none 0 0] 48)) #[.bool false, .slice none 0 0, .slice none 0 0, .slice none 0 0, .slice none 0 0, .slice none 0 0]
 simp only [World.size_alloc] at n1 n2
 have zz : (((w.alloc (.cells #[.bool lf, p, c, k, b, v] 33)).alloc (.cells #[.bool false, .slice none 0 0, .slice none 0 0, .slice none 0 0, .slice none 0 0, .slice none 0 0] 48)).alloc (.cells #[.bool false, .slice none 0 0, .slice none 0 0, .slice none 0 0, .slice none 0 0, .slice none 0 0] 48)).heap.size = w.heap.size + 3 := by simp
 have c0 := n0.cells
 have H : Hid _ := And.intro h (And.intro b0 (And.intro n0 (And.intro n1 (And.intro n2 zz))))
 clear h b0 n0 n1 n2 zz
 show Calls Tryz.prog 26 #[.agg #[.bool lf, p, c, k, b, v]] w _
 go_enter Tryz.func26, Tryz.ntmps26
 go_wp2_with fail
 generalize (((w.alloc (.cells #[.bool lf, p, c, k, b, v] 33)).alloc (.cells #[.bool false, .slice none 0 0, .slice none 0 0, .slice none 0 0, .slice none 0 0, .slice none 0 0] 48)).alloc (.cells #[.bool false, .slice none 0 0, .slice none 0 0, .slice none 0 0, .slice none 0 0, .slice none 0 0] 48)) = W at *
 refine (toTreeD_any n ⟨lf, p, c, k, b⟩ T W (H.out.1.1.below H.out.2.1) hs).mono ?_
 rintro e w1 ⟨y, rfl, t1, b1⟩
 obtain ⟨h, b0, n0, n1, n2, zz⟩ := H.out
 obtain ⟨a1, a2, a3, a4, q1, q2, q3, q4, hy⟩ := t1.treeF.treeAt.shape
 generalize T.leaf = m0, T.pairs.length = m1, T.cuts.length = m2, T.kids.length = m3, T.buf.length = m4 at hy
 subst hy
 have p0 := n0.step b1
 have p1 := n1.step b1
 have p2 := n2.step b1
 have r2 := fst_at (.bool m0) (.slice a1 m1 q1) (.slice a2 m2 q2) (.slice a3 m3 q3) (.slice a4 m4 q4) p2
 have g2 := fst_chg w1 (w.heap.size + 1 + 1) (.bool m0) (.slice a1 m1 q1) (.slice a2 m2 q2) (.slice a3 m3 q3) (.slice a4 m4 q4)
 have r0 := row_chg p0 g2 (by omega)
 have r1 := row_chg p1 g2 (by omega)
 have t2 := ownD_fst (R := w.heap.size + 1 + 1) t1 (by omega) (.bool m0) (.slice a1 m1 q1) (.slice a2 m2 q2) (.slice a3 m3 q3) (.slice a4 m4 q4)
 have B1 := Below.and b0 b1
 have B2 := B1.trans (g2.below (fun g _ hg => by omega) B1.size)
 have f1 : ∀ j, w1.frozen? ⟨w.heap.size + 1 + 1, j, none⟩ = false := fun j => frozen_of_cells p2
 have d0 : ∀ j, w1.cell? ⟨w.heap.size + 1 + 1, j, none⟩ = (#[.bool false, .slice none 0 0, .slice none 0 0, .slice none 0 0, .slice none 0 0, .slice none 0 0] : Array Value)[j]? := fun j => cell_of_cells p2
 have d1 : ∀ j, (((((w1.setCell ⟨w.heap.size + 1 + 1, 0, none⟩ (.bool m0)).setCell ⟨w.heap.size + 1 + 1, 1, none⟩ (.slice a1 m1 q1)).setCell ⟨w.heap.size + 1 + 1, 2, none⟩ (.slice a2 m2 q2)).setCell ⟨w.heap.size + 1 + 1, 3, none⟩ (.slice a3 m3 q3)).setCell ⟨w.heap.size + 1 + 1, 4, none⟩ (.slice a4 m4 q4)).cell? ⟨w.heap.size, j, none⟩ = (#[.bool lf, p, c, k, b, v] : Array Value)[j]? := fun j => cell_of_cells r0
 have hz1 : w.heap.size + 3 ≤ w1.heap.size := by have := b1.size; omega
 have G : Hid _ := And.intro h.2 (And.intro t2 (And.intro r1 (And.intro r2 (And.intro B2 (And.intro zz hz1)))))
 clear h b0 n0 n1 n2 zz p0 p1 p2 r0 r1 r2 g2 t2 B1 B2 H t1 b1 c0
 go_wp2_with fail
 generalize hW2 : (((((w1.setCell ⟨w.heap.size + 1 + 1, 0, none⟩ (.bool m0)).setCell ⟨w.heap.size + 1 + 1, 1, none⟩ (.slice a1 m1 q1)).setCell ⟨w.heap.size + 1 + 1, 2, none⟩ (.slice a2 m2 q2)).setCell ⟨w.heap.size + 1 + 1, 3, none⟩ (.slice a3 m3 q3)).setCell ⟨w.heap.size + 1 + 1, 4, none⟩ (.slice a4 m4 q4)) = W2 at *
 obtain ⟨hv, t2, r1, r2, B2, zz, hz1⟩ := G.out
 have hz2 : W2.heap.size = w1.heap.size := by rw [← hW2]; simp
 clear d0 f1 hW2 G
 refine (toDoneS_any v l W2 (hv.below B2) hl).mono ?_
 rintro e w3 ⟨v3, rfl, o3, b3⟩
 obtain ⟨a5, q5, hv3⟩ := owns_val o3
 subst hv3
 generalize hm5 : l.length = m5 at *
 have s1 := (b3.block _ (Array.getElem?_eq_some_iff.1 r1).1).trans r1
 have s2 := (b3.block _ (Array.getElem?_eq_some_iff.1 r2).1).trans r2
 have t3 := t2.below b3
 have B3 := Below.and B2 b3
 have u2 := lst_at (.slice a5 m5 q5) s2
 have g3 : Chg (fun g => g = w.heap.size + 1 + 1) w3 (w3.setCell ⟨w.heap.size + 1 + 1, 5, none⟩ (.slice a5 m5 q5)) := (Chg.refl (fun g => g = w.heap.size + 1 + 1) w3).setAt (w.heap.size + 1 + 1) 5 rfl (.slice a5 m5 q5)
 have u1 := row_chg s1 g3 (by omega)
 have t4 := t3.setCell (a := ⟨w.heap.size + 1 + 1, 5, none⟩) (by simp only; omega) (.slice a5 m5 q5)
 have o4 := owns_chg o3 g3 (fun g hg e => by have := (o3.lt g hg).1; omega)
 have B4 := B3.trans (g3.below (fun g _ hg => by omega) B3.size)
 have x1 := six_at (.bool m0) (.slice a1 m1 q1) (.slice a2 m2 q2) (.slice a3 m3 q3) (.slice a4 m4 q4) (.slice a5 m5 q5) u1
 have g5 := six_chg (w3.setCell ⟨w.heap.size + 1 + 1, 5, none⟩ (.slice a5 m5 q5)) (w.heap.size + 1) (.bool m0) (.slice a1 m1 q1) (.slice a2 m2 q2) (.slice a3 m3 q3) (.slice a4 m4 q4) (.slice a5 m5 q5)
 have t5 := ownD_six (R := w.heap.size + 1) t4 (by omega) (.bool m0) (.slice a1 m1 q1) (.slice a2 m2 q2) (.slice a3 m3 q3) (.slice a4 m4 q4) (.slice a5 m5 q5)
 have o5 := owns_chg o4 g5 (fun g hg e => by have := (o4.lt g hg).1; omega)
 have B5 := B4.trans (g5.below (fun g _ hg => by omega) B4.size)
 have f2 : ∀ j, w3.frozen? ⟨w.heap.size + 1 + 1, j, none⟩ = false := fun j => frozen_of_cells s2
 have f3 : ∀ j, (w3.setCell ⟨w.heap.size + 1 + 1, 5, none⟩ (.slice a5 m5 q5)).frozen? ⟨w.heap.size + 1, j, none⟩ = false := fun j => frozen_of_cells u1
 have c2 : ∀ j, w3.cell? ⟨w.heap.size + 1 + 1, j, none⟩ = (#[.bool m0, .slice a1 m1 q1, .slice a2 m2 q2, .slice a3 m3 q3, .slice a4 m4 q4, .slice none 0 0] : Array Value)[j]? := fun j => cell_of_cells s2
 have c3 : ∀ j, (w3.setCell ⟨w.heap.size + 1 + 1, 5, none⟩ (.slice a5 m5 q5)).cell? ⟨w.heap.size + 1 + 1, j, none⟩ = (#[.bool m0, .slice a1 m1 q1, .slice a2 m2 q2, .slice a3 m3 q3, .slice a4 m4 q4, .slice a5 m5 q5] : Array Value)[j]? := fun j => cell_of_cells u2
 have c4 : ∀ j, (w3.setCell ⟨w.heap.size + 1 + 1, 5, none⟩ (.slice a5 m5 q5)).cell? ⟨w.heap.size + 1, j, none⟩ = (#[.bool false, .slice none 0 0, .slice none 0 0, .slice none 0 0, .slice none 0 0, .slice none 0 0] : Array Value)[j]? := fun j => cell_of_cells u1
 have X1 : Hid _ := x1
 have K : Hid _ := And.intro (t5.mono (G := fun g => w.heap.size ≤ g) (fun g hg => by omega)) (And.intro (owns_mono (base' := w.heap.size) o5 (by omega)) B5)
 clear s1 s2 t3 B3 u2 g3 u1 t4 o4 B4 x1 g5 t5 o5 B5 o3 b3 r1 r2 t2 B2 hv zz hz1 hz2 d1
 go_wp2_with fail
 simp [bodyPost, results, Tryz.results26, go_sem, cell_of_cells X1.out]
 refine ⟨⟨⟨m0, .slice a1 m1 q1, .slice a2 m2 q2, .slice a3 m3 q3, .slice a4 m4 q4⟩, .slice a5 m5 q5⟩, by simp, ⟨K.out.1, ?_, ?_⟩, K.out.2.2⟩
 ·have := OwnE.of_owns (owns_mono (base' := 0) K.out.2.1 (Nat.zero_le _))
  rw [hm5]
  exact this
 ·intro g hg
  exact ((OwnE.of_owns K.out.2.1).lt g hg).1
end
section
open Go.RowKit

def OwnI (w : World) (lo hi e size : Nat) (v : Value) (k : Nat) (xs : List Value) : Prop := OwnE w lo e size v k xs ∧ ∀ g, wrB v g → g < hi
theorem OwnI.below {w w' : World} {lo hi e size k : Nat} {v : Value} {xs : List Value} (h : OwnI w lo hi e size v k xs) (hb : Below w.heap.size w w') : OwnI w' lo hi e size v k xs := ⟨h.1.below hb, h.2⟩
theorem OwnI.chg {w w' : World} {P : Nat → Prop} {lo hi e size k : Nat} {v : Value} {xs : List Value} (h : OwnI w lo hi e size v k xs) (hc : Chg P w w') (hP : ∀ g, lo ≤ g → g < hi → ¬ P g) : OwnI w' lo hi e size v k xs := ⟨h.1.chg hc (fun g hg => hP g (h.1.lt g hg).1 (h.2 g hg)), h.2⟩
theorem OwnI.but {w w' : World} {lo hi e size k R : Nat} {v : Value} {xs : List Value} (h : OwnI w lo hi e size v k xs) (hc : Chg (fun g => g = R) w w') (hR : R < lo) : OwnI w' lo hi e size v k xs := h.chg hc (fun g h1 _ h3 => by omega)
theorem OwnI.made {w : World} {lo e size k : Nat} {v : Value} {xs : List Value} (h : OwnE w lo e size v k xs) : OwnI w lo w.heap.size e size v k xs := ⟨h, fun g hg => (h.lt g hg).2⟩
theorem OwnI.row {w : World} {lo hi e size k : Nat} {v : Value} {xs : List Value} (h : OwnI w lo hi e size v k xs) : Row w v k xs := h.1.rowF.row
def MacI (n : Nat) (w : World) (lo hi : Nat) (m : MacV) (T : Tr) (l : DL) : Prop := MacD n w (fun g => lo ≤ g ∧ g < hi) m T l
theorem MacI.below {n : Nat} {w w' : World} {lo hi : Nat} {m : MacV} {T : Tr} {l : DL} (h : MacI n w lo hi m T l) (hb : Below w.heap.size w w') : MacI n w' lo hi m T l := MacD.below h hb
theorem MacI.chg {n : Nat} {w w' : World} {P : Nat → Prop} {lo hi : Nat} {m : MacV} {T : Tr} {l : DL} (h : MacI n w lo hi m T l) (hc : Chg P w w') (hP : ∀ g, lo ≤ g → g < hi → ¬ P g) : MacI n w' lo hi m T l := MacD.chg h hc (fun g hg => hP g hg.1 hg.2)
theorem MacI.but {n : Nat} {w w' : World} {lo hi R : Nat} {m : MacV} {T : Tr} {l : DL} (h : MacI n w lo hi m T l) (hc : Chg (fun g => g = R) w w') (hR : R < lo) : MacI n w' lo hi m T l := h.chg hc (fun g h1 _ h3 => by omega)
theorem MacI.made {n : Nat} {w : World} {lo : Nat} {m : MacV} {T : Tr} {l : DL} (h : MacD n w (fun g => lo ≤ g) m T l) : MacI n w lo w.heap.size m T l := ⟨h.1.lt, h.2.1, fun g hg => ⟨h.2.2 g hg, (h.2.1.lt g hg).2⟩⟩
theorem MacD.at {n : Nat} {w : World} {F : Nat → Prop} {m : MacV} {T : Tr} {l : DL} (h : MacD n w F m T l) : MacAt n w m T l := ⟨h.1.treeF.treeAt, h.2.1.rowF.row⟩
theorem MacI.src {n : Nat} {w : World} {lo hi : Nat} {m : MacV} {T : Tr} {l : DL} (h : MacI n w lo hi m T l) : Src true n w (fun g => lo ≤ g ∧ g < hi) m.x T := ⟨fun _ => h.1, h.1.treeF⟩
theorem MacD.sl {n : Nat} {w : World} {F : Nat → Prop} {m : MacV} {T : Tr} {l : DL} (h : MacD n w F m T l) : ∃ (b : Bool) (x1 x2 x3 x4 x5 : Option Addr × Nat × Nat), m = ⟨⟨b, .slice x1.1 x1.2.1 x1.2.2, .slice x2.1 x2.2.1 x2.2.2, .slice x3.1 x3.2.1 x3.2.2, .slice x4.1 x4.2.1 x4.2.2⟩, .slice x5.1 x5.2.1 x5.2.2⟩ := by
 obtain ⟨x, v⟩ := m
 obtain ⟨b, x1, x2, x3, x4, e⟩ := h.1.sl
 obtain ⟨x5, e5⟩ := h.2.1.sl
 simp only at e e5
 subst e e5
 exact ⟨b, x1, x2, x3, x4, x5, rfl⟩
def NodD (n : Nat) (w : World) (lo : Nat) (N : NodV) (D : Nd) : Prop :=
 ∃ c1 c2 c3 c4 c5 c6 : Nat, lo ≤ c1 ∧ c1 ≤ c2 ∧ c2 ≤ c3 ∧ c3 ≤ c4 ∧ c4 ≤ c5 ∧ c5 ≤ c6 ∧ c6 ≤ w.heap.size ∧
  OwnI w lo c1 113 6 N.lv D.l.length (flatE D.l) ∧ MacI n w c1 c2 N.s D.T1 D.d1 ∧ OwnI w c2 c3 4 1 N.vv D.vs.length (flatL D.vs) ∧ OwnI w c3 c4 3 1 N.nv D.nx.length (flatI D.nx) ∧ OwnI w c4 c5 3 1 N.mv D.mt.length (flatI D.mt) ∧ MacI n w c5 c6 N.o D.T2 D.d2
theorem NodD.at {n : Nat} {w : World} {lo : Nat} {N : NodV} {D : Nd} (h : NodD n w lo N D) : NodAt n w N D := by
 obtain ⟨c1, c2, c3, c4, c5, c6, h1, h2, h3, h4, h5, h6, h7, o1, o2, o3, o4, o5, o6⟩ := h
 exact ⟨o1.row, MacD.at o2, o3.row, o4.row, o5.row, MacD.at o6⟩
end
section
open Go.RowKit

def marksM (k : Int) (n : Nat) : ML := (List.range n).map fun (i : Nat) => (k + 3 * i, k + 3 * i + 1, k + 3 * i + 2)
theorem marksM_length (k : Int) (n : Nat) : (marksM k n).length = n := by simp [marksM]
theorem marksM_succ (k : Int) (n : Nat) : marksM k (n + 1) = marksM k n ++ [(k + 3 * n, k + 3 * n + 1, k + 3 * n + 2)] := by simp [marksM, List.range_succ]
theorem marksM_at (k : Int) (n i : Nat) (h : i < n) : mO (marksM k n) i = k + 3 * i ∧ mK (marksM k n) i = k + 3 * i + 1 ∧ mV (marksM k n) i = k + 3 * i + 2 := by
 simp [marksM, mO, mK, mV, List.getD, h]
def midM (k : Int) (l : ML) (i : Nat) : ML := marksM k i ++ l.drop i
theorem midM_length (k : Int) (l : ML) (i : Nat) (h : i ≤ l.length) : (midM k l i).length = l.length := by simp [midM, marksM_length]; omega
theorem midM_zero (k : Int) (l : ML) : midM k l 0 = l := by simp [midM, marksM]
theorem midM_full (k : Int) (l : ML) : midM k l l.length = marksM k l.length := by simp [midM]
theorem midM_step (k : Int) (l : ML) (i : Nat) (h : i < l.length) : (midM k l i).set i (k + 3 * i, k + 3 * i + 1, k + 3 * i + 2) = midM k l (i + 1) := by
 rw [midM, midM, marksM_succ, List.drop_eq_getElem_cons h, List.set_append_right _ _ (by rw [marksM_length]; omega), marksM_length, Nat.sub_self, List.set_cons_zero]
 simp

theorem owns_cap {w : World} {base e size n cap : Nat} {a : Option Addr} {xs : List Value} (h : w.ownsRow base e size (.slice a n cap) n xs) : cap ≤ maxLen := by
 obtain ⟨_, ⟨e, _⟩ | ⟨g, cap', cur, e, _, _, _, hc, _⟩⟩ := h
 ·simp at e; rw [e.2.2]; exact Nat.zero_le _
 ·simp at e; rw [e.2]; exact hc

theorem markMsgS_any (v : Value) (l : ML) (k : Int) (w : World) (h : w.ownsRow 0 109 3 v l.length (flatM l)) (hn : l.length ≤ 67108864) (hk0 : 0 ≤ k) (hk1 : k ≤ 67108864) :
  Calls Tryz.prog 111 #[v, .int .i64 k] w fun e w' => e = .returned (.int .i64 (k + 3 * l.length)) ∧ w'.ownsRow 0 109 3 v l.length (flatM (marksM k l.length)) ∧ Chg (fun g => v.ownBlock = some g) w w' := by
 obtain ⟨a, cap, hv⟩ := owns_val h
 have OW : Hid (w.ownsRow 0 109 3 v l.length (flatM l)) := h
 clear h
 rw [hv] at OW ⊢
 clear hv
 have hcap := owns_cap OW.out
 unfold maxLen at hcap
 go_enter Tryz.func111, Tryz.ntmps111
 go_wp2
 go_loopw [1, 5] (fun kk i wr => ∃ j : Nat, j ≤ l.length ∧ i = .int .i64 j ∧ kk = .int .i64 (k + 3 * j) ∧ wr.ownsRow 0 109 3 (.slice a l.length cap) l.length (flatM (midM k l j)) ∧ Chg (fun g => (Value.slice a l.length cap).ownBlock = some g) w wr)
  (fun _ i _ => l.length - (intOf i).toNat)
 case atStart => exact ⟨0, Nat.zero_le _, rfl, by simp, by rw [midM_zero]; exact OW.out, Chg.refl _ _⟩
 case round =>
  obtain ⟨j, hj, rfl, rfl, hown, hch⟩ := hrel
  by_cases hlt : j < l.length
  ·have hex : ∃ g, a = some ⟨g, 0, none⟩ := by
    obtain ⟨_, ⟨e, e2⟩ | ⟨g, cap', cur, e, _⟩⟩ := hown
    ·omega
    ·simp at e; exact ⟨g, e.1⟩
   obtain ⟨g, rfl⟩ := hex
   have hml : (midM k l j).length = l.length := midM_length k l j hj
   have hat := flatM_at (midM k l j) j (by omega)
   have e0 := (hown.cellAt (j * 3) (by omega)).trans hat.1
   have e1 := (hown.cellAt (j * 3 + 1) (by omega)).trans hat.2.1
   have e2 := (hown.cellAt (j * 3 + 2) (by omega)).trans hat.2.2
   have f0 := hown.frozenAt (j * 3)
   have f1 := hown.frozenAt (j * 3 + 1)
   have f2 := hown.frozenAt (j * 3 + 2)
   have st := (hown.stored (j * 3) (.int .i64 (k + 3 * j))).1
   have st2 := (st.stored (j * 3 + 1) (.int .i64 (k + 3 * j + 1))).1
   have st3 := (st2.stored (j * 3 + 2) (.int .i64 (k + 3 * j + 2))).1
   rw [flatM_set _ _ _ _ j (by omega), midM_step k l j hlt] at st3
   have hch2 : Chg (fun g' => (Value.slice (some ⟨g, 0, none⟩) l.length cap).ownBlock = some g') w (((wr.setCell ⟨g, j * 3, none⟩ (.int .i64 (k + 3 * j))).setCell ⟨g, j * 3 + 1, none⟩ (.int .i64 (k + 3 * j + 1))).setCell ⟨g, j * 3 + 2, none⟩ (.int .i64 (k + 3 * j + 2))) :=
    ((hch.setAt g _ rfl _).setAt g _ rfl _).setAt g _ rfl _
   generalize mO (midM k l j) j = x0 at *
   generalize mK (midM k l j) j = x1 at *
   generalize mV (midM k l j) j = x2 at *
   have ST : Hid _ := And.intro st3 hch2
   clear st st2 st3 hch2 hown hch hml hat OW
   have hb0 : 0 ≤ k + 3 * (j : Int) := by omega
   have hb1 : k + 3 * (j : Int) ≤ 10000000000 := by omega
   go_wp2
   go_roundw
   case rel => exact ⟨j + 1, by omega, by go_num, by go_num, by rw [show k + 3 * (j : Int) + 2 = k + 3 * (j : Int) + 1 + 1 by omega] at ST; exact ST.out.1, by rw [show k + 3 * (j : Int) + 2 = k + 3 * (j : Int) + 1 + 1 by omega] at ST; exact ST.out.2⟩
   case measure => simp [intOf]; omega
  ·have hjl : j = l.length := by omega
   subst hjl
   go_wp2
   go_ret
   rw [midM_full] at hown
   exact ⟨rfl, hown, hch⟩

theorem heldMsgS_any (v : Value) (n : Nat) (k : Int) (w : World) (h : Row w v n (flatM (marksM k n))) (hn : n ≤ 67108864) (hk0 : 0 ≤ k) (hk1 : k ≤ 67108864) :
  Calls Tryz.prog 114 #[v, .int .i64 k] w fun e w' => e = .returned (.int .i64 (k + 3 * n)) ∧ w' = w := by
 have h' : Row w v (marksM k n).length (flatM (marksM k n)) := by rw [marksM_length]; exact h
 obtain ⟨a, b, off, cap, rfl, hcap, hmax, ha, ho, hk, hv⟩ := h'.msgs
 rw [marksM_length] at *
 unfold maxLen at hmax
 clear h h'
 go_enter Tryz.func114, Tryz.ntmps114
 go_wp2
 go_loop [1, 5] (fun kk i => ∃ j : Nat, j ≤ n ∧ i = .int .i64 j ∧ kk = .int .i64 (k + 3 * j)) (fun _ i => n - (intOf i).toNat)
 case atStart => exact ⟨0, Nat.zero_le _, rfl, by simp⟩
 case round =>
  obtain ⟨j, hj, rfl, rfl⟩ := hrel
  by_cases hlt : j < n
  ·have hal := ha (by omega)
   subst hal
   have d0 : w.cell? ⟨b, off + j * 3, none⟩ = some (.int .i64 (k + 3 * j)) := by rw [ho j hlt, (marksM_at k n j hlt).1]
   have d1 : w.cell? ⟨b, off + j * 3 + 1, none⟩ = some (.int .i64 (k + 3 * j + 1)) := by rw [hk j hlt, (marksM_at k n j hlt).2.1]
   have d2 : w.cell? ⟨b, off + j * 3 + 2, none⟩ = some (.int .i64 (k + 3 * j + 1 + 1)) := by rw [hv j hlt, (marksM_at k n j hlt).2.2, show k + 3 * (j : Int) + 2 = k + 3 * (j : Int) + 1 + 1 by omega]
   clear ho hk hv
   have hb0 : 0 ≤ k + 3 * (j : Int) := by omega
   have hb1 : k + 3 * (j : Int) ≤ 10000000000 := by omega
   go_wp2
   go_round
   case rel => exact ⟨j + 1, by omega, by go_num, by go_num⟩
   case measure => simp [intOf]; omega
  ·have hjl : j = n := by omega
   subst hjl
   go_wp2
   go_ret
   exact ⟨rfl, rfl⟩
end
section
open Go.RowKit

theorem markPairS_l (v : Value) (l : List (Int × Int)) (k : Int) (w : World) (h : w.ownsRow 0 156 2 v l.length (flatP l)) (hn : l.length ≤ 67108864) (hk0 : 0 ≤ k) (hk1 : k ≤ 67108864) :
  Calls Tryz.prog 109 #[v, .int .i64 k] w fun e w' => e = .returned (.int .i64 (k + 2 * l.length)) ∧ w'.ownsRow 0 156 2 v l.length (flatP (marksP k l.length)) ∧ Chg (fun g => v.ownBlock = some g) w w' := by
 obtain ⟨a, cap, hv⟩ := owns_val h
 have hcap : cap ≤ maxLen := by
  obtain ⟨_, ⟨e, _⟩ | ⟨g, cap', cur, e, _, _, _, hc, _⟩⟩ := h
  ·rw [hv] at e; simp at e; rw [e.2.2]; exact Nat.zero_le _
  ·rw [hv] at e; simp at e; rw [e.2]; exact hc
 unfold maxLen at hcap
 have OW : Hid (w.ownsRow 0 156 2 v l.length (flatP l)) := h
 clear h
 rw [hv] at OW ⊢
 clear hv
 go_enter Tryz.func109, Tryz.ntmps109
 go_wp2
 go_loopw [1, 5] (fun kk i wr => ∃ j : Nat, j ≤ l.length ∧ i = .int .i64 j ∧ kk = .int .i64 (k + 2 * j) ∧ wr.ownsRow 0 156 2 (.slice a l.length cap) l.length (flatP (midP k l j)) ∧ Chg (fun g => (Value.slice a l.length cap).ownBlock = some g) w wr)
  (fun _ i _ => l.length - (intOf i).toNat)
 case atStart => exact ⟨0, Nat.zero_le _, rfl, by simp, by rw [midP_zero]; exact OW.out, Chg.refl _ _⟩
 case round =>
  obtain ⟨j, hj, rfl, rfl, hown, hch⟩ := hrel
  by_cases hlt : j < l.length
  ·have hex : ∃ g, a = some ⟨g, 0, none⟩ := by
    obtain ⟨_, ⟨e, e2⟩ | ⟨g, cap', cur, e, _⟩⟩ := hown
    ·omega
    ·simp at e; exact ⟨g, e.1⟩
   obtain ⟨g, rfl⟩ := hex
   have hml : (midP k l j).length = l.length := midP_length k l j hj
   have hat := flatP_at (midP k l j) j (by omega)
   have e0 := (hown.cellAt (j * 2) (by omega)).trans hat.1
   have e1 := (hown.cellAt (j * 2 + 1) (by omega)).trans hat.2
   have f0 := hown.frozenAt (j * 2)
   have f1 := hown.frozenAt (j * 2 + 1)
   have st := (hown.stored (j * 2) (.int .i64 (k + 2 * j))).1
   have st2 := (st.stored (j * 2 + 1) (.int .i64 (k + 2 * j + 1))).1
   rw [flatP_set _ _ _ j (by omega), midP_step k l j hlt] at st2
   have hch2 : Chg (fun g' => (Value.slice (some ⟨g, 0, none⟩) l.length cap).ownBlock = some g') w ((wr.setCell ⟨g, j * 2, none⟩ (.int .i64 (k + 2 * j))).setCell ⟨g, j * 2 + 1, none⟩ (.int .i64 (k + 2 * j + 1))) :=
    (hch.setAt g _ rfl _).setAt g _ rfl _
   generalize kOf (midP k l j) j = x0 at *
   generalize vOf (midP k l j) j = x1 at *
   have ST : Hid _ := And.intro st2 hch2
   clear st st2 hch2 hown hch hml hat OW
   have hb0 : 0 ≤ k + 2 * (j : Int) := by omega
   have hb1 : k + 2 * (j : Int) ≤ 10000000000 := by omega
   go_wp2
   go_roundw
   case rel => exact ⟨j + 1, by omega, by go_num, by go_num, ST.out.1, ST.out.2⟩
   case measure => simp [intOf]; omega
  ·have hjl : j = l.length := by omega
   subst hjl
   go_wp2
   go_ret
   rw [midP_full] at hown
   exact ⟨rfl, hown, hch⟩

theorem heldPairS_l (v : Value) (n : Nat) (k : Int) (w : World) (h : Row w v n (flatP (marksP k n))) (hn : n ≤ 67108864) (hk0 : 0 ≤ k) (hk1 : k ≤ 67108864) :
  Calls Tryz.prog 112 #[v, .int .i64 k] w fun e w' => e = .returned (.int .i64 (k + 2 * n)) ∧ w' = w := by
 have h' : Row w v (marksP k n).length (flatP (marksP k n)) := by rw [marksP_length]; exact h
 obtain ⟨a, b, off, cap, rfl, hcap, hmax, ha, hk, hv⟩ := h'.pairs
 rw [marksP_length] at *
 unfold maxLen at hmax
 clear h h'
 go_enter Tryz.func112, Tryz.ntmps112
 go_wp2
 go_loop [1, 5] (fun kk i => ∃ j : Nat, j ≤ n ∧ i = .int .i64 j ∧ kk = .int .i64 (k + 2 * j)) (fun _ i => n - (intOf i).toNat)
 case atStart => exact ⟨0, Nat.zero_le _, rfl, by simp⟩
 case round =>
  obtain ⟨j, hj, rfl, rfl⟩ := hrel
  by_cases hlt : j < n
  ·have hal := ha (by omega)
   subst hal
   have d0 : w.cell? ⟨b, off + j * 2, none⟩ = some (.int .i64 (k + 2 * j)) := by rw [hk j hlt, (marksP_at k n j hlt).1]
   have d1 : w.cell? ⟨b, off + j * 2 + 1, none⟩ = some (.int .i64 (k + 2 * j + 1)) := by rw [hv j hlt, (marksP_at k n j hlt).2]
   clear hk hv
   have hb0 : 0 ≤ k + 2 * (j : Int) := by omega
   have hb1 : k + 2 * (j : Int) ≤ 10000000000 := by omega
   go_wp2
   go_round
   case rel => exact ⟨j + 1, by omega, by go_num, by go_num⟩
   case measure => simp [intOf]; omega
  ·have hjl : j = n := by omega
   subst hjl
   go_wp2
   go_ret
   exact ⟨rfl, rfl⟩
end
section
open Go.RowKit

def marksI (k : Int) (n : Nat) : List Int := (List.range n).map fun (i : Nat) => k + i
theorem marksI_length (k : Int) (n : Nat) : (marksI k n).length = n := by simp [marksI]
theorem marksI_succ (k : Int) (n : Nat) : marksI k (n + 1) = marksI k n ++ [k + n] := by simp [marksI, List.range_succ]
theorem marksI_at (k : Int) (n i : Nat) (h : i < n) : iAt (marksI k n) i = k + i := by simp [marksI, iAt, List.getD, h]
def midI (k : Int) (l : List Int) (i : Nat) : List Int := marksI k i ++ l.drop i
theorem midI_length (k : Int) (l : List Int) (i : Nat) (h : i ≤ l.length) : (midI k l i).length = l.length := by simp [midI, marksI_length]; omega
theorem midI_zero (k : Int) (l : List Int) : midI k l 0 = l := by simp [midI, marksI]
theorem midI_full (k : Int) (l : List Int) : midI k l l.length = marksI k l.length := by simp [midI]
theorem midI_step (k : Int) (l : List Int) (i : Nat) (h : i < l.length) : (midI k l i).set i (k + i) = midI k l (i + 1) := by
 rw [midI, midI, marksI_succ, List.drop_eq_getElem_cons h, List.set_append_right _ _ (by rw [marksI_length]; omega), marksI_length, Nat.sub_self, List.set_cons_zero]
 simp
theorem flatI_setI (l : List Int) (s : Int) (i : Nat) : (flatI l).set i (.int .i64 s) = flatI (l.set i s) := by simp [flatI, List.map_set]
theorem flatI_atI (l : List Int) (i : Nat) (h : i < l.length) : (flatI l)[i]? = some (.int .i64 (iAt l i)) := by simp [flatI, iAt, List.getD, h]

theorem markIntS_s (v : Value) (l : List Int) (k : Int) (w : World) (h : w.ownsRow 0 3 1 v l.length (flatI l)) (hn : l.length ≤ 67108864) (hk0 : 0 ≤ k) (hk1 : k ≤ 67108864) :
  Calls Tryz.prog 39 #[v, .int .i64 k] w fun e w' => e = .returned (.int .i64 (k + l.length)) ∧ w'.ownsRow 0 3 1 v l.length (flatI (marksI k l.length)) ∧ Chg (fun g => v.ownBlock = some g) w w' := by
 obtain ⟨a, cap, hv⟩ := owns_val h
 have hcap : cap ≤ maxLen := by
  obtain ⟨_, ⟨e, _⟩ | ⟨g, cap', cur, e, _, _, _, hc, _⟩⟩ := h
  ·rw [hv] at e; simp at e; rw [e.2.2]; exact Nat.zero_le _
  ·rw [hv] at e; simp at e; rw [e.2]; exact hc
 unfold maxLen at hcap
 have OW : Hid (w.ownsRow 0 3 1 v l.length (flatI l)) := h
 clear h
 rw [hv] at OW ⊢
 clear hv
 go_enter Tryz.func39, Tryz.ntmps39
 go_wp2
 go_loopw [1, 5] (fun kk i wr => ∃ j : Nat, j ≤ l.length ∧ i = .int .i64 j ∧ kk = .int .i64 (k + j) ∧ wr.ownsRow 0 3 1 (.slice a l.length cap) l.length (flatI (midI k l j)) ∧ Chg (fun g => (Value.slice a l.length cap).ownBlock = some g) w wr)
  (fun _ i _ => l.length - (intOf i).toNat)
 case atStart => exact ⟨0, Nat.zero_le _, rfl, by simp, by rw [midI_zero]; exact OW.out, Chg.refl _ _⟩
 case round =>
  obtain ⟨j, hj, rfl, rfl, hown, hch⟩ := hrel
  by_cases hlt : j < l.length
  ·have hex : ∃ g, a = some ⟨g, 0, none⟩ := by
    obtain ⟨_, ⟨e, e2⟩ | ⟨g, cap', cur, e, _⟩⟩ := hown
    ·omega
    ·simp at e; exact ⟨g, e.1⟩
   obtain ⟨g, rfl⟩ := hex
   have hml : (midI k l j).length = l.length := midI_length k l j hj
   have hat := flatI_atI (midI k l j) j (by omega)
   have e0 := (hown.cellAt j (by omega)).trans hat
   have f0 := hown.frozenAt j
   have st := (hown.stored j (.int .i64 (k + j))).1
   rw [flatI_setI, midI_step k l j hlt] at st
   have hch2 : Chg (fun g' => (Value.slice (some ⟨g, 0, none⟩) l.length cap).ownBlock = some g') w (wr.setCell ⟨g, j, none⟩ (.int .i64 (k + j))) := hch.setAt g _ rfl _
   generalize iAt (midI k l j) j = x0 at *
   have ST : Hid _ := And.intro st hch2
   clear st hch2 hown hch hml hat OW
   have hb0 : 0 ≤ k + (j : Int) := by omega
   have hb1 : k + (j : Int) ≤ 10000000000 := by omega
   go_wp2
   go_roundw
   case rel => exact ⟨j + 1, by omega, by go_num, by go_num, ST.out.1, ST.out.2⟩
   case measure => simp [intOf]; omega
  ·have hjl : j = l.length := by omega
   subst hjl
   go_wp2
   go_ret
   rw [midI_full] at hown
   exact ⟨rfl, hown, hch⟩

theorem heldIntS_s (v : Value) (n : Nat) (k : Int) (w : World) (h : Row w v n (flatI (marksI k n))) (hn : n ≤ 67108864) (hk0 : 0 ≤ k) (hk1 : k ≤ 67108864) :
  Calls Tryz.prog 43 #[v, .int .i64 k] w fun e w' => e = .returned (.int .i64 (k + n)) ∧ w' = w := by
 have h' : Row w v (marksI k n).length (flatI (marksI k n)) := by rw [marksI_length]; exact h
 obtain ⟨a, b, off, cap, rfl, hcap, hmax, ha, hk⟩ := h'.ints
 rw [marksI_length] at *
 unfold maxLen at hmax
 clear h h'
 go_enter Tryz.func43, Tryz.ntmps43
 go_wp2
 go_loop [1, 5] (fun kk i => ∃ j : Nat, j ≤ n ∧ i = .int .i64 j ∧ kk = .int .i64 (k + j)) (fun _ i => n - (intOf i).toNat)
 case atStart => exact ⟨0, Nat.zero_le _, rfl, by simp⟩
 case round =>
  obtain ⟨j, hj, rfl, rfl⟩ := hrel
  by_cases hlt : j < n
  ·have hal := ha (by omega)
   subst hal
   have d0 : w.cell? ⟨b, off + j, none⟩ = some (.int .i64 (k + j)) := by rw [hk j hlt, marksI_at k n j hlt]
   clear hk
   have hb0 : 0 ≤ k + (j : Int) := by omega
   have hb1 : k + (j : Int) ≤ 10000000000 := by omega
   go_wp2
   go_round
   case rel => exact ⟨j + 1, by omega, by go_num, by go_num⟩
   case measure => simp [intOf]; omega
  ·have hjl : j = n := by omega
   subst hjl
   go_wp2
   go_ret
   exact ⟨rfl, rfl⟩

theorem markPairS_nil (a : Option Addr) (q : Nat) (k : Int) (w : World) : Calls Tryz.prog 109 #[.slice a 0 q, .int .i64 k] w fun e w' => e = .returned (.int .i64 k) ∧ w' = w := by
 go_enter Tryz.func109, Tryz.ntmps109
 go_wp2
 go_loop [1, 5] (fun kk i => kk = .int .i64 k ∧ i = .int .i64 0) (fun _ _ => 0)
 case atStart => exact ⟨rfl, rfl⟩
 case round =>
  obtain ⟨rfl, rfl⟩ := hrel
  go_wp2
  go_ret
  exact ⟨rfl, rfl⟩
theorem markIntS_nil (a : Option Addr) (q : Nat) (k : Int) (w : World) : Calls Tryz.prog 39 #[.slice a 0 q, .int .i64 k] w fun e w' => e = .returned (.int .i64 k) ∧ w' = w := by
 go_enter Tryz.func39, Tryz.ntmps39
 go_wp2
 go_loop [1, 5] (fun kk i => kk = .int .i64 k ∧ i = .int .i64 0) (fun _ _ => 0)
 case atStart => exact ⟨rfl, rfl⟩
 case round =>
  obtain ⟨rfl, rfl⟩ := hrel
  go_wp2
  go_ret
  exact ⟨rfl, rfl⟩
theorem markMsgS_nil (a : Option Addr) (q : Nat) (k : Int) (w : World) : Calls Tryz.prog 111 #[.slice a 0 q, .int .i64 k] w fun e w' => e = .returned (.int .i64 k) ∧ w' = w := by
 go_enter Tryz.func111, Tryz.ntmps111
 go_wp2
 go_loop [1, 5] (fun kk i => kk = .int .i64 k ∧ i = .int .i64 0) (fun _ _ => 0)
 case atStart => exact ⟨rfl, rfl⟩
 case round =>
  obtain ⟨rfl, rfl⟩ := hrel
  go_wp2
  go_ret
  exact ⟨rfl, rfl⟩
end
end Go.Proofs.YtmdajbbpigbdcaaGreat
