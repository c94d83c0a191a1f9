/-
  toMachine: a machine copied out of the law's own kind lies in memory of its own, every row apart.
  Nodes in memory of their own: each list in a stretch of blocks of its own.
  The laws' functions that write marks into a machine, and look for them.
  LogOk of both sides.
  LastOf and Newer of both sides.
  TermAt of both sides, and where an entry stands (placeOf).
  Parts of a list of entries: a slice of it leads to a part of it.
  markLog, heldLog; what marks leave as it is.
  The laws' functions that write marks into a node, and look for them.
-/
import Derived.Test.YtkcaelfkcepdkaaGreatOfSend23
import Derived.Test.YtkcaelfkcepdkaaGreatOfSend7
import Derived.Test.YtkcaelfkcepdkaaGreatOfSend6
import Derived.Test.YtkcaelfkcepdkaaGreatOfSend14
import Derived.Test.YtkcaelfkcepdkaaGreatOfSend18
import Derived.Test.YtkcaelfkcepdkaaGreatOfSend17
import Derived.Test.YtkcaelfkcepdkaaGreatOfSend5
import Derived.BigQuiet
import Derived.Deep.DeepCutAuto
import Derived.Deep.CutBlock
import Derived.Deep.QuietTactic
import Derived.Test.YtkcaelfkcepdkaaGreatOfSend9
import Derived.Test.YtkcaelfkcepdkaaGreatOfSend13
namespace Go.Proofs.YtkcaelfkcepdkaaGreat
set_option maxRecDepth 100000
set_option maxHeartbeats 8000000
section
open Go.RowKit

theorem OwnE.of_owns {w : World} {base e size k : Nat} {v : Value} {xs : List Value} (h : w.ownsRow base e size v k xs) : OwnE w base e size v k xs := .inl h
theorem ownD_fst {n : Nat} {w : World} {F : Nat → Prop} {R : Nat} {x : TV} {T : Tr} (h : TreeD n w F x T) (hR : ¬ F R) (a b c d e : Value) : TreeD n (((((w.setCell ⟨R, 0, none⟩ a).setCell ⟨R, 1, none⟩ b).setCell ⟨R, 2, none⟩ c).setCell ⟨R, 3, none⟩ d).setCell ⟨R, 4, none⟩ e) F x T :=
 ((((h.setCell hR a).setCell hR b).setCell hR c).setCell hR d).setCell hR e
theorem ownD_six {n : Nat} {w : World} {F : Nat → Prop} {R : Nat} {x : TV} {T : Tr} (h : TreeD n w F x T) (hR : ¬ F R) (a b c d e f : Value) : TreeD n ((((((w.setCell ⟨R, 0, none⟩ a).setCell ⟨R, 1, none⟩ b).setCell ⟨R, 2, none⟩ c).setCell ⟨R, 3, none⟩ d).setCell ⟨R, 4, none⟩ e).setCell ⟨R, 5, none⟩ f) F x T :=
 (ownD_fst h hR a b c d e).setCell hR f

theorem toMachineD_any (n : Nat) (m : MacV) (T : Tr) (l : DL) (w : World) (h : MacAt n w m T l) (hs : sizeT n T ≤ 1048576) (hl : l.length ≤ 1048576) :
  Calls Tryz.prog 62 #[m.val] w fun e w' => ∃ m' : MacV, e = .returned m'.val ∧ MacD n w' (fun g => w.heap.size ≤ g) m' T l ∧ Below w.heap.size w w' := by
 obtain ⟨⟨lf, p, c, k, b⟩, v⟩ := m
 have b0 : Below w.heap.size w (((w.alloc (.cells #[.bool lf, p, c, k, b, v] 56)).alloc (.cells #[.bool false, .slice none 0 0, .slice none 0 0, .slice none 0 0, .slice none 0 0, .slice none 0 0] 71)).alloc (.cells #[.bool false, .slice none 0 0, .slice none 0 0, .slice none 0 0, .slice none 0 0, .slice none 0 0] 71)) := (((Below.refl _ _).alloc (Nat.le_refl _) _).alloc (by simp) _).alloc (by simp; omega) _
 have n0 := MBox.step (MBox.step (MBox.start 56 w #[.bool lf, p, c, k, b, v]) (bel_nw _ (.cells #[.bool false, .slice none 0 0, .slice none 0 0, .slice none 0 0, .slice none 0 0, .slice none 0 0] 71))) (bel_nw _ (.cells #[.bool false, .slice none 0 0, .slice none 0 0, .slice none 0 0, .slice none 0 0, .slice none 0 0] 71))
 have n1 := MBox.step (MBox.start 71 (w.alloc (.cells #[.bool lf, p, c, k, b, v] 56)) #[.bool false, .slice none 0 0, .slice none 0 0, .slice none 0 0, .slice none 0 0, .slice none 0 0]) (bel_nw _ (.cells #[.bool false, .slice none 0 0, .slice none 0 0, .slice none 0 0, .slice none 0 0, .slice none 0 0] 71))
 have n2 := MBox.start 71 ((w.alloc (.cells #[.bool lf, p, c, k, b, v] 56)).alloc (.cells #[.bool false, .slice none 0 0, .slice none 0 0, .slice none 0 0, .slice none 0 0, .slice none 0 0] 71)) #[.bool false, .slice none 0 0, .slice none 0 0, .slice none 0 0, .slice none 0 0, .slice none 0 0]
 simp only [World.size_alloc] at n1 n2
 have zz : (((w.alloc (.cells #[.bool lf, p, c, k, b, v] 56)).alloc (.cells #[.bool false, .slice none 0 0, .slice none 0 0, .slice none 0 0, .slice none 0 0, .slice none 0 0] 71)).alloc (.cells #[.bool false, .slice none 0 0, .slice none 0 0, .slice none 0 0, .slice none 0 0, .slice none 0 0] 71)).heap.size = w.heap.size + 3 := by simp
 have c0 := n0.cells
 have H : Hid _ := And.intro h (And.intro b0 (And.intro n0 (And.intro n1 (And.intro n2 zz))))
 clear h b0 n0 n1 n2 zz
 show Calls Tryz.prog 62 #[.agg #[.bool lf, p, c, k, b, v]] w _
 go_enter Tryz.func62, Tryz.ntmps62
 go_wp2_with fail
 generalize (((w.alloc (.cells #[.bool lf, p, c, k, b, v] 56)).alloc (.cells #[.bool false, .slice none 0 0, .slice none 0 0, .slice none 0 0, .slice none 0 0, .slice none 0 0] 71)).alloc (.cells #[.bool false, .slice none 0 0, .slice none 0 0, .slice none 0 0, .slice none 0 0, .slice none 0 0] 71)) = W at *
 refine (toTreeD_any n ⟨lf, p, c, k, b⟩ T W (H.out.1.1.below H.out.2.1) hs).mono ?_
 rintro e w1 ⟨y, rfl, t1, b1⟩
 obtain ⟨h, b0, n0, n1, n2, zz⟩ := H.out
 obtain ⟨a1, a2, a3, a4, q1, q2, q3, q4, hy⟩ := t1.treeF.treeAt.shape
 generalize T.leaf = m0, T.pairs.length = m1, T.cuts.length = m2, T.kids.length = m3, T.buf.length = m4 at hy
 subst hy
 have p0 := n0.step b1
 have p1 := n1.step b1
 have p2 := n2.step b1
 have r2 := fst_at (.bool m0) (.slice a1 m1 q1) (.slice a2 m2 q2) (.slice a3 m3 q3) (.slice a4 m4 q4) p2
 have g2 := fst_chg w1 (w.heap.size + 1 + 1) (.bool m0) (.slice a1 m1 q1) (.slice a2 m2 q2) (.slice a3 m3 q3) (.slice a4 m4 q4)
 have r0 := row_chg p0 g2 (by omega)
 have r1 := row_chg p1 g2 (by omega)
 have t2 := ownD_fst (R := w.heap.size + 1 + 1) t1 (by omega) (.bool m0) (.slice a1 m1 q1) (.slice a2 m2 q2) (.slice a3 m3 q3) (.slice a4 m4 q4)
 have B1 := Below.and b0 b1
 have B2 := B1.trans (g2.below (fun g _ hg => by omega) B1.size)
 have f1 : ∀ j, w1.frozen? ⟨w.heap.size + 1 + 1, j, none⟩ = false := fun j => frozen_of_cells p2
 have d0 : ∀ j, w1.cell? ⟨w.heap.size + 1 + 1, j, none⟩ = (#[.bool false, .slice none 0 0, .slice none 0 0, .slice none 0 0, .slice none 0 0, .slice none 0 0] : Array Value)[j]? := fun j => cell_of_cells p2
 have d1 : ∀ j, (((((w1.setCell ⟨w.heap.size + 1 + 1, 0, none⟩ (.bool m0)).setCell ⟨w.heap.size + 1 + 1, 1, none⟩ (.slice a1 m1 q1)).setCell ⟨w.heap.size + 1 + 1, 2, none⟩ (.slice a2 m2 q2)).setCell ⟨w.heap.size + 1 + 1, 3, none⟩ (.slice a3 m3 q3)).setCell ⟨w.heap.size + 1 + 1, 4, none⟩ (.slice a4 m4 q4)).cell? ⟨w.heap.size, j, none⟩ = (#[.bool lf, p, c, k, b, v] : Array Value)[j]? := fun j => cell_of_cells r0
 have hz1 : w.heap.size + 3 ≤ w1.heap.size := by have := b1.size; omega
 have G : Hid _ := And.intro h.2 (And.intro t2 (And.intro r1 (And.intro r2 (And.intro B2 (And.intro zz hz1)))))
 clear h b0 n0 n1 n2 zz p0 p1 p2 r0 r1 r2 g2 t2 B1 B2 H t1 b1 c0
 go_wp2_with fail
 generalize hW2 : (((((w1.setCell ⟨w.heap.size + 1 + 1, 0, none⟩ (.bool m0)).setCell ⟨w.heap.size + 1 + 1, 1, none⟩ (.slice a1 m1 q1)).setCell ⟨w.heap.size + 1 + 1, 2, none⟩ (.slice a2 m2 q2)).setCell ⟨w.heap.size + 1 + 1, 3, none⟩ (.slice a3 m3 q3)).setCell ⟨w.heap.size + 1 + 1, 4, none⟩ (.slice a4 m4 q4)) = W2 at *
 obtain ⟨hv, t2, r1, r2, B2, zz, hz1⟩ := G.out
 have hz2 : W2.heap.size = w1.heap.size := by rw [← hW2]; simp
 clear d0 f1 hW2 G
 refine (toDoneS_any v l W2 (hv.below B2) hl).mono ?_
 rintro e w3 ⟨v3, rfl, o3, b3⟩
 obtain ⟨a5, q5, hv3⟩ := owns_val o3
 subst hv3
 generalize hm5 : l.length = m5 at *
 have s1 := (b3.block _ (Array.getElem?_eq_some_iff.1 r1).1).trans r1
 have s2 := (b3.block _ (Array.getElem?_eq_some_iff.1 r2).1).trans r2
 have t3 := t2.below b3
 have B3 := Below.and B2 b3
 have u2 := lst_at (.slice a5 m5 q5) s2
 have g3 : Chg (fun g => g = w.heap.size + 1 + 1) w3 (w3.setCell ⟨w.heap.size + 1 + 1, 5, none⟩ (.slice a5 m5 q5)) := (Chg.refl (fun g => g = w.heap.size + 1 + 1) w3).setAt (w.heap.size + 1 + 1) 5 rfl (.slice a5 m5 q5)
 have u1 := row_chg s1 g3 (by omega)
 have t4 := t3.setCell (a := ⟨w.heap.size + 1 + 1, 5, none⟩) (by simp only; omega) (.slice a5 m5 q5)
 have o4 := owns_chg o3 g3 (fun g hg e => by have := (o3.lt g hg).1; omega)
 have B4 := B3.trans (g3.below (fun g _ hg => by omega) B3.size)
 have x1 := six_at (.bool m0) (.slice a1 m1 q1) (.slice a2 m2 q2) (.slice a3 m3 q3) (.slice a4 m4 q4) (.slice a5 m5 q5) u1
 have g5 := six_chg (w3.setCell ⟨w.heap.size + 1 + 1, 5, none⟩ (.slice a5 m5 q5)) (w.heap.size + 1) (.bool m0) (.slice a1 m1 q1) (.slice a2 m2 q2) (.slice a3 m3 q3) (.slice a4 m4 q4) (.slice a5 m5 q5)
 have t5 := ownD_six (R := w.heap.size + 1) t4 (by omega) (.bool m0) (.slice a1 m1 q1) (.slice a2 m2 q2) (.slice a3 m3 q3) (.slice a4 m4 q4) (.slice a5 m5 q5)
 have o5 := owns_chg o4 g5 (fun g hg e => by have := (o4.lt g hg).1; omega)
 have B5 := B4.trans (g5.below (fun g _ hg => by omega) B4.size)
 have f2 : ∀ j, w3.frozen? ⟨w.heap.size + 1 + 1, j, none⟩ = false := fun j => frozen_of_cells s2
 have f3 : ∀ j, (w3.setCell ⟨w.heap.size + 1 + 1, 5, none⟩ (.slice a5 m5 q5)).frozen? ⟨w.heap.size + 1, j, none⟩ = false := fun j => frozen_of_cells u1
 have c2 : ∀ j, w3.cell? ⟨w.heap.size + 1 + 1, j, none⟩ = (#[.bool m0, .slice a1 m1 q1, .slice a2 m2 q2, .slice a3 m3 q3, .slice a4 m4 q4, .slice none 0 0] : Array Value)[j]? := fun j => cell_of_cells s2
 have c3 : ∀ j, (w3.setCell ⟨w.heap.size + 1 + 1, 5, none⟩ (.slice a5 m5 q5)).cell? ⟨w.heap.size + 1 + 1, j, none⟩ = (#[.bool m0, .slice a1 m1 q1, .slice a2 m2 q2, .slice a3 m3 q3, .slice a4 m4 q4, .slice a5 m5 q5] : Array Value)[j]? := fun j => cell_of_cells u2
 have c4 : ∀ j, (w3.setCell ⟨w.heap.size + 1 + 1, 5, none⟩ (.slice a5 m5 q5)).cell? ⟨w.heap.size + 1, j, none⟩ = (#[.bool false, .slice none 0 0, .slice none 0 0, .slice none 0 0, .slice none 0 0, .slice none 0 0] : Array Value)[j]? := fun j => cell_of_cells u1
 have X1 : Hid _ := x1
 have K : Hid _ := And.intro (t5.mono (G := fun g => w.heap.size ≤ g) (fun g hg => by omega)) (And.intro (owns_mono (base' := w.heap.size) o5 (by omega)) B5)
 clear s1 s2 t3 B3 u2 g3 u1 t4 o4 B4 x1 g5 t5 o5 B5 o3 b3 r1 r2 t2 B2 hv zz hz1 hz2 d1
 go_wp2_with fail
 simp [bodyPost, results, Tryz.results62, go_sem, cell_of_cells X1.out]
 refine ⟨⟨⟨m0, .slice a1 m1 q1, .slice a2 m2 q2, .slice a3 m3 q3, .slice a4 m4 q4⟩, .slice a5 m5 q5⟩, by simp, ⟨K.out.1, ?_, ?_⟩, K.out.2.2⟩
 ·have := OwnE.of_owns (owns_mono (base' := 0) K.out.2.1 (Nat.zero_le _))
  rw [hm5]
  exact this
 ·intro g hg
  exact ((OwnE.of_owns K.out.2.1).lt g hg).1
end
section
open Go.RowKit

def OwnI (w : World) (lo hi e size : Nat) (v : Value) (k : Nat) (xs : List Value) : Prop := OwnE w lo e size v k xs ∧ ∀ g, wrB v g → g < hi
theorem OwnI.below {w w' : World} {lo hi e size k : Nat} {v : Value} {xs : List Value} (h : OwnI w lo hi e size v k xs) (hb : Below w.heap.size w w') : OwnI w' lo hi e size v k xs := ⟨h.1.below hb, h.2⟩
theorem OwnI.chg {w w' : World} {P : Nat → Prop} {lo hi e size k : Nat} {v : Value} {xs : List Value} (h : OwnI w lo hi e size v k xs) (hc : Chg P w w') (hP : ∀ g, lo ≤ g → g < hi → ¬ P g) : OwnI w' lo hi e size v k xs := ⟨h.1.chg hc (fun g hg => hP g (h.1.lt g hg).1 (h.2 g hg)), h.2⟩
theorem OwnI.but {w w' : World} {lo hi e size k R : Nat} {v : Value} {xs : List Value} (h : OwnI w lo hi e size v k xs) (hc : Chg (fun g => g = R) w w') (hR : R < lo) : OwnI w' lo hi e size v k xs := h.chg hc (fun g h1 _ h3 => by omega)
theorem OwnI.made {w : World} {lo e size k : Nat} {v : Value} {xs : List Value} (h : OwnE w lo e size v k xs) : OwnI w lo w.heap.size e size v k xs := ⟨h, fun g hg => (h.lt g hg).2⟩
theorem OwnI.row {w : World} {lo hi e size k : Nat} {v : Value} {xs : List Value} (h : OwnI w lo hi e size v k xs) : Row w v k xs := h.1.rowF.row
def MacI (n : Nat) (w : World) (lo hi : Nat) (m : MacV) (T : Tr) (l : DL) : Prop := MacD n w (fun g => lo ≤ g ∧ g < hi) m T l
theorem MacI.below {n : Nat} {w w' : World} {lo hi : Nat} {m : MacV} {T : Tr} {l : DL} (h : MacI n w lo hi m T l) (hb : Below w.heap.size w w') : MacI n w' lo hi m T l := MacD.below h hb
theorem MacI.chg {n : Nat} {w w' : World} {P : Nat → Prop} {lo hi : Nat} {m : MacV} {T : Tr} {l : DL} (h : MacI n w lo hi m T l) (hc : Chg P w w') (hP : ∀ g, lo ≤ g → g < hi → ¬ P g) : MacI n w' lo hi m T l := MacD.chg h hc (fun g hg => hP g hg.1 hg.2)
theorem MacI.but {n : Nat} {w w' : World} {lo hi R : Nat} {m : MacV} {T : Tr} {l : DL} (h : MacI n w lo hi m T l) (hc : Chg (fun g => g = R) w w') (hR : R < lo) : MacI n w' lo hi m T l := h.chg hc (fun g h1 _ h3 => by omega)
theorem MacI.made {n : Nat} {w : World} {lo : Nat} {m : MacV} {T : Tr} {l : DL} (h : MacD n w (fun g => lo ≤ g) m T l) : MacI n w lo w.heap.size m T l := ⟨h.1.lt, h.2.1, fun g hg => ⟨h.2.2 g hg, (h.2.1.lt g hg).2⟩⟩
theorem MacD.at {n : Nat} {w : World} {F : Nat → Prop} {m : MacV} {T : Tr} {l : DL} (h : MacD n w F m T l) : MacAt n w m T l := ⟨h.1.treeF.treeAt, h.2.1.rowF.row⟩
theorem MacD.sl {n : Nat} {w : World} {F : Nat → Prop} {m : MacV} {T : Tr} {l : DL} (h : MacD n w F m T l) : ∃ (b : Bool) (x1 x2 x3 x4 x5 : Option Addr × Nat × Nat), m = ⟨⟨b, .slice x1.1 x1.2.1 x1.2.2, .slice x2.1 x2.2.1 x2.2.2, .slice x3.1 x3.2.1 x3.2.2, .slice x4.1 x4.2.1 x4.2.2⟩, .slice x5.1 x5.2.1 x5.2.2⟩ := by
 obtain ⟨x, v⟩ := m
 obtain ⟨b, x1, x2, x3, x4, e⟩ := h.1.sl
 obtain ⟨x5, e5⟩ := h.2.1.sl
 simp only at e e5
 subst e e5
 exact ⟨b, x1, x2, x3, x4, x5, rfl⟩
def NodD (n : Nat) (w : World) (lo : Nat) (N : NodV) (D : Nd) : Prop :=
 ∃ c1 c2 c3 c4 c5 c6 : Nat, lo ≤ c1 ∧ c1 ≤ c2 ∧ c2 ≤ c3 ∧ c3 ≤ c4 ∧ c4 ≤ c5 ∧ c5 ≤ c6 ∧ c6 ≤ w.heap.size ∧
  OwnI w lo c1 119 6 N.lv D.l.length (flatE D.l) ∧ MacI n w c1 c2 N.s D.T1 D.d1 ∧ OwnI w c2 c3 4 1 N.vv D.vs.length (flatL D.vs) ∧ OwnI w c3 c4 3 1 N.nv D.nx.length (flatI D.nx) ∧ OwnI w c4 c5 3 1 N.mv D.mt.length (flatI D.mt) ∧ MacI n w c5 c6 N.o D.T2 D.d2
theorem NodD.at {n : Nat} {w : World} {lo : Nat} {N : NodV} {D : Nd} (h : NodD n w lo N D) : NodAt n w N D := by
 obtain ⟨c1, c2, c3, c4, c5, c6, h1, h2, h3, h4, h5, h6, h7, o1, o2, o3, o4, o5, o6⟩ := h
 exact ⟨o1.row, MacD.at o2, o3.row, o4.row, o5.row, MacD.at o6⟩
end
section
open Go.RowKit

theorem TreeD.off {b E s k : Nat} {v : Value} {ys : List Value} (h1 : E ≠ 157) (h2 : E ≠ 3) (h3 : E ≠ 115) (h4 : E ≠ 69) : ∀ {n : Nat} {w : World} {F : Nat → Prop} {x : TV} {T : Tr}, TreeD n w F x T → OwnE w b E s v k ys → TreeD n w (fun g => F g ∧ ¬ wrB v g) x T
 | 0, _, _, _, _, h, _ => h.elim
 | _ + 1, _, _, _, _, ⟨a1, a2, a3, a4, a5, xs, K, a6, a7, a8, a9, a10⟩, o => by
  refine ⟨a1, a2, a3, a4, fun g hg => ⟨a5 g hg, fun hv => ?_⟩, xs, fun i g => K i g ∧ ¬ wrB v g, a6, a7, fun i hi => (a8 i hi).off h1 h2 h3 h4 o, fun i g hi hg => ⟨⟨(a9 i g hi hg.1).1, hg.2⟩, (a9 i g hi hg.1).2⟩, fun i j g hij hj hg hg' => a10 i j g hij hj hg.1 hg'.1⟩
  rcases hg with hg | hg | hg | hg
  ·exact OwnE.apart o a2 h1 g hv hg
  ·exact OwnE.apart o a3 h2 g hv hg
  ·exact OwnE.apart o a4 h3 g hv hg
  ·exact OwnE.apart o a7 h4 g hv hg
end
section
open Go.RowKit

def prevT (bt : Int) (l : EL) (k : Nat) : Int := if k = 0 then bt else eT l (k - 1)
def entAt (bt : Int) (l : EL) (k : Nat) : Bool := inB (eT l k) (prevT bt l k) 100000 && cmdOkB (eC l k) (eS l k) (eO l k) (eK l k) (eV l k)
def entsOk (bt : Int) (l : EL) : Bool := (List.range l.length).all (entAt bt l)
def logOkB (b bt : Int) (l : EL) : Bool := inB b 0 100000 && (inB bt 0 100000 && (decide (b + l.length ≤ 100000) && entsOk bt l))
end
section
open Go.RowKit

def lastN (b : Int) (l : EL) : Int := if l.length = 0 then b else wrap64 (b + l.length)
abbrev lastV (b bt : Int) (l : EL) : Value := .tuple #[.int .i64 (lastN b l), .int .i64 (prevT bt l l.length)]
def newerB (b bt : Int) (l : EL) (la lt : Int) : Bool := decide (lt > prevT bt l l.length ∨ (lt = prevT bt l l.length ∧ la ≥ lastN b l))
end
section
open Go.RowKit

def I64 (x : Int) : Prop := -9223372036854775808 ≤ x ∧ x ≤ 9223372036854775807
def placeB (b : Int) (l : EL) (i : Int) : Option Nat := if b < i ∧ i - b - 1 < l.length then some (i - b - 1).toNat else none
def termB (b bt : Int) (l : EL) (i : Int) : Int := if i = b then bt else match placeB b l i with | some n => eT l n | none => -1

abbrev placeLV (o : Option Nat) : Value := match o with | some n => .tuple #[.int .i64 (n : Int), .bool true] | none => .tuple #[.int .i64 0, .bool false]
end
section
open Go.RowKit

theorem ownE_apart {w : World} {base e size n : Nat} {v : Value} {xs : List Value} (h : OwnE w base e size v n xs) {B : Nat} {c : Array Value} {t : Nat} (hB : w.heap[B]? = some (.cells c t (0, 0))) (ht : t ≠ e) {g : Nat} (hg : wrB v g) : ¬ g = B := by
 rintro rfl
 obtain ⟨kk, cc, hkk, hc0⟩ := hg
 rcases h with h | ⟨h1, h2, g', h3⟩
 ·obtain ⟨_, ⟨e1, _⟩ | ⟨g2, cap2, cur, e1, _, e2, _⟩⟩ := h
  ·rw [hkk] at e1; simp at e1
  ·rw [hkk] at e1
   simp at e1
   obtain ⟨rfl, rfl, rfl⟩ := e1
   rw [hB] at e2
   simp at e2
   exact ht e2.2
 ·rw [hkk] at h3; simp at h3; omega
theorem room_rowE {n bytes : Nat} (h : n ≤ 8388608) (hb : bytes ≤ 256) : 0 + n ≤ maxLen ∧ (0 + n) * bytes ≤ 140737488355328 := by
 constructor
 ·unfold maxLen; omega
 ·calc (0 + n) * bytes ≤ 8388608 * 256 := Nat.mul_le_mul (by omega) hb
   _ ≤ 140737488355328 := by decide

def entsB (b : Int) (l : EL) (i : Int) : EL := match placeB b l i with | some n => l.drop n | none => []
end
section
open Go.RowKit
end
section
open Go.RowKit

def markD (n : Nat) (k : Int) (D : Nd) : Nd :=
  ⟨marksE k D.l.length, markTr n (k + 6 * D.l.length) D.T1, marksD (k + 6 * D.l.length + (mkT n D.T1 : Nat)) D.d1.length,
   marksL (k + 6 * D.l.length + (mkT n D.T1 : Nat) + 4 * D.d1.length) D.vs.length,
   marksI (k + 6 * D.l.length + (mkT n D.T1 : Nat) + 4 * D.d1.length + D.vs.length) D.nx.length,
   marksI (k + 6 * D.l.length + (mkT n D.T1 : Nat) + 4 * D.d1.length + D.vs.length + D.nx.length) D.mt.length,
   markTr n (k + 6 * D.l.length + (mkT n D.T1 : Nat) + 4 * D.d1.length + D.vs.length + D.nx.length + D.mt.length) D.T2,
   marksD (k + 6 * D.l.length + (mkT n D.T1 : Nat) + 4 * D.d1.length + D.vs.length + D.nx.length + D.mt.length + (mkT n D.T2 : Nat)) D.d2.length⟩
def NodDh (n : Nat) (w : World) (lo hi : Nat) (N : NodV) (D : Nd) : Prop :=
  ∃ c1 c2 c3 c4 c5 c6 : Nat, lo ≤ c1 ∧ c1 ≤ c2 ∧ c2 ≤ c3 ∧ c3 ≤ c4 ∧ c4 ≤ c5 ∧ c5 ≤ c6 ∧ c6 ≤ hi ∧ hi ≤ w.heap.size ∧
    OwnI w lo c1 119 6 N.lv D.l.length (flatE D.l) ∧ MacI n w c1 c2 N.s D.T1 D.d1 ∧ OwnI w c2 c3 4 1 N.vv D.vs.length (flatL D.vs) ∧ OwnI w c3 c4 3 1 N.nv D.nx.length (flatI D.nx) ∧ OwnI w c4 c5 3 1 N.mv D.mt.length (flatI D.mt) ∧ MacI n w c5 c6 N.o D.T2 D.d2
theorem NodD.h {n : Nat} {w : World} {lo : Nat} {N : NodV} {D : Nd} (h : NodD n w lo N D) : NodDh n w lo w.heap.size N D := by
  obtain ⟨c1, c2, c3, c4, c5, c6, h1, h2, h3, h4, h5, h6, h7, o⟩ := h
  exact ⟨c1, c2, c3, c4, c5, c6, h1, h2, h3, h4, h5, h6, h7, Nat.le_refl _, o⟩
def markK (n : Nat) (k : Int) (D : Nd) : Int := k + 6 * D.l.length + (mkT n D.T1 : Nat) + 4 * D.d1.length + D.vs.length + D.nx.length + D.mt.length + (mkT n D.T2 : Nat) + 4 * D.d2.length
end
end Go.Proofs.YtkcaelfkcepdkaaGreat
