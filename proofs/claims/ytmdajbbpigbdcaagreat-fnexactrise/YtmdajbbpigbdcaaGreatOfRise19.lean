/-
  toMachine: a machine copied out of the law's own kind lies in memory of its own, every row apart.
  Entries of a log as rows of cells; the laws' own functions on them.
  The program's MsgOk: with this folder's texts it stands in Msg.
-/
import Derived.Test.YtmdajbbpigbdcaaGreatOfRise18
import Derived.Test.YtmdajbbpigbdcaaGreatOfRise2
import Derived.Test.YtmdajbbpigbdcaaGreatOfRise16
import Derived.Deep.RegionHeld3
import Derived.Test.YtmdajbbpigbdcaaGreatOfRise1
namespace Go.Proofs.YtmdajbbpigbdcaaGreat
set_option maxRecDepth 100000
set_option maxHeartbeats 8000000
section
open Go.RowKit

theorem OwnE.of_owns {w : World} {base e size k : Nat} {v : Value} {xs : List Value} (h : w.ownsRow base e size v k xs) : OwnE w base e size v k xs := .inl h
theorem ownD_fst {n : Nat} {w : World} {F : Nat → Prop} {R : Nat} {x : TV} {T : Tr} (h : TreeD n w F x T) (hR : ¬ F R) (a b c d e : Value) : TreeD n (((((w.setCell ⟨R, 0, none⟩ a).setCell ⟨R, 1, none⟩ b).setCell ⟨R, 2, none⟩ c).setCell ⟨R, 3, none⟩ d).setCell ⟨R, 4, none⟩ e) F x T :=
 ((((h.setCell hR a).setCell hR b).setCell hR c).setCell hR d).setCell hR e
theorem ownD_six {n : Nat} {w : World} {F : Nat → Prop} {R : Nat} {x : TV} {T : Tr} (h : TreeD n w F x T) (hR : ¬ F R) (a b c d e f : Value) : TreeD n ((((((w.setCell ⟨R, 0, none⟩ a).setCell ⟨R, 1, none⟩ b).setCell ⟨R, 2, none⟩ c).setCell ⟨R, 3, none⟩ d).setCell ⟨R, 4, none⟩ e).setCell ⟨R, 5, none⟩ f) F x T :=
 (ownD_fst h hR a b c d e).setCell hR f

theorem toMachineD_any (n : Nat) (m : MacV) (T : Tr) (l : DL) (w : World) (h : MacAt n w m T l) (hs : sizeT n T ≤ 1048576) (hl : l.length ≤ 1048576) :
  Calls Tryz.prog 26 #[m.val] w fun e w' => ∃ m' : MacV, e = .returned m'.val ∧ MacD n w' (fun g => w.heap.size ≤ g) m' T l ∧ Below w.heap.size w w' := by
 obtain ⟨⟨lf, p, c, k, b⟩, v⟩ := m
 have b0 : Below w.heap.size w (((w.alloc (.cells #[.bool lf, p, c, k, b, v] 33)).alloc (.cells #[.bool false, .slice none 0 0, .slice none 0 0, .slice none 0 0, .slice none 0 0, .slice none 0 0] 48)).alloc (.cells #[.bool false, .slice none 0 0, .slice none 0 0, .slice none 0 0, .slice none 0 0, .slice none 0 0] 48)) := (((Below.refl _ _).alloc (Nat.le_refl _) _).alloc (by simp) _).alloc (by simp; omega) _
 have n0 := MBox.step (MBox.step (MBox.start 33 w #[.bool lf, p, c, k, b, v]) (bel_nw _ (.cells #[.bool false, .slice none 0 0, .slice none 0 0, .slice none 0 0, .slice none 0 0, .slice none 0 0] 48))) (bel_nw _ (.cells #[.bool false, .slice none 0 0, .slice none 0 0, .slice none 0 0, .slice none 0 0, .slice none 0 0] 48))
 have n1 := MBox.step (MBox.start 48 (w.alloc (.cells #[.bool lf, p, c, k, b, v] 33)) #[.bool false, .slice none 0 0, .slice none 0 0, .slice none 0 0, .slice none 0 0, .slice none 0 0]) (bel_nw _ (.cells #[.bool false, .slice none 0 0, .slice none 0 0, .slice none 0 0, .slice none 0 0, .slice none 0 0] 48))
 have n2 := MBox.start 48 ((w.alloc (.cells #[.bool lf, p, c, k, b, v] 33)).alloc (.cells #[.bool false, .slice none 0 0, .slice none 0 0, .slice none 0 0, .slice none 0 0, .slice none 0 0] 48)) #[.bool false, .slice none 0 0, .slice none 0 0, .slice none 0 0, .slice none 0 0, .slice none 0 0]
 simp only [World.size_alloc] at n1 n2
 have zz : (((w.alloc (.cells #[.bool lf, p, c, k, b, v] 33)).alloc (.cells #[.bool false, .slice none 0 0, .slice none 0 0, .slice none 0 0, .slice none 0 0, .slice none 0 0] 48)).alloc (.cells #[.bool false, .slice none 0 0, .slice none 0 0, .slice none 0 0, .slice none 0 0, .slice none 0 0] 48)).heap.size = w.heap.size + 3 := by simp
 have c0 := n0.cells
 have H : Hid _ := And.intro h (And.intro b0 (And.intro n0 (And.intro n1 (And.intro n2 zz))))
 clear h b0 n0 n1 n2 zz
 show Calls Tryz.prog 26 #[.agg #[.bool lf, p, c, k, b, v]] w _
 go_enter Tryz.func26, Tryz.ntmps26
 go_wp2_with fail
 generalize (((w.alloc (.cells #[.bool lf, p, c, k, b, v] 33)).alloc (.cells #[.bool false, .slice none 0 0, .slice none 0 0, .slice none 0 0, .slice none 0 0, .slice none 0 0] 48)).alloc (.cells #[.bool false, .slice none 0 0, .slice none 0 0, .slice none 0 0, .slice none 0 0, .slice none 0 0] 48)) = W at *
 refine (toTreeD_any n ⟨lf, p, c, k, b⟩ T W (H.out.1.1.below H.out.2.1) hs).mono ?_
 rintro e w1 ⟨y, rfl, t1, b1⟩
 obtain ⟨h, b0, n0, n1, n2, zz⟩ := H.out
 obtain ⟨a1, a2, a3, a4, q1, q2, q3, q4, hy⟩ := t1.treeF.treeAt.shape
 generalize T.leaf = m0, T.pairs.length = m1, T.cuts.length = m2, T.kids.length = m3, T.buf.length = m4 at hy
 subst hy
 have p0 := n0.step b1
 have p1 := n1.step b1
 have p2 := n2.step b1
 have r2 := fst_at (.bool m0) (.slice a1 m1 q1) (.slice a2 m2 q2) (.slice a3 m3 q3) (.slice a4 m4 q4) p2
 have g2 := fst_chg w1 (w.heap.size + 1 + 1) (.bool m0) (.slice a1 m1 q1) (.slice a2 m2 q2) (.slice a3 m3 q3) (.slice a4 m4 q4)
 have r0 := row_chg p0 g2 (by omega)
 have r1 := row_chg p1 g2 (by omega)
 have t2 := ownD_fst (R := w.heap.size + 1 + 1) t1 (by omega) (.bool m0) (.slice a1 m1 q1) (.slice a2 m2 q2) (.slice a3 m3 q3) (.slice a4 m4 q4)
 have B1 := Below.and b0 b1
 have B2 := B1.trans (g2.below (fun g _ hg => by omega) B1.size)
 have f1 : ∀ j, w1.frozen? ⟨w.heap.size + 1 + 1, j, none⟩ = false := fun j => frozen_of_cells p2
 have d0 : ∀ j, w1.cell? ⟨w.heap.size + 1 + 1, j, none⟩ = (#[.bool false, .slice none 0 0, .slice none 0 0, .slice none 0 0, .slice none 0 0, .slice none 0 0] : Array Value)[j]? := fun j => cell_of_cells p2
 have d1 : ∀ j, (((((w1.setCell ⟨w.heap.size + 1 + 1, 0, none⟩ (.bool m0)).setCell ⟨w.heap.size + 1 + 1, 1, none⟩ (.slice a1 m1 q1)).setCell ⟨w.heap.size + 1 + 1, 2, none⟩ (.slice a2 m2 q2)).setCell ⟨w.heap.size + 1 + 1, 3, none⟩ (.slice a3 m3 q3)).setCell ⟨w.heap.size + 1 + 1, 4, none⟩ (.slice a4 m4 q4)).cell? ⟨w.heap.size, j, none⟩ = (#[.bool lf, p, c, k, b, v] : Array Value)[j]? := fun j => cell_of_cells r0
 have hz1 : w.heap.size + 3 ≤ w1.heap.size := by have := b1.size; omega
 have G : Hid _ := And.intro h.2 (And.intro t2 (And.intro r1 (And.intro r2 (And.intro B2 (And.intro zz hz1)))))
 clear h b0 n0 n1 n2 zz p0 p1 p2 r0 r1 r2 g2 t2 B1 B2 H t1 b1 c0
 go_wp2_with fail
 generalize hW2 : (((((w1.setCell ⟨w.heap.size + 1 + 1, 0, none⟩ (.bool m0)).setCell ⟨w.heap.size + 1 + 1, 1, none⟩ (.slice a1 m1 q1)).setCell ⟨w.heap.size + 1 + 1, 2, none⟩ (.slice a2 m2 q2)).setCell ⟨w.heap.size + 1 + 1, 3, none⟩ (.slice a3 m3 q3)).setCell ⟨w.heap.size + 1 + 1, 4, none⟩ (.slice a4 m4 q4)) = W2 at *
 obtain ⟨hv, t2, r1, r2, B2, zz, hz1⟩ := G.out
 have hz2 : W2.heap.size = w1.heap.size := by rw [← hW2]; simp
 clear d0 f1 hW2 G
 refine (toDoneS_any v l W2 (hv.below B2) hl).mono ?_
 rintro e w3 ⟨v3, rfl, o3, b3⟩
 obtain ⟨a5, q5, hv3⟩ := owns_val o3
 subst hv3
 generalize hm5 : l.length = m5 at *
 have s1 := (b3.block _ (Array.getElem?_eq_some_iff.1 r1).1).trans r1
 have s2 := (b3.block _ (Array.getElem?_eq_some_iff.1 r2).1).trans r2
 have t3 := t2.below b3
 have B3 := Below.and B2 b3
 have u2 := lst_at (.slice a5 m5 q5) s2
 have g3 : Chg (fun g => g = w.heap.size + 1 + 1) w3 (w3.setCell ⟨w.heap.size + 1 + 1, 5, none⟩ (.slice a5 m5 q5)) := (Chg.refl (fun g => g = w.heap.size + 1 + 1) w3).setAt (w.heap.size + 1 + 1) 5 rfl (.slice a5 m5 q5)
 have u1 := row_chg s1 g3 (by omega)
 have t4 := t3.setCell (a := ⟨w.heap.size + 1 + 1, 5, none⟩) (by simp only; omega) (.slice a5 m5 q5)
 have o4 := owns_chg o3 g3 (fun g hg e => by have := (o3.lt g hg).1; omega)
 have B4 := B3.trans (g3.below (fun g _ hg => by omega) B3.size)
 have x1 := six_at (.bool m0) (.slice a1 m1 q1) (.slice a2 m2 q2) (.slice a3 m3 q3) (.slice a4 m4 q4) (.slice a5 m5 q5) u1
 have g5 := six_chg (w3.setCell ⟨w.heap.size + 1 + 1, 5, none⟩ (.slice a5 m5 q5)) (w.heap.size + 1) (.bool m0) (.slice a1 m1 q1) (.slice a2 m2 q2) (.slice a3 m3 q3) (.slice a4 m4 q4) (.slice a5 m5 q5)
 have t5 := ownD_six (R := w.heap.size + 1) t4 (by omega) (.bool m0) (.slice a1 m1 q1) (.slice a2 m2 q2) (.slice a3 m3 q3) (.slice a4 m4 q4) (.slice a5 m5 q5)
 have o5 := owns_chg o4 g5 (fun g hg e => by have := (o4.lt g hg).1; omega)
 have B5 := B4.trans (g5.below (fun g _ hg => by omega) B4.size)
 have f2 : ∀ j, w3.frozen? ⟨w.heap.size + 1 + 1, j, none⟩ = false := fun j => frozen_of_cells s2
 have f3 : ∀ j, (w3.setCell ⟨w.heap.size + 1 + 1, 5, none⟩ (.slice a5 m5 q5)).frozen? ⟨w.heap.size + 1, j, none⟩ = false := fun j => frozen_of_cells u1
 have c2 : ∀ j, w3.cell? ⟨w.heap.size + 1 + 1, j, none⟩ = (#[.bool m0, .slice a1 m1 q1, .slice a2 m2 q2, .slice a3 m3 q3, .slice a4 m4 q4, .slice none 0 0] : Array Value)[j]? := fun j => cell_of_cells s2
 have c3 : ∀ j, (w3.setCell ⟨w.heap.size + 1 + 1, 5, none⟩ (.slice a5 m5 q5)).cell? ⟨w.heap.size + 1 + 1, j, none⟩ = (#[.bool m0, .slice a1 m1 q1, .slice a2 m2 q2, .slice a3 m3 q3, .slice a4 m4 q4, .slice a5 m5 q5] : Array Value)[j]? := fun j => cell_of_cells u2
 have c4 : ∀ j, (w3.setCell ⟨w.heap.size + 1 + 1, 5, none⟩ (.slice a5 m5 q5)).cell? ⟨w.heap.size + 1, j, none⟩ = (#[.bool false, .slice none 0 0, .slice none 0 0, .slice none 0 0, .slice none 0 0, .slice none 0 0] : Array Value)[j]? := fun j => cell_of_cells u1
 have X1 : Hid _ := x1
 have K : Hid _ := And.intro (t5.mono (G := fun g => w.heap.size ≤ g) (fun g hg => by omega)) (And.intro (owns_mono (base' := w.heap.size) o5 (by omega)) B5)
 clear s1 s2 t3 B3 u2 g3 u1 t4 o4 B4 x1 g5 t5 o5 B5 o3 b3 r1 r2 t2 B2 hv zz hz1 hz2 d1
 go_wp2_with fail
 simp [bodyPost, results, Tryz.results26, go_sem, cell_of_cells X1.out]
 refine ⟨⟨⟨m0, .slice a1 m1 q1, .slice a2 m2 q2, .slice a3 m3 q3, .slice a4 m4 q4⟩, .slice a5 m5 q5⟩, by simp, ⟨K.out.1, ?_, ?_⟩, K.out.2.2⟩
 ·have := OwnE.of_owns (owns_mono (base' := 0) K.out.2.1 (Nat.zero_le _))
  rw [hm5]
  exact this
 ·intro g hg
  exact ((OwnE.of_owns K.out.2.1).lt g hg).1
end
section
open Go.RowKit

abbrev En := Int × Int × Int × Int × Int × Int
abbrev EL := List En
abbrev en0 : En := (0, 0, 0, 0, 0, 0)
def eT (l : EL) (i : Nat) : Int := (l.getD i en0).1
def eC (l : EL) (i : Nat) : Int := (l.getD i en0).2.1
def eS (l : EL) (i : Nat) : Int := (l.getD i en0).2.2.1
def eO (l : EL) (i : Nat) : Int := (l.getD i en0).2.2.2.1
def eK (l : EL) (i : Nat) : Int := (l.getD i en0).2.2.2.2.1
def eV (l : EL) (i : Nat) : Int := (l.getD i en0).2.2.2.2.2
theorem el_at (l : EL) (i : Nat) (h : i < l.length) : l[i] = (eT l i, eC l i, eS l i, eO l i, eK l i, eV l i) := by simp [eT, eC, eS, eO, eK, eV, List.getD, h]
theorem el_ext {l1 l2 : EL} (hl : l1.length = l2.length) (h : ∀ i, i < l1.length → eT l1 i = eT l2 i ∧ eC l1 i = eC l2 i ∧ eS l1 i = eS l2 i ∧ eO l1 i = eO l2 i ∧ eK l1 i = eK l2 i ∧ eV l1 i = eV l2 i) : l1 = l2 := by
 apply List.ext_getElem hl
 intro i h1 h2
 rw [el_at l1 i h1, el_at l2 i h2, (h i h1).1, (h i h1).2.1, (h i h1).2.2.1, (h i h1).2.2.2.1, (h i h1).2.2.2.2.1, (h i h1).2.2.2.2.2]
theorem take_succE (l : EL) (k : Nat) (hk : k < l.length) : l.take (k + 1) = l.take k ++ [(eT l k, eC l k, eS l k, eO l k, eK l k, eV l k)] := by
 rw [List.take_succ_eq_append_getElem hk, el_at l k hk]
def flatE (l : EL) : List Value := l.flatMap fun m => [.int .i64 m.1, .int .i64 m.2.1, .int .i64 m.2.2.1, .int .i64 m.2.2.2.1, .int .i64 m.2.2.2.2.1, .int .i64 m.2.2.2.2.2]
theorem flatE_cons (m : En) (l : EL) : flatE (m :: l) = .int .i64 m.1 :: .int .i64 m.2.1 :: .int .i64 m.2.2.1 :: .int .i64 m.2.2.2.1 :: .int .i64 m.2.2.2.2.1 :: .int .i64 m.2.2.2.2.2 :: flatE l := rfl
theorem flatE_append (l m : EL) : flatE (l ++ m) = flatE l ++ flatE m := by simp [flatE, List.flatMap_append]
theorem flatE_length (l : EL) : (flatE l).length = l.length * 6 := by
 induction l with
 | nil => rfl
 | cons a l ih => rw [flatE_cons]; simp only [List.length_cons]; omega
theorem flatE_at (l : EL) : ∀ i, i < l.length → (flatE l)[i * 6]? = some (.int .i64 (eT l i)) ∧ (flatE l)[i * 6 + 1]? = some (.int .i64 (eC l i)) ∧ (flatE l)[i * 6 + 2]? = some (.int .i64 (eS l i)) ∧ (flatE l)[i * 6 + 3]? = some (.int .i64 (eO l i)) ∧ (flatE l)[i * 6 + 4]? = some (.int .i64 (eK l i)) ∧ (flatE l)[i * 6 + 5]? = some (.int .i64 (eV l i)) := by
 induction l with
 | nil => intro i h; simp at h
 | cons a l ih =>
  intro i h
  cases i with
  | zero => simp [flatE_cons, eT, eC, eS, eO, eK, eV]
  | succ i =>
   have := ih i (by simpa using h)
   have e0 : (i + 1) * 6 = (i * 6) + 1 + 1 + 1 + 1 + 1 + 1 := by omega
   have e1 : (i + 1) * 6 + 1 = (i * 6 + 1) + 1 + 1 + 1 + 1 + 1 + 1 := by omega
   have e2 : (i + 1) * 6 + 2 = (i * 6 + 2) + 1 + 1 + 1 + 1 + 1 + 1 := by omega
   have e3 : (i + 1) * 6 + 3 = (i * 6 + 3) + 1 + 1 + 1 + 1 + 1 + 1 := by omega
   have e4 : (i + 1) * 6 + 4 = (i * 6 + 4) + 1 + 1 + 1 + 1 + 1 + 1 := by omega
   have e5 : (i + 1) * 6 + 5 = (i * 6 + 5) + 1 + 1 + 1 + 1 + 1 + 1 := by omega
   rw [e5, e4, e3, e2, e1, e0, flatE_cons]
   simpa [eT, eC, eS, eO, eK, eV] using this
theorem flatE_set (l : EL) (x0 x1 x2 x3 x4 x5 : Int) : ∀ i, i < l.length → ((((((flatE l).set (i * 6) (.int .i64 x0)).set (i * 6 + 1) (.int .i64 x1)).set (i * 6 + 2) (.int .i64 x2)).set (i * 6 + 3) (.int .i64 x3)).set (i * 6 + 4) (.int .i64 x4)).set (i * 6 + 5) (.int .i64 x5) = flatE (l.set i (x0, x1, x2, x3, x4, x5)) := by
 induction l with
 | nil => intro i h; simp at h
 | cons p l ih =>
  intro i h
  cases i with
  | zero => simp [flatE_cons]
  | succ i =>
   have := ih i (by simpa using h)
   rw [flatE_cons, List.set_cons_succ, flatE_cons, show (i + 1) * 6 + 5 = (i * 6 + 5) + 1 + 1 + 1 + 1 + 1 + 1 by omega, show (i + 1) * 6 + 4 = (i * 6 + 4) + 1 + 1 + 1 + 1 + 1 + 1 by omega, show (i + 1) * 6 + 3 = (i * 6 + 3) + 1 + 1 + 1 + 1 + 1 + 1 by omega, show (i + 1) * 6 + 2 = (i * 6 + 2) + 1 + 1 + 1 + 1 + 1 + 1 by omega, show (i + 1) * 6 + 1 = (i * 6 + 1) + 1 + 1 + 1 + 1 + 1 + 1 by omega, show (i + 1) * 6 = (i * 6) + 1 + 1 + 1 + 1 + 1 + 1 by omega]
   simp only [List.set_cons_succ]
   rw [this]
theorem flatE_one (l : EL) : ∀ y ∈ flatE l, y.oneCell' = true := by
 intro y hy
 simp only [flatE, List.mem_flatMap, List.mem_cons, List.not_mem_nil, or_false] at hy
 obtain ⟨m, _, h⟩ := hy
 rcases h with rfl | rfl | rfl | rfl | rfl | rfl <;> rfl
theorem Row.ents {w : World} {v : Value} {l : EL} (h : Row w v l.length (flatE l)) :
  ∃ (a : Option Addr) (b off cap : Nat), v = .slice a l.length cap ∧ l.length ≤ cap ∧ cap ≤ maxLen ∧ (0 < l.length → a = some ⟨b, off, none⟩) ∧
   (∀ i, i < l.length → w.cell? ⟨b, off + i * 6, none⟩ = some (.int .i64 (eT l i))) ∧ (∀ i, i < l.length → w.cell? ⟨b, off + i * 6 + 1, none⟩ = some (.int .i64 (eC l i))) ∧ (∀ i, i < l.length → w.cell? ⟨b, off + i * 6 + 2, none⟩ = some (.int .i64 (eS l i))) ∧ (∀ i, i < l.length → w.cell? ⟨b, off + i * 6 + 3, none⟩ = some (.int .i64 (eO l i))) ∧ (∀ i, i < l.length → w.cell? ⟨b, off + i * 6 + 4, none⟩ = some (.int .i64 (eK l i))) ∧ (∀ i, i < l.length → w.cell? ⟨b, off + i * 6 + 5, none⟩ = some (.int .i64 (eV l i))) := by
 obtain ⟨a, b, off, cap, h1, h2, h3, h4, h5, _⟩ := h
 exact ⟨a, b, off, cap, h1, h2, h3, h4, fun i hi => h5 _ _ (flatE_at l i hi).1, fun i hi => h5 _ _ (flatE_at l i hi).2.1, fun i hi => h5 _ _ (flatE_at l i hi).2.2.1, fun i hi => h5 _ _ (flatE_at l i hi).2.2.2.1, fun i hi => h5 _ _ (flatE_at l i hi).2.2.2.2.1, fun i hi => h5 _ _ (flatE_at l i hi).2.2.2.2.2⟩

theorem szEntryS_any (a : Option Addr) (n cap : Nat) (left : Int) (hn : n ≤ maxLen) (hl : 0 ≤ left) (hl2 : left ≤ 1048576) (w : World) :
  Calls Tryz.prog 53 #[.slice a n cap, .int .i64 left] w fun e w' => e = .returned (.int .i64 (if (n : Int) ≤ left then left - n else -1)) ∧ w' = w := by
 unfold maxLen at hn
 by_cases h : (n : Int) ≤ left
 ·go_enter Tryz.func53, Tryz.ntmps53
  go_wp2
  go_ret
  exact ⟨rfl, rfl⟩
 ·go_enter Tryz.func53, Tryz.ntmps53
  go_wp2
  go_ret
  exact ⟨rfl, rfl⟩

abbrev enV (x0 x1 x2 x3 x4 x5 : Int) : Value := .agg #[.int .i64 x0, .int .i64 x1, .int .i64 x2, .int .i64 x3, .int .i64 x4, .int .i64 x5]
def eqEnB (p q : En) : Bool := decide (p = q)
theorem ne_of_eqEnB {l1 l2 : EL} {k : Nat} (h : eqEnB (eT l1 k, eC l1 k, eS l1 k, eO l1 k, eK l1 k, eV l1 k) (eT l2 k, eC l2 k, eS l2 k, eO l2 k, eK l2 k, eV l2 k) = false) : l1 ≠ l2 := by
 intro e; subst e; simp [eqEnB] at h

theorem eqCmd_any (c s o k v c2 s2 o2 k2 v2 : Int) (w : World) :
  Calls Tryz.prog 120 #[.agg #[.int .i64 c, .int .i64 s, .int .i64 o, .int .i64 k, .int .i64 v], .agg #[.int .i64 c2, .int .i64 s2, .int .i64 o2, .int .i64 k2, .int .i64 v2]] w fun r w' => r = .returned (.bool (decide ((c, s, o, k, v) = (c2, s2, o2, k2, v2)))) ∧ Below w.heap.size w w' := by
 have B2 : Hid (Below w.heap.size w ((w.alloc (.cells #[.int .i64 c, .int .i64 s, .int .i64 o, .int .i64 k, .int .i64 v] 111)).alloc (.cells #[.int .i64 c2, .int .i64 s2, .int .i64 o2, .int .i64 k2, .int .i64 v2] 111))) := Below.and (bel_nw _ _) (bel_nw _ _)
 by_cases hc : c = c2
 ·by_cases hs : s = s2
  ·subst hc hs
   go_enter Tryz.func120, Tryz.ntmps120
   go_wp2_with fail
   generalize (w.alloc (.cells #[.int .i64 c, .int .i64 s, .int .i64 o, .int .i64 k, .int .i64 v] 111)).alloc (.cells #[.int .i64 c, .int .i64 s, .int .i64 o2, .int .i64 k2, .int .i64 v2] 111) = W at *
   refine (eqMsg_any _ _ _ _ _ _ _).mono ?_
   rintro e w1 ⟨rfl, b1⟩
   have B3 : Hid (Below w.heap.size w w1) := Below.and B2.out b1
   clear b1
   have E : Hid (decide ((c, s, o, k, v) = (c, s, o2, k2, v2)) = eqMsgB o k v o2 k2 v2) := by show _ = _; simp [eqMsgB]
   generalize hq : eqMsgB o k v o2 k2 v2 = q
   cases q
   ·have HQ : Hid _ := hq
    clear hq
    go_wp2
    go_ret
    exact ⟨ret_bool (E.out.trans HQ.out).symm, B3.out⟩
   ·have HQ : Hid _ := hq
    clear hq
    go_wp2
    go_ret
    exact ⟨ret_bool (E.out.trans HQ.out).symm, B3.out⟩
  ·have hs' : (s != s2) = true := by simpa using hs
   have E : Hid (decide ((c, s, o, k, v) = (c2, s2, o2, k2, v2)) = false) := by show _ = _; simp [hs]
   rw [E.out]
   subst hc
   go_enter Tryz.func120, Tryz.ntmps120
   go_wp2_with fail
   go_ret
   exact ⟨rfl, B2.out⟩
 ·have hc' : (c != c2) = true := by simpa using hc
  have E : Hid (decide ((c, s, o, k, v) = (c2, s2, o2, k2, v2)) = false) := by show _ = _; simp [hc]
  rw [E.out]
  go_enter Tryz.func120, Tryz.ntmps120
  go_wp2_with fail
  go_ret
  exact ⟨rfl, B2.out⟩

theorem eqEntry_any (t c s o k v t2 c2 s2 o2 k2 v2 : Int) (w : World) :
  Calls Tryz.prog 82 #[enV t c s o k v, enV t2 c2 s2 o2 k2 v2] w fun r w' => r = .returned (.bool (eqEnB (t, c, s, o, k, v) (t2, c2, s2, o2, k2, v2))) ∧ Below w.heap.size w w' := by
 have B2 : Hid (Below w.heap.size w ((w.alloc (.cells #[.int .i64 t, .int .i64 c, .int .i64 s, .int .i64 o, .int .i64 k, .int .i64 v] 113)).alloc (.cells #[.int .i64 t2, .int .i64 c2, .int .i64 s2, .int .i64 o2, .int .i64 k2, .int .i64 v2] 113))) := Below.and (bel_nw _ _) (bel_nw _ _)
 by_cases hc : t = t2
 ·subst hc
  go_enter Tryz.func82, Tryz.ntmps82
  go_wp2_with fail
  generalize (w.alloc (.cells #[.int .i64 t, .int .i64 c, .int .i64 s, .int .i64 o, .int .i64 k, .int .i64 v] 113)).alloc (.cells #[.int .i64 t, .int .i64 c2, .int .i64 s2, .int .i64 o2, .int .i64 k2, .int .i64 v2] 113) = W at *
  refine (eqCmd_any _ _ _ _ _ _ _ _ _ _ _).mono ?_
  rintro e w1 ⟨rfl, b1⟩
  have B3 : Hid (Below w.heap.size w w1) := Below.and B2.out b1
  clear b1
  have E : Hid (eqEnB (t, c, s, o, k, v) (t, c2, s2, o2, k2, v2) = decide ((c, s, o, k, v) = (c2, s2, o2, k2, v2))) := by show _ = _; simp [eqEnB]
  generalize hq : decide ((c, s, o, k, v) = (c2, s2, o2, k2, v2)) = q
  cases q
  ·have HQ : Hid (decide ((c, s, o, k, v) = (c2, s2, o2, k2, v2)) = false) := hq
   clear hq
   go_wp2
   go_ret
   exact ⟨ret_bool (E.out.trans HQ.out).symm, B3.out⟩
  ·have HQ : Hid (decide ((c, s, o, k, v) = (c2, s2, o2, k2, v2)) = true) := hq
   clear hq
   go_wp2
   go_ret
   exact ⟨ret_bool (E.out.trans HQ.out).symm, B3.out⟩
 ·have hc' : (t != t2) = true := by simpa using hc
  have E : Hid (eqEnB (t, c, s, o, k, v) (t2, c2, s2, o2, k2, v2) = false) := by show _ = _; simp [eqEnB, hc]
  rw [E.out]
  go_enter Tryz.func82, Tryz.ntmps82
  go_wp2_with fail
  go_ret
  exact ⟨rfl, B2.out⟩

theorem eqEntryS_any (v1 v2 : Value) (l1 l2 : EL) (w : World) (h1 : Row w v1 l1.length (flatE l1)) (h2 : Row w v2 l2.length (flatE l2)) :
  Calls Tryz.prog 50 #[v1, v2] w fun e w' => e = .returned (.bool (decide (l1 = l2))) ∧ Below w.heap.size w w' := by
 obtain ⟨a, b, off, cap, rfl, hcap, hmax, ha, h10, h11, h12, h13, h14, h15⟩ := h1.ents
 obtain ⟨a2, b2, off2, cap2, rfl, hcap2, hmax2, ha2, g10, g11, g12, g13, g14, g15⟩ := h2.ents
 unfold maxLen at hmax hmax2
 by_cases hl : l1.length = l2.length
 ·have hne : ((l1.length : Int) != (l2.length : Int)) = false := by rw [bne_eq_false_iff_eq]; omega
  have HL : Hid (l1.length = l2.length) := hl
  have hl2 : l1.length ≤ l2.length := by omega
  clear hl
  go_enter Tryz.func50, Tryz.ntmps50
  go_wp2
  go_loopw [5] (fun i wr => ∃ k : Nat, k ≤ l1.length ∧ i = .int .i64 k ∧ (∀ i, i < k → eT l1 i = eT l2 i ∧ eC l1 i = eC l2 i ∧ eS l1 i = eS l2 i ∧ eO l1 i = eO l2 i ∧ eK l1 i = eK l2 i ∧ eV l1 i = eV l2 i) ∧ Below w.heap.size w wr)
   (fun i _ => l1.length - (intOf i).toNat)
  case atStart => exact ⟨0, Nat.zero_le _, rfl, fun i hi => absurd hi (Nat.not_lt_zero _), Below.refl _ _⟩
  case round =>
   obtain ⟨k, hkl, rfl, hall, hb⟩ := hrel
   have ALL : Hid (∀ i, i < k → eT l1 i = eT l2 i ∧ eC l1 i = eC l2 i ∧ eS l1 i = eS l2 i ∧ eO l1 i = eO l2 i ∧ eK l1 i = eK l2 i ∧ eV l1 i = eV l2 i) := hall
   clear hall
   by_cases hlt : k < l1.length
   ·have hal := ha (by omega)
    subst hal
    have hal2 := ha2 (by omega)
    subst hal2
    have hlt2 : k < l2.length := by omega
    have d0 := (hb.cell (by exact cell_lt (h10 k hlt))).trans (h10 k hlt)
    have f0 := (hb.cell (by exact cell_lt (g10 k hlt2))).trans (g10 k hlt2)
    have d1 := (hb.cell (by exact cell_lt (h11 k hlt))).trans (h11 k hlt)
    have f1 := (hb.cell (by exact cell_lt (g11 k hlt2))).trans (g11 k hlt2)
    have d2 := (hb.cell (by exact cell_lt (h12 k hlt))).trans (h12 k hlt)
    have f2 := (hb.cell (by exact cell_lt (g12 k hlt2))).trans (g12 k hlt2)
    have d3 := (hb.cell (by exact cell_lt (h13 k hlt))).trans (h13 k hlt)
    have f3 := (hb.cell (by exact cell_lt (g13 k hlt2))).trans (g13 k hlt2)
    have d4 := (hb.cell (by exact cell_lt (h14 k hlt))).trans (h14 k hlt)
    have f4 := (hb.cell (by exact cell_lt (g14 k hlt2))).trans (g14 k hlt2)
    have d5 := (hb.cell (by exact cell_lt (h15 k hlt))).trans (h15 k hlt)
    have f5 := (hb.cell (by exact cell_lt (g15 k hlt2))).trans (g15 k hlt2)
    clear h10 h11 h12 h13 h14 h15 g10 g11 g12 g13 g14 g15 ha ha2
    go_wp2_with fail
    cases hq : eqEnB (eT l1 k, eC l1 k, eS l1 k, eO l1 k, eK l1 k, eV l1 k) (eT l2 k, eC l2 k, eS l2 k, eO l2 k, eK l2 k, eV l2 k)
    ·have NE : Hid (decide (l1 = l2) = false) := decide_eq_false (ne_of_eqEnB hq)
     go_region_with (go_at_call 82; refine (eqEntry_any _ _ _ _ _ _ _ _ _ _ _ _ _).mono ?_; rintro e w1 ⟨rfl, hb1⟩)
     all_goals
      go_wp2
      go_ret
      exact ⟨ret_bool NE.out.symm, hb.drew.trans (hb1.mono hb.size)⟩
    ·have EQ : Hid (eT l1 k = eT l2 k ∧ eC l1 k = eC l2 k ∧ eS l1 k = eS l2 k ∧ eO l1 k = eO l2 k ∧ eK l1 k = eK l2 k ∧ eV l1 k = eV l2 k) := by show _ ∧ _; simpa [eqEnB] using hq
     go_region_with (go_at_call 82; refine (eqEntry_any _ _ _ _ _ _ _ _ _ _ _ _ _).mono ?_; rintro e w1 ⟨rfl, hb1⟩)
     all_goals
      go_wp2
      go_roundw
      case rel => exact ⟨k + 1, by omega, by go_num, fun i hi => if h : i < k then ALL.out i h else by rw [show i = k by omega]; exact EQ.out, hb.drew.trans (hb1.mono hb.size)⟩
      case measure => simp [intOf]; omega
   ·go_wp2
    go_ret
    refine ⟨ret_bool ?_, hb⟩
    symm
    rw [decide_eq_true_iff]
    exact el_ext HL.out (fun i hi => ALL.out i (by omega))
 ·have hne : ((l1.length : Int) != (l2.length : Int)) = true := by rw [bne_iff_ne]; omega
  go_enter Tryz.func50, Tryz.ntmps50
  go_wp2
  go_ret
  refine ⟨ret_bool ?_, Below.refl _ _⟩
  symm
  rw [decide_eq_false_iff_not]
  intro h; exact hl (by rw [h])

theorem Tryz.info113 : (Tryz.prog.info? 113).map (fun i => (i.zero, i.size, i.bytes)) = some (some (.agg #[.int .i64 0, .int .i64 0, .int .i64 0, .int .i64 0, .int .i64 0, .int .i64 0]), 6, 48) := by kernel_rfl

def filledE (l : EL) (k : Nat) : EL := l.take k ++ List.replicate (l.length - k) en0
theorem filledE_length (l : EL) (k : Nat) (hk : k ≤ l.length) : (filledE l k).length = l.length := by simp [filledE]; omega
theorem filledE_full (l : EL) : filledE l l.length = l := by simp [filledE]
theorem filledE_step (l : EL) (k : Nat) (hk : k < l.length) : (filledE l k).set k (eT l k, eC l k, eS l k, eO l k, eK l k, eV l k) = filledE l (k + 1) := by
 obtain ⟨m, hm⟩ : ∃ m, l.length - k = m + 1 := ⟨l.length - k - 1, by omega⟩
 rw [filledE, filledE, take_succE l k hk, hm, show l.length - (k + 1) = m by omega, List.replicate_succ, List.set_append_right _ _ (by simp; omega)]
 simp [show min k l.length = k by omega]
theorem flatE_zero (n : Nat) : flatE (List.replicate n en0) = List.replicate (n * 6) (.int .i64 0) := by
 induction n with
 | zero => rfl
 | succ n ih => rw [List.replicate_succ, flatE_cons, ih, show (n + 1) * 6 = n * 6 + 1 + 1 + 1 + 1 + 1 + 1 by omega]; simp only [List.replicate_succ]
theorem madeCells_ent (n : Nat) : (madeCells #[.int .i64 0, .int .i64 0, .int .i64 0, .int .i64 0, .int .i64 0, .int .i64 0] (n * 6)).toList = flatE (List.replicate n en0) := by
 rw [flatE_zero]
 exact madeCells_all _ _ (by decide) (fun i hi => by rcases (show i = 0 ∨ i = 1 ∨ i = 2 ∨ i = 3 ∨ i = 4 ∨ i = 5 by have : i < 6 := hi; omega) with rfl | rfl | rfl | rfl | rfl | rfl <;> rfl) _
end
end Go.Proofs.YtmdajbbpigbdcaaGreat

namespace Go.Proofs.YtmdajbbpigbdcaaGreat
end Go.Proofs.YtmdajbbpigbdcaaGreat
