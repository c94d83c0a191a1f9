/-
  Contracts of the laws' own functions that copy a tree, of any height.
  Machines in memory: the laws' own functions on them.
  Entries of a log as rows of cells; the laws' own functions on them.
  The program's MsgOk: with this folder's texts it stands in Msg.
  Commands: toCmd, CmdOk of both sides, the walk of the law FnExactCmdOk.
-/
import Derived.Test.YtkcaelfkcepdkaaGreatOfSend3
import Derived.Test.YtkcaelfkcepdkaaGreatOfSend2
import Derived.Deep.RegionHeld3
import Derived.Test.YtkcaelfkcepdkaaGreatOfSend1
namespace Go.Proofs.YtkcaelfkcepdkaaGreat
set_option maxRecDepth 100000
set_option maxHeartbeats 8000000
section
open Go.RowKit

theorem TreeAt.shape : ∀ {n : Nat} {w : World} {x : TV} {T : Tr}, TreeAt n w x T → ∃ (a1 a2 a3 a4 : Option Addr) (c1 c2 c3 c4 : Nat), x = ⟨T.leaf, .slice a1 T.pairs.length c1, .slice a2 T.cuts.length c2, .slice a3 T.kids.length c3, .slice a4 T.buf.length c4⟩
 | 0, _, _, _, h => h.elim
 | _ + 1, _, ⟨lf, p, c, k, b⟩, T, ⟨h1, h2, h3, h4, xs, h5, h6, h7⟩ => by
  simp only at h1 h2 h3 h4 h6
  obtain ⟨a1, c1, rfl, _⟩ := h2.len
  obtain ⟨a2, c2, rfl, _⟩ := h3.len
  obtain ⟨a4, c4, rfl, _⟩ := h4.len
  obtain ⟨a3, c3, rfl, _⟩ := h6.len
  subst h1
  exact ⟨a1, a2, a3, a4, c1, c2, c3, c4, by rw [h5]⟩

structure OutAt (u : World) (B : Nat) (A Z O : Array Value) : Prop where
 h0 : u.heap[B]? = some (.cells A 54 (0, 0))
 h1 : u.heap[B + 1]? = some (.cells Z 69 (0, 0))
 h2 : u.heap[B + 1 + 1]? = some (.cells O 69 (0, 0))
theorem OutAt.size {u : World} {B : Nat} {A Z O : Array Value} (h : OutAt u B A Z O) : B + 3 ≤ u.heap.size := by
 have := (Array.getElem?_eq_some_iff.1 h.h2).1
 omega
theorem OutAt.step {u w' : World} {B : Nat} {A Z O : Array Value} (h : OutAt u B A Z O) (hb : Below u.heap.size u w') : OutAt w' B A Z O := by
 have hs := h.size
 exact ⟨(hb.block _ (by omega)).trans h.h0, (hb.block _ (by omega)).trans h.h1, (hb.block _ (by omega)).trans h.h2⟩
theorem OutAt.set {u : World} {B : Nat} {A Z O : Array Value} (h : OutAt u B A Z O) (j : Nat) (v : Value) : OutAt (u.setCell ⟨B + 1 + 1, j, none⟩ v) B A Z (O.setIfInBounds j v) := by
 refine ⟨?_, ?_, heap_setCell_same u (B + 1 + 1) j O 69 v h.h2⟩
 ·rw [Below.heap_setCell _ _ _ _ (by show B ≠ B + 1 + 1; omega)]; exact h.h0
 ·rw [Below.heap_setCell _ _ _ _ (by show B + 1 ≠ B + 1 + 1; omega)]; exact h.h1
theorem OutAt.cells {u : World} {B : Nat} {A Z O : Array Value} (h : OutAt u B A Z O) : (∀ j, u.cell? ⟨B, j, none⟩ = A[j]?) ∧ (∀ j, u.cell? ⟨B + 1, j, none⟩ = Z[j]?) ∧ (∀ j, u.cell? ⟨B + 1 + 1, j, none⟩ = O[j]?) ∧ (∀ j, u.frozen? ⟨B + 1, j, none⟩ = false) ∧ (∀ j, u.frozen? ⟨B + 1 + 1, j, none⟩ = false) :=
 ⟨fun j => cell_of_row u B j A 54 (0, 0) h.h0, fun j => cell_of_row u (B + 1) j Z 69 (0, 0) h.h1, fun j => cell_of_row u (B + 1 + 1) j O 69 (0, 0) h.h2, fun j => frozen_of_row u (B + 1) j Z 69 h.h1, fun j => frozen_of_row u (B + 1 + 1) j O 69 h.h2⟩
theorem OutAt.start (w : World) (A Z O : Array Value) : OutAt (((w.alloc (.cells A 54)).alloc (.cells Z 69)).alloc (.cells O 69)) w.heap.size A Z O := by
 have e : ∀ (x : World) (o : Obj), (x.alloc o).heap.size = x.heap.size + 1 := fun x o => by simp
 have k1 : ∀ (x : World) (o : Obj) (g : Nat), g < x.heap.size → (x.alloc o).heap[g]? = x.heap[g]? := fun x o g hg => ((Below.refl x.heap.size x).alloc (Nat.le_refl _) o).block g hg
 refine ⟨?_, ?_, ?_⟩
 ·rw [k1 _ _ _ (by rw [e, e]; omega), k1 _ _ _ (by rw [e]; omega)]; exact heap_alloc_new w _
 ·rw [k1 _ _ _ (by rw [e, e]; omega), ← e w (.cells A 54)]; exact heap_alloc_new _ _
 ·rw [show w.heap.size + 1 + 1 = ((w.alloc (.cells A 54)).alloc (.cells Z 69)).heap.size by rw [e, e]]; exact heap_alloc_new _ _
end
section
open Go.RowKit

structure MacV where
 x : TV
 v : Value
abbrev MacV.arr (m : MacV) : Array Value := #[.bool m.x.lf, m.x.p, m.x.c, m.x.k, m.x.b, m.v]
abbrev MacV.val (m : MacV) : Value := .agg #[.bool m.x.lf, m.x.p, m.x.c, m.x.k, m.x.b, m.v]
def MacAt (n : Nat) (w : World) (m : MacV) (T : Tr) (l : DL) : Prop := TreeAt n w m.x T ∧ Row w m.v l.length (flatD l)
theorem MacAt.below {n : Nat} {w w' : World} {m : MacV} {T : Tr} {l : DL} (h : MacAt n w m T l) (hb : Below w.heap.size w w') : MacAt n w' m T l := ⟨h.1.below hb, h.2.below hb⟩
theorem szMachine_any (n : Nat) (m : MacV) (T : Tr) (l : DL) (left : Int) (w : World) (h : MacAt n w m T l) (h0 : 0 ≤ left) (h1 : left ≤ 1048576) :
  Calls Tryz.prog 56 #[m.val, .int .i64 left] w fun e w' => e = .returned (.int .i64 (leftOf left (sizeT n T + l.length))) ∧ Below w.heap.size w w' := by
 obtain ⟨a5, c5, hv, hle⟩ := h.2.len
 obtain ⟨⟨lf, p, c, k, b⟩, v⟩ := m
 simp only at hv
 subst hv
 have H : Hid _ := h.1
 have N1 : Hid (MBox 56 (w.alloc (.cells #[.bool lf, p, c, k, b, .slice a5 l.length c5] 56)) w.heap.size #[.bool lf, p, c, k, b, .slice a5 l.length c5]) := MBox.start _ w _
 have B1 : Hid (Below w.heap.size w (w.alloc (.cells #[.bool lf, p, c, k, b, .slice a5 l.length c5] 56))) := bel_nw _ _
 have S1 : Hid (∀ w0, Below w.heap.size w w0 → Calls Tryz.prog 96 #[.agg #[.bool lf, p, c, k, b], .int .i64 left] w0 fun e w' => e = .returned (.int .i64 (leftOf left (sizeT n T))) ∧ Below w0.heap.size w0 w') := fun w0 hb => szTree_any n ⟨lf, p, c, k, b⟩ T left w0 (H.out.below hb) h0 h1
 have c1 := N1.out.cells
 clear h H
 show Calls Tryz.prog 56 #[.agg #[.bool lf, p, c, k, b, .slice a5 l.length c5], .int .i64 left] w _
 by_cases hs : (sizeT n T : Int) ≤ left
 ·have hs' : leftOf left (sizeT n T) = left - sizeT n T := leftOf_yes hs
  have hs2 : Hid (leftOf left (sizeT n T + l.length) = if (l.length : Int) ≤ left - sizeT n T then left - sizeT n T - l.length else -1) := by
   show _ = _
   unfold leftOf
   split <;> split <;> omega
  rw [hs'] at S1
  clear hs'
  rw [hs2.out]
  generalize sizeT n T = sz at *
  go_enter Tryz.func56, Tryz.ntmps56
  go_wp2_with fail
  generalize w.alloc (.cells #[.bool lf, p, c, k, b, .slice a5 l.length c5] 56) = W at *
  refine Calls.mono (S1.out _ B1.out) ?_
  rintro e w1 ⟨rfl, b1⟩
  have B3 : Hid (Below w.heap.size w w1) := Below.and B1.out b1
  have N3 : Hid (MBox 56 w1 w.heap.size #[.bool lf, p, c, k, b, .slice a5 l.length c5]) := N1.out.step b1
  clear c1 N1 B1 b1
  have c1 := N3.out.cells
  have hnn : ¬ (left - (sz : Int) < 0) := by omega
  go_wp2_with fail
  refine Calls.mono (szDoneS_any a5 l.length c5 _ hle (by omega) (by omega) _) ?_
  rintro e w2 ⟨rfl, rfl⟩
  by_cases hd : (l.length : Int) ≤ left - sz
  ·rw [if_pos hd]
   have hn2 : ¬ (left - (sz : Int) - (l.length : Int) < 0) := by omega
   go_wp2
   go_ret
   exact ⟨rfl, B3.out⟩
  ·rw [if_neg hd]
   go_wp2
   go_ret
   exact ⟨rfl, B3.out⟩
 ·have hs' : leftOf left (sizeT n T) = -1 := leftOf_no hs
  have hs2 : Hid (leftOf left (sizeT n T + l.length) = -1) := leftOf_no (by omega)
  rw [hs'] at S1
  rw [hs2.out]
  go_enter Tryz.func56, Tryz.ntmps56
  go_wp2_with fail
  generalize w.alloc (.cells #[.bool lf, p, c, k, b, .slice a5 l.length c5] 56) = W at *
  refine Calls.mono (S1.out _ B1.out) ?_
  rintro e w1 ⟨rfl, b1⟩
  go_wp2
  go_ret
  exact ⟨rfl, Below.and B1.out b1⟩

theorem eqMachine_any (n : Nat) (m m2 : MacV) (T : Tr) (l : DL) (w : World) (h : MacAt n w m T l) (h2 : MacAt n w m2 T l) :
  Calls Tryz.prog 68 #[m.val, m2.val] w fun e w' => e = .returned (.bool true) ∧ Below w.heap.size w w' := by
 obtain ⟨⟨lf, p, c, k, b⟩, v⟩ := m
 obtain ⟨⟨lf2, p2, c2, k2, b2⟩, v2⟩ := m2
 have H : Hid _ := And.intro h h2
 have N1 : Hid (MBox 71 (w.alloc (.cells #[.bool lf, p, c, k, b, v] 71)) w.heap.size #[.bool lf, p, c, k, b, v]) := MBox.start _ w _
 have N2 : Hid (MBox 71 ((w.alloc (.cells #[.bool lf, p, c, k, b, v] 71)).alloc (.cells #[.bool lf2, p2, c2, k2, b2, v2] 71)) (w.alloc (.cells #[.bool lf, p, c, k, b, v] 71)).heap.size #[.bool lf2, p2, c2, k2, b2, v2]) := MBox.start _ _ _
 have N1b : Hid (MBox 71 ((w.alloc (.cells #[.bool lf, p, c, k, b, v] 71)).alloc (.cells #[.bool lf2, p2, c2, k2, b2, v2] 71)) w.heap.size #[.bool lf, p, c, k, b, v]) := N1.out.step (bel_nw _ _)
 have B2 : Hid (Below w.heap.size w ((w.alloc (.cells #[.bool lf, p, c, k, b, v] 71)).alloc (.cells #[.bool lf2, p2, c2, k2, b2, v2] 71))) := Below.and (bel_nw _ _) (bel_nw _ _)
 have e1 : (w.alloc (.cells #[.bool lf, p, c, k, b, v] 71)).heap.size = w.heap.size + 1 := by simp
 rw [e1] at N2
 have c1 := N1b.out.cells
 have d1 := N2.out.cells
 clear N1 e1 h h2
 show Calls Tryz.prog 68 #[.agg #[.bool lf, p, c, k, b, v], .agg #[.bool lf2, p2, c2, k2, b2, v2]] w _
 go_enter Tryz.func68, Tryz.ntmps68
 go_wp2_with fail
 generalize (w.alloc (.cells #[.bool lf, p, c, k, b, v] 71)).alloc (.cells #[.bool lf2, p2, c2, k2, b2, v2] 71) = W at *
 refine Calls.mono (eqTree_any n ⟨lf, p, c, k, b⟩ ⟨lf2, p2, c2, k2, b2⟩ T W (H.out.1.1.below B2.out) (H.out.2.1.below B2.out)) ?_
 rintro e w1 ⟨rfl, b1⟩
 have B3 : Hid (Below w.heap.size w w1) := Below.and B2.out b1
 have N3 : Hid (MBox 71 w1 w.heap.size #[.bool lf, p, c, k, b, v]) := N1b.out.step b1
 have N4 : Hid (MBox 71 w1 (w.heap.size + 1) #[.bool lf2, p2, c2, k2, b2, v2]) := N2.out.step b1
 clear c1 d1 N1b N2 B2 b1
 have c1 := N3.out.cells
 have d1 := N4.out.cells
 go_wp2_with fail
 refine Calls.mono (eqDoneS_any v v2 l l w1 (H.out.1.2.below B3.out) (H.out.2.2.below B3.out)) ?_
 rintro e w2 ⟨rfl, b2⟩
 rw [decide_eq_true rfl]
 go_wp2
 go_ret
 exact ⟨rfl, Below.and B3.out b2⟩
end
section
open Go.RowKit

abbrev En := Int × Int × Int × Int × Int × Int
abbrev EL := List En
abbrev en0 : En := (0, 0, 0, 0, 0, 0)
def eT (l : EL) (i : Nat) : Int := (l.getD i en0).1
def eC (l : EL) (i : Nat) : Int := (l.getD i en0).2.1
def eS (l : EL) (i : Nat) : Int := (l.getD i en0).2.2.1
def eO (l : EL) (i : Nat) : Int := (l.getD i en0).2.2.2.1
def eK (l : EL) (i : Nat) : Int := (l.getD i en0).2.2.2.2.1
def eV (l : EL) (i : Nat) : Int := (l.getD i en0).2.2.2.2.2
theorem el_at (l : EL) (i : Nat) (h : i < l.length) : l[i] = (eT l i, eC l i, eS l i, eO l i, eK l i, eV l i) := by simp [eT, eC, eS, eO, eK, eV, List.getD, h]
theorem el_ext {l1 l2 : EL} (hl : l1.length = l2.length) (h : ∀ i, i < l1.length → eT l1 i = eT l2 i ∧ eC l1 i = eC l2 i ∧ eS l1 i = eS l2 i ∧ eO l1 i = eO l2 i ∧ eK l1 i = eK l2 i ∧ eV l1 i = eV l2 i) : l1 = l2 := by
 apply List.ext_getElem hl
 intro i h1 h2
 rw [el_at l1 i h1, el_at l2 i h2, (h i h1).1, (h i h1).2.1, (h i h1).2.2.1, (h i h1).2.2.2.1, (h i h1).2.2.2.2.1, (h i h1).2.2.2.2.2]
theorem take_succE (l : EL) (k : Nat) (hk : k < l.length) : l.take (k + 1) = l.take k ++ [(eT l k, eC l k, eS l k, eO l k, eK l k, eV l k)] := by
 rw [List.take_succ_eq_append_getElem hk, el_at l k hk]
def flatE (l : EL) : List Value := l.flatMap fun m => [.int .i64 m.1, .int .i64 m.2.1, .int .i64 m.2.2.1, .int .i64 m.2.2.2.1, .int .i64 m.2.2.2.2.1, .int .i64 m.2.2.2.2.2]
theorem flatE_cons (m : En) (l : EL) : flatE (m :: l) = .int .i64 m.1 :: .int .i64 m.2.1 :: .int .i64 m.2.2.1 :: .int .i64 m.2.2.2.1 :: .int .i64 m.2.2.2.2.1 :: .int .i64 m.2.2.2.2.2 :: flatE l := rfl
theorem flatE_append (l m : EL) : flatE (l ++ m) = flatE l ++ flatE m := by simp [flatE, List.flatMap_append]
theorem flatE_length (l : EL) : (flatE l).length = l.length * 6 := by
 induction l with
 | nil => rfl
 | cons a l ih => rw [flatE_cons]; simp only [List.length_cons]; omega
theorem flatE_at (l : EL) : ∀ i, i < l.length → (flatE l)[i * 6]? = some (.int .i64 (eT l i)) ∧ (flatE l)[i * 6 + 1]? = some (.int .i64 (eC l i)) ∧ (flatE l)[i * 6 + 2]? = some (.int .i64 (eS l i)) ∧ (flatE l)[i * 6 + 3]? = some (.int .i64 (eO l i)) ∧ (flatE l)[i * 6 + 4]? = some (.int .i64 (eK l i)) ∧ (flatE l)[i * 6 + 5]? = some (.int .i64 (eV l i)) := by
 induction l with
 | nil => intro i h; simp at h
 | cons a l ih =>
  intro i h
  cases i with
  | zero => simp [flatE_cons, eT, eC, eS, eO, eK, eV]
  | succ i =>
   have := ih i (by simpa using h)
   have e0 : (i + 1) * 6 = (i * 6) + 1 + 1 + 1 + 1 + 1 + 1 := by omega
   have e1 : (i + 1) * 6 + 1 = (i * 6 + 1) + 1 + 1 + 1 + 1 + 1 + 1 := by omega
   have e2 : (i + 1) * 6 + 2 = (i * 6 + 2) + 1 + 1 + 1 + 1 + 1 + 1 := by omega
   have e3 : (i + 1) * 6 + 3 = (i * 6 + 3) + 1 + 1 + 1 + 1 + 1 + 1 := by omega
   have e4 : (i + 1) * 6 + 4 = (i * 6 + 4) + 1 + 1 + 1 + 1 + 1 + 1 := by omega
   have e5 : (i + 1) * 6 + 5 = (i * 6 + 5) + 1 + 1 + 1 + 1 + 1 + 1 := by omega
   rw [e5, e4, e3, e2, e1, e0, flatE_cons]
   simpa [eT, eC, eS, eO, eK, eV] using this
theorem flatE_set (l : EL) (x0 x1 x2 x3 x4 x5 : Int) : ∀ i, i < l.length → ((((((flatE l).set (i * 6) (.int .i64 x0)).set (i * 6 + 1) (.int .i64 x1)).set (i * 6 + 2) (.int .i64 x2)).set (i * 6 + 3) (.int .i64 x3)).set (i * 6 + 4) (.int .i64 x4)).set (i * 6 + 5) (.int .i64 x5) = flatE (l.set i (x0, x1, x2, x3, x4, x5)) := by
 induction l with
 | nil => intro i h; simp at h
 | cons p l ih =>
  intro i h
  cases i with
  | zero => simp [flatE_cons]
  | succ i =>
   have := ih i (by simpa using h)
   rw [flatE_cons, List.set_cons_succ, flatE_cons, show (i + 1) * 6 + 5 = (i * 6 + 5) + 1 + 1 + 1 + 1 + 1 + 1 by omega, show (i + 1) * 6 + 4 = (i * 6 + 4) + 1 + 1 + 1 + 1 + 1 + 1 by omega, show (i + 1) * 6 + 3 = (i * 6 + 3) + 1 + 1 + 1 + 1 + 1 + 1 by omega, show (i + 1) * 6 + 2 = (i * 6 + 2) + 1 + 1 + 1 + 1 + 1 + 1 by omega, show (i + 1) * 6 + 1 = (i * 6 + 1) + 1 + 1 + 1 + 1 + 1 + 1 by omega, show (i + 1) * 6 = (i * 6) + 1 + 1 + 1 + 1 + 1 + 1 by omega]
   simp only [List.set_cons_succ]
   rw [this]
theorem flatE_one (l : EL) : ∀ y ∈ flatE l, y.oneCell' = true := by
 intro y hy
 simp only [flatE, List.mem_flatMap, List.mem_cons, List.not_mem_nil, or_false] at hy
 obtain ⟨m, _, h⟩ := hy
 rcases h with rfl | rfl | rfl | rfl | rfl | rfl <;> rfl
theorem Row.ents {w : World} {v : Value} {l : EL} (h : Row w v l.length (flatE l)) :
  ∃ (a : Option Addr) (b off cap : Nat), v = .slice a l.length cap ∧ l.length ≤ cap ∧ cap ≤ maxLen ∧ (0 < l.length → a = some ⟨b, off, none⟩) ∧
   (∀ i, i < l.length → w.cell? ⟨b, off + i * 6, none⟩ = some (.int .i64 (eT l i))) ∧ (∀ i, i < l.length → w.cell? ⟨b, off + i * 6 + 1, none⟩ = some (.int .i64 (eC l i))) ∧ (∀ i, i < l.length → w.cell? ⟨b, off + i * 6 + 2, none⟩ = some (.int .i64 (eS l i))) ∧ (∀ i, i < l.length → w.cell? ⟨b, off + i * 6 + 3, none⟩ = some (.int .i64 (eO l i))) ∧ (∀ i, i < l.length → w.cell? ⟨b, off + i * 6 + 4, none⟩ = some (.int .i64 (eK l i))) ∧ (∀ i, i < l.length → w.cell? ⟨b, off + i * 6 + 5, none⟩ = some (.int .i64 (eV l i))) := by
 obtain ⟨a, b, off, cap, h1, h2, h3, h4, h5, _⟩ := h
 exact ⟨a, b, off, cap, h1, h2, h3, h4, fun i hi => h5 _ _ (flatE_at l i hi).1, fun i hi => h5 _ _ (flatE_at l i hi).2.1, fun i hi => h5 _ _ (flatE_at l i hi).2.2.1, fun i hi => h5 _ _ (flatE_at l i hi).2.2.2.1, fun i hi => h5 _ _ (flatE_at l i hi).2.2.2.2.1, fun i hi => h5 _ _ (flatE_at l i hi).2.2.2.2.2⟩

theorem szEntryS_any (a : Option Addr) (n cap : Nat) (left : Int) (hn : n ≤ maxLen) (hl : 0 ≤ left) (hl2 : left ≤ 1048576) (w : World) :
  Calls Tryz.prog 74 #[.slice a n cap, .int .i64 left] w fun e w' => e = .returned (.int .i64 (if (n : Int) ≤ left then left - n else -1)) ∧ w' = w := by
 unfold maxLen at hn
 by_cases h : (n : Int) ≤ left
 ·go_enter Tryz.func74, Tryz.ntmps74
  go_wp2
  go_ret
  exact ⟨rfl, rfl⟩
 ·go_enter Tryz.func74, Tryz.ntmps74
  go_wp2
  go_ret
  exact ⟨rfl, rfl⟩

abbrev enV (x0 x1 x2 x3 x4 x5 : Int) : Value := .agg #[.int .i64 x0, .int .i64 x1, .int .i64 x2, .int .i64 x3, .int .i64 x4, .int .i64 x5]
def eqEnB (p q : En) : Bool := decide (p = q)
theorem ne_of_eqEnB {l1 l2 : EL} {k : Nat} (h : eqEnB (eT l1 k, eC l1 k, eS l1 k, eO l1 k, eK l1 k, eV l1 k) (eT l2 k, eC l2 k, eS l2 k, eO l2 k, eK l2 k, eV l2 k) = false) : l1 ≠ l2 := by
 intro e; subst e; simp [eqEnB] at h

theorem eqCmd_any (c s o k v c2 s2 o2 k2 v2 : Int) (w : World) :
  Calls Tryz.prog 86 #[.agg #[.int .i64 c, .int .i64 s, .int .i64 o, .int .i64 k, .int .i64 v], .agg #[.int .i64 c2, .int .i64 s2, .int .i64 o2, .int .i64 k2, .int .i64 v2]] w fun r w' => r = .returned (.bool (decide ((c, s, o, k, v) = (c2, s2, o2, k2, v2)))) ∧ Below w.heap.size w w' := by
 have B2 : Hid (Below w.heap.size w ((w.alloc (.cells #[.int .i64 c, .int .i64 s, .int .i64 o, .int .i64 k, .int .i64 v] 117)).alloc (.cells #[.int .i64 c2, .int .i64 s2, .int .i64 o2, .int .i64 k2, .int .i64 v2] 117))) := Below.and (bel_nw _ _) (bel_nw _ _)
 by_cases hc : c = c2
 ·by_cases hs : s = s2
  ·subst hc hs
   go_enter Tryz.func86, Tryz.ntmps86
   go_wp2_with fail
   generalize (w.alloc (.cells #[.int .i64 c, .int .i64 s, .int .i64 o, .int .i64 k, .int .i64 v] 117)).alloc (.cells #[.int .i64 c, .int .i64 s, .int .i64 o2, .int .i64 k2, .int .i64 v2] 117) = W at *
   refine (eqMsg_any _ _ _ _ _ _ _).mono ?_
   rintro e w1 ⟨rfl, b1⟩
   have B3 : Hid (Below w.heap.size w w1) := Below.and B2.out b1
   clear b1
   have E : Hid (decide ((c, s, o, k, v) = (c, s, o2, k2, v2)) = eqMsgB o k v o2 k2 v2) := by show _ = _; simp [eqMsgB]
   generalize hq : eqMsgB o k v o2 k2 v2 = q
   cases q
   ·have HQ : Hid _ := hq
    clear hq
    go_wp2
    go_ret
    exact ⟨ret_bool (E.out.trans HQ.out).symm, B3.out⟩
   ·have HQ : Hid _ := hq
    clear hq
    go_wp2
    go_ret
    exact ⟨ret_bool (E.out.trans HQ.out).symm, B3.out⟩
  ·have hs' : (s != s2) = true := by simpa using hs
   have E : Hid (decide ((c, s, o, k, v) = (c2, s2, o2, k2, v2)) = false) := by show _ = _; simp [hs]
   rw [E.out]
   subst hc
   go_enter Tryz.func86, Tryz.ntmps86
   go_wp2_with fail
   go_ret
   exact ⟨rfl, B2.out⟩
 ·have hc' : (c != c2) = true := by simpa using hc
  have E : Hid (decide ((c, s, o, k, v) = (c2, s2, o2, k2, v2)) = false) := by show _ = _; simp [hc]
  rw [E.out]
  go_enter Tryz.func86, Tryz.ntmps86
  go_wp2_with fail
  go_ret
  exact ⟨rfl, B2.out⟩

theorem eqEntry_any (t c s o k v t2 c2 s2 o2 k2 v2 : Int) (w : World) :
  Calls Tryz.prog 114 #[enV t c s o k v, enV t2 c2 s2 o2 k2 v2] w fun r w' => r = .returned (.bool (eqEnB (t, c, s, o, k, v) (t2, c2, s2, o2, k2, v2))) ∧ Below w.heap.size w w' := by
 have B2 : Hid (Below w.heap.size w ((w.alloc (.cells #[.int .i64 t, .int .i64 c, .int .i64 s, .int .i64 o, .int .i64 k, .int .i64 v] 119)).alloc (.cells #[.int .i64 t2, .int .i64 c2, .int .i64 s2, .int .i64 o2, .int .i64 k2, .int .i64 v2] 119))) := Below.and (bel_nw _ _) (bel_nw _ _)
 by_cases hc : t = t2
 ·subst hc
  go_enter Tryz.func114, Tryz.ntmps114
  go_wp2_with fail
  generalize (w.alloc (.cells #[.int .i64 t, .int .i64 c, .int .i64 s, .int .i64 o, .int .i64 k, .int .i64 v] 119)).alloc (.cells #[.int .i64 t, .int .i64 c2, .int .i64 s2, .int .i64 o2, .int .i64 k2, .int .i64 v2] 119) = W at *
  refine (eqCmd_any _ _ _ _ _ _ _ _ _ _ _).mono ?_
  rintro e w1 ⟨rfl, b1⟩
  have B3 : Hid (Below w.heap.size w w1) := Below.and B2.out b1
  clear b1
  have E : Hid (eqEnB (t, c, s, o, k, v) (t, c2, s2, o2, k2, v2) = decide ((c, s, o, k, v) = (c2, s2, o2, k2, v2))) := by show _ = _; simp [eqEnB]
  generalize hq : decide ((c, s, o, k, v) = (c2, s2, o2, k2, v2)) = q
  cases q
  ·have HQ : Hid (decide ((c, s, o, k, v) = (c2, s2, o2, k2, v2)) = false) := hq
   clear hq
   go_wp2
   go_ret
   exact ⟨ret_bool (E.out.trans HQ.out).symm, B3.out⟩
  ·have HQ : Hid (decide ((c, s, o, k, v) = (c2, s2, o2, k2, v2)) = true) := hq
   clear hq
   go_wp2
   go_ret
   exact ⟨ret_bool (E.out.trans HQ.out).symm, B3.out⟩
 ·have hc' : (t != t2) = true := by simpa using hc
  have E : Hid (eqEnB (t, c, s, o, k, v) (t2, c2, s2, o2, k2, v2) = false) := by show _ = _; simp [eqEnB, hc]
  rw [E.out]
  go_enter Tryz.func114, Tryz.ntmps114
  go_wp2_with fail
  go_ret
  exact ⟨rfl, B2.out⟩

theorem eqEntryS_any (v1 v2 : Value) (l1 l2 : EL) (w : World) (h1 : Row w v1 l1.length (flatE l1)) (h2 : Row w v2 l2.length (flatE l2)) :
  Calls Tryz.prog 89 #[v1, v2] w fun e w' => e = .returned (.bool (decide (l1 = l2))) ∧ Below w.heap.size w w' := by
 obtain ⟨a, b, off, cap, rfl, hcap, hmax, ha, h10, h11, h12, h13, h14, h15⟩ := h1.ents
 obtain ⟨a2, b2, off2, cap2, rfl, hcap2, hmax2, ha2, g10, g11, g12, g13, g14, g15⟩ := h2.ents
 unfold maxLen at hmax hmax2
 by_cases hl : l1.length = l2.length
 ·have hne : ((l1.length : Int) != (l2.length : Int)) = false := by rw [bne_eq_false_iff_eq]; omega
  have HL : Hid (l1.length = l2.length) := hl
  have hl2 : l1.length ≤ l2.length := by omega
  clear hl
  go_enter Tryz.func89, Tryz.ntmps89
  go_wp2
  go_loopw [5] (fun i wr => ∃ k : Nat, k ≤ l1.length ∧ i = .int .i64 k ∧ (∀ i, i < k → eT l1 i = eT l2 i ∧ eC l1 i = eC l2 i ∧ eS l1 i = eS l2 i ∧ eO l1 i = eO l2 i ∧ eK l1 i = eK l2 i ∧ eV l1 i = eV l2 i) ∧ Below w.heap.size w wr)
   (fun i _ => l1.length - (intOf i).toNat)
  case atStart => exact ⟨0, Nat.zero_le _, rfl, fun i hi => absurd hi (Nat.not_lt_zero _), Below.refl _ _⟩
  case round =>
   obtain ⟨k, hkl, rfl, hall, hb⟩ := hrel
   have ALL : Hid (∀ i, i < k → eT l1 i = eT l2 i ∧ eC l1 i = eC l2 i ∧ eS l1 i = eS l2 i ∧ eO l1 i = eO l2 i ∧ eK l1 i = eK l2 i ∧ eV l1 i = eV l2 i) := hall
   clear hall
   by_cases hlt : k < l1.length
   ·have hal := ha (by omega)
    subst hal
    have hal2 := ha2 (by omega)
    subst hal2
    have hlt2 : k < l2.length := by omega
    have d0 := (hb.cell (by exact cell_lt (h10 k hlt))).trans (h10 k hlt)
    have f0 := (hb.cell (by exact cell_lt (g10 k hlt2))).trans (g10 k hlt2)
    have d1 := (hb.cell (by exact cell_lt (h11 k hlt))).trans (h11 k hlt)
    have f1 := (hb.cell (by exact cell_lt (g11 k hlt2))).trans (g11 k hlt2)
    have d2 := (hb.cell (by exact cell_lt (h12 k hlt))).trans (h12 k hlt)
    have f2 := (hb.cell (by exact cell_lt (g12 k hlt2))).trans (g12 k hlt2)
    have d3 := (hb.cell (by exact cell_lt (h13 k hlt))).trans (h13 k hlt)
    have f3 := (hb.cell (by exact cell_lt (g13 k hlt2))).trans (g13 k hlt2)
    have d4 := (hb.cell (by exact cell_lt (h14 k hlt))).trans (h14 k hlt)
    have f4 := (hb.cell (by exact cell_lt (g14 k hlt2))).trans (g14 k hlt2)
    have d5 := (hb.cell (by exact cell_lt (h15 k hlt))).trans (h15 k hlt)
    have f5 := (hb.cell (by exact cell_lt (g15 k hlt2))).trans (g15 k hlt2)
    clear h10 h11 h12 h13 h14 h15 g10 g11 g12 g13 g14 g15 ha ha2
    go_wp2_with fail
    cases hq : eqEnB (eT l1 k, eC l1 k, eS l1 k, eO l1 k, eK l1 k, eV l1 k) (eT l2 k, eC l2 k, eS l2 k, eO l2 k, eK l2 k, eV l2 k)
    ·have NE : Hid (decide (l1 = l2) = false) := decide_eq_false (ne_of_eqEnB hq)
     go_region_with (go_at_call 114; refine (eqEntry_any _ _ _ _ _ _ _ _ _ _ _ _ _).mono ?_; rintro e w1 ⟨rfl, hb1⟩)
     all_goals
      go_wp2
      go_ret
      exact ⟨ret_bool NE.out.symm, hb.drew.trans (hb1.mono hb.size)⟩
    ·have EQ : Hid (eT l1 k = eT l2 k ∧ eC l1 k = eC l2 k ∧ eS l1 k = eS l2 k ∧ eO l1 k = eO l2 k ∧ eK l1 k = eK l2 k ∧ eV l1 k = eV l2 k) := by show _ ∧ _; simpa [eqEnB] using hq
     go_region_with (go_at_call 114; refine (eqEntry_any _ _ _ _ _ _ _ _ _ _ _ _ _).mono ?_; rintro e w1 ⟨rfl, hb1⟩)
     all_goals
      go_wp2
      go_roundw
      case rel => exact ⟨k + 1, by omega, by go_num, fun i hi => if h : i < k then ALL.out i h else by rw [show i = k by omega]; exact EQ.out, hb.drew.trans (hb1.mono hb.size)⟩
      case measure => simp [intOf]; omega
   ·go_wp2
    go_ret
    refine ⟨ret_bool ?_, hb⟩
    symm
    rw [decide_eq_true_iff]
    exact el_ext HL.out (fun i hi => ALL.out i (by omega))
 ·have hne : ((l1.length : Int) != (l2.length : Int)) = true := by rw [bne_iff_ne]; omega
  go_enter Tryz.func89, Tryz.ntmps89
  go_wp2
  go_ret
  refine ⟨ret_bool ?_, Below.refl _ _⟩
  symm
  rw [decide_eq_false_iff_not]
  intro h; exact hl (by rw [h])

theorem Tryz.info119 : (Tryz.prog.info? 119).map (fun i => (i.zero, i.size, i.bytes)) = some (some (.agg #[.int .i64 0, .int .i64 0, .int .i64 0, .int .i64 0, .int .i64 0, .int .i64 0]), 6, 48) := by kernel_rfl

def filledE (l : EL) (k : Nat) : EL := l.take k ++ List.replicate (l.length - k) en0
theorem filledE_length (l : EL) (k : Nat) (hk : k ≤ l.length) : (filledE l k).length = l.length := by simp [filledE]; omega
theorem filledE_full (l : EL) : filledE l l.length = l := by simp [filledE]
theorem filledE_step (l : EL) (k : Nat) (hk : k < l.length) : (filledE l k).set k (eT l k, eC l k, eS l k, eO l k, eK l k, eV l k) = filledE l (k + 1) := by
 obtain ⟨m, hm⟩ : ∃ m, l.length - k = m + 1 := ⟨l.length - k - 1, by omega⟩
 rw [filledE, filledE, take_succE l k hk, hm, show l.length - (k + 1) = m by omega, List.replicate_succ, List.set_append_right _ _ (by simp; omega)]
 simp [show min k l.length = k by omega]
theorem flatE_zero (n : Nat) : flatE (List.replicate n en0) = List.replicate (n * 6) (.int .i64 0) := by
 induction n with
 | zero => rfl
 | succ n ih => rw [List.replicate_succ, flatE_cons, ih, show (n + 1) * 6 = n * 6 + 1 + 1 + 1 + 1 + 1 + 1 by omega]; simp only [List.replicate_succ]
theorem madeCells_ent (n : Nat) : (madeCells #[.int .i64 0, .int .i64 0, .int .i64 0, .int .i64 0, .int .i64 0, .int .i64 0] (n * 6)).toList = flatE (List.replicate n en0) := by
 rw [flatE_zero]
 exact madeCells_all _ _ (by decide) (fun i hi => by rcases (show i = 0 ∨ i = 1 ∨ i = 2 ∨ i = 3 ∨ i = 4 ∨ i = 5 by have : i < 6 := hi; omega) with rfl | rfl | rfl | rfl | rfl | rfl <;> rfl) _
end
end Go.Proofs.YtkcaelfkcepdkaaGreat

namespace Go.Proofs.YtkcaelfkcepdkaaGreat
section
open Go.RowKit

def cmdOkB (c s o k v : Int) : Bool := (c == 0 && s == 0 && o == 0 && k == 0 && v == 0) || (inB c 1 9 && inB s 1 100000 && msgOkB o k v)

abbrev cmdV (c s o k v : Int) : Value := .agg #[.int .i64 c, .int .i64 s, .int .i64 o, .int .i64 k, .int .i64 v]

theorem five_at {W : World} {R : Nat} {t : TypeId} {x0 x1 x2 x3 x4 : Value} (a b c d e : Value) (h : W.heap[R]? = some (.cells #[x0, x1, x2, x3, x4] t (0, 0))) : (((((W.setCell ⟨R, 0, none⟩ a).setCell ⟨R, 1, none⟩ b).setCell ⟨R, 2, none⟩ c).setCell ⟨R, 3, none⟩ d).setCell ⟨R, 4, none⟩ e).heap[R]? = some (.cells #[a, b, c, d, e] t (0, 0)) := by
 have h0 := heap_setCell_same W R 0 _ _ a h
 have h1 := heap_setCell_same _ R 1 _ _ b h0
 have h2 := heap_setCell_same _ R 2 _ _ c h1
 have h3 := heap_setCell_same _ R 3 _ _ d h2
 have h4 := heap_setCell_same _ R 4 _ _ e h3
 simpa using h4
theorem late_at {W : World} {R : Nat} {t : TypeId} {x0 x1 x2 x3 x4 : Value} (c d e : Value) (h : W.heap[R]? = some (.cells #[x0, x1, x2, x3, x4] t (0, 0))) : (((W.setCell ⟨R, 2, none⟩ c).setCell ⟨R, 3, none⟩ d).setCell ⟨R, 4, none⟩ e).heap[R]? = some (.cells #[x0, x1, c, d, e] t (0, 0)) := by
 have h2 := heap_setCell_same _ R 2 _ _ c h
 have h3 := heap_setCell_same _ R 3 _ _ d h2
 have h4 := heap_setCell_same _ R 4 _ _ e h3
 simpa using h4
theorem five_chg (W : World) (R : Nat) (a b c d e : Value) : Chg (fun g => g = R) W (((((W.setCell ⟨R, 0, none⟩ a).setCell ⟨R, 1, none⟩ b).setCell ⟨R, 2, none⟩ c).setCell ⟨R, 3, none⟩ d).setCell ⟨R, 4, none⟩ e) :=
 (((((Chg.refl (fun g => g = R) W).setAt R 0 rfl a).setAt R 1 rfl b).setAt R 2 rfl c).setAt R 3 rfl d).setAt R 4 rfl e
theorem late_chg (W : World) (R : Nat) (c d e : Value) : Chg (fun g => g = R) W (((W.setCell ⟨R, 2, none⟩ c).setCell ⟨R, 3, none⟩ d).setCell ⟨R, 4, none⟩ e) :=
 (((Chg.refl (fun g => g = R) W).setAt R 2 rfl c).setAt R 3 rfl d).setAt R 4 rfl e

theorem toCmd_any (c s o k v : Int) (w : World) :
  Calls Tryz.prog 76 #[cmdV c s o k v] w fun e w' => e = .returned (cmdV c s o k v) ∧ Below w.heap.size w w' := by
 have b0 : Below w.heap.size w (((w.alloc (.cells #[.int .i64 c, .int .i64 s, .int .i64 o, .int .i64 k, .int .i64 v] 139)).alloc (.cells #[.int .i64 0, .int .i64 0, .int .i64 0, .int .i64 0, .int .i64 0] 117)).alloc (.cells #[.int .i64 c, .int .i64 s, .int .i64 0, .int .i64 0, .int .i64 0] 117)) := (((Below.refl _ _).alloc (Nat.le_refl _) _).alloc (by simp) _).alloc (by simp; omega) _
 have n2 := heap_alloc_new ((w.alloc (.cells #[.int .i64 c, .int .i64 s, .int .i64 o, .int .i64 k, .int .i64 v] 139)).alloc (.cells #[.int .i64 0, .int .i64 0, .int .i64 0, .int .i64 0, .int .i64 0] 117)) (.cells #[.int .i64 c, .int .i64 s, .int .i64 0, .int .i64 0, .int .i64 0] 117)
 have n1 := row_chg (F := fun _ => False) (heap_alloc_new (w.alloc (.cells #[.int .i64 c, .int .i64 s, .int .i64 o, .int .i64 k, .int .i64 v] 139)) (.cells #[.int .i64 0, .int .i64 0, .int .i64 0, .int .i64 0, .int .i64 0] 117)) ((Chg.refl _ _).alloc (.cells #[.int .i64 c, .int .i64 s, .int .i64 0, .int .i64 0, .int .i64 0] 117)) id
 simp only [World.size_alloc] at n1 n2
 have H : Hid _ := And.intro b0 (And.intro n1 n2)
 clear b0 n1 n2
 go_enter Tryz.func76, Tryz.ntmps76
 go_wp2_with fail
 generalize (((w.alloc (.cells #[.int .i64 c, .int .i64 s, .int .i64 o, .int .i64 k, .int .i64 v] 139)).alloc (.cells #[.int .i64 0, .int .i64 0, .int .i64 0, .int .i64 0, .int .i64 0] 117)).alloc (.cells #[.int .i64 c, .int .i64 s, .int .i64 0, .int .i64 0, .int .i64 0] 117)) = W at *
 refine (toMsg_any _ _ _ _).mono ?_
 rintro e w1 ⟨rfl, hb⟩
 obtain ⟨b0, n1, n2⟩ := H.out
 have m1 := (hb.block _ (Array.getElem?_eq_some_iff.1 n1).1).trans n1
 have m2 := (hb.block _ (Array.getElem?_eq_some_iff.1 n2).1).trans n2
 have B1 := Below.and b0 hb
 have m3 := late_at (.int .i64 o) (.int .i64 k) (.int .i64 v) m2
 have g3 := late_chg w1 (w.heap.size + 1 + 1) (.int .i64 o) (.int .i64 k) (.int .i64 v)
 have m4 := row_chg m1 g3 (by omega)
 have m5 := five_at (.int .i64 c) (.int .i64 s) (.int .i64 o) (.int .i64 k) (.int .i64 v) m4
 have g5 := five_chg (((w1.setCell ⟨w.heap.size + 1 + 1, 2, none⟩ (.int .i64 o)).setCell ⟨w.heap.size + 1 + 1, 3, none⟩ (.int .i64 k)).setCell ⟨w.heap.size + 1 + 1, 4, none⟩ (.int .i64 v)) (w.heap.size + 1) (.int .i64 c) (.int .i64 s) (.int .i64 o) (.int .i64 k) (.int .i64 v)
 have B2 := B1.trans (g3.below (fun g _ hg => by omega) B1.size)
 have B3 : Hid _ := B2.trans (g5.below (fun g _ hg => by omega) B2.size)
 have f1 : ∀ j, w1.frozen? ⟨w.heap.size + 1 + 1, j, none⟩ = false := fun j => frozen_of_cells m2
 have f2 : ∀ j, (((w1.setCell ⟨w.heap.size + 1 + 1, 2, none⟩ (.int .i64 o)).setCell ⟨w.heap.size + 1 + 1, 3, none⟩ (.int .i64 k)).setCell ⟨w.heap.size + 1 + 1, 4, none⟩ (.int .i64 v)).frozen? ⟨w.heap.size + 1, j, none⟩ = false := fun j => frozen_of_cells m4
 have c2 : ∀ j, w1.cell? ⟨w.heap.size + 1 + 1, j, none⟩ = (#[.int .i64 c, .int .i64 s, .int .i64 0, .int .i64 0, .int .i64 0] : Array Value)[j]? := fun j => cell_of_cells m2
 have c3 : ∀ j, (((w1.setCell ⟨w.heap.size + 1 + 1, 2, none⟩ (.int .i64 o)).setCell ⟨w.heap.size + 1 + 1, 3, none⟩ (.int .i64 k)).setCell ⟨w.heap.size + 1 + 1, 4, none⟩ (.int .i64 v)).cell? ⟨w.heap.size + 1 + 1, j, none⟩ = (#[.int .i64 c, .int .i64 s, .int .i64 o, .int .i64 k, .int .i64 v] : Array Value)[j]? := fun j => cell_of_cells m3
 have c4 : ∀ j, (((w1.setCell ⟨w.heap.size + 1 + 1, 2, none⟩ (.int .i64 o)).setCell ⟨w.heap.size + 1 + 1, 3, none⟩ (.int .i64 k)).setCell ⟨w.heap.size + 1 + 1, 4, none⟩ (.int .i64 v)).cell? ⟨w.heap.size + 1, j, none⟩ = (#[.int .i64 0, .int .i64 0, .int .i64 0, .int .i64 0, .int .i64 0] : Array Value)[j]? := fun j => cell_of_cells m4
 have c5 : Hid _ := m5
 clear m1 m2 m3 m4 m5 g3 g5 B1 B2 n1 n2 b0 hb H
 go_wp2_with fail
 simp [bodyPost, results, Tryz.results76, go_sem, cell_of_cells c5.out]
 exact B3.out
end
end Go.Proofs.YtkcaelfkcepdkaaGreat
