/-
  The program's inTwos: parts of two each, three in the last one where there is one left.
  A row of trees that is being put together out of parts, in the program's boxes.
  The program's forksOf: one tree over the kids, or several of two each where they are too many for one.
  The program's leavesOf: one leaf, or several of two pairs each where they are too many for one.
  The program's rootOver: one tree of what came.
  The contract of the program's giveBusiest.
  The program's kidByKid, for the two functions that are handed to it.
  The program's giveDown: all messages given down, kid by kid.
  The contract of the program's giveDown.
  A scope with several labels: what holds at a jump to each, and a measure that every pass from a label lowers.
  The rounds in which messages come down; plain mathematics. A scope with two labels.
  What the copier's own state is, and the sums it keeps.
  The work list of the program's copyOfTree: what waits, and what is there when all of it is done.
  One struct less that waits, its kids behind it: what is to come stays.
  How much is still to be copied of what waits.
  The state of the program's copyOfTree between two steps, and what each step leaves.
  The program's copyOfTree at the head of a round, and at the next one.
  The program's copier.kids.
  The program's copier.kids, of any list.
  The program's copyOfTree.
  Trees that are right are small; the program's copyOfEither.
  The contract of the program's give, for a leaf.
  Contracts of the program's messages behind their interface: key and msg, whatever message it is.
  Contracts of the program's way to leave out gets, and to leave out what is overruled.
  Who rules last, by a map of keys to places; plain mathematics.
  The contract of the program's way to leave out what is overruled.
  The program's way to join adds: what its map of puts tells; plain mathematics, and what lies apart in memory.
  The contract of the program's way to join adds.
  The contract of the program's Shrink.
  The contract of the program's giveFork.
  The contract of the program's give, at every depth.
  The program's drained: its function, and a leaf.
  The program's kidByKid, for drained's function.
  The contract of the program's drained.
  The program's Drain.
  What Inject makes of a tree is what is done to its map, as long as there are few leaves and messages; plain mathematics.
  What Drain makes of a tree tells the same map, and holds no message; plain mathematics.
-/
import Derived.Test.YtbmcojelgbkafaaDoorOfNodes26
import Derived.Test.YtbmcojelgbkafaaDoorOfNodes21
import Derived.WalkMore
import Derived.ScopeJumps
import Derived.Scope
import Derived.Test.YtbmcojelgbkafaaDoorOfNodes25
import Derived.BigQuiet
import Derived.BigRegion
import Derived.Test.YtbmcojelgbkafaaDoorOfNodes24
import Derived.Test.YtbmcojelgbkafaaDoorOfNodes4
import Derived.Test.YtbmcojelgbkafaaDoorOfNodes14
import Derived.Test.YtbmcojelgbkafaaDoorOfNodes8
import Derived.Test.YtbmcojelgbkafaaDoorOfNodes5
import Derived.Test.YtbmcojelgbkafaaDoorOfNodes18
import Derived.Test.YtbmcojelgbkafaaDoorOfNodes15
namespace Go.Proofs.YtbmcojelgbkafaaDoor
set_option maxRecDepth 100000
set_option maxHeartbeats 8000000
section
open Go.RowKit

def piecesF (n : Nat) : Nat → Nat → List (Nat × Nat)
 | 0, _ => []
 | f + 1, i => if i < n then (i, manyN (n - i)) :: piecesF n f (i + manyN (n - i)) else []
def pieces (n i : Nat) : List (Nat × Nat) := piecesF n (n - i) i
abbrev pieceV (b off q size : Nat) (p : Nat × Nat) : Value := .slice (some ⟨b, off + p.1 * size, none⟩) p.2 (q - p.1)
end
section
open Go.RowKit

variable {d st k : Nat} {G : Nat → Prop} {w wr w' : World} {vt vc vt' vc' vp : Value} {ts us : List Tr} {cs ds : List Int} {PL : List Value}
end
section
open Go.RowKit
end
section
open Go.RowKit
end
section
open Go.RowKit

def BoxT (u : World) (B : Nat) (A : Array Value) : Prop := u.heap[B]? = some (.cells A 29 (0, 0))
abbrev noT : Array Value := #[.bool false, .slice none 0 0, .slice none 0 0, .slice none 0 0, .slice none 0 0]

abbrev setT (u : World) (L : Nat) (y0 y1 y2 y3 y4 : Value) : World := ((((u.setCell ⟨L, 0, none⟩ y0).setCell ⟨L, 1, none⟩ y1).setCell ⟨L, 2, none⟩ y2).setCell ⟨L, 3, none⟩ y3).setCell ⟨L, 4, none⟩ y4
def boxLen (B : Nat) (w : World) : Nat := match w.cell? ⟨B, 0, none⟩ with | some (.slice _ n _) => n | _ => 0
end
section
open Go.RowKit
end
section
open Go.RowKit
end
section
open Go.RowKit
end
section
open Go.RowKit
end
section
open Go.RowKit

def jumpsTo (J : Nat → Act → World → Prop) (Q : Exit → Act → World → Prop) : Exit → Act → World → Prop
 | .goto l, a, w => J l a w
 | e, a, w => Q e a w
end
section
open Go.RowKit

def jumps2 (J0 J1 : Act → World → Prop) (Q : Exit → Act → World → Prop) : Exit → Act → World → Prop
 | .goto 0, a, w => J0 a w
 | .goto 1, a, w => J1 a w
 | .goto _, _, _ => False
 | e, a, w => Q e a w
end
section
open Go.RowKit

def wTV (x : TV) : Nat := 1 + lenV x.p + lenV x.c + lenV x.b
def wsum (xs : List TV) (k : Nat) : Nat := ((xs.take k).map wTV).sum
def ptrs (K : Nat) (k : Nat) : List Value := (List.range k).map fun i => .pointer (some ⟨K, i * 5, none⟩)
def Slices (x : TV) : Prop := ∃ (r1 r2 r3 r4 : Option Addr) (z1 z2 z3 z4 s1 s2 s3 s4 : Nat), x = ⟨x.lf, .slice r1 z1 s1, .slice r2 z2 s2, .slice r3 z3 s3, .slice r4 z4 s4⟩
end
section
open Go.RowKit

def Src (d : Bool) (n : Nat) (w : World) (F : Nat → Prop) (x : TV) (T : Tr) : Prop := (d = true → TreeD n w F x T) ∧ TreeF n w F x T
structure Pd where
 b : Nat
 o : Nat
 x : TV
 T : Tr
 n : Nat
 F : Nat → Prop

def Pd.ptr (p : Pd) : Value := .pointer (some ⟨p.b, p.o, none⟩)
def Holds (u : World) (b o : Nat) (x : TV) : Prop := ∃ c : Array Value, u.heap[b]? = some (.cells c 29 (0, 0)) ∧ c[o]? = some (.bool x.lf) ∧ c[o + 1]? = some x.p ∧ c[o + 2]? = some x.c ∧ c[o + 3]? = some x.k ∧ c[o + 4]? = some x.b
def InPd (ps : List Pd) (g i : Nat) : Prop := ∃ p ∈ ps, p.b = g ∧ p.o ≤ i ∧ i < p.o + 5
def TreeTy (t : Nat) : Prop := t = 52 ∨ t = 3 ∨ t = 54 ∨ t = 29
def Only (ps : List Pd) (u u' : World) : Prop :=
 u.heap.size ≤ u'.heap.size ∧ ∀ g c t, TreeTy t → u.heap[g]? = some (.cells c t (0, 0)) → ∃ c', u'.heap[g]? = some (.cells c' t (0, 0)) ∧ c'.size = c.size ∧ ∀ i, ¬ InPd ps g i → c'[i]? = c[i]?
def Kont (u : World) (ps : List Pd) (Fin : World → Prop) : Prop :=
 ∀ (u' : World) (ys : List TV) (G : Nat → Nat → Prop), ys.length = ps.length → Only ps u u' →
  (∀ j p, ps[j]? = some p → Holds u' p.b p.o (tvAt ys j)) → (∀ j p, ps[j]? = some p → TreeD p.n u' (G j) (tvAt ys j) p.T) →
  (∀ j g, j < ps.length → G j g → u.heap.size ≤ g) → (∀ i j g, i < j → j < ps.length → G i g → ¬ G j g) → Fin u'

def kidPd (K n : Nat) (xs : List TV) (ts : List Tr) (KF : Nat → Nat → Prop) : List Pd := (List.range xs.length).map fun i => ⟨K, i * 5, tvAt xs i, ts.getD i noTr, n, KF i⟩
end
section
open Go.RowKit
end
section
open Go.RowKit

def kz : Nat → Tr → Nat
 | 0, _ => 0
 | n + 1, T => T.kids.length + (T.kids.map (sizeT n)).sum
def potP (ps : List Pd) : Nat := (ps.map fun p => kz p.n p.T).sum
end
section
open Go.RowKit
end
section
open Go.RowKit
end
section
open Go.RowKit
end
section
open Go.RowKit
end
section
open Go.RowKit

def leftC (S C : Nat) (w : World) : Nat := lenV ((w.cell? ⟨C, 1, none⟩).getD (.bool true)) + (S - (intOf ((w.cell? ⟨C, 2, none⟩).getD (.bool true))).toNat)
def FinC (w : World) (n : Nat) (T : Tr) (u : World) : Prop := ∃ (y : TV) (G : Nat → Prop), Holds u w.heap.size 0 y ∧ TreeD n u G y T ∧ ∀ g, G g → w.heap.size + 5 ≤ g
end
section
open Go.RowKit

structure In3 (w : World) (cs ds : List Value) (V : World) : Prop where
 b : Below w.heap.size w V
 s : Bx V w.heap.size cs
 t : Bx V (w.heap.size + 1) ds
 r : Bx V (w.heap.size + 2) zcs
end
section
open Go.RowKit
end
section
open Go.RowKit
end
section
open Go.RowKit
end
section
def rulAt (l : ML) (k : Nat) : Bool := (mO l k == 1) || (mO l k == 2)
def rulersF (l : ML) : Nat → PL
 | 0 => []
 | k + 1 => if rulAt l k = true then putF (rulersF l k) (mK l k) k else rulersF l k
end
section
open Go.RowKit
end
section
open Go.RowKit

def JInv (A : ML) (P : PL) : Prop := ∀ x, (getP P x).2 = true → ∃ n : Nat, (getP P x).1 = n ∧ n < A.length ∧ mO A n = 1 ∧ mK A n = x
end
section
open Go.RowKit
end
section
open Go.RowKit
end
section
open Go.RowKit

def bufLen (a : Act) : Nat := match a.tmps[6]? with | some (Value.slice _ n _) => n | _ => 0
end
section
open Go.RowKit
end
section
open Go.RowKit
end
section
open Go.RowKit
end
section
open Go.RowKit
end
section
open Go.RowKit

theorem depthF_self : ∀ (m : Nat) (T : Tr) (lo up : Int), depthF m T lo up ≠ 0 → depthF (depthF m T lo up) T lo up = depthF m T lo up
 | 0, _, _, _, h => absurd rfl h
 | m + 1, T, lo, up, h => by
  cases hl : T.leaf
  ·have hk := depthF_fork_ok h hl
   have hp := forkOk_parts hk.1
   have e := depthF_fork (m := m) hl hk.1
   have same : ∀ i, i < T.kids.length → kidF m T lo up i = kidF m T lo up 0 := fun i hi => by
    rcases Nat.decEq (kidF m T lo up i) (kidF m T lo up 0) with hne | he
    ·exact absurd (e.trans (kidsD_ne hi hne)) h
    ·exact he
   have he := kidsD_yes (d := kidF m T lo up) (n := T.kids.length) (hk.2 0 (by omega)) same
   rw [e, he, depthF_fork hl hk.1]
   have ih : ∀ i, i < T.kids.length → kidF (kidF m T lo up 0) T lo up i = kidF m T lo up 0 := fun i hi => by
    have := depthF_self m (kidT T i) (fromT T lo i) (toT T up i) (hk.2 i hi)
    have s := same i hi
    unfold kidF at s ⊢
    rw [s] at this
    exact this
   rw [kidsD_yes (d := kidF (kidF m T lo up 0) T lo up) (n := T.kids.length) (by rw [ih 0 (by omega)]; exact hk.2 0 (by omega)) (fun i hi => by rw [ih i hi, ih 0 (by omega)]), ih 0 (by omega)]
  ·have hp := depthF_leaf_ok h hl
   rw [depthF_leaf hl, if_pos hp, depthF_leaf hl, if_pos hp]
theorem ok_depth {T : Tr} (h : okT T = true) : depthF (depthT T) T 0 1000 = depthT T := by
 refine depthF_self 7 T 0 1000 (fun e => ?_)
 unfold okT at h
 have := of_decide_eq_true h
 unfold depthT at this
 omega
end
section
variable {d : Nat} {f : Int → Int × Bool}

theorem Seg.mok {m : TM} {lo hi : Int} (a : Seg d f lo hi m.2 m.1) (hd : 0 < d) : MOk d m := ⟨a.len, fun t ht => by
 obtain ⟨i, hi0, rfl⟩ := List.getElem_of_mem ht
 have e := (a.at i hi0).1
 have e2 : m.1.getD i noTr = m.1[i] := by simp [List.getD, hi0]
 rw [e2] at e
 have := sh_of_depth (m := d) (T := m.1[i]) (lo := frC m.2 lo i) (up := toC m.2 hi i) (by omega)
 rw [e] at this
 exact this⟩
theorem Rt.root {lo hi : Int} : ∀ (n d : Nat) (m : TM), Seg d f lo hi m.2 m.1 → 0 < d → m.1.length ≤ n → ∃ e, d ≤ e ∧ Rt e f lo hi (rootM n m)
 | 0, d, m, a, hd, hn => absurd a.len (by omega)
 | n + 1, d, m, a, hd, hn => by
  have hl := a.len
  rw [rootM]
  by_cases h : 4 < m.1.length
  ·rw [if_pos h]
   have hp := (packM_ok (a.mok hd) (by omega)).2.2
   obtain ⟨e, e1, e2⟩ := Rt.root n (d + 1) (packM m) (a.pack hd (by omega)) (by omega) (by omega)
   exact ⟨e, by omega, e2⟩
  ·rw [if_neg h]
   by_cases h1 : m.1.length = 1
   ·rw [if_pos h1]
    have h2 := a.at 0 (by omega)
    have h3 : m.2.length = 0 := by omega
    have e1 : frC m.2 lo 0 = lo := if_pos rfl
    have e2 : toC m.2 hi 0 = hi := if_neg (by omega)
    rw [e1, e2] at h2
    exact ⟨d, Nat.le_refl _, h2⟩
   ·rw [if_neg h1]
    exact ⟨d + 1, by omega, Rt.fork0 a hd (by omega) (by omega)⟩
theorem wt_two : ∀ {d : Nat} {T : Tr}, shT d T → 2 ^ d ≤ 2 * wt d T
 | 0, _, h => h.elim
 | d + 1, T, h => by
  rcases h with ⟨h, rfl, _⟩ | ⟨h1, _, h2, _, _, _, h3⟩
  ·rw [wt, if_pos h]; decide
  ·rw [wt, if_neg (by rw [h1]; simp)]
   match hk : T.kids with
   | [] => rw [hk] at h2; simp at h2
   | [_] => rw [hk] at h2; simp at h2
   | t :: u :: l =>
    have a := wt_two (h3 t (by rw [hk]; simp))
    have b := wt_two (h3 u (by rw [hk]; simp))
    simp only [List.map_cons, List.sum_cons]
    rw [Nat.pow_succ]
    omega
theorem shT_one : ∀ {a b : Nat} {T : Tr}, shT a T → shT b T → a = b
 | 0, _, _, h, _ => h.elim
 | _ + 1, 0, _, _, h => h.elim
 | a + 1, b + 1, T, h, g => by
  rcases h with ⟨h, rfl, _⟩ | ⟨h1, _, h2, _, _, _, h3⟩
  ·rcases g with ⟨_, rfl, _⟩ | ⟨g1, _⟩
   ·rfl
   ·rw [h] at g1; cases g1
  ·rcases g with ⟨g, _⟩ | ⟨_, _, _, _, _, _, g3⟩
   ·rw [h1] at g; cases g
   ·have := shT_one (h3 _ (getD_mem (i := 0) (by omega))) (g3 _ (getD_mem (i := 0) (by omega)))
    omega
theorem depth_kids {e : Nat} {T : Tr} {lo hi : Int} (h : depthF (e + 1) T lo hi = e + 1) (hl : T.leaf = false) :
  forkOkB T lo hi = true ∧ 0 < e ∧ ∀ i, i < T.kids.length → depthF e (kidT T i) (fromT T lo i) (toT T hi i) = e := by
 have hk := depthF_fork_ok (m := e) (T := T) (lo := lo) (hi := hi) (by omega) hl
 have h1 := depthF_fork (m := e) hl hk.1
 rw [h] at h1
 have h2 := kidsD_at h1.symm
 refine ⟨hk.1, ?_, h2⟩
 have h3 := (forkOk_parts hk.1).2.1.1
 have h4 := hk.2 0 (by omega)
 have h5 := h2 0 (by omega)
 unfold kidF at h5
 omega
theorem depthF_more : ∀ (e : Nat) (T : Tr) (lo hi : Int), depthF e T lo hi = e → 0 < e → ∀ n, e ≤ n → depthF n T lo hi = e
 | 0, _, _, _, _, h0, _, _ => absurd h0 (by omega)
 | e + 1, T, lo, hi, h, _, 0, hn => by omega
 | e + 1, T, lo, hi, h, _, n + 1, hn => by
  cases hl : T.leaf
  ·obtain ⟨k1, k2, k3⟩ := depth_kids h hl
   have k4 := (forkOk_parts k1).2.1.1
   have ih : ∀ i, i < T.kids.length → kidF n T lo hi i = e := fun i hi0 => depthF_more e _ _ _ (k3 i hi0) k2 n (by omega)
   rw [depthF_fork hl k1, kidsD_yes (by rw [ih 0 (by omega)]; omega) (fun i hi0 => by rw [ih i hi0, ih 0 (by omega)]), ih 0 (by omega)]
  ·rw [depthF_leaf hl] at h ⊢
   exact h
theorem valF_more : ∀ (e : Nat) (T : Tr) (lo hi : Int), depthF e T lo hi = e → 0 < e → ∀ n, e ≤ n → ∀ k, valF n T k = valF e T k
 | 0, _, _, _, _, h0, _, _, _ => absurd h0 (by omega)
 | e + 1, T, lo, hi, h, _, 0, hn, _ => by omega
 | e + 1, T, lo, hi, h, _, n + 1, hn, k => by
  cases hl : T.leaf
  ·obtain ⟨k1, k2, k3⟩ := depth_kids h hl
   rw [valF_fork hl, valF_fork hl]
   have := valF_more e _ _ _ (k3 (prefK T.cuts k) (kidK_in k1 k)) k2 n (by omega) k
   show updA (valF n (kidT T (prefK T.cuts k)) k) _ = updA (valF e (kidT T (prefK T.cuts k)) k) _
   rw [this]
  ·rw [valF_leaf hl, valF_leaf hl]

def wtT (T : Tr) : Nat := wt (depthT T) T

theorem injF_do {T : Tr} (hok : okT T = true) (hw : wtT T ≤ 120) {o k v : Int} (hm : msgOkB o k v = true) (ho : o ≠ 4) :
  okT (injF T (o, k, v)) = true ∧ wtT (injF T (o, k, v)) ≤ wtT T + 1 ∧ mapT (injF T (o, k, v)) = doL (mapT T) (o, k, v) := by
 obtain ⟨hsh, hd7, _⟩ := ok_sh hok
 have hd := ok_depth hok
 have hpos : 0 < depthT T := by unfold okT at hok; exact of_decide_eq_true hok
 have hin := msgOkB_in hm
 have hms : MsIn 0 1000 [(o, k, v)] := fun m h => by
  rw [List.mem_singleton.1 h]
  exact ⟨⟨hm, ho⟩, hin.2.1.1, by have := hin.2.1.2; show k < 1000; omega⟩
 have hseg : Seg (depthT T) (fun j => updA (valF (depthT T) T j) (ofK [(o, k, v)] j)) 0 1000 (giveM (depthT T) T [(o, k, v)]).2 (giveM (depthT T) T [(o, k, v)]).1 := by
  obtain ⟨e, he⟩ : ∃ e, depthT T = e + 1 := ⟨depthT T - 1, by omega⟩
  rw [he] at hd ⊢
  exact giveM_seg e T _ 0 1000 hd hms
 obtain ⟨e, e1, e2⟩ := Rt.root _ _ _ hseg hpos (Nat.le_refl _)
 have hgr := (giveM_ok _ _ [(o, k, v)] hsh (by simp)).2
 obtain ⟨hmok, hwl⟩ := giveM_ok _ _ [(o, k, v)] hsh (by simp)
 obtain ⟨e', _, _, s3, s4⟩ := rootM_ok _ _ _ hmok (Nat.le_refl _)
 change Rt e _ 0 1000 (rootOf (giveM (depthT T) T [(o, k, v)])) at e2
 change shT e' (rootOf (giveM (depthT T) T [(o, k, v)])) at s3
 change wt e' (rootOf (giveM (depthT T) T [(o, k, v)])) ≤ _ at s4
 simp only [List.length_cons, List.length_nil] at hwl
 have hsh2 : shT e (rootOf (giveM (depthT T) T [(o, k, v)])) := by
  have := sh_of_depth (m := e) (T := rootOf (giveM (depthT T) T [(o, k, v)])) (lo := 0) (up := 1000) (by rw [e2.1]; omega)
  rwa [e2.1] at this
 have hee : e = e' := shT_one hsh2 s3
 subst hee
 have hw2 : wt e (rootOf (giveM (depthT T) T [(o, k, v)])) ≤ wtT T + 1 := Nat.le_trans s4 hwl
 have he7 : e ≤ 7 := by
  have h1 := wt_two hsh2
  rcases Nat.lt_or_ge 7 e with h | h
  ·have : 2 ^ 8 ≤ 2 ^ e := Nat.pow_le_pow_right (by decide) h
   omega
  ·exact h
 have hD : depthT (rootOf (giveM (depthT T) T [(o, k, v)])) = e := depthF_more e _ _ _ e2.1 (by omega) 7 he7
 have hok2 : okT (rootOf (giveM (depthT T) T [(o, k, v)])) = true := by
  unfold okT
  rw [hD]
  exact decide_eq_true (by omega)
 have hI : injF T (o, k, v) = rootOf (giveM (depthT T) T [(o, k, v)]) := by
  rw [injF, if_pos ⟨hok, hm, ho⟩, if_pos hok2]
 rw [hI]
 refine ⟨hok2, by unfold wtT at hw2 ⊢; rw [hD]; exact hw2, ?_⟩
 have m1 := mapT_mapP T
 have m2 := mapT_mapP (rootOf (giveM (depthT T) T [(o, k, v)]))
 refine asc_ext m2.1 (doL_mapP m1 _).1 fun j => ?_
 have v1 : ∀ S : Tr, okT S = true → ∀ j, getP (mapT S) j = valF 7 S j := fun S h j => by
  unfold mapT
  rw [if_pos h]
  exact (mapF_is (okT_depth h)).2.2 j
 by_cases hj : 0 ≤ j ∧ j < 1000
 ·rw [v1 _ hok2, valF_more e _ _ _ e2.1 (by omega) 7 he7, e2.2 j hj.1 hj.2]
  have v2 : valF (depthT T) T j = getP (mapT T) j := by
   rw [v1 _ hok, valF_more _ _ _ _ hd hpos 7 hd7]
  show updA (valF (depthT T) T j) (ofK [(o, k, v)] j) = _
  rw [v2]
  by_cases hjk : j = k
  ·subst hjk
   rw [getP_doL_same m1]
   simp [ofK, updA]
  ·rw [doL_other hjk]
   have : ofK [(o, k, v)] j = [] := by
    simp only [ofK, List.filter_cons, List.filter_nil]
    rw [if_neg]
    simp only [decide_eq_true_eq]
    omega
   rw [this]
   rfl
 ·rw [getP_no, getP_no]
  ·intro p hp e
   have := ((doL_mapP m1 (o, k, v)).2 p hp).1
   omega
  ·intro p hp e
   have := (m2.2 p hp).1
   omega
end
section
variable {d : Nat} {f : Int → Int × Bool}

def Bare (T : Tr) : Prop := ∀ n, msgsF n T = 0
end
end Go.Proofs.YtbmcojelgbkafaaDoor
