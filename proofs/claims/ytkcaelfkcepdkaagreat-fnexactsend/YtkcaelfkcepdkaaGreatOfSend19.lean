/-
  The copier's map, when something is laid into it.
  Kid by kid, each in its place: what it comes to; plain mathematics.
  What shrunk messages do, key by key; plain mathematics.
  Trees side by side: each is right in its place, and tells of each key of its place what it should; plain mathematics.
  Leaves, parents and what is given down, as trees side by side; plain mathematics.
  The library's Max and Index over numbers; the program's busiest: the kid to which most messages belong.
  The contract of the program's busiest.
  The library's Grow and Concat, over trees and over numbers: any number of parts.
  The program's rows of trees: rowOf, kidsOf.
  The program's inPlaceOf: what came of a kid stands where it stood.
  The program's inTwos: parts of two each, three in the last one where there is one left.
  A row of trees that is being put together out of parts, in the program's boxes.
  The program's forksOf: one tree over the kids, or several of two each where they are too many for one.
  The program's leavesOf: one leaf, or several of two pairs each where they are too many for one.
  The contract of the model's l4Most.
  The contract of the model's l4Down, by that of l4Give.
  The model's drawing of numbers off the bytes of a code: what a cursor is, and that every draw returns.
  The model's drawing of keys, messages and maps: every draw returns, in memory of its own.
  The model's drawing of messages.
  Regions that draw their order and whose callees make memory of their own but write into none that was there: one walk in the text's order, over the class of all later worlds.
  Contracts of the model's Shrink and of what it asks.
  The contract of the model's Shrink.
  The contract of the model's l4Give, at a leaf.
  The contract of the model's l4Give, at a fork.
  l4Give at all depths; the contract of the model's l4Root.
  The program's rootOver: one tree of what came.
  The contract of the program's giveBusiest.
  The program's kidByKid, for the two functions that are handed to it.
  The program's giveDown: all messages given down, kid by kid.
  The contract of the program's giveDown.
  A scope with several labels: what holds at a jump to each, and a measure that every pass from a label lowers.
  The rounds in which messages come down; plain mathematics. A scope with two labels.
  What the copier's own state is, and the sums it keeps.
  The work list of the program's copyOfTree: what waits, and what is there when all of it is done.
-/
import Derived.Test.YtkcaelfkcepdkaaGreatOfSend18
import Derived.Test.YtkcaelfkcepdkaaGreatOfSend8
import Derived.Test.YtkcaelfkcepdkaaGreatOfSend15
import Derived.Deep.RegionHeld3
import Derived.Deep.QuietTactic
import Derived.BigQuiet
import Derived.Deep.RegionWith
import Derived.Test.YtkcaelfkcepdkaaGreatOfSend2
import Derived.Test.YtkcaelfkcepdkaaGreatOfSend1
import Derived.Deep.LoopGhost
import Derived.WalkMore
import Derived.ScopeJumps
import Derived.Scope
import Derived.Test.YtkcaelfkcepdkaaGreatOfSend17
namespace Go.Proofs.YtkcaelfkcepdkaaGreat
set_option maxRecDepth 100000
set_option maxHeartbeats 8000000
section
open Go.RowKit

def setM (w : World) (M : Nat) (o : Obj) : World := { w with heap := w.heap.setIfInBounds M o }

theorem chg_setM (w : World) (M : Nat) (o : Obj) : Chg (fun g => g = M) w (setM w M o) :=
 ⟨rfl, rfl, rfl, by simp [setM], fun k _ hk => by simp [setM, Array.getElem?_setIfInBounds]; intro e; exact absurd e.symm hk⟩

theorem Plain.chg {P : Nat → Prop} {w w' : World} {b : Nat} (h : Plain w b) (hc : Chg P w w') (hP : ¬ P b) : Plain w' b := by
 obtain ⟨c, t, h⟩ := h
 exact ⟨c, t, (hc.block b (Array.getElem?_eq_some_iff.1 h).1 hP).trans h⟩

theorem sameKey (a : Addr) (n : Int) : Instr.sameBits 10000 (keyV a n) (keyV a n) = true := by
 show Instr.sameBits (9999 + 1) _ _ = true
 unfold keyV
 rw [Instr.sameBits]
 simp [Instr.sameBits]

theorem put_made {w : World} {M : Nat} {V : Nat → Prop} (hM : MadeAt w M V) (a : Addr) (n : Int) (x : Value) (ha : Plain w a.block) : ∃ es' clock', (Instr.mapUpdate 193 (.map (some M)) (keyV a n) x).run Tryz.prog w = .ok () (setM w M (.map es' clock')) ∧ MadeAt (setM w M (.map es' clock')) M (fun g => V g ∨ g = a.block) := by
 obtain ⟨es, clock, hb, hk⟩ := hM
 have hu : Tryz.prog.underlying 193 = some (.map 204 66) := by kernel_rfl
 obtain ⟨r, hr, hq⟩ := findKey_made a n ha es.toList hk
 have hMlt : M < w.heap.size := (Array.getElem?_eq_some_iff.1 hb).1
 have hset : ∀ o : Obj, (setObj M o).run Tryz.prog w = .ok () (setM w M o) := fun o => by simp [setObj, Sem.run, hb, setM]
 have hne : ∀ b, Plain w b → ¬ b = M := fun b ⟨c, t, h⟩ e => by subst e; rw [hb] at h; simp at h
 have hM2 : ∀ o : Obj, (setM w M o).heap[M]? = some o := fun o => by simp [setM, hMlt]
 cases r with
 | none =>
  refine ⟨es.push { key := keyV a n, val := x, born := clock }, clock + 1, ?_, _, _, hM2 _, fun e he => ?_⟩
  ·simp [Instr.mapUpdate, run_underlying hu, MapKept.run_getObj_map hb, check_key, hr w rfl, hset]
  ·simp only [Array.toList_push, List.mem_append, List.mem_singleton] at he
   rcases he with he | rfl
   ·obtain ⟨b, m, h1, h2, h3⟩ := hk e he
    exact ⟨b, m, h1, h2.chg (chg_setM _ _ _) (hne _ h2), .inl h3⟩
   ·exact ⟨a, n, rfl, ha.chg (chg_setM _ _ _) (hne _ ha), .inr rfl⟩
 | some r =>
  obtain ⟨j, v⟩ := r
  obtain ⟨hV, e0, h0, h1⟩ := hq j v rfl
  have hj : es[j]? = some e0 := by simpa using h0
  refine ⟨es.modify j fun e => { e with key := keyV a n, val := x }, clock, ?_, _, _, hM2 _, fun e he => ?_⟩
  ·simp [Instr.mapUpdate, run_underlying hu, MapKept.run_getObj_map hb, check_key, hr w rfl, hset, hj, h1, Instr.keyThatStays, sameKey]
  ·obtain ⟨i, hi, rfl⟩ := List.getElem_of_mem he
   simp only [Array.getElem_toList, Array.getElem_modify]
   split
   ·exact ⟨a, n, rfl, ha.chg (chg_setM _ _ _) (hne _ ha), .inr rfl⟩
   ·have hi' : i < es.size := by simpa using hi
    obtain ⟨b, m, k1, k2, k3⟩ := hk es[i] (by simp)
    exact ⟨b, m, k1, k2.chg (chg_setM _ _ _) (hne _ k2), .inl k3⟩

theorem MadeAt.chg {P : Nat → Prop} {w w' : World} {M : Nat} {V : Nat → Prop} (h : MadeAt w M V) (hc : Chg P w w') (hM : ¬ P M) (hV : ∀ g, P g → ∀ c t, w.heap[g]? = some (.cells c t (0, 0)) → ∃ c' t', w'.heap[g]? = some (.cells c' t' (0, 0))) : MadeAt w' M V := by
 obtain ⟨es, clock, hb, hk⟩ := h
 refine ⟨es, clock, (hc.block M (Array.getElem?_eq_some_iff.1 hb).1 hM).trans hb, fun e he => ?_⟩
 obtain ⟨a, n, h1, ⟨c, t, h2⟩, h3⟩ := hk e he
 refine ⟨a, n, h1, ?_, h3⟩
 by_cases hp : P a.block
 ·exact hV _ hp c t h2
 ·exact ⟨c, t, (hc.block _ (Array.getElem?_eq_some_iff.1 h2).1 hp).trans h2⟩
theorem MadeAt.step {w w' : World} {M : Nat} {V : Nat → Prop} (h : MadeAt w M V) (hb : Below w.heap.size w w') : MadeAt w' M V := by
 obtain ⟨es, clock, hb', hk⟩ := h
 refine ⟨es, clock, (hb.block M (Array.getElem?_eq_some_iff.1 hb').1).trans hb', fun e he => ?_⟩
 obtain ⟨a, n, h1, ⟨c, t, h2⟩, h3⟩ := hk e he
 exact ⟨a, n, h1, ⟨c, t, (hb.block _ (Array.getElem?_eq_some_iff.1 h2).1).trans h2⟩, h3⟩
end
section
def kbk (f : Nat → TM) (m : TM) (k : Nat) : TM := (sideT f k ++ m.1.drop k, sideC f m.2 k ++ m.2.drop (k - 1))
end
section
def effK (k : Int) (s : Int × Bool) (m : Int × Int × Int) : Int × Bool :=
 if m.2.1 = k then (if m.1 = 1 then (m.2.2, true) else if m.1 = 2 then (0, false) else if m.1 = 3 then (clampI (s.1 + m.2.2), true) else s) else s
def Good (A : ML) : Prop := A.Pairwise fun a b => a.2.1 = b.2.1 → a.1 ≠ 1 ∧ rulB b = false
end
section
def Rt (d : Nat) (f : Int → Int × Bool) (lo hi : Int) (t : Tr) : Prop := depthF d t lo hi = d ∧ ∀ k, lo ≤ k → k < hi → valF d t k = f k
def Seg (d : Nat) (f : Int → Int × Bool) : Int → Int → List Int → List Tr → Prop
 | lo, hi, [], [t] => Rt d f lo hi t
 | lo, hi, c :: cs, t :: ts => Rt d f lo c t ∧ lo < c ∧ c < hi ∧ Seg d f c hi cs ts
 | _, _, _, _ => False
def MsIn (lo hi : Int) (ms : ML) : Prop := ∀ m ∈ ms, okN m ∧ lo ≤ m.2.1 ∧ m.2.1 < hi
def CsIn (lo hi : Int) (cs : List Int) : Prop := ∀ i, i < cs.length → frC cs lo i < iAt cs i ∧ iAt cs i < hi

variable {d : Nat} {f g h : Int → Int × Bool}
end
section
variable {d : Nat} {f g h : Int → Int × Bool}

def loF (ps : PL) (lo : Int) (i : Nat) : Int := if i = 0 then lo else kOf ps i
def GiveS (d : Nat) (g : Tr → ML → TM) : Prop := ∀ T ms lo hi, depthF d T lo hi = d → MsIn lo hi ms → Seg d (fun k => updA (valF d T k) (ofK ms k)) lo hi (g T ms).2 (g T ms).1
end
section
open Go.RowKit
end
section
open Go.RowKit

def cntL (cs : List Int) (b : ML) (k : Nat) : List Int := (List.range (cs.length + 1)).map fun i => ((mineF cs i (b.take k)).length : Int)
end
section
open Go.RowKit
end
section
open Go.RowKit

abbrev AllB : Nat → Prop := fun _ => True
end
section
open Go.RowKit

abbrev setR (u : World) (L : Nat) (x y : Value) : World := (u.setCell ⟨L, 0, none⟩ x).setCell ⟨L, 1, none⟩ y
theorem hkeep {u u' : World} {b : Nat} {o : Obj} (hb : Below u.heap.size u u') (h : u.heap[b]? = some o) : u'.heap[b]? = some o := (hb.block b (Array.getElem?_eq_some_iff.1 h).1).trans h
theorem hnew {u : World} {b : Nat} {o : Obj} (h : b = u.heap.size) : (u.alloc o).heap[b]? = some o := by subst h; exact heap_alloc_new u o
end
section
open Go.RowKit

def piecesF (n : Nat) : Nat → Nat → List (Nat × Nat)
 | 0, _ => []
 | f + 1, i => if i < n then (i, manyN (n - i)) :: piecesF n f (i + manyN (n - i)) else []
def pieces (n i : Nat) : List (Nat × Nat) := piecesF n (n - i) i
abbrev pieceV (b off q size : Nat) (p : Nat × Nat) : Value := .slice (some ⟨b, off + p.1 * size, none⟩) p.2 (q - p.1)
end
section
open Go.RowKit

variable {d st k : Nat} {G : Nat → Prop} {w wr w' : World} {vt vc vt' vc' vp : Value} {ts us : List Tr} {cs ds : List Int} {PL : List Value}
end
section
open Go.RowKit
end
section
open Go.RowKit
end
section
open Go.RowKit
end
section
open Go.RowKit
end
section
open Go.RowKit
end
section
open Go.RowKit

def Code8 (w : World) (v : Value) (bs : List Int) : Prop := Row w v bs.length (bs.map (Value.int .u8)) ∧ ∀ j, 0 ≤ bs.getD j 0 ∧ bs.getD j 0 ≤ 255
end
section
open Go.RowKit
end
section
open Go.RowKit

structure Bel (w : World) where
 now : World
 bel : Below w.heap.size w now
end
section
open Go.RowKit
end
section
open Go.RowKit
end
section
open Go.RowKit
end
section
open Go.RowKit

def lenV : Value → Nat
 | .slice _ n _ => n
 | _ => 0
end
section
open Go.RowKit
end
section
open Go.RowKit

def BoxT (u : World) (B : Nat) (A : Array Value) : Prop := u.heap[B]? = some (.cells A 69 (0, 0))
theorem BoxT.cells {u : World} {B : Nat} {A : Array Value} (h : BoxT u B A) : ∀ j, u.cell? ⟨B, j, none⟩ = A[j]? := fun j => cell_of_row u B j A 69 (0, 0) h
theorem BoxT.free {u : World} {B : Nat} {A : Array Value} (h : BoxT u B A) : ∀ j, u.frozen? ⟨B, j, none⟩ = false := fun j => frozen_of_row u B j A 69 h
abbrev noT : Array Value := #[.bool false, .slice none 0 0, .slice none 0 0, .slice none 0 0, .slice none 0 0]

abbrev setT (u : World) (L : Nat) (y0 y1 y2 y3 y4 : Value) : World := ((((u.setCell ⟨L, 0, none⟩ y0).setCell ⟨L, 1, none⟩ y1).setCell ⟨L, 2, none⟩ y2).setCell ⟨L, 3, none⟩ y3).setCell ⟨L, 4, none⟩ y4
theorem BoxT.set5 {u : World} {L : Nat} {x0 x1 x2 x3 x4 : Value} (h : BoxT u L #[x0, x1, x2, x3, x4]) (y0 y1 y2 y3 y4 : Value) : BoxT (setT u L y0 y1 y2 y3 y4) L #[y0, y1, y2, y3, y4] :=
 heap_setCell_same _ L 4 _ 69 y4 (heap_setCell_same _ L 3 _ 69 y3 (heap_setCell_same _ L 2 _ 69 y2 (heap_setCell_same _ L 1 _ 69 y1 (heap_setCell_same u L 0 _ 69 y0 h))))
theorem chg_setT (u : World) (L : Nat) (y0 y1 y2 y3 y4 : Value) : Chg (fun g => g = L) u (setT u L y0 y1 y2 y3 y4) := (((((Chg.refl (fun g => g = L) u).setAt L 0 rfl y0).setAt L 1 rfl y1).setAt L 2 rfl y2).setAt L 3 rfl y3).setAt L 4 rfl y4
theorem setT_below {w u : World} {L : Nat} (h : Below w.heap.size w u) (hL : w.heap.size ≤ L) (y0 y1 y2 y3 y4 : Value) : Below w.heap.size w (setT u L y0 y1 y2 y3 y4) :=
 ((((h.setCell (p := ⟨L, 0, none⟩) hL y0).setCell (p := ⟨L, 1, none⟩) hL y1).setCell (p := ⟨L, 2, none⟩) hL y2).setCell (p := ⟨L, 3, none⟩) hL y3).setCell (p := ⟨L, 4, none⟩) hL y4

def boxLen (B : Nat) (w : World) : Nat := match w.cell? ⟨B, 0, none⟩ with | some (.slice _ n _) => n | _ => 0
end
section
open Go.RowKit
end
section
open Go.RowKit
end
section
open Go.RowKit
end
section
open Go.RowKit
end
section
open Go.RowKit

def jumpsTo (J : Nat → Act → World → Prop) (Q : Exit → Act → World → Prop) : Exit → Act → World → Prop
 | .goto l, a, w => J l a w
 | e, a, w => Q e a w
end
section
open Go.RowKit

def jumps2 (J0 J1 : Act → World → Prop) (Q : Exit → Act → World → Prop) : Exit → Act → World → Prop
 | .goto 0, a, w => J0 a w
 | .goto 1, a, w => J1 a w
 | .goto _, _, _ => False
 | e, a, w => Q e a w
end
section
open Go.RowKit

def BoxC (w : World) (C : Nat) (A : Array Value) : Prop := w.heap[C]? = some (.cells A 197 (0, 0))
theorem BoxC.three {u : World} {B : Nat} {x0 x1 x2 : Value} (h : BoxC u B #[x0, x1, x2]) : u.cell? ⟨B, 0, none⟩ = some x0 ∧ u.cell? ⟨B, 1, none⟩ = some x1 ∧ u.cell? ⟨B, 2, none⟩ = some x2 :=
 ⟨by rw [cell_of_row u B 0 _ 197 (0, 0) h]; rfl, by rw [cell_of_row u B 1 _ 197 (0, 0) h]; rfl, by rw [cell_of_row u B 2 _ 197 (0, 0) h]; rfl⟩
theorem BoxC.free {u : World} {B : Nat} {A : Array Value} (h : BoxC u B A) (i : Nat) : u.frozen? ⟨B, i, none⟩ = false := frozen_of_row u B i _ 197 h
theorem BoxC.step {u w' : World} {B : Nat} {A : Array Value} (h : BoxC u B A) (hb : Below u.heap.size u w') : BoxC w' B A := (hb.block B (Array.getElem?_eq_some_iff.1 h).1).trans h
theorem BoxC.chg {P : Nat → Prop} {u w' : World} {B : Nat} {A : Array Value} (h : BoxC u B A) (hc : Chg P u w') (hP : ¬ P B) : BoxC w' B A := (hc.block B (Array.getElem?_eq_some_iff.1 h).1 hP).trans h
theorem BoxC.set1 {u : World} {L : Nat} {x0 x1 x2 : Value} (h : BoxC u L #[x0, x1, x2]) (t : Value) : BoxC (u.setCell ⟨L, 1, none⟩ t) L #[x0, t, x2] := heap_setCell_same u L 1 _ 197 t h
theorem BoxC.set2 {u : World} {L : Nat} {x0 x1 x2 : Value} (h : BoxC u L #[x0, x1, x2]) (t : Value) : BoxC (u.setCell ⟨L, 2, none⟩ t) L #[x0, x1, t] := heap_setCell_same u L 2 _ 197 t h

def wTV (x : TV) : Nat := 1 + lenV x.p + lenV x.c + lenV x.b
def wsum (xs : List TV) (k : Nat) : Nat := ((xs.take k).map wTV).sum
def ptrs (K : Nat) (k : Nat) : List Value := (List.range k).map fun i => .pointer (some ⟨K, i * 5, none⟩)
def Slices (x : TV) : Prop := ∃ (r1 r2 r3 r4 : Option Addr) (z1 z2 z3 z4 s1 s2 s3 s4 : Nat), x = ⟨x.lf, .slice r1 z1 s1, .slice r2 z2 s2, .slice r3 z3 s3, .slice r4 z4 s4⟩

theorem ptrs_succ (K k : Nat) : ptrs K (k + 1) = ptrs K k ++ [.pointer (some ⟨K, k * 5, none⟩)] := by simp [ptrs, List.range_succ]
theorem ptrs_length (K k : Nat) : (ptrs K k).length = k := by simp [ptrs]
theorem wsum_succ (xs : List TV) (k : Nat) (h : k < xs.length) : wsum xs (k + 1) = wsum xs k + wTV xs[k] := by
 rw [wsum, List.take_succ_eq_append_getElem h, List.map_append, List.sum_append]
 simp [wsum]
theorem wsum_le (xs : List TV) : ∀ j k, wsum xs k ≤ wsum xs (k + j)
 | 0, _ => Nat.le_refl _
 | j + 1, k => by
  have h1 := wsum_le xs j k
  by_cases h : k + j < xs.length
  ·have := wsum_succ xs (k + j) h
   rw [← Nat.add_assoc]
   omega
  ·have e : wsum xs (k + (j + 1)) = wsum xs (k + j) := by
    rw [wsum, wsum, List.take_of_length_le (by omega), List.take_of_length_le (by omega)]
   omega
theorem BoxC.apart {w : World} {C base e size n : Nat} {A : Array Value} {v : Value} {xs : List Value} (h : BoxC w C A) (ho : OwnE w base e size v n xs) (he : e ≠ 197) : ¬ wrB v C := fun k => by
 obtain ⟨c, j⟩ := ho.block C k
 rw [show w.heap[C]? = _ from h] at j
 simp at j
 exact he j.2.symm
theorem MadeAt.apart {w : World} {M base e size n : Nat} {V : Nat → Prop} {v : Value} {xs : List Value} (h : MadeAt w M V) (ho : OwnE w base e size v n xs) : ¬ wrB v M := fun k => by
 obtain ⟨c, j⟩ := ho.block M k
 obtain ⟨es, ck, hb, _⟩ := h
 rw [hb] at j
 simp at j
theorem MadeAt.ne {w : World} {M C : Nat} {V : Nat → Prop} {A : Array Value} (h : MadeAt w M V) (hC : BoxC w C A) : ¬ C = M := fun e => by
 obtain ⟨es, ck, hb, _⟩ := h
 subst e
 rw [show w.heap[C]? = _ from hC] at hb
 simp at hb
theorem MadeAt.set {w : World} {M b i : Nat} {V : Nat → Prop} (h : MadeAt w M V) (hb : Plain w b) (v : Value) : MadeAt (w.setCell ⟨b, i, none⟩ v) M V := by
 obtain ⟨c0, t0, h0⟩ := hb
 have hne : ¬ M = b := fun e => by
  obtain ⟨es, ck, h1, _⟩ := h
  subst e
  rw [h0] at h1
  simp at h1
 refine h.chg (chg_set1 w b i v) hne (fun g hg c t hc => ?_)
 subst hg
 rw [h0] at hc
 obtain ⟨rfl, rfl⟩ : c0 = c ∧ t0 = t := by simpa using hc
 exact ⟨_, _, heap_setCell_same w g i _ _ v h0⟩

theorem MadeAt.keep {P : Nat → Prop} {w w' : World} {M : Nat} {V : Nat → Prop} (h : MadeAt w M V) (hc : Chg P w w') (hM : ¬ P M) (hV : ∀ g, V g → ¬ P g) : MadeAt w' M V := by
 obtain ⟨es, clock, hb, hk⟩ := h
 refine ⟨es, clock, (hc.block M (Array.getElem?_eq_some_iff.1 hb).1 hM).trans hb, fun e he => ?_⟩
 obtain ⟨a, n, h1, ⟨c, t, h2⟩, h3⟩ := hk e he
 exact ⟨a, n, h1, ⟨c, t, (hc.block _ (Array.getElem?_eq_some_iff.1 h2).1 (hV _ h3)).trans h2⟩, h3⟩
end
section
open Go.RowKit

def Src (d : Bool) (n : Nat) (w : World) (F : Nat → Prop) (x : TV) (T : Tr) : Prop := (d = true → TreeD n w F x T) ∧ TreeF n w F x T
theorem Src.below {d : Bool} {n : Nat} {w w' : World} {F : Nat → Prop} {x : TV} {T : Tr} (h : Src d n w F x T) (hb : Below w.heap.size w w') : Src d n w' F x T := ⟨fun e => (h.1 e).below hb, h.2.below hb⟩
theorem Src.not0 {d : Bool} {w : World} {F : Nat → Prop} {x : TV} {T : Tr} (h : Src d 0 w F x T) : False := h.2
theorem Src.parts {d : Bool} {n : Nat} {w : World} {F : Nat → Prop} {x : TV} {T : Tr} (h : Src d (n + 1) w F x T) :
  x.lf = T.leaf ∧ RowF w F x.p T.pairs.length (flatP T.pairs) ∧ RowF w F x.c T.cuts.length (flatI T.cuts) ∧ RowF w F x.b T.buf.length (flatM T.buf) ∧
   ∃ (xs : List TV) (K : Nat → Nat → Prop), xs.length = T.kids.length ∧ RowF w F x.k xs.length (flatT xs) ∧ (∀ i, i < xs.length → Src d n w (K i) (tvAt xs i) (T.kids.getD i noTr)) ∧
    (d = true → (0 < xs.length → ∃ g q, x.k = .slice (some ⟨g, 0, none⟩) xs.length q ∧ F g ∧ ∀ i, i < xs.length → ¬ K i g) ∧ (∀ i g, i < xs.length → K i g → F g) ∧ ∀ i j g, i < j → j < xs.length → K i g → ¬ K j g) := by
 cases d with
 | false =>
  obtain ⟨h1, h2, h3, h4, xs, h5, h6, h7⟩ := h.2
  exact ⟨h1, h2, h3, h4, xs, fun _ => F, h5, h6, fun i hi => ⟨(fun e => by cases e), h7 i hi⟩, (fun e => by cases e)⟩
 | true =>
  obtain ⟨h1, h2, h3, h4, h5, xs, K, k1, k2, k3, k4, k5⟩ := h.1 rfl
  refine ⟨h1, h2.rowF.mono (fun g hg => h5 g (.inl hg)), h3.rowF.mono (fun g hg => h5 g (.inr (.inl hg))), h4.rowF.mono (fun g hg => h5 g (.inr (.inr (.inl hg)))), xs, K, k1, k2.rowF.mono (fun g hg => h5 g (.inr (.inr (.inr hg)))), fun i hi => ⟨fun _ => k3 i hi, (k3 i hi).treeF⟩, fun _ => ⟨fun hn => ?_, fun i g hi hg => (k4 i g hi hg).1, k5⟩⟩
  obtain ⟨g, q, hv, hq, _⟩ := k2.pos hn
  have hw : wrB x.k g := ⟨_, _, hv, hq⟩
  exact ⟨g, q, hv, h5 g (.inr (.inr (.inr hw))), fun i hi hk => (k4 i g hi hk).2 (.inr (.inr (.inr hw)))⟩

structure Pd where
 b : Nat
 o : Nat
 x : TV
 T : Tr
 n : Nat
 F : Nat → Prop

def Pd.ptr (p : Pd) : Value := .pointer (some ⟨p.b, p.o, none⟩)
def Holds (u : World) (b o : Nat) (x : TV) : Prop := ∃ c : Array Value, u.heap[b]? = some (.cells c 69 (0, 0)) ∧ c[o]? = some (.bool x.lf) ∧ c[o + 1]? = some x.p ∧ c[o + 2]? = some x.c ∧ c[o + 3]? = some x.k ∧ c[o + 4]? = some x.b
def InPd (ps : List Pd) (g i : Nat) : Prop := ∃ p ∈ ps, p.b = g ∧ p.o ≤ i ∧ i < p.o + 5
def TreeTy (t : Nat) : Prop := t = 157 ∨ t = 3 ∨ t = 115 ∨ t = 69
def Only (ps : List Pd) (u u' : World) : Prop :=
 u.heap.size ≤ u'.heap.size ∧ ∀ g c t, TreeTy t → u.heap[g]? = some (.cells c t (0, 0)) → ∃ c', u'.heap[g]? = some (.cells c' t (0, 0)) ∧ c'.size = c.size ∧ ∀ i, ¬ InPd ps g i → c'[i]? = c[i]?
def Kont (u : World) (ps : List Pd) (Fin : World → Prop) : Prop :=
 ∀ (u' : World) (ys : List TV) (G : Nat → Nat → Prop), ys.length = ps.length → Only ps u u' →
  (∀ j p, ps[j]? = some p → Holds u' p.b p.o (tvAt ys j)) → (∀ j p, ps[j]? = some p → TreeD p.n u' (G j) (tvAt ys j) p.T) →
  (∀ j g, j < ps.length → G j g → u.heap.size ≤ g) → (∀ i j g, i < j → j < ps.length → G i g → ¬ G j g) → Fin u'

theorem Only.refl (ps : List Pd) (u : World) : Only ps u u := ⟨Nat.le_refl _, fun _ c _ _ h => ⟨c, h, rfl, fun _ _ => rfl⟩⟩
theorem Only.trans {ps qs rs : List Pd} {u u1 u' : World} (h : Only ps u u1) (k : Only qs u1 u') (hr : ∀ g i, g < u.heap.size → ¬ InPd rs g i → ¬ InPd ps g i ∧ ¬ InPd qs g i) : Only rs u u' := by
 refine ⟨Nat.le_trans h.1 k.1, fun g c t ht hg => ?_⟩
 obtain ⟨c1, a1, a2, a3⟩ := h.2 g c t ht hg
 obtain ⟨c2, b1, b2, b3⟩ := k.2 g c1 t ht a1
 have hl := (Array.getElem?_eq_some_iff.1 hg).1
 exact ⟨c2, b1, b2.trans a2, fun i hi => (b3 i (hr g i hl hi).2).trans (a3 i (hr g i hl hi).1)⟩
theorem Only.same {ps : List Pd} {u u' : World} (h : Only ps u u') {g t : Nat} {c : Array Value} (ht : TreeTy t) (hg : u.heap[g]? = some (.cells c t (0, 0))) (hn : ∀ p ∈ ps, p.b ≠ g) : u'.heap[g]? = u.heap[g]? := by
 obtain ⟨c', a1, a2, a3⟩ := h.2 g c t ht hg
 have e : c' = c := by
  apply Array.ext_getElem?
  intro i
  exact a3 i (fun ⟨p, hp, hb, _⟩ => hn p hp hb)
 rw [a1, e, hg]
theorem Only.of_below {ps : List Pd} {u u' : World} (h : Below u.heap.size u u') : Only ps u u' :=
 ⟨h.size, fun g c _ _ hg => ⟨c, (h.block g (Array.getElem?_eq_some_iff.1 hg).1).trans hg, rfl, fun _ _ => rfl⟩⟩
theorem Only.of_chg {ps : List Pd} {P : Nat → Prop} {u u' : World} (h : Chg P u u') (hP : ∀ g c t, P g → TreeTy t → ¬ u.heap[g]? = some (.cells c t (0, 0))) : Only ps u u' :=
 ⟨h.size, fun g c t ht hg => ⟨c, (h.block g (Array.getElem?_eq_some_iff.1 hg).1 (fun hp => hP g c t hp ht hg)).trans hg, rfl, fun _ _ => rfl⟩⟩
theorem Only.set {p : Pd} {u : World} {c : Array Value} (hb : u.heap[p.b]? = some (.cells c 69 (0, 0))) (j : Nat) (hj : j < 5) (v : Value) : Only [p] u (u.setCell ⟨p.b, p.o + j, none⟩ v) := by
 have hs := heap_setCell_same u p.b (p.o + j) _ 69 v hb
 refine ⟨by simp [World.size_setCell], fun g c1 t ht hg => ?_⟩
 by_cases e : g = p.b
 ·subst e
  rw [hb] at hg
  obtain ⟨rfl, rfl⟩ : c = c1 ∧ 69 = t := by simpa using hg
  refine ⟨_, hs, by simp, fun i hi => ?_⟩
  rw [Array.getElem?_setIfInBounds]
  split
  ·rename_i h
   subst h
   exact absurd ⟨p, by simp, rfl, by omega, by omega⟩ hi
  ·rfl
 ·exact ⟨c1, ((chg_set1 u p.b (p.o + j) v).block g (Array.getElem?_eq_some_iff.1 hg).1 e).trans hg, rfl, fun _ _ => rfl⟩

theorem Holds.kept {ps : List Pd} {u u' : World} {b o : Nat} {x : TV} (h : Holds u b o x) (k : Only ps u u') (hn : ∀ j, j < 5 → ¬ InPd ps b (o + j)) : Holds u' b o x := by
 obtain ⟨c, h0, h1, h2, h3, h4, h5⟩ := h
 obtain ⟨c', a1, a2, a3⟩ := k.2 b c _ (.inr (.inr (.inr rfl))) h0
 exact ⟨c', a1, (a3 o (hn 0 (by omega))).trans h1, (a3 _ (hn 1 (by omega))).trans h2, (a3 _ (hn 2 (by omega))).trans h3, (a3 _ (hn 3 (by omega))).trans h4, (a3 _ (hn 4 (by omega))).trans h5⟩
theorem Holds.lt {u : World} {b o : Nat} {x : TV} (h : Holds u b o x) : b < u.heap.size := by
 obtain ⟨c, h0, _⟩ := h
 exact (Array.getElem?_eq_some_iff.1 h0).1
theorem OwnE.only {ps : List Pd} {u u' : World} {base e size n : Nat} {v : Value} {xs : List Value} (h : OwnE u base e size v n xs) (k : Only ps u u') (he : TreeTy e) (hn : ∀ p ∈ ps, ¬ wrB v p.b) : OwnE u' base e size v n xs := by
 refine h.frame (fun g hg hl => ?_)
 obtain ⟨cur, hc⟩ := h.block g hg
 exact k.same he hc (fun p hp e => hn p hp (e ▸ hg))

def kidPd (K n : Nat) (xs : List TV) (ts : List Tr) (KF : Nat → Nat → Prop) : List Pd := (List.range xs.length).map fun i => ⟨K, i * 5, tvAt xs i, ts.getD i noTr, n, KF i⟩
theorem kidPd_length (K n : Nat) (xs : List TV) (ts : List Tr) (KF : Nat → Nat → Prop) : (kidPd K n xs ts KF).length = xs.length := by simp [kidPd]
theorem kidPd_at (K n : Nat) (xs : List TV) (ts : List Tr) (KF : Nat → Nat → Prop) (i : Nat) (h : i < xs.length) : (kidPd K n xs ts KF)[i]? = some ⟨K, i * 5, tvAt xs i, ts.getD i noTr, n, KF i⟩ := by simp [kidPd, h]
theorem kidPd_mem {K n : Nat} {xs : List TV} {ts : List Tr} {KF : Nat → Nat → Prop} {p : Pd} (h : p ∈ kidPd K n xs ts KF) : ∃ i, i < xs.length ∧ p = ⟨K, i * 5, tvAt xs i, ts.getD i noTr, n, KF i⟩ := by
 simp only [kidPd, List.mem_map, List.mem_range] at h
 obtain ⟨i, hi, rfl⟩ := h
 exact ⟨i, hi, rfl⟩
theorem kidPd_ptr (K n : Nat) (xs : List TV) (ts : List Tr) (KF : Nat → Nat → Prop) : (kidPd K n xs ts KF).map Pd.ptr = ptrs K xs.length := by
 simp [kidPd, ptrs, Pd.ptr, Function.comp_def]

theorem kids_row {ps : List Pd} {u1 u' : World} {base K Q : Nat} {xs ys : List TV} (h : OwnE u1 base 69 5 (.slice (some ⟨K, 0, none⟩) xs.length Q) xs.length (flatT xs)) (hn : 0 < xs.length) (k : Only ps u1 u') (hy : ys.length = xs.length) (hh : ∀ i, i < xs.length → Holds u' K (i * 5) (tvAt ys i)) : OwnE u' base 69 5 (.slice (some ⟨K, 0, none⟩) ys.length Q) ys.length (flatT ys) := by
 have h : u1.ownsRow base 69 5 (.slice (some ⟨K, 0, none⟩) xs.length Q) xs.length (flatT xs) := by
  rcases h with h | ⟨h0, _⟩
  ·exact h
  ·omega
 obtain ⟨hl, ⟨h, _⟩ | ⟨g, cap, cur, hv, hg, hh0, hnc, hcap, hsz, htake⟩⟩ := h
 ·simp at h
 simp at hv
 obtain ⟨rfl, rfl⟩ := hv
 obtain ⟨c', a1, a2, a3⟩ := k.2 K cur _ (.inr (.inr (.inr rfl))) hh0
 refine .inl ⟨flatT_length ys, .inr ⟨K, Q, c', rfl, hg, a1, by omega, hcap, by rw [a2, hsz], ?_⟩⟩
 apply List.ext_getElem?
 intro j
 rw [List.getElem?_take]
 split
 ·rename_i hj
  have hi : j / 5 < xs.length := by omega
  obtain ⟨c2, b0, b1, b2, b3, b4, b5⟩ := hh (j / 5) hi
  rw [a1] at b0
  obtain rfl : c' = c2 := by simpa using b0
  obtain ⟨f1, f2, f3, f4, f5⟩ := flatT_at ys (j / 5) (by omega)
  have hm : j % 5 < 5 := Nat.mod_lt _ (by omega)
  have hj5 : j = j / 5 * 5 + j % 5 := by omega
  rw [Array.getElem?_toList]
  rcases (by omega : j % 5 = 0 ∨ j % 5 = 1 ∨ j % 5 = 2 ∨ j % 5 = 3 ∨ j % 5 = 4) with e | e | e | e | e <;> rw [e] at hj5
  ·rw [hj5, show j / 5 * 5 + 0 = j / 5 * 5 from rfl, b1, f1]
  ·rw [hj5, b2, f2]
  ·rw [hj5, b3, f3]
  ·rw [hj5, b4, f4]
  ·rw [hj5, b5, f5]
 ·rename_i hj
  rw [List.getElem?_eq_none]
  rw [flatT_length]
  omega
end
end Go.Proofs.YtkcaelfkcepdkaaGreat
