/-
  What a message makes of a map, key by key; plain mathematics.
  What chapter 3 says of trees, as plain functions: what is pending of a key, what a key has; plain mathematics.
  What map a tree tells, as plain functions: kid by kid as the model says it, leaf by leaf as the program does; plain mathematics.
  Appending to a row of one's own: one element that was just laid; a whole list.
  Contracts of the program's messages behind an interface, and of its sum at the limit.
  Shrinking messages, as the model and as the program do it; plain mathematics: both come to one.
  What comes of a tree that is given messages, as plain functions; shapes and weights.
  Appending a list to a row of one's own, at a step of a region that draws its order.
  Rows and trees with the blocks that they lie in: what stays when other blocks are written.
  The contract of the model's l3Pending.
  The contract of the program's wayDown.
  The sorted map's drop, by a contract.
  The model's way of putting into a map, pair by pair, comes to the plain function.
  Contracts of the model's small functions on maps: clamp, without, put.
  Contracts of MapGet, the model's and the program's.
  Contracts of the model's MapDo and MapAll.
  Contracts of the program's sorted map as a map of pairs: put, drop, get, turned by a message, made of a list.
  The program's sorted map made of a list of pairs, and told as one.
  The contracts of the program's MapAll and MapDo.
  The contract of the model's MapAll.
  Contracts of chapter 3's Pending and TreeGet, of the model and of the program.
  Contracts of the model's TreeMap and TreeRange.
  Contracts of the model's l4At, l4Split.
-/
import Derived.Test.YtkcaelfkcepdkaaGreatOfSend2
import Derived.Test.YtkcaelfkcepdkaaGreatOfSend7
import Derived.Test.YtkcaelfkcepdkaaGreatOfSend1
import Derived.Laws.AppendOwnNone
import Derived.Deep.RegionHeld3
import Derived.Deep.AppendLies
import Derived.Test.YtkcaelfkcepdkaaGreatOfSend4
import Derived.Deep.DeepCutAuto
import Derived.Deep.LoopGhost
import Derived.Deep.RegionWith
namespace Go.Proofs.YtkcaelfkcepdkaaGreat
set_option maxRecDepth 100000
set_option maxHeartbeats 8000000
section

end
section
def ofK (ms : ML) (k : Int) : ML := ms.filter fun m => decide (m.2.1 = k)
def kidK (T : Tr) (k : Int) : Tr := kidT T (prefK T.cuts k)
def leafF : Nat → Tr → Int → Tr
 | 0, T, _ => T
 | n + 1, T, k => if T.leaf = true then T else leafF n (kidK T k) k
def pendF : Nat → Tr → Int → ML
 | 0, _, _ => []
 | n + 1, T, k => if T.leaf = true then [] else pendF n (kidK T k) k ++ ofK T.buf k
def updV (x : Int × Bool) (m : Int × Int × Int) : Int × Bool :=
 if msgOkB m.1 m.2.1 m.2.2 = true then (if m.1 = 1 then (m.2.2, true) else if m.1 = 2 then (0, false) else if m.1 = 3 then (clampI (x.1 + m.2.2), true) else x) else x
def updA (x : Int × Bool) (ms : ML) : Int × Bool := ms.foldl updV x
def valF (n : Nat) (T : Tr) (k : Int) : Int × Bool := updA (getP (leafF n T k).pairs k) (pendF n T k)

def oneP (l : PL) (k : Int) : PL := if (getP l k).2 = true then [(k, (getP l k).1)] else []
end
section
def KeysIn (lo hi : Int) (l : PL) : Prop := ∀ p ∈ l, lo ≤ p.1 ∧ p.1 < hi
def Chain : Int → Int → List Int → List PL → Prop
 | lo, hi, [], [M] => MapP M ∧ KeysIn lo hi M
 | lo, hi, c :: cs, M :: Ms => (MapP M ∧ KeysIn lo c M) ∧ lo < c ∧ c < hi ∧ Chain c hi cs Ms
 | _, _, _, _ => False
def frC (cs : List Int) (lo : Int) (i : Nat) : Int := if i = 0 then lo else iAt cs (i - 1)
def toC (cs : List Int) (hi : Int) (i : Nat) : Int := if i < cs.length then iAt cs i else hi
def mapF : Nat → Tr → PL
 | 0, _ => []
 | n + 1, T => allL (T.pairs ++ (T.kids.map (mapF n)).flatten) T.buf
def mineK (cs : List Int) (i : Nat) (ms : ML) : ML := ms.filter fun m => decide (cntK cs m.2.1 cs.length = i)
def toldF : Nat → Tr → ML → PL
 | 0, _, _ => []
 | n + 1, T, ab => if T.leaf = true then allL T.pairs ab else ((List.range T.kids.length).map fun i => toldF n (kidT T i) (mineK T.cuts i (T.buf ++ ab))).flatten

def rangeL (l : PL) (lo hi : Int) : PL := l.filter fun p => decide (lo ≤ p.1 ∧ p.1 < hi)
end
section
open Go.RowKit

theorem chg_of_grown {w w' : World} {r : Option Nat} (h : w.grownBy w' r) : Chg (fun g => r = some g) w w' :=
 ⟨h.os, h.tape, h.output, h.size, fun k hk hn => h.block k hk (fun e => hn e.symm)⟩
theorem flatP_one (l : List (Int × Int)) : ∀ y ∈ flatP l, y.oneCell' = true := by
 induction l with
 | nil => intro y hy; simp [flatP] at hy
 | cons p l ih =>
  intro y hy
  rw [show flatP (p :: l) = .int .i64 p.1 :: .int .i64 p.2 :: flatP l from rfl] at hy
  rcases List.mem_cons.1 hy with rfl | hy
  ·rfl
  ·rcases List.mem_cons.1 hy with rfl | hy
   ·rfl
   ·exact ih y hy
theorem room_of {n bytes : Nat} (h : n ≤ 8388608) (hb : bytes ≤ 256) : n + 1 ≤ maxLen ∧ (n + 1) * bytes ≤ 140737488355328 := by
 refine ⟨by unfold maxLen; omega, ?_⟩
 have : (n + 1) * bytes ≤ (n + 1) * 256 := Nat.mul_le_mul_left _ hb
 omega
end
section
open Go.RowKit

def okM (m : Int × Int × Int) : Bool := msgOkB m.1 m.2.1 m.2.2
def okMs (ms : ML) : ML := ms.filter okM
end
section
def rulB (m : Int × Int × Int) : Bool := (m.1 == 1) || (m.1 == 2)
def ruledB (l : ML) (k : Int) : Bool := l.any fun m => (m.2.1 == k) && rulB m
def overB (l : ML) (k : Int) : Bool := l.any fun m => okM m && ((m.2.1 == k) && rulB m)
def keptF : ML → ML
 | [] => []
 | m :: l => if okM m = true ∧ m.1 ≠ 4 ∧ overB l m.2.1 = false then m :: keptF l else keptF l
def firstI : ML → Int → Int
 | [], _ => -1
 | m :: l, k => if m.2.1 = k then 0 else if firstI l k < 0 then -1 else firstI l k + 1
def joinsB (A : ML) (m : Int × Int × Int) : Bool := decide (0 ≤ firstI A m.2.1) && ((mO A (firstI A m.2.1).toNat == 1) && (m.1 == 3))
def stepS (A : ML) (m : Int × Int × Int) : ML :=
 if joinsB A m = true then A.set (firstI A m.2.1).toNat (mO A (firstI A m.2.1).toNat, mK A (firstI A m.2.1).toNat, clampI (mV A (firstI A m.2.1).toNat + m.2.2)) else A ++ [m]
def shrinkF (ms : ML) : ML := (keptF ms).foldl stepS []

def wgF (l : ML) : ML := l.filter fun m => m.1 != 4
def woF : ML → ML
 | [] => []
 | m :: l => if ruledB l m.2.1 = true then woF l else m :: woF l
def stepJ (s : ML × PL) (m : Int × Int × Int) : ML × PL :=
 if m.1 = 1 then (s.1 ++ [m], putF s.2 m.2.1 s.1.length)
 else if m.1 = 3 ∧ (getP s.2 m.2.1).2 = true then (s.1.set (getP s.2 m.2.1).1.toNat (1, m.2.1, clampI (mV s.1 (getP s.2 m.2.1).1.toNat + m.2.2)), s.2)
 else (s.1 ++ [m], s.2)
def joinF (l : ML) : ML := (l.foldl stepJ ([], [])).1

def NoRul (l : ML) : Prop := l.Pairwise fun a b => a.2.1 = b.2.1 → rulB b = false
structure Side (A : ML) (P : PL) : Prop where
 asc : Asc P
 has : ∀ k, (getP P k).2 = true → ∃ n : Nat, (getP P k).1 = n ∧ firstI A k = n ∧ n < A.length ∧ mO A n = 1
 hasnt : ∀ k, (getP P k).2 = false → 0 ≤ firstI A k → mO A (firstI A k).toNat ≠ 1

def okN (m : Int × Int × Int) : Prop := okM m = true ∧ m.1 ≠ 4
end
section
open Go.RowKit

abbrev TM := List Tr × List Int

def mineF (cs : List Int) (i : Nat) (b : ML) : ML := b.filter fun m => decide (prefK cs m.2.1 = i)
def restF (cs : List Int) (i : Nat) (b : ML) : ML := b.filter fun m => !decide (prefK cs m.2.1 = i)
def mineSum (cs : List Int) (b : ML) : Nat → Nat
 | 0 => 0
 | k + 1 => mineSum cs b k + (mineF cs k b).length
def mostTo (cs : List Int) (b : ML) : Nat → Nat × Int
 | 0 => (0, -1)
 | k + 1 => if (mostTo cs b k).2 < ((mineF cs k b).length : Int) then (k, ((mineF cs k b).length : Int)) else mostTo cs b k
def manyN (r : Nat) : Nat := if r = 3 then 3 else 2
def leafT (ps : PL) : Tr := ⟨true, ps, [], [], []⟩
def lfTF (ps : PL) : Nat → Nat → List Tr
 | 0, _ => []
 | f + 1, i => if i < ps.length then leafT ((ps.drop i).take (manyN (ps.length - i))) :: lfTF ps f (i + manyN (ps.length - i)) else []
def lfCF (ps : PL) : Nat → Nat → List Int
 | 0, _ => []
 | f + 1, i => if i < ps.length then (if 0 < i then [kOf ps i] else []) ++ lfCF ps f (i + manyN (ps.length - i)) else []
def lfT (ps : PL) (i : Nat) : List Tr := lfTF ps (ps.length - i) i
def lfC (ps : PL) (i : Nat) : List Int := lfCF ps (ps.length - i) i
def leafM (ps : PL) : TM := if ps.length ≤ 4 then ([leafT ps], []) else (lfT ps 0, lfC ps 0)

def packT (m : TM) (i : Nat) : Tr := ⟨false, [], (m.2.drop i).take (manyN (m.1.length - i) - 1), (m.1.drop i).take (manyN (m.1.length - i)), []⟩
def pkTF (m : TM) : Nat → Nat → List Tr
 | 0, _ => []
 | f + 1, i => if i < m.1.length then packT m i :: pkTF m f (i + manyN (m.1.length - i)) else []
def pkCF (m : TM) : Nat → Nat → List Int
 | 0, _ => []
 | f + 1, i => if i < m.1.length then (if 0 < i then [iAt m.2 (i - 1)] else []) ++ pkCF m f (i + manyN (m.1.length - i)) else []
def pkT (m : TM) (i : Nat) : List Tr := pkTF m (m.1.length - i) i
def pkC (m : TM) (i : Nat) : List Int := pkCF m (m.1.length - i) i
def packM (m : TM) : TM := (pkT m 0, pkC m 0)

def putM (m : TM) (i : Nat) (x : TM) : TM := (m.1.take i ++ x.1 ++ m.1.drop (i + 1), m.2.take i ++ x.2 ++ m.2.drop i)

def sideT (f : Nat → TM) : Nat → List Tr
 | 0 => []
 | k + 1 => sideT f k ++ (f k).1
def sideC (f : Nat → TM) (cs : List Int) : Nat → List Int
 | 0 => []
 | k + 1 => (sideC f cs k ++ if 0 < k then [iAt cs (k - 1)] else []) ++ (f k).2
def kidM (g : Tr → ML → TM) (m : TM) (b : ML) (i : Nat) : TM := if 0 < (mineF m.2 i b).length then g (m.1.getD i noTr) (mineF m.2 i b) else ([m.1.getD i noTr], [])
def downM (g : Tr → ML → TM) (m : TM) (b : ML) : TM := (sideT (kidM g m b) m.1.length, sideC (kidM g m b) m.2 m.1.length)

def loopM (g : Tr → ML → TM) : Nat → TM → ML → TM × ML
 | 0, m, b => (m, b)
 | f + 1, m, b => if 6 < b.length then loopM g f (putM m (mostTo m.2 b m.1.length).1 (g (m.1.getD (mostTo m.2 b m.1.length).1 noTr) (mineF m.2 (mostTo m.2 b m.1.length).1 b))) (restF m.2 (mostTo m.2 b m.1.length).1 b) else (m, b)

def endM (g : Tr → ML → TM) (r : TM × ML) : TM := if 4 < r.1.1.length then packM (downM g r.1 r.2) else ([⟨false, [], r.1.2, r.1.1, r.2⟩], [])
def giveM : Nat → Tr → ML → TM
 | 0, T, _ => ([T], [])
 | d + 1, T, ms => if T.leaf = true then leafM (allL T.pairs ms) else
   endM (giveM d) (loopM (giveM d) (shrinkF (T.buf ++ ms)).length (T.kids, T.cuts) (shrinkF (T.buf ++ ms)))

def rootM : Nat → TM → Tr
 | 0, m => m.1.getD 0 noTr
 | f + 1, m => if 4 < m.1.length then rootM f (packM m) else if m.1.length = 1 then m.1.getD 0 noTr else ⟨false, [], m.2, m.1, []⟩

def bothM (f : Nat → TM) (m : TM) : TM := (sideT f m.1.length, sideC f m.2 m.1.length)
def endD (o : TM) : TM := if 4 < o.1.length then packM o else ([⟨false, [], o.2, o.1, []⟩], [])
def drainM : Nat → Tr → TM
 | 0, T => ([T], [])
 | d + 1, T => if T.leaf = true then ([T], []) else
   endD (bothM (fun i => drainM d ((downM (giveM d) (T.kids, T.cuts) T.buf).1.getD i noTr)) (downM (giveM d) (T.kids, T.cuts) T.buf))

def shT : Nat → Tr → Prop
 | 0, _ => False
 | d + 1, T => (T.leaf = true ∧ d = 0 ∧ T.pairs.length ≤ 4 ∧ T.cuts = [] ∧ T.kids = [] ∧ T.buf = []) ∨
   (T.leaf = false ∧ T.pairs = [] ∧ 2 ≤ T.kids.length ∧ T.kids.length ≤ 4 ∧ T.cuts.length + 1 = T.kids.length ∧ T.buf.length ≤ 6 ∧ ∀ t ∈ T.kids, shT d t)
def wt : Nat → Tr → Nat
 | 0, _ => 0
 | d + 1, T => if T.leaf = true then 1 else (T.kids.map (wt d)).sum + T.buf.length
def wtL (d : Nat) (ts : List Tr) : Nat := (ts.map (wt d)).sum
def MOk (d : Nat) (m : TM) : Prop := m.2.length + 1 = m.1.length ∧ ∀ t ∈ m.1, shT d t
def Keeps (d : Nat) (g : Tr → ML → TM) : Prop := ∀ T ms, shT d T → 0 < ms.length → MOk d (g T ms) ∧ wtL d (g T ms).1 ≤ wt d T + ms.length
end
section
open Go.RowKit

theorem flatM_one (l : ML) : ∀ y ∈ flatM l, y.oneCell' = true := by
 induction l with
 | nil => intro y hy; simp [flatM] at hy
 | cons p l ih =>
  intro y hy
  rw [flatM_cons] at hy
  rcases List.mem_cons.1 hy with rfl | hy
  ·rfl
  ·rcases List.mem_cons.1 hy with rfl | hy
   ·rfl
   ·rcases List.mem_cons.1 hy with rfl | hy
    ·rfl
    ·exact ih y hy
end
section
open Go.RowKit

def Plain (w : World) (b : Nat) : Prop := ∃ (c : Array Value) (t : Nat), w.heap[b]? = some (.cells c t (0, 0))
theorem Plain.lt {w : World} {b : Nat} (h : Plain w b) : b < w.heap.size := by
 obtain ⟨c, t, h⟩ := h
 exact (Array.getElem?_eq_some_iff.1 h).1
def RowF (w : World) (F : Nat → Prop) (v : Value) (n : Nat) (xs : List Value) : Prop :=
 ∃ (a : Option Addr) (b off cap : Nat), v = .slice a n cap ∧ n ≤ cap ∧ cap ≤ maxLen ∧ (0 < n → a = some ⟨b, off, none⟩ ∧ F b ∧ Plain w b) ∧ (∀ j u, xs[j]? = some u → w.cell? ⟨b, off + j, none⟩ = some u) ∧ (a = none → cap = 0) ∧ (n = 0 → xs = [])
theorem RowF.row {w : World} {F : Nat → Prop} {v : Value} {n : Nat} {xs : List Value} (h : RowF w F v n xs) : Row w v n xs := by
 obtain ⟨a, b, off, cap, h1, h2, h3, h4, h5, h6, _⟩ := h
 exact ⟨a, b, off, cap, h1, h2, h3, fun hn => (h4 hn).1, h5, h6⟩
theorem RowF.mono {w : World} {F G : Nat → Prop} {v : Value} {n : Nat} {xs : List Value} (h : RowF w F v n xs) (hFG : ∀ g, F g → G g) : RowF w G v n xs := by
 obtain ⟨a, b, off, cap, h1, h2, h3, h4, h5, h6, h7⟩ := h
 exact ⟨a, b, off, cap, h1, h2, h3, fun hn => ⟨(h4 hn).1, hFG _ (h4 hn).2.1, (h4 hn).2.2⟩, h5, h6, h7⟩
theorem RowF.frame {w w' : World} {F : Nat → Prop} {v : Value} {n : Nat} {xs : List Value} (h : RowF w F v n xs) (hf : ∀ g, F g → g < w.heap.size → w'.heap[g]? = w.heap[g]?) : RowF w' F v n xs := by
 obtain ⟨a, b, off, cap, h1, h2, h3, h4, h5, h6, h7⟩ := h
 refine ⟨a, b, off, cap, h1, h2, h3, fun hn => ⟨(h4 hn).1, (h4 hn).2.1, ?_⟩, fun j u hj => ?_, h6, h7⟩
 ·obtain ⟨e1, e2, c, t, e3⟩ := h4 hn
  exact ⟨c, t, (hf b e2 (Array.getElem?_eq_some_iff.1 e3).1).trans e3⟩
 have hc := h5 j u hj
 rcases Nat.eq_zero_or_pos n with h0 | h0
 ·rw [h7 h0] at hj; simp at hj
 ·rw [World.cell?_of_block (hf b (h4 h0).2.1 (cell_lt hc))]
  exact hc
theorem RowF.lt {w : World} {F : Nat → Prop} {v : Value} {n : Nat} {xs : List Value} (h : RowF w F v n xs) (_hx : 0 < n → xs ≠ []) : RowF w (fun g => F g ∧ g < w.heap.size) v n xs := by
 obtain ⟨a, b, off, cap, h1, h2, h3, h4, h5, h6, h7⟩ := h
 exact ⟨a, b, off, cap, h1, h2, h3, fun hn => ⟨(h4 hn).1, ⟨(h4 hn).2.1, (h4 hn).2.2.lt⟩, (h4 hn).2.2⟩, h5, h6, h7⟩
theorem RowF.of_owns {w : World} {base e size n : Nat} {v : Value} {xs : List Value} (h : w.ownsRow base e size v n xs) : RowF w (fun g => v.ownBlock = some g) v n xs := by
 have h0 := h
 obtain ⟨hl, h | ⟨g, cap, cur, rfl, hg, hh, hn, hcap, hsz, htake⟩⟩ := h
 ·obtain ⟨rfl, rfl⟩ := h
  have hx : xs = [] := by simpa using hl
  subst hx
  exact ⟨none, 0, 0, 0, rfl, Nat.le_refl _, Nat.zero_le _, fun h => absurd h (Nat.lt_irrefl _), fun j u hj => by simp at hj, fun _ => rfl, fun _ => rfl⟩
 ·refine ⟨some ⟨g, 0, none⟩, g, 0, cap, rfl, hn, hcap, fun _ => ⟨rfl, rfl, _, _, hh⟩, fun j u hj => ?_, (fun h => by cases h), fun h => ?_⟩
  ·have hlt : j < n * size := by
    have := (List.getElem?_eq_some_iff.1 hj).1
    omega
   rw [Nat.zero_add, h0.cellAt j hlt]
   exact hj
  ·subst h
   exact List.length_eq_zero_iff.1 (by omega)
theorem flatT_ne (l : List TV) : (l.length = 0 → flatT l = []) ∧ (0 < l.length → flatT l ≠ []) := by
 have := flatT_length l
 exact ⟨fun h => List.length_eq_zero_iff.1 (by omega), fun h e => by rw [e] at this; simp at this; omega⟩

def TreeF : Nat → World → (Nat → Prop) → TV → Tr → Prop
 | 0, _, _, _, _ => False
 | n + 1, w, F, x, T => x.lf = T.leaf ∧ RowF w F x.p T.pairs.length (flatP T.pairs) ∧ RowF w F x.c T.cuts.length (flatI T.cuts) ∧ RowF w F x.b T.buf.length (flatM T.buf) ∧
   ∃ xs : List TV, xs.length = T.kids.length ∧ RowF w F x.k xs.length (flatT xs) ∧ ∀ i, i < xs.length → TreeF n w F (tvAt xs i) (kidT T i)
def TreesF (n : Nat) (w : World) (F : Nat → Prop) (v : Value) (ts : List Tr) : Prop :=
 ∃ xs : List TV, xs.length = ts.length ∧ RowF w F v xs.length (flatT xs) ∧ ∀ i, i < xs.length → TreeF n w F (tvAt xs i) (ts.getD i noTr)
theorem TreeF.treeAt : ∀ {n : Nat} {w : World} {F : Nat → Prop} {x : TV} {T : Tr}, TreeF n w F x T → TreeAt n w x T
 | 0, _, _, _, _, h => h
 | _ + 1, _, _, _, _, ⟨h1, h2, h3, h4, xs, h5, h6, h7⟩ => ⟨h1, h2.row, h3.row, h4.row, xs, h5, h6.row, fun i hi => (h7 i hi).treeAt⟩
theorem TreeF.mono : ∀ {n : Nat} {w : World} {F G : Nat → Prop} {x : TV} {T : Tr}, TreeF n w F x T → (∀ g, F g → G g) → TreeF n w G x T
 | 0, _, _, _, _, _, h, _ => h
 | _ + 1, _, _, _, _, _, ⟨h1, h2, h3, h4, xs, h5, h6, h7⟩, k => ⟨h1, h2.mono k, h3.mono k, h4.mono k, xs, h5, h6.mono k, fun i hi => (h7 i hi).mono k⟩
theorem TreeF.frame : ∀ {n : Nat} {w w' : World} {F : Nat → Prop} {x : TV} {T : Tr}, TreeF n w F x T → (∀ g, F g → g < w.heap.size → w'.heap[g]? = w.heap[g]?) → TreeF n w' F x T
 | 0, _, _, _, _, _, h, _ => h
 | _ + 1, _, _, _, _, _, ⟨h1, h2, h3, h4, xs, h5, h6, h7⟩, k => ⟨h1, h2.frame k, h3.frame k, h4.frame k, xs, h5, h6.frame k, fun i hi => (h7 i hi).frame k⟩
theorem TreeF.below {n : Nat} {w w' : World} {F : Nat → Prop} {x : TV} {T : Tr} (h : TreeF n w F x T) (hb : Below w.heap.size w w') : TreeF n w' F x T := h.frame fun g _ hl => hb.block g hl
theorem RowF.below {w w' : World} {F : Nat → Prop} {v : Value} {n : Nat} {xs : List Value} (h : RowF w F v n xs) (hb : Below w.heap.size w w') : RowF w' F v n xs := h.frame fun g _ hl => hb.block g hl
theorem TreeF.mk {n : Nat} {w : World} {F : Nat → Prop} {x : TV} {T : Tr} (h1 : x.lf = T.leaf) (h2 : RowF w F x.p T.pairs.length (flatP T.pairs)) (h3 : RowF w F x.c T.cuts.length (flatI T.cuts)) (h4 : RowF w F x.b T.buf.length (flatM T.buf)) (h5 : TreesF n w F x.k T.kids) : TreeF (n + 1) w F x T := by
 obtain ⟨xs, h5, h6, h7⟩ := h5
 exact ⟨h1, h2, h3, h4, xs, h5, h6, h7⟩
end
section
open Go.RowKit

theorem box_cells5 {u : World} {B : Nat} {x0 x1 x2 x3 x4 : Value} (h : OneAt u B #[x0, x1, x2, x3, x4]) :
  u.cell? ⟨B, 0, none⟩ = some x0 ∧ u.cell? ⟨B, 1, none⟩ = some x1 ∧ u.cell? ⟨B, 2, none⟩ = some x2 ∧ u.cell? ⟨B, 3, none⟩ = some x3 ∧ u.cell? ⟨B, 4, none⟩ = some x4 := by
 have := h.cells
 exact ⟨by rw [this]; rfl, by rw [this]; rfl, by rw [this]; rfl, by rw [this]; rfl, by rw [this]; rfl⟩
theorem OneAt.stepB {u w' : World} {B N : Nat} {A : Array Value} (h : OneAt u B A) (hb : Below N u w') (hN : B < N) : OneAt w' B A := (hb.block B hN).trans h
theorem cell_lowB {w w' : World} {N b o : Nat} {v : Value} (hb : Below N w w') (hN : b < N) (h : w.cell? ⟨b, o, none⟩ = some v) : w'.cell? ⟨b, o, none⟩ = some v := (hb.cell (p := ⟨b, o, none⟩) hN).trans h
end
section
open Go.RowKit

theorem OneAt.chg {w w' : World} {L : Nat} {A : Array Value} {p : Nat → Prop} (h : OneAt w L A) (hc : Chg p w w') (hp : ¬ p L) : OneAt w' L A :=
 (hc.block L (Array.getElem?_eq_some_iff.1 h).1 hp).trans h

theorem box_all5 {u : World} {B : Nat} {x0 x1 x2 x3 x4 : Value} (h : OneAt u B #[x0, x1, x2, x3, x4]) :
  (u.cell? ⟨B, 0, none⟩ = some x0 ∧ u.cell? ⟨B, 1, none⟩ = some x1 ∧ u.cell? ⟨B, 2, none⟩ = some x2 ∧ u.cell? ⟨B, 3, none⟩ = some x3 ∧ u.cell? ⟨B, 4, none⟩ = some x4) ∧
  (u.frozen? ⟨B, 0, none⟩ = false ∧ u.frozen? ⟨B, 1, none⟩ = false ∧ u.frozen? ⟨B, 2, none⟩ = false ∧ u.frozen? ⟨B, 3, none⟩ = false ∧ u.frozen? ⟨B, 4, none⟩ = false) :=
 ⟨box_cells5 h, frozen_of_row u B 0 _ 69 h, frozen_of_row u B 1 _ 69 h, frozen_of_row u B 2 _ 69 h, frozen_of_row u B 3 _ 69 h, frozen_of_row u B 4 _ 69 h⟩

abbrev set5 (u : World) (L : Nat) (t0 t1 t2 t3 t4 : Value) : World := ((((u.setCell ⟨L, 0, none⟩ t0).setCell ⟨L, 1, none⟩ t1).setCell ⟨L, 2, none⟩ t2).setCell ⟨L, 3, none⟩ t3).setCell ⟨L, 4, none⟩ t4
theorem OneAt.set5 {u : World} {L : Nat} {x0 x1 x2 x3 x4 : Value} (h : OneAt u L #[x0, x1, x2, x3, x4]) (t0 t1 t2 t3 t4 : Value) : OneAt (set5 u L t0 t1 t2 t3 t4) L #[t0, t1, t2, t3, t4] :=
 heap_setCell_same _ L 4 _ 69 t4 (heap_setCell_same _ L 3 _ 69 t3 (heap_setCell_same _ L 2 _ 69 t2 (heap_setCell_same _ L 1 _ 69 t1 (heap_setCell_same u L 0 _ 69 t0 h))))
theorem chg_set5 (u : World) (L : Nat) (t0 t1 t2 t3 t4 : Value) : Chg (fun g => g = L) u (set5 u L t0 t1 t2 t3 t4) :=
 (((((Chg.refl (fun g => g = L) u).setAt L 0 rfl t0).setAt L 1 rfl t1).setAt L 2 rfl t2).setAt L 3 rfl t3).setAt L 4 rfl t4
end
section
open Go.RowKit
end
section
def stp (k v : Int) (s : PL × Bool) (p : Int × Int) : PL × Bool :=
 if s.2 = false ∧ k ≤ p.1 then (if p.1 = k then (s.1 ++ [(k, v)], true) else (s.1 ++ [(k, v)] ++ [p], true))
 else (if p.1 = k then s else (s.1 ++ [p], s.2))
def stpTo (k v : Int) (l : PL) (i : Nat) : PL × Bool := (l.take i).foldl (stp k v) ([], false)
def stpEnd (k v : Int) (s : PL × Bool) : PL := if s.2 = true then s.1 else s.1 ++ [(k, v)]
end
section
open Go.RowKit
end
section
open Go.RowKit
end
section
open Go.RowKit

theorem room_row {n bytes : Nat} (h : n ≤ 8388608) (hb : bytes ≤ 256) : 0 + n ≤ maxLen ∧ (0 + n) * bytes ≤ 140737488355328 := by
 refine ⟨by unfold maxLen; omega, ?_⟩
 have : (0 + n) * bytes ≤ (0 + n) * 256 := Nat.mul_le_mul_left _ hb
 omega
end
section
open Go.RowKit
end
section
open Go.RowKit
end
section
open Go.RowKit
end
section
open Go.RowKit
end
section
open Go.RowKit

def pendT (T : Tr) (k : Int) : ML := if okT T = true then pendF 7 T k else []
def getT (T : Tr) (k : Int) : Int × Bool := if okT T = true then getP (allL (leafF 7 T k).pairs (pendF 7 T k)) k else (0, false)
end
section
open Go.RowKit

def accF (m : Nat) (T : Tr) (j : Nat) : PL := T.pairs ++ ((T.kids.take j).map (mapF m)).flatten
def mapT (T : Tr) : PL := if okT T = true then mapF 7 T else []
def rangeT (T : Tr) (lo hi : Int) : PL := rangeL (mapT T) lo hi
end
section
open Go.RowKit
end
end Go.Proofs.YtkcaelfkcepdkaaGreat
