/-
  Contracts of the model's chapter 2: TreeCount, l2Kid, KidOf; of the program's countAll, kidAt.
  Trees that own their memory; contracts of the laws' own functions that copy a tree.
  Contracts of the laws' own functions that copy a tree, of any height.
  Contracts of the program's chapter 2: kindOf, tooDeep, has, splits, rootOf, kid.
  Contracts of the program's chapter 2: rootOf, kid.
  The contract of the program's kid.
  Contracts of the program's chapter 2: pairsOk, cutsOk, bufOk.
  Contracts of the program's chapter 2: bufOk.
  Contracts of the program's chapter 2: depthByKids, depth.
  Contracts of the program's chapter 2: TreeDepth, TreeOk, countAll, TreeCount, kidAt, KidOf.
  Contracts of the program's chapter 2: kidAt, KidOf.
  What a message makes of a map, key by key; plain mathematics.
  What chapter 3 says of trees, as plain functions: what is pending of a key, what a key has; plain mathematics.
  What map a tree tells, as plain functions: kid by kid as the model says it, leaf by leaf as the program does; plain mathematics.
  Contracts of the program's messages behind an interface, and of its sum at the limit.
  Shrinking messages, as the model and as the program do it; plain mathematics: both come to one.
-/
import Derived.Test.YtekcnibohikmdaaOfWrites5
import Derived.Test.YtekcnibohikmdaaOfWrites4
import Derived.Deep.DeepCutAuto
import Derived.Test.YtekcnibohikmdaaOfWrites1
import Derived.Test.YtekcnibohikmdaaOfWrites2
namespace Go.Proofs.Ytekcnibohikmdaa
set_option maxRecDepth 100000
set_option maxHeartbeats 8000000
section
open Go.RowKit

def prefK (l : List Int) (k : Int) : Nat := (l.takeWhile fun c => decide (c ≤ k)).length
theorem prefK_at {l : List Int} {k : Int} {n : Nat} (hn : n ≤ l.length) (h : ∀ i, i < n → iAt l i ≤ k) (h2 : n < l.length → ¬ iAt l n ≤ k) : prefK l k = n := by
 induction l generalizing n with
 | nil => simp at hn; subst hn; rfl
 | cons a l ih =>
  cases n with
  | zero =>
   have := h2 (by simp)
   simp only [iAt, List.getD_cons_zero] at this
   simp [prefK, this]
  | succ n =>
   have ha := h 0 (by omega)
   simp only [iAt, List.getD_cons_zero] at ha
   have := ih (n := n) (by simpa using hn) (fun i hi => by simpa [iAt] using h (i + 1) (by omega)) (fun hl => by simpa [iAt] using h2 (by simpa using hl))
   simp only [prefK] at this ⊢
   rw [List.takeWhile_cons_of_pos (by simpa using ha), List.length_cons, this]
theorem prefK_le (l : List Int) (k : Int) : prefK l k ≤ l.length := by
 unfold prefK
 exact (List.takeWhile_sublist _).length_le

def kidOfT (T : Tr) (k : Int) : Int := if T.leaf = true ∨ okT T = false then -1 else (prefK T.cuts k : Nat)
end
section
open Go.RowKit

def TreeOwn : Nat → World → Nat → TV → Tr → Prop
 | 0, _, _, _, _ => False
 | n + 1, w, base, x, T => x.lf = T.leaf ∧ w.ownsRow base 76 2 x.p T.pairs.length (flatP T.pairs) ∧ w.ownsRow base 3 1 x.c T.cuts.length (flatI T.cuts) ∧ w.ownsRow base 73 3 x.b T.buf.length (flatM T.buf) ∧
   ∃ xs : List TV, xs.length = T.kids.length ∧ w.ownsRow base 54 5 x.k xs.length (flatT xs) ∧ ∀ i, i < xs.length → TreeOwn n w base (tvAt xs i) (kidT T i)

def TreesOwn (n : Nat) (w : World) (base : Nat) (v : Value) (ts : List Tr) : Prop :=
 ∃ xs : List TV, xs.length = ts.length ∧ w.ownsRow base 54 5 v xs.length (flatT xs) ∧ ∀ i, i < xs.length → TreeOwn n w base (tvAt xs i) (ts.getD i noTr)
theorem Try.info3 : (Try.prog.info? 3).map (fun i => (i.zero, i.size, i.bytes)) = some (some (.int .i64 0), 1, 8) := by kernel_rfl
theorem Try.info54 : (Try.prog.info? 54).map (fun i => (i.zero, i.size, i.bytes)) = some (some (.agg #[.bool false, .slice none 0 0, .slice none 0 0, .slice none 0 0, .slice none 0 0]), 5, 104) := by kernel_rfl

def filledI (l : List Int) (k : Nat) : List Int := l.take k ++ List.replicate (l.length - k) 0
end
section
open Go.RowKit

theorem TreeAt.shape : ∀ {n : Nat} {w : World} {x : TV} {T : Tr}, TreeAt n w x T → ∃ (a1 a2 a3 a4 : Option Addr) (c1 c2 c3 c4 : Nat), x = ⟨T.leaf, .slice a1 T.pairs.length c1, .slice a2 T.cuts.length c2, .slice a3 T.kids.length c3, .slice a4 T.buf.length c4⟩
 | 0, _, _, _, h => h.elim
 | _ + 1, _, ⟨lf, p, c, k, b⟩, T, ⟨h1, h2, h3, h4, xs, h5, h6, h7⟩ => by
  simp only at h1 h2 h3 h4 h6
  obtain ⟨a1, c1, rfl, _⟩ := h2.len
  obtain ⟨a2, c2, rfl, _⟩ := h3.len
  obtain ⟨a4, c4, rfl, _⟩ := h4.len
  obtain ⟨a3, c3, rfl, _⟩ := h6.len
  subst h1
  exact ⟨a1, a2, a3, a4, c1, c2, c3, c4, by rw [h5]⟩
end
section
open Go.RowKit

def BoxAt (t : TypeId) (u : World) (B : Nat) (A : Array Value) : Prop := u.heap[B]? = some (.cells A t (0, 0))
theorem BoxAt.cells {t : TypeId} {u : World} {B : Nat} {A : Array Value} (h : BoxAt t u B A) : ∀ j, u.cell? ⟨B, j, none⟩ = A[j]? := fun j => cell_of_row u B j A t (0, 0) h
theorem BoxAt.start (t : TypeId) (w : World) (A : Array Value) : BoxAt t (w.alloc (.cells A t)) w.heap.size A := heap_alloc_new w _
theorem bel_new (w : World) (o : Obj) : Below w.heap.size w (w.alloc o) := (Below.refl _ _).alloc (Nat.le_refl _) _

def kindN (T : Tr) : Int := if T.leaf = true then (if T.cuts.length = 0 ∧ T.kids.length = 0 ∧ T.buf.length = 0 then 1 else 0) else (if T.pairs.length = 0 then 2 else 0)
abbrev placeV (kd lo hi ab : Int) : Value := .agg #[.int .i64 kd, .int .i64 lo, .int .i64 hi, .int .i64 ab]
abbrev placedV (kd lo hi ab : Int) (x : TV) : Value := .agg #[.int .i64 kd, .int .i64 lo, .int .i64 hi, .int .i64 ab, .bool x.lf, x.p, x.c, x.k, x.b]
end
section
open Go.RowKit
end
section
open Go.RowKit

theorem wp_gen {P : Program} {code : Code} {Q : Exit → Act → World → Prop} {a : Act} {w0 : World} (S : World → Prop) (h0 : S w0) (h : ∀ W, S W → Code.wp P code Q a W) : Code.wp P code Q a w0 := h _ h0
end
section
open Go.RowKit

def pairsOkB (T : Tr) (lo hi : Int) : Bool := decide (T.pairs.length ≤ 4) && (mapOkB T.pairs && pairsInB T lo hi)
def cutsOk2B (T : Tr) (lo hi : Int) : Bool := decide (2 ≤ T.kids.length ∧ T.kids.length ≤ 4) && (decide (T.cuts.length + 1 = T.kids.length) && cutsOkB T lo hi)
end
section
open Go.RowKit

def bufOk2B (T : Tr) (lo hi : Int) : Bool := decide (T.buf.length ≤ 6) && bufOkB T lo hi
end
section
open Go.RowKit
end
section
open Go.RowKit
end
section
open Go.RowKit

def cntK (l : List Int) (k : Int) : Nat → Nat
 | 0 => 0
 | n + 1 => cntK l k n + (if iAt l n ≤ k then 1 else 0)
end
section

end
section
def ofK (ms : ML) (k : Int) : ML := ms.filter fun m => decide (m.2.1 = k)
def kidK (T : Tr) (k : Int) : Tr := kidT T (prefK T.cuts k)
def leafF : Nat → Tr → Int → Tr
 | 0, T, _ => T
 | n + 1, T, k => if T.leaf = true then T else leafF n (kidK T k) k
def pendF : Nat → Tr → Int → ML
 | 0, _, _ => []
 | n + 1, T, k => if T.leaf = true then [] else pendF n (kidK T k) k ++ ofK T.buf k
def updV (x : Int × Bool) (m : Int × Int × Int) : Int × Bool :=
 if msgOkB m.1 m.2.1 m.2.2 = true then (if m.1 = 1 then (m.2.2, true) else if m.1 = 2 then (0, false) else if m.1 = 3 then (clampI (x.1 + m.2.2), true) else x) else x
def updA (x : Int × Bool) (ms : ML) : Int × Bool := ms.foldl updV x
def valF (n : Nat) (T : Tr) (k : Int) : Int × Bool := updA (getP (leafF n T k).pairs k) (pendF n T k)

def oneP (l : PL) (k : Int) : PL := if (getP l k).2 = true then [(k, (getP l k).1)] else []
theorem depthF_leaf_ok {m : Nat} {T : Tr} {lo hi : Int} (h : depthF (m + 1) T lo hi ≠ 0) (hl : T.leaf = true) : leafOkB T lo hi = true := by
 rw [depthF_leaf hl] at h
 split at h
 ·assumption
 ·exact absurd rfl h
theorem depthF_fork_ok {m : Nat} {T : Tr} {lo hi : Int} (h : depthF (m + 1) T lo hi ≠ 0) (hl : T.leaf = false) : forkOkB T lo hi = true ∧ ∀ i, i < T.kids.length → depthF m (kidT T i) (fromT T lo i) (toT T hi i) ≠ 0 := by
 cases hf : forkOkB T lo hi
 ·rw [depthF_no hl hf] at h; exact absurd rfl h
 ·refine ⟨rfl, fun i hi0 h0 => ?_⟩
  rw [depthF_fork hl hf] at h
  exact h (kidsD_zero (d := kidF m T lo hi) hi0 h0)
theorem forkOk_parts {T : Tr} {lo hi : Int} (h : forkOkB T lo hi = true) : T.pairs = [] ∧ (2 ≤ T.kids.length ∧ T.kids.length ≤ 4) ∧ T.cuts.length + 1 = T.kids.length ∧ T.buf.length ≤ 6 ∧ bufOkB T lo hi = true ∧ cutsOkB T lo hi = true := by
 simp only [forkOkB, shapeB, Bool.and_eq_true, decide_eq_true_eq] at h
 obtain ⟨⟨h1, h2, h3, h4⟩, h5, h6⟩ := h
 exact ⟨List.length_eq_zero_iff.1 h1, h2, h3, h4, h5, h6⟩
theorem leafOk_parts {T : Tr} {lo hi : Int} (h : leafOkB T lo hi = true) : MapP T.pairs ∧ T.pairs.length ≤ 4 ∧ T.kids = [] ∧ T.buf = [] ∧ T.cuts = [] ∧ ∀ p ∈ T.pairs, lo ≤ p.1 ∧ p.1 < hi := by
 simp only [leafOkB, Bool.and_eq_true, decide_eq_true_eq] at h
 obtain ⟨h1, h2, h3, h4⟩ := h
 refine ⟨(mapOkB_iff _).1 h1, h2, List.length_eq_zero_iff.1 (by omega), List.length_eq_zero_iff.1 (by omega), List.length_eq_zero_iff.1 (by omega), fun p hp => ?_⟩
 obtain ⟨i, hi0, rfl⟩ := List.getElem_of_mem hp
 have h5 := inB_iff.1 (allB_at h4 hi0)
 simp only [kOf, List.getD, List.getElem?_eq_getElem hi0, Option.getD_some] at h5
 omega
end
section
def KeysIn (lo hi : Int) (l : PL) : Prop := ∀ p ∈ l, lo ≤ p.1 ∧ p.1 < hi
def Chain : Int → Int → List Int → List PL → Prop
 | lo, hi, [], [M] => MapP M ∧ KeysIn lo hi M
 | lo, hi, c :: cs, M :: Ms => (MapP M ∧ KeysIn lo c M) ∧ lo < c ∧ c < hi ∧ Chain c hi cs Ms
 | _, _, _, _ => False
def frC (cs : List Int) (lo : Int) (i : Nat) : Int := if i = 0 then lo else iAt cs (i - 1)
def toC (cs : List Int) (hi : Int) (i : Nat) : Int := if i < cs.length then iAt cs i else hi
def mapF : Nat → Tr → PL
 | 0, _ => []
 | n + 1, T => allL (T.pairs ++ (T.kids.map (mapF n)).flatten) T.buf
def mineK (cs : List Int) (i : Nat) (ms : ML) : ML := ms.filter fun m => decide (cntK cs m.2.1 cs.length = i)
def toldF : Nat → Tr → ML → PL
 | 0, _, _ => []
 | n + 1, T, ab => if T.leaf = true then allL T.pairs ab else ((List.range T.kids.length).map fun i => toldF n (kidT T i) (mineK T.cuts i (T.buf ++ ab))).flatten

def rangeL (l : PL) (lo hi : Int) : PL := l.filter fun p => decide (lo ≤ p.1 ∧ p.1 < hi)
end
section
open Go.RowKit

def okM (m : Int × Int × Int) : Bool := msgOkB m.1 m.2.1 m.2.2
def okMs (ms : ML) : ML := ms.filter okM
end
section
def rulB (m : Int × Int × Int) : Bool := (m.1 == 1) || (m.1 == 2)
def ruledB (l : ML) (k : Int) : Bool := l.any fun m => (m.2.1 == k) && rulB m
def overB (l : ML) (k : Int) : Bool := l.any fun m => okM m && ((m.2.1 == k) && rulB m)
def keptF : ML → ML
 | [] => []
 | m :: l => if okM m = true ∧ m.1 ≠ 4 ∧ overB l m.2.1 = false then m :: keptF l else keptF l
def firstI : ML → Int → Int
 | [], _ => -1
 | m :: l, k => if m.2.1 = k then 0 else if firstI l k < 0 then -1 else firstI l k + 1
def joinsB (A : ML) (m : Int × Int × Int) : Bool := decide (0 ≤ firstI A m.2.1) && ((mO A (firstI A m.2.1).toNat == 1) && (m.1 == 3))
def stepS (A : ML) (m : Int × Int × Int) : ML :=
 if joinsB A m = true then A.set (firstI A m.2.1).toNat (mO A (firstI A m.2.1).toNat, mK A (firstI A m.2.1).toNat, clampI (mV A (firstI A m.2.1).toNat + m.2.2)) else A ++ [m]
def shrinkF (ms : ML) : ML := (keptF ms).foldl stepS []

theorem firstI_spec (A : ML) (k : Int) : (firstI A k = -1 ∧ ∀ m ∈ A, m.2.1 ≠ k) ∨ ∃ n, firstI A k = (n : Nat) ∧ n < A.length ∧ mK A n = k ∧ ∀ j, j < n → mK A j ≠ k := by
 induction A with
 | nil => left; exact ⟨rfl, fun m hm => by simp at hm⟩
 | cons m l ih =>
  rw [firstI]
  by_cases h : m.2.1 = k
  ·rw [if_pos h]; right; exact ⟨0, rfl, by simp, by simp [mK, h], fun j hj => by omega⟩
  ·rw [if_neg h]
   rcases ih with ⟨h1, h2⟩ | ⟨n, h1, h2, h3, h4⟩
   ·left
    rw [h1]
    exact ⟨by simp, fun q hq => by rcases List.mem_cons.1 hq with rfl | hq; exact h; exact h2 q hq⟩
   ·right
    rw [h1, if_neg (by omega)]
    refine ⟨n + 1, by simp, by simp; omega, by simpa [mK] using h3, fun j hj => ?_⟩
    cases j with
    | zero => simpa [mK] using h
    | succ j => have := h4 j (by omega); simpa [mK] using this
theorem firstI_len (A : ML) (k : Int) : firstI A k < A.length := by
 rcases firstI_spec A k with ⟨h, _⟩ | ⟨n, h, h2, _⟩ <;> omega
theorem firstI_at {A : ML} {k : Int} {n : Nat} (h1 : n < A.length) (h2 : mK A n = k) (h3 : ∀ j, j < n → mK A j ≠ k) : firstI A k = n := by
 rcases firstI_spec A k with ⟨_, h⟩ | ⟨n', h, h4, h5, h6⟩
 ·exact absurd h2 (by have := h A[n] (List.getElem_mem h1); rw [ml_at A n h1] at this; exact this)
 ·rw [h]
  by_cases hlt : n' < n
  ·exact absurd h5 (h3 n' hlt)
  ·by_cases hgt : n < n'
   ·exact absurd h2 (h6 n hgt)
   ·omega
theorem firstI_none {A : ML} {k : Int} (h : ∀ m ∈ A, m.2.1 ≠ k) : firstI A k = -1 := by
 rcases firstI_spec A k with ⟨h, _⟩ | ⟨n, h1, h2, h3, _⟩
 ·exact h
 ·exact absurd h3 (by have := h A[n] (List.getElem_mem h2); rw [ml_at A n h2] at this; exact this)

def wgF (l : ML) : ML := l.filter fun m => m.1 != 4
def woF : ML → ML
 | [] => []
 | m :: l => if ruledB l m.2.1 = true then woF l else m :: woF l
def stepJ (s : ML × PL) (m : Int × Int × Int) : ML × PL :=
 if m.1 = 1 then (s.1 ++ [m], putF s.2 m.2.1 s.1.length)
 else if m.1 = 3 ∧ (getP s.2 m.2.1).2 = true then (s.1.set (getP s.2 m.2.1).1.toNat (1, m.2.1, clampI (mV s.1 (getP s.2 m.2.1).1.toNat + m.2.2)), s.2)
 else (s.1 ++ [m], s.2)
def joinF (l : ML) : ML := (l.foldl stepJ ([], [])).1

def NoRul (l : ML) : Prop := l.Pairwise fun a b => a.2.1 = b.2.1 → rulB b = false
def okN (m : Int × Int × Int) : Prop := okM m = true ∧ m.1 ≠ 4
theorem okM_put (k v : Int) (hk : 0 ≤ k ∧ k ≤ 999) (hv : -1000000000 ≤ v ∧ v ≤ 1000000000) : okM (1, k, v) = true := by
 show msgOkB 1 k v = true
 simp [msgOkB, inB, hk, hv]
theorem mem_mO {A : ML} {n : Nat} (h : n < A.length) : (mO A n, mK A n, mV A n) ∈ A := by rw [← ml_at A n h]; exact List.getElem_mem h
theorem stepS_ok {A : ML} (hA : ∀ a ∈ A, okN a) {m : Int × Int × Int} (hm : okN m) : ∀ a ∈ stepS A m, okN a := by
 unfold stepS
 split
 ·rename_i hj
  intro a ha
  rcases List.mem_or_eq_of_mem_set ha with h | h
  ·exact hA a h
  ·subst h
   have hl := firstI_len A m.2.1
   simp only [joinsB, Bool.and_eq_true, decide_eq_true_eq, beq_iff_eq] at hj
   have hi : (firstI A m.2.1).toNat < A.length := by omega
   have h1 := hA _ (mem_mO hi)
   rw [hj.2.1] at h1 ⊢
   exact ⟨okM_put _ _ (msgOkB_in h1.1).2.1 (clampI_in _), by simp⟩
 ·intro a ha
  rcases List.mem_append.1 ha with h | h
  ·exact hA a h
  ·simp at h; subst h; exact hm
theorem stepS_length (A : ML) (m : Int × Int × Int) : (stepS A m).length ≤ A.length + 1 := by
 unfold stepS; split <;> simp
theorem foldS_length (l : ML) (A : ML) : (l.foldl stepS A).length ≤ A.length + l.length := by
 induction l generalizing A with
 | nil => simp
 | cons m l ih =>
  have h1 := ih (stepS A m)
  have h2 := stepS_length A m
  rw [List.foldl_cons]; simp only [List.length_cons]; omega
theorem kept_length (l : ML) : (keptF l).length ≤ l.length := by
 induction l with
 | nil => simp [keptF]
 | cons m l ih => rw [keptF]; split <;> simp <;> omega
theorem shrinkF_length (ms : ML) : (shrinkF ms).length ≤ ms.length := by
 have h1 := foldS_length (keptF ms) []
 have h2 := kept_length ms
 unfold shrinkF; simp at h1; omega
end
end Go.Proofs.Ytekcnibohikmdaa
