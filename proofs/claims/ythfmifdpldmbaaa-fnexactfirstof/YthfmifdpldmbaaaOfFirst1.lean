/-
  The plain functions that chapter 1's code computes (numbers and lists alone; nothing of the program).
  Rows of cells behind a slice's value, read and owned; lists of pairs as such rows.
  Rows of structs: what lies at one place of such a row.
  Contracts of the sorted search, the insertion and the deletion at slices of ints, laid at this program from the library of contracts.
  What a call changes, told by the set of blocks that it may write; rows of ints under insertion and deletion.
  Rows of structs, element by element: whole structs are read out of them and written into them.
  Contracts of the small functions of chapter 1 on numbers and messages.
  Contracts of the functions on lists of pairs that the laws and chapter 1 use.
  The generic sorted map of chapter 1 at ints: its three methods, by contracts.
  The laws' own functions that write marks into a list of pairs, and look for them.
  MapGet as a plain function.
  Maps as ascending lists of pairs: putting, deleting, getting; plain mathematics.
-/
import Derived.Test.YthfmifdpldmbaaaRows
import Derived.WalkKit
import Derived.WalkSpells
import Derived.WalkLawsBesides
import Derived.Deep.MidRow
import Derived.Ground.Names2Prog
import Derived.Shelf.Slices.SearchI
import Derived.Shelf.Slices.Delete
import Derived.Shelf.Slices.Empties
import Derived.Shelf.Spec.SlicesInsert
import Derived.Shelf.Spec.SlicesInsertGrow
import Derived.Test.YthfmifdpldmbaaaProg
import Derived.Deep.QuietTactic
import Derived.BigQuiet
import Derived.Deep.RegionWith
import Derived.Lib.RowBridge
namespace Go.Proofs.Ythfmifdpldmbaaa
set_option maxRecDepth 100000
set_option maxHeartbeats 8000000
section
def inB (x lo hi : Int) : Bool := decide (lo ≤ x ∧ x ≤ hi)
def msgOkB (o k v : Int) : Bool := inB o 1 4 && (inB k 0 999 && (inB v (-1000000000) 1000000000 && ((v == 0) || ((o == 1) || (o == 3)))))

def kOf (l : List (Int × Int)) (i : Nat) : Int := (l.getD i (0, 0)).1
def vOf (l : List (Int × Int)) (i : Nat) : Int := (l.getD i (0, 0)).2
def eqPairB (a b c d : Int) : Bool := decide (a = c ∧ b = d)

def okAt (l : List (Int × Int)) (i : Nat) : Bool := inB (kOf l i) 0 999 && (inB (vOf l i) (-1000000000) 1000000000 && (i == 0 || decide (kOf l (i - 1) < kOf l i)))
def mapOkB (l : List (Int × Int)) : Bool := (List.range l.length).all (okAt l)

theorem ext_of {l1 l2 : List (Int × Int)} (hl : l1.length = l2.length) (h : ∀ i, i < l1.length → kOf l1 i = kOf l2 i ∧ vOf l1 i = vOf l2 i) : l1 = l2 := by
 apply List.ext_getElem hl
 intro i h1 h2
 have := h i h1
 simp only [kOf, vOf, List.getD, List.getElem?_eq_getElem h1, List.getElem?_eq_getElem h2, Option.getD_some] at this
 exact Prod.ext this.1 this.2
theorem eqPairB_true {a b c d : Int} (h : eqPairB a b c d = true) : a = c ∧ b = d := by simpa [eqPairB] using h
theorem ne_of_eqPairB {l1 l2 : List (Int × Int)} {k : Nat} (h : eqPairB (kOf l1 k) (vOf l1 k) (kOf l2 k) (vOf l2 k) = false) : l1 ≠ l2 := by
 intro e; subst e; simp [eqPairB] at h
end
section
open Go.RowKit

theorem bcell {W w1 : World} (hb : Below W.heap.size W w1) : (∀ b o, b < W.heap.size → w1.cell? ⟨b, o, none⟩ = W.cell? ⟨b, o, none⟩) ∧ (∀ b o, b < W.heap.size → w1.frozen? ⟨b, o, none⟩ = W.frozen? ⟨b, o, none⟩) :=
 ⟨fun b o h => hb.cell (p := ⟨b, o, none⟩) h, fun b o h => hb.frozen (p := ⟨b, o, none⟩) h⟩
theorem Below.and {w w1 w2 : World} (h1 : Below w.heap.size w w1) (h2 : Below w1.heap.size w1 w2) : Below w.heap.size w w2 := h1.trans (h2.mono h1.size)
theorem ret_bool {a b : Bool} (h : a = b) : Ending.returned (.bool a) = .returned (.bool b) := by rw [h]
theorem ret_int {k : IntKind} {a b : Int} (h : a = b) : Ending.returned (.int k a) = .returned (.int k b) := by rw [h]

theorem cell_lt {w : World} {a : Addr} {v : Value} (h : w.cell? a = some v) : a.block < w.heap.size := by
 unfold World.cell? at h
 by_cases hb : a.block < w.heap.size
 ·exact hb
 ·simp [Array.getElem?_eq_none (Nat.le_of_not_lt hb)] at h

def Row (w : World) (v : Value) (n : Nat) (xs : List Value) : Prop :=
 ∃ (a : Option Addr) (b off cap : Nat), v = .slice a n cap ∧ n ≤ cap ∧ cap ≤ maxLen ∧ (0 < n → a = some ⟨b, off, none⟩) ∧ (∀ j u, xs[j]? = some u → w.cell? ⟨b, off + j, none⟩ = some u) ∧ (a = none → cap = 0)

theorem Row.below {w w' : World} {v : Value} {n : Nat} {xs : List Value} (h : Row w v n xs) (hb : Below w.heap.size w w') : Row w' v n xs := by
 obtain ⟨a, b, off, cap, h1, h2, h3, h4, h5, h6⟩ := h
 refine ⟨a, b, off, cap, h1, h2, h3, h4, fun j u hj => ?_, h6⟩
 have := h5 j u hj
 rw [hb.cell (p := ⟨b, off + j, none⟩) (cell_lt this)]
 exact this

theorem Row.of_owns {w : World} {base e size n : Nat} {v : Value} {xs : List Value} (h : w.ownsRow base e size v n xs) : Row w v n xs := by
 have h0 := h
 obtain ⟨hl, h | ⟨g, cap, cur, rfl, hg, hh, hn, hcap, hsz, htake⟩⟩ := h
 ·obtain ⟨rfl, rfl⟩ := h
  have hx : xs = [] := by simpa using hl
  subst hx
  exact ⟨none, 0, 0, 0, rfl, Nat.le_refl _, Nat.zero_le _, fun h => absurd h (Nat.lt_irrefl _), fun j u hj => by simp at hj, fun _ => rfl⟩
 ·refine ⟨some ⟨g, 0, none⟩, g, 0, cap, rfl, hn, hcap, fun _ => rfl, fun j u hj => ?_, fun h => by cases h⟩
  have hlt : j < n * size := by
   have := (List.getElem?_eq_some_iff.1 hj).1
   omega
  rw [Nat.zero_add, h0.cellAt j hlt]
  exact hj

theorem owns_below {w w' : World} {base e size n : Nat} {v : Value} {xs : List Value} (h : w.ownsRow base e size v n xs) (hb : Below w.heap.size w w') : w'.ownsRow base e size v n xs := by
 obtain ⟨hl, h | ⟨g, cap, cur, rfl, hg, hh, hn, hcap, hsz, htake⟩⟩ := h
 ·exact ⟨hl, .inl h⟩
 ·refine ⟨hl, .inr ⟨g, cap, cur, rfl, hg, ?_, hn, hcap, hsz, htake⟩⟩
  rw [hb.block g (Array.getElem?_eq_some_iff.1 hh).1]
  exact hh
theorem owns_mono {w : World} {base base' e size n : Nat} {v : Value} {xs : List Value} (h : w.ownsRow base e size v n xs) (hb : base' ≤ base) : w.ownsRow base' e size v n xs := by
 obtain ⟨hl, h | ⟨g, cap, cur, rfl, hg, hh, hn, hcap, hsz, htake⟩⟩ := h
 ·exact ⟨hl, .inl h⟩
 ·exact ⟨hl, .inr ⟨g, cap, cur, rfl, Nat.le_trans hb hg, hh, hn, hcap, hsz, htake⟩⟩

def flatP (l : List (Int × Int)) : List Value := l.flatMap fun p => [.int .i64 p.1, .int .i64 p.2]

theorem flatP_length (l : List (Int × Int)) : (flatP l).length = l.length * 2 := by
 induction l with
 | nil => rfl
 | cons a l ih => simp only [flatP, List.flatMap_cons, List.length_append, List.length_cons, List.length_nil] at *; omega
theorem flatP_append (l m : List (Int × Int)) : flatP (l ++ m) = flatP l ++ flatP m := by simp [flatP, List.flatMap_append]
theorem flatP_at (l : List (Int × Int)) : ∀ i, i < l.length → (flatP l)[i * 2]? = some (.int .i64 (kOf l i)) ∧ (flatP l)[i * 2 + 1]? = some (.int .i64 (vOf l i)) := by
 induction l with
 | nil => intro i h; simp at h
 | cons a l ih =>
  intro i h
  cases i with
  | zero => simp [flatP, kOf, vOf]
  | succ i =>
   have := ih i (by simpa using h)
   have e1 : (i + 1) * 2 = i * 2 + 1 + 1 := by omega
   have e2 : (i + 1) * 2 + 1 = (i * 2 + 1) + 1 + 1 := by omega
   rw [e2, e1]
   simpa [flatP, kOf, vOf] using this

theorem Row.pairs {w : World} {v : Value} {l : List (Int × Int)} (h : Row w v l.length (flatP l)) :
  ∃ (a : Option Addr) (b off cap : Nat), v = .slice a l.length cap ∧ l.length ≤ cap ∧ cap ≤ maxLen ∧ (0 < l.length → a = some ⟨b, off, none⟩) ∧
   (∀ i, i < l.length → w.cell? ⟨b, off + i * 2, none⟩ = some (.int .i64 (kOf l i))) ∧ (∀ i, i < l.length → w.cell? ⟨b, off + i * 2 + 1, none⟩ = some (.int .i64 (vOf l i))) := by
 obtain ⟨a, b, off, cap, h1, h2, h3, h4, h5, _⟩ := h
 exact ⟨a, b, off, cap, h1, h2, h3, h4, fun i hi => h5 _ _ (flatP_at l i hi).1, fun i hi => h5 _ _ (flatP_at l i hi).2⟩
end
section
open Go.RowKit
end
end Go.Proofs.Ythfmifdpldmbaaa
namespace Go.Proofs
open Go.Shelf
end Go.Proofs
namespace Go.Proofs.Ythfmifdpldmbaaa
section
open Go.RowKit

structure Chg (F : Nat → Prop) (w w' : World) : Prop where
 os : w'.os = w.os
 tape : w'.tape = w.tape
 output : w'.output = w.output
 size : w.heap.size ≤ w'.heap.size
 block : ∀ k, k < w.heap.size → ¬ F k → w'.heap[k]? = w.heap[k]?

theorem Chg.refl (F : Nat → Prop) (w : World) : Chg F w w := ⟨rfl, rfl, rfl, Nat.le_refl _, fun _ _ _ => rfl⟩
theorem Chg.trans {F G : Nat → Prop} {a b c : World} (h : Chg F a b) (k : Chg G b c) (hG : ∀ g, g < a.heap.size → G g → F g) : Chg F a c :=
 ⟨k.os.trans h.os, k.tape.trans h.tape, k.output.trans h.output, Nat.le_trans h.size k.size,
  fun g hg hn => (k.block g (Nat.lt_of_lt_of_le hg h.size) (fun e => hn (hG g hg e))).trans (h.block g hg hn)⟩
theorem Chg.of_below {F : Nat → Prop} {a b : World} (h : Below a.heap.size a b) : Chg F a b := ⟨h.os, h.tape, h.output, h.size, fun g hg _ => h.block g hg⟩
theorem Chg.below {F : Nat → Prop} {a b : World} {B : Nat} (h : Chg F a b) (hF : ∀ g, g < a.heap.size → F g → B ≤ g) (hB : B ≤ a.heap.size) : Below B a b :=
 ⟨h.os, h.tape, h.output, h.size, fun g hg => h.block g (Nat.lt_of_lt_of_le hg hB) (fun e => by have := hF g (Nat.lt_of_lt_of_le hg hB) e; omega)⟩
theorem Chg.alloc {F : Nat → Prop} {a b : World} (h : Chg F a b) (o : Obj) : Chg F a (b.alloc o) :=
 h.trans (Chg.of_below (F := F) ((Below.refl _ _).alloc (Nat.le_refl _) o)) (fun _ _ e => e)
theorem Chg.setCell {F : Nat → Prop} {a b : World} (h : Chg F a b) {p : Addr} (hp : p.block < a.heap.size → F p.block) (u : Value) : Chg F a (b.setCell p u) :=
 ⟨h.os, h.tape, h.output, by simpa using h.size, fun k hk hn => (heap_setCell_other _ _ _ _ (fun e => hn (by subst e; exact hp hk))).trans (h.block k hk hn)⟩
theorem Chg.setAt {F : Nat → Prop} {a b : World} (h : Chg F a b) (g j : Nat) (hg : F g) (u : Value) : Chg F a (b.setCell ⟨g, j, none⟩ u) := h.setCell (p := ⟨g, j, none⟩) (fun _ => hg) u
theorem Chg.setCells {F : Nat → Prop} {a : World} {g : Nat} (hp : g < a.heap.size → F g) : ∀ (vs : List Value) (o : Nat) (b : World), Chg F a b → Chg F a (b.setCells g o vs)
 | [], _, _, h => h
 | v :: r, o, _, h => Chg.setCells hp r (o + 1) _ (h.setCell (p := ⟨g, o, none⟩) hp v)

theorem owns_chg {F : Nat → Prop} {w w' : World} {base e size n : Nat} {v : Value} {xs : List Value} (h : w.ownsRow base e size v n xs) (hc : Chg F w w') (hF : ∀ g, v.ownBlock = some g → ¬ F g) : w'.ownsRow base e size v n xs := by
 obtain ⟨hl, h | ⟨g, cap, cur, rfl, hg, hh, hn, hcap, hsz, htake⟩⟩ := h
 ·exact ⟨hl, .inl h⟩
 ·exact ⟨hl, .inr ⟨g, cap, cur, rfl, hg, (hc.block g (Array.getElem?_eq_some_iff.1 hh).1 (hF g rfl)).trans hh, hn, hcap, hsz, htake⟩⟩
theorem row_chg {F : Nat → Prop} {w w' : World} {b : Nat} {o : Obj} (h : w.heap[b]? = some o) (hc : Chg F w w') (hF : ¬ F b) : w'.heap[b]? = some o :=
 (hc.block b (Array.getElem?_eq_some_iff.1 h).1 hF).trans h

def spl (cur : Array Value) : Nat → List Value → Array Value
 | _, [] => cur
 | o, v :: r => spl (cur.setIfInBounds o v) (o + 1) r
theorem spl_size (cur : Array Value) : ∀ (vs : List Value) (o : Nat), (spl cur o vs).size = cur.size := by
 intro vs
 induction vs generalizing cur with
 | nil => intro o; rfl
 | cons v r ih => intro o; rw [spl, ih]; simp
theorem spl_toList : ∀ (vs : List Value) (cur : Array Value) (o : Nat), o + vs.length ≤ cur.size → (spl cur o vs).toList = cur.toList.take o ++ vs ++ cur.toList.drop (o + vs.length)
 | [], cur, o, h => by simp [spl]
 | v :: r, cur, o, h => by
  simp only [List.length_cons] at h
  rw [spl, spl_toList r _ (o + 1) (by simp; omega)]
  have hlt : o < cur.toList.length := by simp; omega
  have h1 : (cur.setIfInBounds o v).toList = cur.toList.set o v := Array.toList_setIfInBounds ..
  rw [h1, List.take_set, List.drop_set, if_pos (by omega), List.take_succ_eq_append_getElem hlt]
  rw [List.set_append_right _ _ (by simp; omega)]
  simp only [List.length_take, List.length_cons]
  rw [show o - min o cur.toList.length = 0 by omega, show o + 1 + r.length = o + (r.length + 1) by omega]
  simp
theorem heap_setCells_same (g : Nat) (t : TypeId) : ∀ (vs : List Value) (o : Nat) (w : World) (cur : Array Value), w.heap[g]? = some (.cells cur t (0, 0)) → (w.setCells g o vs).heap[g]? = some (.cells (spl cur o vs) t (0, 0))
 | [], _, _, _, h => h
 | v :: r, o, w, cur, h => by
  rw [World.setCells, spl]
  exact heap_setCells_same g t r (o + 1) _ _ (heap_setCell_same w g o cur t v h)

theorem cell_of_cells {w : World} {g j : Nat} {cur : Array Value} {t : TypeId} (h : w.heap[g]? = some (.cells cur t (0, 0))) : w.cell? ⟨g, j, none⟩ = cur[j]? := cell_of_row w g j cur t (0, 0) h
theorem frozen_of_cells {w : World} {g j : Nat} {cur : Array Value} {t : TypeId} (h : w.heap[g]? = some (.cells cur t (0, 0))) : w.frozen? ⟨g, j, none⟩ = false := frozen_of_row w g j cur t h
end
section
open Go.RowKit

theorem hq {p : Prop} (h : p) : Hid p := h
def AllK (K : Nat) (ls : List (List Value)) : Prop := ∀ l ∈ ls, l.length = K
theorem AllK.len {K : Nat} : ∀ {ls : List (List Value)}, AllK K ls → ls.flatten.length = ls.length * K
 | [], _ => by simp
 | a :: l, h => by
  rw [List.flatten_cons, List.length_append, h a (by simp), AllK.len (ls := l) (fun x hx => h x (by simp [hx])), List.length_cons, Nat.succ_mul]
  omega
theorem AllK.at {K : Nat} : ∀ {ls : List (List Value)}, AllK K ls → ∀ (i : Nat) (h : i < ls.length) (j : Nat), j < K → ls.flatten[i * K + j]? = (ls[i])[j]?
 | [], _, i, h, _, _ => by simp at h
 | a :: l, hk, 0, _, j, hj => by
  rw [Nat.zero_mul, Nat.zero_add, List.flatten_cons, List.getElem?_append_left (by rw [hk a (by simp)]; exact hj)]
  rfl
 | a :: l, hk, i + 1, h, j, hj => by
  rw [List.flatten_cons, List.getElem?_append_right (by rw [hk a (by simp), Nat.succ_mul]; omega), hk a (by simp), show (i + 1) * K + j - K = i * K + j by rw [Nat.succ_mul]; omega]
  exact AllK.at (fun x hx => hk x (by simp [hx])) i (by simpa using h) j hj
theorem AllK.set {K : Nat} {ls : List (List Value)} (h : AllK K ls) (i : Nat) {c : List Value} (hc : c.length = K) : AllK K (ls.set i c) := fun l hl => by
 rcases List.mem_or_eq_of_mem_set hl with h1 | h1
 ·exact h l h1
 ·rw [h1, hc]
theorem AllK.flat_set {K : Nat} : ∀ {ls : List (List Value)}, AllK K ls → ∀ (i : Nat), i < ls.length → ∀ (c : List Value), ls.flatten.take (i * K) ++ c ++ ls.flatten.drop (i * K + K) = (ls.set i c).flatten
 | [], _, i, h, _ => by simp at h
 | a :: l, hk, 0, _, c => by
  rw [Nat.zero_mul, Nat.zero_add, List.take_zero, List.nil_append, List.flatten_cons, List.set_cons_zero, List.flatten_cons, List.drop_left' (hk a (by simp))]
 | a :: l, hk, i + 1, h, c => by
  have ih := AllK.flat_set (K := K) (ls := l) (fun x hx => hk x (by simp [hx])) i (by simpa using h) c
  have ha := hk a (by simp)
  rw [List.set_cons_succ, List.flatten_cons, List.flatten_cons, ← ih, show (i + 1) * K = a.length + i * K by rw [ha, Nat.succ_mul]; omega, List.take_length_add_append, show a.length + i * K + K = a.length + (i * K + K) by omega, List.drop_length_add_append]
  simp
theorem Row.rangeL {w : World} {v : Value} {ls : List (List Value)} {K : Nat} (hk : AllK K ls) (h : Row w v ls.length ls.flatten) :
  ∃ (a : Option Addr) (b off cap : Nat), v = .slice a ls.length cap ∧ ls.length ≤ cap ∧ cap ≤ maxLen ∧ (0 < ls.length → a = some ⟨b, off, none⟩) ∧ ∀ u, Below w.heap.size w u → ∀ (i : Nat) (hi : i < ls.length), u.rangeAt b (off + i * K) ls[i] := by
 obtain ⟨a, b, off, cap, h1, h2, h3, h4, h5, h6⟩ := h
 refine ⟨a, b, off, cap, h1, h2, h3, h4, fun u hu i hi j x hx => ?_⟩
 have hj : j < K := by
  have := (List.getElem?_eq_some_iff.1 hx).1
  rwa [hk _ (List.getElem_mem hi)] at this
 have e := h5 (i * K + j) x ((hk.at i hi j hj).trans hx)
 rw [Nat.add_assoc]
 exact (hu.cell (cell_lt e)).trans e
theorem take_splice {X c : List Value} {p m : Nat} (h : p + c.length ≤ m) (hm : m ≤ X.length) : (X.take p ++ c ++ X.drop (p + c.length)).take m = (X.take m).take p ++ c ++ (X.take m).drop (p + c.length) := by
 have hl : (X.take p ++ c).length = p + c.length := by rw [List.length_append, List.length_take]; omega
 have e : m = (X.take p ++ c).length + (m - (p + c.length)) := by omega
 rw [List.take_take, Nat.min_eq_left (by omega), List.drop_take]
 conv => lhs; rw [e, List.take_length_add_append]
theorem owns_putL {w : World} {base : Nat} {e : TypeId} {K g n cap : Nat} {ls : List (List Value)} (h : w.ownsRow base e K (.slice (some ⟨g, 0, none⟩) n cap) n ls.flatten) (hl : ls.length = n) (hk : AllK K ls) (i : Nat) (hi : i < n) (c : List Value) (hc : c.length = K) :
  (w.setCells g (i * K) c).ownsRow base e K (.slice (some ⟨g, 0, none⟩) n cap) n (ls.set i c).flatten ∧ w.there g (i * K) K := by
 obtain ⟨h1, h2⟩ := h
 have hle : i * K + K ≤ n * K := by rw [← Nat.succ_mul]; exact Nat.mul_le_mul_right _ hi
 rcases h2 with ⟨h2, _⟩ | ⟨g', cap', cur, hv, hb, hg, hnc, hcm, hsz, htk⟩
 ·cases h2
 ·simp only [Value.slice.injEq, Option.some.injEq, Addr.mk.injEq, true_and, and_true] at hv
  obtain ⟨rfl, rfl⟩ := hv
  have hcur : n * K ≤ cur.size := by rw [hsz]; exact Nat.mul_le_mul_right _ hnc
  refine ⟨⟨by rw [(hk.set i hc).len, List.length_set, hl], .inr ⟨g, cap, spl cur (i * K) c, rfl, hb, heap_setCells_same g e c (i * K) w cur hg, hnc, hcm, by rw [spl_size, hsz], ?_⟩⟩, fun j hj => ?_⟩
  ·have hx := take_splice (X := cur.toList) (c := c) (p := i * K) (m := n * K) (by omega) (by simpa using hcur)
   rw [spl_toList c cur (i * K) (by omega), hx, htk, hc, hk.flat_set i (by omega) c]
  ·rw [cell_of_row w g (i * K + j) cur e (0, 0) hg]
   exact ⟨by simp; omega, frozen_of_row w g (i * K + j) cur e hg⟩
end
section
open Go.RowKit

theorem toMsg_any (o k v : Int) (w : World) :
  Calls Try.prog 49 #[.agg #[.int .i64 o, .int .i64 k, .int .i64 v]] w fun e w' => e = .returned (.agg #[.int .i64 o, .int .i64 k, .int .i64 v]) ∧ Below w.heap.size w w' := by
 go_enter Try.func49, Try.ntmps49
 go_wp2
 refine bodyPost_ret (v := .agg #[.int .i64 o, .int .i64 k, .int .i64 v]) (by simp [results, Try.results49, go_sem]) rfl ⟨rfl, ?_⟩
 exact (((Below.refl _ _).alloc (Nat.le_refl _) _).alloc (by simp) _).alloc (by simp; omega) _
end
section
open Go.RowKit

theorem toPair_any (k v : Int) (w : World) :
  Calls Try.prog 70 #[.agg #[.int .i64 k, .int .i64 v]] w fun e w' => e = .returned (.agg #[.int .i64 k, .int .i64 v]) ∧ Below w.heap.size w w' := by
 go_enter Try.func70, Try.ntmps70
 go_wp2
 refine bodyPost_ret (v := .agg #[.int .i64 k, .int .i64 v]) (by simp [results, Try.results70, go_sem]) rfl ⟨rfl, ?_⟩
 exact (((Below.refl _ _).alloc (Nat.le_refl _) _).alloc (by simp) _).alloc (by simp; omega) _

theorem eqPair_any (a b c d : Int) (w : World) :
  Calls Try.prog 71 #[.agg #[.int .i64 a, .int .i64 b], .agg #[.int .i64 c, .int .i64 d]] w fun e w' => e = .returned (.bool (eqPairB a b c d)) ∧ Below w.heap.size w w' := by
 go_enter Try.func71, Try.ntmps71
 go_wp2
 all_goals (go_ret; refine ⟨ret_bool ?_, ((Below.refl _ _).alloc (Nat.le_refl _) _).alloc (by simp) _⟩; simp_all [eqPairB])

theorem szPairS_any (a : Option Addr) (n cap : Nat) (left : Int) (hn : n ≤ maxLen) (hl : 0 ≤ left) (hl2 : left ≤ 1048576) (w : World) :
  Calls Try.prog 61 #[.slice a n cap, .int .i64 left] w fun e w' => e = .returned (.int .i64 (if (n : Int) ≤ left then left - n else -1)) ∧ w' = w := by
 unfold maxLen at hn
 by_cases h : (n : Int) ≤ left
 ·go_enter Try.func61, Try.ntmps61
  go_wp2
  go_ret
  exact ⟨rfl, rfl⟩
 ·go_enter Try.func61, Try.ntmps61
  go_wp2
  go_ret
  exact ⟨rfl, rfl⟩

theorem Try.info152 : (Try.prog.info? 152).map (fun i => (i.zero, i.size, i.bytes)) = some (some (.agg #[.int .i64 0, .int .i64 0]), 2, 16) := by kernel_rfl

def filledP (l : List (Int × Int)) (k : Nat) : List Value := flatP (l.take k) ++ List.replicate ((l.length - k) * 2) (.int .i64 0)

theorem madeCells_all (zs : Array Value) (z : Value) (h0 : 0 < zs.size) (h : ∀ i, i < zs.size → zs[i]! = z) (n : Nat) : (madeCells zs n).toList = List.replicate n z := by
 apply List.ext_getElem?
 intro j
 by_cases hj : j < n
 ·simp [madeCells, hj]
  exact h _ (Nat.mod_lt _ h0)
 ·simp [madeCells, hj]

theorem filledP_full (l : List (Int × Int)) : filledP l l.length = flatP l := by simp [filledP]
theorem take_succP (l : List (Int × Int)) (k : Nat) (hk : k < l.length) : l.take (k + 1) = l.take k ++ [(kOf l k, vOf l k)] := by
 have e : (kOf l k, vOf l k) = l[k] := by simp [kOf, vOf, List.getD, hk]
 rw [List.take_succ_eq_append_getElem hk, e]
theorem filledP_zero (l : List (Int × Int)) (k : Nat) (hk : k < l.length) : (filledP l k)[k * 2]? = some (.int .i64 0) ∧ (filledP l k)[k * 2 + 1]? = some (.int .i64 0) := by
 have hl : (flatP (l.take k)).length = k * 2 := by rw [flatP_length]; simp; omega
 constructor
 ·rw [filledP, List.getElem?_append_right (by omega), List.getElem?_replicate_of_lt (by omega)]
 ·rw [filledP, List.getElem?_append_right (by omega), List.getElem?_replicate_of_lt (by omega)]
theorem filledP_step (l : List (Int × Int)) (k : Nat) (hk : k < l.length) : ((filledP l k).set (k * 2) (.int .i64 (kOf l k))).set (k * 2 + 1) (.int .i64 (vOf l k)) = filledP l (k + 1) := by
 have hl : (flatP (l.take k)).length = k * 2 := by rw [flatP_length]; simp; omega
 obtain ⟨m, hm⟩ : ∃ m, (l.length - k) * 2 = m + 1 + 1 := ⟨(l.length - k) * 2 - 2, by omega⟩
 have hm2 : (l.length - (k + 1)) * 2 = m := by omega
 rw [filledP, filledP, take_succP l k hk, flatP_append, hm, hm2, List.replicate_succ, List.replicate_succ]
 rw [List.set_append_right _ _ (by omega), hl, Nat.sub_self, List.set_cons_zero, List.set_append_right _ _ (by omega), hl, show k * 2 + 1 - k * 2 = 1 by omega]
 simp [flatP]

theorem toPairS_any (v : Value) (l : List (Int × Int)) (w : World) (hr : Row w v l.length (flatP l)) (hn : l.length ≤ 1048576) :
  Calls Try.prog 64 #[v] w fun e w' => ∃ v', e = .returned v' ∧ w'.ownsRow w.heap.size 152 2 v' l.length (flatP l) ∧ Below w.heap.size w w' := by
 obtain ⟨a, b, off, cap, rfl, hcap, hmax, ha, hk, hv⟩ := hr.pairs
 obtain ⟨i0, hi, hz0, hz1, hz2⟩ := info_parts Try.info152
 unfold maxLen at hmax
 go_enter Try.func64, Try.ntmps64
 go_wp2_with (at_make; refine wpList_make_full _ rfl _ _ 86 rfl w.heap.size 152 i0 _ 2 Try.underlying86 hi hz0 hz1 .i64 .i64 _ _ l.length rfl rfl rfl rfl ?c1 ?c2 ?c3 ?_)
 case c1 => rw [hz2]; omega
 case c2 => unfold maxLen; omega
 case c3 => exact Nat.le_refl _
 intro w0 hown0 hgrow0
 have hb0 : Below w.heap.size w w0 := (Below.refl _ _).grown hgrow0 (Nat.le_refl _) (fun k hk => by cases hk)
 clear hgrow0
 go_wp2
 go_loopw [4] (fun i wr => ∃ k : Nat, k ≤ l.length ∧ i = .int .i64 k ∧ wr.ownsRow w.heap.size 152 2 (.slice (some ⟨w.heap.size, 0, none⟩) l.length l.length) l.length (filledP l k) ∧ Below w.heap.size w wr)
  (fun i _ => l.length - (intOf i).toNat)
 case atStart => exact ⟨0, Nat.zero_le _, rfl, by rw [madeCells_all _ (.int .i64 0) (by decide) (fun i hi => by match i, hi with | 0, _ => rfl | 1, _ => rfl)] at hown0; simpa [filledP, flatP] using hown0, hb0⟩
 case round =>
  obtain ⟨k, hkl, rfl, hown, hb⟩ := hrel
  clear hown0 hb0
  by_cases hlt : k < l.length
  ·have hal := ha (by omega)
   subst hal
   have c0 := hk k hlt
   have c1 := hv k hlt
   have hbl := cell_lt c0
   have d0 : wr.cell? ⟨b, off + k * 2, none⟩ = some (.int .i64 (kOf l k)) := (hb.cell (by exact hbl)).trans c0
   have d1 : wr.cell? ⟨b, off + k * 2 + 1, none⟩ = some (.int .i64 (vOf l k)) := (hb.cell (by exact hbl)).trans c1
   clear hk hv c0 c1 ha
   go_wp2_with fail
   refine (toPair_any _ _ _).mono ?_
   rintro e w1 ⟨rfl, hb1⟩
   have own1 := owns_below hown hb1
   have e0 := (own1.cellAt (k * 2) (by omega)).trans (filledP_zero l k hlt).1
   have e1 := (own1.cellAt (k * 2 + 1) (by omega)).trans (filledP_zero l k hlt).2
   have f0 := own1.frozenAt (k * 2)
   have f1 := own1.frozenAt (k * 2 + 1)
   have st := (own1.stored (k * 2) (.int .i64 (kOf l k))).1
   have st2 := (st.stored (k * 2 + 1) (.int .i64 (vOf l k))).1
   rw [filledP_step l k hlt] at st2
   have hb2 : Below w.heap.size w w1 := hb.trans (hb1.mono hb.size)
   clear st hown hb1 d0 d1 own1
   have ST : Hid (((w1.setCell ⟨w.heap.size, k * 2, none⟩ (.int .i64 (kOf l k))).setCell ⟨w.heap.size, k * 2 + 1, none⟩ (.int .i64 (vOf l k))).ownsRow w.heap.size 152 2 (.slice (some ⟨w.heap.size, 0, none⟩) l.length l.length) l.length (filledP l (k + 1))) := st2
   clear st2
   go_wp2
   go_roundw
   case rel => exact ⟨k + 1, by omega, by go_num, ST.out, (hb2.setCell (Nat.le_refl _) _).setCell (Nat.le_refl _) _⟩
   case measure => simp [intOf]; omega
  ·go_wp2
   go_ret
   have hkk : k = l.length := by omega
   subst hkk
   rw [filledP_full] at hown
   exact ⟨_, rfl, hown, hb⟩

theorem eqPairS_any (v1 v2 : Value) (l1 l2 : List (Int × Int)) (w : World) (h1 : Row w v1 l1.length (flatP l1)) (h2 : Row w v2 l2.length (flatP l2)) :
  Calls Try.prog 67 #[v1, v2] w fun e w' => e = .returned (.bool (decide (l1 = l2))) ∧ Below w.heap.size w w' := by
 obtain ⟨a, b, off, cap, rfl, hcap, hmax, ha, hk, hv⟩ := h1.pairs
 obtain ⟨a2, b2, off2, cap2, rfl, hcap2, hmax2, ha2, hk2, hv2⟩ := h2.pairs
 unfold maxLen at hmax hmax2
 by_cases hl : l1.length = l2.length
 ·have hne : ((l1.length : Int) != (l2.length : Int)) = false := by rw [bne_eq_false_iff_eq]; omega
  have HL : Hid (l1.length = l2.length) := hl
  have hl2 : l1.length ≤ l2.length := by omega
  clear hl
  go_enter Try.func67, Try.ntmps67
  go_wp2
  go_loopw [5] (fun i wr => ∃ k : Nat, k ≤ l1.length ∧ i = .int .i64 k ∧ (∀ i, i < k → kOf l1 i = kOf l2 i ∧ vOf l1 i = vOf l2 i) ∧ Below w.heap.size w wr)
   (fun i _ => l1.length - (intOf i).toNat)
  case atStart => exact ⟨0, Nat.zero_le _, rfl, fun i hi => absurd hi (Nat.not_lt_zero _), Below.refl _ _⟩
  case round =>
   obtain ⟨k, hkl, rfl, hall, hb⟩ := hrel
   have ALL : Hid (∀ i, i < k → kOf l1 i = kOf l2 i ∧ vOf l1 i = vOf l2 i) := hall
   clear hall
   by_cases hlt : k < l1.length
   ·have hal := ha (by omega)
    subst hal
    have hal2 := ha2 (by omega)
    subst hal2
    have hlt2 : k < l2.length := by omega
    have d0 : wr.cell? ⟨b, off + k * 2, none⟩ = some (.int .i64 (kOf l1 k)) := (hb.cell (by exact cell_lt (hk k hlt))).trans (hk k hlt)
    have d1 : wr.cell? ⟨b, off + k * 2 + 1, none⟩ = some (.int .i64 (vOf l1 k)) := (hb.cell (by exact cell_lt (hv k hlt))).trans (hv k hlt)
    have d2 : wr.cell? ⟨b2, off2 + k * 2, none⟩ = some (.int .i64 (kOf l2 k)) := (hb.cell (by exact cell_lt (hk2 k (by omega)))).trans (hk2 k (by omega))
    have d3 : wr.cell? ⟨b2, off2 + k * 2 + 1, none⟩ = some (.int .i64 (vOf l2 k)) := (hb.cell (by exact cell_lt (hv2 k (by omega)))).trans (hv2 k (by omega))
    clear hk hv ha hk2 hv2 ha2
    go_wp2_with fail
    cases hq : eqPairB (kOf l1 k) (vOf l1 k) (kOf l2 k) (vOf l2 k)
    ·have NE : Hid (decide (l1 = l2) = false) := decide_eq_false (ne_of_eqPairB hq)
     go_region_with (go_at_call 71; refine (eqPair_any _ _ _ _ _).mono ?_; rintro e w1 ⟨rfl, hb1⟩)
     all_goals
      go_wp2
      go_ret
      exact ⟨ret_bool NE.out.symm, hb.drew.trans (hb1.mono hb.size)⟩
    ·have EQ : Hid (kOf l1 k = kOf l2 k ∧ vOf l1 k = vOf l2 k) := eqPairB_true hq
     go_region_with (go_at_call 71; refine (eqPair_any _ _ _ _ _).mono ?_; rintro e w1 ⟨rfl, hb1⟩)
     all_goals
      go_wp2
      go_roundw
      case rel => exact ⟨k + 1, by omega, by go_num, fun i hi => if h : i < k then ALL.out i h else by rw [show i = k by omega]; exact EQ.out, hb.drew.trans (hb1.mono hb.size)⟩
      case measure => simp [intOf]; omega
   ·go_wp2
    go_ret
    refine ⟨ret_bool ?_, hb⟩
    symm
    rw [decide_eq_true_iff]
    exact ext_of HL.out (fun i hi => ALL.out i (by omega))
 ·have hne : ((l1.length : Int) != (l2.length : Int)) = true := by rw [bne_iff_ne]; omega
  go_enter Try.func67, Try.ntmps67
  go_wp2
  go_ret
  refine ⟨ret_bool ?_, Below.refl _ _⟩
  symm
  rw [decide_eq_false_iff_not]
  intro h; exact hl (by rw [h])
end
section
open Go.RowKit

theorem owns_val {w : World} {base e size n : Nat} {v : Value} {xs : List Value} (h : w.ownsRow base e size v n xs) : ∃ a cap, v = .slice a n cap := by
 obtain ⟨_, ⟨rfl, rfl⟩ | ⟨g, cap, cur, rfl, _⟩⟩ := h
 ·exact ⟨none, 0, rfl⟩
 ·exact ⟨_, _, rfl⟩
def keysAfter (ks : List Int) (k : Int) : List Int := if ks.contains k then ks else ks.take (ks.countP (· < k)) ++ k :: ks.drop (ks.countP (· < k))
def valsAfter (ks vs : List Int) (k v : Int) : List Int := if ks.contains k then vs.set (ks.countP (· < k)) v else vs.take (ks.countP (· < k)) ++ v :: vs.drop (ks.countP (· < k))

def getS (ks vs : List Int) (k : Int) : Int × Bool := if ks.contains k then (vs.getD (ks.countP (· < k)) 0, true) else (0, false)
end
section
open Go.RowKit

def marksP (k : Int) (n : Nat) : List (Int × Int) := (List.range n).map fun (i : Nat) => (k + 2 * i, k + 2 * i + 1)
def midP (k : Int) (l : List (Int × Int)) (i : Nat) : List (Int × Int) := marksP k i ++ l.drop i
end
section
def getP : List (Int × Int) → Int → Int × Bool
 | [], _ => (0, false)
 | p :: l, k => if p.1 = k then (p.2, true) else getP l k
end
section
abbrev PL := List (Int × Int)
def keys (l : PL) : List Int := l.map (·.1)
def vals (l : PL) : List Int := l.map (·.2)
def Asc (l : PL) : Prop := (keys l).Pairwise (· < ·)
def putF (l : PL) (k v : Int) : PL := l.filter (fun p => decide (p.1 < k)) ++ (k, v) :: l.filter (fun p => decide (k < p.1))
def delF (l : PL) (k : Int) : PL := l.filter (fun p => decide (p.1 ≠ k))

def PairIn (p : Int × Int) : Prop := (0 ≤ p.1 ∧ p.1 ≤ 999) ∧ (-1000000000 ≤ p.2 ∧ p.2 ≤ 1000000000)
def MapP (l : PL) : Prop := Asc l ∧ ∀ p ∈ l, PairIn p

def clampI (x : Int) : Int := if x < -1000000000 then -1000000000 else if 1000000000 < x then 1000000000 else x
def doP (l : PL) (m : Int × Int × Int) : PL :=
 if m.1 = 1 then putF l m.2.1 m.2.2 else if m.1 = 2 then delF l m.2.1 else if m.1 = 3 then putF l m.2.1 (clampI ((getP l m.2.1).1 + m.2.2)) else l
def doL (l : PL) (m : Int × Int × Int) : PL := if mapOkB l = true ∧ msgOkB m.1 m.2.1 m.2.2 = true then doP l m else l
def allL (l : PL) (ms : List (Int × Int × Int)) : PL := ms.foldl doL l
end
end Go.Proofs.Ythfmifdpldmbaaa
