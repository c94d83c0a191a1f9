/-
  The plain functions that chapter 1's code computes (numbers and lists alone; nothing of the program).
  Rows of cells behind a slice's value, read and owned; lists of pairs as such rows.
  Contracts of the sorted search, the insertion and the deletion at slices of ints, laid at this program from the library of contracts.
  What a call changes, told by the set of blocks that it may write; rows of ints under insertion and deletion.
  Appending to a row of one's own: one element that was just laid; a whole list.
  Contracts of the small functions of chapter 1 on numbers and messages.
  Contracts of the functions on lists of pairs that the laws and chapter 1 use.
  MapGet as a plain function.
  Maps as ascending lists of pairs: putting, deleting, getting; plain mathematics.
  The model's way of putting into a map, pair by pair, comes to the plain function.
-/
import Derived.Test.YtekcnibohikmdaaRows
import Derived.WalkKit
import Derived.WalkSpells
import Derived.WalkLawsBesides
import Derived.Ground.Names2Prog
import Derived.Shelf.Slices.SearchI
import Derived.Shelf.Slices.Delete
import Derived.Shelf.Slices.Empties
import Derived.Shelf.Spec.SlicesInsert
import Derived.Shelf.Spec.SlicesInsertGrow
import Derived.Test.YtekcnibohikmdaaProg
import Derived.Laws.AppendOwnNone
import Derived.Deep.QuietTactic
import Derived.BigQuiet
import Derived.Deep.RegionWith
namespace Go.Proofs.Ytekcnibohikmdaa
set_option maxRecDepth 100000
set_option maxHeartbeats 8000000
section
def inB (x lo hi : Int) : Bool := decide (lo ≤ x ∧ x ≤ hi)
theorem inB_true {x lo hi : Int} (h1 : lo ≤ x) (h2 : x ≤ hi) : inB x lo hi = true := by simp [inB, h1, h2]
theorem inB_false1 {x lo hi : Int} (h1 : ¬ lo ≤ x) : inB x lo hi = false := by simp [inB]; omega
theorem inB_false2 {x lo hi : Int} (h2 : ¬ x ≤ hi) : inB x lo hi = false := by simp [inB]; omega
theorem inB_iff {x lo hi : Int} : inB x lo hi = true ↔ lo ≤ x ∧ x ≤ hi := by simp [inB]

def msgOkB (o k v : Int) : Bool := inB o 1 4 && (inB k 0 999 && (inB v (-1000000000) 1000000000 && ((v == 0) || ((o == 1) || (o == 3)))))

def kOf (l : List (Int × Int)) (i : Nat) : Int := (l.getD i (0, 0)).1
def vOf (l : List (Int × Int)) (i : Nat) : Int := (l.getD i (0, 0)).2
def eqPairB (a b c d : Int) : Bool := decide (a = c ∧ b = d)

def okAt (l : List (Int × Int)) (i : Nat) : Bool := inB (kOf l i) 0 999 && (inB (vOf l i) (-1000000000) 1000000000 && (i == 0 || decide (kOf l (i - 1) < kOf l i)))
def mapOkB (l : List (Int × Int)) : Bool := (List.range l.length).all (okAt l)

theorem mapOkB_true {l : List (Int × Int)} (h : ∀ i, i < l.length → okAt l i = true) : mapOkB l = true := by
 simp only [mapOkB, List.all_eq_true, List.mem_range]; exact h
theorem mapOkB_false {l : List (Int × Int)} {i : Nat} (hi : i < l.length) (h : okAt l i = false) : mapOkB l = false := by
 rw [Bool.eq_false_iff]
 intro hc
 simp only [mapOkB, List.all_eq_true, List.mem_range] at hc
 have := hc i hi
 rw [h] at this
 cases this
theorem mapOkB_at {l : List (Int × Int)} (h : mapOkB l = true) {i : Nat} (hi : i < l.length) : okAt l i = true := by
 simp only [mapOkB, List.all_eq_true, List.mem_range] at h
 exact h i hi
end
section
open Go.RowKit

theorem hid {p : Prop} (h : p) : Hid p := h
theorem bcell {W w1 : World} (hb : Below W.heap.size W w1) : (∀ b o, b < W.heap.size → w1.cell? ⟨b, o, none⟩ = W.cell? ⟨b, o, none⟩) ∧ (∀ b o, b < W.heap.size → w1.frozen? ⟨b, o, none⟩ = W.frozen? ⟨b, o, none⟩) :=
 ⟨fun b o h => hb.cell (p := ⟨b, o, none⟩) h, fun b o h => hb.frozen (p := ⟨b, o, none⟩) h⟩
theorem Below.and {w w1 w2 : World} (h1 : Below w.heap.size w w1) (h2 : Below w1.heap.size w1 w2) : Below w.heap.size w w2 := h1.trans (h2.mono h1.size)
theorem ret_bool {a b : Bool} (h : a = b) : Ending.returned (.bool a) = .returned (.bool b) := by rw [h]
theorem ret_int {k : IntKind} {a b : Int} (h : a = b) : Ending.returned (.int k a) = .returned (.int k b) := by rw [h]

theorem cell_lt {w : World} {a : Addr} {v : Value} (h : w.cell? a = some v) : a.block < w.heap.size := by
 unfold World.cell? at h
 by_cases hb : a.block < w.heap.size
 ·exact hb
 ·simp [Array.getElem?_eq_none (Nat.le_of_not_lt hb)] at h

def Row (w : World) (v : Value) (n : Nat) (xs : List Value) : Prop :=
 ∃ (a : Option Addr) (b off cap : Nat), v = .slice a n cap ∧ n ≤ cap ∧ cap ≤ maxLen ∧ (0 < n → a = some ⟨b, off, none⟩) ∧ (∀ j u, xs[j]? = some u → w.cell? ⟨b, off + j, none⟩ = some u) ∧ (a = none → cap = 0)

theorem Row.below {w w' : World} {v : Value} {n : Nat} {xs : List Value} (h : Row w v n xs) (hb : Below w.heap.size w w') : Row w' v n xs := by
 obtain ⟨a, b, off, cap, h1, h2, h3, h4, h5, h6⟩ := h
 refine ⟨a, b, off, cap, h1, h2, h3, h4, fun j u hj => ?_, h6⟩
 have := h5 j u hj
 rw [hb.cell (p := ⟨b, off + j, none⟩) (cell_lt this)]
 exact this

theorem Row.of_owns {w : World} {base e size n : Nat} {v : Value} {xs : List Value} (h : w.ownsRow base e size v n xs) : Row w v n xs := by
 have h0 := h
 obtain ⟨hl, h | ⟨g, cap, cur, rfl, hg, hh, hn, hcap, hsz, htake⟩⟩ := h
 ·obtain ⟨rfl, rfl⟩ := h
  have hx : xs = [] := by simpa using hl
  subst hx
  exact ⟨none, 0, 0, 0, rfl, Nat.le_refl _, Nat.zero_le _, fun h => absurd h (Nat.lt_irrefl _), fun j u hj => by simp at hj, fun _ => rfl⟩
 ·refine ⟨some ⟨g, 0, none⟩, g, 0, cap, rfl, hn, hcap, fun _ => rfl, fun j u hj => ?_, fun h => by cases h⟩
  have hlt : j < n * size := by
   have := (List.getElem?_eq_some_iff.1 hj).1
   omega
  rw [Nat.zero_add, h0.cellAt j hlt]
  exact hj

theorem owns_below {w w' : World} {base e size n : Nat} {v : Value} {xs : List Value} (h : w.ownsRow base e size v n xs) (hb : Below w.heap.size w w') : w'.ownsRow base e size v n xs := by
 obtain ⟨hl, h | ⟨g, cap, cur, rfl, hg, hh, hn, hcap, hsz, htake⟩⟩ := h
 ·exact ⟨hl, .inl h⟩
 ·refine ⟨hl, .inr ⟨g, cap, cur, rfl, hg, ?_, hn, hcap, hsz, htake⟩⟩
  rw [hb.block g (Array.getElem?_eq_some_iff.1 hh).1]
  exact hh
theorem owns_mono {w : World} {base base' e size n : Nat} {v : Value} {xs : List Value} (h : w.ownsRow base e size v n xs) (hb : base' ≤ base) : w.ownsRow base' e size v n xs := by
 obtain ⟨hl, h | ⟨g, cap, cur, rfl, hg, hh, hn, hcap, hsz, htake⟩⟩ := h
 ·exact ⟨hl, .inl h⟩
 ·exact ⟨hl, .inr ⟨g, cap, cur, rfl, Nat.le_trans hb hg, hh, hn, hcap, hsz, htake⟩⟩

def flatP (l : List (Int × Int)) : List Value := l.flatMap fun p => [.int .i64 p.1, .int .i64 p.2]

theorem flatP_length (l : List (Int × Int)) : (flatP l).length = l.length * 2 := by
 induction l with
 | nil => rfl
 | cons a l ih => simp only [flatP, List.flatMap_cons, List.length_append, List.length_cons, List.length_nil] at *; omega
theorem flatP_append (l m : List (Int × Int)) : flatP (l ++ m) = flatP l ++ flatP m := by simp [flatP, List.flatMap_append]
theorem flatP_at (l : List (Int × Int)) : ∀ i, i < l.length → (flatP l)[i * 2]? = some (.int .i64 (kOf l i)) ∧ (flatP l)[i * 2 + 1]? = some (.int .i64 (vOf l i)) := by
 induction l with
 | nil => intro i h; simp at h
 | cons a l ih =>
  intro i h
  cases i with
  | zero => simp [flatP, kOf, vOf]
  | succ i =>
   have := ih i (by simpa using h)
   have e1 : (i + 1) * 2 = i * 2 + 1 + 1 := by omega
   have e2 : (i + 1) * 2 + 1 = (i * 2 + 1) + 1 + 1 := by omega
   rw [e2, e1]
   simpa [flatP, kOf, vOf] using this

theorem Row.pairs {w : World} {v : Value} {l : List (Int × Int)} (h : Row w v l.length (flatP l)) :
  ∃ (a : Option Addr) (b off cap : Nat), v = .slice a l.length cap ∧ l.length ≤ cap ∧ cap ≤ maxLen ∧ (0 < l.length → a = some ⟨b, off, none⟩) ∧
   (∀ i, i < l.length → w.cell? ⟨b, off + i * 2, none⟩ = some (.int .i64 (kOf l i))) ∧ (∀ i, i < l.length → w.cell? ⟨b, off + i * 2 + 1, none⟩ = some (.int .i64 (vOf l i))) := by
 obtain ⟨a, b, off, cap, h1, h2, h3, h4, h5, _⟩ := h
 exact ⟨a, b, off, cap, h1, h2, h3, h4, fun i hi => h5 _ _ (flatP_at l i hi).1, fun i hi => h5 _ _ (flatP_at l i hi).2⟩
end
end Go.Proofs.Ytekcnibohikmdaa
namespace Go.Proofs
open Go.Shelf
end Go.Proofs
namespace Go.Proofs.Ytekcnibohikmdaa
section
open Go.RowKit

structure Chg (F : Nat → Prop) (w w' : World) : Prop where
 os : w'.os = w.os
 tape : w'.tape = w.tape
 output : w'.output = w.output
 size : w.heap.size ≤ w'.heap.size
 block : ∀ k, k < w.heap.size → ¬ F k → w'.heap[k]? = w.heap[k]?

theorem Chg.refl (F : Nat → Prop) (w : World) : Chg F w w := ⟨rfl, rfl, rfl, Nat.le_refl _, fun _ _ _ => rfl⟩
theorem Chg.trans {F G : Nat → Prop} {a b c : World} (h : Chg F a b) (k : Chg G b c) (hG : ∀ g, g < a.heap.size → G g → F g) : Chg F a c :=
 ⟨k.os.trans h.os, k.tape.trans h.tape, k.output.trans h.output, Nat.le_trans h.size k.size,
  fun g hg hn => (k.block g (Nat.lt_of_lt_of_le hg h.size) (fun e => hn (hG g hg e))).trans (h.block g hg hn)⟩
theorem Chg.mono {F G : Nat → Prop} {a b : World} (h : Chg F a b) (hG : ∀ g, g < a.heap.size → F g → G g) : Chg G a b :=
 ⟨h.os, h.tape, h.output, h.size, fun g hg hn => h.block g hg (fun e => hn (hG g hg e))⟩
theorem Chg.of_below {F : Nat → Prop} {a b : World} (h : Below a.heap.size a b) : Chg F a b := ⟨h.os, h.tape, h.output, h.size, fun g hg _ => h.block g hg⟩
theorem Chg.below {F : Nat → Prop} {a b : World} {B : Nat} (h : Chg F a b) (hF : ∀ g, g < a.heap.size → F g → B ≤ g) (hB : B ≤ a.heap.size) : Below B a b :=
 ⟨h.os, h.tape, h.output, h.size, fun g hg => h.block g (Nat.lt_of_lt_of_le hg hB) (fun e => by have := hF g (Nat.lt_of_lt_of_le hg hB) e; omega)⟩
theorem Chg.alloc {F : Nat → Prop} {a b : World} (h : Chg F a b) (o : Obj) : Chg F a (b.alloc o) :=
 h.trans (Chg.of_below (F := F) ((Below.refl _ _).alloc (Nat.le_refl _) o)) (fun _ _ e => e)
theorem Chg.drew {F : Nat → Prop} {a b : World} (h : Chg F a b) : Chg F a b.drew := ⟨h.os, h.tape, h.output, h.size, h.block⟩
theorem Chg.drewN {F : Nat → Prop} {a b : World} (h : Chg F a b) (n : Nat) : Chg F a (b.drewN n) :=
 h.trans (Chg.of_below (F := F) (below_drewN (Below.refl _ _) n)) (fun _ _ e => e)
theorem Chg.setCell {F : Nat → Prop} {a b : World} (h : Chg F a b) {p : Addr} (hp : p.block < a.heap.size → F p.block) (u : Value) : Chg F a (b.setCell p u) :=
 ⟨h.os, h.tape, h.output, by simpa using h.size, fun k hk hn => (heap_setCell_other _ _ _ _ (fun e => hn (by subst e; exact hp hk))).trans (h.block k hk hn)⟩
theorem Chg.setAt {F : Nat → Prop} {a b : World} (h : Chg F a b) (g j : Nat) (hg : F g) (u : Value) : Chg F a (b.setCell ⟨g, j, none⟩ u) := h.setCell (p := ⟨g, j, none⟩) (fun _ => hg) u
theorem Chg.setCells {F : Nat → Prop} {a : World} {g : Nat} (hp : g < a.heap.size → F g) : ∀ (vs : List Value) (o : Nat) (b : World), Chg F a b → Chg F a (b.setCells g o vs)
 | [], _, _, h => h
 | v :: r, o, _, h => Chg.setCells hp r (o + 1) _ (h.setCell (p := ⟨g, o, none⟩) hp v)

theorem owns_chg {F : Nat → Prop} {w w' : World} {base e size n : Nat} {v : Value} {xs : List Value} (h : w.ownsRow base e size v n xs) (hc : Chg F w w') (hF : ∀ g, v.ownBlock = some g → ¬ F g) : w'.ownsRow base e size v n xs := by
 obtain ⟨hl, h | ⟨g, cap, cur, rfl, hg, hh, hn, hcap, hsz, htake⟩⟩ := h
 ·exact ⟨hl, .inl h⟩
 ·exact ⟨hl, .inr ⟨g, cap, cur, rfl, hg, (hc.block g (Array.getElem?_eq_some_iff.1 hh).1 (hF g rfl)).trans hh, hn, hcap, hsz, htake⟩⟩
theorem row_chg {F : Nat → Prop} {w w' : World} {b : Nat} {o : Obj} (h : w.heap[b]? = some o) (hc : Chg F w w') (hF : ¬ F b) : w'.heap[b]? = some o :=
 (hc.block b (Array.getElem?_eq_some_iff.1 h).1 hF).trans h

def spl (cur : Array Value) : Nat → List Value → Array Value
 | _, [] => cur
 | o, v :: r => spl (cur.setIfInBounds o v) (o + 1) r
theorem spl_toList : ∀ (vs : List Value) (cur : Array Value) (o : Nat), o + vs.length ≤ cur.size → (spl cur o vs).toList = cur.toList.take o ++ vs ++ cur.toList.drop (o + vs.length)
 | [], cur, o, h => by simp [spl]
 | v :: r, cur, o, h => by
  simp only [List.length_cons] at h
  rw [spl, spl_toList r _ (o + 1) (by simp; omega)]
  have hlt : o < cur.toList.length := by simp; omega
  have h1 : (cur.setIfInBounds o v).toList = cur.toList.set o v := Array.toList_setIfInBounds ..
  rw [h1, List.take_set, List.drop_set, if_pos (by omega), List.take_succ_eq_append_getElem hlt]
  rw [List.set_append_right _ _ (by simp; omega)]
  simp only [List.length_take, List.length_cons]
  rw [show o - min o cur.toList.length = 0 by omega, show o + 1 + r.length = o + (r.length + 1) by omega]
  simp
theorem heap_setCells_same (g : Nat) (t : TypeId) : ∀ (vs : List Value) (o : Nat) (w : World) (cur : Array Value), w.heap[g]? = some (.cells cur t (0, 0)) → (w.setCells g o vs).heap[g]? = some (.cells (spl cur o vs) t (0, 0))
 | [], _, _, _, h => h
 | v :: r, o, w, cur, h => by
  rw [World.setCells, spl]
  exact heap_setCells_same g t r (o + 1) _ _ (heap_setCell_same w g o cur t v h)

theorem cell_of_cells {w : World} {g j : Nat} {cur : Array Value} {t : TypeId} (h : w.heap[g]? = some (.cells cur t (0, 0))) : w.cell? ⟨g, j, none⟩ = cur[j]? := cell_of_row w g j cur t (0, 0) h
theorem frozen_of_cells {w : World} {g j : Nat} {cur : Array Value} {t : TypeId} (h : w.heap[g]? = some (.cells cur t (0, 0))) : w.frozen? ⟨g, j, none⟩ = false := frozen_of_row w g j cur t h
end
section
open Go.RowKit

theorem chg_of_grown {w w' : World} {r : Option Nat} (h : w.grownBy w' r) : Chg (fun g => r = some g) w w' :=
 ⟨h.os, h.tape, h.output, h.size, fun k hk hn => h.block k hk (fun e => hn e.symm)⟩
theorem below_of_own {w w' : World} {base e size n : Nat} {v : Value} {xs : List Value} (h : w.ownsRow base e size v n xs) (hc : Chg (fun g => v.ownBlock = some g) w w') (hb : base ≤ w.heap.size) : Below base w w' :=
 hc.below (fun g _ hg => (h.lt g hg).1) hb

theorem app_one {P : Program} {ops : Array Oper} {rest : List Oper} {o : Oper} {a : Act} {Q : Exit → Act → World → Prop} (W : World) (hgd : o.guard = none) (s x : Operand) (t : TypeId)
  (ho : o.op = .call { callee := .builtin .append, args := #[s, x], argTypes := #[t, t] })
  (base : Nat) (e : TypeId) (i : TypeInfo) (z : Value) (size bytes : Nat) (ht : P.underlying t = some (.slice e)) (hi : P.info? e = some i) (hz : i.zero = some z)
  (hsize : i.size = size) (hby : i.bytes = bytes) (hzs : z.cells.size = size) (hsz : 0 < size)
  (v : Value) (n : Nat) (xs : List Value) (hs : a.eval s = v) (hown : W.ownsRow base e size v n xs)
  (news : List Value) (hx : a.eval x = .slice (some ⟨W.heap.size, 0, none⟩) 1 1) (hl : news.length = size) (h1 : ∀ u ∈ news, u.oneCell' = true)
  (h63 : n + 1 ≤ maxLen) (hbytes : (n + 1) * bytes ≤ 140737488355328) (hbase : base ≤ W.heap.size)
  (h : ∀ v' w', w'.ownsRow base e size v' (n + 1) (xs ++ news) → Chg (fun g => v.ownBlock = some g) W w' → Below base W w' → wpList P ops Q rest (a.put o.dst v') w') :
  wpList P ops Q (o :: rest) a (W.alloc (.cells news.toArray e)) := by
 refine wpList_append_own _ hgd s x t ho base e i z size bytes ht hi hz hsize hby hzs hsz v n xs hs (hown.alloc _) ⟨W.heap.size, 0, none⟩ 1 1 news hx (by omega) ?_ h1 h63 hbytes (by simp; omega) ?_
 ·intro j u hj
  rw [Go.WideShapes.add_plain, Nat.zero_add, cell_of_cells (heap_alloc_new W _)]
  simpa using hj
 ·intro v' w' h2 h3 _
  have hc : Chg (fun g => v.ownBlock = some g) W w' := ((Chg.refl _ _).alloc _).trans (chg_of_grown h3) (fun _ _ e => e)
  exact h v' w' h2 hc (below_of_own hown hc hbase)

theorem app_row {P : Program} {ops : Array Oper} {rest : List Oper} {o : Oper} {a : Act} {Q : Exit → Act → World → Prop} (W : World) (hgd : o.guard = none) (s x : Operand) (t : TypeId)
  (ho : o.op = .call { callee := .builtin .append, args := #[s, x], argTypes := #[t, t] })
  (base : Nat) (e : TypeId) (i : TypeInfo) (z : Value) (size bytes : Nat) (ht : P.underlying t = some (.slice e)) (hi : P.info? e = some i) (hz : i.zero = some z)
  (hsize : i.size = size) (hby : i.bytes = bytes) (hzs : z.cells.size = size) (hsz : 0 < size)
  (v : Value) (n : Nat) (xs : List Value) (hs : a.eval s = v) (hown : W.ownsRow base e size v n xs)
  (u : Value) (m : Nat) (news : List Value) (hx : a.eval x = u) (hr : Row W u m news) (hl : news.length = m * size) (h1 : ∀ y ∈ news, y.oneCell' = true)
  (h63 : n + m ≤ maxLen) (hbytes : (n + m) * bytes ≤ 140737488355328) (hbase : base ≤ W.heap.size)
  (h : ∀ v' w', w'.ownsRow base e size v' (n + m) (xs ++ news) → Chg (fun g => v.ownBlock = some g) W w' → Below base W w' → wpList P ops Q rest (a.put o.dst v') w') :
  wpList P ops Q (o :: rest) a W := by
 obtain ⟨sa, b, off, cap, rfl, hle, hmx, hsa, hcell, hnil⟩ := hr
 cases sa with
 | none =>
  have hc0 := hnil rfl
  have hm0 : m = 0 := by omega
  subst hc0
  subst hm0
  have hn0 : news = [] := List.length_eq_zero_iff.1 (by omega)
  subst hn0
  refine wpList_append_own_none hgd s x t ho base e i size ht hi v n xs hs hown hx ?_
  exact h v W (by simpa using hown) (Chg.refl _ _) (Below.refl _ _)
 | some ad =>
  refine wpList_append_own _ hgd s x t ho base e i z size bytes ht hi hz hsize hby hzs hsz v n xs hs hown ad m cap news hx hl ?_ h1 h63 hbytes hbase ?_
  ·intro j y hj
   have hjl := (List.getElem?_eq_some_iff.1 hj).1
   have hm : 0 < m := by
    rcases Nat.eq_zero_or_pos m with h0 | h0
    ·subst h0; omega
    ·exact h0
   have := hsa hm
   simp only [Option.some.injEq] at this
   subst this
   rw [Go.WideShapes.add_plain]
   exact hcell j y hj
  ·intro v' w' h2 h3 _
   have hc := chg_of_grown h3
   exact h v' w' h2 hc (below_of_own hown hc hbase)

theorem flatP_one (l : List (Int × Int)) : ∀ y ∈ flatP l, y.oneCell' = true := by
 induction l with
 | nil => intro y hy; simp [flatP] at hy
 | cons p l ih =>
  intro y hy
  rw [show flatP (p :: l) = .int .i64 p.1 :: .int .i64 p.2 :: flatP l from rfl] at hy
  rcases List.mem_cons.1 hy with rfl | hy
  ·rfl
  ·rcases List.mem_cons.1 hy with rfl | hy
   ·rfl
   ·exact ih y hy
theorem two_one (a b : Int) : ∀ u ∈ [Value.int .i64 a, Value.int .i64 b], u.oneCell' = true := by
 intro u hu; simp at hu; rcases hu with rfl | rfl <;> rfl
theorem room_of {n bytes : Nat} (h : n ≤ 8388608) (hb : bytes ≤ 256) : n + 1 ≤ maxLen ∧ (n + 1) * bytes ≤ 140737488355328 := by
 refine ⟨by unfold maxLen; omega, ?_⟩
 have : (n + 1) * bytes ≤ (n + 1) * 256 := Nat.mul_le_mul_left _ hb
 omega
theorem flatP_snoc (l : List (Int × Int)) (k v : Int) : flatP l ++ [.int .i64 k, .int .i64 v] = flatP (l ++ [(k, v)]) := by rw [flatP_append]; rfl

theorem empty_own (W : World) (base : Nat) (e size : Nat) (hb : base ≤ W.heap.size) : (W.alloc (.cells #[] e)).ownsRow base e size (.slice (some ⟨W.heap.size, 0, none⟩) 0 0) 0 [] :=
 ⟨by simp, .inr ⟨W.heap.size, 0, #[], rfl, hb, heap_alloc_new _ _, Nat.le_refl _, Nat.zero_le _, by simp, by simp⟩⟩
end
section
open Go.RowKit

theorem l1In_any (x lo hi : Int) (w : World) :
  Calls Try.prog 16 #[.int .i64 x, .int .i64 lo, .int .i64 hi] w fun e w' => e = .returned (.bool (inB x lo hi)) ∧ w' = w := by
 by_cases h1 : lo ≤ x
 ·by_cases h2 : x ≤ hi
  ·have E : Hid (inB x lo hi = true) := inB_true h1 h2
   go_enter Try.func16, Try.ntmps16
   go_wp2
   go_ret
   exact ⟨ret_bool E.out.symm, rfl⟩
  ·have E : Hid (inB x lo hi = false) := inB_false2 h2
   go_enter Try.func16, Try.ntmps16
   go_wp2
   go_ret
   exact ⟨ret_bool E.out.symm, rfl⟩
 ·have E : Hid (inB x lo hi = false) := inB_false1 h1
  go_enter Try.func16, Try.ntmps16
  go_wp2
  go_ret
  exact ⟨ret_bool E.out.symm, rfl⟩

theorem l1Value_any (x : Int) (w : World) :
  Calls Try.prog 56 #[.int .i64 x] w fun e w' => e = .returned (.bool (inB x (-1000000000) 1000000000)) ∧ w' = w := by
 go_enter Try.func56, Try.ntmps56
 go_wp2_with (go_at_call 16; refine (l1In_any _ _ _ _).mono ?_; rintro e w' ⟨rfl, rfl⟩)
 go_ret
 exact ⟨rfl, rfl⟩

theorem specMsgOk_any (o k v : Int) (w : World) :
  Calls Try.prog 48 #[.agg #[.int .i64 o, .int .i64 k, .int .i64 v]] w fun e w' => e = .returned (.bool (msgOkB o k v)) ∧ Below w.heap.size w w' := by
 go_enter Try.func48, Try.ntmps48
 go_wp2_with (first | (go_at_call 16; refine (l1In_any _ _ _ _).mono ?_; rintro e w' ⟨rfl, rfl⟩) | (go_at_call 56; refine (l1Value_any _ _).mono ?_; rintro e w' ⟨rfl, rfl⟩))
 all_goals (go_ret; refine ⟨ret_bool ?_, (Below.refl _ _).alloc (Nat.le_refl _) _⟩; simp_all [msgOkB, Bool.or_assoc])
end
section
open Go.RowKit

theorem Try.info76 : (Try.prog.info? 76).map (fun i => (i.zero, i.size, i.bytes)) = some (some (.agg #[.int .i64 0, .int .i64 0]), 2, 16) := by kernel_rfl

def filledP (l : List (Int × Int)) (k : Nat) : List Value := flatP (l.take k) ++ List.replicate ((l.length - k) * 2) (.int .i64 0)

theorem madeCells_all (zs : Array Value) (z : Value) (h0 : 0 < zs.size) (h : ∀ i, i < zs.size → zs[i]! = z) (n : Nat) : (madeCells zs n).toList = List.replicate n z := by
 apply List.ext_getElem?
 intro j
 by_cases hj : j < n
 ·simp [madeCells, hj]
  exact h _ (Nat.mod_lt _ h0)
 ·simp [madeCells, hj]

theorem take_succP (l : List (Int × Int)) (k : Nat) (hk : k < l.length) : l.take (k + 1) = l.take k ++ [(kOf l k, vOf l k)] := by
 have e : (kOf l k, vOf l k) = l[k] := by simp [kOf, vOf, List.getD, hk]
 rw [List.take_succ_eq_append_getElem hk, e]
end
section
def getP : List (Int × Int) → Int → Int × Bool
 | [], _ => (0, false)
 | p :: l, k => if p.1 = k then (p.2, true) else getP l k

theorem getP_hit {l : List (Int × Int)} {x : Int} : ∀ {i : Nat}, i < l.length → (∀ j, j < i → kOf l j ≠ x) → kOf l i = x → getP l x = (vOf l i, true) := by
 induction l with
 | nil => intro i h; simp at h
 | cons p l ih =>
  intro i h hall hx
  cases i with
  | zero =>
   simp only [kOf, List.getD_cons_zero] at hx
   simp [getP, hx, vOf]
  | succ i =>
   have h0 := hall 0 (by omega)
   simp only [kOf, List.getD_cons_zero] at h0
   rw [getP, if_neg h0, ih (by simpa using h) (fun j hj => by have := hall (j + 1) (by omega); simpa [kOf] using this) (by simpa [kOf] using hx)]
   simp [vOf]
theorem getP_none {l : List (Int × Int)} {x : Int} (hall : ∀ j, j < l.length → kOf l j ≠ x) : getP l x = (0, false) := by
 induction l with
 | nil => rfl
 | cons p l ih =>
  have h0 := hall 0 (by simp)
  simp only [kOf, List.getD_cons_zero] at h0
  rw [getP, if_neg h0]
  exact ih (fun j hj => by have := hall (j + 1) (by simpa using hj); simpa [kOf] using this)
end
section
abbrev PL := List (Int × Int)
def keys (l : PL) : List Int := l.map (·.1)
def vals (l : PL) : List Int := l.map (·.2)
def Asc (l : PL) : Prop := (keys l).Pairwise (· < ·)
theorem Asc.cons {p : Int × Int} {l : PL} (h : Asc (p :: l)) : (∀ q ∈ l, p.1 < q.1) ∧ Asc l := by
 have := List.pairwise_cons.1 (show (p.1 :: keys l).Pairwise (· < ·) from h)
 exact ⟨fun q hq => this.1 q.1 (List.mem_map_of_mem hq), this.2⟩
def putF (l : PL) (k v : Int) : PL := l.filter (fun p => decide (p.1 < k)) ++ (k, v) :: l.filter (fun p => decide (k < p.1))
def delF (l : PL) (k : Int) : PL := l.filter (fun p => decide (p.1 ≠ k))

theorem filter_gt {l : PL} {k : Int} (h : ∀ q ∈ l, k < q.1) : l.filter (fun p => decide (p.1 < k)) = [] ∧ l.filter (fun p => decide (k < p.1)) = l ∧ l.filter (fun p => decide (p.1 ≠ k)) = l := by
 refine ⟨List.filter_eq_nil_iff.2 (fun q hq => ?_), List.filter_eq_self.2 (fun q hq => ?_), List.filter_eq_self.2 (fun q hq => ?_)⟩
 ·have := h q hq; simp; omega
 ·have := h q hq; simp; omega
 ·have := h q hq; simp; omega
def PairIn (p : Int × Int) : Prop := (0 ≤ p.1 ∧ p.1 ≤ 999) ∧ (-1000000000 ≤ p.2 ∧ p.2 ≤ 1000000000)
def MapP (l : PL) : Prop := Asc l ∧ ∀ p ∈ l, PairIn p

theorem okAt_iff {l : PL} {i : Nat} : okAt l i = true ↔ PairIn (kOf l i, vOf l i) ∧ (i = 0 ∨ kOf l (i - 1) < kOf l i) := by
 simp [okAt, PairIn, inB, and_assoc]

theorem mapOkB_iff (l : PL) : mapOkB l = true ↔ MapP l := by
 constructor
 ·intro h
  have hat : ∀ i, i < l.length → okAt l i = true := fun i hi => mapOkB_at h hi
  have hlt : ∀ j, j < l.length → ∀ i, i < j → kOf l i < kOf l j := by
   intro j
   induction j with
   | zero => intro _ i hi; omega
   | succ j ih =>
    intro hj i hi
    have h1 := (okAt_iff.1 (hat (j + 1) hj)).2
    have h2 : kOf l j < kOf l (j + 1) := by simpa using h1
    by_cases e : i = j
    ·subst e; exact h2
    ·have := ih (by omega) i (by omega); omega
  have hk : ∀ i (hi : i < l.length), l[i] = (kOf l i, vOf l i) := fun i hi => by simp [kOf, vOf, List.getD, hi]
  refine ⟨?_, ?_⟩
  ·refine List.pairwise_map.2 (List.pairwise_iff_getElem.2 (fun i j hi hj hij => ?_))
   rw [hk i hi, hk j hj]
   exact hlt j hj i hij
  ·intro p hp
   obtain ⟨i, hi, rfl⟩ := List.getElem_of_mem hp
   rw [hk i hi]
   exact (okAt_iff.1 (hat i hi)).1
 ·rintro ⟨h1, h2⟩
  have hk : ∀ i (hi : i < l.length), l[i] = (kOf l i, vOf l i) := fun i hi => by simp [kOf, vOf, List.getD, hi]
  refine mapOkB_true (fun i hi => okAt_iff.2 ⟨?_, ?_⟩)
  ·rw [← hk i hi]; exact h2 _ (List.getElem_mem hi)
  ·by_cases h0 : i = 0
   ·exact Or.inl h0
   ·right
    have := List.pairwise_iff_getElem.1 (List.pairwise_map.1 h1) (i - 1) i (by omega) hi (by omega)
    rw [hk i hi, hk (i - 1) (by omega)] at this
    exact this

def clampI (x : Int) : Int := if x < -1000000000 then -1000000000 else if 1000000000 < x then 1000000000 else x
theorem clampI_in (x : Int) : -1000000000 ≤ clampI x ∧ clampI x ≤ 1000000000 := by unfold clampI; split <;> (try split) <;> omega

def doP (l : PL) (m : Int × Int × Int) : PL :=
 if m.1 = 1 then putF l m.2.1 m.2.2 else if m.1 = 2 then delF l m.2.1 else if m.1 = 3 then putF l m.2.1 (clampI ((getP l m.2.1).1 + m.2.2)) else l
def doL (l : PL) (m : Int × Int × Int) : PL := if mapOkB l = true ∧ msgOkB m.1 m.2.1 m.2.2 = true then doP l m else l
def allL (l : PL) (ms : List (Int × Int × Int)) : PL := ms.foldl doL l

theorem putF_length (l : PL) (k v : Int) : (putF l k v).length ≤ l.length + 1 := by
 have h : ∀ (l : PL), (l.filter (fun p => decide (p.1 < k))).length + (l.filter (fun p => decide (k < p.1))).length ≤ l.length := by
  intro l
  induction l with
  | nil => simp
  | cons p l ih =>
   by_cases h1 : p.1 < k
   ·have h2 : ¬ k < p.1 := by omega
    simp [h1, h2]; omega
   ·by_cases h2 : k < p.1
    ·simp [h1, h2]; omega
    ·simp [h1, h2]; omega
 have := h l
 simp [putF]; omega
theorem delF_length (l : PL) (k : Int) : (delF l k).length ≤ l.length := List.length_filter_le _ _

theorem msgOkB_in {o k v : Int} (h : msgOkB o k v = true) : (1 ≤ o ∧ o ≤ 4) ∧ (0 ≤ k ∧ k ≤ 999) ∧ (-1000000000 ≤ v ∧ v ≤ 1000000000) := by
 simp only [msgOkB, Bool.and_eq_true, inB_iff] at h
 exact ⟨h.1, h.2.1, h.2.2.1⟩

theorem doP_length (l : PL) (m : Int × Int × Int) : (doP l m).length ≤ l.length + 1 := by
 unfold doP
 split
 ·exact putF_length _ _ _
 ·split
  ·have := delF_length l m.2.1; omega
  ·split
   ·exact putF_length _ _ _
   ·omega
theorem doL_length (l : PL) (m : Int × Int × Int) : (doL l m).length ≤ l.length + 1 := by
 unfold doL
 split
 ·exact doP_length _ _
 ·omega
theorem allL_length (l : PL) (ms : List (Int × Int × Int)) : (allL l ms).length ≤ l.length + ms.length := by
 induction ms generalizing l with
 | nil => simp [allL]
 | cons m ms ih =>
  have h1 := ih (doL l m)
  have h2 := doL_length l m
  simp only [allL, List.foldl_cons, List.length_cons] at *
  omega
end
section
def stp (k v : Int) (s : PL × Bool) (p : Int × Int) : PL × Bool :=
 if s.2 = false ∧ k ≤ p.1 then (if p.1 = k then (s.1 ++ [(k, v)], true) else (s.1 ++ [(k, v)] ++ [p], true))
 else (if p.1 = k then s else (s.1 ++ [p], s.2))
def stpTo (k v : Int) (l : PL) (i : Nat) : PL × Bool := (l.take i).foldl (stp k v) ([], false)
def stpEnd (k v : Int) (s : PL × Bool) : PL := if s.2 = true then s.1 else s.1 ++ [(k, v)]

theorem stpTo_succ (k v : Int) (l : PL) (i : Nat) (h : i < l.length) : stpTo k v l (i + 1) = stp k v (stpTo k v l i) (kOf l i, vOf l i) := by
 have e : (kOf l i, vOf l i) = l[i] := by simp [kOf, vOf, List.getD, h]
 rw [stpTo, List.take_succ_eq_append_getElem h, List.foldl_append, e]; rfl
theorem stp_length (k v : Int) (s : PL × Bool) (p : Int × Int) : (stp k v s p).1.length ≤ s.1.length + 2 := by
 unfold stp
 split <;> split <;> simp
theorem stpTo_length (k v : Int) (l : PL) (i : Nat) : (stpTo k v l i).1.length ≤ 2 * i := by
 have h : ∀ (l : PL) (s : PL × Bool), (l.foldl (stp k v) s).1.length ≤ s.1.length + 2 * l.length := by
  intro l
  induction l with
  | nil => intro s; simp
  | cons p l ih =>
   intro s
   have h1 := ih (stp k v s p)
   have h2 := stp_length k v s p
   rw [List.foldl_cons]
   simp only [List.length_cons]
   omega
 have := h (l.take i) ([], false)
 have hl : (l.take i).length ≤ i := List.length_take_le _ _
 unfold stpTo
 simp only [List.length_nil] at this
 omega

theorem stp_true (k v : Int) (l : PL) (acc : PL) : l.foldl (stp k v) (acc, true) = (acc ++ delF l k, true) := by
 induction l generalizing acc with
 | nil => simp [delF]
 | cons p l ih =>
  rw [List.foldl_cons]
  by_cases h : p.1 = k
  ·rw [show stp k v (acc, true) p = (acc, true) by simp [stp, h], ih, delF, delF, List.filter_cons_of_neg (by simp [h])]
  ·rw [show stp k v (acc, true) p = (acc ++ [p], true) by simp [stp, h], ih, delF, delF, List.filter_cons_of_pos (by simp [h])]
   simp
theorem stp_put {l : PL} (h : Asc l) (k v : Int) (acc : PL) : stpEnd k v (l.foldl (stp k v) (acc, false)) = acc ++ putF l k v := by
 induction l generalizing acc with
 | nil => simp [stpEnd, putF]
 | cons p l ih =>
  obtain ⟨h1, h2⟩ := h.cons
  rw [List.foldl_cons]
  by_cases hlt : p.1 < k
  ·rw [show stp k v (acc, false) p = (acc ++ [p], false) by simp [stp, show ¬ k ≤ p.1 by omega, show ¬ p.1 = k by omega], ih h2]
   have e : putF (p :: l) k v = p :: putF l k v := by simp [putF, hlt, show ¬ k < p.1 by omega]
   rw [e]; simp
  ·by_cases he : p.1 = k
   ·have hg : ∀ q ∈ l, k < q.1 := fun q hq => by have := h1 q hq; omega
    obtain ⟨f1, f2, f3⟩ := filter_gt hg
    rw [show stp k v (acc, false) p = (acc ++ [(k, v)], true) by simp [stp, he], stp_true, delF, f3]
    have e : putF (p :: l) k v = (k, v) :: l := by simp [putF, hlt, show ¬ k < p.1 by omega, f1, f2]
    rw [e]; simp [stpEnd]
   ·have hg : ∀ q ∈ l, k < q.1 := fun q hq => by have := h1 q hq; omega
    obtain ⟨f1, f2, f3⟩ := filter_gt hg
    rw [show stp k v (acc, false) p = (acc ++ [(k, v)] ++ [p], true) by simp [stp, show k ≤ p.1 by omega, he], stp_true, delF, f3]
    have e : putF (p :: l) k v = (k, v) :: p :: l := by simp [putF, hlt, show k < p.1 by omega, f1, f2]
    rw [e]; simp [stpEnd]
theorem stpTo_full {l : PL} (h : Asc l) (k v : Int) : stpEnd k v (stpTo k v l l.length) = putF l k v := by
 have := stp_put h k v []
 simpa [stpTo] using this

theorem delF_succ (l : PL) (k : Int) (i : Nat) (h : i < l.length) : delF (l.take (i + 1)) k = if kOf l i = k then delF (l.take i) k else delF (l.take i) k ++ [(kOf l i, vOf l i)] := by
 have e : (kOf l i, vOf l i) = l[i] := by simp [kOf, vOf, List.getD, h]
 rw [List.take_succ_eq_append_getElem h, delF, List.filter_append, ← e]
 by_cases hk : kOf l i = k
 ·simp [hk, delF]
 ·simp [hk, delF]
end
end Go.Proofs.Ytekcnibohikmdaa
