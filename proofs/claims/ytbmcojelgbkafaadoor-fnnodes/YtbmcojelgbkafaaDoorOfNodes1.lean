/-
  The plain functions that chapter 1's code computes (numbers and lists alone; nothing of the program).
  Rows of cells behind a slice's value, read and owned; lists of pairs as such rows.
  Contracts of the small functions of chapter 1 on numbers and messages.
  Contracts of the functions on lists of pairs that the laws and chapter 1 use.
  Contracts of the sorted search, the insertion and the deletion at slices of ints, laid at this program from the library of contracts.
  What a call changes, told by the set of blocks that it may write; rows of ints under insertion and deletion.
  The generic sorted map of chapter 1 at ints: its three methods, by contracts.
  The laws' own functions that write marks into a list of pairs, and look for them.
  MapGet as a plain function.
  Maps as ascending lists of pairs: putting, deleting, getting; plain mathematics.
  Lists of messages as rows of cells; the laws' own functions on them.
-/
import Derived.Test.YtbmcojelgbkafaaDoorRows
import Derived.WalkKit
import Derived.WalkSpells
import Derived.WalkLawsBesides
import Derived.Deep.QuietTactic
import Derived.BigQuiet
import Derived.Deep.RegionWith
import Derived.Ground.Names2Prog
import Derived.Shelf.Slices.SearchI
import Derived.Shelf.Slices.Delete
import Derived.Shelf.Slices.Empties
import Derived.Shelf.Spec.SlicesInsert
import Derived.Shelf.Spec.SlicesInsertGrow
import Derived.Test.YtbmcojelgbkafaaDoorProg
import Derived.Lib.RowBridge
namespace Go.Proofs.YtbmcojelgbkafaaDoor
set_option maxRecDepth 100000
set_option maxHeartbeats 8000000
section
def inB (x lo hi : Int) : Bool := decide (lo ≤ x ∧ x ≤ hi)
theorem inB_true {x lo hi : Int} (h1 : lo ≤ x) (h2 : x ≤ hi) : inB x lo hi = true := by simp [inB, h1, h2]
theorem inB_false1 {x lo hi : Int} (h1 : ¬ lo ≤ x) : inB x lo hi = false := by simp [inB]; omega
theorem inB_false2 {x lo hi : Int} (h2 : ¬ x ≤ hi) : inB x lo hi = false := by simp [inB]; omega
theorem inB_iff {x lo hi : Int} : inB x lo hi = true ↔ lo ≤ x ∧ x ≤ hi := by simp [inB]

def msgOkB (o k v : Int) : Bool := inB o 1 4 && (inB k 0 999 && (inB v (-1000000000) 1000000000 && ((v == 0) || ((o == 1) || (o == 3)))))

def kOf (l : List (Int × Int)) (i : Nat) : Int := (l.getD i (0, 0)).1
def vOf (l : List (Int × Int)) (i : Nat) : Int := (l.getD i (0, 0)).2
def eqPairB (a b c d : Int) : Bool := decide (a = c ∧ b = d)

def okAt (l : List (Int × Int)) (i : Nat) : Bool := inB (kOf l i) 0 999 && (inB (vOf l i) (-1000000000) 1000000000 && (i == 0 || decide (kOf l (i - 1) < kOf l i)))
def mapOkB (l : List (Int × Int)) : Bool := (List.range l.length).all (okAt l)

theorem mapOkB_true {l : List (Int × Int)} (h : ∀ i, i < l.length → okAt l i = true) : mapOkB l = true := by
 simp only [mapOkB, List.all_eq_true, List.mem_range]; exact h
theorem mapOkB_false {l : List (Int × Int)} {i : Nat} (hi : i < l.length) (h : okAt l i = false) : mapOkB l = false := by
 rw [Bool.eq_false_iff]
 intro hc
 simp only [mapOkB, List.all_eq_true, List.mem_range] at hc
 have := hc i hi
 rw [h] at this
 cases this
theorem mapOkB_at {l : List (Int × Int)} (h : mapOkB l = true) {i : Nat} (hi : i < l.length) : okAt l i = true := by
 simp only [mapOkB, List.all_eq_true, List.mem_range] at h
 exact h i hi
end
section
open Go.RowKit

theorem hid {p : Prop} (h : p) : Hid p := h
theorem bcell {W w1 : World} (hb : Below W.heap.size W w1) : (∀ b o, b < W.heap.size → w1.cell? ⟨b, o, none⟩ = W.cell? ⟨b, o, none⟩) ∧ (∀ b o, b < W.heap.size → w1.frozen? ⟨b, o, none⟩ = W.frozen? ⟨b, o, none⟩) :=
 ⟨fun b o h => hb.cell (p := ⟨b, o, none⟩) h, fun b o h => hb.frozen (p := ⟨b, o, none⟩) h⟩
theorem Below.and {w w1 w2 : World} (h1 : Below w.heap.size w w1) (h2 : Below w1.heap.size w1 w2) : Below w.heap.size w w2 := h1.trans (h2.mono h1.size)
theorem ret_bool {a b : Bool} (h : a = b) : Ending.returned (.bool a) = .returned (.bool b) := by rw [h]
theorem ret_int {k : IntKind} {a b : Int} (h : a = b) : Ending.returned (.int k a) = .returned (.int k b) := by rw [h]

theorem cell_lt {w : World} {a : Addr} {v : Value} (h : w.cell? a = some v) : a.block < w.heap.size := by
 unfold World.cell? at h
 by_cases hb : a.block < w.heap.size
 ·exact hb
 ·simp [Array.getElem?_eq_none (Nat.le_of_not_lt hb)] at h

def Row (w : World) (v : Value) (n : Nat) (xs : List Value) : Prop :=
 ∃ (a : Option Addr) (b off cap : Nat), v = .slice a n cap ∧ n ≤ cap ∧ cap ≤ maxLen ∧ (0 < n → a = some ⟨b, off, none⟩) ∧ (∀ j u, xs[j]? = some u → w.cell? ⟨b, off + j, none⟩ = some u) ∧ (a = none → cap = 0)

theorem Row.below {w w' : World} {v : Value} {n : Nat} {xs : List Value} (h : Row w v n xs) (hb : Below w.heap.size w w') : Row w' v n xs := by
 obtain ⟨a, b, off, cap, h1, h2, h3, h4, h5, h6⟩ := h
 refine ⟨a, b, off, cap, h1, h2, h3, h4, fun j u hj => ?_, h6⟩
 have := h5 j u hj
 rw [hb.cell (p := ⟨b, off + j, none⟩) (cell_lt this)]
 exact this

theorem Row.of_owns {w : World} {base e size n : Nat} {v : Value} {xs : List Value} (h : w.ownsRow base e size v n xs) : Row w v n xs := by
 have h0 := h
 obtain ⟨hl, h | ⟨g, cap, cur, rfl, hg, hh, hn, hcap, hsz, htake⟩⟩ := h
 ·obtain ⟨rfl, rfl⟩ := h
  have hx : xs = [] := by simpa using hl
  subst hx
  exact ⟨none, 0, 0, 0, rfl, Nat.le_refl _, Nat.zero_le _, fun h => absurd h (Nat.lt_irrefl _), fun j u hj => by simp at hj, fun _ => rfl⟩
 ·refine ⟨some ⟨g, 0, none⟩, g, 0, cap, rfl, hn, hcap, fun _ => rfl, fun j u hj => ?_, fun h => by cases h⟩
  have hlt : j < n * size := by
   have := (List.getElem?_eq_some_iff.1 hj).1
   omega
  rw [Nat.zero_add, h0.cellAt j hlt]
  exact hj

theorem owns_below {w w' : World} {base e size n : Nat} {v : Value} {xs : List Value} (h : w.ownsRow base e size v n xs) (hb : Below w.heap.size w w') : w'.ownsRow base e size v n xs := by
 obtain ⟨hl, h | ⟨g, cap, cur, rfl, hg, hh, hn, hcap, hsz, htake⟩⟩ := h
 ·exact ⟨hl, .inl h⟩
 ·refine ⟨hl, .inr ⟨g, cap, cur, rfl, hg, ?_, hn, hcap, hsz, htake⟩⟩
  rw [hb.block g (Array.getElem?_eq_some_iff.1 hh).1]
  exact hh
theorem owns_mono {w : World} {base base' e size n : Nat} {v : Value} {xs : List Value} (h : w.ownsRow base e size v n xs) (hb : base' ≤ base) : w.ownsRow base' e size v n xs := by
 obtain ⟨hl, h | ⟨g, cap, cur, rfl, hg, hh, hn, hcap, hsz, htake⟩⟩ := h
 ·exact ⟨hl, .inl h⟩
 ·exact ⟨hl, .inr ⟨g, cap, cur, rfl, Nat.le_trans hb hg, hh, hn, hcap, hsz, htake⟩⟩

def flatP (l : List (Int × Int)) : List Value := l.flatMap fun p => [.int .i64 p.1, .int .i64 p.2]

theorem flatP_length (l : List (Int × Int)) : (flatP l).length = l.length * 2 := by
 induction l with
 | nil => rfl
 | cons a l ih => simp only [flatP, List.flatMap_cons, List.length_append, List.length_cons, List.length_nil] at *; omega
theorem flatP_append (l m : List (Int × Int)) : flatP (l ++ m) = flatP l ++ flatP m := by simp [flatP, List.flatMap_append]
theorem flatP_at (l : List (Int × Int)) : ∀ i, i < l.length → (flatP l)[i * 2]? = some (.int .i64 (kOf l i)) ∧ (flatP l)[i * 2 + 1]? = some (.int .i64 (vOf l i)) := by
 induction l with
 | nil => intro i h; simp at h
 | cons a l ih =>
  intro i h
  cases i with
  | zero => simp [flatP, kOf, vOf]
  | succ i =>
   have := ih i (by simpa using h)
   have e1 : (i + 1) * 2 = i * 2 + 1 + 1 := by omega
   have e2 : (i + 1) * 2 + 1 = (i * 2 + 1) + 1 + 1 := by omega
   rw [e2, e1]
   simpa [flatP, kOf, vOf] using this

theorem Row.pairs {w : World} {v : Value} {l : List (Int × Int)} (h : Row w v l.length (flatP l)) :
  ∃ (a : Option Addr) (b off cap : Nat), v = .slice a l.length cap ∧ l.length ≤ cap ∧ cap ≤ maxLen ∧ (0 < l.length → a = some ⟨b, off, none⟩) ∧
   (∀ i, i < l.length → w.cell? ⟨b, off + i * 2, none⟩ = some (.int .i64 (kOf l i))) ∧ (∀ i, i < l.length → w.cell? ⟨b, off + i * 2 + 1, none⟩ = some (.int .i64 (vOf l i))) := by
 obtain ⟨a, b, off, cap, h1, h2, h3, h4, h5, _⟩ := h
 exact ⟨a, b, off, cap, h1, h2, h3, h4, fun i hi => h5 _ _ (flatP_at l i hi).1, fun i hi => h5 _ _ (flatP_at l i hi).2⟩
end
section
open Go.RowKit

theorem l1In_any (x lo hi : Int) (w : World) :
  Calls Tryd.prog 27 #[.int .i64 x, .int .i64 lo, .int .i64 hi] w fun e w' => e = .returned (.bool (inB x lo hi)) ∧ w' = w := by
 by_cases h1 : lo ≤ x
 ·by_cases h2 : x ≤ hi
  ·have E : Hid (inB x lo hi = true) := inB_true h1 h2
   go_enter Tryd.func27, Tryd.ntmps27
   go_wp2
   go_ret
   exact ⟨ret_bool E.out.symm, rfl⟩
  ·have E : Hid (inB x lo hi = false) := inB_false2 h2
   go_enter Tryd.func27, Tryd.ntmps27
   go_wp2
   go_ret
   exact ⟨ret_bool E.out.symm, rfl⟩
 ·have E : Hid (inB x lo hi = false) := inB_false1 h1
  go_enter Tryd.func27, Tryd.ntmps27
  go_wp2
  go_ret
  exact ⟨ret_bool E.out.symm, rfl⟩

theorem l1Value_any (x : Int) (w : World) :
  Calls Tryd.prog 60 #[.int .i64 x] w fun e w' => e = .returned (.bool (inB x (-1000000000) 1000000000)) ∧ w' = w := by
 go_enter Tryd.func60, Tryd.ntmps60
 go_wp2_with (go_at_call 27; refine (l1In_any _ _ _ _).mono ?_; rintro e w' ⟨rfl, rfl⟩)
 go_ret
 exact ⟨rfl, rfl⟩

theorem specMsgOk_any (o k v : Int) (w : World) :
  Calls Tryd.prog 54 #[.agg #[.int .i64 o, .int .i64 k, .int .i64 v]] w fun e w' => e = .returned (.bool (msgOkB o k v)) ∧ Below w.heap.size w w' := by
 go_enter Tryd.func54, Tryd.ntmps54
 go_wp2_with (first | (go_at_call 27; refine (l1In_any _ _ _ _).mono ?_; rintro e w' ⟨rfl, rfl⟩) | (go_at_call 60; refine (l1Value_any _ _).mono ?_; rintro e w' ⟨rfl, rfl⟩))
 all_goals (go_ret; refine ⟨ret_bool ?_, (Below.refl _ _).alloc (Nat.le_refl _) _⟩; simp_all [msgOkB, Bool.or_assoc])
end
section
open Go.RowKit

theorem Tryd.info52 : (Tryd.prog.info? 52).map (fun i => (i.zero, i.size, i.bytes)) = some (some (.agg #[.int .i64 0, .int .i64 0]), 2, 16) := by kernel_rfl

def filledP (l : List (Int × Int)) (k : Nat) : List Value := flatP (l.take k) ++ List.replicate ((l.length - k) * 2) (.int .i64 0)

theorem take_succP (l : List (Int × Int)) (k : Nat) (hk : k < l.length) : l.take (k + 1) = l.take k ++ [(kOf l k, vOf l k)] := by
 have e : (kOf l k, vOf l k) = l[k] := by simp [kOf, vOf, List.getD, hk]
 rw [List.take_succ_eq_append_getElem hk, e]
end
end Go.Proofs.YtbmcojelgbkafaaDoor
namespace Go.Proofs
open Go.Shelf
end Go.Proofs
namespace Go.Proofs.YtbmcojelgbkafaaDoor
section
open Go.RowKit

structure Chg (F : Nat → Prop) (w w' : World) : Prop where
 os : w'.os = w.os
 tape : w'.tape = w.tape
 output : w'.output = w.output
 size : w.heap.size ≤ w'.heap.size
 block : ∀ k, k < w.heap.size → ¬ F k → w'.heap[k]? = w.heap[k]?

theorem Chg.refl (F : Nat → Prop) (w : World) : Chg F w w := ⟨rfl, rfl, rfl, Nat.le_refl _, fun _ _ _ => rfl⟩
theorem Chg.trans {F G : Nat → Prop} {a b c : World} (h : Chg F a b) (k : Chg G b c) (hG : ∀ g, g < a.heap.size → G g → F g) : Chg F a c :=
 ⟨k.os.trans h.os, k.tape.trans h.tape, k.output.trans h.output, Nat.le_trans h.size k.size,
  fun g hg hn => (k.block g (Nat.lt_of_lt_of_le hg h.size) (fun e => hn (hG g hg e))).trans (h.block g hg hn)⟩
theorem Chg.mono {F G : Nat → Prop} {a b : World} (h : Chg F a b) (hG : ∀ g, g < a.heap.size → F g → G g) : Chg G a b :=
 ⟨h.os, h.tape, h.output, h.size, fun g hg hn => h.block g hg (fun e => hn (hG g hg e))⟩
theorem Chg.of_below {F : Nat → Prop} {a b : World} (h : Below a.heap.size a b) : Chg F a b := ⟨h.os, h.tape, h.output, h.size, fun g hg _ => h.block g hg⟩
theorem Chg.below {F : Nat → Prop} {a b : World} {B : Nat} (h : Chg F a b) (hF : ∀ g, g < a.heap.size → F g → B ≤ g) (hB : B ≤ a.heap.size) : Below B a b :=
 ⟨h.os, h.tape, h.output, h.size, fun g hg => h.block g (Nat.lt_of_lt_of_le hg hB) (fun e => by have := hF g (Nat.lt_of_lt_of_le hg hB) e; omega)⟩
theorem Chg.alloc {F : Nat → Prop} {a b : World} (h : Chg F a b) (o : Obj) : Chg F a (b.alloc o) :=
 h.trans (Chg.of_below (F := F) ((Below.refl _ _).alloc (Nat.le_refl _) o)) (fun _ _ e => e)
theorem Chg.drew {F : Nat → Prop} {a b : World} (h : Chg F a b) : Chg F a b.drew := ⟨h.os, h.tape, h.output, h.size, h.block⟩
theorem Chg.drewN {F : Nat → Prop} {a b : World} (h : Chg F a b) (n : Nat) : Chg F a (b.drewN n) :=
 h.trans (Chg.of_below (F := F) (below_drewN (Below.refl _ _) n)) (fun _ _ e => e)
theorem Chg.setCell {F : Nat → Prop} {a b : World} (h : Chg F a b) {p : Addr} (hp : p.block < a.heap.size → F p.block) (u : Value) : Chg F a (b.setCell p u) :=
 ⟨h.os, h.tape, h.output, by simpa using h.size, fun k hk hn => (heap_setCell_other _ _ _ _ (fun e => hn (by subst e; exact hp hk))).trans (h.block k hk hn)⟩
theorem Chg.setAt {F : Nat → Prop} {a b : World} (h : Chg F a b) (g j : Nat) (hg : F g) (u : Value) : Chg F a (b.setCell ⟨g, j, none⟩ u) := h.setCell (p := ⟨g, j, none⟩) (fun _ => hg) u
theorem Chg.setCells {F : Nat → Prop} {a : World} {g : Nat} (hp : g < a.heap.size → F g) : ∀ (vs : List Value) (o : Nat) (b : World), Chg F a b → Chg F a (b.setCells g o vs)
 | [], _, _, h => h
 | v :: r, o, _, h => Chg.setCells hp r (o + 1) _ (h.setCell (p := ⟨g, o, none⟩) hp v)

theorem owns_chg {F : Nat → Prop} {w w' : World} {base e size n : Nat} {v : Value} {xs : List Value} (h : w.ownsRow base e size v n xs) (hc : Chg F w w') (hF : ∀ g, v.ownBlock = some g → ¬ F g) : w'.ownsRow base e size v n xs := by
 obtain ⟨hl, h | ⟨g, cap, cur, rfl, hg, hh, hn, hcap, hsz, htake⟩⟩ := h
 ·exact ⟨hl, .inl h⟩
 ·exact ⟨hl, .inr ⟨g, cap, cur, rfl, hg, (hc.block g (Array.getElem?_eq_some_iff.1 hh).1 (hF g rfl)).trans hh, hn, hcap, hsz, htake⟩⟩
theorem row_chg {F : Nat → Prop} {w w' : World} {b : Nat} {o : Obj} (h : w.heap[b]? = some o) (hc : Chg F w w') (hF : ¬ F b) : w'.heap[b]? = some o :=
 (hc.block b (Array.getElem?_eq_some_iff.1 h).1 hF).trans h

def spl (cur : Array Value) : Nat → List Value → Array Value
 | _, [] => cur
 | o, v :: r => spl (cur.setIfInBounds o v) (o + 1) r
theorem spl_toList : ∀ (vs : List Value) (cur : Array Value) (o : Nat), o + vs.length ≤ cur.size → (spl cur o vs).toList = cur.toList.take o ++ vs ++ cur.toList.drop (o + vs.length)
 | [], cur, o, h => by simp [spl]
 | v :: r, cur, o, h => by
  simp only [List.length_cons] at h
  rw [spl, spl_toList r _ (o + 1) (by simp; omega)]
  have hlt : o < cur.toList.length := by simp; omega
  have h1 : (cur.setIfInBounds o v).toList = cur.toList.set o v := Array.toList_setIfInBounds ..
  rw [h1, List.take_set, List.drop_set, if_pos (by omega), List.take_succ_eq_append_getElem hlt]
  rw [List.set_append_right _ _ (by simp; omega)]
  simp only [List.length_take, List.length_cons]
  rw [show o - min o cur.toList.length = 0 by omega, show o + 1 + r.length = o + (r.length + 1) by omega]
  simp
theorem heap_setCells_same (g : Nat) (t : TypeId) : ∀ (vs : List Value) (o : Nat) (w : World) (cur : Array Value), w.heap[g]? = some (.cells cur t (0, 0)) → (w.setCells g o vs).heap[g]? = some (.cells (spl cur o vs) t (0, 0))
 | [], _, _, _, h => h
 | v :: r, o, w, cur, h => by
  rw [World.setCells, spl]
  exact heap_setCells_same g t r (o + 1) _ _ (heap_setCell_same w g o cur t v h)

theorem cell_of_cells {w : World} {g j : Nat} {cur : Array Value} {t : TypeId} (h : w.heap[g]? = some (.cells cur t (0, 0))) : w.cell? ⟨g, j, none⟩ = cur[j]? := cell_of_row w g j cur t (0, 0) h
theorem frozen_of_cells {w : World} {g j : Nat} {cur : Array Value} {t : TypeId} (h : w.heap[g]? = some (.cells cur t (0, 0))) : w.frozen? ⟨g, j, none⟩ = false := frozen_of_row w g j cur t h
end
section
open Go.RowKit

theorem owns_lt {w : World} {base e size n : Nat} {v : Value} {xs : List Value} (h : w.ownsRow base e size v n xs) {g : Nat} (hg : v.ownBlock = some g) : g < w.heap.size ∧ ∃ cur, w.heap[g]? = some (.cells cur e (0, 0)) := by
 obtain ⟨_, ⟨rfl, rfl⟩ | ⟨g', cap, cur, rfl, _, hh, _⟩⟩ := h
 ·simp [Value.ownBlock] at hg
 ·simp only [Value.ownBlock, Option.some.injEq] at hg
  subst hg
  exact ⟨(Array.getElem?_eq_some_iff.1 hh).1, cur, hh⟩

def keysAfter (ks : List Int) (k : Int) : List Int := if ks.contains k then ks else ks.take (ks.countP (· < k)) ++ k :: ks.drop (ks.countP (· < k))
def valsAfter (ks vs : List Int) (k v : Int) : List Int := if ks.contains k then vs.set (ks.countP (· < k)) v else vs.take (ks.countP (· < k)) ++ v :: vs.drop (ks.countP (· < k))

def getS (ks vs : List Int) (k : Int) : Int × Bool := if ks.contains k then (vs.getD (ks.countP (· < k)) 0, true) else (0, false)
end
section
open Go.RowKit

def marksP (k : Int) (n : Nat) : List (Int × Int) := (List.range n).map fun (i : Nat) => (k + 2 * i, k + 2 * i + 1)
def midP (k : Int) (l : List (Int × Int)) (i : Nat) : List (Int × Int) := marksP k i ++ l.drop i
end
section
def getP : List (Int × Int) → Int → Int × Bool
 | [], _ => (0, false)
 | p :: l, k => if p.1 = k then (p.2, true) else getP l k

theorem getP_hit {l : List (Int × Int)} {x : Int} : ∀ {i : Nat}, i < l.length → (∀ j, j < i → kOf l j ≠ x) → kOf l i = x → getP l x = (vOf l i, true) := by
 induction l with
 | nil => intro i h; simp at h
 | cons p l ih =>
  intro i h hall hx
  cases i with
  | zero =>
   simp only [kOf, List.getD_cons_zero] at hx
   simp [getP, hx, vOf]
  | succ i =>
   have h0 := hall 0 (by omega)
   simp only [kOf, List.getD_cons_zero] at h0
   rw [getP, if_neg h0, ih (by simpa using h) (fun j hj => by have := hall (j + 1) (by omega); simpa [kOf] using this) (by simpa [kOf] using hx)]
   simp [vOf]
theorem getP_none {l : List (Int × Int)} {x : Int} (hall : ∀ j, j < l.length → kOf l j ≠ x) : getP l x = (0, false) := by
 induction l with
 | nil => rfl
 | cons p l ih =>
  have h0 := hall 0 (by simp)
  simp only [kOf, List.getD_cons_zero] at h0
  rw [getP, if_neg h0]
  exact ih (fun j hj => by have := hall (j + 1) (by simpa using hj); simpa [kOf] using this)
end
section
abbrev PL := List (Int × Int)
def keys (l : PL) : List Int := l.map (·.1)
def vals (l : PL) : List Int := l.map (·.2)
def Asc (l : PL) : Prop := (keys l).Pairwise (· < ·)
theorem Asc.cons {p : Int × Int} {l : PL} (h : Asc (p :: l)) : (∀ q ∈ l, p.1 < q.1) ∧ Asc l := by
 have := List.pairwise_cons.1 (show (p.1 :: keys l).Pairwise (· < ·) from h)
 exact ⟨fun q hq => this.1 q.1 (List.mem_map_of_mem hq), this.2⟩
def putF (l : PL) (k v : Int) : PL := l.filter (fun p => decide (p.1 < k)) ++ (k, v) :: l.filter (fun p => decide (k < p.1))
def delF (l : PL) (k : Int) : PL := l.filter (fun p => decide (p.1 ≠ k))

theorem filter_gt {l : PL} {k : Int} (h : ∀ q ∈ l, k < q.1) : l.filter (fun p => decide (p.1 < k)) = [] ∧ l.filter (fun p => decide (k < p.1)) = l ∧ l.filter (fun p => decide (p.1 ≠ k)) = l := by
 refine ⟨List.filter_eq_nil_iff.2 (fun q hq => ?_), List.filter_eq_self.2 (fun q hq => ?_), List.filter_eq_self.2 (fun q hq => ?_)⟩
 ·have := h q hq; simp; omega
 ·have := h q hq; simp; omega
 ·have := h q hq; simp; omega
theorem putF_asc {l : PL} (h : Asc l) (k v : Int) : Asc (putF l k v) := by
 show (keys (l.filter _ ++ (k, v) :: l.filter _)).Pairwise (· < ·)
 rw [keys, List.map_append, List.map_cons]
 refine List.pairwise_append.2 ⟨?_, List.pairwise_cons.2 ⟨?_, ?_⟩, ?_⟩
 ·exact List.pairwise_map.2 ((List.pairwise_map.1 h).filter _)
 ·intro a ha
  obtain ⟨q, hq, rfl⟩ := List.mem_map.1 ha
  simpa using (List.mem_filter.1 hq).2
 ·exact List.pairwise_map.2 ((List.pairwise_map.1 h).filter _)
 ·intro a ha b hb
  obtain ⟨q, hq, rfl⟩ := List.mem_map.1 ha
  have h1 : q.1 < k := by simpa using (List.mem_filter.1 hq).2
  rcases List.mem_cons.1 hb with rfl | hb
  ·exact h1
  ·obtain ⟨r, hr, rfl⟩ := List.mem_map.1 hb
   have h2 : k < r.1 := by simpa using (List.mem_filter.1 hr).2
   omega
theorem delF_asc {l : PL} (h : Asc l) (k : Int) : Asc (delF l k) := List.pairwise_map.2 ((List.pairwise_map.1 h).filter _)

def PairIn (p : Int × Int) : Prop := (0 ≤ p.1 ∧ p.1 ≤ 999) ∧ (-1000000000 ≤ p.2 ∧ p.2 ≤ 1000000000)
def MapP (l : PL) : Prop := Asc l ∧ ∀ p ∈ l, PairIn p

theorem okAt_iff {l : PL} {i : Nat} : okAt l i = true ↔ PairIn (kOf l i, vOf l i) ∧ (i = 0 ∨ kOf l (i - 1) < kOf l i) := by
 simp [okAt, PairIn, inB, and_assoc]

theorem mapOkB_iff (l : PL) : mapOkB l = true ↔ MapP l := by
 constructor
 ·intro h
  have hat : ∀ i, i < l.length → okAt l i = true := fun i hi => mapOkB_at h hi
  have hlt : ∀ j, j < l.length → ∀ i, i < j → kOf l i < kOf l j := by
   intro j
   induction j with
   | zero => intro _ i hi; omega
   | succ j ih =>
    intro hj i hi
    have h1 := (okAt_iff.1 (hat (j + 1) hj)).2
    have h2 : kOf l j < kOf l (j + 1) := by simpa using h1
    by_cases e : i = j
    ·subst e; exact h2
    ·have := ih (by omega) i (by omega); omega
  have hk : ∀ i (hi : i < l.length), l[i] = (kOf l i, vOf l i) := fun i hi => by simp [kOf, vOf, List.getD, hi]
  refine ⟨?_, ?_⟩
  ·refine List.pairwise_map.2 (List.pairwise_iff_getElem.2 (fun i j hi hj hij => ?_))
   rw [hk i hi, hk j hj]
   exact hlt j hj i hij
  ·intro p hp
   obtain ⟨i, hi, rfl⟩ := List.getElem_of_mem hp
   rw [hk i hi]
   exact (okAt_iff.1 (hat i hi)).1
 ·rintro ⟨h1, h2⟩
  have hk : ∀ i (hi : i < l.length), l[i] = (kOf l i, vOf l i) := fun i hi => by simp [kOf, vOf, List.getD, hi]
  refine mapOkB_true (fun i hi => okAt_iff.2 ⟨?_, ?_⟩)
  ·rw [← hk i hi]; exact h2 _ (List.getElem_mem hi)
  ·by_cases h0 : i = 0
   ·exact Or.inl h0
   ·right
    have := List.pairwise_iff_getElem.1 (List.pairwise_map.1 h1) (i - 1) i (by omega) hi (by omega)
    rw [hk i hi, hk (i - 1) (by omega)] at this
    exact this

def clampI (x : Int) : Int := if x < -1000000000 then -1000000000 else if 1000000000 < x then 1000000000 else x
theorem clampI_in (x : Int) : -1000000000 ≤ clampI x ∧ clampI x ≤ 1000000000 := by unfold clampI; split <;> (try split) <;> omega

def doP (l : PL) (m : Int × Int × Int) : PL :=
 if m.1 = 1 then putF l m.2.1 m.2.2 else if m.1 = 2 then delF l m.2.1 else if m.1 = 3 then putF l m.2.1 (clampI ((getP l m.2.1).1 + m.2.2)) else l
def doL (l : PL) (m : Int × Int × Int) : PL := if mapOkB l = true ∧ msgOkB m.1 m.2.1 m.2.2 = true then doP l m else l
def allL (l : PL) (ms : List (Int × Int × Int)) : PL := ms.foldl doL l

theorem putF_mapP {l : PL} (h : MapP l) {k v : Int} (hk : 0 ≤ k ∧ k ≤ 999) (hv : -1000000000 ≤ v ∧ v ≤ 1000000000) : MapP (putF l k v) := by
 refine ⟨putF_asc h.1 k v, fun p hp => ?_⟩
 rcases List.mem_append.1 hp with h1 | h1
 ·exact h.2 p (List.mem_filter.1 h1).1
 ·rcases List.mem_cons.1 h1 with rfl | h2
  ·exact ⟨hk, hv⟩
  ·exact h.2 p (List.mem_filter.1 h2).1
theorem delF_mapP {l : PL} (h : MapP l) (k : Int) : MapP (delF l k) := ⟨delF_asc h.1 k, fun p hp => h.2 p (List.mem_filter.1 hp).1⟩
theorem putF_length (l : PL) (k v : Int) : (putF l k v).length ≤ l.length + 1 := by
 have h : ∀ (l : PL), (l.filter (fun p => decide (p.1 < k))).length + (l.filter (fun p => decide (k < p.1))).length ≤ l.length := by
  intro l
  induction l with
  | nil => simp
  | cons p l ih =>
   by_cases h1 : p.1 < k
   ·have h2 : ¬ k < p.1 := by omega
    simp [h1, h2]; omega
   ·by_cases h2 : k < p.1
    ·simp [h1, h2]; omega
    ·simp [h1, h2]; omega
 have := h l
 simp [putF]; omega
theorem delF_length (l : PL) (k : Int) : (delF l k).length ≤ l.length := List.length_filter_le _ _

theorem msgOkB_in {o k v : Int} (h : msgOkB o k v = true) : (1 ≤ o ∧ o ≤ 4) ∧ (0 ≤ k ∧ k ≤ 999) ∧ (-1000000000 ≤ v ∧ v ≤ 1000000000) := by
 simp only [msgOkB, Bool.and_eq_true, inB_iff] at h
 exact ⟨h.1, h.2.1, h.2.2.1⟩

theorem doP_mapP {l : PL} (h : MapP l) {m : Int × Int × Int} (hm : msgOkB m.1 m.2.1 m.2.2 = true) : MapP (doP l m) := by
 obtain ⟨_, h2, h3⟩ := msgOkB_in hm
 unfold doP
 split
 ·exact putF_mapP h h2 h3
 ·split
  ·exact delF_mapP h _
  ·split
   ·exact putF_mapP h h2 (clampI_in _)
   ·exact h
theorem doP_length (l : PL) (m : Int × Int × Int) : (doP l m).length ≤ l.length + 1 := by
 unfold doP
 split
 ·exact putF_length _ _ _
 ·split
  ·have := delF_length l m.2.1; omega
  ·split
   ·exact putF_length _ _ _
   ·omega
theorem doL_length (l : PL) (m : Int × Int × Int) : (doL l m).length ≤ l.length + 1 := by
 unfold doL
 split
 ·exact doP_length _ _
 ·omega
theorem allL_length (l : PL) (ms : List (Int × Int × Int)) : (allL l ms).length ≤ l.length + ms.length := by
 induction ms generalizing l with
 | nil => simp [allL]
 | cons m ms ih =>
  have h1 := ih (doL l m)
  have h2 := doL_length l m
  simp only [allL, List.foldl_cons, List.length_cons] at *
  omega
theorem doL_mapP {l : PL} (h : MapP l) (m : Int × Int × Int) : MapP (doL l m) := by
 unfold doL
 split
 ·exact doP_mapP h (by simp_all)
 ·exact h
theorem allL_mapP {l : PL} (h : MapP l) (ms : List (Int × Int × Int)) : MapP (allL l ms) := by
 induction ms generalizing l with
 | nil => exact h
 | cons m ms ih => exact ih (doL_mapP h m)
end
section
open Go.RowKit

abbrev ML := List (Int × Int × Int)
def mO (l : ML) (i : Nat) : Int := (l.getD i (0, 0, 0)).1
def mK (l : ML) (i : Nat) : Int := (l.getD i (0, 0, 0)).2.1
def mV (l : ML) (i : Nat) : Int := (l.getD i (0, 0, 0)).2.2
theorem ml_at (l : ML) (i : Nat) (h : i < l.length) : l[i] = (mO l i, mK l i, mV l i) := by simp [mO, mK, mV, List.getD, h]
theorem take_succM (l : ML) (k : Nat) (hk : k < l.length) : l.take (k + 1) = l.take k ++ [(mO l k, mK l k, mV l k)] := by
 rw [List.take_succ_eq_append_getElem hk, ml_at l k hk]

def flatM (l : ML) : List Value := l.flatMap fun m => [.int .i64 m.1, .int .i64 m.2.1, .int .i64 m.2.2]
theorem flatM_cons (m : Int × Int × Int) (l : ML) : flatM (m :: l) = .int .i64 m.1 :: .int .i64 m.2.1 :: .int .i64 m.2.2 :: flatM l := rfl
theorem flatM_append (l m : ML) : flatM (l ++ m) = flatM l ++ flatM m := by simp [flatM, List.flatMap_append]
theorem flatM_length (l : ML) : (flatM l).length = l.length * 3 := by
 induction l with
 | nil => rfl
 | cons a l ih => rw [flatM_cons]; simp only [List.length_cons]; omega
theorem flatM_at (l : ML) : ∀ i, i < l.length → (flatM l)[i * 3]? = some (.int .i64 (mO l i)) ∧ (flatM l)[i * 3 + 1]? = some (.int .i64 (mK l i)) ∧ (flatM l)[i * 3 + 2]? = some (.int .i64 (mV l i)) := by
 induction l with
 | nil => intro i h; simp at h
 | cons a l ih =>
  intro i h
  cases i with
  | zero => simp [flatM_cons, mO, mK, mV]
  | succ i =>
   have := ih i (by simpa using h)
   have e1 : (i + 1) * 3 = i * 3 + 1 + 1 + 1 := by omega
   have e2 : (i + 1) * 3 + 1 = (i * 3 + 1) + 1 + 1 + 1 := by omega
   have e3 : (i + 1) * 3 + 2 = (i * 3 + 2) + 1 + 1 + 1 := by omega
   rw [e3, e2, e1, flatM_cons]
   simpa [mO, mK, mV] using this
theorem flatM_set (l : ML) (a b c : Int) : ∀ i, i < l.length → (((flatM l).set (i * 3) (.int .i64 a)).set (i * 3 + 1) (.int .i64 b)).set (i * 3 + 2) (.int .i64 c) = flatM (l.set i (a, b, c)) := by
 induction l with
 | nil => intro i h; simp at h
 | cons p l ih =>
  intro i h
  cases i with
  | zero => simp [flatM_cons]
  | succ i =>
   have := ih i (by simpa using h)
   rw [flatM_cons, List.set_cons_succ, flatM_cons, show (i + 1) * 3 + 2 = (i * 3 + 2) + 1 + 1 + 1 by omega, show (i + 1) * 3 = i * 3 + 1 + 1 + 1 by omega]
   simp only [List.set_cons_succ]
   rw [this]

theorem Row.msgs {w : World} {v : Value} {l : ML} (h : Row w v l.length (flatM l)) :
  ∃ (a : Option Addr) (b off cap : Nat), v = .slice a l.length cap ∧ l.length ≤ cap ∧ cap ≤ maxLen ∧ (0 < l.length → a = some ⟨b, off, none⟩) ∧
   (∀ i, i < l.length → w.cell? ⟨b, off + i * 3, none⟩ = some (.int .i64 (mO l i))) ∧ (∀ i, i < l.length → w.cell? ⟨b, off + i * 3 + 1, none⟩ = some (.int .i64 (mK l i))) ∧ (∀ i, i < l.length → w.cell? ⟨b, off + i * 3 + 2, none⟩ = some (.int .i64 (mV l i))) := by
 obtain ⟨a, b, off, cap, h1, h2, h3, h4, h5, _⟩ := h
 exact ⟨a, b, off, cap, h1, h2, h3, h4, fun i hi => h5 _ _ (flatM_at l i hi).1, fun i hi => h5 _ _ (flatM_at l i hi).2.1, fun i hi => h5 _ _ (flatM_at l i hi).2.2⟩

def eqMsgB (a b c a' b' c' : Int) : Bool := decide (a = a' ∧ b = b' ∧ c = c')
theorem Tryd.info54 : (Tryd.prog.info? 54).map (fun i => (i.zero, i.size, i.bytes)) = some (some (.agg #[.int .i64 0, .int .i64 0, .int .i64 0]), 3, 24) := by kernel_rfl

def filledM (l : ML) (k : Nat) : ML := l.take k ++ List.replicate (l.length - k) (0, 0, 0)
end
end Go.Proofs.YtbmcojelgbkafaaDoor
