/-
  The plain functions that chapter 1's code computes (numbers and lists alone; nothing of the program).
  Rows of cells behind a slice's value, read and owned; lists of pairs as such rows.
  What a call changes, told by the set of blocks that it may write; rows of ints under insertion and deletion.
  Appending to a row of one's own: one element that was just laid; a whole list.
  The number form, as a plain function on numbers: seven bits a byte, the lowest first.
  Rows of bytes: appended to one by one, held against each other, marked.
  The laws' own functions that write marks into a row of bytes, and look for them; the model's and the program's PutNum.
  PutNum, the model's and the program's: the bytes of the number form, a row of its own.
-/
import Derived.Test.YtckphbmlmjlipaaDoorRows
import Derived.WalkKit
import Derived.WalkSpells
import Derived.WalkLawsBesides
import Derived.Lib.RowBridge
import Derived.Laws.AppendOwnNone
namespace Go.Proofs.YtckphbmlmjlipaaDoor

def inB (x lo hi : Int) : Bool := decide (lo ≤ x ∧ x ≤ hi)
theorem inB_true {x lo hi : Int} (h1 : lo ≤ x) (h2 : x ≤ hi) : inB x lo hi = true := by simp [inB, h1, h2]
theorem inB_false1 {x lo hi : Int} (h1 : ¬ lo ≤ x) : inB x lo hi = false := by simp [inB]; omega
theorem inB_false2 {x lo hi : Int} (h2 : ¬ x ≤ hi) : inB x lo hi = false := by simp [inB]; omega
theorem inB_iff {x lo hi : Int} : inB x lo hi = true ↔ lo ≤ x ∧ x ≤ hi := by simp [inB]

/-- a message that is as told -/
def msgOkB (o k v : Int) : Bool := inB o 1 4 && (inB k 0 999 && (inB v (-1000000000) 1000000000 && ((v == 0) || ((o == 1) || (o == 3)))))

/-- the key, the value of the i-th pair -/
def kOf (l : List (Int × Int)) (i : Nat) : Int := (l.getD i (0, 0)).1
def vOf (l : List (Int × Int)) (i : Nat) : Int := (l.getD i (0, 0)).2
def eqPairB (a b c d : Int) : Bool := decide (a = c ∧ b = d)

/-- the i-th pair stands right in its list -/
def okAt (l : List (Int × Int)) (i : Nat) : Bool := inB (kOf l i) 0 999 && (inB (vOf l i) (-1000000000) 1000000000 && (i == 0 || decide (kOf l (i - 1) < kOf l i)))
/-- a list of pairs that is a map -/
def mapOkB (l : List (Int × Int)) : Bool := (List.range l.length).all (okAt l)

theorem mapOkB_true {l : List (Int × Int)} (h : ∀ i, i < l.length → okAt l i = true) : mapOkB l = true := by
  simp only [mapOkB, List.all_eq_true, List.mem_range]; exact h
theorem mapOkB_false {l : List (Int × Int)} {i : Nat} (hi : i < l.length) (h : okAt l i = false) : mapOkB l = false := by
  rw [Bool.eq_false_iff]
  intro hc
  simp only [mapOkB, List.all_eq_true, List.mem_range] at hc
  have := hc i hi
  rw [h] at this
  cases this
theorem mapOkB_at {l : List (Int × Int)} (h : mapOkB l = true) {i : Nat} (hi : i < l.length) : okAt l i = true := by
  simp only [mapOkB, List.all_eq_true, List.mem_range] at h
  exact h i hi

theorem ext_of {l1 l2 : List (Int × Int)} (hl : l1.length = l2.length) (h : ∀ i, i < l1.length → kOf l1 i = kOf l2 i ∧ vOf l1 i = vOf l2 i) : l1 = l2 := by
  apply List.ext_getElem hl
  intro i h1 h2
  have := h i h1
  simp only [kOf, vOf, List.getD, List.getElem?_eq_getElem h1, List.getElem?_eq_getElem h2, Option.getD_some] at this
  exact Prod.ext this.1 this.2
theorem eqPairB_true {a b c d : Int} (h : eqPairB a b c d = true) : a = c ∧ b = d := by simpa [eqPairB] using h
theorem ne_of_eqPairB {l1 l2 : List (Int × Int)} {k : Nat} (h : eqPairB (kOf l1 k) (vOf l1 k) (kOf l2 k) (vOf l2 k) = false) : l1 ≠ l2 := by
  intro e; subst e; simp [eqPairB] at h

end Go.Proofs.YtckphbmlmjlipaaDoor

namespace Go.Proofs.YtckphbmlmjlipaaDoor
open Go.RowKit

theorem bcell {W w1 : World} (hb : Below W.heap.size W w1) : (∀ b o, b < W.heap.size → w1.cell? ⟨b, o, none⟩ = W.cell? ⟨b, o, none⟩) ∧ (∀ b o, b < W.heap.size → w1.frozen? ⟨b, o, none⟩ = W.frozen? ⟨b, o, none⟩) :=
  ⟨fun b o h => hb.cell (p := ⟨b, o, none⟩) h, fun b o h => hb.frozen (p := ⟨b, o, none⟩) h⟩
theorem Below.and {w w1 w2 : World} (h1 : Below w.heap.size w w1) (h2 : Below w1.heap.size w1 w2) : Below w.heap.size w w2 := h1.trans (h2.mono h1.size)
theorem ret_bool {a b : Bool} (h : a = b) : Ending.returned (.bool a) = .returned (.bool b) := by rw [h]
theorem ret_int {k : IntKind} {a b : Int} (h : a = b) : Ending.returned (.int k a) = .returned (.int k b) := by rw [h]

theorem cell_lt {w : World} {a : Addr} {v : Value} (h : w.cell? a = some v) : a.block < w.heap.size := by
  unfold World.cell? at h
  by_cases hb : a.block < w.heap.size
  · exact hb
  · simp [Array.getElem?_eq_none (Nat.le_of_not_lt hb)] at h

/-- THE SLICE VALUE v, of n elements, LEADS TO THE CELLS xs. -/
def Row (w : World) (v : Value) (n : Nat) (xs : List Value) : Prop :=
  ∃ (a : Option Addr) (b off cap : Nat), v = .slice a n cap ∧ n ≤ cap ∧ cap ≤ maxLen ∧ (0 < n → a = some ⟨b, off, none⟩) ∧ (∀ j u, xs[j]? = some u → w.cell? ⟨b, off + j, none⟩ = some u) ∧ (a = none → cap = 0)

theorem Row.below {w w' : World} {v : Value} {n : Nat} {xs : List Value} (h : Row w v n xs) (hb : Below w.heap.size w w') : Row w' v n xs := by
  obtain ⟨a, b, off, cap, h1, h2, h3, h4, h5, h6⟩ := h
  refine ⟨a, b, off, cap, h1, h2, h3, h4, fun j u hj => ?_, h6⟩
  have := h5 j u hj
  rw [hb.cell (p := ⟨b, off + j, none⟩) (cell_lt this)]
  exact this

theorem Row.of_owns {w : World} {base e size n : Nat} {v : Value} {xs : List Value} (h : w.ownsRow base e size v n xs) : Row w v n xs := by
  have h0 := h
  obtain ⟨hl, h | ⟨g, cap, cur, rfl, hg, hh, hn, hcap, hsz, htake⟩⟩ := h
  · obtain ⟨rfl, rfl⟩ := h
    have hx : xs = [] := by simpa using hl
    subst hx
    exact ⟨none, 0, 0, 0, rfl, Nat.le_refl _, Nat.zero_le _, fun h => absurd h (Nat.lt_irrefl _), fun j u hj => by simp at hj, fun _ => rfl⟩
  · refine ⟨some ⟨g, 0, none⟩, g, 0, cap, rfl, hn, hcap, fun _ => rfl, fun j u hj => ?_, fun h => by cases h⟩
    have hlt : j < n * size := by
      have := (List.getElem?_eq_some_iff.1 hj).1
      omega
    rw [Nat.zero_add, h0.cellAt j hlt]
    exact hj

theorem owns_below {w w' : World} {base e size n : Nat} {v : Value} {xs : List Value} (h : w.ownsRow base e size v n xs) (hb : Below w.heap.size w w') : w'.ownsRow base e size v n xs := by
  obtain ⟨hl, h | ⟨g, cap, cur, rfl, hg, hh, hn, hcap, hsz, htake⟩⟩ := h
  · exact ⟨hl, .inl h⟩
  · refine ⟨hl, .inr ⟨g, cap, cur, rfl, hg, ?_, hn, hcap, hsz, htake⟩⟩
    rw [hb.block g (Array.getElem?_eq_some_iff.1 hh).1]
    exact hh
theorem owns_mono {w : World} {base base' e size n : Nat} {v : Value} {xs : List Value} (h : w.ownsRow base e size v n xs) (hb : base' ≤ base) : w.ownsRow base' e size v n xs := by
  obtain ⟨hl, h | ⟨g, cap, cur, rfl, hg, hh, hn, hcap, hsz, htake⟩⟩ := h
  · exact ⟨hl, .inl h⟩
  · exact ⟨hl, .inr ⟨g, cap, cur, rfl, Nat.le_trans hb hg, hh, hn, hcap, hsz, htake⟩⟩

/-- the cells of a list of pairs -/
def flatP (l : List (Int × Int)) : List Value := l.flatMap fun p => [.int .i64 p.1, .int .i64 p.2]

theorem flatP_length (l : List (Int × Int)) : (flatP l).length = l.length * 2 := by
  induction l with
  | nil => rfl
  | cons a l ih => simp only [flatP, List.flatMap_cons, List.length_append, List.length_cons, List.length_nil] at *; omega
theorem flatP_append (l m : List (Int × Int)) : flatP (l ++ m) = flatP l ++ flatP m := by simp [flatP, List.flatMap_append]
theorem flatP_at (l : List (Int × Int)) : ∀ i, i < l.length → (flatP l)[i * 2]? = some (.int .i64 (kOf l i)) ∧ (flatP l)[i * 2 + 1]? = some (.int .i64 (vOf l i)) := by
  induction l with
  | nil => intro i h; simp at h
  | cons a l ih =>
    intro i h
    cases i with
    | zero => simp [flatP, kOf, vOf]
    | succ i =>
      have := ih i (by simpa using h)
      have e1 : (i + 1) * 2 = i * 2 + 1 + 1 := by omega
      have e2 : (i + 1) * 2 + 1 = (i * 2 + 1) + 1 + 1 := by omega
      rw [e2, e1]
      simpa [flatP, kOf, vOf] using this

theorem Row.pairs {w : World} {v : Value} {l : List (Int × Int)} (h : Row w v l.length (flatP l)) :
    ∃ (a : Option Addr) (b off cap : Nat), v = .slice a l.length cap ∧ l.length ≤ cap ∧ cap ≤ maxLen ∧ (0 < l.length → a = some ⟨b, off, none⟩) ∧
      (∀ i, i < l.length → w.cell? ⟨b, off + i * 2, none⟩ = some (.int .i64 (kOf l i))) ∧ (∀ i, i < l.length → w.cell? ⟨b, off + i * 2 + 1, none⟩ = some (.int .i64 (vOf l i))) := by
  obtain ⟨a, b, off, cap, h1, h2, h3, h4, h5, _⟩ := h
  exact ⟨a, b, off, cap, h1, h2, h3, h4, fun i hi => h5 _ _ (flatP_at l i hi).1, fun i hi => h5 _ _ (flatP_at l i hi).2⟩

end Go.Proofs.YtckphbmlmjlipaaDoor

namespace Go.Proofs.YtckphbmlmjlipaaDoor
open Go.RowKit

/-- w' IS w WITH NEW BLOCKS, AND WITH WRITES TO THE BLOCKS OF F ALONE. -/
structure Chg (F : Nat → Prop) (w w' : World) : Prop where
  os : w'.os = w.os
  tape : w'.tape = w.tape
  output : w'.output = w.output
  size : w.heap.size ≤ w'.heap.size
  block : ∀ k, k < w.heap.size → ¬ F k → w'.heap[k]? = w.heap[k]?

theorem Chg.refl (F : Nat → Prop) (w : World) : Chg F w w := ⟨rfl, rfl, rfl, Nat.le_refl _, fun _ _ _ => rfl⟩
theorem Chg.trans {F G : Nat → Prop} {a b c : World} (h : Chg F a b) (k : Chg G b c) (hG : ∀ g, g < a.heap.size → G g → F g) : Chg F a c :=
  ⟨k.os.trans h.os, k.tape.trans h.tape, k.output.trans h.output, Nat.le_trans h.size k.size,
    fun g hg hn => (k.block g (Nat.lt_of_lt_of_le hg h.size) (fun e => hn (hG g hg e))).trans (h.block g hg hn)⟩
theorem Chg.mono {F G : Nat → Prop} {a b : World} (h : Chg F a b) (hG : ∀ g, g < a.heap.size → F g → G g) : Chg G a b :=
  ⟨h.os, h.tape, h.output, h.size, fun g hg hn => h.block g hg (fun e => hn (hG g hg e))⟩
theorem Chg.of_below {F : Nat → Prop} {a b : World} (h : Below a.heap.size a b) : Chg F a b := ⟨h.os, h.tape, h.output, h.size, fun g hg _ => h.block g hg⟩
theorem Chg.below {F : Nat → Prop} {a b : World} {B : Nat} (h : Chg F a b) (hF : ∀ g, g < a.heap.size → F g → B ≤ g) (hB : B ≤ a.heap.size) : Below B a b :=
  ⟨h.os, h.tape, h.output, h.size, fun g hg => h.block g (Nat.lt_of_lt_of_le hg hB) (fun e => by have := hF g (Nat.lt_of_lt_of_le hg hB) e; omega)⟩
theorem Chg.alloc {F : Nat → Prop} {a b : World} (h : Chg F a b) (o : Obj) : Chg F a (b.alloc o) :=
  h.trans (Chg.of_below (F := F) ((Below.refl _ _).alloc (Nat.le_refl _) o)) (fun _ _ e => e)
theorem Chg.drew {F : Nat → Prop} {a b : World} (h : Chg F a b) : Chg F a b.drew := ⟨h.os, h.tape, h.output, h.size, h.block⟩
theorem Chg.drewN {F : Nat → Prop} {a b : World} (h : Chg F a b) (n : Nat) : Chg F a (b.drewN n) :=
  h.trans (Chg.of_below (F := F) (below_drewN (Below.refl _ _) n)) (fun _ _ e => e)
theorem size_setCells' (g : Nat) : ∀ (vs : List Value) (o : Nat) (w : World), (w.setCells g o vs).heap.size = w.heap.size
  | [], _, _ => rfl
  | v :: r, o, w => by rw [World.setCells, size_setCells' g r]; simp
theorem Chg.setCell {F : Nat → Prop} {a b : World} (h : Chg F a b) {p : Addr} (hp : p.block < a.heap.size → F p.block) (u : Value) : Chg F a (b.setCell p u) :=
  ⟨h.os, h.tape, h.output, by simpa using h.size, fun k hk hn => (heap_setCell_other _ _ _ _ (fun e => hn (by subst e; exact hp hk))).trans (h.block k hk hn)⟩
theorem Chg.setAt {F : Nat → Prop} {a b : World} (h : Chg F a b) (g j : Nat) (hg : F g) (u : Value) : Chg F a (b.setCell ⟨g, j, none⟩ u) := h.setCell (p := ⟨g, j, none⟩) (fun _ => hg) u
theorem Chg.setCells {F : Nat → Prop} {a : World} {g : Nat} (hp : g < a.heap.size → F g) : ∀ (vs : List Value) (o : Nat) (b : World), Chg F a b → Chg F a (b.setCells g o vs)
  | [], _, _, h => h
  | v :: r, o, _, h => Chg.setCells hp r (o + 1) _ (h.setCell (p := ⟨g, o, none⟩) hp v)

theorem owns_chg {F : Nat → Prop} {w w' : World} {base e size n : Nat} {v : Value} {xs : List Value} (h : w.ownsRow base e size v n xs) (hc : Chg F w w') (hF : ∀ g, v.ownBlock = some g → ¬ F g) : w'.ownsRow base e size v n xs := by
  obtain ⟨hl, h | ⟨g, cap, cur, rfl, hg, hh, hn, hcap, hsz, htake⟩⟩ := h
  · exact ⟨hl, .inl h⟩
  · exact ⟨hl, .inr ⟨g, cap, cur, rfl, hg, (hc.block g (Array.getElem?_eq_some_iff.1 hh).1 (hF g rfl)).trans hh, hn, hcap, hsz, htake⟩⟩
theorem row_chg {F : Nat → Prop} {w w' : World} {b : Nat} {o : Obj} (h : w.heap[b]? = some o) (hc : Chg F w w') (hF : ¬ F b) : w'.heap[b]? = some o :=
  (hc.block b (Array.getElem?_eq_some_iff.1 h).1 hF).trans h

/-- an array with a stretch written over -/
def spl (cur : Array Value) : Nat → List Value → Array Value
  | _, [] => cur
  | o, v :: r => spl (cur.setIfInBounds o v) (o + 1) r
theorem spl_size (cur : Array Value) : ∀ (vs : List Value) (o : Nat), (spl cur o vs).size = cur.size := by
  intro vs
  induction vs generalizing cur with
  | nil => intro o; rfl
  | cons v r ih => intro o; rw [spl, ih]; simp
theorem spl_toList : ∀ (vs : List Value) (cur : Array Value) (o : Nat), o + vs.length ≤ cur.size → (spl cur o vs).toList = cur.toList.take o ++ vs ++ cur.toList.drop (o + vs.length)
  | [], cur, o, h => by simp [spl]
  | v :: r, cur, o, h => by
    simp only [List.length_cons] at h
    rw [spl, spl_toList r _ (o + 1) (by simp; omega)]
    have hlt : o < cur.toList.length := by simp; omega
    have h1 : (cur.setIfInBounds o v).toList = cur.toList.set o v := Array.toList_setIfInBounds ..
    rw [h1, List.take_set, List.drop_set, if_pos (by omega), List.take_succ_eq_append_getElem hlt]
    rw [List.set_append_right _ _ (by simp; omega)]
    simp only [List.length_take, List.length_cons]
    rw [show o - min o cur.toList.length = 0 by omega, show o + 1 + r.length = o + (r.length + 1) by omega]
    simp
theorem heap_setCells_same (g : Nat) (t : TypeId) : ∀ (vs : List Value) (o : Nat) (w : World) (cur : Array Value), w.heap[g]? = some (.cells cur t (0, 0)) → (w.setCells g o vs).heap[g]? = some (.cells (spl cur o vs) t (0, 0))
  | [], _, _, _, h => h
  | v :: r, o, w, cur, h => by
    rw [World.setCells, spl]
    exact heap_setCells_same g t r (o + 1) _ _ (heap_setCell_same w g o cur t v h)

theorem ints_one (zs : List Int) : ∀ v ∈ zs.map (Value.int .i64), v.oneCell' = true := by
  intro v hv
  obtain ⟨z, _, rfl⟩ := List.mem_map.1 hv
  rfl

theorem cell_of_cells {w : World} {g j : Nat} {cur : Array Value} {t : TypeId} (h : w.heap[g]? = some (.cells cur t (0, 0))) : w.cell? ⟨g, j, none⟩ = cur[j]? := cell_of_row w g j cur t (0, 0) h
theorem frozen_of_cells {w : World} {g j : Nat} {cur : Array Value} {t : TypeId} (h : w.heap[g]? = some (.cells cur t (0, 0))) : w.frozen? ⟨g, j, none⟩ = false := frozen_of_row w g j cur t h

theorem owns_of {w : World} {g n cap : Nat} {t : TypeId} {cur : Array Value} {xs : List Value} (hh : w.heap[g]? = some (.cells cur t (0, 0))) (hn : n ≤ cap) (hcap : cap ≤ maxLen) (hs : cur.size = cap) (ht : cur.toList.take n = xs) (hl : xs.length = n) :
    w.ownsRow 0 t 1 (.slice (some ⟨g, 0, none⟩) n cap) n xs :=
  ⟨by omega, .inr ⟨g, cap, cur, rfl, Nat.zero_le _, hh, hn, hcap, by omega, by rw [Nat.mul_one]; exact ht⟩⟩

theorem take_app {α : Type} {A B : List α} {n : Nat} (h : A.length = n) : (A ++ B).take n = A := by subst h; simp

end Go.Proofs.YtckphbmlmjlipaaDoor

namespace Go.Proofs.YtckphbmlmjlipaaDoor
open Go.RowKit

theorem chg_of_grown {w w' : World} {r : Option Nat} (h : w.grownBy w' r) : Chg (fun g => r = some g) w w' :=
  ⟨h.os, h.tape, h.output, h.size, fun k hk hn => h.block k hk (fun e => hn e.symm)⟩
theorem below_of_own {w w' : World} {base e size n : Nat} {v : Value} {xs : List Value} (h : w.ownsRow base e size v n xs) (hc : Chg (fun g => v.ownBlock = some g) w w') (hb : base ≤ w.heap.size) : Below base w w' :=
  hc.below (fun g _ hg => (h.lt g hg).1) hb

theorem app_one {P : Program} {ops : Array Oper} {rest : List Oper} {o : Oper} {a : Act} {Q : Exit → Act → World → Prop} (W : World) (hgd : o.guard = none) (s x : Operand) (t : TypeId)
    (ho : o.op = .call { callee := .builtin .append, args := #[s, x], argTypes := #[t, t] })
    (base : Nat) (e : TypeId) (i : TypeInfo) (z : Value) (size bytes : Nat) (ht : P.underlying t = some (.slice e)) (hi : P.info? e = some i) (hz : i.zero = some z)
    (hsize : i.size = size) (hby : i.bytes = bytes) (hzs : z.cells.size = size) (hsz : 0 < size)
    (v : Value) (n : Nat) (xs : List Value) (hs : a.eval s = v) (hown : W.ownsRow base e size v n xs)
    (news : List Value) (hx : a.eval x = .slice (some ⟨W.heap.size, 0, none⟩) 1 1) (hl : news.length = size) (h1 : ∀ u ∈ news, u.oneCell' = true)
    (h63 : n + 1 ≤ maxLen) (hbytes : (n + 1) * bytes ≤ 140737488355328) (hbase : base ≤ W.heap.size)
    (h : ∀ v' w', w'.ownsRow base e size v' (n + 1) (xs ++ news) → Chg (fun g => v.ownBlock = some g) W w' → Below base W w' → wpList P ops Q rest (a.put o.dst v') w') :
    wpList P ops Q (o :: rest) a (W.alloc (.cells news.toArray e)) := by
  refine wpList_append_own _ hgd s x t ho base e i z size bytes ht hi hz hsize hby hzs hsz v n xs hs (hown.alloc _) ⟨W.heap.size, 0, none⟩ 1 1 news hx (by omega) ?_ h1 h63 hbytes (by simp; omega) ?_
  · intro j u hj
    rw [Go.WideShapes.add_plain, Nat.zero_add, cell_of_cells (heap_alloc_new W _)]
    simpa using hj
  · intro v' w' h2 h3 _
    have hc : Chg (fun g => v.ownBlock = some g) W w' := ((Chg.refl _ _).alloc _).trans (chg_of_grown h3) (fun _ _ e => e)
    exact h v' w' h2 hc (below_of_own hown hc hbase)

theorem app_row {P : Program} {ops : Array Oper} {rest : List Oper} {o : Oper} {a : Act} {Q : Exit → Act → World → Prop} (W : World) (hgd : o.guard = none) (s x : Operand) (t : TypeId)
    (ho : o.op = .call { callee := .builtin .append, args := #[s, x], argTypes := #[t, t] })
    (base : Nat) (e : TypeId) (i : TypeInfo) (z : Value) (size bytes : Nat) (ht : P.underlying t = some (.slice e)) (hi : P.info? e = some i) (hz : i.zero = some z)
    (hsize : i.size = size) (hby : i.bytes = bytes) (hzs : z.cells.size = size) (hsz : 0 < size)
    (v : Value) (n : Nat) (xs : List Value) (hs : a.eval s = v) (hown : W.ownsRow base e size v n xs)
    (u : Value) (m : Nat) (news : List Value) (hx : a.eval x = u) (hr : Row W u m news) (hl : news.length = m * size) (h1 : ∀ y ∈ news, y.oneCell' = true)
    (h63 : n + m ≤ maxLen) (hbytes : (n + m) * bytes ≤ 140737488355328) (hbase : base ≤ W.heap.size)
    (h : ∀ v' w', w'.ownsRow base e size v' (n + m) (xs ++ news) → Chg (fun g => v.ownBlock = some g) W w' → Below base W w' → wpList P ops Q rest (a.put o.dst v') w') :
    wpList P ops Q (o :: rest) a W := by
  obtain ⟨sa, b, off, cap, rfl, hle, hmx, hsa, hcell, hnil⟩ := hr
  cases sa with
  | none =>
    have hc0 := hnil rfl
    have hm0 : m = 0 := by omega
    subst hc0
    subst hm0
    have hn0 : news = [] := List.length_eq_zero_iff.1 (by omega)
    subst hn0
    refine wpList_append_own_none hgd s x t ho base e i size ht hi v n xs hs hown hx ?_
    exact h v W (by simpa using hown) (Chg.refl _ _) (Below.refl _ _)
  | some ad =>
    refine wpList_append_own _ hgd s x t ho base e i z size bytes ht hi hz hsize hby hzs hsz v n xs hs hown ad m cap news hx hl ?_ h1 h63 hbytes hbase ?_
    · intro j y hj
      have hjl := (List.getElem?_eq_some_iff.1 hj).1
      have hm : 0 < m := by
        rcases Nat.eq_zero_or_pos m with h0 | h0
        · subst h0; omega
        · exact h0
      have := hsa hm
      simp only [Option.some.injEq] at this
      subst this
      rw [Go.WideShapes.add_plain]
      exact hcell j y hj
    · intro v' w' h2 h3 _
      have hc := chg_of_grown h3
      exact h v' w' h2 hc (below_of_own hown hc hbase)

theorem flatP_one (l : List (Int × Int)) : ∀ y ∈ flatP l, y.oneCell' = true := by
  induction l with
  | nil => intro y hy; simp [flatP] at hy
  | cons p l ih =>
    intro y hy
    rw [show flatP (p :: l) = .int .i64 p.1 :: .int .i64 p.2 :: flatP l from rfl] at hy
    rcases List.mem_cons.1 hy with rfl | hy
    · rfl
    · rcases List.mem_cons.1 hy with rfl | hy
      · rfl
      · exact ih y hy
theorem two_one (a b : Int) : ∀ u ∈ [Value.int .i64 a, Value.int .i64 b], u.oneCell' = true := by
  intro u hu; simp at hu; rcases hu with rfl | rfl <;> rfl
theorem room_of {n bytes : Nat} (h : n ≤ 8388608) (hb : bytes ≤ 256) : n + 1 ≤ maxLen ∧ (n + 1) * bytes ≤ 140737488355328 := by
  refine ⟨by unfold maxLen; omega, ?_⟩
  have : (n + 1) * bytes ≤ (n + 1) * 256 := Nat.mul_le_mul_left _ hb
  omega
theorem flatP_snoc (l : List (Int × Int)) (k v : Int) : flatP l ++ [.int .i64 k, .int .i64 v] = flatP (l ++ [(k, v)]) := by rw [flatP_append]; rfl

theorem empty_own (W : World) (base : Nat) (e size : Nat) (hb : base ≤ W.heap.size) : (W.alloc (.cells #[] e)).ownsRow base e size (.slice (some ⟨W.heap.size, 0, none⟩) 0 0) 0 [] :=
  ⟨by simp, .inr ⟨W.heap.size, 0, #[], rfl, hb, heap_alloc_new _ _, Nat.le_refl _, Nat.zero_le _, by simp, by simp⟩⟩

end Go.Proofs.YtckphbmlmjlipaaDoor

namespace Go.Proofs.YtckphbmlmjlipaaDoor

def codeN (x : Int) : Int := if x < 0 then -2 * x - 1 else 2 * x
def sevens : Nat → Int → List Int
  | 0, n => [n]
  | f + 1, n => if 127 < n then (n % 128 + 128) :: sevens f (n / 128) else [n]
def putN (x : Int) : List Int := if -2000000000 ≤ x ∧ x ≤ 2000000000 then sevens 4 (codeN x) else []
def topN : Nat → Int
  | 0 => 128
  | k + 1 => 128 * topN k

theorem sevens_stop (f : Nat) {n : Int} (h : ¬ 127 < n) : sevens f n = [n] := by cases f <;> simp [sevens, h]
theorem sevens_go (f : Nat) {n : Int} (h : 127 < n) : sevens (f + 1) n = (n % 128 + 128) :: sevens f (n / 128) := by simp [sevens, h]
theorem sevens_length (f : Nat) (n : Int) : (sevens f n).length ≤ f + 1 := by
  induction f generalizing n with
  | zero => simp [sevens]
  | succ f ih =>
    rw [sevens]
    split
    · have := ih (n / 128); simp; omega
    · simp
theorem sevens_pos (f : Nat) (n : Int) : 0 < (sevens f n).length := by cases f <;> simp [sevens]; split <;> simp
theorem sevens_byte (f : Nat) : ∀ n : Int, 0 ≤ n → n < topN f → ∀ b ∈ sevens f n, 0 ≤ b ∧ b ≤ 255 := by
  induction f with
  | zero => intro n h0 h1 b hb; simp [sevens] at hb; simp [topN] at h1; omega
  | succ f ih =>
    intro n h0 h1 b hb
    rw [sevens] at hb
    split at hb
    · rcases List.mem_cons.1 hb with rfl | hb
      · omega
      · exact ih (n / 128) (by omega) (by rw [topN] at h1; omega) b hb
    · simp at hb; omega
theorem putN_in {x : Int} (h1 : -2000000000 ≤ x) (h2 : x ≤ 2000000000) : putN x = sevens 4 (codeN x) := by simp [putN, h1, h2]
theorem putN_out {x : Int} (h : ¬ (-2000000000 ≤ x ∧ x ≤ 2000000000)) : putN x = [] := by simp only [putN, if_neg h]
theorem putN_length (x : Int) : (putN x).length ≤ 5 := by
  unfold putN; split
  · exact sevens_length 4 _
  · simp
theorem codeN_in {x : Int} (h1 : -2000000000 ≤ x) (h2 : x ≤ 2000000000) : 0 ≤ codeN x ∧ codeN x ≤ 4000000000 := by unfold codeN; split <;> omega
theorem putN_byte (x : Int) : ∀ b ∈ putN x, 0 ≤ b ∧ b ≤ 255 := by
  intro b hb
  by_cases h : -2000000000 ≤ x ∧ x ≤ 2000000000
  · rw [putN_in h.1 h.2] at hb
    have := codeN_in h.1 h.2
    exact sevens_byte 4 _ this.1 (by simp [topN]; omega) b hb
  · rw [putN_out h] at hb; cases hb

/-- what a loop that writes the form has done, and has still to do -/
structure Formed (x : Int) (done : List Int) (k : Nat) (m : Int) : Prop where
  room : done.length + k = 4
  low : 0 ≤ m
  high : m ≤ 4000000000
  top : m < topN k
  all : done ++ sevens k m = sevens 4 (codeN x)
theorem Formed.start {x : Int} (h1 : -2000000000 ≤ x) (h2 : x ≤ 2000000000) : Formed x [] 4 (codeN x) :=
  ⟨rfl, (codeN_in h1 h2).1, (codeN_in h1 h2).2, by have := (codeN_in h1 h2).2; simp [topN]; omega, rfl⟩
theorem Formed.step {x : Int} {done : List Int} {k : Nat} {m : Int} (h : Formed x done k m) (hm : 127 < m) : ∃ k', k = k' + 1 ∧ Formed x (done ++ [m % 128 + 128]) k' (m / 128) := by
  obtain ⟨h1, h2, h3, h4, h5⟩ := h
  cases k with
  | zero => simp [topN] at h4; omega
  | succ k =>
    refine ⟨k, rfl, ?_, by omega, by omega, by rw [topN] at h4; omega, ?_⟩
    · simp; omega
    · rw [sevens_go k hm] at h5
      rw [← h5]; simp
theorem Formed.stop {x : Int} {done : List Int} {k : Nat} {m : Int} (h : Formed x done k m) (hm : ¬ 127 < m) : done ++ [m] = sevens 4 (codeN x) := by
  rw [← h.all, sevens_stop k hm]

end Go.Proofs.YtckphbmlmjlipaaDoor

namespace Go.Proofs.YtckphbmlmjlipaaDoor
open Go.RowKit

theorem Tryd.infoByte : (Tryd.prog.info? 5).map (fun i => (i.zero, i.size, i.bytes)) = some (some (.int .u8 0), 1, 1) := by kernel_rfl
def flatB (l : List Int) : List Value := l.map (Value.int .u8)
theorem flatB_length (l : List Int) : (flatB l).length = l.length := by simp [flatB]
theorem flatB_append (l m : List Int) : flatB (l ++ m) = flatB l ++ flatB m := by simp [flatB]
theorem flatB_snoc (l : List Int) (x : Int) : flatB l ++ [.int .u8 x] = flatB (l ++ [x]) := by simp [flatB]
theorem flatB_one (l : List Int) : ∀ y ∈ flatB l, y.oneCell' = true := by
  intro v hv
  obtain ⟨z, _, rfl⟩ := List.mem_map.1 hv
  rfl
theorem one_one (x : Int) : ∀ u ∈ [Value.int .u8 x], u.oneCell' = true := by intro u hu; simp at hu; subst hu; rfl
def byOf (l : List Int) (i : Nat) : Int := l.getD i 0
theorem flatB_at (l : List Int) (i : Nat) (h : i < l.length) : (flatB l)[i]? = some (.int .u8 (byOf l i)) := by
  simp [flatB, byOf, List.getD, h]
def inByte (l : List Int) : Prop := ∀ b ∈ l, 0 ≤ b ∧ b ≤ 255
theorem inByte.at {l : List Int} (h : inByte l) (i : Nat) : 0 ≤ byOf l i ∧ byOf l i ≤ 255 := by
  by_cases hi : i < l.length
  · have := h (l[i]) (List.getElem_mem hi)
    simpa [byOf, List.getD, hi] using this
  · simp [byOf, List.getD, List.getElem?_eq_none (Nat.le_of_not_lt hi)]
theorem Row.bytes {w : World} {v : Value} {l : List Int} (h : Row w v l.length (flatB l)) :
    ∃ (a : Option Addr) (b off cap : Nat), v = .slice a l.length cap ∧ l.length ≤ cap ∧ cap ≤ maxLen ∧ (0 < l.length → a = some ⟨b, off, none⟩) ∧
      (∀ i, i < l.length → w.cell? ⟨b, off + i, none⟩ = some (.int .u8 (byOf l i))) := by
  obtain ⟨a, b, off, cap, h1, h2, h3, h4, h5, _⟩ := h
  exact ⟨a, b, off, cap, h1, h2, h3, h4, fun i hi => h5 _ _ (flatB_at l i hi)⟩
theorem ext_bytes {l1 l2 : List Int} (hl : l1.length = l2.length) (h : ∀ i, i < l1.length → byOf l1 i = byOf l2 i) : l1 = l2 := by
  apply List.ext_getElem hl
  intro i h1 h2
  have := h i h1
  simpa [byOf, List.getD, h1, h2] using this

end Go.Proofs.YtckphbmlmjlipaaDoor

namespace Go.Proofs.YtckphbmlmjlipaaDoor
open Go.RowKit

theorem owns_shape {w : World} {base e size n : Nat} {v : Value} {xs : List Value} (h : w.ownsRow base e size v n xs) : ∃ (a : Option Addr) (cap : Nat), v = .slice a n cap ∧ n ≤ cap ∧ cap ≤ maxLen := by
  obtain ⟨_, ⟨e, hn⟩ | ⟨g, cap', cur, e, _, _, hn, hc, _⟩⟩ := h
  · exact ⟨none, 0, by rw [e, hn], by omega, Nat.zero_le _⟩
  · exact ⟨_, _, e, hn, hc⟩

def markB (k : Int) (i : Nat) : Int := IntKind.u8.wrap (k + i)
def marksB (k : Int) (n : Nat) : List Int := (List.range n).map (markB k)
theorem marksB_length (k : Int) (n : Nat) : (marksB k n).length = n := by simp [marksB]
theorem marksB_succ (k : Int) (n : Nat) : marksB k (n + 1) = marksB k n ++ [markB k n] := by simp [marksB, List.range_succ]
theorem marksB_at (k : Int) (n i : Nat) (h : i < n) : byOf (marksB k n) i = markB k i := by simp [marksB, byOf, List.getD, h]
def midB (k : Int) (l : List Int) (i : Nat) : List Int := marksB k i ++ l.drop i
theorem midB_length (k : Int) (l : List Int) (i : Nat) (h : i ≤ l.length) : (midB k l i).length = l.length := by simp [midB, marksB_length]; omega
theorem midB_zero (k : Int) (l : List Int) : midB k l 0 = l := by simp [midB, marksB]
theorem midB_full (k : Int) (l : List Int) : midB k l l.length = marksB k l.length := by simp [midB]
theorem midB_step (k : Int) (l : List Int) (i : Nat) (h : i < l.length) : (flatB (midB k l i)).set i (.int .u8 (markB k i)) = flatB (midB k l (i + 1)) := by
  rw [flatB, ← List.map_set, midB, midB, marksB_succ, List.drop_eq_getElem_cons h, List.set_append_right _ _ (by rw [marksB_length]; omega), marksB_length, Nat.sub_self, List.set_cons_zero]
  simp [flatB]

end Go.Proofs.YtckphbmlmjlipaaDoor

namespace Go.Proofs.YtckphbmlmjlipaaDoor
open Go.RowKit

set_option maxHeartbeats 400000 in
theorem l1InN_any (x lo hi : Int) (w : World) :
    Calls Tryd.prog 42 #[.int .i64 x, .int .i64 lo, .int .i64 hi] w fun e w' => e = .returned (.bool (inB x lo hi)) ∧ w' = w := by
  by_cases h1 : lo ≤ x
  · by_cases h2 : x ≤ hi
    · have E : Hid (inB x lo hi = true) := inB_true h1 h2
      go_enter Tryd.func42, Tryd.ntmps42
      go_wp2
      go_ret
      exact ⟨ret_bool E.out.symm, rfl⟩
    · have E : Hid (inB x lo hi = false) := inB_false2 h2
      go_enter Tryd.func42, Tryd.ntmps42
      go_wp2
      go_ret
      exact ⟨ret_bool E.out.symm, rfl⟩
  · have E : Hid (inB x lo hi = false) := inB_false1 h1
    go_enter Tryd.func42, Tryd.ntmps42
    go_wp2
    go_ret
    exact ⟨ret_bool E.out.symm, rfl⟩

/-- a row of bytes of one's own -/
def OwnB (base : Nat) (w : World) (v : Value) (l : List Int) : Prop := w.ownsRow base 5 1 v l.length (flatB l)

theorem room5 {n : Nat} (h : n ≤ 5) : n + 1 ≤ maxLen ∧ (n + 1) * 1 ≤ 140737488355328 := ⟨by unfold maxLen; omega, by omega⟩

set_option maxRecDepth 100000 in
set_option maxHeartbeats 2000000 in
theorem specPutNum_any (x : Int) (w : World) :
    Calls Tryd.prog 71 #[.int .i64 x] w fun e w' => ∃ v, e = .returned v ∧ OwnB w.heap.size w' v (putN x) ∧ Below w.heap.size w w' := by
  obtain ⟨i0, hi, hz0, hz1, hz2⟩ := info_parts Tryd.infoByte
  have e0 : OwnB w.heap.size (w.alloc (.cells #[] 5)) (.slice (some ⟨w.heap.size, 0, none⟩) 0 0) [] := empty_own w w.heap.size 5 1 (Nat.le_refl _)
  have b0 : Below w.heap.size w (w.alloc (.cells #[] 5)) := (Below.refl _ _).alloc (Nat.le_refl _) _
  have E0 : Hid _ := And.intro e0 b0
  clear e0 b0
  by_cases h : -2000000000 ≤ x ∧ x ≤ 2000000000
  · have PN : Hid (putN x = sevens 4 (codeN x)) := putN_in h.1 h.2
    have IB : inB x (-2000000000) 2000000000 = true := inB_true h.1 h.2
    obtain ⟨h1, h2⟩ := h
    by_cases hx : x < 0
    · have EC : Hid (codeN x = -2 * x - 1) := by show _ = _; simp [codeN, hx]
      go_enter Tryd.func71, Tryd.ntmps71
      go_wp2_with (go_at_call 42; refine (l1InN_any _ _ _ _).mono ?_; rintro e w1 ⟨rfl, rfl⟩)
      go_loopw [3, 4] (fun o n wr => ∃ (k : Nat) (m : Int) (done : List Int), n = .int .i64 m ∧ Formed x done k m ∧ OwnB w.heap.size wr o done ∧ Below w.heap.size w wr) (fun _ n _ => (intOf n).toNat)
      case atStart => exact ⟨4, codeN x, [], by rw [EC.out], Formed.start h1 h2, E0.out.1, E0.out.2⟩
      case round =>
        obtain ⟨k, m, done, rfl, hF, hown, hb⟩ := hrel
        have m0 := hF.low
        have m1 := hF.high
        have hd : done.length ≤ 5 := by have := hF.room; omega
        have FO : Hid (Formed x done k m) := hF
        obtain ⟨av, cv, rfl, _, _⟩ := owns_shape hown
        have OW : Hid (OwnB w.heap.size wr (.slice av done.length cv) done) := hown
        have BS := hb.size
        have BB : Hid (Below w.heap.size w wr) := hb
        clear hF hown hb
        by_cases hm : 127 < m
        · have hw8 : IntKind.u8.wrap (m % 128 + 128) = m % 128 + 128 := by rw [IntKind.wrap_u8]; omega
          go_wp2_with (at_builtin; refine app_one wr rfl _ _ 71 rfl w.heap.size 5 i0 _ 1 1 Tryd.underlying71 hi hz0 hz1 hz2 rfl (by decide) (.slice av done.length cv) done.length (flatB done) rfl OW.out [.int .u8 (m % 128 + 128)] rfl rfl (one_one _) (room5 hd).1 (room5 hd).2 BS ?_)
          intro v' w2 ho2 _ hb2
          obtain ⟨k', rfl, hF'⟩ := FO.out.step hm
          have O2 : OwnB w.heap.size w2 v' (done ++ [m % 128 + 128]) := by
            unfold OwnB; rw [flatB_snoc] at ho2; simpa using ho2
          have P : Hid _ := And.intro hF' (And.intro O2 (BB.out.trans hb2))
          clear ho2 hb2 hF' O2 FO OW BB
          go_wp2
          go_roundw
          case rel => exact ⟨k', m / 128, _, rfl, P.out.1, P.out.2.1, P.out.2.2⟩
          case measure => simp [intOf]; omega
        · have hw8 : IntKind.u8.wrap m = m := by rw [IntKind.wrap_u8]; omega
          go_wp2_with (at_builtin; refine app_one wr rfl _ _ 71 rfl w.heap.size 5 i0 _ 1 1 Tryd.underlying71 hi hz0 hz1 hz2 rfl (by decide) (.slice av done.length cv) done.length (flatB done) rfl OW.out [.int .u8 m] rfl rfl (one_one _) (room5 hd).1 (room5 hd).2 BS ?_)
          intro v' w2 ho2 _ hb2
          have hs := FO.out.stop (by omega)
          have O2 : OwnB w.heap.size w2 v' (done ++ [m]) := by
            unfold OwnB; rw [flatB_snoc] at ho2; simpa using ho2
          rw [hs, ← PN.out] at O2
          have P : Hid _ := And.intro O2 (BB.out.trans hb2)
          clear ho2 hb2 O2 FO OW BB hs
          go_wp2
          go_ret
          exact ⟨_, rfl, P.out.1, P.out.2⟩
    · have EC : Hid (codeN x = 2 * x) := by show _ = _; simp [codeN, hx]
      go_enter Tryd.func71, Tryd.ntmps71
      go_wp2_with (go_at_call 42; refine (l1InN_any _ _ _ _).mono ?_; rintro e w1 ⟨rfl, rfl⟩)
      go_loopw [3, 4] (fun o n wr => ∃ (k : Nat) (m : Int) (done : List Int), n = .int .i64 m ∧ Formed x done k m ∧ OwnB w.heap.size wr o done ∧ Below w.heap.size w wr) (fun _ n _ => (intOf n).toNat)
      case atStart => exact ⟨4, codeN x, [], by rw [EC.out], Formed.start h1 h2, E0.out.1, E0.out.2⟩
      case round =>
        obtain ⟨k, m, done, rfl, hF, hown, hb⟩ := hrel
        have m0 := hF.low
        have m1 := hF.high
        have hd : done.length ≤ 5 := by have := hF.room; omega
        have FO : Hid (Formed x done k m) := hF
        obtain ⟨av, cv, rfl, _, _⟩ := owns_shape hown
        have OW : Hid (OwnB w.heap.size wr (.slice av done.length cv) done) := hown
        have BS := hb.size
        have BB : Hid (Below w.heap.size w wr) := hb
        clear hF hown hb
        by_cases hm : 127 < m
        · have hw8 : IntKind.u8.wrap (m % 128 + 128) = m % 128 + 128 := by rw [IntKind.wrap_u8]; omega
          go_wp2_with (at_builtin; refine app_one wr rfl _ _ 71 rfl w.heap.size 5 i0 _ 1 1 Tryd.underlying71 hi hz0 hz1 hz2 rfl (by decide) (.slice av done.length cv) done.length (flatB done) rfl OW.out [.int .u8 (m % 128 + 128)] rfl rfl (one_one _) (room5 hd).1 (room5 hd).2 BS ?_)
          intro v' w2 ho2 _ hb2
          obtain ⟨k', rfl, hF'⟩ := FO.out.step hm
          have O2 : OwnB w.heap.size w2 v' (done ++ [m % 128 + 128]) := by
            unfold OwnB; rw [flatB_snoc] at ho2; simpa using ho2
          have P : Hid _ := And.intro hF' (And.intro O2 (BB.out.trans hb2))
          clear ho2 hb2 hF' O2 FO OW BB
          go_wp2
          go_roundw
          case rel => exact ⟨k', m / 128, _, rfl, P.out.1, P.out.2.1, P.out.2.2⟩
          case measure => simp [intOf]; omega
        · have hw8 : IntKind.u8.wrap m = m := by rw [IntKind.wrap_u8]; omega
          go_wp2_with (at_builtin; refine app_one wr rfl _ _ 71 rfl w.heap.size 5 i0 _ 1 1 Tryd.underlying71 hi hz0 hz1 hz2 rfl (by decide) (.slice av done.length cv) done.length (flatB done) rfl OW.out [.int .u8 m] rfl rfl (one_one _) (room5 hd).1 (room5 hd).2 BS ?_)
          intro v' w2 ho2 _ hb2
          have hs := FO.out.stop (by omega)
          have O2 : OwnB w.heap.size w2 v' (done ++ [m]) := by
            unfold OwnB; rw [flatB_snoc] at ho2; simpa using ho2
          rw [hs, ← PN.out] at O2
          have P : Hid _ := And.intro O2 (BB.out.trans hb2)
          clear ho2 hb2 O2 FO OW BB hs
          go_wp2
          go_ret
          exact ⟨_, rfl, P.out.1, P.out.2⟩
  · have PN : Hid (putN x = []) := putN_out h
    have IB : inB x (-2000000000) 2000000000 = false := by simp [inB]; omega
    clear h
    go_enter Tryd.func71, Tryd.ntmps71
    go_wp2_with (go_at_call 42; refine (l1InN_any _ _ _ _).mono ?_; rintro e w1 ⟨rfl, rfl⟩)
    go_ret
    rw [PN.out]
    exact ⟨_, rfl, E0.out.1, E0.out.2⟩

end Go.Proofs.YtckphbmlmjlipaaDoor
