/-
  The contract of the program's wayDown.
-/
import Derived.Test.YtccdleafkhnfmaaGreatQSpec
import Derived.Deep.DeepCutAuto
namespace Go.Proofs.YtccdleafkhnfmaaGreat
open Go.RowKit

theorem app_oneB {P : Program} {ops : Array Oper} {rest : List Oper} {o : Oper} {a : Act} {Q : Exit → Act → World → Prop} (W : World) (B : Nat) (hB : W.heap.size = B) (hgd : o.guard = none) (s x : Operand) (t : TypeId)
    (ho : o.op = .call { callee := .builtin .append, args := #[s, x], argTypes := #[t, t] })
    (base : Nat) (e : TypeId) (i : TypeInfo) (z : Value) (size bytes : Nat) (ht : P.underlying t = some (.slice e)) (hi : P.info? e = some i) (hz : i.zero = some z)
    (hsize : i.size = size) (hby : i.bytes = bytes) (hzs : z.cells.size = size) (hsz : 0 < size)
    (v : Value) (n : Nat) (xs : List Value) (hs : a.eval s = v) (hown : W.ownsRow base e size v n xs)
    (news : List Value) (hx : a.eval x = .slice (some ⟨B, 0, none⟩) 1 1) (hl : news.length = size) (h1 : ∀ u ∈ news, u.oneCell' = true)
    (h63 : n + 1 ≤ maxLen) (hbytes : (n + 1) * bytes ≤ 140737488355328) (hbase : base ≤ W.heap.size)
    (h : ∀ v' w', w'.ownsRow base e size v' (n + 1) (xs ++ news) → Chg (fun g => v.ownBlock = some g) W w' → Below base W w' → wpList P ops Q rest (a.put o.dst v') w') :
    wpList P ops Q (o :: rest) a (W.alloc (.cells news.toArray e)) := by
  subst hB
  exact app_one W hgd s x t ho base e i z size bytes ht hi hz hsize hby hzs hsz v n xs hs hown news hx hl h1 h63 hbytes hbase h

theorem owns_ne {w : World} {base n L : Nat} {v : Value} {xs : List Value} {A : Array Value} (h : w.ownsRow base 79 3 v n xs) (hL : OneAt w L A) : ¬ v.ownBlock = some L := by
  intro e
  obtain ⟨_, ⟨h1, _⟩ | ⟨g, cap, cur, rfl, hg, hh, _⟩⟩ := h
  · rw [h1] at e; cases e
  · have : g = L := by simpa [Value.ownBlock] using e
    subst this
    have h2 : w.heap[g]? = some (.cells A 37 (0, 0)) := hL
    rw [h2] at hh
    simp at hh
theorem OneAt.chg {w w' : World} {L : Nat} {A : Array Value} {p : Nat → Prop} (h : OneAt w L A) (hc : Chg p w w') (hp : ¬ p L) : OneAt w' L A :=
  (hc.block L (Array.getElem?_eq_some_iff.1 h).1 hp).trans h

theorem box_all5 {u : World} {B : Nat} {x0 x1 x2 x3 x4 : Value} (h : OneAt u B #[x0, x1, x2, x3, x4]) :
    (u.cell? ⟨B, 0, none⟩ = some x0 ∧ u.cell? ⟨B, 1, none⟩ = some x1 ∧ u.cell? ⟨B, 2, none⟩ = some x2 ∧ u.cell? ⟨B, 3, none⟩ = some x3 ∧ u.cell? ⟨B, 4, none⟩ = some x4) ∧
    (u.frozen? ⟨B, 0, none⟩ = false ∧ u.frozen? ⟨B, 1, none⟩ = false ∧ u.frozen? ⟨B, 2, none⟩ = false ∧ u.frozen? ⟨B, 3, none⟩ = false ∧ u.frozen? ⟨B, 4, none⟩ = false) :=
  ⟨box_cells5 h, frozen_of_row u B 0 _ 37 h, frozen_of_row u B 1 _ 37 h, frozen_of_row u B 2 _ 37 h, frozen_of_row u B 3 _ 37 h, frozen_of_row u B 4 _ 37 h⟩

abbrev set5 (u : World) (L : Nat) (t0 t1 t2 t3 t4 : Value) : World := ((((u.setCell ⟨L, 0, none⟩ t0).setCell ⟨L, 1, none⟩ t1).setCell ⟨L, 2, none⟩ t2).setCell ⟨L, 3, none⟩ t3).setCell ⟨L, 4, none⟩ t4
theorem OneAt.set5 {u : World} {L : Nat} {x0 x1 x2 x3 x4 : Value} (h : OneAt u L #[x0, x1, x2, x3, x4]) (t0 t1 t2 t3 t4 : Value) : OneAt (set5 u L t0 t1 t2 t3 t4) L #[t0, t1, t2, t3, t4] :=
  heap_setCell_same _ L 4 _ 37 t4 (heap_setCell_same _ L 3 _ 37 t3 (heap_setCell_same _ L 2 _ 37 t2 (heap_setCell_same _ L 1 _ 37 t1 (heap_setCell_same u L 0 _ 37 t0 h))))
theorem chg_set5 (u : World) (L : Nat) (t0 t1 t2 t3 t4 : Value) : Chg (fun g => g = L) u (set5 u L t0 t1 t2 t3 t4) :=
  (((((Chg.refl (fun g => g = L) u).setAt L 0 rfl t0).setAt L 1 rfl t1).setAt L 2 rfl t2).setAt L 3 rfl t3).setAt L 4 rfl t4
theorem owns_set5 {u : World} {base n L : Nat} {v : Value} {xs : List Value} {A : Array Value} (h : u.ownsRow base 79 3 v n xs) (hL : OneAt u L A) (t0 t1 t2 t3 t4 : Value) : (set5 u L t0 t1 t2 t3 t4).ownsRow base 79 3 v n xs :=
  owns_chg h (chg_set5 u L t0 t1 t2 t3 t4) fun _ hg e => owns_ne h hL (e ▸ hg)

end Go.Proofs.YtccdleafkhnfmaaGreat
