/-
  Appending to a row of one's own: one element that was just laid; a whole list.
-/
import Derived.Test.YteegcblndbljlaaFrame
import Derived.Laws.AppendOwnNone
namespace Go.Proofs.Yteegcblndbljlaa
open Go.RowKit

theorem chg_of_grown {w w' : World} {r : Option Nat} (h : w.grownBy w' r) : Chg (fun g => r = some g) w w' :=
  ⟨h.os, h.tape, h.output, h.size, fun k hk hn => h.block k hk (fun e => hn e.symm)⟩
theorem below_of_own {w w' : World} {base e size n : Nat} {v : Value} {xs : List Value} (h : w.ownsRow base e size v n xs) (hc : Chg (fun g => v.ownBlock = some g) w w') (hb : base ≤ w.heap.size) : Below base w w' :=
  hc.below (fun g _ hg => (h.lt g hg).1) hb

theorem app_one {P : Program} {ops : Array Oper} {rest : List Oper} {o : Oper} {a : Act} {Q : Exit → Act → World → Prop} (W : World) (hgd : o.guard = none) (s x : Operand) (t : TypeId)
    (ho : o.op = .call { callee := .builtin .append, args := #[s, x], argTypes := #[t, t] })
    (base : Nat) (e : TypeId) (i : TypeInfo) (z : Value) (size bytes : Nat) (ht : P.underlying t = some (.slice e)) (hi : P.info? e = some i) (hz : i.zero = some z)
    (hsize : i.size = size) (hby : i.bytes = bytes) (hzs : z.cells.size = size) (hsz : 0 < size)
    (v : Value) (n : Nat) (xs : List Value) (hs : a.eval s = v) (hown : W.ownsRow base e size v n xs)
    (news : List Value) (hx : a.eval x = .slice (some ⟨W.heap.size, 0, none⟩) 1 1) (hl : news.length = size) (h1 : ∀ u ∈ news, u.oneCell' = true)
    (h63 : n + 1 ≤ maxLen) (hbytes : (n + 1) * bytes ≤ 140737488355328) (hbase : base ≤ W.heap.size)
    (h : ∀ v' w', w'.ownsRow base e size v' (n + 1) (xs ++ news) → Chg (fun g => v.ownBlock = some g) W w' → Below base W w' → wpList P ops Q rest (a.put o.dst v') w') :
    wpList P ops Q (o :: rest) a (W.alloc (.cells news.toArray e)) := by
  refine wpList_append_own _ hgd s x t ho base e i z size bytes ht hi hz hsize hby hzs hsz v n xs hs (hown.alloc _) ⟨W.heap.size, 0, none⟩ 1 1 news hx (by omega) ?_ h1 h63 hbytes (by simp; omega) ?_
  · intro j u hj
    rw [Go.WideShapes.add_plain, Nat.zero_add, cell_of_cells (heap_alloc_new W _)]
    simpa using hj
  · intro v' w' h2 h3 _
    have hc : Chg (fun g => v.ownBlock = some g) W w' := ((Chg.refl _ _).alloc _).trans (chg_of_grown h3) (fun _ _ e => e)
    exact h v' w' h2 hc (below_of_own hown hc hbase)

theorem app_row {P : Program} {ops : Array Oper} {rest : List Oper} {o : Oper} {a : Act} {Q : Exit → Act → World → Prop} (W : World) (hgd : o.guard = none) (s x : Operand) (t : TypeId)
    (ho : o.op = .call { callee := .builtin .append, args := #[s, x], argTypes := #[t, t] })
    (base : Nat) (e : TypeId) (i : TypeInfo) (z : Value) (size bytes : Nat) (ht : P.underlying t = some (.slice e)) (hi : P.info? e = some i) (hz : i.zero = some z)
    (hsize : i.size = size) (hby : i.bytes = bytes) (hzs : z.cells.size = size) (hsz : 0 < size)
    (v : Value) (n : Nat) (xs : List Value) (hs : a.eval s = v) (hown : W.ownsRow base e size v n xs)
    (u : Value) (m : Nat) (news : List Value) (hx : a.eval x = u) (hr : Row W u m news) (hl : news.length = m * size) (h1 : ∀ y ∈ news, y.oneCell' = true)
    (h63 : n + m ≤ maxLen) (hbytes : (n + m) * bytes ≤ 140737488355328) (hbase : base ≤ W.heap.size)
    (h : ∀ v' w', w'.ownsRow base e size v' (n + m) (xs ++ news) → Chg (fun g => v.ownBlock = some g) W w' → Below base W w' → wpList P ops Q rest (a.put o.dst v') w') :
    wpList P ops Q (o :: rest) a W := by
  obtain ⟨sa, b, off, cap, rfl, hle, hmx, hsa, hcell, hnil⟩ := hr
  cases sa with
  | none =>
    have hc0 := hnil rfl
    have hm0 : m = 0 := by omega
    subst hc0
    subst hm0
    have hn0 : news = [] := List.length_eq_zero_iff.1 (by omega)
    subst hn0
    refine wpList_append_own_none hgd s x t ho base e i size ht hi v n xs hs hown hx ?_
    exact h v W (by simpa using hown) (Chg.refl _ _) (Below.refl _ _)
  | some ad =>
    refine wpList_append_own _ hgd s x t ho base e i z size bytes ht hi hz hsize hby hzs hsz v n xs hs hown ad m cap news hx hl ?_ h1 h63 hbytes hbase ?_
    · intro j y hj
      have hjl := (List.getElem?_eq_some_iff.1 hj).1
      have hm : 0 < m := by
        rcases Nat.eq_zero_or_pos m with h0 | h0
        · subst h0; omega
        · exact h0
      have := hsa hm
      simp only [Option.some.injEq] at this
      subst this
      rw [Go.WideShapes.add_plain]
      exact hcell j y hj
    · intro v' w' h2 h3 _
      have hc := chg_of_grown h3
      exact h v' w' h2 hc (below_of_own hown hc hbase)

theorem flatP_one (l : List (Int × Int)) : ∀ y ∈ flatP l, y.oneCell' = true := by
  induction l with
  | nil => intro y hy; simp [flatP] at hy
  | cons p l ih =>
    intro y hy
    rw [show flatP (p :: l) = .int .i64 p.1 :: .int .i64 p.2 :: flatP l from rfl] at hy
    rcases List.mem_cons.1 hy with rfl | hy
    · rfl
    · rcases List.mem_cons.1 hy with rfl | hy
      · rfl
      · exact ih y hy
theorem two_one (a b : Int) : ∀ u ∈ [Value.int .i64 a, Value.int .i64 b], u.oneCell' = true := by
  intro u hu; simp at hu; rcases hu with rfl | rfl <;> rfl
theorem room_of {n bytes : Nat} (h : n ≤ 8388608) (hb : bytes ≤ 256) : n + 1 ≤ maxLen ∧ (n + 1) * bytes ≤ 140737488355328 := by
  refine ⟨by unfold maxLen; omega, ?_⟩
  have : (n + 1) * bytes ≤ (n + 1) * 256 := Nat.mul_le_mul_left _ hb
  omega
theorem flatP_snoc (l : List (Int × Int)) (k v : Int) : flatP l ++ [.int .i64 k, .int .i64 v] = flatP (l ++ [(k, v)]) := by rw [flatP_append]; rfl

theorem empty_own (W : World) (base : Nat) (e size : Nat) (hb : base ≤ W.heap.size) : (W.alloc (.cells #[] e)).ownsRow base e size (.slice (some ⟨W.heap.size, 0, none⟩) 0 0) 0 [] :=
  ⟨by simp, .inr ⟨W.heap.size, 0, #[], rfl, hb, heap_alloc_new _ _, Nat.le_refl _, Nat.zero_le _, by simp, by simp⟩⟩

end Go.Proofs.Yteegcblndbljlaa
