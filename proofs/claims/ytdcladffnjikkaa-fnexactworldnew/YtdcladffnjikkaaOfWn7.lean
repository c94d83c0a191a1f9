/-
  Rows of one's own that may be empty without room; appending to them, and where it lies.
  A region that draws its order and whose last operation waits for all others: that one may be kept for the end.
  The contract of the model's l4Put.
  Contracts of slices.Grow and slices.Concat at messages, and of the program's msgsOfKid.
  A region that draws its order: operations that only make memory may come at any time; the walk takes them first, and bears that new blocks appear between its steps.
  Trees side by side that are being put together: the row of trees and the row of cuts are one's own, the trees lie elsewhere.
  The contract of the model's l4Leaf.
  The contract of the model's l4Pack.
  Rows of trees, piece by piece; the contract of the model's l4Put over trees.
  The library's Grow and Concat, over trees and over numbers: any number of parts.
  The program's slices.Clone, of pairs, cuts, messages and kids.
-/
import Derived.Test.YtdcladffnjikkaaOfWn6
import Derived.Deep.RegionHeld3
import Derived.Deep.DeepCutAuto
import Derived.Lib.Walk
import Derived.Lib.SliceRun
import Derived.Lib.AppendZerosOnto
import Derived.Lib.BufferMore
namespace Go.Proofs.Ytdcladffnjikkaa
set_option maxRecDepth 100000
set_option maxHeartbeats 8000000
section
open Go.RowKit

def wrB (v : Value) (g : Nat) : Prop := ∃ n cap, v = .slice (some ⟨g, 0, none⟩) n cap ∧ 0 < cap
def OwnE (w : World) (base e size : Nat) (v : Value) (n : Nat) (xs : List Value) : Prop :=
 w.ownsRow base e size v n xs ∨ (n = 0 ∧ xs = [] ∧ ∃ g, v = .slice (some ⟨g, 0, none⟩) 0 0)

theorem OwnE.slice {w : World} {base e size n : Nat} {v : Value} {xs : List Value} (h : OwnE w base e size v n xs) : ∃ (a : Option Addr) (cap : Nat), v = .slice a n cap := by
 rcases h with h | ⟨rfl, _, g, rfl⟩
 ·obtain ⟨a, cap, h, _⟩ := (Row.of_owns h).len
  exact ⟨a, cap, h⟩
 ·exact ⟨_, _, rfl⟩
theorem OwnE.lt {w : World} {base e size n : Nat} {v : Value} {xs : List Value} (h : OwnE w base e size v n xs) : ∀ g, wrB v g → base ≤ g ∧ g < w.heap.size := by
 rintro g ⟨k, cap, rfl, hc⟩
 rcases h with h | ⟨_, _, g', hg⟩
 ·exact h.lt g rfl
 ·simp at hg; omega
theorem OwnE.rowF {w : World} {base e size n : Nat} {v : Value} {xs : List Value} (h : OwnE w base e size v n xs) : RowF w (wrB v) v n xs := by
 rcases h with h | ⟨rfl, rfl, g, rfl⟩
 ·have h0 := RowF.of_owns h
  obtain ⟨a, b, off, cap, h1, h2, h3, h4, h5, h6, h7⟩ := h0
  refine ⟨a, b, off, cap, h1, h2, h3, fun hn => ⟨(h4 hn).1, ?_, (h4 hn).2.2⟩, h5, h6, h7⟩
  obtain ⟨g, cap', e1, e2, e3⟩ := h.form hn
  have : b = g := by
   have := (h4 hn).2.1
   rw [e1] at this
   simpa [Value.ownBlock] using this.symm
  subst this
  have hc : cap = cap' := by rw [h1] at e1; simp at e1; exact e1.2
  exact ⟨n, cap', e1, by omega⟩
 ·exact ⟨_, g, 0, 0, rfl, Nat.le_refl _, Nat.zero_le _, fun h => absurd h (Nat.lt_irrefl _), fun j u hj => by simp at hj, (fun h => by cases h), fun _ => rfl⟩
theorem OwnE.chg {P : Nat → Prop} {w w' : World} {base e size n : Nat} {v : Value} {xs : List Value} (h : OwnE w base e size v n xs) (hc : Chg P w w') (hP : ∀ g, wrB v g → ¬ P g) : OwnE w' base e size v n xs := by
 rcases h with h | h
 ·have h0 := h
  obtain ⟨hl, h | ⟨g, cap, cur, rfl, hg, hh, hn, hcap, hsz, htake⟩⟩ := h
  ·exact .inl ⟨hl, .inl h⟩
  ·rcases Nat.eq_zero_or_pos cap with h1 | h1
   ·subst h1
    have : n = 0 := by omega
    subst this
    exact .inr ⟨rfl, List.length_eq_zero_iff.1 (by omega), g, rfl⟩
   ·exact .inl (owns_chg h0 hc fun g' hg' => hP g' ⟨n, cap, by simp [Value.ownBlock] at hg'; rw [hg'], h1⟩)
 ·exact .inr h
theorem OwnE.below {w w' : World} {base e size n : Nat} {v : Value} {xs : List Value} (h : OwnE w base e size v n xs) (hb : Below w.heap.size w w') : OwnE w' base e size v n xs :=
 h.chg (Chg.of_below (F := fun _ => False) hb) (fun _ _ h => h)
theorem OwnE.mono {w : World} {base base' e size n : Nat} {v : Value} {xs : List Value} (h : OwnE w base e size v n xs) (hb : base' ≤ base) : OwnE w base' e size v n xs := h.imp (fun h => owns_mono h hb) id
theorem OwnE.nil (w : World) (base e size : Nat) : OwnE w base e size (.slice none 0 0) 0 [] := .inl (World.ownsRow_nil w base e size)
theorem OwnE.zero (w : World) (base e size g : Nat) : OwnE w base e size (.slice (some ⟨g, 0, none⟩) 0 0) 0 [] := .inr ⟨rfl, rfl, g, rfl⟩
def AppTo (W : World) (base e size : Nat) (v : Value) (n : Nat) (xs : List Value) (v' : Value) (w' : World) : Prop :=
 OwnE w' base e size v' n xs ∧ Chg (wrB v) W w' ∧ Below base W w' ∧ ∀ g, wrB v' g → wrB v g ∨ W.heap.size ≤ g

theorem run_append_E {P : Program} (W : World) (t ty : TypeId) (base : Nat) (e : TypeId) (i : TypeInfo) (z : Value) (size bytes : Nat) (ht : P.underlying t = some (.slice e)) (hi : P.info? e = some i) (hz : i.zero = some z)
  (hsize : i.size = size) (hby : i.bytes = bytes) (hzs : z.cells.size = size) (hsz : 0 < size)
  (v : Value) (n : Nat) (xs : List Value) (hown : OwnE W base e size v n xs)
  (u : Value) (m : Nat) (news : List Value) (hr : Row W u m news) (hl : news.length = m * size) (h1 : ∀ y ∈ news, y.oneCell' = true)
  (h63 : n + m ≤ maxLen) (hbytes : (n + m) * bytes ≤ 140737488355328) (hbase : base ≤ W.heap.size) :
  ∃ v' w', (Builtin.append_ #[t, t] ty #[v, u]).run P W = .ok v' w' ∧ AppTo W base e size v (n + m) (xs ++ news) v' w' := by
 obtain ⟨sa, b, off, cap, rfl, hle, hmx, hsa, hcell, hnil⟩ := hr
 have hnews : ∀ ad, sa = some ad → ∀ j y, news[j]? = some y → W.cell? (ad.add j) = some y := by
  intro ad had j y hj
  have hjl := (List.getElem?_eq_some_iff.1 hj).1
  have hm : 0 < m := by
   rcases Nat.eq_zero_or_pos m with h0 | h0
   ·subst h0; omega
   ·exact h0
  have := hsa hm
  rw [had] at this
  simp only [Option.some.injEq] at this
  subst this
  rw [Go.WideShapes.add_plain]
  exact hcell j y hj
 have key : ∀ (v' : Value) (w' : World), w'.ownsRow base e size v' (n + m) (xs ++ news) → W.grownBy w' v.ownBlock → (v'.ownBlock = v.ownBlock ∨ v'.ownBlock = some W.heap.size) → W.ownsRow base e size v n xs →
   ((∀ g c, v = .slice (some ⟨g, 0, none⟩) n c → c = 0 → v' = v ∧ w' = W ∨ Below W.heap.size W w' ∧ v'.ownBlock = some W.heap.size)) →
   (∀ g c c', v = .slice (some ⟨g, 0, none⟩) n c → v' = .slice (some ⟨g, 0, none⟩) (n + m) c' → g < W.heap.size) →
   AppTo W base e size v (n + m) (xs ++ news) v' w' := by
  intro v' w' h2 h3 h4 hv hz0 hlt
  obtain ⟨_, ⟨rfl, rfl⟩ | ⟨g, c, cur, rfl, hg, hh, hn, hcap, hs, htk⟩⟩ := hv
  ·have hb : Below W.heap.size W w' := by
    have hc := chg_of_grown h3
    exact hc.below (fun g _ hg => by simp [Value.ownBlock] at hg) (Nat.le_refl _)
   refine ⟨.inl h2, Chg.of_below hb, hb.mono hbase, fun g' hg' => ?_⟩
   obtain ⟨k, c', rfl, hc'⟩ := hg'
   rcases h4 with h4 | h4
   ·simp [Value.ownBlock] at h4
   ·simp [Value.ownBlock] at h4; right; omega
  ·rcases Nat.eq_zero_or_pos c with hc0 | hc0
   ·rcases hz0 g c rfl hc0 with ⟨rfl, rfl⟩ | ⟨hb, ho⟩
    ·exact ⟨.inl h2, Chg.refl _ _, Below.refl _ _, fun g' hg' => .inl hg'⟩
    ·refine ⟨.inl h2, Chg.of_below hb, hb.mono hbase, fun g' hg' => ?_⟩
     obtain ⟨k, c', rfl, hc'⟩ := hg'
     simp [Value.ownBlock] at ho
     right; omega
   ·have hc := chg_of_grown h3
    have hc' : Chg (wrB (.slice (some ⟨g, 0, none⟩) n c)) W w' := hc.mono fun g' _ hg' => by
     simp [Value.ownBlock] at hg'
     subst hg'
     exact ⟨n, c, rfl, hc0⟩
    refine ⟨.inl h2, hc', hc'.below (fun g' _ hg' => ?_) hbase, fun g' hg' => ?_⟩
    ·obtain ⟨_, _, hg', _⟩ := hg'
     simp at hg'
     omega
    ·obtain ⟨k, c2, rfl, hc2⟩ := hg'
     rcases h4 with h4 | h4
     ·simp [Value.ownBlock] at h4
      subst h4
      exact .inl ⟨n, c, rfl, hc0⟩
     ·simp [Value.ownBlock] at h4; right; omega
 by_cases hm : m = 0
 ·subst hm
  have hn0 : news = [] := List.length_eq_zero_iff.1 (by omega)
  subst hn0
  rw [List.append_nil, Nat.add_zero]
  have hv : ∃ a c, v = .slice a n c ∧ n ≤ c ∧ (a = none → c = 0 ∧ n = 0) := by
   rcases hown with h | ⟨rfl, _, g, rfl⟩
   ·obtain ⟨a, b', off', c, h1, h2, _, h4, _, h6⟩ := Row.of_owns h
    exact ⟨a, c, h1, h2, fun h => ⟨h6 h, by have := h6 h; omega⟩⟩
   ·exact ⟨_, 0, rfl, Nat.le_refl _, fun h => by cases h⟩
  obtain ⟨a, c, rfl, hnc, hnn⟩ := hv
  refine ⟨.slice a n c, W, ?_, hown, Chg.refl _ _, Below.refl _ _, fun g hg => .inl hg⟩
  have e : (cap = 0 ∨ sa ≠ none) := by
   cases sa with
   | none => exact .inl (hnil rfl)
   | some ad => exact .inr (by simp)
  cases a with
  | none =>
   obtain ⟨rfl, rfl⟩ := hnn rfl
   cases sa <;> simp [Builtin.append_, run_underlying ht, sizeOf, typeInfo, hi, Builtin.lenOf, Builtin.firstCells, loadCells, loadCellsFrom]
  | some ad =>
   cases sa <;> simp [Builtin.append_, run_underlying ht, sizeOf, typeInfo, hi, Builtin.lenOf, Builtin.firstCells, loadCells, loadCellsFrom, hnc, storeCells]
 ·have hm' : 0 < m := by omega
  have hsa' := hsa hm'
  subst hsa'
  rcases hown with hown | ⟨rfl, rfl, g, rfl⟩
  ·obtain ⟨v', w', hr, h2, h3, h4, h5⟩ := run_append_own_at (P := P) W base t ty e i z size bytes ht hi hz hsize hby hzs hsz v n xs hown ⟨b, off, none⟩ m cap news hl (hnews _ rfl) h1 h63 hbytes hbase
   refine ⟨v', w', hr, key v' w' h2 h3 h5 hown (fun g c hv hc => ?_) (fun g c c' hv _ => ?_)⟩
   ·right
    subst hv
    subst hc
    have hn0 : n = 0 := by
     obtain ⟨_, ⟨h, _⟩ | ⟨g', c', cur, h, hg, hh, hn, hcap, hs, htk⟩⟩ := hown
     ·simp at h
     ·simp at h; omega
    subst hn0
    have hx : xs = [] := List.length_eq_zero_iff.1 (by have := hown.1; omega)
    subst hx
    subst hsize
    subst hby
    have hg2 := run_append_grow (P := P) W t ty e i z ht hi hz ⟨g, 0, none⟩ 0 0 [] (by simp) (by intro j y hj; simp at hj) ⟨b, off, none⟩ m cap news hl (hnews _ rfl) (by omega) (by simp only [maxLen] at h63; omega) (growslice_fits (by omega) hbytes)
    rw [hg2] at hr
    simp only [Result.ok.injEq] at hr
    obtain ⟨rfl, rfl⟩ := hr
    exact ⟨((Below.refl _ _).drew).alloc (Nat.le_refl _) _, rfl⟩
   ·subst hv
    exact (hown.lt g rfl).2
  ·subst hsize
   subst hby
   have hg2 := run_append_grow (P := P) W t ty e i z ht hi hz ⟨g, 0, none⟩ 0 0 [] (by simp) (by intro j y hj; simp at hj) ⟨b, off, none⟩ m cap news hl (hnews _ rfl) (by omega) (by simp only [maxLen] at h63; omega) (growslice_fits (by omega) hbytes)
   obtain ⟨v', w', hr, h2, h3, h4, h5⟩ := run_append_own_at (P := P) W base t ty e i z i.size i.bytes ht hi hz rfl rfl hzs hsz (.slice none 0 0) 0 [] (World.ownsRow_nil W base e i.size) ⟨b, off, none⟩ m cap news hl (hnews _ rfl) h1 h63 hbytes hbase
   have hg3 := run_append_nil (P := P) W t ty e i z ht hi hz ⟨b, off, none⟩ m cap news hl (hnews _ rfl) hm' (by simp only [maxLen] at h63; omega) (by have hb := hbytes; simp only [Nat.zero_add] at hb; omega)
   rw [hg3] at hr
   simp only [Result.ok.injEq] at hr
   obtain ⟨rfl, rfl⟩ := hr
   have hb : Below W.heap.size W (W.drew.alloc (.cells (news.toArray ++ Builtin.zeroCells z.cells (grownCap W m 0 e - m)) e)) := ((Below.refl _ _).drew).alloc (Nat.le_refl _) _
   refine ⟨_, _, hg2, ?_⟩
   have e1 : ([] : List Value).toArray ++ news.toArray = news.toArray := by simp
   rw [e1, Nat.zero_add, List.nil_append]
   rw [Nat.zero_add, List.nil_append] at h2
   refine ⟨.inl h2, Chg.of_below hb, hb.mono hbase, fun g' hg' => ?_⟩
   obtain ⟨k, c', hk, _⟩ := hg'
   simp at hk
   right; omega

theorem wp_appE {P : Program} {o : Oper} {a : Act} {K : Act → World → Prop} {Q : Exit → Act → World → Prop} (W : World) (s x : Operand) (t : TypeId)
  (ho : o.op = .call { callee := .builtin .append, args := #[s, x], argTypes := #[t, t] })
  (base : Nat) (e : TypeId) (i : TypeInfo) (z : Value) (size bytes : Nat) (ht : P.underlying t = some (.slice e)) (hi : P.info? e = some i) (hz : i.zero = some z)
  (hsize : i.size = size) (hby : i.bytes = bytes) (hzs : z.cells.size = size) (hsz : 0 < size)
  (v : Value) (n : Nat) (xs : List Value) (hs : a.eval s = v) (hown : OwnE W base e size v n xs)
  (u : Value) (m : Nat) (news : List Value) (hx : a.eval x = u) (hr : Row W u m news) (hl : news.length = m * size) (h1 : ∀ y ∈ news, y.oneCell' = true)
  (h63 : n + m ≤ maxLen) (hbytes : (n + m) * bytes ≤ 140737488355328) (hbase : base ≤ W.heap.size)
  (h : ∀ v' w', AppTo W base e size v (n + m) (xs ++ news) v' w' → K (a.put o.dst v') w') : o.wp P a W K Q := by
 obtain ⟨v', w', hrun, h2⟩ := run_append_E (P := P) W t o.type base e i z size bytes ht hi hz hsize hby hzs hsz v n xs hown u m news hr hl h1 h63 hbytes hbase
 unfold Oper.wp
 simp [execOp, ho, resolve, invoke, builtin, hs, hx, hrun, Result.andThen]
 exact h v' w' h2
theorem step_appE {P : Program} {ops : Array Oper} {o : Oper} {a : Act} {K : Act → World → Prop} {Q : Exit → Act → World → Prop} {E : Prop} (W : World) (hgd : o.guard = none) (s x : Operand) (t : TypeId)
  (ho : o.op = .call { callee := .builtin .append, args := #[s, x], argTypes := #[t, t] })
  (base : Nat) (e : TypeId) (i : TypeInfo) (z : Value) (size bytes : Nat) (ht : P.underlying t = some (.slice e)) (hi : P.info? e = some i) (hz : i.zero = some z)
  (hsize : i.size = size) (hby : i.bytes = bytes) (hzs : z.cells.size = size) (hsz : 0 < size)
  (v : Value) (n : Nat) (xs : List Value) (hs : a.eval s = v) (hown : OwnE W base e size v n xs)
  (u : Value) (m : Nat) (news : List Value) (hx : a.eval x = u) (hr : Row W u m news) (hl : news.length = m * size) (h1 : ∀ y ∈ news, y.oneCell' = true)
  (h63 : n + m ≤ maxLen) (hbytes : (n + m) * bytes ≤ 140737488355328) (hbase : base ≤ W.heap.size)
  (h : ∀ v' w', AppTo W base e size v (n + m) (xs ++ news) v' w' → K (a.put o.dst v') w') :
  if Region.wanted o (yielded ops a.tmps) = true then Oper.wp P o a W K Q else E := by
 have hw : Region.wanted o (yielded ops a.tmps) = true := by simp [Region.wanted, hgd]
 rw [if_pos hw]
 exact wp_appE W s x t ho base e i z size bytes ht hi hz hsize hby hzs hsz v n xs hs hown u m news hx hr hl h1 h63 hbytes hbase h
theorem list_appE {P : Program} {ops : Array Oper} {rest : List Oper} {o : Oper} {a : Act} {Q : Exit → Act → World → Prop} (W : World) (hgd : o.guard = none) (s x : Operand) (t : TypeId)
  (ho : o.op = .call { callee := .builtin .append, args := #[s, x], argTypes := #[t, t] })
  (base : Nat) (e : TypeId) (i : TypeInfo) (z : Value) (size bytes : Nat) (ht : P.underlying t = some (.slice e)) (hi : P.info? e = some i) (hz : i.zero = some z)
  (hsize : i.size = size) (hby : i.bytes = bytes) (hzs : z.cells.size = size) (hsz : 0 < size)
  (v : Value) (n : Nat) (xs : List Value) (hs : a.eval s = v) (hown : OwnE W base e size v n xs)
  (u : Value) (m : Nat) (news : List Value) (hx : a.eval x = u) (hr : Row W u m news) (hl : news.length = m * size) (h1 : ∀ y ∈ news, y.oneCell' = true)
  (h63 : n + m ≤ maxLen) (hbytes : (n + m) * bytes ≤ 140737488355328) (hbase : base ≤ W.heap.size)
  (h : ∀ v' w', AppTo W base e size v (n + m) (xs ++ news) v' w' → wpList P ops Q rest (a.put o.dst v') w') :
  wpList P ops Q (o :: rest) a W :=
 wpList_plain hgd fun _ hK => wp_appE W s x t ho base e i z size bytes ht hi hz hsize hby hzs hsz v n xs hs hown u m news hx hr hl h1 h63 hbytes hbase fun v' w' h2 => hK _ _ (h v' w' h2)

theorem Row.laid (W : World) (xs : List Value) (e B : Nat) (hB : B = W.heap.size) : Row (W.alloc (.cells xs.toArray e)) (.slice (some ⟨B, 0, none⟩) 1 1) 1 xs := by
 subst hB
 refine ⟨_, W.heap.size, 0, 1, rfl, Nat.le_refl _, by decide, fun _ => rfl, fun j u hj => ?_, fun h => by cases h⟩
 rw [Nat.zero_add, cell_of_cells (heap_alloc_new W _)]
 simpa using hj
end
section
open Go.RowKit

theorem tk {P : Program} {ops : Array Oper} {Q : Exit → Act → World → Prop} {md : Region.Mode} {S : World → Prop} (i : Nat) {oi : Oper} {v : Value} {fuel : Nat} {listed : Array Bool} {a : Act} {w : World} (hi : ops[i]? = some oi)
  (hc : (Region.noSelect ops && Region.free md ops listed i && (Region.ready md ops listed).contains i) = true)
  (hQ : ∀ c a w, Q (.panic c) (a.put oi.dst v) w → Q (.panic c) a w) (hy : YieldsIf P ops S oi v a) (hS : S w)
  (h : wpAnyH P md ops Q S fuel (listed.setIfInBounds i true) (a.put oi.dst v) w) : wpAnyH P md ops Q S (fuel + 1) listed a w := by
 simp only [Bool.and_eq_true] at hc
 exact wpAnyH_take hi hc.1.1 hc.1.2 hc.2 hQ hy hS h
theorem sA {α : Type} (l : List α) (i : Nat) (x : α) : l.toArray.setIfInBounds i x = (l.set i x).toArray := List.setIfInBounds_toArray ..
theorem sB {α : Type} (a : α) (l : List α) (x : α) : (a :: l).set 0 x = x :: l := List.set_cons_zero
theorem sC {α : Type} (a : α) (l : List α) (n : Nat) (x : α) : (a :: l).set (n + 1) x = a :: l.set n x := List.set_cons_succ

def LastQ (P : Program) (st : Oper) (Q : Exit → Act → World → Prop) : Exit → Act → World → Prop
 | .normal, a, w => st.wp P a w (Q .normal) Q
 | e, a, w => Q e a w

def lastB (l : List Oper) (st : Oper) : Bool :=
 (List.range l.length).all (fun i => match l[i]? with
  | some o => o.guard.isNone && o.after.toList.all fun e => decide (e.on < i)
  | none => false) && (st.guard.isNone && ((List.range l.length).all (fun i => st.after.toList.any fun e => Region.binds .any e && decide (e.on = i)) && st.after.toList.all fun e => decide (e.on < l.length)))

variable {P : Program} {l : List Oper} {st : Oper} {Q : Exit → Act → World → Prop}
end
section
open Go.RowKit

theorem al1 (w : World) (o : Obj) : Below w.heap.size w (w.alloc o) := (Below.refl _ _).alloc (Nat.le_refl _) o
abbrev set2 (u : World) (L : Nat) (t0 t1 : Value) : World := (u.setCell ⟨L, 0, none⟩ t0).setCell ⟨L, 1, none⟩ t1
theorem chg_set1 (u : World) (L j : Nat) (t : Value) : Chg (fun g => g = L) u (u.setCell ⟨L, j, none⟩ t) := (Chg.refl (fun g => g = L) u).setAt L j rfl t
theorem OwnE.drew {w : World} {base e size n : Nat} {v : Value} {xs : List Value} (h : OwnE w base e size v n xs) : OwnE w.drew base e size v n xs := h.below (Below.refl _ _).drew
theorem OwnE.alloc {w : World} {base e size n : Nat} {v : Value} {xs : List Value} (h : OwnE w base e size v n xs) (o : Obj) : OwnE (w.alloc o) base e size v n xs := h.below (al1 w o)
theorem flatI_one (l : List Int) : ∀ y ∈ flatI l, y.oneCell' = true := by
 intro y hy
 simp [flatI] at hy
 obtain ⟨a, _, rfl⟩ := hy
 rfl
end
section
open Go.RowKit
end
section
open Go.RowKit

def Later (w w' : World) : Prop := Below w.heap.size w w'
variable {P : Program} {ops : Array Oper} {Q : Exit → Act → World → Prop} {S : World → Prop}

def wpR (P : Program) (ops : Array Oper) (Q : Exit → Act → World → Prop) (S : World → Prop) : Nat → Array Bool → Act → World → Prop
 | 0, listed, a, w => ∀ w', Later w w' → S w' → Region.ready .any ops listed = [] ∧ Q .normal a w'
 | f + 1, listed, a, w => ∀ w', Later w w' → S w' → (Region.ready .any ops listed = [] → Q .normal a w') ∧
   ∀ i ∈ Region.ready .any ops listed, wpOp P ops Q i (fun a' w'' => S w'' ∧ wpR P ops Q S f (listed.setIfInBounds i true) a' w'') a w'

def plainB (o : Oper) : Bool :=
 match o.op with
 | .move _ | .assign _ | .alloc _ | .build _ _ | .buildSlice _ _ _ | .load _ _ | .store _ _ _ | .binOp _ _ _ _ _ | .slice _ _ _ _ _ | .fieldAddr _ _ _ | .indexAddr _ _ _ => true
 | .call c => match c.callee with
  | .builtin .append => true
  | _ => false
 | _ => false
def plainsB (ops : Array Oper) : Bool := ops.toList.all fun o => o.guard.isNone && plainB o
end
section
open Go.RowKit

abbrev offB (G : Nat → Prop) (vt vc : Value) (b : Nat) : Prop := G b ∧ ¬ wrB vt b ∧ ¬ wrB vc b
def OutM (n s : Nat) (G : Nat → Prop) (w : World) (vt vc : Value) (ts : List Tr) (cs : List Int) : Prop :=
 ∃ xs : List TV, xs.length = ts.length ∧ OwnE w s 43 5 vt xs.length (flatT xs) ∧ OwnE w s 3 1 vc cs.length (flatI cs) ∧ (∀ g, wrB vt g → ¬ wrB vc g) ∧
  ∀ i, i < xs.length → TreeF n w (offB G vt vc) (tvAt xs i) (ts.getD i noTr)

variable {n s : Nat} {G : Nat → Prop} {w w' : World} {vt vc vt' vc' : Value} {ts us : List Tr} {cs : List Int}
end
section
open Go.RowKit
end
section
open Go.RowKit
end
section
open Go.RowKit

def Els (n : Nat) (w : World) (F : Nat → Prop) (xs : List TV) (ts : List Tr) : Prop := xs.length = ts.length ∧ ∀ i, i < xs.length → TreeF n w F (tvAt xs i) (ts.getD i noTr)
variable {n : Nat} {w w' : World} {F : Nat → Prop} {xs ys : List TV} {ts us : List Tr}
end
section
open Go.RowKit

abbrev Pt := Value × Nat × List Value
def ptAt (P : List Pt) (i : Nat) : Pt := P.getD i (.slice none 0 0, 0, [])
def ptN (P : List Pt) (j : Nat) : Nat := ((P.take j).map fun p => p.2.1).sum
def ptC (P : List Pt) (j : Nat) : List Value := ((P.take j).map fun p => p.2.2).flatten
def PtOk (w : World) (size : Nat) (P : List Pt) : Prop := ∀ i, i < P.length → Row w (ptAt P i).1 (ptAt P i).2.1 (ptAt P i).2.2 ∧ (ptAt P i).2.2.length = (ptAt P i).2.1 * size ∧ ∀ y ∈ (ptAt P i).2.2, y.oneCell' = true
end
section
open Go.RowKit

theorem clone105_any (v : Value) (n : Nat) (xs : List Value) (w : World) (h : Row w v n xs) (hl : xs.length = n * 2) (h1 : ∀ y ∈ xs, y.oneCell' = true) (hn : n ≤ 8388608) :
  Calls Try.prog 72 #[v] w fun e w' => ∃ v', e = .returned v' ∧ OwnE w' w.heap.size 103 2 v' n xs ∧ Below w.heap.size w w' := by
 obtain ⟨a, q, hv, hq⟩ := h.len
 obtain ⟨i0, hi0, hz0, hz1, hz2⟩ := info_parts Try.info103
 have HR : Hid _ := room_row (n := n) (bytes := 16) hn (by decide)
 have RR : Hid (∀ u, Below w.heap.size w u → Row u v n xs) := fun u hu => h.below hu
 have HL : Hid (xs.length = n * 2) := hl
 have H1 : Hid _ := h1
 cases a with
 | none =>
  have hn0 : n = 0 := by
   obtain ⟨a, b, o, c, h3, h4, h5, h6, h7, h8⟩ := h
   rw [hv] at h3
   injection h3 with e1 e2 e3
   have := h8 e1.symm
   omega
  subst hn0
  have hx : xs = [] := List.length_eq_zero_iff.1 (by omega)
  subst hx hv
  clear h hl h1 RR H1 HL
  have hnil : ∀ W, (binOp .eql 38 (.slice none 0 q) (.slice none 0 0)).run Try.prog W = .ok (.bool true) W := fun W => Lib.run_eql_slice_nil_nil W _ _ Try.underlying38
  go_enter Try.func72, Try.ntmps72
  go_wp2
  go_ret
  exact ⟨_, rfl, OwnE.nil _ _ _ _, Below.refl _ _⟩
 | some p =>
  subst hv
  clear h hl h1
  have hnil : ∀ W, (binOp .eql 38 (.slice (some p) n q) (.slice none 0 0)).run Try.prog W = .ok (.bool false) W := fun W => Lib.run_eql_slice_some_nil W _ _ _ Try.underlying38
  go_enter Try.func72, Try.ntmps72
  go_wp2_with (at_builtin; refine list_appE (w.alloc (.cells #[] 103)) rfl _ _ 38 rfl w.heap.size 103 i0 _ 2 16 Try.underlying38 hi0 hz0 hz1 hz2 rfl (by decide) (.slice (some ⟨w.heap.size, 0, none⟩) 0 0) 0 [] rfl (OwnE.zero _ _ _ _ _) (.slice (some p) n q) n xs rfl (RR.out _ (al1 _ _)) HL.out H1.out HR.out.1 HR.out.2 (by simp) ?_)
  rintro v' w2 ⟨o1, o2, o3, o4⟩
  have B2 : Below w.heap.size w w2 := Below.trans (al1 _ _) o3
  clear o2 o3 o4
  go_wp2
  go_ret
  exact ⟨_, rfl, by simpa using o1, B2⟩

theorem clone106_any (v : Value) (n : Nat) (xs : List Value) (w : World) (h : Row w v n xs) (hl : xs.length = n * 1) (h1 : ∀ y ∈ xs, y.oneCell' = true) (hn : n ≤ 8388608) :
  Calls Try.prog 73 #[v] w fun e w' => ∃ v', e = .returned v' ∧ OwnE w' w.heap.size 3 1 v' n xs ∧ Below w.heap.size w w' := by
 obtain ⟨a, q, hv, hq⟩ := h.len
 obtain ⟨i0, hi0, hz0, hz1, hz2⟩ := info_parts Try.info3
 have HR : Hid _ := room_row (n := n) (bytes := 8) hn (by decide)
 have RR : Hid (∀ u, Below w.heap.size w u → Row u v n xs) := fun u hu => h.below hu
 have HL : Hid (xs.length = n * 1) := hl
 have H1 : Hid _ := h1
 cases a with
 | none =>
  have hn0 : n = 0 := by
   obtain ⟨a, b, o, c, h3, h4, h5, h6, h7, h8⟩ := h
   rw [hv] at h3
   injection h3 with e1 e2 e3
   have := h8 e1.symm
   omega
  subst hn0
  have hx : xs = [] := List.length_eq_zero_iff.1 (by omega)
  subst hx hv
  clear h hl h1 RR H1 HL
  have hnil : ∀ W, (binOp .eql 39 (.slice none 0 q) (.slice none 0 0)).run Try.prog W = .ok (.bool true) W := fun W => Lib.run_eql_slice_nil_nil W _ _ Try.underlying39
  go_enter Try.func73, Try.ntmps73
  go_wp2
  go_ret
  exact ⟨_, rfl, OwnE.nil _ _ _ _, Below.refl _ _⟩
 | some p =>
  subst hv
  clear h hl h1
  have hnil : ∀ W, (binOp .eql 39 (.slice (some p) n q) (.slice none 0 0)).run Try.prog W = .ok (.bool false) W := fun W => Lib.run_eql_slice_some_nil W _ _ _ Try.underlying39
  go_enter Try.func73, Try.ntmps73
  go_wp2_with (at_builtin; refine list_appE (w.alloc (.cells #[] 3)) rfl _ _ 39 rfl w.heap.size 3 i0 _ 1 8 Try.underlying39 hi0 hz0 hz1 hz2 rfl (by decide) (.slice (some ⟨w.heap.size, 0, none⟩) 0 0) 0 [] rfl (OwnE.zero _ _ _ _ _) (.slice (some p) n q) n xs rfl (RR.out _ (al1 _ _)) HL.out H1.out HR.out.1 HR.out.2 (by simp) ?_)
  rintro v' w2 ⟨o1, o2, o3, o4⟩
  have B2 : Below w.heap.size w w2 := Below.trans (al1 _ _) o3
  clear o2 o3 o4
  go_wp2
  go_ret
  exact ⟨_, rfl, by simpa using o1, B2⟩

theorem clone108_any (v : Value) (n : Nat) (xs : List Value) (w : World) (h : Row w v n xs) (hl : xs.length = n * 3) (h1 : ∀ y ∈ xs, y.oneCell' = true) (hn : n ≤ 8388608) :
  Calls Try.prog 75 #[v] w fun e w' => ∃ v', e = .returned v' ∧ OwnE w' w.heap.size 73 3 v' n xs ∧ Below w.heap.size w w' := by
 obtain ⟨a, q, hv, hq⟩ := h.len
 obtain ⟨i0, hi0, hz0, hz1, hz2⟩ := info_parts Try.info73
 have HR : Hid _ := room_row (n := n) (bytes := 24) hn (by decide)
 have RR : Hid (∀ u, Below w.heap.size w u → Row u v n xs) := fun u hu => h.below hu
 have HL : Hid (xs.length = n * 3) := hl
 have H1 : Hid _ := h1
 cases a with
 | none =>
  have hn0 : n = 0 := by
   obtain ⟨a, b, o, c, h3, h4, h5, h6, h7, h8⟩ := h
   rw [hv] at h3
   injection h3 with e1 e2 e3
   have := h8 e1.symm
   omega
  subst hn0
  have hx : xs = [] := List.length_eq_zero_iff.1 (by omega)
  subst hx hv
  clear h hl h1 RR H1 HL
  have hnil : ∀ W, (binOp .eql 41 (.slice none 0 q) (.slice none 0 0)).run Try.prog W = .ok (.bool true) W := fun W => Lib.run_eql_slice_nil_nil W _ _ Try.underlying41
  go_enter Try.func75, Try.ntmps75
  go_wp2
  go_ret
  exact ⟨_, rfl, OwnE.nil _ _ _ _, Below.refl _ _⟩
 | some p =>
  subst hv
  clear h hl h1
  have hnil : ∀ W, (binOp .eql 41 (.slice (some p) n q) (.slice none 0 0)).run Try.prog W = .ok (.bool false) W := fun W => Lib.run_eql_slice_some_nil W _ _ _ Try.underlying41
  go_enter Try.func75, Try.ntmps75
  go_wp2_with (at_builtin; refine list_appE (w.alloc (.cells #[] 73)) rfl _ _ 41 rfl w.heap.size 73 i0 _ 3 24 Try.underlying41 hi0 hz0 hz1 hz2 rfl (by decide) (.slice (some ⟨w.heap.size, 0, none⟩) 0 0) 0 [] rfl (OwnE.zero _ _ _ _ _) (.slice (some p) n q) n xs rfl (RR.out _ (al1 _ _)) HL.out H1.out HR.out.1 HR.out.2 (by simp) ?_)
  rintro v' w2 ⟨o1, o2, o3, o4⟩
  have B2 : Below w.heap.size w w2 := Below.trans (al1 _ _) o3
  clear o2 o3 o4
  go_wp2
  go_ret
  exact ⟨_, rfl, by simpa using o1, B2⟩

theorem clone146_any (v : Value) (n : Nat) (xs : List Value) (w : World) (h : Row w v n xs) (hl : xs.length = n * 5) (h1 : ∀ y ∈ xs, y.oneCell' = true) (hn : n ≤ 8388608) :
  Calls Try.prog 80 #[v] w fun e w' => ∃ v', e = .returned v' ∧ OwnE w' w.heap.size 43 5 v' n xs ∧ Below w.heap.size w w' := by
 obtain ⟨a, q, hv, hq⟩ := h.len
 obtain ⟨i0, hi0, hz0, hz1, hz2⟩ := info_parts Try.info43
 have HR : Hid _ := room_row (n := n) (bytes := 104) hn (by decide)
 have RR : Hid (∀ u, Below w.heap.size w u → Row u v n xs) := fun u hu => h.below hu
 have HL : Hid (xs.length = n * 5) := hl
 have H1 : Hid _ := h1
 cases a with
 | none =>
  have hn0 : n = 0 := by
   obtain ⟨a, b, o, c, h3, h4, h5, h6, h7, h8⟩ := h
   rw [hv] at h3
   injection h3 with e1 e2 e3
   have := h8 e1.symm
   omega
  subst hn0
  have hx : xs = [] := List.length_eq_zero_iff.1 (by omega)
  subst hx hv
  clear h hl h1 RR H1 HL
  have hnil : ∀ W, (binOp .eql 40 (.slice none 0 q) (.slice none 0 0)).run Try.prog W = .ok (.bool true) W := fun W => Lib.run_eql_slice_nil_nil W _ _ Try.underlying40
  go_enter Try.func80, Try.ntmps80
  go_wp2
  go_ret
  exact ⟨_, rfl, OwnE.nil _ _ _ _, Below.refl _ _⟩
 | some p =>
  subst hv
  clear h hl h1
  have hnil : ∀ W, (binOp .eql 40 (.slice (some p) n q) (.slice none 0 0)).run Try.prog W = .ok (.bool false) W := fun W => Lib.run_eql_slice_some_nil W _ _ _ Try.underlying40
  go_enter Try.func80, Try.ntmps80
  go_wp2_with (at_builtin; refine list_appE (w.alloc (.cells #[] 43)) rfl _ _ 40 rfl w.heap.size 43 i0 _ 5 104 Try.underlying40 hi0 hz0 hz1 hz2 rfl (by decide) (.slice (some ⟨w.heap.size, 0, none⟩) 0 0) 0 [] rfl (OwnE.zero _ _ _ _ _) (.slice (some p) n q) n xs rfl (RR.out _ (al1 _ _)) HL.out H1.out HR.out.1 HR.out.2 (by simp) ?_)
  rintro v' w2 ⟨o1, o2, o3, o4⟩
  have B2 : Below w.heap.size w w2 := Below.trans (al1 _ _) o3
  clear o2 o3 o4
  go_wp2
  go_ret
  exact ⟨_, rfl, by simpa using o1, B2⟩
end
end Go.Proofs.Ytdcladffnjikkaa
