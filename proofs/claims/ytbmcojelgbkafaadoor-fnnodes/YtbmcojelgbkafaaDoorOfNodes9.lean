/-
  Rows of one's own that may be empty without room; appending to them, and where it lies.
  A region that draws its order and whose last operation waits for all others: that one may be kept for the end.
-/
import Derived.Test.YtbmcojelgbkafaaDoorOfNodes8
import Derived.Deep.RegionHeld3
namespace Go.Proofs.YtbmcojelgbkafaaDoor
set_option maxRecDepth 100000
set_option maxHeartbeats 8000000
section
open Go.RowKit

def wrB (v : Value) (g : Nat) : Prop := ∃ n cap, v = .slice (some ⟨g, 0, none⟩) n cap ∧ 0 < cap
def OwnE (w : World) (base e size : Nat) (v : Value) (n : Nat) (xs : List Value) : Prop :=
 w.ownsRow base e size v n xs ∨ (n = 0 ∧ xs = [] ∧ ∃ g, v = .slice (some ⟨g, 0, none⟩) 0 0)

theorem OwnE.slice {w : World} {base e size n : Nat} {v : Value} {xs : List Value} (h : OwnE w base e size v n xs) : ∃ (a : Option Addr) (cap : Nat), v = .slice a n cap := by
 rcases h with h | ⟨rfl, _, g, rfl⟩
 ·obtain ⟨a, cap, h, _⟩ := (Row.of_owns h).len
  exact ⟨a, cap, h⟩
 ·exact ⟨_, _, rfl⟩
theorem OwnE.lt {w : World} {base e size n : Nat} {v : Value} {xs : List Value} (h : OwnE w base e size v n xs) : ∀ g, wrB v g → base ≤ g ∧ g < w.heap.size := by
 rintro g ⟨k, cap, rfl, hc⟩
 rcases h with h | ⟨_, _, g', hg⟩
 ·exact h.lt g rfl
 ·simp at hg; omega
theorem OwnE.rowF {w : World} {base e size n : Nat} {v : Value} {xs : List Value} (h : OwnE w base e size v n xs) : RowF w (wrB v) v n xs := by
 rcases h with h | ⟨rfl, rfl, g, rfl⟩
 ·have h0 := RowF.of_owns h
  obtain ⟨a, b, off, cap, h1, h2, h3, h4, h5, h6, h7⟩ := h0
  refine ⟨a, b, off, cap, h1, h2, h3, fun hn => ⟨(h4 hn).1, ?_, (h4 hn).2.2⟩, h5, h6, h7⟩
  obtain ⟨g, cap', e1, e2, e3⟩ := h.form hn
  have : b = g := by
   have := (h4 hn).2.1
   rw [e1] at this
   simpa [Value.ownBlock] using this.symm
  subst this
  have hc : cap = cap' := by rw [h1] at e1; simp at e1; exact e1.2
  exact ⟨n, cap', e1, by omega⟩
 ·exact ⟨_, g, 0, 0, rfl, Nat.le_refl _, Nat.zero_le _, fun h => absurd h (Nat.lt_irrefl _), fun j u hj => by simp at hj, (fun h => by cases h), fun _ => rfl⟩
theorem OwnE.chg {P : Nat → Prop} {w w' : World} {base e size n : Nat} {v : Value} {xs : List Value} (h : OwnE w base e size v n xs) (hc : Chg P w w') (hP : ∀ g, wrB v g → ¬ P g) : OwnE w' base e size v n xs := by
 rcases h with h | h
 ·have h0 := h
  obtain ⟨hl, h | ⟨g, cap, cur, rfl, hg, hh, hn, hcap, hsz, htake⟩⟩ := h
  ·exact .inl ⟨hl, .inl h⟩
  ·rcases Nat.eq_zero_or_pos cap with h1 | h1
   ·subst h1
    have : n = 0 := by omega
    subst this
    exact .inr ⟨rfl, List.length_eq_zero_iff.1 (by omega), g, rfl⟩
   ·exact .inl (owns_chg h0 hc fun g' hg' => hP g' ⟨n, cap, by simp [Value.ownBlock] at hg'; rw [hg'], h1⟩)
 ·exact .inr h
theorem OwnE.below {w w' : World} {base e size n : Nat} {v : Value} {xs : List Value} (h : OwnE w base e size v n xs) (hb : Below w.heap.size w w') : OwnE w' base e size v n xs :=
 h.chg (Chg.of_below (F := fun _ => False) hb) (fun _ _ h => h)
theorem OwnE.mono {w : World} {base base' e size n : Nat} {v : Value} {xs : List Value} (h : OwnE w base e size v n xs) (hb : base' ≤ base) : OwnE w base' e size v n xs := h.imp (fun h => owns_mono h hb) id
theorem OwnE.nil (w : World) (base e size : Nat) : OwnE w base e size (.slice none 0 0) 0 [] := .inl (World.ownsRow_nil w base e size)
theorem OwnE.zero (w : World) (base e size g : Nat) : OwnE w base e size (.slice (some ⟨g, 0, none⟩) 0 0) 0 [] := .inr ⟨rfl, rfl, g, rfl⟩
theorem wrB_nil (g : Nat) : ¬ wrB (.slice none 0 0) g := fun ⟨_, _, h, _⟩ => by simp at h
theorem wrB_zero (b g : Nat) : ¬ wrB (.slice (some ⟨b, 0, none⟩) 0 0) g := fun ⟨_, _, h, h2⟩ => by simp at h; omega

def AppTo (W : World) (base e size : Nat) (v : Value) (n : Nat) (xs : List Value) (v' : Value) (w' : World) : Prop :=
 OwnE w' base e size v' n xs ∧ Chg (wrB v) W w' ∧ Below base W w' ∧ ∀ g, wrB v' g → wrB v g ∨ W.heap.size ≤ g

theorem run_append_E {P : Program} (W : World) (t ty : TypeId) (base : Nat) (e : TypeId) (i : TypeInfo) (z : Value) (size bytes : Nat) (ht : P.underlying t = some (.slice e)) (hi : P.info? e = some i) (hz : i.zero = some z)
  (hsize : i.size = size) (hby : i.bytes = bytes) (hzs : z.cells.size = size) (hsz : 0 < size)
  (v : Value) (n : Nat) (xs : List Value) (hown : OwnE W base e size v n xs)
  (u : Value) (m : Nat) (news : List Value) (hr : Row W u m news) (hl : news.length = m * size) (h1 : ∀ y ∈ news, y.oneCell' = true)
  (h63 : n + m ≤ maxLen) (hbytes : (n + m) * bytes ≤ 140737488355328) (hbase : base ≤ W.heap.size) :
  ∃ v' w', (Builtin.append_ #[t, t] ty #[v, u]).run P W = .ok v' w' ∧ AppTo W base e size v (n + m) (xs ++ news) v' w' := by
 obtain ⟨sa, b, off, cap, rfl, hle, hmx, hsa, hcell, hnil⟩ := hr
 have hnews : ∀ ad, sa = some ad → ∀ j y, news[j]? = some y → W.cell? (ad.add j) = some y := by
  intro ad had j y hj
  have hjl := (List.getElem?_eq_some_iff.1 hj).1
  have hm : 0 < m := by
   rcases Nat.eq_zero_or_pos m with h0 | h0
   ·subst h0; omega
   ·exact h0
  have := hsa hm
  rw [had] at this
  simp only [Option.some.injEq] at this
  subst this
  rw [Go.WideShapes.add_plain]
  exact hcell j y hj
 have key : ∀ (v' : Value) (w' : World), w'.ownsRow base e size v' (n + m) (xs ++ news) → W.grownBy w' v.ownBlock → (v'.ownBlock = v.ownBlock ∨ v'.ownBlock = some W.heap.size) → W.ownsRow base e size v n xs →
   ((∀ g c, v = .slice (some ⟨g, 0, none⟩) n c → c = 0 → v' = v ∧ w' = W ∨ Below W.heap.size W w' ∧ v'.ownBlock = some W.heap.size)) →
   (∀ g c c', v = .slice (some ⟨g, 0, none⟩) n c → v' = .slice (some ⟨g, 0, none⟩) (n + m) c' → g < W.heap.size) →
   AppTo W base e size v (n + m) (xs ++ news) v' w' := by
  intro v' w' h2 h3 h4 hv hz0 hlt
  obtain ⟨_, ⟨rfl, rfl⟩ | ⟨g, c, cur, rfl, hg, hh, hn, hcap, hs, htk⟩⟩ := hv
  ·have hb : Below W.heap.size W w' := by
    have hc := chg_of_grown h3
    exact hc.below (fun g _ hg => by simp [Value.ownBlock] at hg) (Nat.le_refl _)
   refine ⟨.inl h2, Chg.of_below hb, hb.mono hbase, fun g' hg' => ?_⟩
   obtain ⟨k, c', rfl, hc'⟩ := hg'
   rcases h4 with h4 | h4
   ·simp [Value.ownBlock] at h4
   ·simp [Value.ownBlock] at h4; right; omega
  ·rcases Nat.eq_zero_or_pos c with hc0 | hc0
   ·rcases hz0 g c rfl hc0 with ⟨rfl, rfl⟩ | ⟨hb, ho⟩
    ·exact ⟨.inl h2, Chg.refl _ _, Below.refl _ _, fun g' hg' => .inl hg'⟩
    ·refine ⟨.inl h2, Chg.of_below hb, hb.mono hbase, fun g' hg' => ?_⟩
     obtain ⟨k, c', rfl, hc'⟩ := hg'
     simp [Value.ownBlock] at ho
     right; omega
   ·have hc := chg_of_grown h3
    have hc' : Chg (wrB (.slice (some ⟨g, 0, none⟩) n c)) W w' := hc.mono fun g' _ hg' => by
     simp [Value.ownBlock] at hg'
     subst hg'
     exact ⟨n, c, rfl, hc0⟩
    refine ⟨.inl h2, hc', hc'.below (fun g' _ hg' => ?_) hbase, fun g' hg' => ?_⟩
    ·obtain ⟨_, _, hg', _⟩ := hg'
     simp at hg'
     omega
    ·obtain ⟨k, c2, rfl, hc2⟩ := hg'
     rcases h4 with h4 | h4
     ·simp [Value.ownBlock] at h4
      subst h4
      exact .inl ⟨n, c, rfl, hc0⟩
     ·simp [Value.ownBlock] at h4; right; omega
 by_cases hm : m = 0
 ·subst hm
  have hn0 : news = [] := List.length_eq_zero_iff.1 (by omega)
  subst hn0
  rw [List.append_nil, Nat.add_zero]
  have hv : ∃ a c, v = .slice a n c ∧ n ≤ c ∧ (a = none → c = 0 ∧ n = 0) := by
   rcases hown with h | ⟨rfl, _, g, rfl⟩
   ·obtain ⟨a, b', off', c, h1, h2, _, h4, _, h6⟩ := Row.of_owns h
    exact ⟨a, c, h1, h2, fun h => ⟨h6 h, by have := h6 h; omega⟩⟩
   ·exact ⟨_, 0, rfl, Nat.le_refl _, fun h => by cases h⟩
  obtain ⟨a, c, rfl, hnc, hnn⟩ := hv
  refine ⟨.slice a n c, W, ?_, hown, Chg.refl _ _, Below.refl _ _, fun g hg => .inl hg⟩
  have e : (cap = 0 ∨ sa ≠ none) := by
   cases sa with
   | none => exact .inl (hnil rfl)
   | some ad => exact .inr (by simp)
  cases a with
  | none =>
   obtain ⟨rfl, rfl⟩ := hnn rfl
   cases sa <;> simp [Builtin.append_, run_underlying ht, sizeOf, typeInfo, hi, Builtin.lenOf, Builtin.firstCells, loadCells, loadCellsFrom]
  | some ad =>
   cases sa <;> simp [Builtin.append_, run_underlying ht, sizeOf, typeInfo, hi, Builtin.lenOf, Builtin.firstCells, loadCells, loadCellsFrom, hnc, storeCells]
 ·have hm' : 0 < m := by omega
  have hsa' := hsa hm'
  subst hsa'
  rcases hown with hown | ⟨rfl, rfl, g, rfl⟩
  ·obtain ⟨v', w', hr, h2, h3, h4, h5⟩ := run_append_own_at (P := P) W base t ty e i z size bytes ht hi hz hsize hby hzs hsz v n xs hown ⟨b, off, none⟩ m cap news hl (hnews _ rfl) h1 h63 hbytes hbase
   refine ⟨v', w', hr, key v' w' h2 h3 h5 hown (fun g c hv hc => ?_) (fun g c c' hv _ => ?_)⟩
   ·right
    subst hv
    subst hc
    have hn0 : n = 0 := by
     obtain ⟨_, ⟨h, _⟩ | ⟨g', c', cur, h, hg, hh, hn, hcap, hs, htk⟩⟩ := hown
     ·simp at h
     ·simp at h; omega
    subst hn0
    have hx : xs = [] := List.length_eq_zero_iff.1 (by have := hown.1; omega)
    subst hx
    subst hsize
    subst hby
    have hg2 := run_append_grow (P := P) W t ty e i z ht hi hz ⟨g, 0, none⟩ 0 0 [] (by simp) (by intro j y hj; simp at hj) ⟨b, off, none⟩ m cap news hl (hnews _ rfl) (by omega) (by simp only [maxLen] at h63; omega) (growslice_fits (by omega) hbytes)
    rw [hg2] at hr
    simp only [Result.ok.injEq] at hr
    obtain ⟨rfl, rfl⟩ := hr
    exact ⟨((Below.refl _ _).drew).alloc (Nat.le_refl _) _, rfl⟩
   ·subst hv
    exact (hown.lt g rfl).2
  ·subst hsize
   subst hby
   have hg2 := run_append_grow (P := P) W t ty e i z ht hi hz ⟨g, 0, none⟩ 0 0 [] (by simp) (by intro j y hj; simp at hj) ⟨b, off, none⟩ m cap news hl (hnews _ rfl) (by omega) (by simp only [maxLen] at h63; omega) (growslice_fits (by omega) hbytes)
   obtain ⟨v', w', hr, h2, h3, h4, h5⟩ := run_append_own_at (P := P) W base t ty e i z i.size i.bytes ht hi hz rfl rfl hzs hsz (.slice none 0 0) 0 [] (World.ownsRow_nil W base e i.size) ⟨b, off, none⟩ m cap news hl (hnews _ rfl) h1 h63 hbytes hbase
   have hg3 := run_append_nil (P := P) W t ty e i z ht hi hz ⟨b, off, none⟩ m cap news hl (hnews _ rfl) hm' (by simp only [maxLen] at h63; omega) (by have hb := hbytes; simp only [Nat.zero_add] at hb; omega)
   rw [hg3] at hr
   simp only [Result.ok.injEq] at hr
   obtain ⟨rfl, rfl⟩ := hr
   have hb : Below W.heap.size W (W.drew.alloc (.cells (news.toArray ++ Builtin.zeroCells z.cells (grownCap W m 0 e - m)) e)) := ((Below.refl _ _).drew).alloc (Nat.le_refl _) _
   refine ⟨_, _, hg2, ?_⟩
   have e1 : ([] : List Value).toArray ++ news.toArray = news.toArray := by simp
   rw [e1, Nat.zero_add, List.nil_append]
   rw [Nat.zero_add, List.nil_append] at h2
   refine ⟨.inl h2, Chg.of_below hb, hb.mono hbase, fun g' hg' => ?_⟩
   obtain ⟨k, c', hk, _⟩ := hg'
   simp at hk
   right; omega

theorem wp_appE {P : Program} {o : Oper} {a : Act} {K : Act → World → Prop} {Q : Exit → Act → World → Prop} (W : World) (s x : Operand) (t : TypeId)
  (ho : o.op = .call { callee := .builtin .append, args := #[s, x], argTypes := #[t, t] })
  (base : Nat) (e : TypeId) (i : TypeInfo) (z : Value) (size bytes : Nat) (ht : P.underlying t = some (.slice e)) (hi : P.info? e = some i) (hz : i.zero = some z)
  (hsize : i.size = size) (hby : i.bytes = bytes) (hzs : z.cells.size = size) (hsz : 0 < size)
  (v : Value) (n : Nat) (xs : List Value) (hs : a.eval s = v) (hown : OwnE W base e size v n xs)
  (u : Value) (m : Nat) (news : List Value) (hx : a.eval x = u) (hr : Row W u m news) (hl : news.length = m * size) (h1 : ∀ y ∈ news, y.oneCell' = true)
  (h63 : n + m ≤ maxLen) (hbytes : (n + m) * bytes ≤ 140737488355328) (hbase : base ≤ W.heap.size)
  (h : ∀ v' w', AppTo W base e size v (n + m) (xs ++ news) v' w' → K (a.put o.dst v') w') : o.wp P a W K Q := by
 obtain ⟨v', w', hrun, h2⟩ := run_append_E (P := P) W t o.type base e i z size bytes ht hi hz hsize hby hzs hsz v n xs hown u m news hr hl h1 h63 hbytes hbase
 unfold Oper.wp
 simp [execOp, ho, resolve, invoke, builtin, hs, hx, hrun, Result.andThen]
 exact h v' w' h2
theorem step_appE {P : Program} {ops : Array Oper} {o : Oper} {a : Act} {K : Act → World → Prop} {Q : Exit → Act → World → Prop} {E : Prop} (W : World) (hgd : o.guard = none) (s x : Operand) (t : TypeId)
  (ho : o.op = .call { callee := .builtin .append, args := #[s, x], argTypes := #[t, t] })
  (base : Nat) (e : TypeId) (i : TypeInfo) (z : Value) (size bytes : Nat) (ht : P.underlying t = some (.slice e)) (hi : P.info? e = some i) (hz : i.zero = some z)
  (hsize : i.size = size) (hby : i.bytes = bytes) (hzs : z.cells.size = size) (hsz : 0 < size)
  (v : Value) (n : Nat) (xs : List Value) (hs : a.eval s = v) (hown : OwnE W base e size v n xs)
  (u : Value) (m : Nat) (news : List Value) (hx : a.eval x = u) (hr : Row W u m news) (hl : news.length = m * size) (h1 : ∀ y ∈ news, y.oneCell' = true)
  (h63 : n + m ≤ maxLen) (hbytes : (n + m) * bytes ≤ 140737488355328) (hbase : base ≤ W.heap.size)
  (h : ∀ v' w', AppTo W base e size v (n + m) (xs ++ news) v' w' → K (a.put o.dst v') w') :
  if Region.wanted o (yielded ops a.tmps) = true then Oper.wp P o a W K Q else E := by
 have hw : Region.wanted o (yielded ops a.tmps) = true := by simp [Region.wanted, hgd]
 rw [if_pos hw]
 exact wp_appE W s x t ho base e i z size bytes ht hi hz hsize hby hzs hsz v n xs hs hown u m news hx hr hl h1 h63 hbytes hbase h
theorem list_appE {P : Program} {ops : Array Oper} {rest : List Oper} {o : Oper} {a : Act} {Q : Exit → Act → World → Prop} (W : World) (hgd : o.guard = none) (s x : Operand) (t : TypeId)
  (ho : o.op = .call { callee := .builtin .append, args := #[s, x], argTypes := #[t, t] })
  (base : Nat) (e : TypeId) (i : TypeInfo) (z : Value) (size bytes : Nat) (ht : P.underlying t = some (.slice e)) (hi : P.info? e = some i) (hz : i.zero = some z)
  (hsize : i.size = size) (hby : i.bytes = bytes) (hzs : z.cells.size = size) (hsz : 0 < size)
  (v : Value) (n : Nat) (xs : List Value) (hs : a.eval s = v) (hown : OwnE W base e size v n xs)
  (u : Value) (m : Nat) (news : List Value) (hx : a.eval x = u) (hr : Row W u m news) (hl : news.length = m * size) (h1 : ∀ y ∈ news, y.oneCell' = true)
  (h63 : n + m ≤ maxLen) (hbytes : (n + m) * bytes ≤ 140737488355328) (hbase : base ≤ W.heap.size)
  (h : ∀ v' w', AppTo W base e size v (n + m) (xs ++ news) v' w' → wpList P ops Q rest (a.put o.dst v') w') :
  wpList P ops Q (o :: rest) a W :=
 wpList_plain hgd fun _ hK => wp_appE W s x t ho base e i z size bytes ht hi hz hsize hby hzs hsz v n xs hs hown u m news hx hr hl h1 h63 hbytes hbase fun v' w' h2 => hK _ _ (h v' w' h2)

theorem Row.sub {w : World} {a : Option Addr} {n cap size : Nat} {xs : List Value} (h : Row w (.slice a n cap) n xs) (l r : Nat) (hlr : l ≤ r) (hr : r ≤ n) (hn : 0 < n) :
  Row w (.slice (if cap = l then a else a.map (·.add (l * size))) (r - l) (cap - l)) (r - l) ((xs.drop (l * size)).take ((r - l) * size)) := by
 obtain ⟨a', b, off, cap', h1, h2, h3, h4, h5, h6⟩ := h
 simp only [Value.slice.injEq, true_and] at h1
 obtain ⟨rfl, rfl⟩ := h1
 have := h4 hn
 subst this
 by_cases hc : cap = l
 ·rw [if_pos hc]
  refine ⟨_, b, off, _, rfl, by omega, by omega, fun hn => by omega, fun j u hj => ?_, fun h => by cases h⟩
  have : r - l = 0 := by omega
  rw [this] at hj
  simp at hj
 ·rw [if_neg hc]
  refine ⟨_, b, off + l * size, _, rfl, by omega, by omega, fun hn => by simp [Go.WideShapes.add_plain], fun j u hj => ?_, fun h => by simp at h⟩
  rw [flat_get] at hj
  split at hj
  ·rw [show off + l * size + j = off + (l * size + j) by omega]
   exact h5 _ _ hj
  ·cases hj
theorem Row.laid (W : World) (xs : List Value) (e B : Nat) (hB : B = W.heap.size) : Row (W.alloc (.cells xs.toArray e)) (.slice (some ⟨B, 0, none⟩) 1 1) 1 xs := by
 subst hB
 refine ⟨_, W.heap.size, 0, 1, rfl, Nat.le_refl _, by decide, fun _ => rfl, fun j u hj => ?_, fun h => by cases h⟩
 rw [Nat.zero_add, cell_of_cells (heap_alloc_new W _)]
 simpa using hj
end
section
open Go.RowKit

theorem tk {P : Program} {ops : Array Oper} {Q : Exit → Act → World → Prop} {md : Region.Mode} {S : World → Prop} (i : Nat) {oi : Oper} {v : Value} {fuel : Nat} {listed : Array Bool} {a : Act} {w : World} (hi : ops[i]? = some oi)
  (hc : (Region.noSelect ops && Region.free md ops listed i && (Region.ready md ops listed).contains i) = true)
  (hQ : ∀ c a w, Q (.panic c) (a.put oi.dst v) w → Q (.panic c) a w) (hy : YieldsIf P ops S oi v a) (hS : S w)
  (h : wpAnyH P md ops Q S fuel (listed.setIfInBounds i true) (a.put oi.dst v) w) : wpAnyH P md ops Q S (fuel + 1) listed a w := by
 simp only [Bool.and_eq_true] at hc
 exact wpAnyH_take hi hc.1.1 hc.1.2 hc.2 hQ hy hS h
theorem tq {P : Program} {ops : Array Oper} {Q : Exit → Act → World → Prop} {md : Region.Mode} {S : World → Prop} (i : Nat) {d o t p af g} {v : Value} {fuel : Nat} {listed : Array Bool} {a : Act} {w : World}
  (hi : ops[i]? = some ⟨d, o, t, p, af, g⟩) (hc : (Region.noSelect ops && Region.free md ops listed i && (Region.ready md ops listed).contains i) = true)
  (hQ : ∀ c a w, Q (.panic c) (a.put d v) w → Q (.panic c) a w) (hS : S w) (hw : Region.wanted ⟨d, o, t, p, af, g⟩ (yielded ops a.tmps) = true)
  (hr : ∀ w, S w → (execOp a.eval ⟨d, o, t, p, af, g⟩).run P w = .ok (.value v) w)
  (h : wpAnyH P md ops Q S fuel (listed.setIfInBounds i true) (a.put d v) w) : wpAnyH P md ops Q S (fuel + 1) listed a w := tk i hi hc hQ (.inl ⟨hw, hr⟩) hS h
theorem rq {P : Program} {ops : Array Oper} {Q : Exit → Act → World → Prop} {md : Region.Mode} {S : World → Prop} (i : Nat) {d o t p af g} {fuel : Nat} {listed : Array Bool} {a : Act} {w : World}
  (hr : Region.ready md ops listed = [i]) (ho : ops[i]? = some ⟨d, o, t, p, af, g⟩)
  (h : ∀ K' : Act → World → Prop, Shut (∀ a w, S w → (S w → wpAnyH P md ops Q S fuel (listed.setIfInBounds i true) a w) → K' a w) → if Region.wanted ⟨d, o, t, p, af, g⟩ (yielded ops a.tmps) = true then Oper.wp P ⟨d, o, t, p, af, g⟩ a w K' Q else K' (a.put d undef) w) : wpAnyH P md ops Q S (fuel + 1) listed a w := wpAnyH_ready hr (by simp) (AllReadyH.cons ho h AllReadyH.nil)
theorem sA {α : Type} (l : List α) (i : Nat) (x : α) : l.toArray.setIfInBounds i x = (l.set i x).toArray := List.setIfInBounds_toArray ..
theorem sB {α : Type} (a : α) (l : List α) (x : α) : (a :: l).set 0 x = x :: l := List.set_cons_zero
theorem sC {α : Type} (a : α) (l : List α) (n : Nat) (x : α) : (a :: l).set (n + 1) x = a :: l.set n x := List.set_cons_succ

def LastQ (P : Program) (st : Oper) (Q : Exit → Act → World → Prop) : Exit → Act → World → Prop
 | .normal, a, w => st.wp P a w (Q .normal) Q
 | e, a, w => Q e a w

theorem upon_last {P : Program} {o st : Oper} {a : Act} {K : Act → World → Prop} {Q : Exit → Act → World → Prop} {r : Result Next} (h : o.upon P a K (LastQ P st Q) r) : o.upon P a K Q r := by
 cases r with
 | ok n w' =>
  cases n <;> simp only [Oper.upon] at h ⊢
  case value v => exact h
  case skip => exact h
  case defer d => exact h
  case row row args => exact h
  case enter f args =>
   refine Calls.mono h fun e w'' he => ?_
   cases e with
   | returned u => exact he
   | panicked c => exact he
   | outgrown => obtain ⟨a, w, h⟩ := he; exact ⟨a, w, h⟩
 | halt x w' =>
  cases x <;> simp only [Oper.upon] at h ⊢
  case panic u => exact h
theorem wpOp_last {P : Program} {ops ops' : Array Oper} {st o : Oper} {i : Nat} {a : Act} {w : World} {K : Act → World → Prop} {Q : Exit → Act → World → Prop} (ho : ops[i]? = some o) (ho' : ops'[i]? = some o) (hg : o.guard = none)
  (h : wpOp P ops (LastQ P st Q) i K a w) : wpOp P ops' Q i K a w := by
 unfold wpOp at *
 simp only [ho, ho'] at *
 have hw : ∀ y, Region.wanted o y = true := fun y => by simp [Region.wanted, hg]
 rw [hw] at h ⊢
 simp only [if_true] at *
 rcases h with h | ⟨h1, a', w', h2⟩
 ·exact .inl (upon_last h)
 ·exact .inr ⟨h1, a', w', h2⟩

def lastB (l : List Oper) (st : Oper) : Bool :=
 (List.range l.length).all (fun i => match l[i]? with
  | some o => o.guard.isNone && o.after.toList.all fun e => decide (e.on < i)
  | none => false) && (st.guard.isNone && ((List.range l.length).all (fun i => st.after.toList.any fun e => Region.binds .any e && decide (e.on = i)) && st.after.toList.all fun e => decide (e.on < l.length)))

variable {P : Program} {l : List Oper} {st : Oper} {Q : Exit → Act → World → Prop}

theorem lastB_parts (h : lastB l st = true) : (∀ (i : Nat) (o : Oper), l[i]? = some o → o.guard = none ∧ ∀ e ∈ o.after, e.on < i) ∧ st.guard = none ∧ (∀ i, i < l.length → ∃ e ∈ st.after, Region.binds .any e = true ∧ e.on = i) ∧ ∀ e ∈ st.after, e.on < l.length := by
 simp only [lastB, Bool.and_eq_true, List.all_eq_true, List.mem_range, List.any_eq_true, decide_eq_true_eq] at h
 obtain ⟨h1, h2, h3, h4⟩ := h
 refine ⟨fun i o ho => ?_, by simpa using h2, fun i hi => ?_, fun e he => h4 e (by simpa using he)⟩
 ·have := h1 i (List.getElem?_eq_some_iff.1 ho).1
  rw [ho] at this
  simp only [Bool.and_eq_true, List.all_eq_true, decide_eq_true_eq] at this
  exact ⟨by simpa using this.1, fun e he => this.2 e (by simpa using he)⟩
 ·obtain ⟨e, he, hb, hon⟩ := h3 i hi
  exact ⟨e, by simpa using he, hb, hon⟩

theorem all_listed (h : ∀ (i : Nat) (o : Oper), l[i]? = some o → o.guard = none ∧ ∀ e ∈ o.after, e.on < i) {listed : Array Bool} (hs : listed.size = l.length) (hr : Region.ready .any l.toArray listed = []) : ∀ i, i < l.length → listed.getD i false = true := by
 intro i
 induction i using Nat.strongRecOn with
 | ind i ih =>
  intro hi
  rcases hb : listed.getD i false with _ | _
  ·exfalso
   have hm : i ∈ Region.ready .any l.toArray listed := by
    rw [mem_ready]
    refine ⟨?_, l[i], by simp [hi], fun e he _ => ih e.on ((h i l[i] (by simp [hi])).2 e he) (Nat.lt_trans ((h i l[i] (by simp [hi])).2 e he) hi)⟩
    have : i < listed.size := by omega
    simp [this] at hb ⊢
    exact hb
   rw [hr] at hm
   cases hm
  ·rfl

theorem getD_push {listed : Array Bool} {i : Nat} (d : Bool) (hi : i < listed.size) : (listed.push false).getD i d = listed.getD i d := by
 simp [Array.getElem?_push, Nat.ne_of_lt hi]
theorem push_set {listed : Array Bool} {i : Nat} (hi : i < listed.size) : (listed.push false).setIfInBounds i true = (listed.setIfInBounds i true).push false := by
 apply Array.ext'
 simp only [Array.toList_setIfInBounds, Array.toList_push]
 rw [List.set_append_left _ _ (by simpa using hi)]

theorem ready_push (h : lastB l st = true) {listed : Array Bool} (hs : listed.size = l.length) {i : Nat} (hi : i < l.length) (hm : i ∈ Region.ready .any (l ++ [st]).toArray (listed.push false)) : i ∈ Region.ready .any l.toArray listed := by
 rw [mem_ready] at *
 obtain ⟨h0, o, ho, hall⟩ := hm
 rw [getD_push true (by omega)] at h0
 have ho' : l[i]? = some o := by
  rw [List.getElem?_toArray, List.getElem?_append_left hi] at ho
  exact ho
 refine ⟨h0, o, by simpa using ho', fun e he hb => ?_⟩
 have := hall e he hb
 rw [getD_push false (by have := ((lastB_parts h).1 i o ho').2 e he; omega)] at this
 exact this

theorem wpAny_last (h : lastB l st = true) : ∀ (fuel : Nat) (listed : Array Bool) (a : Act) (w : World), listed.size = l.length → wpAny P .any l.toArray (LastQ P st Q) fuel listed a w → wpAny P .any (l ++ [st]).toArray Q (fuel + 1) (listed.push false) a w := by
 obtain ⟨p1, p2, p3, p4⟩ := lastB_parts h
 intro fuel
 induction fuel with
 | zero =>
  intro listed a w hs hw
  have hall := all_listed p1 hs hw.1
  refine ⟨fun h0 => ?_, fun i hi => ?_⟩
  ·exfalso
   have hm : l.length ∈ Region.ready .any (l ++ [st]).toArray (listed.push false) := by
    rw [mem_ready]
    refine ⟨by simp [← hs], st, by simp, fun e he _ => ?_⟩
    rw [getD_push false (by have := p4 e he; omega)]
    exact hall _ (p4 e he)
   rw [h0] at hm
   cases hm
  ·by_cases hil : i < l.length
   ·have := ready_push h hs hil hi
    rw [hw.1] at this
    cases this
   ·have hin : i = l.length := by
     obtain ⟨_, o, ho, _⟩ := mem_ready.1 hi
     have := (Array.getElem?_eq_some_iff.1 ho).1
     simp at this
     omega
    subst hin
    have hq : st.wp P a w (Q .normal) Q := hw.2
    unfold wpOp
    have hst : (l ++ [st]).toArray[l.length]? = some st := by simp
    simp only [hst]
    rw [if_pos (by simp [Region.wanted, p2])]
    refine .inl (Oper.wp_mono (fun a' w' hq' => ?_) hq)
    refine ⟨List.filter_eq_nil_iff.2 fun j hj => ?_, hq'⟩
    have hj' : j < l.length + 1 := by simpa using hj
    have : ((listed.push false).setIfInBounds l.length true).getD j true = true := by
     by_cases hjl : j = l.length
     ·subst hjl; simp
     ·rw [getD_set_ne true (Ne.symm hjl), getD_push true (by omega)]
      have := hall j (by omega)
      have hlt : j < listed.size := by omega
      simp [hlt] at this ⊢
      exact this
    rw [this]
    simp
 | succ fuel ih =>
  intro listed a w hs hw
  refine ⟨fun h0 => ?_, fun i hi => ?_⟩
  ·exfalso
   have hr : Region.ready .any l.toArray listed = [] := by
    rw [List.eq_nil_iff_forall_not_mem]
    intro i hi
    have hil : i < l.length := by
     obtain ⟨_, o, ho, _⟩ := mem_ready.1 hi
     have := (Array.getElem?_eq_some_iff.1 ho).1
     simpa using this
    have hm : i ∈ Region.ready .any (l ++ [st]).toArray (listed.push false) := by
     rw [mem_ready] at *
     obtain ⟨h1, o, ho, hall⟩ := hi
     have ho' : l[i]? = some o := by simpa using ho
     refine ⟨by rw [getD_push true (by omega)]; exact h1, o, by rw [List.getElem?_toArray, List.getElem?_append_left hil]; exact ho', fun e he hb => ?_⟩
     rw [getD_push false (by have := (p1 i o ho').2 e he; omega)]
     exact hall e he hb
    rw [h0] at hm
    cases hm
   have hall := all_listed p1 hs hr
   have hm : l.length ∈ Region.ready .any (l ++ [st]).toArray (listed.push false) := by
    rw [mem_ready]
    refine ⟨by simp [← hs], st, by simp, fun e he _ => ?_⟩
    rw [getD_push false (by have := p4 e he; omega)]
    exact hall _ (p4 e he)
   rw [h0] at hm
   cases hm
  ·by_cases hil : i < l.length
   ·have hm := ready_push h hs hil hi
    have h1 := hw.2 i hm
    have ho : l.toArray[i]? = some l[i] := by simp [hil]
    have ho' : (l ++ [st]).toArray[i]? = some l[i] := by rw [List.getElem?_toArray, List.getElem?_append_left hil]; simp [hil]
    have h2 := wpOp_last ho ho' (p1 i l[i] (by simp [hil])).1 h1
    refine wpOp_mono (fun a' w' h3 => ?_) h2
    rw [push_set (by omega)]
    exact ih _ a' w' (by simpa using hs) h3
   ·have hin : i = l.length := by
     obtain ⟨_, o, ho, _⟩ := mem_ready.1 hi
     have := (Array.getElem?_eq_some_iff.1 ho).1
     simp at this
     omega
    subst hin
    have hall : ∀ j, j < l.length → listed.getD j false = true := by
     intro j hj
     obtain ⟨e, he, hb, hon⟩ := p3 j hj
     obtain ⟨_, o, ho, hx⟩ := mem_ready.1 hi
     have : o = st := by simpa using ho.symm
     subst this
     have := hx e he hb
     rw [getD_push false (by have := p4 e he; omega), hon] at this
     exact this
    have hr : Region.ready .any l.toArray listed = [] := by
     rw [List.eq_nil_iff_forall_not_mem]
     intro j hj
     obtain ⟨h1, o, ho, _⟩ := mem_ready.1 hj
     have hjl : j < l.length := by
      have := (Array.getElem?_eq_some_iff.1 ho).1
      simpa using this
     have := hall j hjl
     have hlt : j < listed.size := by omega
     simp [hlt] at this h1
     rw [h1] at this
     cases this
    have hq : st.wp P a w (Q .normal) Q := hw.1 hr
    unfold wpOp
    have hst : (l ++ [st]).toArray[l.length]? = some st := by simp
    simp only [hst]
    rw [if_pos (by simp [Region.wanted, p2])]
    refine .inl (Oper.wp_mono (fun a' w' hq' => ?_) hq)
    refine wpAny_done (List.filter_eq_nil_iff.2 fun j hj => ?_) hq' _
    have hj' : j < l.length + 1 := by simpa using hj
    have : ((listed.push false).setIfInBounds l.length true).getD j true = true := by
     by_cases hjl : j = l.length
     ·subst hjl; simp [hs]
     ·rw [getD_set_ne true (Ne.symm hjl), getD_push true (by omega)]
      have := hall j (by omega)
      have hlt : j < listed.size := by omega
      simp [hlt] at this ⊢
      exact this
    rw [this]
    simp

theorem wp_region_last {id : Nat} {ops : Array Oper} {a : Act} {w : World} (S : World → Prop) (l : List Oper) (st : Oper) (hops : ops = (l ++ [st]).toArray) (hm : P.follows .mixedOrders = true) (h : lastB l st = true)
  (H : wpAnyH P .any l.toArray (LastQ P st Q) S l.length (Array.replicate l.length false) a w.drew) : (Code.region id ops true).wp P Q a w := by
 subst hops
 refine wp_region_any hm ?_
 have h1 := wpAny_last (Q := Q) h l.length (Array.replicate l.length false) a w.drew (by simp) (wpAny_of_held _ _ _ _ H)
 have e : (Array.replicate l.length false).push false = Array.replicate (l ++ [st]).toArray.size false := by
  apply Array.ext'
  simp [← List.replicate_succ']
 rw [e] at h1
 have e2 : (l ++ [st]).toArray.size = l.length + 1 := by simp
 rw [e2] at h1 ⊢
 exact h1
end
end Go.Proofs.YtbmcojelgbkafaaDoor
