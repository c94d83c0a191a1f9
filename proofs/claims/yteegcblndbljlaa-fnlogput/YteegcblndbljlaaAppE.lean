/-
  Rows of one's own that may be empty without room; appending to them, and where it lies.
-/
import Derived.Test.YteegcblndbljlaaAppend
import Derived.Test.YteegcblndbljlaaTree
namespace Go.Proofs.Yteegcblndbljlaa
open Go.RowKit

/-- the blocks that an append to v may write -/
def wrB (v : Value) (g : Nat) : Prop := ∃ n cap, v = .slice (some ⟨g, 0, none⟩) n cap ∧ 0 < cap
/-- A ROW OF ONE'S OWN, or one that is empty and has no room. -/
def OwnE (w : World) (base e size : Nat) (v : Value) (n : Nat) (xs : List Value) : Prop :=
  w.ownsRow base e size v n xs ∨ (n = 0 ∧ xs = [] ∧ ∃ g, v = .slice (some ⟨g, 0, none⟩) 0 0)

theorem OwnE.slice {w : World} {base e size n : Nat} {v : Value} {xs : List Value} (h : OwnE w base e size v n xs) : ∃ (a : Option Addr) (cap : Nat), v = .slice a n cap := by
  rcases h with h | ⟨rfl, _, g, rfl⟩
  · obtain ⟨a, cap, h, _⟩ := (Row.of_owns h).len
    exact ⟨a, cap, h⟩
  · exact ⟨_, _, rfl⟩
theorem OwnE.lt {w : World} {base e size n : Nat} {v : Value} {xs : List Value} (h : OwnE w base e size v n xs) : ∀ g, wrB v g → base ≤ g ∧ g < w.heap.size := by
  rintro g ⟨k, cap, rfl, hc⟩
  rcases h with h | ⟨_, _, g', hg⟩
  · exact h.lt g rfl
  · simp at hg; omega
theorem OwnE.chg {P : Nat → Prop} {w w' : World} {base e size n : Nat} {v : Value} {xs : List Value} (h : OwnE w base e size v n xs) (hc : Chg P w w') (hP : ∀ g, wrB v g → ¬ P g) : OwnE w' base e size v n xs := by
  rcases h with h | h
  · have h0 := h
    obtain ⟨hl, h | ⟨g, cap, cur, rfl, hg, hh, hn, hcap, hsz, htake⟩⟩ := h
    · exact .inl ⟨hl, .inl h⟩
    · rcases Nat.eq_zero_or_pos cap with h1 | h1
      · subst h1
        have : n = 0 := by omega
        subst this
        exact .inr ⟨rfl, List.length_eq_zero_iff.1 (by omega), g, rfl⟩
      · exact .inl (owns_chg h0 hc fun g' hg' => hP g' ⟨n, cap, by simp [Value.ownBlock] at hg'; rw [hg'], h1⟩)
  · exact .inr h
theorem OwnE.below {w w' : World} {base e size n : Nat} {v : Value} {xs : List Value} (h : OwnE w base e size v n xs) (hb : Below w.heap.size w w') : OwnE w' base e size v n xs :=
  h.chg (Chg.of_below (F := fun _ => False) hb) (fun _ _ h => h)
theorem OwnE.mono {w : World} {base base' e size n : Nat} {v : Value} {xs : List Value} (h : OwnE w base e size v n xs) (hb : base' ≤ base) : OwnE w base' e size v n xs := h.imp (fun h => owns_mono h hb) id
theorem OwnE.nil (w : World) (base e size : Nat) : OwnE w base e size (.slice none 0 0) 0 [] := .inl (World.ownsRow_nil w base e size)
theorem OwnE.zero (w : World) (base e size g : Nat) : OwnE w base e size (.slice (some ⟨g, 0, none⟩) 0 0) 0 [] := .inr ⟨rfl, rfl, g, rfl⟩
theorem wrB_nil (g : Nat) : ¬ wrB (.slice none 0 0) g := fun ⟨_, _, h, _⟩ => by simp at h
theorem wrB_zero (b g : Nat) : ¬ wrB (.slice (some ⟨b, 0, none⟩) 0 0) g := fun ⟨_, _, h, h2⟩ => by simp at h; omega

/-- what an append leaves -/
def AppTo (W : World) (base e size : Nat) (v : Value) (n : Nat) (xs : List Value) (v' : Value) (w' : World) : Prop :=
  OwnE w' base e size v' n xs ∧ Chg (wrB v) W w' ∧ Below base W w' ∧ ∀ g, wrB v' g → wrB v g ∨ W.heap.size ≤ g

theorem run_append_E {P : Program} (W : World) (t ty : TypeId) (base : Nat) (e : TypeId) (i : TypeInfo) (z : Value) (size bytes : Nat) (ht : P.underlying t = some (.slice e)) (hi : P.info? e = some i) (hz : i.zero = some z)
    (hsize : i.size = size) (hby : i.bytes = bytes) (hzs : z.cells.size = size) (hsz : 0 < size)
    (v : Value) (n : Nat) (xs : List Value) (hown : OwnE W base e size v n xs)
    (u : Value) (m : Nat) (news : List Value) (hr : Row W u m news) (hl : news.length = m * size) (h1 : ∀ y ∈ news, y.oneCell' = true)
    (h63 : n + m ≤ maxLen) (hbytes : (n + m) * bytes ≤ 140737488355328) (hbase : base ≤ W.heap.size) :
    ∃ v' w', (Builtin.append_ #[t, t] ty #[v, u]).run P W = .ok v' w' ∧ AppTo W base e size v (n + m) (xs ++ news) v' w' := by
  obtain ⟨sa, b, off, cap, rfl, hle, hmx, hsa, hcell, hnil⟩ := hr
  have hnews : ∀ ad, sa = some ad → ∀ j y, news[j]? = some y → W.cell? (ad.add j) = some y := by
    intro ad had j y hj
    have hjl := (List.getElem?_eq_some_iff.1 hj).1
    have hm : 0 < m := by
      rcases Nat.eq_zero_or_pos m with h0 | h0
      · subst h0; omega
      · exact h0
    have := hsa hm
    rw [had] at this
    simp only [Option.some.injEq] at this
    subst this
    rw [Go.WideShapes.add_plain]
    exact hcell j y hj
  have key : ∀ (v' : Value) (w' : World), w'.ownsRow base e size v' (n + m) (xs ++ news) → W.grownBy w' v.ownBlock → (v'.ownBlock = v.ownBlock ∨ v'.ownBlock = some W.heap.size) → W.ownsRow base e size v n xs →
      ((∀ g c, v = .slice (some ⟨g, 0, none⟩) n c → c = 0 → v' = v ∧ w' = W ∨ Below W.heap.size W w' ∧ v'.ownBlock = some W.heap.size)) →
      (∀ g c c', v = .slice (some ⟨g, 0, none⟩) n c → v' = .slice (some ⟨g, 0, none⟩) (n + m) c' → g < W.heap.size) →
      AppTo W base e size v (n + m) (xs ++ news) v' w' := by
    intro v' w' h2 h3 h4 hv hz0 hlt
    obtain ⟨_, ⟨rfl, rfl⟩ | ⟨g, c, cur, rfl, hg, hh, hn, hcap, hs, htk⟩⟩ := hv
    · have hb : Below W.heap.size W w' := by
        have hc := chg_of_grown h3
        exact hc.below (fun g _ hg => by simp [Value.ownBlock] at hg) (Nat.le_refl _)
      refine ⟨.inl h2, Chg.of_below hb, hb.mono hbase, fun g' hg' => ?_⟩
      obtain ⟨k, c', rfl, hc'⟩ := hg'
      rcases h4 with h4 | h4
      · simp [Value.ownBlock] at h4
      · simp [Value.ownBlock] at h4; right; omega
    · rcases Nat.eq_zero_or_pos c with hc0 | hc0
      · rcases hz0 g c rfl hc0 with ⟨rfl, rfl⟩ | ⟨hb, ho⟩
        · exact ⟨.inl h2, Chg.refl _ _, Below.refl _ _, fun g' hg' => .inl hg'⟩
        · refine ⟨.inl h2, Chg.of_below hb, hb.mono hbase, fun g' hg' => ?_⟩
          obtain ⟨k, c', rfl, hc'⟩ := hg'
          simp [Value.ownBlock] at ho
          right; omega
      · have hc := chg_of_grown h3
        have hc' : Chg (wrB (.slice (some ⟨g, 0, none⟩) n c)) W w' := hc.mono fun g' _ hg' => by
          simp [Value.ownBlock] at hg'
          subst hg'
          exact ⟨n, c, rfl, hc0⟩
        refine ⟨.inl h2, hc', hc'.below (fun g' _ hg' => ?_) hbase, fun g' hg' => ?_⟩
        · obtain ⟨_, _, hg', _⟩ := hg'
          simp at hg'
          omega
        · obtain ⟨k, c2, rfl, hc2⟩ := hg'
          rcases h4 with h4 | h4
          · simp [Value.ownBlock] at h4
            subst h4
            exact .inl ⟨n, c, rfl, hc0⟩
          · simp [Value.ownBlock] at h4; right; omega
  by_cases hm : m = 0
  · subst hm
    have hn0 : news = [] := List.length_eq_zero_iff.1 (by omega)
    subst hn0
    rw [List.append_nil, Nat.add_zero]
    have hv : ∃ a c, v = .slice a n c ∧ n ≤ c ∧ (a = none → c = 0 ∧ n = 0) := by
      rcases hown with h | ⟨rfl, _, g, rfl⟩
      · obtain ⟨a, b', off', c, h1, h2, _, h4, _, h6⟩ := Row.of_owns h
        exact ⟨a, c, h1, h2, fun h => ⟨h6 h, by have := h6 h; omega⟩⟩
      · exact ⟨_, 0, rfl, Nat.le_refl _, fun h => by cases h⟩
    obtain ⟨a, c, rfl, hnc, hnn⟩ := hv
    refine ⟨.slice a n c, W, ?_, hown, Chg.refl _ _, Below.refl _ _, fun g hg => .inl hg⟩
    have e : (cap = 0 ∨ sa ≠ none) := by
      cases sa with
      | none => exact .inl (hnil rfl)
      | some ad => exact .inr (by simp)
    cases a with
    | none =>
      obtain ⟨rfl, rfl⟩ := hnn rfl
      cases sa <;> simp [Builtin.append_, run_underlying ht, sizeOf, typeInfo, hi, Builtin.lenOf, Builtin.firstCells, loadCells, loadCellsFrom]
    | some ad =>
      cases sa <;> simp [Builtin.append_, run_underlying ht, sizeOf, typeInfo, hi, Builtin.lenOf, Builtin.firstCells, loadCells, loadCellsFrom, hnc, storeCells]
  · have hm' : 0 < m := by omega
    have hsa' := hsa hm'
    subst hsa'
    rcases hown with hown | ⟨rfl, rfl, g, rfl⟩
    · obtain ⟨v', w', hr, h2, h3, h4, h5⟩ := run_append_own_at (P := P) W base t ty e i z size bytes ht hi hz hsize hby hzs hsz v n xs hown ⟨b, off, none⟩ m cap news hl (hnews _ rfl) h1 h63 hbytes hbase
      refine ⟨v', w', hr, key v' w' h2 h3 h5 hown (fun g c hv hc => ?_) (fun g c c' hv _ => ?_)⟩
      · right
        subst hv
        subst hc
        have hn0 : n = 0 := by
          obtain ⟨_, ⟨h, _⟩ | ⟨g', c', cur, h, hg, hh, hn, hcap, hs, htk⟩⟩ := hown
          · simp at h
          · simp at h; omega
        subst hn0
        have hx : xs = [] := List.length_eq_zero_iff.1 (by have := hown.1; omega)
        subst hx
        subst hsize
        subst hby
        have hg2 := run_append_grow (P := P) W t ty e i z ht hi hz ⟨g, 0, none⟩ 0 0 [] (by simp) (by intro j y hj; simp at hj) ⟨b, off, none⟩ m cap news hl (hnews _ rfl) (by omega) (by simp only [maxLen] at h63; omega) (growslice_fits (by omega) hbytes)
        rw [hg2] at hr
        simp only [Result.ok.injEq] at hr
        obtain ⟨rfl, rfl⟩ := hr
        exact ⟨((Below.refl _ _).drew).alloc (Nat.le_refl _) _, rfl⟩
      · subst hv
        exact (hown.lt g rfl).2
    · subst hsize
      subst hby
      have hg2 := run_append_grow (P := P) W t ty e i z ht hi hz ⟨g, 0, none⟩ 0 0 [] (by simp) (by intro j y hj; simp at hj) ⟨b, off, none⟩ m cap news hl (hnews _ rfl) (by omega) (by simp only [maxLen] at h63; omega) (growslice_fits (by omega) hbytes)
      obtain ⟨v', w', hr, h2, h3, h4, h5⟩ := run_append_own_at (P := P) W base t ty e i z i.size i.bytes ht hi hz rfl rfl hzs hsz (.slice none 0 0) 0 [] (World.ownsRow_nil W base e i.size) ⟨b, off, none⟩ m cap news hl (hnews _ rfl) h1 h63 hbytes hbase
      have hg3 := run_append_nil (P := P) W t ty e i z ht hi hz ⟨b, off, none⟩ m cap news hl (hnews _ rfl) hm' (by simp only [maxLen] at h63; omega) (by have hb := hbytes; simp only [Nat.zero_add] at hb; omega)
      rw [hg3] at hr
      simp only [Result.ok.injEq] at hr
      obtain ⟨rfl, rfl⟩ := hr
      have hb : Below W.heap.size W (W.drew.alloc (.cells (news.toArray ++ Builtin.zeroCells z.cells (grownCap W m 0 e - m)) e)) := ((Below.refl _ _).drew).alloc (Nat.le_refl _) _
      refine ⟨_, _, hg2, ?_⟩
      have e1 : ([] : List Value).toArray ++ news.toArray = news.toArray := by simp
      rw [e1, Nat.zero_add, List.nil_append]
      rw [Nat.zero_add, List.nil_append] at h2
      refine ⟨.inl h2, Chg.of_below hb, hb.mono hbase, fun g' hg' => ?_⟩
      obtain ⟨k, c', hk, _⟩ := hg'
      simp at hk
      right; omega

theorem wp_appE {P : Program} {o : Oper} {a : Act} {K : Act → World → Prop} {Q : Exit → Act → World → Prop} (W : World) (s x : Operand) (t : TypeId)
    (ho : o.op = .call { callee := .builtin .append, args := #[s, x], argTypes := #[t, t] })
    (base : Nat) (e : TypeId) (i : TypeInfo) (z : Value) (size bytes : Nat) (ht : P.underlying t = some (.slice e)) (hi : P.info? e = some i) (hz : i.zero = some z)
    (hsize : i.size = size) (hby : i.bytes = bytes) (hzs : z.cells.size = size) (hsz : 0 < size)
    (v : Value) (n : Nat) (xs : List Value) (hs : a.eval s = v) (hown : OwnE W base e size v n xs)
    (u : Value) (m : Nat) (news : List Value) (hx : a.eval x = u) (hr : Row W u m news) (hl : news.length = m * size) (h1 : ∀ y ∈ news, y.oneCell' = true)
    (h63 : n + m ≤ maxLen) (hbytes : (n + m) * bytes ≤ 140737488355328) (hbase : base ≤ W.heap.size)
    (h : ∀ v' w', AppTo W base e size v (n + m) (xs ++ news) v' w' → K (a.put o.dst v') w') : o.wp P a W K Q := by
  obtain ⟨v', w', hrun, h2⟩ := run_append_E (P := P) W t o.type base e i z size bytes ht hi hz hsize hby hzs hsz v n xs hown u m news hr hl h1 h63 hbytes hbase
  unfold Oper.wp
  simp [execOp, ho, resolve, invoke, builtin, hs, hx, hrun, Result.andThen]
  exact h v' w' h2
theorem step_appE {P : Program} {ops : Array Oper} {o : Oper} {a : Act} {K : Act → World → Prop} {Q : Exit → Act → World → Prop} {E : Prop} (W : World) (hgd : o.guard = none) (s x : Operand) (t : TypeId)
    (ho : o.op = .call { callee := .builtin .append, args := #[s, x], argTypes := #[t, t] })
    (base : Nat) (e : TypeId) (i : TypeInfo) (z : Value) (size bytes : Nat) (ht : P.underlying t = some (.slice e)) (hi : P.info? e = some i) (hz : i.zero = some z)
    (hsize : i.size = size) (hby : i.bytes = bytes) (hzs : z.cells.size = size) (hsz : 0 < size)
    (v : Value) (n : Nat) (xs : List Value) (hs : a.eval s = v) (hown : OwnE W base e size v n xs)
    (u : Value) (m : Nat) (news : List Value) (hx : a.eval x = u) (hr : Row W u m news) (hl : news.length = m * size) (h1 : ∀ y ∈ news, y.oneCell' = true)
    (h63 : n + m ≤ maxLen) (hbytes : (n + m) * bytes ≤ 140737488355328) (hbase : base ≤ W.heap.size)
    (h : ∀ v' w', AppTo W base e size v (n + m) (xs ++ news) v' w' → K (a.put o.dst v') w') :
    if Region.wanted o (yielded ops a.tmps) = true then Oper.wp P o a W K Q else E := by
  have hw : Region.wanted o (yielded ops a.tmps) = true := by simp [Region.wanted, hgd]
  rw [if_pos hw]
  exact wp_appE W s x t ho base e i z size bytes ht hi hz hsize hby hzs hsz v n xs hs hown u m news hx hr hl h1 h63 hbytes hbase h
theorem list_appE {P : Program} {ops : Array Oper} {rest : List Oper} {o : Oper} {a : Act} {Q : Exit → Act → World → Prop} (W : World) (hgd : o.guard = none) (s x : Operand) (t : TypeId)
    (ho : o.op = .call { callee := .builtin .append, args := #[s, x], argTypes := #[t, t] })
    (base : Nat) (e : TypeId) (i : TypeInfo) (z : Value) (size bytes : Nat) (ht : P.underlying t = some (.slice e)) (hi : P.info? e = some i) (hz : i.zero = some z)
    (hsize : i.size = size) (hby : i.bytes = bytes) (hzs : z.cells.size = size) (hsz : 0 < size)
    (v : Value) (n : Nat) (xs : List Value) (hs : a.eval s = v) (hown : OwnE W base e size v n xs)
    (u : Value) (m : Nat) (news : List Value) (hx : a.eval x = u) (hr : Row W u m news) (hl : news.length = m * size) (h1 : ∀ y ∈ news, y.oneCell' = true)
    (h63 : n + m ≤ maxLen) (hbytes : (n + m) * bytes ≤ 140737488355328) (hbase : base ≤ W.heap.size)
    (h : ∀ v' w', AppTo W base e size v (n + m) (xs ++ news) v' w' → wpList P ops Q rest (a.put o.dst v') w') :
    wpList P ops Q (o :: rest) a W :=
  wpList_plain hgd fun _ hK => wp_appE W s x t ho base e i z size bytes ht hi hz hsize hby hzs hsz v n xs hs hown u m news hx hr hl h1 h63 hbytes hbase fun v' w' h2 => hK _ _ (h v' w' h2)

theorem Row.laid (W : World) (xs : List Value) (e B : Nat) (hB : B = W.heap.size) : Row (W.alloc (.cells xs.toArray e)) (.slice (some ⟨B, 0, none⟩) 1 1) 1 xs := by
  subst hB
  refine ⟨_, W.heap.size, 0, 1, rfl, Nat.le_refl _, by decide, fun _ => rfl, fun j u hj => ?_, fun h => by cases h⟩
  rw [Nat.zero_add, cell_of_cells (heap_alloc_new W _)]
  simpa using hj

end Go.Proofs.Yteegcblndbljlaa
