/-
  A region that draws its order and whose last operation comes behind all others, by one road or another; the others only read: one quiet walk, then the last one, which may panic.
  The program's demand: it panics with the one error that stands for a mistake.
  The program's reader: its next byte.
  A number read from its bytes, as a plain function: the form read byte by byte.
  The program's reader: a number.
-/
import Derived.Test.YtckphbmlmjlipaaDoorPart1
import Derived.Deep.QuietTactic
import Derived.BigQuiet
import Derived.Deep.RegionHeld3
import Derived.Recover
import Derived.Deep.RegionWith
namespace Go.Proofs.YtckphbmlmjlipaaDoor
open Go.RowKit

/-- what is asked behind the others: that the last one does what was asked -/
def EndQ (P : Program) (st : Oper) (Q : Exit → Act → World → Prop) : Exit → Act → World → Prop
  | .normal, a, w => st.wp P a w (Q .normal) Q
  | e, a, w => Q e a w

theorem upon_end {P : Program} {o st : Oper} {a : Act} {K : Act → World → Prop} {Q : Exit → Act → World → Prop} {r : Result Next} (h : o.upon P a K (EndQ P st Q) r) : o.upon P a K Q r := by
  cases r with
  | ok n w' =>
    cases n <;> simp only [Oper.upon] at h ⊢
    case value v => exact h
    case skip => exact h
    case defer d => exact h
    case row row args => exact h
    case enter f args =>
      refine Calls.mono h fun e w'' he => ?_
      cases e with
      | returned u => exact he
      | panicked c => exact he
      | outgrown => obtain ⟨a, w, h⟩ := he; exact ⟨a, w, h⟩
  | halt x w' =>
    cases x <;> simp only [Oper.upon] at h ⊢
    case panic u => exact h
/-- the guard of an operation looks at one of the first n -/
def guardIn (n : Nat) (o : Oper) : Bool := match o.guard with
  | none => true
  | some (j, _) => decide (j < n)
theorem wanted_end {l : List Oper} {st o : Oper} {t : Array Value} (hg : guardIn l.length o = true) : Region.wanted o (yielded (l ++ [st]).toArray t) = Region.wanted o (yielded l.toArray t) := by
  unfold Region.wanted guardIn at *
  rcases hq : o.guard with _ | ⟨j, b⟩
  · rfl
  · rw [hq] at hg
    simp only [decide_eq_true_eq] at hg
    have : (l ++ [st]).toArray[j]? = l.toArray[j]? := by simp [List.getElem?_append_left hg]
    simp only [yielded, this]
theorem wpOp_end {P : Program} {l : List Oper} {st o : Oper} {i : Nat} {a : Act} {w : World} {K : Act → World → Prop} {Q : Exit → Act → World → Prop} (ho : l.toArray[i]? = some o) (ho' : (l ++ [st]).toArray[i]? = some o) (hg : guardIn l.length o = true)
    (h : wpOp P l.toArray (EndQ P st Q) i K a w) : wpOp P (l ++ [st]).toArray Q i K a w := by
  unfold wpOp at *
  simp only [ho, ho'] at *
  rw [wanted_end hg]
  split
  · rename_i hw
    rw [if_pos hw] at h
    rcases h with h | ⟨h1, a', w', h2⟩
    · exact .inl (upon_end h)
    · exact .inr ⟨h1, a', w', h2⟩
  · rename_i hw
    rw [if_neg hw] at h
    exact h

/-- the operations wait only for earlier ones; each of them is waited for by a later one -/
def endB (l : List Oper) (st : Oper) : Bool :=
  (List.range l.length).all (fun i => match l[i]? with
    | some o => guardIn l.length o && o.after.toList.all fun e => decide (e.on < i)
    | none => false) && (st.guard.isNone && ((List.range l.length).all (fun i => (List.range (l.length + 1)).any fun m => decide (i < m) && match (l ++ [st])[m]? with
    | some o => o.after.toList.any fun e => Region.binds .any e && decide (e.on = i)
    | none => false) && st.after.toList.all fun e => decide (e.on < l.length)))

variable {P : Program} {l : List Oper} {st : Oper} {Q : Exit → Act → World → Prop}

theorem endB_parts (h : endB l st = true) : (∀ (i : Nat) (o : Oper), l[i]? = some o → guardIn l.length o = true ∧ ∀ e ∈ o.after, e.on < i) ∧ st.guard = none ∧
    (∀ i, i < l.length → ∃ m o, i < m ∧ (l ++ [st])[m]? = some o ∧ ∃ e ∈ o.after, Region.binds .any e = true ∧ e.on = i) ∧ ∀ e ∈ st.after, e.on < l.length := by
  simp only [endB, Bool.and_eq_true, List.all_eq_true, List.mem_range, List.any_eq_true, decide_eq_true_eq] at h
  obtain ⟨h1, h2, h3, h4⟩ := h
  refine ⟨fun i o ho => ?_, by simpa using h2, fun i hi => ?_, fun e he => h4 e (by simpa using he)⟩
  · have := h1 i (List.getElem?_eq_some_iff.1 ho).1
    rw [ho] at this
    simp only [Bool.and_eq_true, List.all_eq_true, decide_eq_true_eq] at this
    exact ⟨this.1, fun e he => this.2 e (by simpa using he)⟩
  · obtain ⟨m, hm, him, hx⟩ := h3 i hi
    rcases hq : (l ++ [st])[m]? with _ | o
    · rw [hq] at hx; cases hx
    · rw [hq] at hx
      simp only [List.any_eq_true, Bool.and_eq_true, decide_eq_true_eq] at hx
      obtain ⟨e, he, hb, hon⟩ := hx
      exact ⟨m, o, him, hq, e, by simpa using he, hb, hon⟩

/-- whoever is listed, those for whom it waits are too -/
def Sound (l : List Oper) (listed : Array Bool) : Prop := ∀ (i : Nat) (o : Oper), l[i]? = some o → listed.getD i false = true → ∀ e ∈ o.after, Region.binds .any e = true → listed.getD e.on false = true

theorem all_listedE (h : ∀ (i : Nat) (o : Oper), l[i]? = some o → guardIn l.length o = true ∧ ∀ e ∈ o.after, e.on < i) {listed : Array Bool} (hs : listed.size = l.length) (hr : Region.ready .any l.toArray listed = []) : ∀ i, i < l.length → listed.getD i false = true := by
  intro i
  induction i using Nat.strongRecOn with
  | ind i ih =>
    intro hi
    rcases hb : listed.getD i false with _ | _
    · exfalso
      have hm : i ∈ Region.ready .any l.toArray listed := by
        rw [mem_ready]
        refine ⟨?_, l[i], by simp [hi], fun e he _ => ih e.on ((h i l[i] (by simp [hi])).2 e he) (Nat.lt_trans ((h i l[i] (by simp [hi])).2 e he) hi)⟩
        have : i < listed.size := by omega
        simp [this] at hb ⊢
        exact hb
      rw [hr] at hm
      cases hm
    · rfl
theorem getD_pushE {listed : Array Bool} {i : Nat} (d : Bool) (hi : i < listed.size) : (listed.push false).getD i d = listed.getD i d := by
  simp [Array.getElem?_push, Nat.ne_of_lt hi]
theorem push_setE {listed : Array Bool} {i : Nat} (hi : i < listed.size) : (listed.push false).setIfInBounds i true = (listed.setIfInBounds i true).push false := by
  apply Array.ext'
  simp only [Array.toList_setIfInBounds, Array.toList_push]
  rw [List.set_append_left _ _ (by simpa using hi)]
theorem ready_pushE (h : endB l st = true) {listed : Array Bool} (hs : listed.size = l.length) {i : Nat} (hi : i < l.length) (hm : i ∈ Region.ready .any (l ++ [st]).toArray (listed.push false)) : i ∈ Region.ready .any l.toArray listed := by
  rw [mem_ready] at *
  obtain ⟨h0, o, ho, hall⟩ := hm
  rw [getD_pushE true (by omega)] at h0
  have ho' : l[i]? = some o := by
    rw [List.getElem?_toArray, List.getElem?_append_left hi] at ho
    exact ho
  refine ⟨h0, o, by simpa using ho', fun e he hb => ?_⟩
  have := hall e he hb
  rw [getD_pushE false (by have := ((endB_parts h).1 i o ho').2 e he; omega)] at this
  exact this
theorem Sound.step (p1 : ∀ (i : Nat) (o : Oper), l[i]? = some o → guardIn l.length o = true ∧ ∀ e ∈ o.after, e.on < i) {listed : Array Bool} (hv : Sound l listed) {i : Nat} (hi : i ∈ Region.ready .any l.toArray listed) : Sound l (listed.setIfInBounds i true) := by
  intro j o ho hj e he hb
  by_cases hji : i = j
  · subst hji
    obtain ⟨_, o', ho', hall⟩ := mem_ready.1 hi
    have : o' = o := by have : l[i]? = some o' := by simpa using ho'
                        rw [ho] at this; exact (Option.some.inj this).symm
    subst this
    have hlt := (p1 i o' ho).2 e he
    exact getD_set_true (hall e he hb)
  · rw [getD_set_ne false hji] at hj
    exact getD_set_true (hv j o ho hj e he hb)

theorem all_behind (h : endB l st = true) {listed : Array Bool} (hv : Sound l listed) (hst : ∀ e ∈ st.after, Region.binds .any e = true → listed.getD e.on false = true) : ∀ d i, i + d = l.length → 0 < d → listed.getD i false = true := by
  obtain ⟨p1, p2, p3, p4⟩ := endB_parts h
  intro d
  induction d using Nat.strongRecOn with
  | ind d ih =>
    intro i hid hd
    obtain ⟨m, o, him, ho, e, he, hb, hon⟩ := p3 i (by omega)
    have hml : m < l.length + 1 := by have := (List.getElem?_eq_some_iff.1 ho).1; simpa using this
    by_cases hmn : m = l.length
    · subst hmn
      have : o = st := by simpa using ho.symm
      subst this
      rw [← hon]; exact hst e he hb
    · have hm2 : m < l.length := by omega
      have ho' : l[m]? = some o := by rw [List.getElem?_append_left hm2] at ho; exact ho
      have := ih (l.length - m) (by omega) m (by omega) (by omega)
      rw [← hon]
      exact hv m o ho' this e he hb

theorem wpAny_end (h : endB l st = true) : ∀ (fuel : Nat) (listed : Array Bool) (a : Act) (w : World), listed.size = l.length → Sound l listed → wpAny P .any l.toArray (EndQ P st Q) fuel listed a w → wpAny P .any (l ++ [st]).toArray Q (fuel + 1) (listed.push false) a w := by
  obtain ⟨p1, p2, p3, p4⟩ := endB_parts h
  have hstep : ∀ (listed : Array Bool) (a : Act) (w : World) (fuel : Nat), listed.size = l.length → (∀ j, j < l.length → listed.getD j false = true) → st.wp P a w (Q .normal) Q → wpOp P (l ++ [st]).toArray Q l.length (wpAny P .any (l ++ [st]).toArray Q fuel ((listed.push false).setIfInBounds l.length true)) a w := by
    intro listed a w fuel hs hall hq
    unfold wpOp
    have hst : (l ++ [st]).toArray[l.length]? = some st := by simp
    simp only [hst]
    rw [if_pos (by simp [Region.wanted, p2])]
    refine .inl (Oper.wp_mono (fun a' w' hq' => ?_) hq)
    refine wpAny_done (List.filter_eq_nil_iff.2 fun j hj => ?_) hq' _
    have hj' : j < l.length + 1 := by simpa using hj
    have : ((listed.push false).setIfInBounds l.length true).getD j true = true := by
      by_cases hjl : j = l.length
      · subst hjl; simp [hs]
      · rw [getD_set_ne true (Ne.symm hjl), getD_pushE true (by omega)]
        have := hall j (by omega)
        have hlt : j < listed.size := by omega
        simp [hlt] at this ⊢
        exact this
    rw [this]
    simp
  intro fuel
  induction fuel with
  | zero =>
    intro listed a w hs hv hw
    have hall := all_listedE p1 hs hw.1
    refine ⟨fun h0 => ?_, fun i hi => ?_⟩
    · exfalso
      have hm : l.length ∈ Region.ready .any (l ++ [st]).toArray (listed.push false) := by
        rw [mem_ready]
        refine ⟨by simp [← hs], st, by simp, fun e he _ => ?_⟩
        rw [getD_pushE false (by have := p4 e he; omega)]
        exact hall _ (p4 e he)
      rw [h0] at hm
      cases hm
    · by_cases hil : i < l.length
      · have := ready_pushE h hs hil hi
        rw [hw.1] at this
        cases this
      · have hin : i = l.length := by
          obtain ⟨_, o, ho, _⟩ := mem_ready.1 hi
          have := (Array.getElem?_eq_some_iff.1 ho).1
          simp at this
          omega
        subst hin
        exact hstep listed a w 0 hs hall hw.2
  | succ fuel ih =>
    intro listed a w hs hv hw
    refine ⟨fun h0 => ?_, fun i hi => ?_⟩
    · exfalso
      have hr : Region.ready .any l.toArray listed = [] := by
        rw [List.eq_nil_iff_forall_not_mem]
        intro i hi
        have hil : i < l.length := by
          obtain ⟨_, o, ho, _⟩ := mem_ready.1 hi
          have := (Array.getElem?_eq_some_iff.1 ho).1
          simpa using this
        have hm : i ∈ Region.ready .any (l ++ [st]).toArray (listed.push false) := by
          rw [mem_ready] at *
          obtain ⟨h1, o, ho, hall⟩ := hi
          have ho' : l[i]? = some o := by simpa using ho
          refine ⟨by rw [getD_pushE true (by omega)]; exact h1, o, by rw [List.getElem?_toArray, List.getElem?_append_left hil]; exact ho', fun e he hb => ?_⟩
          rw [getD_pushE false (by have := (p1 i o ho').2 e he; omega)]
          exact hall e he hb
        rw [h0] at hm
        cases hm
      have hall := all_listedE p1 hs hr
      have hm : l.length ∈ Region.ready .any (l ++ [st]).toArray (listed.push false) := by
        rw [mem_ready]
        refine ⟨by simp [← hs], st, by simp, fun e he _ => ?_⟩
        rw [getD_pushE false (by have := p4 e he; omega)]
        exact hall _ (p4 e he)
      rw [h0] at hm
      cases hm
    · by_cases hil : i < l.length
      · have hm := ready_pushE h hs hil hi
        have h1 := hw.2 i hm
        have ho : l.toArray[i]? = some l[i] := by simp [hil]
        have ho' : (l ++ [st]).toArray[i]? = some l[i] := by rw [List.getElem?_toArray, List.getElem?_append_left hil]; simp [hil]
        have h2 := wpOp_end ho ho' (p1 i l[i] (by simp [hil])).1 h1
        refine wpOp_mono (fun a' w' h3 => ?_) h2
        rw [push_setE (by omega)]
        exact ih _ a' w' (by simpa using hs) (hv.step p1 hm) h3
      · have hin : i = l.length := by
          obtain ⟨_, o, ho, _⟩ := mem_ready.1 hi
          have := (Array.getElem?_eq_some_iff.1 ho).1
          simp at this
          omega
        subst hin
        have hall : ∀ j, j < l.length → listed.getD j false = true := by
          obtain ⟨_, o, ho, hx⟩ := mem_ready.1 hi
          have : o = st := by simpa using ho.symm
          subst this
          intro j hj
          refine all_behind h hv (fun e he hb => ?_) (l.length - j) j (by omega) (by omega)
          have := hx e he hb
          rw [getD_pushE false (by have := p4 e he; omega)] at this
          exact this
        have hr : Region.ready .any l.toArray listed = [] := by
          rw [List.eq_nil_iff_forall_not_mem]
          intro j hj
          obtain ⟨h1, o, ho, _⟩ := mem_ready.1 hj
          have hjl : j < l.length := by
            have := (Array.getElem?_eq_some_iff.1 ho).1
            simpa using this
          have := hall j hjl
          have hlt : j < listed.size := by omega
          simp [hlt] at this h1
          rw [h1] at this
          cases this
        exact hstep listed a w (fuel + 1) hs hall (hw.1 hr)

theorem Sound.none (l : List Oper) : Sound l (Array.replicate l.length false) := by
  intro i o ho hi
  have := (List.getElem?_eq_some_iff.1 ho).1
  simp [this] at hi

theorem wp_region_end {id : Nat} {ops : Array Oper} {a : Act} {w : World} (l : List Oper) (st : Oper) (hops : ops = (l ++ [st]).toArray) (hm : P.follows .mixedOrders = true) (h : endB l st = true) (hB : Region.lexB .any l.toArray = true)
    (H : wpQuiet P l.toArray (fun w' => ∃ n, w' = w.drewN n) (fun a' => ∀ w', (∃ n, w' = w.drewN n) → st.wp P a' w' (Q .normal) Q) l a) : (Code.region id ops true).wp P Q a w := by
  subst hops
  refine wp_region_any hm ?_
  simp only [Region.lexB, Bool.and_eq_true] at hB
  have h0 := wpAnyQ_lex (C := fun w' => ∃ n, w' = w.drewN n) (md := .any) hB.1 l 0 (Array.replicate l.length false) a (by simp) (by simpa using hB.2) H
  have h1 : wpAny P .any l.toArray (EndQ P st Q) l.length (Array.replicate l.length false) a w.drew :=
    wpAny_of_quiet (Q := fun a' => ∀ w', (∃ n, w' = w.drewN n) → st.wp P a' w' (Q .normal) Q) (fun _ w' hw' h => h w' hw') _ _ _ _ ⟨1, rfl⟩ h0
  have h2 := wpAny_end (Q := Q) h l.length (Array.replicate l.length false) a w.drew (by simp) (Sound.none l) h1
  have e : (Array.replicate l.length false).push false = Array.replicate (l ++ [st]).toArray.size false := by
    apply Array.ext'
    simp [← List.replicate_succ']
  rw [e] at h2
  have e2 : (l ++ [st]).toArray.size = l.length + 1 := by simp
  rw [e2] at h2 ⊢
  exact h2

theorem end_call {P : Program} {o : Oper} {a : Act} {K : Act → World → Prop} {Q : Exit → Act → World → Prop} {w : World} {R : Ending → World → Prop} (f : FuncId) (xs : List Operand) (ats : Array TypeId)
    (ho : o.op = .call { callee := .value (.func f), args := xs.toArray, argTypes := ats }) (hrun : ∀ args w, (callFunc f args).run P w = .ok (.enter f args) w) (args : List Value) (he : xs.map a.eval = args)
    (h : Calls P f args.toArray w R) (hk : ∀ e w', R e w' → (∃ v, e = .returned v ∧ K (a.put o.dst v) w') ∨ (∃ c, e = .panicked c ∧ Q (.panic c) a w')) : o.wp P a w K Q := by
  have ef : a.eval (.func f) = .func (.func f) #[] #[] := rfl
  have hx : execOp a.eval o = callFunc f args.toArray := by
    unfold execOp
    simp [ho, resolve, Deferred.ofValue, invoke, ef, he]
  unfold Oper.wp
  rw [hx, hrun, Oper.upon_enter]
  refine Calls.mono h ?_
  intro e w' hr
  rcases hk e w' hr with ⟨v, rfl, hk⟩ | ⟨c, rfl, hk⟩
  · exact hk
  · exact hk

end Go.Proofs.YtckphbmlmjlipaaDoor

namespace Go.Proofs.YtckphbmlmjlipaaDoor
open Go.RowKit

/-- the error's value -/
def ErrV (ea : Addr) : Value := .iface 121 (.pointer (some ea))
/-- the variable holds it -/
def ErrIs (ea : Addr) (w : World) : Prop := w.cell? ⟨0, 0, none⟩ = some (ErrV ea)
theorem ErrIs.below {ea : Addr} {w w' : World} (h : ErrIs ea w) (hb : Below w.heap.size w w') : ErrIs ea w' := (hb.cell (p := ⟨0, 0, none⟩) (cell_lt h)).trans h
/-- the panic -/
def boom (ea : Addr) : List PanicEntry := [{ v := ErrV ea, recovered := false }]

theorem demand_true (w : World) : Calls Tryd.prog 24 #[.bool true] w fun e w' => e = .returned (.tuple #[]) ∧ w = w' := by
  have hnot : ∀ (x : Bool) (w : World), (Op.unary .not (.bool x)).run Tryd.prog w = .ok (.bool (!x)) w := fun _ _ => rfl
  go_enter Tryd.func24, Tryd.ntmps24
  go_wp2
  go_end0
  exact ⟨rfl, rfl⟩

theorem demand_false (ea : Addr) (w : World) (h : ErrIs ea w) : Calls Tryd.prog 24 #[.bool false] w fun e w' => e = .panicked (boom ea) ∧ w = w' := by
  have hc : w.cell? ⟨0, 0, none⟩ = some (.iface 121 (.pointer (some ea))) := h
  go_enter Tryd.func24, Tryd.ntmps24
  go_wp2
  exact ⟨rfl, rfl, rfl⟩

theorem run_demand (args : Array Value) (w : World) : (callFunc 24 args).run Tryd.prog w = .ok (.enter 24 args) w := by go_simp

end Go.Proofs.YtckphbmlmjlipaaDoor

namespace Go.Proofs.YtckphbmlmjlipaaDoor
open Go.RowKit

/-- the block P is a variable of type int that holds a -/
def PlaceIs (w : World) (P : Nat) (a : Int) : Prop := w.heap[P]? = some (.cells #[.int .i64 a] 3 (0, 0))
theorem PlaceIs.below {w w' : World} {P : Nat} {a : Int} (h : PlaceIs w P a) (hb : Below w.heap.size w w') : PlaceIs w' P a := by
  unfold PlaceIs at *
  rw [hb.block P (Array.getElem?_eq_some_iff.1 h).1]; exact h
theorem PlaceIs.lt {w : World} {P : Nat} {a : Int} (h : PlaceIs w P a) : P < w.heap.size := (Array.getElem?_eq_some_iff.1 h).1
/-- a row of bytes is none of that variable -/
theorem Row.apart {w w' : World} {P : Nat} {a : Int} {v : Value} {l : List Int} (h : Row w v l.length (flatB l)) (hp : PlaceIs w P a) (hc : Chg (fun g => g = P) w w') : Row w' v l.length (flatB l) := by
  obtain ⟨aa, b, off, cap, h1, h2, h3, h4, h5, h6⟩ := h
  refine ⟨aa, b, off, cap, h1, h2, h3, h4, fun j u hj => ?_, h6⟩
  have hcell := h5 j u hj
  by_cases hb : b = P
  · exfalso
    rw [hb, cell_of_cells hp] at hcell
    simp only [flatB, List.getElem?_map, Option.map_eq_some_iff] at hj
    obtain ⟨z, _, rfl⟩ := hj
    rcases Nat.eq_zero_or_pos (off + j) with h0 | h0
    · rw [h0] at hcell; simp at hcell
    · rw [Array.getElem?_eq_none (by simp; omega)] at hcell; cases hcell
  · have hlt := cell_lt hcell
    have hblk := hc.block b hlt hb
    unfold World.cell? at hcell ⊢
    simp only at hcell ⊢
    rw [hblk]; exact hcell
theorem ErrIs.apart {ea : Addr} {w w' : World} {P : Nat} (h : ErrIs ea w) (hc : Chg (fun g => g = P) w w') (hP : P ≠ 0) : ErrIs ea w' := by
  have hlt := cell_lt h
  have hblk := hc.block 0 hlt (fun e => hP e.symm)
  unfold ErrIs World.cell? at *
  simp only at h ⊢
  rw [hblk]; exact h
theorem PlaceIs.set {w : World} {P : Nat} {a : Int} (h : PlaceIs w P a) (b : Int) : PlaceIs (w.setCell ⟨P, 0, none⟩ (.int .i64 b)) P b := heap_setCell_same w P 0 _ _ _ h

set_option maxRecDepth 100000 in
set_option maxHeartbeats 2000000 in
theorem next_ok (v : Value) (bs : List Int) (P : Nat) (k : Nat) (w : World) (hr : Row w v bs.length (flatB bs)) (hbs : inByte bs) (hp : PlaceIs w P k) (hk : k < bs.length) :
    Calls Tryd.prog 82 #[.agg #[v, .pointer (some ⟨P, 0, none⟩)]] w fun e w' => e = .returned (.int .i64 (byOf bs k)) ∧ PlaceIs w' P (k + 1) ∧ Chg (fun g => g = P) w w' := by
  obtain ⟨a, b, off, cap, rfl, hcap, hmax, ha, hc⟩ := hr.bytes
  unfold maxLen at hmax
  have hal := ha (by omega)
  subst hal
  have hlt := hp.lt
  have hb := hbs.at k
  have hc0 := hc k hk
  have hbl := cell_lt hc0
  generalize byOf bs k = y at hc0 hb ⊢
  obtain ⟨hb0, hb1⟩ := hb
  have b0 : Below w.heap.size w (w.alloc (.cells #[.slice (some ⟨b, off, none⟩) bs.length cap, .pointer (some ⟨P, 0, none⟩)] 108)) := (Below.refl _ _).alloc (Nat.le_refl _) _
  have hp1 := hp.below b0
  have d0 := (b0.cell (p := ⟨b, off + k, none⟩) hbl).trans hc0
  have d1 : (w.alloc (.cells #[.slice (some ⟨b, off, none⟩) bs.length cap, .pointer (some ⟨P, 0, none⟩)] 108)).cell? ⟨P, 0, none⟩ = some (.int .i64 k) := by rw [cell_of_cells hp1]; rfl
  have d2 : (w.alloc (.cells #[.slice (some ⟨b, off, none⟩) bs.length cap, .pointer (some ⟨P, 0, none⟩)] 108)).frozen? ⟨P, 0, none⟩ = false := frozen_of_cells hp1
  have hn := heap_alloc_new w (.cells #[.slice (some ⟨b, off, none⟩) bs.length cap, .pointer (some ⟨P, 0, none⟩)] 108)
  have c0 : (w.alloc (.cells #[.slice (some ⟨b, off, none⟩) bs.length cap, .pointer (some ⟨P, 0, none⟩)] 108)).cell? ⟨w.heap.size, 0, none⟩ = some (.slice (some ⟨b, off, none⟩) bs.length cap) := by rw [cell_of_cells hn]; rfl
  have c1 : (w.alloc (.cells #[.slice (some ⟨b, off, none⟩) bs.length cap, .pointer (some ⟨P, 0, none⟩)] 108)).cell? ⟨w.heap.size, 1, none⟩ = some (.pointer (some ⟨P, 0, none⟩)) := by rw [cell_of_cells hn]; rfl
  have HP : Hid _ := And.intro hp1 b0
  clear hp1 b0 hn hc hc0 ha hr hbs hp
  go_enter Tryd.func82, Tryd.ntmps82
  go_wp2_with fail
  generalize w.alloc (.cells #[.slice (some ⟨b, off, none⟩) bs.length cap, .pointer (some ⟨P, 0, none⟩)] 108) = W at *
  go_region_with (go_at_call 24; refine (demand_true _).mono ?_; rintro e w1 ⟨rfl, rfl⟩)
  all_goals
    go_wp2
    go_region
    all_goals
      go_wp2
      go_ret
      refine ⟨rfl, ?_, ?_⟩
      · exact PlaceIs.set (a := k) (by exact HP.out.1) _
      · exact ((Chg.of_below (F := fun g => g = P) HP.out.2).setAt P 0 rfl _).drew.drew

set_option maxRecDepth 100000 in
set_option maxHeartbeats 2000000 in
theorem next_bad (ea : Addr) (v : Value) (bs : List Int) (P : Nat) (k : Int) (w : World) (hr : Row w v bs.length (flatB bs)) (he : ErrIs ea w) (hp : PlaceIs w P k) (hk : ¬ (0 ≤ k ∧ k < bs.length)) :
    Calls Tryd.prog 82 #[.agg #[v, .pointer (some ⟨P, 0, none⟩)]] w fun e w' => e = .panicked (boom ea) ∧ Below w.heap.size w w' := by
  obtain ⟨a, b, off, cap, rfl, hcap, hmax, ha, hc⟩ := hr.bytes
  unfold maxLen at hmax
  have b0 : Below w.heap.size w (w.alloc (.cells #[.slice a bs.length cap, .pointer (some ⟨P, 0, none⟩)] 108)) := (Below.refl _ _).alloc (Nat.le_refl _) _
  have hp1 := hp.below b0
  have he1 := he.below b0
  have d1 : (w.alloc (.cells #[.slice a bs.length cap, .pointer (some ⟨P, 0, none⟩)] 108)).cell? ⟨P, 0, none⟩ = some (.int .i64 k) := by rw [cell_of_cells hp1]; rfl
  have hn := heap_alloc_new w (.cells #[.slice a bs.length cap, .pointer (some ⟨P, 0, none⟩)] 108)
  have c0 : (w.alloc (.cells #[.slice a bs.length cap, .pointer (some ⟨P, 0, none⟩)] 108)).cell? ⟨w.heap.size, 0, none⟩ = some (.slice a bs.length cap) := by rw [cell_of_cells hn]; rfl
  have c1 : (w.alloc (.cells #[.slice a bs.length cap, .pointer (some ⟨P, 0, none⟩)] 108)).cell? ⟨w.heap.size, 1, none⟩ = some (.pointer (some ⟨P, 0, none⟩)) := by rw [cell_of_cells hn]; rfl
  have HP : Hid _ := And.intro b0 he1
  clear hp1 b0 hn hc ha hr hp he he1
  by_cases h0 : 0 ≤ k
  · have h1 : (bs.length : Int) ≤ k := by omega
    have h2 : decide (k < (bs.length : Int)) = false := decide_eq_false (by omega)
    clear hk
    go_enter Tryd.func82, Tryd.ntmps82
    go_wp2_with fail
    generalize (w.alloc (.cells #[.slice a bs.length cap, .pointer (some ⟨P, 0, none⟩)] 108)) = W at *
    refine wp_region_end [_, _, _, _, _, _, _, _, _, _, _, _, _, _, _] _ rfl (by kernel_rfl) (by kernel_rfl) (by kernel_rfl) ?_
    repeat (quiet_step (fail))
    refine wpQuiet_nil ?_
    rintro _ ⟨nq, rfl⟩
    refine end_call 24 [.tmp 18] #[4] rfl run_demand [.bool false] rfl (demand_false ea _ (by exact HP.out.2.below (below_drewN (Below.refl _ _) nq))) ?_
    rintro e w1 ⟨rfl, rfl⟩
    exact .inr ⟨_, rfl, rfl, rfl, below_drewN HP.out.1 nq⟩
  · have h1 : k < 0 := by omega
    have h2 : decide (0 ≤ k) = false := decide_eq_false (by omega)
    clear hk h0
    go_enter Tryd.func82, Tryd.ntmps82
    go_wp2_with fail
    generalize (w.alloc (.cells #[.slice a bs.length cap, .pointer (some ⟨P, 0, none⟩)] 108)) = W at *
    refine wp_region_end [_, _, _, _, _, _, _, _, _, _, _, _, _, _, _] _ rfl (by kernel_rfl) (by kernel_rfl) (by kernel_rfl) ?_
    repeat (quiet_step (fail))
    refine wpQuiet_nil ?_
    rintro _ ⟨nq, rfl⟩
    refine end_call 24 [.tmp 18] #[4] rfl run_demand [.bool false] rfl (demand_false ea _ (by exact HP.out.2.below (below_drewN (Below.refl _ _) nq))) ?_
    rintro e w1 ⟨rfl, rfl⟩
    exact .inr ⟨_, rfl, rfl, rfl, below_drewN HP.out.1 nq⟩

end Go.Proofs.YtckphbmlmjlipaaDoor

namespace Go.Proofs.YtckphbmlmjlipaaDoor
open Go.RowKit

def numN (c : Int) : Int := if c % 2 = 1 then -((c + 1) / 2) else c / 2
def unitN : Nat → Int
  | 0 => 1
  | j + 1 => 128 * unitN j
/-- the code, and how many bytes: fuel, unit, what was read -/
def readC : Nat → Int → Int → List Int → Option (Int × Nat)
  | 0, _, _, _ => none
  | _ + 1, _, _, [] => none
  | f + 1, u, c, b :: r =>
    if b < 128 then (if (0 < b ∨ u = 1) ∧ c + b % 128 * u ≤ 4000000000 then some (c + b % 128 * u, 1) else none)
    else (readC f (u * 128) (c + b % 128 * u) r).map fun p => (p.1, p.2 + 1)
/-- the bytes from a place on -/
def fromB (bs : List Int) (at_ : Int) : List Int := if at_ < 0 then [] else bs.drop at_.toNat
/-- the number at a place, and the place behind it -/
def getN (bs : List Int) (at_ : Int) : Option (Int × Int) := (readC 5 1 0 (fromB bs at_)).map fun p => (numN p.1, at_ + p.2)

structure Reading (bs : List Int) (at_ : Int) (j : Nat) (u c : Int) : Prop where
  le : j ≤ 5
  unit : u = unitN j
  low : 0 ≤ c
  high : c < u
  all : readC 5 1 0 (fromB bs at_) = (readC (5 - j) u c ((fromB bs at_).drop j)).map fun p => (p.1, p.2 + j)
  pos : j = 0 ∨ 0 ≤ at_

theorem Reading.start (bs : List Int) (at_ : Int) : Reading bs at_ 0 1 0 := by
  refine ⟨by omega, rfl, by omega, by omega, ?_, .inl rfl⟩
  simp only [Nat.sub_zero, List.drop_zero, Nat.add_zero]
  cases readC 5 1 0 (fromB bs at_) <;> rfl
theorem unitN_in {j : Nat} (h : j ≤ 5) : 1 ≤ unitN j ∧ unitN j ≤ 34359738368 ∧ (unitN j ≤ 4000000000 ↔ j < 5) ∧ (unitN j = 1 ↔ j = 0) := by
  match j, h with
  | 0, _ => simp [unitN]
  | 1, _ => simp [unitN]
  | 2, _ => simp [unitN]
  | 3, _ => simp [unitN]
  | 4, _ => simp [unitN]
  | 5, _ => simp [unitN]
theorem fromB_here {bs : List Int} {at_ : Int} {j : Nat} (h0 : 0 ≤ at_) (h : at_ + j < bs.length) : (fromB bs at_).drop j = byOf bs (at_.toNat + j) :: (fromB bs at_).drop (j + 1) := by
  unfold fromB
  rw [if_neg (by omega), List.drop_drop, List.drop_drop]
  have hlt : at_.toNat + j < bs.length := by omega
  rw [List.drop_eq_getElem_cons hlt]
  simp [byOf, List.getD, hlt, Nat.add_assoc]
theorem fromB_end {bs : List Int} {at_ : Int} {j : Nat} (hp : j = 0 ∨ 0 ≤ at_) (h : ¬ (0 ≤ at_ + j ∧ at_ + j < bs.length)) : (fromB bs at_).drop j = [] := by
  unfold fromB
  split
  · simp
  · rw [List.drop_drop, List.drop_eq_nil_iff]
    rcases hp with rfl | hp <;> omega

theorem mul_in {b u : Int} (hu : 1 ≤ u) : 0 ≤ b % 128 * u ∧ b % 128 * u ≤ 127 * u := by
  have h1 : 0 ≤ b % 128 := by omega
  have h2 : b % 128 ≤ 127 := by omega
  exact ⟨Int.mul_nonneg h1 (by omega), Int.mul_le_mul_of_nonneg_right h2 (by omega)⟩

variable {bs : List Int} {at_ : Int} {j : Nat} {u c : Int}

/-- no byte is left -/
theorem Reading.over (h : Reading bs at_ j u c) (hx : j = 5 ∨ ¬ (0 ≤ at_ + j ∧ at_ + j < bs.length)) : getN bs at_ = none := by
  unfold getN
  rw [h.all]
  rcases hx with rfl | hx
  · rfl
  · rw [fromB_end h.pos hx]
    rcases hj : 5 - j with _ | f
    · rfl
    · rfl
theorem Reading.pos' (hx : 0 ≤ at_ + j) (hj : j = 0 ∨ 0 ≤ at_) : 0 ≤ at_ := by
  rcases hj with rfl | h0
  · simpa using hx
  · exact h0
/-- one byte more -/
theorem Reading.step (h : Reading bs at_ j u c) (hj : j < 5) (h0 : 0 ≤ at_) (hx : at_ + j < bs.length) {b : Int} (hb : b = byOf bs (at_.toNat + j)) (hb1 : 128 ≤ b) : Reading bs at_ (j + 1) (u * 128) (c + b % 128 * u) := by
  have hu := unitN_in h.le
  rw [← h.unit] at hu
  have hm := mul_in (b := b) hu.1
  have hl := h.low
  have hh := h.high
  refine ⟨by omega, ?_, by omega, by omega, ?_, .inr h0⟩
  · rw [h.unit]; simp [unitN]; omega
  · rw [h.all, fromB_here h0 hx, ← hb, show 5 - j = (5 - (j + 1)) + 1 by omega, readC, if_neg (by omega)]
    cases readC (5 - (j + 1)) (u * 128) (c + b % 128 * u) ((fromB bs at_).drop (j + 1)) with
    | none => rfl
    | some p => simp [Nat.add_assoc, Nat.add_comm 1 j]
theorem Reading.stop (h : Reading bs at_ j u c) (hj : j < 5) (h0 : 0 ≤ at_) (hx : at_ + j < bs.length) {b : Int} (hb : b = byOf bs (at_.toNat + j)) (hb1 : b < 128) :
    getN bs at_ = if (0 < b ∨ u = 1) ∧ c + b % 128 * u ≤ 4000000000 then some (numN (c + b % 128 * u), at_ + j + 1) else none := by
  unfold getN
  rw [h.all, fromB_here h0 hx, ← hb, show 5 - j = (5 - (j + 1)) + 1 by omega, readC, if_pos hb1]
  split
  · simp; omega
  · rfl

theorem numN_in {c : Int} (h0 : 0 ≤ c) : (-2000000000 ≤ numN c ∧ numN c ≤ 2000000000) ↔ c ≤ 4000000000 := by
  unfold numN; split <;> omega
theorem numN_odd {c : Int} (h : c % 2 = 1) : numN c = 0 - c / 2 - 1 := by simp only [numN, h, if_true]; omega
theorem numN_even {c : Int} (h : ¬ c % 2 = 1) : numN c = c / 2 := by simp only [numN, h, if_false]
theorem putN_none {x : Int} : (putN x).length = 0 ↔ ¬ (-2000000000 ≤ x ∧ x ≤ 2000000000) := by
  constructor
  · intro h hx
    rw [putN_in hx.1 hx.2] at h
    have := sevens_pos 4 (codeN x)
    omega
  · intro h; rw [putN_out h]; rfl

end Go.Proofs.YtckphbmlmjlipaaDoor

namespace Go.Proofs.YtckphbmlmjlipaaDoor
open Go.RowKit

set_option maxHeartbeats 400000 in
theorem numOf_any (c : Int) (h0 : 0 ≤ c) (h1 : c ≤ 4000000000) (w : World) :
    Calls Tryd.prog 83 #[.int .i64 c] w fun e w' => e = .returned (.int .i64 (numN c)) ∧ w = w' := by
  by_cases h : c % 2 = 1
  · have E : Hid (numN c = -((c + 1) / 2)) := by show _ = _; simp [numN, h]
    have E2 : Hid ((c + 1).tdiv 2 = (c + 1) / 2) := Int.tdiv_eq_ediv_of_nonneg (by omega)
    have hq : (c % 2 == 1) = true := by simp [h]
    clear h
    go_enter Tryd.func83, Tryd.ntmps83
    go_wp2
    go_ret
    refine ⟨ret_int ?_, rfl⟩
    rw [E.out]
    unfold wrap64
    rw [E2.out]
    omega
  · have E : Hid (numN c = c / 2) := numN_even h
    have hq : (c % 2 == 1) = false := by simp [h]
    clear h
    go_enter Tryd.func83, Tryd.ntmps83
    go_wp2
    go_ret
    exact ⟨ret_int E.out.symm, rfl⟩

/-- what a read number comes to -/
def NumPost (ea : Addr) (P : Nat) (g : Option (Int × Int)) (e : Ending) (w' : World) : Prop := match g with
  | some (x, p) => e = .returned (.int .i64 x) ∧ PlaceIs w' P p
  | none => e = .panicked (boom ea)

theorem box_cell {F : Nat → Prop} {W wr : World} {B j : Nat} {A : Array Value} {t : TypeId} (h : W.heap[B]? = some (.cells A t (0, 0))) (hc : Chg F W wr) (hF : ¬ F B) : wr.cell? ⟨B, j, none⟩ = A[j]? := cell_of_cells (row_chg h hc hF)

set_option maxRecDepth 100000 in
set_option maxHeartbeats 4000000 in
theorem num_any (ea : Addr) (v : Value) (bs : List Int) (P : Nat) (at_ : Int) (w : World) (hr : Row w v bs.length (flatB bs)) (hbs : inByte bs) (hp : PlaceIs w P at_) (he : ErrIs ea w) (hP : P ≠ 0) :
    Calls Tryd.prog 74 #[.agg #[v, .pointer (some ⟨P, 0, none⟩)]] w fun e w' => NumPost ea P (getN bs at_) e w' ∧ Chg (fun g => g = P) w w' := by
  have hlt := hp.lt
  have b0 : Below w.heap.size w (w.alloc (.cells #[v, .pointer (some ⟨P, 0, none⟩)] 108)) := (Below.refl _ _).alloc (Nat.le_refl _) _
  have hp1 := hp.below b0
  have he1 := he.below b0
  have hr1 := hr.below b0
  have hn := heap_alloc_new w (.cells #[v, .pointer (some ⟨P, 0, none⟩)] 108)
  have HH : Hid _ := And.intro hr1 (And.intro hp1 (And.intro he1 (And.intro hn b0)))
  have hne : ¬ w.heap.size = P := by omega
  clear hr hp he b0 hp1 he1 hr1 hn
  go_enter Tryd.func74, Tryd.ntmps74
  go_wp2_with fail
  generalize w.alloc (.cells #[v, .pointer (some ⟨P, 0, none⟩)] 108) = W at *
  go_loopw [3, 4] (fun c u wr => ∃ (j : Nat) (cc uu : Int), c = .int .i64 cc ∧ u = .int .i64 uu ∧ Reading bs at_ j uu cc ∧ PlaceIs wr P (at_ + j) ∧ Chg (fun g => g = P) W wr)
    (fun _ u _ => (34359738368 - intOf u).toNat)
  case atStart => exact ⟨0, 0, 1, rfl, rfl, Reading.start bs at_, by simpa using HH.out.2.1, Chg.refl _ _⟩
  case round =>
    obtain ⟨j, c, u, rfl, rfl, hR, hpl, hch⟩ := hrel
    have hu := unitN_in hR.le
    rw [← hR.unit] at hu
    obtain ⟨u1, u2, u3, u4⟩ := hu
    have cl := hR.low
    have cx := hR.high
    have c0 : wr.cell? ⟨w.heap.size, 0, none⟩ = some v := by rw [box_cell HH.out.2.2.2.1 hch hne]; rfl
    have c1 : wr.cell? ⟨w.heap.size, 1, none⟩ = some (.pointer (some ⟨P, 0, none⟩)) := by rw [box_cell HH.out.2.2.2.1 hch hne]; rfl
    have hrow : Row wr v bs.length (flatB bs) := HH.out.1.apart HH.out.2.1 hch
    have herr : ErrIs ea wr := HH.out.2.2.1.apart hch hP
    have I : Hid _ := And.intro hR (And.intro hpl (And.intro hch (And.intro hrow herr)))
    clear hR hpl hch hrow herr
    by_cases hu5 : u ≤ 4000000000
    · have hj5 := u3.1 hu5
      clear u3
      go_wp2_with fail
      by_cases hin : 0 ≤ at_ + j ∧ at_ + j < bs.length
      · have h0 : 0 ≤ at_ := Reading.pos' hin.1 I.out.1.pos
        have ek : at_ + j = ((at_.toNat + j : Nat) : Int) := by omega
        have hpl : PlaceIs wr P ((at_.toNat + j : Nat) : Int) := by rw [← ek]; exact I.out.2.1
        have hbb := hbs.at (at_.toNat + j)
        refine (next_ok v bs P (at_.toNat + j) _ I.out.2.2.2.1 hbs hpl (by omega)).mono ?_
        rintro e w1 ⟨rfl, hp1, ch1⟩
        generalize hbv : byOf bs (at_.toNat + j) = b at *
        have hp2 : PlaceIs w1 P (at_ + j + 1) := by rw [ek]; exact hp1
        have hcw : Chg (fun g => g = P) w w1 := ((Chg.of_below (F := fun g => g = P) HH.out.2.2.2.2).trans I.out.2.2.1 (fun _ _ h => h)).trans ch1 (fun _ _ h => h)
        have J : Hid (PlaceIs w1 P (at_ + j + 1) ∧ Chg (fun g => g = P) w w1) := ⟨hp2, hcw⟩
        have J2 : Hid (ErrIs ea w1) := I.out.2.2.2.2.apart ch1 hP
        have J3 : Hid (Chg (fun g => g = P) W w1) := I.out.2.2.1.trans ch1 (fun _ _ h => h)
        have hm := mul_in (b := b) u1
        obtain ⟨hm0, hm1⟩ := hm
        obtain ⟨hb0, hb1⟩ := hbb
        have I1 : Hid (Reading bs at_ j u c) := I.out.1
        have HB : Hid (b = byOf bs (at_.toNat + j)) := hbv.symm
        have HL : Hid (at_ + j < bs.length) := hin.2
        clear hpl hp1 ch1 hp2 hcw hbv I c0 c1 ek hin
        by_cases hb : b < 128
        · have ST := I1.out.stop hj5 h0 HL.out HB.out hb
          by_cases hz : 0 < b
          · have HOR : 0 < b ∨ u = 1 := .inl hz
            by_cases hc : c + b % 128 * u ≤ 4000000000
            · have G : getN bs at_ = some (numN (c + b % 128 * u), at_ + j + 1) := by rw [ST, if_pos ⟨HOR, hc⟩]
              have GG : Hid _ := G
              clear G ST
              have z0 : 0 ≤ c + b % 128 * u := by omega
              go_wp2_with fail
              refine (demand_true _).mono ?_
              rintro e w2 ⟨rfl, rfl⟩
              go_wp2_with fail
              refine (demand_true _).mono ?_
              rintro e w2 ⟨rfl, rfl⟩
              go_wp2_with fail
              refine (numOf_any _ z0 hc _).mono ?_
              rintro e w2 ⟨rfl, rfl⟩
              go_wp2
              rw [GG.out]
              go_ret
              exact ⟨⟨rfl, by exact J.out.1⟩, J.out.2⟩
            · have G : getN bs at_ = none := by rw [ST, if_neg (fun h => hc h.2)]
              have GG : Hid _ := G
              have hcd : decide (c + b % 128 * u ≤ 4000000000) = false := decide_eq_false hc
              clear G ST
              go_wp2_with fail
              refine (demand_true _).mono ?_
              rintro e w2 ⟨rfl, rfl⟩
              go_wp2_with fail
              refine (demand_false ea _ J2.out).mono ?_
              rintro e w2 ⟨rfl, rfl⟩
              go_wp2
              rw [GG.out]
              exact ⟨rfl, rfl, J.out.2⟩
          · have hz0 : decide (0 < b) = false := decide_eq_false hz
            by_cases hu1 : u = 1
            · have HOR : 0 < b ∨ u = 1 := .inr hu1
              have hu1d : (u == 1) = true := by simp [hu1]
              clear hu1 u4
              by_cases hc : c + b % 128 * u ≤ 4000000000
              · have G : getN bs at_ = some (numN (c + b % 128 * u), at_ + j + 1) := by rw [ST, if_pos ⟨HOR, hc⟩]
                have GG : Hid _ := G
                clear G ST
                have z0 : 0 ≤ c + b % 128 * u := by omega
                go_wp2_with fail
                refine (demand_true _).mono ?_
                rintro e w2 ⟨rfl, rfl⟩
                go_wp2_with fail
                refine (demand_true _).mono ?_
                rintro e w2 ⟨rfl, rfl⟩
                go_wp2_with fail
                refine (numOf_any _ z0 hc _).mono ?_
                rintro e w2 ⟨rfl, rfl⟩
                go_wp2
                rw [GG.out]
                go_ret
                exact ⟨⟨rfl, by exact J.out.1⟩, J.out.2⟩
              · have G : getN bs at_ = none := by rw [ST, if_neg (fun h => hc h.2)]
                have GG : Hid _ := G
                have hcd : decide (c + b % 128 * u ≤ 4000000000) = false := decide_eq_false hc
                clear G ST
                go_wp2_with fail
                refine (demand_true _).mono ?_
                rintro e w2 ⟨rfl, rfl⟩
                go_wp2_with fail
                refine (demand_false ea _ J2.out).mono ?_
                rintro e w2 ⟨rfl, rfl⟩
                go_wp2
                rw [GG.out]
                exact ⟨rfl, rfl, J.out.2⟩
            · have G : getN bs at_ = none := by rw [ST, if_neg (by rintro ⟨h | h, _⟩; exact hz h; exact hu1 h)]
              have GG : Hid _ := G
              have hu1d : (u == 1) = false := by simp [hu1]
              clear G ST u4 hz hu1
              go_wp2_with fail
              refine (demand_false ea _ J2.out).mono ?_
              rintro e w2 ⟨rfl, rfl⟩
              go_wp2
              rw [GG.out]
              exact ⟨rfl, rfl, J.out.2⟩
        · have ST := I1.out.step hj5 h0 HL.out HB.out (by omega)
          have SS : Hid _ := ST
          clear ST
          go_wp2
          go_roundw
          case rel => exact ⟨j + 1, _, _, rfl, rfl, SS.out, by have := J.out.1; rw [Int.add_assoc] at this; exact_mod_cast this, J3.out⟩
          case measure => simp [intOf]; omega
      · refine (next_bad ea v bs P _ _ I.out.2.2.2.1 I.out.2.2.2.2 I.out.2.1 hin).mono ?_
        rintro e w1 ⟨rfl, b1⟩
        have G := I.out.1.over (.inr hin)
        have GG : Hid _ := G
        clear G
        go_wp2
        rw [GG.out]
        exact ⟨rfl, rfl, ((Chg.of_below (F := fun g => g = P) HH.out.2.2.2.2).trans I.out.2.2.1 (fun _ _ h => h)).trans (Chg.of_below (F := fun g => g = P) b1) (fun _ _ h => h)⟩
    · have hj5 : j = 5 := by
        have := I.out.1.le
        have := mt u3.2 hu5
        omega
      have G := I.out.1.over (.inl hj5)
      have GG : Hid _ := G
      have hcc : wr.cell? ⟨0, 0, none⟩ = some (.iface 121 (.pointer (some ea))) := I.out.2.2.2.2
      clear G u3 hj5 u4
      go_wp2
      rw [GG.out]
      exact ⟨rfl, rfl, (Chg.of_below (F := fun g => g = P) HH.out.2.2.2.2).trans I.out.2.2.1 (fun _ _ h => h)⟩

end Go.Proofs.YtckphbmlmjlipaaDoor
