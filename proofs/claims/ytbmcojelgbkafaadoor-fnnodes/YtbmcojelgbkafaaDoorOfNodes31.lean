/-
  A region that draws its order and whose last operation comes behind all others, by one road or another; the others only read: one quiet walk, then the last one, which may panic.
  The program's demand: it panics with the one error that stands for a mistake.
  Numbers in a row put into bytes: the program's formsOf, the model's l5Nums.
  What kind of node a tree is: in the text of the program's trees.
-/
import Derived.Test.YtbmcojelgbkafaaDoorOfNodes1
import Derived.Deep.QuietTactic
import Derived.BigQuiet
import Derived.Deep.RegionHeld3
import Derived.Test.YtbmcojelgbkafaaDoorOfNodes30
import Derived.Recover
import Derived.Deep.RegionWith
import Derived.Test.YtbmcojelgbkafaaDoorOfNodes3
namespace Go.Proofs.YtbmcojelgbkafaaDoor
set_option maxRecDepth 100000
set_option maxHeartbeats 8000000
section
open Go.RowKit

def EndQ (P : Program) (st : Oper) (Q : Exit → Act → World → Prop) : Exit → Act → World → Prop
 | .normal, a, w => st.wp P a w (Q .normal) Q
 | e, a, w => Q e a w

theorem upon_end {P : Program} {o st : Oper} {a : Act} {K : Act → World → Prop} {Q : Exit → Act → World → Prop} {r : Result Next} (h : o.upon P a K (EndQ P st Q) r) : o.upon P a K Q r := by
 cases r with
 | ok n w' =>
  cases n <;> simp only [Oper.upon] at h ⊢
  case value v => exact h
  case skip => exact h
  case defer d => exact h
  case row row args => exact h
  case enter f args =>
   refine Calls.mono h fun e w'' he => ?_
   cases e with
   | returned u => exact he
   | panicked c => exact he
   | outgrown => obtain ⟨a, w, h⟩ := he; exact ⟨a, w, h⟩
 | halt x w' =>
  cases x <;> simp only [Oper.upon] at h ⊢
  case panic u => exact h
def guardIn (n : Nat) (o : Oper) : Bool := match o.guard with
 | none => true
 | some (j, _) => decide (j < n)
theorem wanted_end {l : List Oper} {st o : Oper} {t : Array Value} (hg : guardIn l.length o = true) : Region.wanted o (yielded (l ++ [st]).toArray t) = Region.wanted o (yielded l.toArray t) := by
 unfold Region.wanted guardIn at *
 rcases hq : o.guard with _ | ⟨j, b⟩
 ·rfl
 ·rw [hq] at hg
  simp only [decide_eq_true_eq] at hg
  have : (l ++ [st]).toArray[j]? = l.toArray[j]? := by simp [List.getElem?_append_left hg]
  simp only [yielded, this]
theorem wpOp_end {P : Program} {l : List Oper} {st o : Oper} {i : Nat} {a : Act} {w : World} {K : Act → World → Prop} {Q : Exit → Act → World → Prop} (ho : l.toArray[i]? = some o) (ho' : (l ++ [st]).toArray[i]? = some o) (hg : guardIn l.length o = true)
  (h : wpOp P l.toArray (EndQ P st Q) i K a w) : wpOp P (l ++ [st]).toArray Q i K a w := by
 unfold wpOp at *
 simp only [ho, ho'] at *
 rw [wanted_end hg]
 split
 ·rename_i hw
  rw [if_pos hw] at h
  rcases h with h | ⟨h1, a', w', h2⟩
  ·exact .inl (upon_end h)
  ·exact .inr ⟨h1, a', w', h2⟩
 ·rename_i hw
  rw [if_neg hw] at h
  exact h

def endB (l : List Oper) (st : Oper) : Bool :=
 (List.range l.length).all (fun i => match l[i]? with
  | some o => guardIn l.length o && o.after.toList.all fun e => decide (e.on < i)
  | none => false) && (st.guard.isNone && ((List.range l.length).all (fun i => (List.range (l.length + 1)).any fun m => decide (i < m) && match (l ++ [st])[m]? with
  | some o => o.after.toList.any fun e => Region.binds .any e && decide (e.on = i)
  | none => false) && st.after.toList.all fun e => decide (e.on < l.length)))

variable {P : Program} {l : List Oper} {st : Oper} {Q : Exit → Act → World → Prop}

theorem endB_parts (h : endB l st = true) : (∀ (i : Nat) (o : Oper), l[i]? = some o → guardIn l.length o = true ∧ ∀ e ∈ o.after, e.on < i) ∧ st.guard = none ∧
  (∀ i, i < l.length → ∃ m o, i < m ∧ (l ++ [st])[m]? = some o ∧ ∃ e ∈ o.after, Region.binds .any e = true ∧ e.on = i) ∧ ∀ e ∈ st.after, e.on < l.length := by
 simp only [endB, Bool.and_eq_true, List.all_eq_true, List.mem_range, List.any_eq_true, decide_eq_true_eq] at h
 obtain ⟨h1, h2, h3, h4⟩ := h
 refine ⟨fun i o ho => ?_, by simpa using h2, fun i hi => ?_, fun e he => h4 e (by simpa using he)⟩
 ·have := h1 i (List.getElem?_eq_some_iff.1 ho).1
  rw [ho] at this
  simp only [Bool.and_eq_true, List.all_eq_true, decide_eq_true_eq] at this
  exact ⟨this.1, fun e he => this.2 e (by simpa using he)⟩
 ·obtain ⟨m, hm, him, hx⟩ := h3 i hi
  rcases hq : (l ++ [st])[m]? with _ | o
  ·rw [hq] at hx; cases hx
  ·rw [hq] at hx
   simp only [List.any_eq_true, Bool.and_eq_true, decide_eq_true_eq] at hx
   obtain ⟨e, he, hb, hon⟩ := hx
   exact ⟨m, o, him, hq, e, by simpa using he, hb, hon⟩

def Sound (l : List Oper) (listed : Array Bool) : Prop := ∀ (i : Nat) (o : Oper), l[i]? = some o → listed.getD i false = true → ∀ e ∈ o.after, Region.binds .any e = true → listed.getD e.on false = true

theorem all_listedE (h : ∀ (i : Nat) (o : Oper), l[i]? = some o → guardIn l.length o = true ∧ ∀ e ∈ o.after, e.on < i) {listed : Array Bool} (hs : listed.size = l.length) (hr : Region.ready .any l.toArray listed = []) : ∀ i, i < l.length → listed.getD i false = true := by
 intro i
 induction i using Nat.strongRecOn with
 | ind i ih =>
  intro hi
  rcases hb : listed.getD i false with _ | _
  ·exfalso
   have hm : i ∈ Region.ready .any l.toArray listed := by
    rw [mem_ready]
    refine ⟨?_, l[i], by simp [hi], fun e he _ => ih e.on ((h i l[i] (by simp [hi])).2 e he) (Nat.lt_trans ((h i l[i] (by simp [hi])).2 e he) hi)⟩
    have : i < listed.size := by omega
    simp [this] at hb ⊢
    exact hb
   rw [hr] at hm
   cases hm
  ·rfl
theorem getD_pushE {listed : Array Bool} {i : Nat} (d : Bool) (hi : i < listed.size) : (listed.push false).getD i d = listed.getD i d := by
 simp [Array.getElem?_push, Nat.ne_of_lt hi]
theorem push_setE {listed : Array Bool} {i : Nat} (hi : i < listed.size) : (listed.push false).setIfInBounds i true = (listed.setIfInBounds i true).push false := by
 apply Array.ext'
 simp only [Array.toList_setIfInBounds, Array.toList_push]
 rw [List.set_append_left _ _ (by simpa using hi)]
theorem ready_pushE (h : endB l st = true) {listed : Array Bool} (hs : listed.size = l.length) {i : Nat} (hi : i < l.length) (hm : i ∈ Region.ready .any (l ++ [st]).toArray (listed.push false)) : i ∈ Region.ready .any l.toArray listed := by
 rw [mem_ready] at *
 obtain ⟨h0, o, ho, hall⟩ := hm
 rw [getD_pushE true (by omega)] at h0
 have ho' : l[i]? = some o := by
  rw [List.getElem?_toArray, List.getElem?_append_left hi] at ho
  exact ho
 refine ⟨h0, o, by simpa using ho', fun e he hb => ?_⟩
 have := hall e he hb
 rw [getD_pushE false (by have := ((endB_parts h).1 i o ho').2 e he; omega)] at this
 exact this
theorem Sound.step (p1 : ∀ (i : Nat) (o : Oper), l[i]? = some o → guardIn l.length o = true ∧ ∀ e ∈ o.after, e.on < i) {listed : Array Bool} (hv : Sound l listed) {i : Nat} (hi : i ∈ Region.ready .any l.toArray listed) : Sound l (listed.setIfInBounds i true) := by
 intro j o ho hj e he hb
 by_cases hji : i = j
 ·subst hji
  obtain ⟨_, o', ho', hall⟩ := mem_ready.1 hi
  have : o' = o := by
   have : l[i]? = some o' := by simpa using ho'
   rw [ho] at this; exact (Option.some.inj this).symm
  subst this
  have hlt := (p1 i o' ho).2 e he
  exact getD_set_true (hall e he hb)
 ·rw [getD_set_ne false hji] at hj
  exact getD_set_true (hv j o ho hj e he hb)

theorem all_behind (h : endB l st = true) {listed : Array Bool} (hv : Sound l listed) (hst : ∀ e ∈ st.after, Region.binds .any e = true → listed.getD e.on false = true) : ∀ d i, i + d = l.length → 0 < d → listed.getD i false = true := by
 obtain ⟨p1, p2, p3, p4⟩ := endB_parts h
 intro d
 induction d using Nat.strongRecOn with
 | ind d ih =>
  intro i hid hd
  obtain ⟨m, o, him, ho, e, he, hb, hon⟩ := p3 i (by omega)
  have hml : m < l.length + 1 := by have := (List.getElem?_eq_some_iff.1 ho).1; simpa using this
  by_cases hmn : m = l.length
  ·subst hmn
   have : o = st := by simpa using ho.symm
   subst this
   rw [← hon]; exact hst e he hb
  ·have hm2 : m < l.length := by omega
   have ho' : l[m]? = some o := by rw [List.getElem?_append_left hm2] at ho; exact ho
   have := ih (l.length - m) (by omega) m (by omega) (by omega)
   rw [← hon]
   exact hv m o ho' this e he hb

theorem wpAny_end (h : endB l st = true) : ∀ (fuel : Nat) (listed : Array Bool) (a : Act) (w : World), listed.size = l.length → Sound l listed → wpAny P .any l.toArray (EndQ P st Q) fuel listed a w → wpAny P .any (l ++ [st]).toArray Q (fuel + 1) (listed.push false) a w := by
 obtain ⟨p1, p2, p3, p4⟩ := endB_parts h
 have hstep : ∀ (listed : Array Bool) (a : Act) (w : World) (fuel : Nat), listed.size = l.length → (∀ j, j < l.length → listed.getD j false = true) → st.wp P a w (Q .normal) Q → wpOp P (l ++ [st]).toArray Q l.length (wpAny P .any (l ++ [st]).toArray Q fuel ((listed.push false).setIfInBounds l.length true)) a w := by
  intro listed a w fuel hs hall hq
  unfold wpOp
  have hst : (l ++ [st]).toArray[l.length]? = some st := by simp
  simp only [hst]
  rw [if_pos (by simp [Region.wanted, p2])]
  refine .inl (Oper.wp_mono (fun a' w' hq' => ?_) hq)
  refine wpAny_done (List.filter_eq_nil_iff.2 fun j hj => ?_) hq' _
  have hj' : j < l.length + 1 := by simpa using hj
  have : ((listed.push false).setIfInBounds l.length true).getD j true = true := by
   by_cases hjl : j = l.length
   ·subst hjl; simp [hs]
   ·rw [getD_set_ne true (Ne.symm hjl), getD_pushE true (by omega)]
    have := hall j (by omega)
    have hlt : j < listed.size := by omega
    simp [hlt] at this ⊢
    exact this
  rw [this]
  simp
 intro fuel
 induction fuel with
 | zero =>
  intro listed a w hs hv hw
  have hall := all_listedE p1 hs hw.1
  refine ⟨fun h0 => ?_, fun i hi => ?_⟩
  ·exfalso
   have hm : l.length ∈ Region.ready .any (l ++ [st]).toArray (listed.push false) := by
    rw [mem_ready]
    refine ⟨by simp [← hs], st, by simp, fun e he _ => ?_⟩
    rw [getD_pushE false (by have := p4 e he; omega)]
    exact hall _ (p4 e he)
   rw [h0] at hm
   cases hm
  ·by_cases hil : i < l.length
   ·have := ready_pushE h hs hil hi
    rw [hw.1] at this
    cases this
   ·have hin : i = l.length := by
     obtain ⟨_, o, ho, _⟩ := mem_ready.1 hi
     have := (Array.getElem?_eq_some_iff.1 ho).1
     simp at this
     omega
    subst hin
    exact hstep listed a w 0 hs hall hw.2
 | succ fuel ih =>
  intro listed a w hs hv hw
  refine ⟨fun h0 => ?_, fun i hi => ?_⟩
  ·exfalso
   have hr : Region.ready .any l.toArray listed = [] := by
    rw [List.eq_nil_iff_forall_not_mem]
    intro i hi
    have hil : i < l.length := by
     obtain ⟨_, o, ho, _⟩ := mem_ready.1 hi
     have := (Array.getElem?_eq_some_iff.1 ho).1
     simpa using this
    have hm : i ∈ Region.ready .any (l ++ [st]).toArray (listed.push false) := by
     rw [mem_ready] at *
     obtain ⟨h1, o, ho, hall⟩ := hi
     have ho' : l[i]? = some o := by simpa using ho
     refine ⟨by rw [getD_pushE true (by omega)]; exact h1, o, by rw [List.getElem?_toArray, List.getElem?_append_left hil]; exact ho', fun e he hb => ?_⟩
     rw [getD_pushE false (by have := (p1 i o ho').2 e he; omega)]
     exact hall e he hb
    rw [h0] at hm
    cases hm
   have hall := all_listedE p1 hs hr
   have hm : l.length ∈ Region.ready .any (l ++ [st]).toArray (listed.push false) := by
    rw [mem_ready]
    refine ⟨by simp [← hs], st, by simp, fun e he _ => ?_⟩
    rw [getD_pushE false (by have := p4 e he; omega)]
    exact hall _ (p4 e he)
   rw [h0] at hm
   cases hm
  ·by_cases hil : i < l.length
   ·have hm := ready_pushE h hs hil hi
    have h1 := hw.2 i hm
    have ho : l.toArray[i]? = some l[i] := by simp [hil]
    have ho' : (l ++ [st]).toArray[i]? = some l[i] := by rw [List.getElem?_toArray, List.getElem?_append_left hil]; simp [hil]
    have h2 := wpOp_end ho ho' (p1 i l[i] (by simp [hil])).1 h1
    refine wpOp_mono (fun a' w' h3 => ?_) h2
    rw [push_setE (by omega)]
    exact ih _ a' w' (by simpa using hs) (hv.step p1 hm) h3
   ·have hin : i = l.length := by
     obtain ⟨_, o, ho, _⟩ := mem_ready.1 hi
     have := (Array.getElem?_eq_some_iff.1 ho).1
     simp at this
     omega
    subst hin
    have hall : ∀ j, j < l.length → listed.getD j false = true := by
     obtain ⟨_, o, ho, hx⟩ := mem_ready.1 hi
     have : o = st := by simpa using ho.symm
     subst this
     intro j hj
     refine all_behind h hv (fun e he hb => ?_) (l.length - j) j (by omega) (by omega)
     have := hx e he hb
     rw [getD_pushE false (by have := p4 e he; omega)] at this
     exact this
    have hr : Region.ready .any l.toArray listed = [] := by
     rw [List.eq_nil_iff_forall_not_mem]
     intro j hj
     obtain ⟨h1, o, ho, _⟩ := mem_ready.1 hj
     have hjl : j < l.length := by
      have := (Array.getElem?_eq_some_iff.1 ho).1
      simpa using this
     have := hall j hjl
     have hlt : j < listed.size := by omega
     simp [hlt] at this h1
     rw [h1] at this
     cases this
    exact hstep listed a w (fuel + 1) hs hall (hw.1 hr)

theorem Sound.none (l : List Oper) : Sound l (Array.replicate l.length false) := by
 intro i o ho hi
 have := (List.getElem?_eq_some_iff.1 ho).1
 simp [this] at hi

theorem wp_region_end {id : Nat} {ops : Array Oper} {a : Act} {w : World} (l : List Oper) (st : Oper) (hops : ops = (l ++ [st]).toArray) (hm : P.follows .mixedOrders = true) (h : endB l st = true) (hB : Region.lexB .any l.toArray = true)
  (H : wpQuiet P l.toArray (fun w' => ∃ n, w' = w.drewN n) (fun a' => ∀ w', (∃ n, w' = w.drewN n) → st.wp P a' w' (Q .normal) Q) l a) : (Code.region id ops true).wp P Q a w := by
 subst hops
 refine wp_region_any hm ?_
 simp only [Region.lexB, Bool.and_eq_true] at hB
 have h0 := wpAnyQ_lex (C := fun w' => ∃ n, w' = w.drewN n) (md := .any) hB.1 l 0 (Array.replicate l.length false) a (by simp) (by simpa using hB.2) H
 have h1 : wpAny P .any l.toArray (EndQ P st Q) l.length (Array.replicate l.length false) a w.drew :=
  wpAny_of_quiet (Q := fun a' => ∀ w', (∃ n, w' = w.drewN n) → st.wp P a' w' (Q .normal) Q) (fun _ w' hw' h => h w' hw') _ _ _ _ ⟨1, rfl⟩ h0
 have h2 := wpAny_end (Q := Q) h l.length (Array.replicate l.length false) a w.drew (by simp) (Sound.none l) h1
 have e : (Array.replicate l.length false).push false = Array.replicate (l ++ [st]).toArray.size false := by
  apply Array.ext'
  simp [← List.replicate_succ']
 rw [e] at h2
 have e2 : (l ++ [st]).toArray.size = l.length + 1 := by simp
 rw [e2] at h2 ⊢
 exact h2

theorem end_call {P : Program} {o : Oper} {a : Act} {K : Act → World → Prop} {Q : Exit → Act → World → Prop} {w : World} {R : Ending → World → Prop} (f : FuncId) (xs : List Operand) (ats : Array TypeId)
  (ho : o.op = .call { callee := .value (.func f), args := xs.toArray, argTypes := ats }) (hrun : ∀ args w, (callFunc f args).run P w = .ok (.enter f args) w) (args : List Value) (he : xs.map a.eval = args)
  (h : Calls P f args.toArray w R) (hk : ∀ e w', R e w' → (∃ v, e = .returned v ∧ K (a.put o.dst v) w') ∨ (∃ c, e = .panicked c ∧ Q (.panic c) a w')) : o.wp P a w K Q := by
 have ef : a.eval (.func f) = .func (.func f) #[] #[] := rfl
 have hx : execOp a.eval o = callFunc f args.toArray := by
  unfold execOp
  simp [ho, resolve, Deferred.ofValue, invoke, ef, he]
 unfold Oper.wp
 rw [hx, hrun, Oper.upon_enter]
 refine Calls.mono h ?_
 intro e w' hr
 rcases hk e w' hr with ⟨v, rfl, hk⟩ | ⟨c, rfl, hk⟩
 ·exact hk
 ·exact hk
end
section
open Go.RowKit

def ErrV (ea : Addr) : Value := .iface 114 (.pointer (some ea))
def ErrIs (ea : Addr) (w : World) : Prop := w.cell? ⟨0, 0, none⟩ = some (ErrV ea)
theorem ErrIs.below {ea : Addr} {w w' : World} (h : ErrIs ea w) (hb : Below w.heap.size w w') : ErrIs ea w' := (hb.cell (p := ⟨0, 0, none⟩) (cell_lt h)).trans h
def boom (ea : Addr) : List PanicEntry := [{ v := ErrV ea, recovered := false }]

theorem demand_true (w : World) : Calls Tryd.prog 23 #[.bool true] w fun e w' => e = .returned (.tuple #[]) ∧ w = w' := by
 have hnot : ∀ (x : Bool) (w : World), (Op.unary .not (.bool x)).run Tryd.prog w = .ok (.bool (!x)) w := fun _ _ => rfl
 go_enter Tryd.func23, Tryd.ntmps23
 go_wp2
 go_end0
 exact ⟨rfl, rfl⟩

theorem demand_false (ea : Addr) (w : World) (h : ErrIs ea w) : Calls Tryd.prog 23 #[.bool false] w fun e w' => e = .panicked (boom ea) ∧ w = w' := by
 have hc : w.cell? ⟨0, 0, none⟩ = some (.iface 114 (.pointer (some ea))) := h
 go_enter Tryd.func23, Tryd.ntmps23
 go_wp2
 exact ⟨rfl, rfl, rfl⟩

theorem run_demand (args : Array Value) (w : World) : (callFunc 23 args).run Tryd.prog w = .ok (.enter 23 args) w := by go_simp
end
section
open Go.RowKit

theorem roomB {n m : Nat} (h : n + m ≤ 8388608) : n + m ≤ maxLen ∧ (n + m) * 1 ≤ 140737488355328 := ⟨by unfold maxLen; omega, by omega⟩

theorem formsOf_any (ea : Addr) (v : Value) (l : List Int) (w : World) (h : Row w v l.length (flatI l)) (hn : l.length ≤ 1000) (he : ErrIs ea w) :
  Calls Tryd.prog 17 #[v] w fun e w' => Below w.heap.size w w' ∧ ((okNums l ∧ ∃ v', e = .returned v' ∧ OwnB w.heap.size w' v' (formsB l)) ∨ (¬ okNums l ∧ e = .panicked (boom ea))) := by
 obtain ⟨a, b, off, cap, rfl, hcap, hmax, ha, hk⟩ := h.nums
 obtain ⟨i0, hi, hz0, hz1, hz2⟩ := info_parts Tryd.infoByte
 unfold maxLen at hmax
 have E0 : Hid (OwnB w.heap.size w (.slice none 0 0) []) := ⟨rfl, .inl ⟨rfl, rfl⟩⟩
 have HE : Hid (ErrIs ea w) := he
 clear h he
 go_enter Tryd.func17, Tryd.ntmps17
 go_wp2
 go_loopw [3, 9] (fun o i wr => ∃ k : Nat, k ≤ l.length ∧ i = .int .i64 k ∧ okNums (l.take k) ∧ OwnB w.heap.size wr o (formsB (l.take k)) ∧ Below w.heap.size w wr)
  (fun _ i _ => l.length - (intOf i).toNat)
 case atStart => exact ⟨0, Nat.zero_le _, rfl, fun x hx => by simp at hx, by simpa [formsB] using E0.out, Below.refl _ _⟩
 case round =>
  obtain ⟨k, hkl, rfl, hok, hown, hb⟩ := hrel
  obtain ⟨av, cv, rfl, _, _⟩ := owns_shape hown
  have OW : Hid _ := And.intro hown (And.intro hok hb)
  clear hok
  by_cases hlt : k < l.length
  ·have hal := ha (by omega)
   subst hal
   have d0 : wr.cell? ⟨b, off + k, none⟩ = some (.int .i64 (iAt l k)) := (hb.cell (by exact cell_lt (hk k hlt))).trans (hk k hlt)
   have FSu : Hid _ := formsB_succ l k hlt
   have OK1 : Hid _ := fun h => okNums_take (l := l) (k := k) OW.out.2.1 hlt h
   have OK2 : Hid _ := fun h => okNums_not (l := l) (k := k) hlt h
   have hDl : (formsB (l.take k)).length ≤ 5000 := by have := formsB_length (l.take k); simp at this; omega
   generalize iAt l k = x at *
   generalize formsB (l.take k) = D at *
   clear hk ha hown hb
   go_wp2_with fail
   refine (implPutNum_any x _).mono ?_
   rintro e w1 ⟨v1, rfl, o1, b1⟩
   have R1 : Row w1 v1 (putN x).length (flatB (putN x)) := Row.of_owns o1
   have hPl := putN_length x
   obtain ⟨a1, q1, rfl, _, hq1⟩ := owns_shape o1
   have B1 : Hid (Below w.heap.size w w1) := OW.out.2.2.trans (b1.mono OW.out.2.2.size)
   have O1 : Hid (OwnB w.heap.size w1 (.slice av D.length cv) D ∧ Row w1 (.slice a1 (putN x).length q1) (putN x).length (flatB (putN x))) := ⟨owns_below OW.out.1 b1, R1⟩
   clear o1 b1 R1
   by_cases hx : -2000000000 ≤ x ∧ x ≤ 2000000000
   ·have hpos : 0 < (putN x).length := by
     rcases Nat.eq_zero_or_pos (putN x).length with h0 | h0
     ·exact absurd hx (fun hx => by rw [putN_in hx.1 hx.2] at h0; have := sevens_pos 4 (codeN x); omega)
     ·exact h0
    have N1 : Hid _ := OK1.out hx
    have BS := B1.out.size
    have HX : Hid _ := hx
    have HR : Hid _ := roomB (n := D.length) (m := (putN x).length) (by omega)
    clear hx OK1 OK2
    generalize hp : putN x = P at *
    go_wp2_with fail
    refine (demand_true _).mono ?_
    rintro e w2 ⟨rfl, rfl⟩
    go_wp2_with (at_builtin; refine app_row w1 rfl _ _ 22 rfl w.heap.size 5 i0 _ 1 1 Tryd.underlying22 hi hz0 hz1 hz2 rfl (by decide) (.slice av D.length cv) D.length (flatB D) rfl O1.out.1 (.slice a1 P.length q1) P.length (flatB P) rfl O1.out.2 (by rw [flatB_length]; omega) (flatB_one _) HR.out.1 HR.out.2 BS ?_)
    intro v' w3 ho3 _ hb3
    have O3 : OwnB w.heap.size w3 v' (D ++ P) := by
     unfold OwnB; rw [flatB_append]; simpa using ho3
    have PP : Hid _ := And.intro O3 (B1.out.trans hb3)
    clear ho3 hb3 O3
    go_wp2
    go_roundw
    case rel => exact ⟨k + 1, by omega, by go_num, N1.out, by rw [FSu.out]; exact PP.out.1, PP.out.2⟩
    case measure => simp [intOf]; omega
   ·have h0 : (putN x).length = 0 := by rw [putN_out hx]; rfl
    have NO : Hid _ := OK2.out hx
    have HE1 : Hid (ErrIs ea w1) := HE.out.below (by exact B1.out)
    clear hx OK1 OK2
    generalize (putN x).length = L at *
    subst h0
    go_wp2_with fail
    refine (demand_false ea _ HE1.out).mono ?_
    rintro e w2 ⟨rfl, rfl⟩
    go_wp2
    exact ⟨rfl, B1.out, .inr ⟨NO.out, rfl⟩⟩
  ·have hkk : k = l.length := by omega
   subst hkk
   rw [List.take_length] at OW ⊢
   have ho := OW.out
   go_wp2
   go_ret
   exact ⟨ho.2.2, .inl ⟨ho.2.1, _, rfl, ho.1⟩⟩

theorem l5Nums_any (v : Value) (l : List Int) (w : World) (h : Row w v l.length (flatI l)) (hn : l.length ≤ 1000) :
  Calls Tryd.prog 19 #[v] w fun e w' => Below w.heap.size w w' ∧ ∃ v', (okNums l ∧ e = .returned (.tuple #[v', .bool true]) ∧ OwnB w.heap.size w' v' (formsB l)) ∨ (¬ okNums l ∧ e = .returned (.tuple #[v', .bool false]) ∧ OwnB w.heap.size w' v' []) := by
 obtain ⟨a, b, off, cap, rfl, hcap, hmax, ha, hk⟩ := h.nums
 obtain ⟨i0, hi, hz0, hz1, hz2⟩ := info_parts Tryd.infoByte
 unfold maxLen at hmax
 have e0 : OwnB w.heap.size (w.alloc (.cells #[] 5)) (.slice (some ⟨w.heap.size, 0, none⟩) 0 0) [] := empty_own w w.heap.size 5 1 (Nat.le_refl _)
 have b0 : Below w.heap.size w (w.alloc (.cells #[] 5)) := (Below.refl _ _).alloc (Nat.le_refl _) _
 have E0 : Hid _ := And.intro e0 b0
 clear h e0 b0
 go_enter Tryd.func19, Tryd.ntmps19
 go_wp2
 go_loopw [4, 5] (fun o i wr => ∃ k : Nat, k ≤ l.length ∧ i = .int .i64 k ∧ okNums (l.take k) ∧ OwnB w.heap.size wr o (formsB (l.take k)) ∧ Below w.heap.size w wr)
  (fun _ i _ => l.length - (intOf i).toNat)
 case atStart => exact ⟨0, Nat.zero_le _, rfl, fun x hx => by simp at hx, by simpa [formsB] using E0.out.1, E0.out.2⟩
 case round =>
  obtain ⟨k, hkl, rfl, hok, hown, hb⟩ := hrel
  obtain ⟨av, cv, rfl, _, _⟩ := owns_shape hown
  have OW : Hid _ := And.intro hown (And.intro hok hb)
  clear hok
  by_cases hlt : k < l.length
  ·have hal := ha (by omega)
   subst hal
   have d0 : wr.cell? ⟨b, off + k, none⟩ = some (.int .i64 (iAt l k)) := (hb.cell (by exact cell_lt (hk k hlt))).trans (hk k hlt)
   have FSu : Hid _ := formsB_succ l k hlt
   have OK1 : Hid _ := fun h => okNums_take (l := l) (k := k) OW.out.2.1 hlt h
   have OK2 : Hid _ := fun h => okNums_not (l := l) (k := k) hlt h
   have hDl : (formsB (l.take k)).length ≤ 5000 := by have := formsB_length (l.take k); simp at this; omega
   generalize iAt l k = x at *
   generalize formsB (l.take k) = D at *
   clear hk ha hown hb
   go_wp2_with fail
   refine (specPutNum_any x _).mono ?_
   rintro e w1 ⟨v1, rfl, o1, b1⟩
   have R1 : Row w1 v1 (putN x).length (flatB (putN x)) := Row.of_owns o1
   have hPl := putN_length x
   obtain ⟨a1, q1, rfl, _, hq1⟩ := owns_shape o1
   have B1 : Hid (Below w.heap.size w w1) := OW.out.2.2.trans (b1.mono OW.out.2.2.size)
   have O1 : Hid (OwnB w.heap.size w1 (.slice av D.length cv) D ∧ Row w1 (.slice a1 (putN x).length q1) (putN x).length (flatB (putN x))) := ⟨owns_below OW.out.1 b1, R1⟩
   clear o1 b1 R1
   by_cases hx : -2000000000 ≤ x ∧ x ≤ 2000000000
   ·have hpos : 0 < (putN x).length := by
     rcases Nat.eq_zero_or_pos (putN x).length with h0 | h0
     ·exact absurd hx (fun hx => by rw [putN_in hx.1 hx.2] at h0; have := sevens_pos 4 (codeN x); omega)
     ·exact h0
    have N1 : Hid _ := OK1.out hx
    have BS := B1.out.size
    have HX : Hid _ := hx
    have HR : Hid _ := roomB (n := D.length) (m := (putN x).length) (by omega)
    have hne : (((putN x).length : Int) == 0) = false := by rw [beq_eq_false_iff_ne]; omega
    clear hx OK1 OK2
    generalize hp : putN x = P at *
    go_wp2_with (at_builtin; refine app_row w1 rfl _ _ 22 rfl w.heap.size 5 i0 _ 1 1 Tryd.underlying22 hi hz0 hz1 hz2 rfl (by decide) (.slice av D.length cv) D.length (flatB D) rfl O1.out.1 (.slice a1 P.length q1) P.length (flatB P) rfl O1.out.2 (by rw [flatB_length]; omega) (flatB_one _) HR.out.1 HR.out.2 BS ?_)
    intro v' w3 ho3 _ hb3
    have O3 : OwnB w.heap.size w3 v' (D ++ P) := by
     unfold OwnB; rw [flatB_append]; simpa using ho3
    have PP : Hid _ := And.intro O3 (B1.out.trans hb3)
    clear ho3 hb3 O3
    go_wp2
    go_roundw
    case rel => exact ⟨k + 1, by omega, by go_num, N1.out, by rw [FSu.out]; exact PP.out.1, PP.out.2⟩
    case measure => simp [intOf]; omega
   ·have h0 : (putN x).length = 0 := by rw [putN_out hx]; rfl
    have NO : Hid _ := OK2.out hx
    have F0 : Hid (OwnB w.heap.size (w1.alloc (.cells #[] 5)) (.slice (some ⟨w1.heap.size, 0, none⟩) 0 0) [] ∧ Below w.heap.size w (w1.alloc (.cells #[] 5))) := ⟨empty_own w1 w.heap.size 5 1 B1.out.size, B1.out.alloc B1.out.size _⟩
    clear hx OK1 OK2
    generalize (putN x).length = L at *
    subst h0
    go_wp2
    refine bodyPost_ret (v := .tuple #[.slice (some ⟨w1.heap.size, 0, none⟩) 0 0, .bool false]) (by simp [results, Tryd.results19, go_sem]) rfl ⟨F0.out.2, _, .inr ⟨NO.out, rfl, F0.out.1⟩⟩
  ·have hkk : k = l.length := by omega
   subst hkk
   rw [List.take_length] at OW ⊢
   have ho : Hid _ := OW.out
   clear OW hown hb
   go_wp2
   refine bodyPost_ret (v := .tuple #[.slice av (formsB l).length cv, .bool true]) (by simp [results, Tryd.results19, go_sem]) rfl ⟨ho.out.2.2, _, .inl ⟨ho.out.2.1, rfl, ho.out.1⟩⟩
end
end Go.Proofs.YtbmcojelgbkafaaDoor

namespace Go.Proofs.YtbmcojelgbkafaaDoor
end Go.Proofs.YtbmcojelgbkafaaDoor
