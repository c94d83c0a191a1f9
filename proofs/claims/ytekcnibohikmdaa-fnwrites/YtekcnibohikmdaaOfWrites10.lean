/-
  A region that draws its order and whose last operation waits for all others: that one may be kept for the end.
  A region that draws its order: operations that only make memory may come at any time; the walk takes them first, and bears that new blocks appear between its steps.
-/
import Derived.Test.YtekcnibohikmdaaOfWrites9
import Derived.Deep.RegionHeld3
namespace Go.Proofs.Ytekcnibohikmdaa
set_option maxRecDepth 100000
set_option maxHeartbeats 8000000
section
open Go.RowKit

theorem tk {P : Program} {ops : Array Oper} {Q : Exit → Act → World → Prop} {md : Region.Mode} {S : World → Prop} (i : Nat) {oi : Oper} {v : Value} {fuel : Nat} {listed : Array Bool} {a : Act} {w : World} (hi : ops[i]? = some oi)
  (hc : (Region.noSelect ops && Region.free md ops listed i && (Region.ready md ops listed).contains i) = true)
  (hQ : ∀ c a w, Q (.panic c) (a.put oi.dst v) w → Q (.panic c) a w) (hy : YieldsIf P ops S oi v a) (hS : S w)
  (h : wpAnyH P md ops Q S fuel (listed.setIfInBounds i true) (a.put oi.dst v) w) : wpAnyH P md ops Q S (fuel + 1) listed a w := by
 simp only [Bool.and_eq_true] at hc
 exact wpAnyH_take hi hc.1.1 hc.1.2 hc.2 hQ hy hS h
theorem tq {P : Program} {ops : Array Oper} {Q : Exit → Act → World → Prop} {md : Region.Mode} {S : World → Prop} (i : Nat) {d o t p af g} {v : Value} {fuel : Nat} {listed : Array Bool} {a : Act} {w : World}
  (hi : ops[i]? = some ⟨d, o, t, p, af, g⟩) (hc : (Region.noSelect ops && Region.free md ops listed i && (Region.ready md ops listed).contains i) = true)
  (hQ : ∀ c a w, Q (.panic c) (a.put d v) w → Q (.panic c) a w) (hS : S w) (hw : Region.wanted ⟨d, o, t, p, af, g⟩ (yielded ops a.tmps) = true)
  (hr : ∀ w, S w → (execOp a.eval ⟨d, o, t, p, af, g⟩).run P w = .ok (.value v) w)
  (h : wpAnyH P md ops Q S fuel (listed.setIfInBounds i true) (a.put d v) w) : wpAnyH P md ops Q S (fuel + 1) listed a w := tk i hi hc hQ (.inl ⟨hw, hr⟩) hS h
theorem rq {P : Program} {ops : Array Oper} {Q : Exit → Act → World → Prop} {md : Region.Mode} {S : World → Prop} (i : Nat) {d o t p af g} {fuel : Nat} {listed : Array Bool} {a : Act} {w : World}
  (hr : Region.ready md ops listed = [i]) (ho : ops[i]? = some ⟨d, o, t, p, af, g⟩)
  (h : ∀ K' : Act → World → Prop, Shut (∀ a w, S w → (S w → wpAnyH P md ops Q S fuel (listed.setIfInBounds i true) a w) → K' a w) → if Region.wanted ⟨d, o, t, p, af, g⟩ (yielded ops a.tmps) = true then Oper.wp P ⟨d, o, t, p, af, g⟩ a w K' Q else K' (a.put d undef) w) : wpAnyH P md ops Q S (fuel + 1) listed a w := wpAnyH_ready hr (by simp) (AllReadyH.cons ho h AllReadyH.nil)
theorem sA {α : Type} (l : List α) (i : Nat) (x : α) : l.toArray.setIfInBounds i x = (l.set i x).toArray := List.setIfInBounds_toArray ..
theorem sB {α : Type} (a : α) (l : List α) (x : α) : (a :: l).set 0 x = x :: l := List.set_cons_zero
theorem sC {α : Type} (a : α) (l : List α) (n : Nat) (x : α) : (a :: l).set (n + 1) x = a :: l.set n x := List.set_cons_succ

def LastQ (P : Program) (st : Oper) (Q : Exit → Act → World → Prop) : Exit → Act → World → Prop
 | .normal, a, w => st.wp P a w (Q .normal) Q
 | e, a, w => Q e a w

theorem upon_last {P : Program} {o st : Oper} {a : Act} {K : Act → World → Prop} {Q : Exit → Act → World → Prop} {r : Result Next} (h : o.upon P a K (LastQ P st Q) r) : o.upon P a K Q r := by
 cases r with
 | ok n w' =>
  cases n <;> simp only [Oper.upon] at h ⊢
  case value v => exact h
  case skip => exact h
  case defer d => exact h
  case row row args => exact h
  case enter f args =>
   refine Calls.mono h fun e w'' he => ?_
   cases e with
   | returned u => exact he
   | panicked c => exact he
   | outgrown => obtain ⟨a, w, h⟩ := he; exact ⟨a, w, h⟩
 | halt x w' =>
  cases x <;> simp only [Oper.upon] at h ⊢
  case panic u => exact h
theorem wpOp_last {P : Program} {ops ops' : Array Oper} {st o : Oper} {i : Nat} {a : Act} {w : World} {K : Act → World → Prop} {Q : Exit → Act → World → Prop} (ho : ops[i]? = some o) (ho' : ops'[i]? = some o) (hg : o.guard = none)
  (h : wpOp P ops (LastQ P st Q) i K a w) : wpOp P ops' Q i K a w := by
 unfold wpOp at *
 simp only [ho, ho'] at *
 have hw : ∀ y, Region.wanted o y = true := fun y => by simp [Region.wanted, hg]
 rw [hw] at h ⊢
 simp only [if_true] at *
 rcases h with h | ⟨h1, a', w', h2⟩
 ·exact .inl (upon_last h)
 ·exact .inr ⟨h1, a', w', h2⟩

def lastB (l : List Oper) (st : Oper) : Bool :=
 (List.range l.length).all (fun i => match l[i]? with
  | some o => o.guard.isNone && o.after.toList.all fun e => decide (e.on < i)
  | none => false) && (st.guard.isNone && ((List.range l.length).all (fun i => st.after.toList.any fun e => Region.binds .any e && decide (e.on = i)) && st.after.toList.all fun e => decide (e.on < l.length)))

variable {P : Program} {l : List Oper} {st : Oper} {Q : Exit → Act → World → Prop}

theorem lastB_parts (h : lastB l st = true) : (∀ (i : Nat) (o : Oper), l[i]? = some o → o.guard = none ∧ ∀ e ∈ o.after, e.on < i) ∧ st.guard = none ∧ (∀ i, i < l.length → ∃ e ∈ st.after, Region.binds .any e = true ∧ e.on = i) ∧ ∀ e ∈ st.after, e.on < l.length := by
 simp only [lastB, Bool.and_eq_true, List.all_eq_true, List.mem_range, List.any_eq_true, decide_eq_true_eq] at h
 obtain ⟨h1, h2, h3, h4⟩ := h
 refine ⟨fun i o ho => ?_, by simpa using h2, fun i hi => ?_, fun e he => h4 e (by simpa using he)⟩
 ·have := h1 i (List.getElem?_eq_some_iff.1 ho).1
  rw [ho] at this
  simp only [Bool.and_eq_true, List.all_eq_true, decide_eq_true_eq] at this
  exact ⟨by simpa using this.1, fun e he => this.2 e (by simpa using he)⟩
 ·obtain ⟨e, he, hb, hon⟩ := h3 i hi
  exact ⟨e, by simpa using he, hb, hon⟩

theorem all_listed (h : ∀ (i : Nat) (o : Oper), l[i]? = some o → o.guard = none ∧ ∀ e ∈ o.after, e.on < i) {listed : Array Bool} (hs : listed.size = l.length) (hr : Region.ready .any l.toArray listed = []) : ∀ i, i < l.length → listed.getD i false = true := by
 intro i
 induction i using Nat.strongRecOn with
 | ind i ih =>
  intro hi
  rcases hb : listed.getD i false with _ | _
  ·exfalso
   have hm : i ∈ Region.ready .any l.toArray listed := by
    rw [mem_ready]
    refine ⟨?_, l[i], by simp [hi], fun e he _ => ih e.on ((h i l[i] (by simp [hi])).2 e he) (Nat.lt_trans ((h i l[i] (by simp [hi])).2 e he) hi)⟩
    have : i < listed.size := by omega
    simp [this] at hb ⊢
    exact hb
   rw [hr] at hm
   cases hm
  ·rfl

theorem getD_push {listed : Array Bool} {i : Nat} (d : Bool) (hi : i < listed.size) : (listed.push false).getD i d = listed.getD i d := by
 simp [Array.getElem?_push, Nat.ne_of_lt hi]
theorem push_set {listed : Array Bool} {i : Nat} (hi : i < listed.size) : (listed.push false).setIfInBounds i true = (listed.setIfInBounds i true).push false := by
 apply Array.ext'
 simp only [Array.toList_setIfInBounds, Array.toList_push]
 rw [List.set_append_left _ _ (by simpa using hi)]

theorem ready_push (h : lastB l st = true) {listed : Array Bool} (hs : listed.size = l.length) {i : Nat} (hi : i < l.length) (hm : i ∈ Region.ready .any (l ++ [st]).toArray (listed.push false)) : i ∈ Region.ready .any l.toArray listed := by
 rw [mem_ready] at *
 obtain ⟨h0, o, ho, hall⟩ := hm
 rw [getD_push true (by omega)] at h0
 have ho' : l[i]? = some o := by
  rw [List.getElem?_toArray, List.getElem?_append_left hi] at ho
  exact ho
 refine ⟨h0, o, by simpa using ho', fun e he hb => ?_⟩
 have := hall e he hb
 rw [getD_push false (by have := ((lastB_parts h).1 i o ho').2 e he; omega)] at this
 exact this

theorem wpAny_last (h : lastB l st = true) : ∀ (fuel : Nat) (listed : Array Bool) (a : Act) (w : World), listed.size = l.length → wpAny P .any l.toArray (LastQ P st Q) fuel listed a w → wpAny P .any (l ++ [st]).toArray Q (fuel + 1) (listed.push false) a w := by
 obtain ⟨p1, p2, p3, p4⟩ := lastB_parts h
 intro fuel
 induction fuel with
 | zero =>
  intro listed a w hs hw
  have hall := all_listed p1 hs hw.1
  refine ⟨fun h0 => ?_, fun i hi => ?_⟩
  ·exfalso
   have hm : l.length ∈ Region.ready .any (l ++ [st]).toArray (listed.push false) := by
    rw [mem_ready]
    refine ⟨by simp [← hs], st, by simp, fun e he _ => ?_⟩
    rw [getD_push false (by have := p4 e he; omega)]
    exact hall _ (p4 e he)
   rw [h0] at hm
   cases hm
  ·by_cases hil : i < l.length
   ·have := ready_push h hs hil hi
    rw [hw.1] at this
    cases this
   ·have hin : i = l.length := by
     obtain ⟨_, o, ho, _⟩ := mem_ready.1 hi
     have := (Array.getElem?_eq_some_iff.1 ho).1
     simp at this
     omega
    subst hin
    have hq : st.wp P a w (Q .normal) Q := hw.2
    unfold wpOp
    have hst : (l ++ [st]).toArray[l.length]? = some st := by simp
    simp only [hst]
    rw [if_pos (by simp [Region.wanted, p2])]
    refine .inl (Oper.wp_mono (fun a' w' hq' => ?_) hq)
    refine ⟨List.filter_eq_nil_iff.2 fun j hj => ?_, hq'⟩
    have hj' : j < l.length + 1 := by simpa using hj
    have : ((listed.push false).setIfInBounds l.length true).getD j true = true := by
     by_cases hjl : j = l.length
     ·subst hjl; simp
     ·rw [getD_set_ne true (Ne.symm hjl), getD_push true (by omega)]
      have := hall j (by omega)
      have hlt : j < listed.size := by omega
      simp [hlt] at this ⊢
      exact this
    rw [this]
    simp
 | succ fuel ih =>
  intro listed a w hs hw
  refine ⟨fun h0 => ?_, fun i hi => ?_⟩
  ·exfalso
   have hr : Region.ready .any l.toArray listed = [] := by
    rw [List.eq_nil_iff_forall_not_mem]
    intro i hi
    have hil : i < l.length := by
     obtain ⟨_, o, ho, _⟩ := mem_ready.1 hi
     have := (Array.getElem?_eq_some_iff.1 ho).1
     simpa using this
    have hm : i ∈ Region.ready .any (l ++ [st]).toArray (listed.push false) := by
     rw [mem_ready] at *
     obtain ⟨h1, o, ho, hall⟩ := hi
     have ho' : l[i]? = some o := by simpa using ho
     refine ⟨by rw [getD_push true (by omega)]; exact h1, o, by rw [List.getElem?_toArray, List.getElem?_append_left hil]; exact ho', fun e he hb => ?_⟩
     rw [getD_push false (by have := (p1 i o ho').2 e he; omega)]
     exact hall e he hb
    rw [h0] at hm
    cases hm
   have hall := all_listed p1 hs hr
   have hm : l.length ∈ Region.ready .any (l ++ [st]).toArray (listed.push false) := by
    rw [mem_ready]
    refine ⟨by simp [← hs], st, by simp, fun e he _ => ?_⟩
    rw [getD_push false (by have := p4 e he; omega)]
    exact hall _ (p4 e he)
   rw [h0] at hm
   cases hm
  ·by_cases hil : i < l.length
   ·have hm := ready_push h hs hil hi
    have h1 := hw.2 i hm
    have ho : l.toArray[i]? = some l[i] := by simp [hil]
    have ho' : (l ++ [st]).toArray[i]? = some l[i] := by rw [List.getElem?_toArray, List.getElem?_append_left hil]; simp [hil]
    have h2 := wpOp_last ho ho' (p1 i l[i] (by simp [hil])).1 h1
    refine wpOp_mono (fun a' w' h3 => ?_) h2
    rw [push_set (by omega)]
    exact ih _ a' w' (by simpa using hs) h3
   ·have hin : i = l.length := by
     obtain ⟨_, o, ho, _⟩ := mem_ready.1 hi
     have := (Array.getElem?_eq_some_iff.1 ho).1
     simp at this
     omega
    subst hin
    have hall : ∀ j, j < l.length → listed.getD j false = true := by
     intro j hj
     obtain ⟨e, he, hb, hon⟩ := p3 j hj
     obtain ⟨_, o, ho, hx⟩ := mem_ready.1 hi
     have : o = st := by simpa using ho.symm
     subst this
     have := hx e he hb
     rw [getD_push false (by have := p4 e he; omega), hon] at this
     exact this
    have hr : Region.ready .any l.toArray listed = [] := by
     rw [List.eq_nil_iff_forall_not_mem]
     intro j hj
     obtain ⟨h1, o, ho, _⟩ := mem_ready.1 hj
     have hjl : j < l.length := by
      have := (Array.getElem?_eq_some_iff.1 ho).1
      simpa using this
     have := hall j hjl
     have hlt : j < listed.size := by omega
     simp [hlt] at this h1
     rw [h1] at this
     cases this
    have hq : st.wp P a w (Q .normal) Q := hw.1 hr
    unfold wpOp
    have hst : (l ++ [st]).toArray[l.length]? = some st := by simp
    simp only [hst]
    rw [if_pos (by simp [Region.wanted, p2])]
    refine .inl (Oper.wp_mono (fun a' w' hq' => ?_) hq)
    refine wpAny_done (List.filter_eq_nil_iff.2 fun j hj => ?_) hq' _
    have hj' : j < l.length + 1 := by simpa using hj
    have : ((listed.push false).setIfInBounds l.length true).getD j true = true := by
     by_cases hjl : j = l.length
     ·subst hjl; simp [hs]
     ·rw [getD_set_ne true (Ne.symm hjl), getD_push true (by omega)]
      have := hall j (by omega)
      have hlt : j < listed.size := by omega
      simp [hlt] at this ⊢
      exact this
    rw [this]
    simp

theorem wp_region_last {id : Nat} {ops : Array Oper} {a : Act} {w : World} (S : World → Prop) (l : List Oper) (st : Oper) (hops : ops = (l ++ [st]).toArray) (hm : P.follows .mixedOrders = true) (h : lastB l st = true)
  (H : wpAnyH P .any l.toArray (LastQ P st Q) S l.length (Array.replicate l.length false) a w.drew) : (Code.region id ops true).wp P Q a w := by
 subst hops
 refine wp_region_any hm ?_
 have h1 := wpAny_last (Q := Q) h l.length (Array.replicate l.length false) a w.drew (by simp) (wpAny_of_held _ _ _ _ H)
 have e : (Array.replicate l.length false).push false = Array.replicate (l ++ [st]).toArray.size false := by
  apply Array.ext'
  simp [← List.replicate_succ']
 rw [e] at h1
 have e2 : (l ++ [st]).toArray.size = l.length + 1 := by simp
 rw [e2] at h1 ⊢
 exact h1
end
section
open Go.RowKit

def Later (w w' : World) : Prop := Below w.heap.size w w'
theorem Later.refl (w : World) : Later w w := Below.refl _ _
theorem Later.trans {a b c : World} (h : Later a b) (k : Later b c) : Later a c := Below.and h k

variable {P : Program} {ops : Array Oper} {Q : Exit → Act → World → Prop} {S : World → Prop}

def wpR (P : Program) (ops : Array Oper) (Q : Exit → Act → World → Prop) (S : World → Prop) : Nat → Array Bool → Act → World → Prop
 | 0, listed, a, w => ∀ w', Later w w' → S w' → Region.ready .any ops listed = [] ∧ Q .normal a w'
 | f + 1, listed, a, w => ∀ w', Later w w' → S w' → (Region.ready .any ops listed = [] → Q .normal a w') ∧
   ∀ i ∈ Region.ready .any ops listed, wpOp P ops Q i (fun a' w'' => S w'' ∧ wpR P ops Q S f (listed.setIfInBounds i true) a' w'') a w'

theorem wpR.later : ∀ {f : Nat} {listed : Array Bool} {a : Act} {w u : World}, wpR P ops Q S f listed a w → Later w u → wpR P ops Q S f listed a u
 | 0, _, _, _, _, h, k => fun w' hw hS => h w' (k.trans hw) hS
 | _ + 1, _, _, _, _, h, k => fun w' hw hS => h w' (k.trans hw) hS
theorem wpR.held : ∀ {f : Nat} {listed : Array Bool} {a : Act} {w : World}, wpR P ops Q S f listed a w → S w → wpAnyH P .any ops Q S f listed a w
 | 0, _, _, w, h, hS => h w (Later.refl w) hS
 | f + 1, _, _, w, h, hS => by
  obtain ⟨h1, h2⟩ := h w (Later.refl w) hS
  exact ⟨h1, fun i hi => wpOp_mono (fun a' w' k => ⟨k.1, k.2.held k.1⟩) (h2 i hi)⟩

def plainB (o : Oper) : Bool :=
 match o.op with
 | .move _ | .assign _ | .alloc _ | .build _ _ | .buildSlice _ _ _ | .load _ _ | .store _ _ _ | .binOp _ _ _ _ _ | .slice _ _ _ _ _ | .fieldAddr _ _ _ | .indexAddr _ _ _ => true
 | .call c => match c.callee with
  | .builtin .append => true
  | _ => false
 | _ => false
theorem plain_run {o : Oper} (h : plainB o = true) (ρ : Operand → Value) (w : World) : (∃ v w', (execOp ρ o).run P w = .ok (.value v) w') ∨ (∃ w', (execOp ρ o).run P w = .ok .skip w') ∨ ∃ x w', (execOp ρ o).run P w = .halt x w' := by
 have key : ∀ s : Sem Value, (∃ v w', (do pure (Next.value (← s)) : Sem Next).run P w = .ok (.value v) w') ∨ (∃ w', (do pure (Next.value (← s)) : Sem Next).run P w = .ok .skip w') ∨ ∃ x w', (do pure (Next.value (← s)) : Sem Next).run P w = .halt x w' := by
  intro s
  simp only [Sem.run_bind, Sem.run_pure]
  cases s.run P w with
  | ok v w' => exact .inl ⟨v, w', rfl⟩
  | halt x w' => exact .inr (.inr ⟨x, w', rfl⟩)
 have key2 : ∀ s : Sem Unit, (∃ v w', (do s; pure Next.skip : Sem Next).run P w = .ok (.value v) w') ∨ (∃ w', (do s; pure Next.skip : Sem Next).run P w = .ok .skip w') ∨ ∃ x w', (do s; pure Next.skip : Sem Next).run P w = .halt x w' := by
  intro s
  simp only [Sem.run_bind, Sem.run_pure]
  cases s.run P w with
  | ok v w' => exact .inr (.inl ⟨w', rfl⟩)
  | halt x w' => exact .inr (.inr ⟨x, w', rfl⟩)
 obtain ⟨d, op, ty, pos, aft, g⟩ := o
 cases op <;> simp only [plainB] at h <;> try (exact absurd h (by decide))
 case move x => exact .inl ⟨_, w, rfl⟩
 case assign x => exact .inl ⟨_, w, rfl⟩
 case alloc e => exact key _
 case build t p => exact key _
 case buildSlice t l p => exact key _
 case load t x => exact key _
 case store t x y => exact key2 _
 case binOp => exact key _
 case slice => exact key _
 case fieldAddr => exact key _
 case indexAddr => exact key _
 case call c =>
  obtain ⟨callee, args, ats⟩ := c
  cases callee <;> simp only at h <;> try (exact absurd h (by decide))
  case builtin b =>
   cases b <;> simp only at h <;> try (exact absurd h (by decide))
   have : execOp ρ ⟨d, .call ⟨.builtin .append, args, ats⟩, ty, pos, aft, g⟩ = (do pure (Next.value (← Builtin.append_ ats ty (args.map ρ))) : Sem Next) := by
    simp [execOp, resolve, invoke, builtin]
   rw [this]
   exact key _

theorem plain_nosel {o : Oper} (h : plainB o = true) : ∀ cs b, o.op ≠ .select cs b := by
 intro cs b e
 simp [plainB, e] at h

theorem wpR_float {i : Nat} {oi : Oper} {R : Value → Prop} (hi : ops[i]? = some oi) (hp : ∀ (j : Nat) (o : Oper), ops[j]? = some o → o.guard = none ∧ plainB o = true)
  (hQ : ∀ c v a w, Q (.panic c) (a.put oi.dst v) w → Q (.panic c) a w) :
  ∀ (fuel : Nat) (listed : Array Bool) (a : Act) (w : World),
   (∀ j oj, ops[j]? = some oj → j ≠ i → listed.getD j true = false → (∀ e ∈ oj.after, Region.binds .any e = true → e.on ≠ i) → oi.apart ops oj = true) →
   i ∈ Region.ready .any ops listed → (∀ w', S w' → ∃ v u, (execOp a.eval oi).run P w' = .ok (.value v) u ∧ R v ∧ Later w' u ∧ S u) →
   (∀ v, R v → wpR P ops Q S fuel (listed.setIfInBounds i true) (a.put oi.dst v) w) → wpR P ops Q S (fuel + 1) listed a w := by
 have hw : ∀ (o : Oper), o.guard = none → ∀ y, Region.wanted o y = true := fun o h y => by simp [Region.wanted, h]
 have hself : ∀ (fuel : Nat) (listed : Array Bool) (a : Act) (w w' : World), (∀ w', S w' → ∃ v u, (execOp a.eval oi).run P w' = .ok (.value v) u ∧ R v ∧ Later w' u ∧ S u) → (∀ v, R v → wpR P ops Q S fuel (listed.setIfInBounds i true) (a.put oi.dst v) w) → Later w w' → S w' →
   wpOp P ops Q i (fun a' w'' => S w'' ∧ wpR P ops Q S fuel (listed.setIfInBounds i true) a' w'') a w' := by
  intro fuel listed a w w' hrun H hl hS
  obtain ⟨v, u, hr, hR, hu, hSu⟩ := hrun w' hS
  unfold wpOp
  simp only [hi]
  rw [if_pos (hw oi (hp i oi hi).1 _)]
  refine .inl ?_
  unfold Oper.wp
  rw [hr]
  exact ⟨hSu, (H v hR).later (hl.trans hu)⟩
 intro fuel
 induction fuel with
 | zero =>
  intro listed a w _ hr hrun H w' hl hS
  refine ⟨fun h => (by rw [h] at hr; cases hr), fun j hj => ?_⟩
  by_cases hji : j = i
  ·subst hji; exact hself 0 listed a w w' hrun H hl hS
  ·obtain ⟨v, u, _, hR, _⟩ := hrun w' hS
   have h1 := (H v hR w' hl hS).1
   have := ready_mono hj hji
   rw [h1] at this
   cases this
 | succ fuel ih =>
  intro listed a w hfree hr hrun H w' hl hS
  refine ⟨fun h => (by rw [h] at hr; cases hr), fun j hj => ?_⟩
  by_cases hji : j = i
  ·subst hji; exact hself (fuel + 1) listed a w w' hrun H hl hS
  ·obtain ⟨hjun, oj, hoj, hall⟩ := mem_ready.1 hj
   have hnot : ∀ e ∈ oj.after, Region.binds .any e = true → e.on ≠ i := fun e he hb heq => by
    have h1 := hall e he hb
    have h0 := (mem_ready.1 hr).1
    rw [heq] at h1
    rcases Nat.lt_or_ge i listed.size with h' | h'
    ·simp [h'] at h0 h1; rw [h0] at h1; cases h1
    ·simp [Array.getElem?_eq_none h'] at h1
   obtain ⟨h1, h2, h3⟩ := Oper.apart_spec (hfree j oj hoj hji hjun hnot)
   have hsj := plain_nosel (hp j oj hoj).2
   have hsi := plain_nosel (hp i oi hi).2
   have hfree' : ∀ k ok, ops[k]? = some ok → k ≠ i → (listed.setIfInBounds j true).getD k true = false →
     (∀ e ∈ ok.after, Region.binds .any e = true → e.on ≠ i) → oi.apart ops ok = true := fun k ok hk hki hun hno => by
    refine hfree k ok hk hki ?_ hno
    by_cases hjk : j = k
    ·subst hjk; exact hjun
    ·rw [getD_set_ne true hjk] at hun; exact hun
   have hstep : ∀ v, R v → oj.wp P (a.put oi.dst v) w' (fun a' w'' => S w'' ∧ wpR P ops Q S fuel ((listed.setIfInBounds i true).setIfInBounds j true) a' w'') Q ∨ (oj.asks P (a.put oi.dst v) w' ∧ LetsOut Q) := fun v hv => by
    have := (H v hv w' hl hS).2 j (ready_mono hj hji)
    unfold wpOp at this
    simp only [hoj] at this
    rw [if_pos (hw oj (hp j oj hoj).1 _)] at this
    exact this
   unfold wpOp
   simp only [hoj]
   rw [if_pos (hw oj (hp j oj hoj).1 _)]
   by_cases hask : oj.asks P a w' ∧ LetsOut Q
   ·exact .inr hask
   refine .inl ?_
   have hstep' : ∀ v, R v → oj.upon P (a.put oi.dst v) (fun a' w'' => S w'' ∧ wpR P ops Q S fuel ((listed.setIfInBounds i true).setIfInBounds j true) a' w'') Q ((execOp a.eval oj).run P w') := fun v hv => by
    rcases hstep v hv with h | ⟨h, k⟩
    ·unfold Oper.wp at h
     rw [execOp_put oj hsj a oi.dst v h1] at h
     exact h
    ·exfalso
     apply hask
     unfold Oper.asks at *
     rw [execOp_put oj hsj a oi.dst v h1] at h
     exact ⟨h, k⟩
   have next : ∀ (u : Value) (w'' : World), (∀ v, R v → S w'' ∧ wpR P ops Q S fuel ((listed.setIfInBounds i true).setIfInBounds j true) ((a.put oi.dst v).put oj.dst u) w'') → S w'' ∧ wpR P ops Q S (fuel + 1) (listed.setIfInBounds j true) (a.put oj.dst u) w'' := by
    intro u w'' hall'
    obtain ⟨v0, _, _, hR0, _⟩ := hrun w' hS
    refine ⟨(hall' v0 hR0).1, ih (listed.setIfInBounds j true) (a.put oj.dst u) w'' hfree' (ready_mono hr (Ne.symm hji)) (fun w3 hS3 => ?_) (fun v hv => ?_)⟩
    ·rw [execOp_put oi hsi a oj.dst u h3]
     exact hrun w3 hS3
    ·have := (hall' v hv).2
     rw [Act.put_comm a v u h2, Array.setIfInBounds_comm _ _ (Ne.symm hji)] at this
     exact this
   unfold Oper.wp
   rcases plain_run (P := P) (hp j oj hoj).2 a.eval w' with ⟨u, w'', hrun'⟩ | ⟨w'', hrun'⟩ | ⟨x, w'', hrun'⟩
   ·rw [hrun'] at hstep' ⊢
    exact next u w'' (fun v hv => hstep' v hv)
   ·rw [hrun'] at hstep' ⊢
    exact next undef w'' (fun v hv => hstep' v hv)
   ·rw [hrun'] at hstep' ⊢
    obtain ⟨v0, _, _, hR0, _⟩ := hrun w' hS
    have := hstep' v0 hR0
    cases x <;> simp only [Oper.upon] at this ⊢
    case panic u => exact hQ _ _ _ _ this

def plainsB (ops : Array Oper) : Bool := ops.toList.all fun o => o.guard.isNone && plainB o
theorem plainsB_spec (h : plainsB ops = true) : ∀ (j : Nat) (o : Oper), ops[j]? = some o → o.guard = none ∧ plainB o = true := by
 intro j o ho
 unfold plainsB at h
 rw [List.all_eq_true] at h
 have := h o (by
  have := Array.mem_of_getElem? ho
  simpa using this)
 simp only [Bool.and_eq_true] at this
 exact ⟨by simpa using this.1, this.2⟩

theorem wpR_take {i : Nat} {oi : Oper} (R : Value → Prop) {fuel : Nat} {listed : Array Bool} {a : Act} {w : World} (hi : ops[i]? = some oi) (hp : plainsB ops = true) (hf : Region.free .any ops listed i = true) (hr : (Region.ready .any ops listed).contains i = true)
  (hQ : ∀ c v a w, Q (.panic c) (a.put oi.dst v) w → Q (.panic c) a w) (hrun : ∀ w', S w' → ∃ v u, (execOp a.eval oi).run P w' = .ok (.value v) u ∧ R v ∧ Later w' u ∧ S u)
  (h : ∀ v, R v → wpR P ops Q S fuel (listed.setIfInBounds i true) (a.put oi.dst v) w) : wpR P ops Q S (fuel + 1) listed a w :=
 wpR_float hi (plainsB_spec hp) hQ fuel listed a w (Region.free_spec hi hf) (by simpa using hr) hrun h

theorem wpR_one {i : Nat} {o : Oper} {fuel : Nat} {listed : Array Bool} {a : Act} {w : World} (hr : Region.ready .any ops listed = [i]) (ho : ops[i]? = some o)
  (h : ∀ w', Later w w' → S w' → ∀ K' : Act → World → Prop, Shut (∀ a w, S w → wpR P ops Q S fuel (listed.setIfInBounds i true) a w → K' a w) → if Region.wanted o (yielded ops a.tmps) = true then Oper.wp P o a w' K' Q else K' (a.put o.dst undef) w') :
  wpR P ops Q S (fuel + 1) listed a w := fun w' hl hS => ⟨fun h0 => (by rw [hr] at h0; cases h0), fun j hj => by
  rw [hr] at hj
  simp only [List.mem_singleton] at hj
  subst hj
  exact wpOp_step ho (fun K' hK => h w' hl hS K' (fun a w h1 h2 => hK a w ⟨h1, h2⟩))⟩
theorem wpR_done {listed : Array Bool} {a : Act} {w : World} (hr : Region.ready .any ops listed = []) (h : ∀ w', Later w w' → S w' → Q .normal a w') : ∀ fuel, wpR P ops Q S fuel listed a w
 | 0 => fun w' hl hS => ⟨hr, h w' hl hS⟩
 | _ + 1 => fun w' hl hS => ⟨fun _ => h w' hl hS, by rw [hr]; simp⟩
end
end Go.Proofs.Ytekcnibohikmdaa
