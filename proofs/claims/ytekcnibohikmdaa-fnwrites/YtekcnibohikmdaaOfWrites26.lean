/-
  A region that draws its order: operations that wait for one another in a row, and beside them ones that only make memory and may come at any time.
  A call in a region by the callee's contract, without a walk.
-/
import Derived.Test.YtekcnibohikmdaaOfWrites10
import Derived.Deep.RegionHeld
import Derived.Test.YtekcnibohikmdaaOfWrites1
import Derived.WalkKit
namespace Go.Proofs.Ytekcnibohikmdaa
set_option maxRecDepth 100000
set_option maxHeartbeats 8000000
section
open Go.RowKit

def Ltr (w w' : World) : Prop := Below w.heap.size w w'
theorem Ltr.refl (w : World) : Ltr w w := Below.refl _ _
theorem Ltr.trans {a b c : World} (h : Ltr a b) (k : Ltr b c) : Ltr a c := Below.and h k

abbrev It := Nat × Option (World → Value × World)
def itD (ops : Array Oper) (i : Nat) : Option Tmp := (ops[i]?).bind (·.dst)

section
variable {P : Program} {ops : Array Oper} {Q : Exit → Act → World → Prop} {S : World → Prop} {w0 : World}

def CW (P : Program) (ops : Array Oper) (Q : Exit → Act → World → Prop) (w0 : World) : List It → Act → List (Nat × Nat) → World → Prop
  | [], a, _, u => ∀ u', Ltr u u' → Q .normal a u'
  | (i, none) :: r, a, hs, u => ∀ u', Ltr u u' → ∀ o, ops[i]? = some o → o.wp P a u' (fun a' u'' => ∃ v, a' = a.put o.dst v ∧ Ltr u' u'' ∧ CW P ops Q w0 r a' ((u'.heap.size, u''.heap.size) :: hs) u'') (fun _ _ _ => False)
  | (i, some g) :: r, a, hs, u => ∀ u' u0, Ltr u u' → Ltr w0 u0 → Ltr (g u0).2 u' → (∀ p ∈ hs, (g u0).2.heap.size ≤ p.1 ∨ p.2 ≤ u0.heap.size) → CW P ops Q w0 r (a.put (itD ops i) (g u0).1) ((u0.heap.size, (g u0).2.heap.size) :: hs) u'

theorem CW.later : ∀ {r : List It} {a : Act} {hs : List (Nat × Nat)} {u v : World}, CW P ops Q w0 r a hs u → Ltr u v → CW P ops Q w0 r a hs v
  | [], _, _, _, _, h, k => fun u' l => h u' (k.trans l)
  | (_, none) :: _, _, _, _, _, h, k => fun u' l => h u' (k.trans l)
  | (_, some _) :: _, _, _, _, _, h, k => fun u' u0 l => h u' u0 (k.trans l)
theorem CW.op {i : Nat} {o : Oper} {r : List It} {a : Act} {hs : List (Nat × Nat)} {u : World} (ho : ops[i]? = some o)
    (h : ∀ u', Ltr u u' → ∀ K : Act → World → Prop, Shut (∀ v u'', Ltr u' u'' → CW P ops Q w0 r (a.put o.dst v) ((u'.heap.size, u''.heap.size) :: hs) u'' → K (a.put o.dst v) u'') → o.wp P a u' K (fun _ _ _ => False)) :
    CW P ops Q w0 ((i, none) :: r) a hs u := fun u' l o' ho' => by
  rw [ho] at ho'
  cases ho'
  exact h u' l _ (fun v u'' l' c => ⟨v, rfl, l', c⟩)

theorem CW.fl {i : Nat} {g : World → Value × World} {r : List It} {a : Act} {hs : List (Nat × Nat)} {u : World}
    (h : ∀ u' u0, Ltr u u' → Ltr w0 u0 → Ltr (g u0).2 u' → (∀ p ∈ hs, (g u0).2.heap.size ≤ p.1 ∨ p.2 ≤ u0.heap.size) → CW P ops Q w0 r (a.put (itD ops i) (g u0).1) ((u0.heap.size, (g u0).2.heap.size) :: hs) u') :
    CW P ops Q w0 ((i, some g) :: r) a hs u := h
theorem CW.last {st : Oper} {a : Act} {hs : List (Nat × Nat)} {u : World} (h : ∀ u', Ltr u u' → ∀ K : Act → World → Prop, Shut (∀ b w, Q .normal b w → K b w) → st.wp P a u' K Q) : CW P ops (LastQ P st Q) w0 [] a hs u :=
  fun u' l => h u' l _ (fun _ _ h => h)

def notSel : Op → Bool
  | .select _ _ => false
  | _ => true
theorem notSel_ne {op : Op} (h : notSel op = true) : ∀ cs b, op ≠ .select cs b := fun cs b e => by rw [e] at h; cases h

def waitsB (o : Oper) (k : Nat) : Bool := o.after.any fun e => Region.binds .any e && e.on == k
def chkC (ops : Array Oper) (ds : List Nat) : List Nat → List (Nat × Bool) → Bool
  | _, [] => true
  | pend, (i, fl) :: r =>
    (match ops[i]? with
     | none => false
     | some o =>
       o.guard.isNone && notSel o.op &&
       (o.after.all fun e => !Region.binds .any e || (decide (e.on < ops.size) && !((i, fl) :: r).any (fun y => y.1 == e.on))) &&
       !(r.any fun y => y.1 == i) &&
       (match o.dst with | some d => !(r.any fun y => itD ops y.1 == some d) | none => true) &&
       (if fl then (o.looksAt ops).all (fun t => !ds.contains t)
        else pend.all (waitsB o) && (o.looksAt ops).all (fun t => !(r.any fun y => itD ops y.1 == some t)))) &&
    chkC ops ds (if fl then pend ++ [i] else [i]) r
def its (l : List It) : List (Nat × Bool) := l.map fun x => (x.1, x.2.isSome)

structure HdOk (ops : Array Oper) (ds : List Nat) (pend : List Nat) (i : Nat) (fl : Bool) (r : List (Nat × Bool)) (o : Oper) : Prop where
  gd : o.guard = none
  ns : notSel o.op = true
  af : ∀ e ∈ o.after, Region.binds .any e = true → e.on < ops.size ∧ ∀ y ∈ (i, fl) :: r, y.1 ≠ e.on
  nd : ∀ y ∈ r, y.1 ≠ i
  dd : ∀ d, o.dst = some d → ∀ y ∈ r, itD ops y.1 ≠ some d
  lf : fl = true → ∀ t ∈ o.looksAt ops, t ∉ ds
  lc : fl = false → (∀ k ∈ pend, waitsB o k = true) ∧ ∀ t ∈ o.looksAt ops, ∀ y ∈ r, itD ops y.1 ≠ some t

theorem chkC_cons {ds pend : List Nat} {i : Nat} {fl : Bool} {r : List (Nat × Bool)} (h : chkC ops ds pend ((i, fl) :: r) = true) :
    (∃ o, ops[i]? = some o ∧ HdOk ops ds pend i fl r o) ∧ chkC ops ds (if fl then pend ++ [i] else [i]) r = true := by
  rw [chkC, Bool.and_eq_true] at h
  refine ⟨?_, h.2⟩
  have h1 := h.1
  cases ho : ops[i]? with
  | none => simp [ho] at h1
  | some o =>
    simp only [ho, Bool.and_eq_true] at h1
    obtain ⟨⟨⟨⟨⟨g1, g2⟩, g3⟩, g4⟩, g5⟩, g6⟩ := h1
    refine ⟨o, rfl, ⟨by simpa using g1, g2, fun e he hb => ?_, fun y hy hi => ?_, fun d hd y hy hi => ?_, fun hf t ht => ?_, fun hf => ?_⟩⟩
    · have := (Array.all_eq_true_iff_forall_mem.1 g3) e he
      simp only [hb, Bool.not_true, Bool.false_or, Bool.and_eq_true, decide_eq_true_eq] at this
      refine ⟨this.1, fun y hy hi => ?_⟩
      have h2 := this.2
      rw [Bool.not_eq_true', List.any_eq_false] at h2
      exact h2 y hy (by simpa using hi)
    · rw [Bool.not_eq_true', List.any_eq_false] at g4
      exact g4 y hy (by simpa using hi)
    · simp only [hd] at g5
      rw [Bool.not_eq_true', List.any_eq_false] at g5
      exact g5 y hy (by simpa using hi)
    · simp only [hf, if_true, List.all_eq_true] at g6
      simpa using g6 t ht
    · simp only [hf, Bool.false_eq_true, if_false, Bool.and_eq_true, List.all_eq_true] at g6
      refine ⟨fun k hk => g6.1 k hk, fun t ht y hy hi => ?_⟩
      have := g6.2 t ht
      rw [Bool.not_eq_true', List.any_eq_false] at this
      exact this y hy (by simpa using hi)

theorem chkC_mem {ds : List Nat} : ∀ {r : List (Nat × Bool)} {pend : List Nat}, chkC ops ds pend r = true → ∀ x ∈ r, ∃ o pd r', ops[x.1]? = some o ∧ HdOk ops ds pd x.1 x.2 r' o
  | [], _, _, _, hx => by cases hx
  | (i, fl) :: r, _, h, x, hx => by
    obtain ⟨⟨o, ho, hh⟩, h2⟩ := chkC_cons h
    rcases List.mem_cons.1 hx with rfl | hx
    · exact ⟨o, _, _, ho, hh⟩
    · exact chkC_mem h2 x hx

theorem chkC_wait {ds : List Nat} : ∀ {r : List (Nat × Bool)} {pend : List Nat}, chkC ops ds pend r = true → ∀ j o, (j, false) ∈ r → ops[j]? = some o →
    (∀ k ∈ pend, waitsB o k = true) ∨ ∃ k, (k, false) ∈ r ∧ waitsB o k = true
  | [], _, _, _, _, hx, _ => by cases hx
  | (i, fl) :: r, pend, h, j, o, hx, hj => by
    obtain ⟨⟨o', ho, hh⟩, h2⟩ := chkC_cons h
    rcases List.mem_cons.1 hx with he | hx
    · cases he
      rw [ho] at hj
      cases hj
      exact .inl (hh.lc rfl).1
    · rcases chkC_wait h2 j o hx hj with h3 | ⟨k, hk, hw⟩
      · cases fl with
        | true => exact .inl fun k hk => h3 k (by simp [hk])
        | false => exact .inr ⟨i, by simp, h3 i (by simp)⟩
      · exact .inr ⟨k, List.mem_cons_of_mem _ hk, hw⟩

def realA (ops : Array Oper) (st : Nat → Option World) : List It → Act → Act
  | [], a => a
  | (_, none) :: r, a => realA ops st r a
  | (i, some g) :: r, a => realA ops st r (match st i with | some u0 => a.put (itD ops i) (g u0).1 | none => a)

theorem realA_put {st : Nat → Option World} {d : Option Tmp} {v : Value} : ∀ {r : List It} {a : Act}, (∀ t, d = some t → ∀ y ∈ its r, itD ops y.1 ≠ some t) → (realA ops st r a).put d v = realA ops st r (a.put d v)
  | [], _, _ => rfl
  | (i, none) :: r, a, h => realA_put (r := r) (a := a) fun t ht y hy => h t ht y (List.mem_cons_of_mem _ hy)
  | (i, some g) :: r, a, h => by
    have hr : ∀ b : Act, (realA ops st r b).put d v = realA ops st r (b.put d v) := fun b => realA_put fun t ht y hy => h t ht y (List.mem_cons_of_mem _ hy)
    simp only [realA]
    cases st i with
    | none => exact hr a
    | some u0 =>
      show (realA ops st r (a.put (itD ops i) (g u0).1)).put d v = realA ops st r ((a.put d v).put (itD ops i) (g u0).1)
      rw [hr, Act.put_comm]
      intro t ht hd
      exact h t hd (i, true) (by simp [its]) ht
theorem realA_eval {st : Nat → Option World} {x : Operand} : ∀ {r : List It} {a : Act}, (∀ t, x = .tmp t → ∀ y ∈ its r, itD ops y.1 ≠ some t) → (realA ops st r a).eval x = a.eval x
  | [], _, _ => rfl
  | (i, none) :: r, a, h => realA_eval (r := r) fun t ht y hy => h t ht y (List.mem_cons_of_mem _ hy)
  | (i, some g) :: r, a, h => by
    have hr : ∀ b : Act, (realA ops st r b).eval x = b.eval x := fun b => realA_eval fun t ht y hy => h t ht y (List.mem_cons_of_mem _ hy)
    simp only [realA]
    rw [hr]
    cases st i with
    | none => rfl
    | some u0 => exact Act.eval_put fun t ht hx => h t hx (i, true) (by simp [its]) ht
def updS (st : Nat → Option World) (k : Nat) (w : World) : Nat → Option World := fun j => if j = k then some w else st j
theorem realA_skip {st : Nat → Option World} {k : Nat} {w : World} : ∀ {r : List It} {a : Act}, (∀ y ∈ its r, y.1 ≠ k) → realA ops (updS st k w) r a = realA ops st r a
  | [], _, _ => rfl
  | (i, none) :: r, a, h => realA_skip (r := r) fun y hy => h y (List.mem_cons_of_mem _ hy)
  | (i, some g) :: r, a, h => by
    have hr : ∀ b : Act, realA ops (updS st k w) r b = realA ops st r b := fun b => realA_skip fun y hy => h y (List.mem_cons_of_mem _ hy)
    have hi : updS st k w i = st i := if_neg (h (i, true) (by simp [its]))
    simp only [realA, hr, hi]
theorem realA_upd {st : Nat → Option World} {k : Nat} {w : World} {g : World → Value × World} {ds : List Nat} : ∀ {r : List It} {a : Act} {pend : List Nat}, chkC ops ds pend (its r) = true → (k, some g) ∈ r → st k = none →
    realA ops (updS st k w) r a = (realA ops st r a).put (itD ops k) (g w).1
  | [], _, _, _, hk, _ => by cases hk
  | (i, none) :: r, a, pend, h, hk, hn => by
    obtain ⟨_, h2⟩ := chkC_cons (i := i) (fl := false) (r := its r) h
    rcases List.mem_cons.1 hk with he | hk
    · cases he
    · exact realA_upd (r := r) (a := a) h2 hk hn
  | (i, some g') :: r, a, pend, h, hk, hn => by
    obtain ⟨⟨o, ho, hh⟩, h2⟩ := chkC_cons (i := i) (fl := true) (r := its r) h
    rcases List.mem_cons.1 hk with he | hk
    · cases he
      have hs : updS st k w k = some w := if_pos rfl
      simp only [realA, hn, hs]
      rw [realA_skip (fun y hy => hh.nd y hy), realA_put]
      intro t ht y hy
      exact hh.dd t (by simpa [itD, ho] using ht) y hy
    · have hne : i ≠ k := fun e => hh.nd (k, true) (List.mem_map.2 ⟨_, hk, rfl⟩) e.symm
      have hi : updS st k w i = st i := if_neg hne
      simp only [realA, hi]
      exact realA_upd h2 hk hn

theorem put_same {a b : Act} {d : Option Tmp} {v v' : Value} (hs : a.tmps.size = b.tmps.size) (h : a.put d v = a.put d v') : b.put d v = b.put d v' := by
  cases d with
  | none => rfl
  | some t =>
    have h1 : a.tmps.setIfInBounds t v = a.tmps.setIfInBounds t v' := congrArg Act.tmps h
    by_cases ht : t < a.tmps.size
    · have h2 := congrArg (fun x : Array Value => x[t]?) h1
      simp [ht] at h2
      rw [h2]
    · have ht2 : ¬ t < b.tmps.size := hs ▸ ht
      have e : ∀ x, b.tmps.setIfInBounds t x = b.tmps := fun x => by simp [Array.setIfInBounds, ht2]
      simp only [Act.put, e]
theorem realA_size {st : Nat → Option World} : ∀ {r : List It} {a : Act}, (realA ops st r a).tmps.size = a.tmps.size
  | [], _ => rfl
  | (_, none) :: r, a => realA_size (r := r) (a := a)
  | (i, some g) :: r, a => by
    simp only [realA]
    rw [realA_size]
    cases st i with
    | none => rfl
    | some u0 => cases h : itD ops i <;> simp [Act.put]
theorem wp_move {o : Oper} {a b : Act} {w : World} {F : Value → World → Prop} {Q : Exit → Act → World → Prop} (hs : a.tmps.size = b.tmps.size) (he : execOp b.eval o = execOp a.eval o)
    (h : o.wp P a w (fun a' w' => ∃ v, a' = a.put o.dst v ∧ F v w') (fun _ _ _ => False)) : o.wp P b w (fun b' w' => ∃ v, b' = b.put o.dst v ∧ F v w') Q := by
  unfold Oper.wp at *
  rw [he]
  generalize (execOp a.eval o).run P w = r at *
  cases r with
  | ok n w' =>
    cases n <;> simp only [Oper.upon] at h ⊢
    case value v => obtain ⟨v', e, hF⟩ := h; exact ⟨v', put_same hs e, hF⟩
    case skip => obtain ⟨v', e, hF⟩ := h; exact ⟨v', put_same hs e, hF⟩
    case defer d =>
      obtain ⟨v', e, hF⟩ := h
      have h2 := congrArg (fun x : Act => x.defers.length) e
      cases hd : o.dst <;> simp [Act.put, hd] at h2
    case enter f args =>
      refine Calls.mono h fun e w'' k => ?_
      cases e with
      | returned v => obtain ⟨v', e, hF⟩ := k; exact ⟨v', put_same hs e, hF⟩
      | panicked c => exact k.elim
      | outgrown => obtain ⟨_, _, k⟩ := k; exact k.elim
    case row row args => exact Rows.mono h fun v w'' k => by obtain ⟨v', e, hF⟩ := k; exact ⟨v', put_same hs e, hF⟩
  | halt x w' => cases x <;> simp only [Oper.upon] at h

def cntI (st : Nat → Option World) : List It → Nat
  | [] => 0
  | x :: r => (if (st x.1).isNone then 1 else 0) + cntI st r
theorem cntI_skip {st : Nat → Option World} {k : Nat} {w : World} : ∀ {r : List It}, (∀ y ∈ its r, y.1 ≠ k) → cntI (updS st k w) r = cntI st r
  | [], _ => rfl
  | x :: r, h => by
    have hi : updS st k w x.1 = st x.1 := if_neg (h (x.1, x.2.isSome) (by simp [its]))
    simp only [cntI, hi, cntI_skip (r := r) fun y hy => h y (List.mem_cons_of_mem _ hy)]
theorem cntI_upd {st : Nat → Option World} {k : Nat} {w : World} {x : Option (World → Value × World)} {ds : List Nat} : ∀ {r : List It} {pend : List Nat}, chkC ops ds pend (its r) = true → (k, x) ∈ r → st k = none → cntI st r = cntI (updS st k w) r + 1
  | [], _, _, hk, _ => by cases hk
  | (i, y) :: r, pend, h, hk, hn => by
    obtain ⟨⟨o, ho, hh⟩, h2⟩ := chkC_cons (i := i) (fl := y.isSome) (r := its r) h
    rcases List.mem_cons.1 hk with he | hk
    · cases he
      have hs : updS st k w k = some w := if_pos rfl
      simp only [cntI, hn, hs, cntI_skip (r := r) (fun z hz => hh.nd z hz)]
      simp
      omega
    · have hne : i ≠ k := fun e => hh.nd (k, x.isSome) (List.mem_map.2 ⟨_, hk, rfl⟩) e.symm
      have hi : updS st k w i = st i := if_neg hne
      simp only [cntI, hi]
      rw [cntI_upd (w := w) h2 hk hn]
      omega

theorem chkI_one {ds : List Nat} : ∀ {r : List It} {pend : List Nat}, chkC ops ds pend (its r) = true → ∀ x ∈ r, ∀ y ∈ r, x.1 = y.1 → x = y
  | [], _, _, _, hx, _, _, _ => by cases hx
  | (i, z) :: r, pend, h, x, hx, y, hy, e => by
    obtain ⟨⟨o, ho, hh⟩, h2⟩ := chkC_cons (i := i) (fl := z.isSome) (r := its r) h
    rcases List.mem_cons.1 hx with rfl | hx
    · rcases List.mem_cons.1 hy with rfl | hy
      · rfl
      · exact absurd e.symm (hh.nd (y.1, y.2.isSome) (List.mem_map.2 ⟨y, hy, rfl⟩))
    · rcases List.mem_cons.1 hy with rfl | hy
      · exact absurd e (hh.nd (x.1, x.2.isSome) (List.mem_map.2 ⟨x, hx, rfl⟩))
      · exact chkI_one h2 x hx y hy e
theorem looks_op {o : Oper} {t : Tmp} (h : Operand.tmp t ∈ o.op.operands) : t ∈ o.looksAt ops := List.mem_append_left _ (List.mem_filterMap.2 ⟨.tmp t, by simpa using h, rfl⟩)

structure ChI (P : Program) (ops : Array Oper) (Q : Exit → Act → World → Prop) (w0 : World) (a0 : Act) (ds : List Nat) (r : List It) (pend : List Nat) (st : Nat → Option World) (a : Act) (hs : List (Nat × Nat)) (w : World) (listed : Array Bool) : Prop where
  ck : chkC ops ds pend (its r) = true
  dc : ∀ y ∈ its r, ∀ t, itD ops y.1 = some t → t ∈ ds
  ch : ∀ i, (i, none) ∈ r → st i = none
  cw : CW P ops Q w0 r a hs w
  lw : Ltr w0 w
  dn : ∀ f g u0, (f, some g) ∈ r → st f = some u0 → Ltr w0 u0 ∧ Ltr (g u0).2 w ∧ ∀ p ∈ hs, (g u0).2.heap.size ≤ p.1 ∨ p.2 ≤ u0.heap.size
  pw : ∀ f g u0 f' g' v0, (f, some g) ∈ r → (f', some g') ∈ r → f ≠ f' → st f = some u0 → st f' = some v0 → (g u0).2.heap.size ≤ v0.heap.size ∨ (g' v0).2.heap.size ≤ u0.heap.size
  hb : ∀ p ∈ hs, p.2 ≤ w.heap.size
  sz : listed.size = ops.size
  li : ∀ j, j < ops.size → (listed.getD j true = false ↔ ∃ x ∈ r, x.1 = j ∧ st j = none)
  fl : ∀ f g, (f, some g) ∈ r → ∀ o, ops[f]? = some o → ∀ u, Ltr w0 u → (execOp a0.eval o).run P u = .ok (.value (g u).1) (g u).2 ∧ Ltr u (g u).2
  ae : ∀ x : Operand, (∀ t, x = .tmp t → t ∉ ds) → a.eval x = a0.eval x

theorem li_set {listed : Array Bool} {k : Nat} {r r' : List It} {st st' : Nat → Option World} (hk : k < listed.size) (h : ∀ j, j < ops.size → (listed.getD j true = false ↔ ∃ x ∈ r, x.1 = j ∧ st j = none))
    (h1 : ∀ j, j ≠ k → ((∃ x ∈ r, x.1 = j ∧ st j = none) ↔ ∃ x ∈ r', x.1 = j ∧ st' j = none)) (h2 : ¬ ∃ x ∈ r', x.1 = k ∧ st' k = none) :
    ∀ j, j < ops.size → ((listed.setIfInBounds k true).getD j true = false ↔ ∃ x ∈ r', x.1 = j ∧ st' j = none) := fun j hj => by
  by_cases e : k = j
  · subst e
    refine ⟨fun h3 => ?_, fun h3 => absurd h3 h2⟩
    simp [hk] at h3
  · rw [getD_set_ne true e, h j hj, h1 j (fun x => e x.symm)]

theorem chain_of (hS : ∀ u, Ltr w0 u → S u) {a0 : Act} {ds : List Nat} : ∀ (N fuel : Nat) (r : List It) (pend : List Nat) (st : Nat → Option World) (a : Act) (hs : List (Nat × Nat)) (w : World) (listed : Array Bool),
    r.length + fuel ≤ N → cntI st r = fuel → ChI P ops Q w0 a0 ds r pend st a hs w listed → wpAnyH P .any ops Q S fuel listed (realA ops st r a) w := by
  intro N
  induction N with
  | zero =>
    intro fuel r pend st a hs w listed hN hc I
    have hr : r = [] := List.length_eq_zero_iff.1 (by omega)
    have hf : fuel = 0 := by omega
    subst hr hf
    refine wpAnyH_done ?_ (I.cw w (Ltr.refl w)) 0
    rw [List.eq_nil_iff_forall_not_mem]
    intro j hj
    obtain ⟨h1, o, ho, _⟩ := mem_ready.1 hj
    obtain ⟨x, hx, _⟩ := (I.li j (Array.getElem?_eq_some_iff.1 ho).1).1 h1
    cases hx
  | succ N ih =>
    intro fuel r pend st a hs w listed hN hc I
    cases r with
    | nil => exact ih fuel [] pend st a hs w listed (by simp [cntI] at hc; simp; omega) hc I
    | cons x r =>
      obtain ⟨i, y⟩ := x
      obtain ⟨⟨o, ho, hh⟩, h2⟩ := chkC_cons (i := i) (fl := y.isSome) (r := its r) I.ck
      have hio : i < ops.size := (Array.getElem?_eq_some_iff.1 ho).1
      have hdst : itD ops i = o.dst := by simp [itD, ho]
      have hdc : ∀ z ∈ its r, ∀ t, itD ops z.1 = some t → t ∈ ds := fun z hz => I.dc z (List.mem_cons_of_mem _ hz)
      have hds : ∀ t, o.dst = some t → t ∈ ds := fun t ht => I.dc (i, y.isSome) (by simp [its]) t (by rw [hdst]; exact ht)
      cases hst : st i with
      | some u0 =>
        cases y with
        | none => rw [I.ch i (by simp)] at hst; cases hst
        | some g =>
          obtain ⟨l1, l2, l3⟩ := I.dn i g u0 (by simp) hst
          have hre : realA ops st ((i, some g) :: r) a = realA ops st r (a.put (itD ops i) (g u0).1) := by simp only [realA, hst]
          rw [hre]
          refine ih fuel r _ st _ ((u0.heap.size, (g u0).2.heap.size) :: hs) w listed (by simp at hN; omega) (by simpa [cntI, hst] using hc) ⟨h2, hdc, fun k hk => I.ch k (List.mem_cons_of_mem _ hk), I.cw w u0 (Ltr.refl w) l1 l2 l3, I.lw, ?_, ?_, fun p hp => (List.mem_cons.1 hp).elim (fun e => by rw [e]; exact l2.size) (I.hb p), I.sz, ?_, ?_, ?_⟩
          · intro f g' v0 hf hs'
            obtain ⟨m1, m2, m3⟩ := I.dn f g' v0 (List.mem_cons_of_mem _ hf) hs'
            refine ⟨m1, m2, fun p hp => ?_⟩
            rcases List.mem_cons.1 hp with rfl | hp
            · have hne : f ≠ i := hh.nd (f, true) (List.mem_map.2 ⟨_, hf, rfl⟩)
              rcases I.pw f g' v0 i g u0 (List.mem_cons_of_mem _ hf) (by simp) hne hs' hst with h | h
              · exact .inl h
              · exact .inr h
            · exact m3 p hp
          · exact fun f g1 v1 f' g2 v2 hf hf' => I.pw f g1 v1 f' g2 v2 (List.mem_cons_of_mem _ hf) (List.mem_cons_of_mem _ hf')
          · intro j hj
            rw [I.li j hj]
            refine ⟨fun ⟨x, hx, e1, e2⟩ => ?_, fun ⟨x, hx, e1, e2⟩ => ⟨x, List.mem_cons_of_mem _ hx, e1, e2⟩⟩
            rcases List.mem_cons.1 hx with rfl | hx
            · rw [← e1, hst] at e2; cases e2
            · exact ⟨x, hx, e1, e2⟩
          · exact fun f g' hf => I.fl f g' (List.mem_cons_of_mem _ hf)
          · intro x hx
            rw [Act.eval_put (fun d hd e => hx d e (hds d (by rw [← hdst]; exact hd)))]
            exact I.ae x hx
      | none =>
        cases fuel with
        | zero => simp [cntI, hst] at hc
        | succ k =>
          refine ⟨fun h0 => ?_, fun j hj => ?_⟩
          · have hm : i ∈ Region.ready .any ops listed := mem_ready.2 ⟨(I.li i hio).2 ⟨_, List.mem_cons_self, rfl, hst⟩, o, ho, fun e he hb => by
              obtain ⟨g1, g2⟩ := hh.af e he hb
              have h3 : ¬ listed.getD e.on true = false := fun h => by
                obtain ⟨x, hx, e1, _⟩ := (I.li _ g1).1 h
                exact g2 (x.1, x.2.isSome) (show _ ∈ its ((i, y) :: r) from List.mem_map.2 ⟨x, hx, rfl⟩) e1
              have : e.on < listed.size := by rw [I.sz]; exact g1
              simpa [this] using h3⟩
            rw [h0] at hm
            cases hm
          · obtain ⟨j1, oj, hoj, jw⟩ := mem_ready.1 hj
            have hjo : j < ops.size := (Array.getElem?_eq_some_iff.1 hoj).1
            obtain ⟨⟨j', z⟩, hz, rfl, jn⟩ := (I.li j hjo).1 j1
            simp only at hoj jn j1 jw hj hjo
            cases z with
            | some g =>
              obtain ⟨o', pd, r', ho', hk⟩ := chkC_mem I.ck (j', true) (List.mem_map.2 ⟨_, hz, rfl⟩)
              simp only at ho'
              rw [hoj] at ho'
              cases ho'
              have hdj : itD ops j' = oj.dst := by simp [itD, hoj]
              obtain ⟨f1, f2⟩ := I.fl j' g hz oj hoj w I.lw
              have hex : execOp (realA ops st ((i, y) :: r) a).eval oj = execOp a0.eval oj := execOp_congr oj (notSel_ne hk.ns) fun x hx => by
                have hxt : ∀ t, x = .tmp t → t ∉ ds := fun t ht => hk.lf rfl t (looks_op (ht ▸ hx))
                rw [realA_eval (fun t ht q hq e => hxt t ht (I.dc q hq t e))]
                exact I.ae x hxt
              unfold wpOp
              simp only [hoj]
              rw [if_pos (by simp [Region.wanted, hk.gd])]
              refine .inl ?_
              unfold Oper.wp
              rw [hex, f1]
              have hlw : Ltr w0 (g w).2 := I.lw.trans f2
              refine ⟨hS _ hlw, ?_⟩
              rw [← hdj, ← realA_upd (w := w) I.ck hz jn]
              refine ih k ((i, y) :: r) pend (updS st j' w) a hs (g w).2 _ (by omega) (by have := cntI_upd (w := w) I.ck hz jn; omega) ⟨I.ck, I.dc, ?_, I.cw.later f2, hlw, ?_, ?_, fun p hp => Nat.le_trans (I.hb p hp) f2.size, by simpa using I.sz, ?_, I.fl, I.ae⟩
              · intro q hq
                have hne : q ≠ j' := fun e => by
                  subst e
                  cases chkI_one I.ck _ hz _ hq rfl
                show updS st j' w q = none
                rw [updS, if_neg hne]
                exact I.ch q hq
              · intro f g' u0 hf hu
                by_cases e : f = j'
                · subst e
                  rw [updS, if_pos rfl] at hu
                  cases hu
                  cases chkI_one I.ck _ hf _ hz rfl
                  exact ⟨I.lw, Ltr.refl _, fun p hp => .inr (I.hb p hp)⟩
                · rw [updS, if_neg e] at hu
                  obtain ⟨m1, m2, m3⟩ := I.dn f g' u0 hf hu
                  exact ⟨m1, m2.trans f2, m3⟩
              · intro f g1 u1 f' g2 u2 hf hf' hne hu hu'
                by_cases e : f = j'
                · subst e
                  rw [updS, if_pos rfl] at hu
                  rw [updS, if_neg (Ne.symm hne)] at hu'
                  cases hu
                  exact .inr (I.dn f' g2 u2 hf' hu').2.1.size
                · rw [updS, if_neg e] at hu
                  by_cases e' : f' = j'
                  · subst e'
                    rw [updS, if_pos rfl] at hu'
                    cases hu'
                    exact .inl (I.dn f g1 u1 hf hu).2.1.size
                  · rw [updS, if_neg e'] at hu'
                    exact I.pw f g1 u1 f' g2 u2 hf hf' hne hu hu'
              · refine li_set (by rw [I.sz]; exact hjo) I.li (fun q hq => ?_) (fun ⟨x, hx, e1, e2⟩ => by rw [updS, if_pos rfl] at e2; cases e2)
                simp only [updS, if_neg hq]
            | none =>
              have hji : j' = i := by
                apply Classical.byContradiction
                intro hne
                have hz' : (j', none) ∈ r := by
                  rcases List.mem_cons.1 hz with e | h
                  · cases e; exact absurd rfl hne
                  · exact h
                have hzi : (j', false) ∈ its r := List.mem_map.2 ⟨_, hz', rfl⟩
                have key : ∀ q, waitsB oj q = true → st q = none → (∃ x ∈ (i, y) :: r, x.1 = q) → False := fun q hw hq ⟨x, hx, e⟩ => by
                  obtain ⟨ed, he, hb⟩ : ∃ ed ∈ oj.after, Region.binds .any ed = true ∧ ed.on = q := by
                    obtain ⟨k, hk, h⟩ : ∃ (k : Nat), ∃ h, Region.binds Region.Mode.any oj.after[k] = true ∧ oj.after[k].on = q := by simpa [waitsB] using hw
                    exact ⟨_, Array.getElem_mem hk, h⟩
                  have h5 := jw ed he hb.1
                  rw [hb.2] at h5
                  have hlt : q < listed.size := by
                    rcases Nat.lt_or_ge q listed.size with h' | h'
                    · exact h'
                    · simp [Array.getElem?_eq_none h'] at h5
                  have h6 := (I.li q (by rw [← I.sz]; exact hlt)).2 ⟨x, hx, e, hq⟩
                  simp [hlt] at h5 h6
                  rw [h5] at h6
                  cases h6
                rcases chkC_wait h2 j' oj hzi hoj with h3 | ⟨q, hq, hw⟩
                · exact key i (h3 i (by cases y <;> simp)) hst ⟨_, List.mem_cons_self, rfl⟩
                · obtain ⟨⟨q1, q2⟩, hq', e⟩ := List.mem_map.1 hq
                  cases q2 with
                  | some g => cases e
                  | none =>
                    cases e
                    exact key _ hw (I.ch _ (List.mem_cons_of_mem _ hq')) ⟨_, List.mem_cons_of_mem _ hq', rfl⟩
              subst hji
              rw [ho] at hoj
              cases hoj
              cases chkI_one I.ck _ hz (j', y) List.mem_cons_self rfl
              have hre : realA ops st ((j', none) :: r) a = realA ops st r a := rfl
              have hex : execOp (realA ops st r a).eval o = execOp a.eval o := execOp_congr o (notSel_ne hh.ns) fun x hx => realA_eval fun t ht q hq => (hh.lc rfl).2 t (looks_op (ht ▸ hx)) q hq
              unfold wpOp
              simp only [ho]
              rw [if_pos (by simp [Region.wanted, hh.gd]), hre]
              refine .inl (Oper.wp_mono ?_ (wp_move (b := realA ops st r a) (F := fun v u'' => Ltr w u'' ∧ CW P ops Q w0 r (a.put o.dst v) ((w.heap.size, u''.heap.size) :: hs) u'') realA_size.symm hex (Oper.wp_mono ?_ (I.cw w (Ltr.refl w) o ho))))
              · rintro b' w' ⟨v, rfl, lw', cw'⟩
                refine ⟨hS _ (I.lw.trans lw'), ?_⟩
                rw [realA_put (fun t ht q hq => hh.dd t ht q hq)]
                refine ih k r _ st (a.put o.dst v) _ w' _ (by simp at hN; omega) (by simp [cntI, hst] at hc; omega) ⟨h2, hdc, fun q hq => I.ch q (List.mem_cons_of_mem _ hq), cw', I.lw.trans lw', ?_, ?_, fun p hp => (List.mem_cons.1 hp).elim (fun e => by rw [e]; exact Nat.le_refl _) (fun h => Nat.le_trans (I.hb p h) lw'.size), by simpa using I.sz, ?_, fun f g hf => I.fl f g (List.mem_cons_of_mem _ hf), ?_⟩
                · intro f g u0 hf hu
                  obtain ⟨m1, m2, m3⟩ := I.dn f g u0 (List.mem_cons_of_mem _ hf) hu
                  refine ⟨m1, m2.trans lw', fun p hp => ?_⟩
                  rcases List.mem_cons.1 hp with rfl | hp
                  · exact .inl m2.size
                  · exact m3 p hp
                · exact fun f g1 v1 f' g2 v2 hf hf' => I.pw f g1 v1 f' g2 v2 (List.mem_cons_of_mem _ hf) (List.mem_cons_of_mem _ hf')
                · refine li_set (by rw [I.sz]; exact hio) I.li (fun q hq => ⟨fun ⟨x, hx, e1, e2⟩ => ?_, fun ⟨x, hx, e1, e2⟩ => ⟨x, List.mem_cons_of_mem _ hx, e1, e2⟩⟩) (fun ⟨x, hx, e1, e2⟩ => hh.nd (x.1, x.2.isSome) (List.mem_map.2 ⟨x, hx, rfl⟩) e1)
                  rcases List.mem_cons.1 hx with rfl | hx
                  · exact absurd e1.symm hq
                  · exact ⟨x, hx, e1, e2⟩
                · intro x hx
                  rw [Act.eval_put (fun d hd e => hx d e (hds d hd))]
                  exact I.ae x hx
              · rintro a' u'' ⟨v, rfl, l1, c1⟩
                exact ⟨v, rfl, l1, c1⟩

def topC (ops : Array Oper) (listed : Array Bool) (l : List (Nat × Bool)) : Bool :=
  listed.size == ops.size && (List.range ops.size).all (fun j => listed.getD j true == !(l.any fun y => y.1 == j)) && chkC ops (l.filterMap fun y => itD ops y.1) [] l
theorem wp_chain (items : List It) {fuel : Nat} {listed : Array Bool} {a : Act} {w : World} (hf : items.length = fuel) (hck : topC ops listed (its items) = true) (hS : ∀ u, Ltr w u → S u)
    (hfl : ∀ f g, (f, some g) ∈ items → ∀ o, ops[f]? = some o → ∀ u, Ltr w u → (execOp a.eval o).run P u = .ok (.value (g u).1) (g u).2 ∧ Ltr u (g u).2)
    (h : CW P ops Q w items a [] w) : wpAnyH P .any ops Q S fuel listed a w := by
  simp only [topC, Bool.and_eq_true, beq_iff_eq, List.all_eq_true, List.mem_range] at hck
  have hre : ∀ (r : List It) (a : Act), realA ops (fun _ => none) r a = a := by
    intro r
    induction r with
    | nil => exact fun _ => rfl
    | cons x r ih =>
      obtain ⟨i, y⟩ := x
      cases y with
      | none => exact fun a => ih a
      | some g => exact fun a => ih a
  have hcn : ∀ r : List It, cntI (fun _ => none) r = r.length := by
    intro r
    induction r with
    | nil => rfl
    | cons x r ih => simp only [cntI, ih, List.length_cons]; simp; omega
  have := chain_of (P := P) (ops := ops) (Q := Q) (S := S) (w0 := w) hS (a0 := a) (ds := (its items).filterMap fun y => itD ops y.1) _ fuel items [] (fun _ => none) a [] w listed (Nat.le_refl _) (by rw [hcn, hf])
    ⟨hck.2, fun y hy t ht => List.mem_filterMap.2 ⟨y, hy, ht⟩, fun _ _ => rfl, h, Ltr.refl w, (fun _ _ _ _ e => by cases e), (fun _ _ _ _ _ _ _ _ _ e => by cases e), (fun _ hp => by cases hp), hck.1.1, fun j hj => ?_, hfl, fun _ _ => rfl⟩
  · rwa [hre] at this
  · rw [hck.1.2 j hj]
    simp only [Bool.not_eq_false', List.any_eq_true, beq_iff_eq]
    refine ⟨fun ⟨y, hy, e⟩ => ?_, fun ⟨x, hx, e, _⟩ => ⟨_, List.mem_map.2 ⟨x, hx, rfl⟩, e⟩⟩
    obtain ⟨x, hx, rfl⟩ := List.mem_map.1 hy
    exact ⟨x, hx, e, trivial⟩

end
end
section
open Go.RowKit

theorem call_by {P : Program} {o : Oper} {a : Act} {K : Act → World → Prop} {Q : Exit → Act → World → Prop} {w : World} {R : Ending → World → Prop} (f : FuncId) (xs : List Operand) (ats : Array TypeId)
  (ho : o.op = .call { callee := .value (.func f), args := xs.toArray, argTypes := ats }) (hrun : ∀ args w, (callFunc f args).run P w = .ok (.enter f args) w) (args : List Value) (he : xs.map a.eval = args)
  (h : Calls P f args.toArray w R) (hk : ∀ e w', R e w' → ∃ v, e = .returned v ∧ K (a.put o.dst v) w') : o.wp P a w K Q := by
 have ef : a.eval (.func f) = .func (.func f) #[] #[] := rfl
 have hx : execOp a.eval o = callFunc f args.toArray := by
  unfold execOp
  simp [ho, resolve, Deferred.ofValue, invoke, ef, he]
 unfold Oper.wp
 rw [hx, hrun, Oper.upon_enter]
 refine Calls.mono h ?_
 intro e w' hr
 obtain ⟨v, rfl, hk⟩ := hk e w' hr
 exact hk
end
end Go.Proofs.Ytekcnibohikmdaa
