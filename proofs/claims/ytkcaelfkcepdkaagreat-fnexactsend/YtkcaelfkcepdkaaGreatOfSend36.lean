/-
  A region that draws its order, op by op: what each one does where those that it waits for are done, in whatever later world; all together have done it.
  copy between slices whose elements have any number of cells: a law for the walk.
  The program's joined: parts of lists of entries laid one behind the other into memory of their own.
  The program's tailOf, headOf, EntriesFrom, copyOfLog.
-/
import Derived.Test.YtkcaelfkcepdkaaGreatOfSend9
import Derived.Deep.RegionHeld
import Derived.Test.YtkcaelfkcepdkaaGreatOfSend1
import Derived.Laws.CopyOwn
import Derived.Test.YtkcaelfkcepdkaaGreatOfSend24
namespace Go.Proofs.YtkcaelfkcepdkaaGreat
set_option maxRecDepth 100000
set_option maxHeartbeats 8000000
section
open Go.RowKit

def Ltp (w w' : World) : Prop := Below w.heap.size w w'
theorem Ltp.refl (w : World) : Ltp w w := Below.refl _ _
theorem Ltp.trans {a b c : World} (h : Ltp a b) (k : Ltp b c) : Ltp a c := Below.and h k

def notSelP : Op → Bool
 | .select _ _ => false
 | _ => true
def dstP (l : List Oper) (k : Nat) : Option Tmp := (l[k]?).bind (·.dst)
def waitsP (o : Oper) (k : Nat) : Bool := o.after.any fun e => Region.binds .any e && e.on == k
def parB (l : List Oper) : Bool := (List.range l.length).all fun i => match l[i]? with
 | some o => o.guard.isNone && notSelP o.op && o.dst.isSome && (o.after.toList.all fun e => decide (e.on < i)) && ((List.range l.length).all fun k => k == i || !(dstP l k == o.dst)) &&
   (o.op.operands.toList.all fun x => match x with | .tmp t => (List.range l.length).all fun k => !(dstP l k == some t) || waitsP o k | _ => true)
 | none => false
structure ParO (l : List Oper) (i : Nat) (o : Oper) : Prop where
 gd : o.guard = none
 ns : notSelP o.op = true
 ds : ∃ t, o.dst = some t
 af : ∀ e ∈ o.after, e.on < i
 dd : ∀ k, k < l.length → k ≠ i → dstP l k ≠ o.dst
 rd : ∀ t, Operand.tmp t ∈ o.op.operands → ∀ k, k < l.length → dstP l k = some t → waitsP o k = true
theorem parB_parts {l : List Oper} (h : parB l = true) {i : Nat} {o : Oper} (ho : l[i]? = some o) : ParO l i o := by
 have hi := (List.getElem?_eq_some_iff.1 ho).1
 have h1 := List.all_eq_true.1 h i (List.mem_range.2 hi)
 simp only [ho, Bool.and_eq_true] at h1
 obtain ⟨⟨⟨⟨⟨g1, g2⟩, g3⟩, g4⟩, g5⟩, g6⟩ := h1
 refine ⟨by simpa using g1, g2, Option.isSome_iff_exists.1 g3, fun e he => ?_, fun k hk hki => ?_, fun t ht k hk hd => ?_⟩
 ·have := List.all_eq_true.1 g4 e (by simpa using he)
  simpa using this
 ·have := List.all_eq_true.1 g5 k (List.mem_range.2 hk)
  simp only [Bool.or_eq_true, beq_iff_eq, Bool.not_eq_true', beq_eq_false_iff_ne] at this
  exact this.resolve_left hki
 ·have := List.all_eq_true.1 g6 (.tmp t) (by simpa using ht)
  have := List.all_eq_true.1 this k (List.mem_range.2 hk)
  simp only [hd, BEq.rfl, Bool.not_true, Bool.false_or] at this
  exact this

def actL (l : List Oper) (a : Act) (v : Nat → Value) (p : Nat → Bool) : Nat → Act
 | 0 => a
 | k + 1 => if p k then (actL l a v p k).put (dstP l k) (v k) else actL l a v p k
theorem putP_size {a : Act} {d : Option Tmp} {v : Value} : (a.put d v).tmps.size = a.tmps.size := by cases d <;> simp [Act.put]
theorem actL_size {l : List Oper} {a : Act} {v : Nat → Value} {p : Nat → Bool} : ∀ n, (actL l a v p n).tmps.size = a.tmps.size
 | 0 => rfl
 | k + 1 => by
  simp only [actL]
  split
  ·rw [putP_size, actL_size k]
  ·exact actL_size k
theorem evalP_same {a b : Act} {t : Tmp} {v : Value} (h : a.tmps.size = b.tmps.size) : (a.put (some t) v).eval (.tmp t) = (b.put (some t) v).eval (.tmp t) := by
 by_cases ht : t < a.tmps.size
 ·have ht2 : t < b.tmps.size := h ▸ ht
  simp [Act.put, Act.eval, ht, ht2]
 ·have ht2 : ¬ t < b.tmps.size := h ▸ ht
  simp [Act.put, Act.eval, ht, ht2]
theorem actL_other {l : List Oper} {a : Act} {v : Nat → Value} {p : Nat → Bool} {x : Operand} : ∀ n, (∀ k t, k < n → dstP l k = some t → x ≠ .tmp t) → (actL l a v p n).eval x = a.eval x
 | 0, _ => rfl
 | k + 1, h => by
  simp only [actL]
  split
  ·rw [Act.eval_put (fun d hd => h k d (Nat.lt_succ_self _) hd)]
   exact actL_other k (fun k' t hk => h k' t (by omega))
  ·exact actL_other k (fun k' t hk => h k' t (by omega))
theorem actL_dst {l : List Oper} {a : Act} {v : Nat → Value} {p : Nat → Bool} {k : Nat} {t : Tmp} (hd : dstP l k = some t) (hp : p k = true) : ∀ n, k < n → (∀ j, j < n → j ≠ k → dstP l j ≠ some t) → (actL l a v p n).eval (.tmp t) = (a.put (some t) (v k)).eval (.tmp t)
 | 0, hk, _ => absurd hk (Nat.not_lt_zero _)
 | m + 1, hk, h => by
  simp only [actL]
  by_cases e : m = k
  ·subst e
   rw [if_pos hp, hd]
   exact evalP_same (actL_size m)
  ·have ih := actL_dst (a := a) (v := v) (p := p) hd hp m (by omega) (fun j hj => h j (by omega))
   split
   ·rw [Act.eval_put (fun d hd' e' => h m (Nat.lt_succ_self _) e (by cases e'; exact hd'))]
    exact ih
   ·exact ih
def setP (p : Nat → Bool) (i : Nat) : Nat → Bool := fun k => if k = i then true else p k
def setV (v : Nat → Value) (i : Nat) (x : Value) : Nat → Value := fun k => if k = i then x else v k
theorem actL_same {l : List Oper} {a : Act} {v : Nat → Value} {p : Nat → Bool} {i : Nat} {x : Value} : ∀ n, n ≤ i → actL l a (setV v i x) (setP p i) n = actL l a v p n
 | 0, _ => rfl
 | k + 1, h => by
  have e1 : setP p i k = p k := if_neg (by omega)
  have e2 : setV v i x k = v k := if_neg (by omega)
  have ih := actL_same (l := l) (a := a) (v := v) (p := p) (x := x) k (show k ≤ i by omega)
  simp only [actL, e1, e2, ih]
theorem actL_set {l : List Oper} {a : Act} {v : Nat → Value} {p : Nat → Bool} {i : Nat} {x : Value} (hp : p i = false) : ∀ n, i < n → (∀ j, j < n → j ≠ i → dstP l j ≠ dstP l i) → (∃ t, dstP l i = some t) → actL l a (setV v i x) (setP p i) n = (actL l a v p n).put (dstP l i) x
 | 0, h, _, _ => absurd h (Nat.not_lt_zero _)
 | m + 1, h, hd, ht => by
  by_cases e : m = i
  ·subst e
   have e1 : setP p m m = true := if_pos rfl
   have e2 : setV v m x m = x := if_pos rfl
   simp only [actL, e1, e2, if_true, hp, Bool.false_eq_true, if_false]
   rw [actL_same m (Nat.le_refl _)]
  ·have e1 : setP p i m = p m := if_neg e
   have e2 : setV v i x m = v m := if_neg e
   have ih := actL_set (a := a) (v := v) (x := x) hp m (by omega) (fun j hj => hd j (by omega)) ht
   simp only [actL, e1, e2, ih]
   split
   ·rw [Act.put_comm]
    intro d h1 h2
    exact hd m (Nat.lt_succ_self _) e (h2.trans h1.symm)
   ·rfl

def doesP (P : Program) (o : Oper) (ρ : Operand → Value) (w : World) (F : Value → World → Prop) : Prop :=
 match (execOp ρ o).run P w with
 | .ok (.value v) w' => F v w'
 | .ok .skip w' => F undef w'
 | .ok (.enter f args) w' => Calls P f args w' fun e w'' => ∃ v, e = .returned v ∧ F v w''
 | _ => False
theorem doesP.wp {P : Program} {o : Oper} {a : Act} {w : World} {F : Value → World → Prop} {K : Act → World → Prop} {Q : Exit → Act → World → Prop} (h : doesP P o a.eval w F) (hK : ∀ v w', F v w' → K (a.put o.dst v) w') : o.wp P a w K Q := by
 unfold doesP at h
 unfold Oper.wp
 generalize (execOp a.eval o).run P w = r at *
 cases r with
 | ok n w' =>
  cases n <;> simp only [Oper.upon] at h ⊢
  case value v => exact hK _ _ h
  case skip => exact hK _ _ h
  case enter f args =>
   refine Calls.mono h fun e w'' k => ?_
   obtain ⟨v, rfl, hf⟩ := k
   exact hK _ _ hf
 | halt x w' => exact h.elim
theorem doesP.value {P : Program} {o : Oper} {ρ : Operand → Value} {w w' : World} {v : Value} {F : Value → World → Prop} (hr : (execOp ρ o).run P w = .ok (.value v) w') (h : F v w') : doesP P o ρ w F := by
 unfold doesP
 rw [hr]
 exact h
theorem doesP.enter {P : Program} {o : Oper} {ρ : Operand → Value} {w w' : World} {f : FuncId} {args : Array Value} {F : Value → World → Prop} (hr : (execOp ρ o).run P w = .ok (.enter f args) w') (h : Calls P f args w' fun e w'' => ∃ v, e = .returned v ∧ F v w'') : doesP P o ρ w F := by
 unfold doesP
 rw [hr]
 exact h

def cntP (p : Nat → Bool) : Nat → Nat
 | 0 => 0
 | k + 1 => (if p k then 0 else 1) + cntP p k
theorem cntP_same {p : Nat → Bool} {i : Nat} : ∀ n, n ≤ i → cntP (setP p i) n = cntP p n
 | 0, _ => rfl
 | k + 1, h => by
  have e1 : setP p i k = p k := if_neg (by omega)
  simp only [cntP, e1, cntP_same k (show k ≤ i by omega)]
theorem cntP_set {p : Nat → Bool} {i : Nat} (hp : p i = false) : ∀ n, i < n → cntP p n = cntP (setP p i) n + 1
 | 0, h => absurd h (Nat.not_lt_zero _)
 | m + 1, h => by
  by_cases e : m = i
  ·subst e
   have e1 : setP p m m = true := if_pos rfl
   simp only [cntP, e1, hp, cntP_same m (Nat.le_refl m)]
   simp
   omega
  ·have e1 : setP p i m = p m := if_neg e
   have ih := cntP_set hp m (by omega)
   simp only [cntP, e1]
   omega
theorem cntP_zero {p : Nat → Bool} : ∀ n, cntP p n = 0 → ∀ k, k < n → p k = true
 | 0, _, k, h => absurd h (Nat.not_lt_zero _)
 | m + 1, h, k, hk => by
  simp only [cntP] at h
  by_cases e : k = m
  ·subst e
   by_cases hp : p k = true
   ·exact hp
   ·rw [if_neg hp] at h; omega
  ·exact cntP_zero m (by omega) k (by omega)
theorem cntP_false : ∀ n, cntP (fun _ => false) n = n
 | 0 => rfl
 | m + 1 => by simp only [cntP, cntP_false m]; simp; omega
theorem actL_all {l : List Oper} {a : Act} {v : Nat → Value} {p q : Nat → Bool} : ∀ n, (∀ k, k < n → p k = q k) → actL l a v p n = actL l a v q n
 | 0, _ => rfl
 | k + 1, h => by
  have ih := actL_all (l := l) (a := a) (v := v) k (fun k' hk => h k' (by omega))
  simp only [actL, h k (Nat.lt_succ_self _), ih]
theorem actL_none {l : List Oper} {a : Act} {v : Nat → Value} : ∀ n, actL l a v (fun _ => false) n = a
 | 0 => rfl
 | k + 1 => by simp only [actL, actL_none k]; simp

def freeP (l : List Oper) (t : Tmp) : Bool := (List.range l.length).all fun k => !(dstP l k == some t)
section
variable {P : Program} {l : List Oper} {Q : Exit → Act → World → Prop} {w0 : World} {a0 : Act} {Φ : Nat → Value → Nat → Nat → World → Prop}

def StepP (P : Program) (l : List Oper) (N : Nat) (w0 : World) (a0 : Act) (Φ : Nat → Value → Nat → Nat → World → Prop) : Prop :=
 ∀ i o, l[i]? = some o → ∀ (ρ : Operand → Value) (v : Nat → Value) (x y : Nat → Nat) (w : World), Ltp w0 w → (∀ k t, k < l.length → waitsP o k = true → dstP l k = some t → t < N → ρ (.tmp t) = v k) →
  (∀ k, k < l.length → waitsP o k = true → Φ k (v k) (x k) (y k) w ∧ w0.heap.size ≤ x k ∧ x k ≤ y k ∧ y k ≤ w.heap.size) → (∀ j k, j < l.length → k < l.length → waitsP o j = true → waitsP o k = true → j ≠ k → y j ≤ x k ∨ y k ≤ x j) → (∀ t, freeP l t = true → ρ (.tmp t) = a0.eval (.tmp t)) → (∀ z : Operand, (∀ t, z ≠ .tmp t) → ρ z = a0.eval z) → doesP P o ρ w (fun u w' => Ltp w w' ∧ Φ i u w.heap.size w'.heap.size w')

def Times (w0 w : World) (n : Nat) (p : Nat → Bool) (x y : Nat → Nat) : Prop := (∀ k, k < n → p k = true → w0.heap.size ≤ x k ∧ x k ≤ y k ∧ y k ≤ w.heap.size) ∧ ∀ j k, j < n → k < n → p j = true → p k = true → j ≠ k → y j ≤ x k ∨ y k ≤ x j
theorem par_of (hl : parB l = true) (stab : ∀ k v x y w w', Φ k v x y w → Ltp w w' → Φ k v x y w') {N : Nat} (hN : a0.tmps.size = N) (step : StepP P l N w0 a0 Φ)
  (fin : ∀ v x y w, Ltp w0 w → Times w0 w l.length (fun _ => true) x y → (∀ k, k < l.length → Φ k (v k) (x k) (y k) w) → Q .normal (actL l a0 v (fun _ => true) l.length) w) :
  ∀ (fuel : Nat) (listed : Array Bool) (p : Nat → Bool) (v : Nat → Value) (x y : Nat → Nat) (w : World), cntP p l.length = fuel → listed.size = l.length → (∀ k, k < l.length → listed.getD k true = p k) → Ltp w0 w → Times w0 w l.length p x y → (∀ k, k < l.length → p k = true → Φ k (v k) (x k) (y k) w) →
   wpAnyH P .any l.toArray Q (fun w => Ltp w0 w) fuel listed (actL l a0 v p l.length) w := by
 have rdy : ∀ (listed : Array Bool) (p : Nat → Bool) (i : Nat), listed.size = l.length → (∀ k, k < l.length → listed.getD k true = p k) → i ∈ Region.ready .any l.toArray listed → p i = false ∧ i < l.length ∧ ∃ o, l[i]? = some o ∧ ∀ e ∈ o.after, Region.binds .any e = true → p e.on = true := by
  intro listed p i hs hp hi
  obtain ⟨h1, o, ho, h2⟩ := mem_ready.1 hi
  have ho' : l[i]? = some o := by simpa using ho
  have hil := (List.getElem?_eq_some_iff.1 ho').1
  refine ⟨by rw [← hp i hil]; exact h1, hil, o, ho', fun e he hb => ?_⟩
  have hon := (parB_parts hl ho').af e he
  have h3 := h2 e he hb
  rw [← hp e.on (by omega)]
  have : e.on < listed.size := by omega
  simp [this] at h3 ⊢
  exact h3
 have fins : ∀ (p : Nat → Bool) (v : Nat → Value) (x y : Nat → Nat) (w : World), (∀ k, k < l.length → p k = true) → Ltp w0 w → Times w0 w l.length p x y → (∀ k, k < l.length → p k = true → Φ k (v k) (x k) (y k) w) → Q .normal (actL l a0 v p l.length) w := by
  intro p v x y w hall hw ht hf
  rw [actL_all (q := fun _ => true) l.length hall]
  exact fin v x y w hw ⟨fun k hk _ => ht.1 k hk (hall k hk), fun j k hj hk _ _ => ht.2 j k hj hk (hall j hj) (hall k hk)⟩ (fun k hk => hf k hk (hall k hk))
 intro fuel
 induction fuel with
 | zero =>
  intro listed p v x y w hc hs hp hw htm hf
  have hall := cntP_zero _ hc
  refine ⟨List.eq_nil_iff_forall_not_mem.2 fun i hi => ?_, fins p v x y w hall hw htm hf⟩
  obtain ⟨h1, h2, _⟩ := rdy listed p i hs hp hi
  rw [hall i h2] at h1
  cases h1
 | succ fuel ih =>
  intro listed p v x y w hc hs hp hw htm hf
  refine ⟨fun h0 => ?_, fun i hi => ?_⟩
  ·refine fins p v x y w (fun k => ?_) hw htm hf
   induction k using Nat.strongRecOn with
   | ind k ihk =>
    intro hk
    by_cases hpk : p k = true
    ·exact hpk
    ·exfalso
     have hm : k ∈ Region.ready .any l.toArray listed := mem_ready.2 ⟨by rw [hp k hk]; simpa using hpk, l[k], by simp [hk], fun e he hb => by
      have hon := (parB_parts hl (i := k) (o := l[k]) (by simp [hk])).af e he
      have h3 := hp e.on (by omega)
      rw [ihk e.on hon (by omega)] at h3
      have : e.on < listed.size := by omega
      simp [this] at h3 ⊢
      exact h3⟩
     rw [h0] at hm
     cases hm
  ·obtain ⟨h1, h2, o, ho, h3⟩ := rdy listed p i hs hp hi
   have O := parB_parts hl ho
   obtain ⟨t, ht⟩ := O.ds
   have hdi : dstP l i = some t := by simp [dstP, ho, ht]
   unfold wpOp
   have ho2 : l.toArray[i]? = some o := by simpa using ho
   simp only [ho2]
   rw [if_pos (by simp [Region.wanted, O.gd])]
   refine .inl ?_
   have wt : ∀ k, waitsP o k = true → k < i ∧ p k = true := fun k hk => by
    unfold waitsP at hk
    obtain ⟨e, he, hb⟩ := Array.any_eq_true'.1 hk
    simp only [Bool.and_eq_true, beq_iff_eq] at hb
    have := O.af e he
    have := h3 e he hb.1
    rw [hb.2] at *
    exact ⟨by assumption, by assumption⟩
   have D := step i o ho (actL l a0 v p l.length).eval v x y w hw (fun k t' hk hw' hd hlt => by
    rw [actL_dst hd (wt k hw').2 l.length hk (fun j hj hjk e => (parB_parts hl (i := k) (o := l[k]) (by simp [hk])).dd j hj hjk (by rw [e]; simp [dstP, hk] at hd; exact hd.symm))]
    simp [Act.put, Act.eval, hN, hlt]) (fun k hk hw' => ⟨hf k hk (wt k hw').2, htm.1 k hk (wt k hw').2⟩) (fun j k hj hk wj wk hjk => htm.2 j k hj hk (wt j wj).2 (wt k wk).2 hjk) (fun t' ht' => actL_other l.length (fun k t2 hk hd e => by
    cases e
    have := List.all_eq_true.1 ht' k (List.mem_range.2 hk)
    simp [hd] at this)) (fun z hz => actL_other l.length (fun k t2 hk hd e => hz t2 e))
   refine D.wp (fun u w' hu => ⟨hw.trans hu.1, ?_⟩)
   have e := actL_set (l := l) (a := a0) (v := v) (x := u) h1 l.length h2 (fun j hj hji => by rw [hdi, ← ht]; exact O.dd j hj hji) ⟨t, hdi⟩
   rw [show o.dst = dstP l i by rw [hdi, ht], ← e]
   have hz := hu.1.size
   refine ih (listed.setIfInBounds i true) (setP p i) (setV v i u) (fun k => if k = i then w.heap.size else x k) (fun k => if k = i then w'.heap.size else y k) w' (by have := cntP_set h1 l.length h2; omega) (by simpa using hs) (fun k hk => ?_) (hw.trans hu.1) ⟨fun k hk hpk => ?_, fun j k hj hk hpj hpk hjk => ?_⟩ (fun k hk hpk => ?_)
   ·by_cases ek : i = k
    ·subst ek
     have : i < listed.size := by omega
     simp [this, setP]
    ·rw [getD_set_ne true ek, hp k hk]
     exact (if_neg (Ne.symm ek)).symm
   ·by_cases ek : k = i
    ·simp only [if_pos ek]
     exact ⟨hw.size, hz, Nat.le_refl _⟩
    ·simp only [if_neg ek]
     have e2 : setP p i k = p k := if_neg ek
     rw [e2] at hpk
     have := htm.1 k hk hpk
     omega
   ·have ej : j ≠ i → setP p i j = p j := fun h => if_neg h
    have ek : k ≠ i → setP p i k = p k := fun h => if_neg h
    by_cases e1 : j = i
    ·have e2 : k ≠ i := fun h => hjk (e1.trans h.symm)
     simp only [if_pos e1, if_neg e2]
     rw [ek e2] at hpk
     exact .inr (htm.1 k hk hpk).2.2
    ·simp only [if_neg e1]
     rw [ej e1] at hpj
     by_cases e2 : k = i
     ·simp only [if_pos e2]
      exact .inl (htm.1 j hj hpj).2.2
     ·simp only [if_neg e2]
      rw [ek e2] at hpk
      exact htm.2 j k hj hk hpj hpk hjk
   ·by_cases ek : k = i
    ·subst ek
     have : setV v k u k = u := if_pos rfl
     rw [this]
     simp only [if_true]
     exact hu.2
    ·have e1 : setV v i u k = v k := if_neg ek
     rw [e1]
     simp only [if_neg ek]
     refine stab k _ _ _ w w' (hf k hk ?_) hu.1
     have e2 : setP p i k = p k := if_neg ek
     rw [← e2]
     exact hpk
theorem wp_par (hl : parB l = true) (stab : ∀ k v x y w w', Φ k v x y w → Ltp w w' → Φ k v x y w') {N : Nat} (hN : a0.tmps.size = N) (step : StepP P l N w0 a0 Φ)
  (fin : ∀ v x y w, Ltp w0 w → Times w0 w l.length (fun _ => true) x y → (∀ k, k < l.length → Φ k (v k) (x k) (y k) w) → Q .normal (actL l a0 v (fun _ => true) l.length) w) : wpAnyH P .any l.toArray Q (fun w => Ltp w0 w) l.length (Array.replicate l.length false) a0 w0 := by
 have h := par_of (P := P) (Q := Q) hl stab hN step fin l.length (Array.replicate l.length false) (fun _ => false) (fun _ => undef) (fun _ => 0) (fun _ => 0) w0 (cntP_false _) (by simp) (fun k hk => by simp [hk]) (Ltp.refl _) ⟨fun k _ h => absurd h (by simp), fun j k _ _ h => absurd h (by simp)⟩ (fun k _ h => absurd h (by simp))
 rwa [actL_none] at h

end
end
section
open Go.RowKit

theorem run_copy_rowN {P : Program} (w : World) (dT sT ty elem : TypeId) (g o dLen dCap : Nat) (a : Addr) (sLen sCap : Nat) (cur : Array Value) (t : TypeId) (cs : List Value) (size m : Nat)
  (hu : P.underlying dT = some (.slice elem)) (hs : (P.info? elem).map (·.size) = some size)
  (hg : w.heap[g]? = some (.cells cur t (0, 0))) (hm : Nat.min sLen dLen = m) (hn : cs.length = m * size)
  (hsrc : ∀ j v, cs[j]? = some v → w.cell? (a.add j) = some v) (hfit : o + cs.length ≤ cur.size) (h1 : ∀ v ∈ cs, v.oneCell' = true) :
  (Builtin.copy_ #[dT, sT] ty #[.slice (some ⟨g, o, none⟩) dLen dCap, .slice (some a) sLen sCap]).run P w =
   .ok (goInt m) (w.setRow g (cur.toList.take o ++ cs ++ cur.toList.drop (o + cs.length)).toArray) := by
 have hl := run_loadCells_list (P := P) w a cs hsrc
 have hst := run_storeCells_at P g o t cs 0 cur w hg (by simpa using hfit) h1
 cases hq : P.info? elem with
 | none => simp [hq] at hs
 | some i =>
  have hi : i.size = size := by simpa [hq] using hs
  simp [Builtin.copy_, run_underlying hu, Builtin.lenOf, Builtin.firstCells, sizeOf, typeInfo, hq, hi, hm, ← hn, hl, hst]

theorem run_copy_noneN {P : Program} (w : World) (dT sT ty elem : TypeId) (d a : Option Addr) (dLen dCap sLen sCap : Nat) (hu : P.underlying dT = some (.slice elem)) (hs : ((P.info? elem).map (·.size)).isSome = true) (hn : Nat.min sLen dLen = 0) :
  (Builtin.copy_ #[dT, sT] ty #[.slice d dLen dCap, .slice a sLen sCap]).run P w = .ok (goInt 0) w := by
 cases hq : P.info? elem with
 | none => simp [hq] at hs
 | some i =>
  have hl : ∀ (x : Addr), (loadCells x 0).run P w = .ok #[] w := fun x => by simpa using run_loadCells_list (P := P) w x [] (by simp)
  cases d <;> cases a <;> simp [Builtin.copy_, run_underlying hu, Builtin.lenOf, Builtin.firstCells, sizeOf, typeInfo, hq, hn, storeCells, hl]

theorem wpList_copy_N {P : Program} {w : World} {ops : Array Oper} {rest : List Oper} {o : Oper} {a : Act} {Q : Exit → Act → World → Prop} (hgd : o.guard = none) (d s : Operand) (dT sT : TypeId)
  (ho : o.op = .call { callee := .builtin .copy, args := #[d, s], argTypes := #[dT, sT] }) (elem : TypeId) (size m : Nat) (hu : P.underlying dT = some (.slice elem)) (hsz : (P.info? elem).map (·.size) = some size)
  (dp sp : Option Addr) (dLen dCap sLen sCap : Nat) (hd : a.eval d = .slice dp dLen dCap) (hs : a.eval s = .slice sp sLen sCap)
  (g off : Nat) (cur : List Value) (t : TypeId) (hg : w.heap[g]? = some (.cells cur.toArray t (0, 0))) (cs : List Value) (hm : Nat.min sLen dLen = m) (hn : cs.length = m * size)
  (hpos : 0 < m → dp = some ⟨g, off, none⟩ ∧ ∃ ad, sp = some ad ∧ ∀ j v, cs[j]? = some v → w.cell? (ad.add j) = some v)
  (hfit : off + cs.length ≤ cur.length) (h1 : ∀ v ∈ cs, v.oneCell' = true) (B : Nat) (w0 : World) (hb : Below B w0 w) (hBg : B ≤ g)
  (h : ∀ w', Hid (w'.heap[g]? = some (.cells (splice cur off cs).toArray t (0, 0))) → Below B w0 w' → wpList P ops Q rest (a.put o.dst (goInt m)) w') :
  wpList P ops Q (o :: rest) a w := by
 refine wpList_plain hgd fun K hK => ?_
 by_cases h0 : m = 0
 ·subst h0
  obtain rfl : cs = [] := List.eq_nil_of_length_eq_zero (by omega)
  have hrun := run_copy_noneN (P := P) w dT sT o.type elem dp sp dLen dCap sLen sCap hu (by rw [hsz]; rfl) hm
  unfold Oper.wp
  simp [execOp, ho, resolve, invoke, builtin, hd, hs, hrun, Result.andThen]
  exact hK _ _ (h w (show _ = _ by simpa [splice] using hg) hb)
 ·obtain ⟨rfl, ad, rfl, hsrc⟩ := hpos (by omega)
  have hrun := run_copy_rowN (P := P) w dT sT o.type elem g off dLen dCap ad sLen sCap cur.toArray t cs size m hu hsz hg hm hn hsrc (by simpa using hfit) h1
  unfold Oper.wp
  simp [execOp, ho, resolve, invoke, builtin, hd, hs, hrun, Result.andThen]
  exact hK _ _ (h _ (show _ = _ by simpa [splice] using setRow_heap w g _ _ t _ hg) (below_setRow hb hBg _))
end
section
open Go.RowKit

abbrev PtL := List (Value × EL)
def ptV (ps : PtL) (j : Nat) : Value := (ps.getD j (.slice none 0 0, [])).1
def ptL (ps : PtL) (j : Nat) : EL := (ps.getD j (.slice none 0 0, [])).2
def joinP (ps : PtL) (j : Nat) : EL := ((ps.take j).map (·.2)).flatten
theorem joinP_zero (ps : PtL) : joinP ps 0 = [] := rfl
theorem joinP_succ (ps : PtL) (j : Nat) (h : j < ps.length) : joinP ps (j + 1) = joinP ps j ++ ptL ps j := by
 unfold joinP ptL
 rw [List.take_succ_eq_append_getElem h, List.map_append, List.flatten_append]
 congr 1
 simp [List.getD, h]
theorem joinP_len (ps : PtL) (j : Nat) (h : j < ps.length) : (joinP ps (j + 1)).length = (joinP ps j).length + (ptL ps j).length := by rw [joinP_succ ps j h, List.length_append]
theorem joinP_mono (ps : PtL) : ∀ k j, j + k ≤ ps.length → (joinP ps j).length ≤ (joinP ps (j + k)).length := by
 intro k
 induction k with
 | zero => intro j _; exact Nat.le_refl _
 | succ k ih =>
  intro j h
  have h1 := ih j (by omega)
  have h2 := joinP_len ps (j + k) (by omega)
  rw [show j + (k + 1) = j + k + 1 by omega]
  omega
theorem joinP_le (ps : PtL) (j : Nat) (h : j ≤ ps.length) : (joinP ps j).length ≤ (joinP ps ps.length).length := by
 have := joinP_mono ps (ps.length - j) j (by omega)
 rwa [show j + (ps.length - j) = ps.length by omega] at this
def laidP (ps : PtL) (j : Nat) : List Value := flatE (joinP ps j ++ List.replicate ((joinP ps ps.length).length - (joinP ps j).length) en0)
theorem laidP_length (ps : PtL) (j : Nat) (h : j ≤ ps.length) : (laidP ps j).length = (joinP ps ps.length).length * 6 := by
 unfold laidP; rw [flatE_length, List.length_append, List.length_replicate]; have := joinP_le ps j h; omega
theorem laidP_full (ps : PtL) : laidP ps ps.length = flatE (joinP ps ps.length) := by unfold laidP; simp
theorem laidP_step (ps : PtL) (j : Nat) (h : j < ps.length) : splice (laidP ps j) ((joinP ps j).length * 6) (flatE (ptL ps j)) = laidP ps (j + 1) := by
 have hl := joinP_len ps j h
 have hle := joinP_le ps (j + 1) h
 unfold splice laidP
 obtain ⟨m, hm⟩ : ∃ m, (joinP ps ps.length).length - (joinP ps j).length = (ptL ps j).length + m := ⟨(joinP ps ps.length).length - (joinP ps j).length - (ptL ps j).length, by omega⟩
 rw [hm, show (joinP ps ps.length).length - (joinP ps (j + 1)).length = m by omega, joinP_succ ps j h]
 simp only [flatE_append, flatE_zero]
 rw [List.take_left' (by rw [flatE_length]), List.drop_append, List.drop_of_length_le (by rw [flatE_length]; omega), List.drop_replicate, flatE_length, flatE_length]
 simp only [List.nil_append, List.append_assoc]
 congr 3
 omega

theorem heap_of_full {w : World} {base e n : Nat} {g : Nat} {xs : List Value} (h : w.ownsRow base e 6 (.slice (some ⟨g, 0, none⟩) n n) n xs) : w.heap[g]? = some (.cells xs.toArray e (0, 0)) := by
 obtain ⟨hl, ⟨e1, _⟩ | ⟨g2, cap2, cur, e1, _, e2, h1, h2, h3, h4⟩⟩ := h
 ·simp at e1
 ·simp at e1
  obtain ⟨rfl, rfl⟩ := e1
  rw [e2]
  have : cur = xs.toArray := by
   apply Array.toList_inj.1
   rw [← h4]
   simp
   rw [List.take_of_length_le (by simp; omega)]
  rw [this]

theorem joined_any (pv : Value) (ps : PtL) (w : World) (h : Row w pv ps.length (ps.map (·.1))) (hall : ∀ j, j < ps.length → Row w (ptV ps j) (ptL ps j).length (flatE (ptL ps j))) (hs : (joinP ps ps.length).length ≤ 2097152) :
  Calls Tryz.prog 112 #[pv] w fun e w' => ∃ v', e = .returned v' ∧ w'.ownsRow w.heap.size 119 6 v' (joinP ps ps.length).length (flatE (joinP ps ps.length)) ∧ Below w.heap.size w w' := by
 obtain ⟨a, b, off, cap, rfl, hcap, hmax, ha, hx, -⟩ := h
 obtain ⟨i0, hi0, hz0, hz1, hz2⟩ := info_parts Tryz.info119
 unfold maxLen at hmax
 have HX : Hid (∀ j, j < ps.length → w.cell? ⟨b, off + j, none⟩ = some (ptV ps j)) := fun j hj => hx j _ (by simp [ptV, List.getD, hj])
 have HA : Hid (∀ j, j < ps.length → Row w (ptV ps j) (ptL ps j).length (flatE (ptL ps j))) := hall
 clear hx hall
 go_enter Tryz.func112, Tryz.ntmps112
 go_wp2
 go_loop [3, 12] (fun c i => ∃ j : Nat, j ≤ ps.length ∧ i = .int .i64 j ∧ c = .int .i64 ((joinP ps j).length : Nat)) (fun _ i => ps.length - (intOf i).toNat)
 case atStart => exact ⟨0, Nat.zero_le _, rfl, rfl⟩
 case round =>
  obtain ⟨j, hj, rfl, rfl⟩ := hrel
  by_cases hlt : j < ps.length
  ·have hal := ha (by omega)
   subst hal
   obtain ⟨aj, bj, oj, cj, hv, hc1, hc2, -⟩ := HA.out j hlt
   have d0 : w.cell? ⟨b, off + j, none⟩ = some (.slice aj (ptL ps j).length cj) := by rw [HX.out j hlt, hv]
   have hl := joinP_len ps j hlt
   have hle := joinP_le ps (j + 1) hlt
   have HL : Hid _ := hl
   have hb1 : (joinP ps j).length + (ptL ps j).length ≤ 2097152 := by omega
   clear hv hc1 hc2 hl hle
   generalize (joinP ps j).length = cj0 at *
   generalize (ptL ps j).length = lj at *
   go_wp2
   go_round
   case rel => exact ⟨j + 1, by omega, by go_num, by rw [HL.out]; go_num⟩
   case measure => simp [intOf]; omega
  ·have hjl : j = ps.length := by omega
   subst hjl
   go_wp2_with (at_make; refine wpList_make_full _ rfl _ _ 62 rfl w.heap.size 119 i0 _ 6 Tryz.underlying62 hi0 hz0 hz1 .i64 .i64 _ _ (joinP ps ps.length).length rfl rfl rfl rfl ?c1 ?c2 ?c3 ?_)
   case c1 => first | omega | (rw [hz2]; omega)
   case c2 => unfold maxLen; omega
   intro w0 hown0 hgrow0
   have hb0 : Below w.heap.size w w0 := (Below.refl _ _).grown hgrow0 (Nat.le_refl _) (fun k hk => by cases hk)
   have hh0 := heap_of_full hown0
   rw [show (madeCells _ ((joinP ps ps.length).length * 6)).toList = flatE (List.replicate (joinP ps ps.length).length en0) from madeCells_ent _] at hh0
   have HS : Hid (w0.heap[w.heap.size]? = some (.cells (laidP ps 0).toArray 119 (0, 0)) ∧ Below w.heap.size w w0) := ⟨by unfold laidP; rw [joinP_zero]; simpa using hh0, hb0⟩
   clear hgrow0 hown0 hb0 hh0
   go_wp2
   go_loopw [7, 25] (fun c i wr => ∃ j : Nat, j ≤ ps.length ∧ i = .int .i64 j ∧ c = .int .i64 ((joinP ps j).length : Nat) ∧ Hid (wr.heap[w.heap.size]? = some (.cells (laidP ps j).toArray 119 (0, 0))) ∧ Hid (Below w.heap.size w wr))
    (fun _ i _ => ps.length - (intOf i).toNat)
   case atStart => exact ⟨0, Nat.zero_le _, rfl, rfl, HS.out.1, HS.out.2⟩
   case round =>
    obtain ⟨j, hj, rfl, rfl, HC, HB⟩ := hrel
    clear HS
    by_cases hlt : j < ps.length
    ·have hal := ha (by omega)
     subst hal
     obtain ⟨aj, bj, oj, cj, hv, hc1, hc2, haj, hxj, -⟩ := HA.out j hlt
     have d0 : wr.cell? ⟨b, off + j, none⟩ = some (.slice aj (ptL ps j).length cj) := by rw [HB.out.cell (by exact cell_lt (HX.out j hlt)), HX.out j hlt, hv]
     have hl := joinP_len ps j hlt
     have hle := joinP_le ps (j + 1) hlt
     have HL : Hid _ := hl
     have HJ : Hid _ := And.intro haj hxj
     have hb1 : (joinP ps j).length + (ptL ps j).length ≤ (joinP ps ps.length).length := by omega
     clear hv hc1 hc2 hl hle haj hxj
     generalize hn0 : (joinP ps j).length = n0 at *
     generalize hn1 : (ptL ps j).length = n1 at *
     generalize hn2 : (joinP ps ps.length).length = n2 at *
     have HN : Hid _ := And.intro hn0 (And.intro hn1 hn2)
     clear hn0 hn1 hn2
     have hsz : (Tryz.prog.info? 119).map (·.size) = some 6 := by rw [hi0]; simp [hz1]
     have hcl : Hid ((flatE (ptL ps j)).length = n1 * 6) := by show _ = _; rw [flatE_length, HN.out.2.1]
     have hll : Hid ((laidP ps j).length = n2 * 6) := by show _ = _; rw [laidP_length ps j (by omega), HN.out.2.2]
     have hstep : Hid (splice (laidP ps j) (n0 * 6) (flatE (ptL ps j)) = laidP ps (j + 1)) := by show _ = _; have := laidP_step ps j hlt; rw [HN.out.1] at this; exact this
     have hsrc : Hid (0 < n1 → ∃ ad, aj = some ad ∧ ∀ k v, (flatE (ptL ps j))[k]? = some v → wr.cell? (ad.add k) = some v) := fun h0 => by
      refine ⟨⟨bj, oj, none⟩, HJ.out.1 h0, fun k v hk => ?_⟩
      have h1 := HJ.out.2 k v hk
      rw [show (Addr.add ⟨bj, oj, none⟩ k) = ⟨bj, oj + k, none⟩ by simp [Addr.add]]
      rw [HB.out.cell (by exact cell_lt h1)]
      exact h1
     by_cases hq : n2 = n0
     ·subst hq
      have hn1 : n1 = 0 := by omega
      subst hn1
      go_wp2_with (refine wpList_copy_N rfl _ _ 62 62 rfl 119 6 0 Tryz.underlying62 hsz (some ⟨w.heap.size, 0, none⟩) aj 0 0 0 cj rfl rfl w.heap.size (n2 * 6) (laidP ps j) 119 HC.out (flatE (ptL ps j)) rfl hcl.out (fun h => absurd h (Nat.lt_irrefl _)) (by rw [hcl.out, hll.out]; omega) (flatE_one _) w.heap.size w HB.out (Nat.le_refl _) ?_)
      intro w2 HG HB2
      have HG2 : Hid (w2.heap[w.heap.size]? = some (.cells (laidP ps (j + 1)).toArray 119 (0, 0))) := by have := HG.out; rw [hstep.out] at this; exact this
      have HB3 : Hid _ := HB2
      clear HG HB2
      go_wp2
      go_roundw
      case rel => exact ⟨j + 1, by omega, by go_num, by rw [HL.out]; go_num, HG2.out, HB3.out⟩
      case measure => simp [intOf]; omega
     ·have hmin : Nat.min n1 (n2 - n0) = n1 := Nat.min_eq_left (by omega)
      have HM : Hid _ := hmin
      clear hmin
      go_wp2_with (refine wpList_copy_N rfl _ _ 62 62 rfl 119 6 n1 Tryz.underlying62 hsz (some ⟨w.heap.size, n0 * 6, none⟩) aj (n2 - n0) (n2 - n0) n1 cj rfl rfl w.heap.size (n0 * 6) (laidP ps j) 119 HC.out (flatE (ptL ps j)) HM.out hcl.out (fun h => ⟨rfl, hsrc.out h⟩) (by rw [hcl.out, hll.out]; omega) (flatE_one _) w.heap.size w HB.out (Nat.le_refl _) ?_)
      intro w2 HG HB2
      have HG2 : Hid (w2.heap[w.heap.size]? = some (.cells (laidP ps (j + 1)).toArray 119 (0, 0))) := by have := HG.out; rw [hstep.out] at this; exact this
      have HB3 : Hid _ := HB2
      clear HG HB2
      go_wp2
      go_roundw
      case rel => exact ⟨j + 1, by omega, by go_num, by rw [HL.out]; go_num, HG2.out, HB3.out⟩
      case measure => simp [intOf]; omega
    ·have hjl : j = ps.length := by omega
     subst hjl
     have FIN : Hid (wr.ownsRow w.heap.size 119 6 (.slice (some ⟨w.heap.size, 0, none⟩) (joinP ps ps.length).length (joinP ps ps.length).length) (joinP ps ps.length).length (flatE (joinP ps ps.length)) ∧ Below w.heap.size w wr) := by
      refine ⟨⟨flatE_length _, .inr ⟨w.heap.size, _, _, rfl, Nat.le_refl _, HC.out, Nat.le_refl _, by unfold maxLen; omega, ?_, ?_⟩⟩, HB.out⟩
      ·simp [laidP_full, flatE_length]
      ·rw [laidP_full]; simp; rw [List.take_of_length_le (by rw [flatE_length]; omega)]
     clear HC HB HX HA
     go_wp2
     go_ret
     exact ⟨_, rfl, FIN.out⟩
end
section
open Go.RowKit

theorem Row.of_box {w : World} {B t k : Nat} {xs : List Value} (h : w.heap[B]? = some (.cells xs.toArray t (0, 0))) (hk : k ≤ maxLen) : Row w (.slice (some ⟨B, 0, none⟩) k k) k xs :=
 ⟨_, B, 0, k, rfl, Nat.le_refl _, hk, fun _ => rfl, fun j u hj => by rw [cell_of_cells h]; simpa using hj, fun h => by cases h⟩

theorem joined_one (B t : Nat) (v : Value) (l : EL) (w : World) (hB : w.heap[B]? = some (.cells #[v] t (0, 0))) (h : Row w v l.length (flatE l)) (hs : l.length ≤ 2097152) :
  Calls Tryz.prog 112 #[.slice (some ⟨B, 0, none⟩) 1 1] w fun e w' => ∃ v', e = .returned v' ∧ w'.ownsRow w.heap.size 119 6 v' l.length (flatE l) ∧ Below w.heap.size w w' := by
 have hj : joinP [(v, l)] [(v, l)].length = l := by simp [joinP]
 have := joined_any (.slice (some ⟨B, 0, none⟩) 1 1) [(v, l)] w (Row.of_box (xs := [v]) hB (by decide)) (fun j hj => by
  obtain rfl : j = 0 := by simpa using hj
  simpa [ptV, ptL] using h) (by rw [hj]; exact hs)
 rw [hj] at this
 exact this
end
end Go.Proofs.YtkcaelfkcepdkaaGreat
