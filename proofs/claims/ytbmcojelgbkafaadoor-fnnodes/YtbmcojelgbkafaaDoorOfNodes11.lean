/-
  A region that draws its order: operations that only make memory may come at any time; the walk takes them first, and bears that new blocks appear between its steps.
  Trees side by side that are being put together: the row of trees and the row of cuts are one's own, the trees lie elsewhere.
-/
import Derived.Test.YtbmcojelgbkafaaDoorOfNodes9
import Derived.Test.YtbmcojelgbkafaaDoorOfNodes10
namespace Go.Proofs.YtbmcojelgbkafaaDoor
set_option maxRecDepth 100000
set_option maxHeartbeats 8000000
section
open Go.RowKit

def Later (w w' : World) : Prop := Below w.heap.size w w'
theorem Later.refl (w : World) : Later w w := Below.refl _ _
theorem Later.trans {a b c : World} (h : Later a b) (k : Later b c) : Later a c := Below.and h k

variable {P : Program} {ops : Array Oper} {Q : Exit → Act → World → Prop} {S : World → Prop}

def wpR (P : Program) (ops : Array Oper) (Q : Exit → Act → World → Prop) (S : World → Prop) : Nat → Array Bool → Act → World → Prop
 | 0, listed, a, w => ∀ w', Later w w' → S w' → Region.ready .any ops listed = [] ∧ Q .normal a w'
 | f + 1, listed, a, w => ∀ w', Later w w' → S w' → (Region.ready .any ops listed = [] → Q .normal a w') ∧
   ∀ i ∈ Region.ready .any ops listed, wpOp P ops Q i (fun a' w'' => S w'' ∧ wpR P ops Q S f (listed.setIfInBounds i true) a' w'') a w'

theorem wpR.later : ∀ {f : Nat} {listed : Array Bool} {a : Act} {w u : World}, wpR P ops Q S f listed a w → Later w u → wpR P ops Q S f listed a u
 | 0, _, _, _, _, h, k => fun w' hw hS => h w' (k.trans hw) hS
 | _ + 1, _, _, _, _, h, k => fun w' hw hS => h w' (k.trans hw) hS
theorem wpR.held : ∀ {f : Nat} {listed : Array Bool} {a : Act} {w : World}, wpR P ops Q S f listed a w → S w → wpAnyH P .any ops Q S f listed a w
 | 0, _, _, w, h, hS => h w (Later.refl w) hS
 | f + 1, _, _, w, h, hS => by
  obtain ⟨h1, h2⟩ := h w (Later.refl w) hS
  exact ⟨h1, fun i hi => wpOp_mono (fun a' w' k => ⟨k.1, k.2.held k.1⟩) (h2 i hi)⟩

def plainB (o : Oper) : Bool :=
 match o.op with
 | .move _ | .assign _ | .alloc _ | .build _ _ | .buildSlice _ _ _ | .load _ _ | .store _ _ _ | .binOp _ _ _ _ _ | .slice _ _ _ _ _ | .fieldAddr _ _ _ | .indexAddr _ _ _ => true
 | .call c => match c.callee with
  | .builtin .append => true
  | _ => false
 | _ => false
theorem plain_run {o : Oper} (h : plainB o = true) (ρ : Operand → Value) (w : World) : (∃ v w', (execOp ρ o).run P w = .ok (.value v) w') ∨ (∃ w', (execOp ρ o).run P w = .ok .skip w') ∨ ∃ x w', (execOp ρ o).run P w = .halt x w' := by
 have key : ∀ s : Sem Value, (∃ v w', (do pure (Next.value (← s)) : Sem Next).run P w = .ok (.value v) w') ∨ (∃ w', (do pure (Next.value (← s)) : Sem Next).run P w = .ok .skip w') ∨ ∃ x w', (do pure (Next.value (← s)) : Sem Next).run P w = .halt x w' := by
  intro s
  simp only [Sem.run_bind, Sem.run_pure]
  cases s.run P w with
  | ok v w' => exact .inl ⟨v, w', rfl⟩
  | halt x w' => exact .inr (.inr ⟨x, w', rfl⟩)
 have key2 : ∀ s : Sem Unit, (∃ v w', (do s; pure Next.skip : Sem Next).run P w = .ok (.value v) w') ∨ (∃ w', (do s; pure Next.skip : Sem Next).run P w = .ok .skip w') ∨ ∃ x w', (do s; pure Next.skip : Sem Next).run P w = .halt x w' := by
  intro s
  simp only [Sem.run_bind, Sem.run_pure]
  cases s.run P w with
  | ok v w' => exact .inr (.inl ⟨w', rfl⟩)
  | halt x w' => exact .inr (.inr ⟨x, w', rfl⟩)
 obtain ⟨d, op, ty, pos, aft, g⟩ := o
 cases op <;> simp only [plainB] at h <;> try (exact absurd h (by decide))
 case move x => exact .inl ⟨_, w, rfl⟩
 case assign x => exact .inl ⟨_, w, rfl⟩
 case alloc e => exact key _
 case build t p => exact key _
 case buildSlice t l p => exact key _
 case load t x => exact key _
 case store t x y => exact key2 _
 case binOp => exact key _
 case slice => exact key _
 case fieldAddr => exact key _
 case indexAddr => exact key _
 case call c =>
  obtain ⟨callee, args, ats⟩ := c
  cases callee <;> simp only at h <;> try (exact absurd h (by decide))
  case builtin b =>
   cases b <;> simp only at h <;> try (exact absurd h (by decide))
   have : execOp ρ ⟨d, .call ⟨.builtin .append, args, ats⟩, ty, pos, aft, g⟩ = (do pure (Next.value (← Builtin.append_ ats ty (args.map ρ))) : Sem Next) := by
    simp [execOp, resolve, invoke, builtin]
   rw [this]
   exact key _

theorem plain_nosel {o : Oper} (h : plainB o = true) : ∀ cs b, o.op ≠ .select cs b := by
 intro cs b e
 simp [plainB, e] at h

theorem wpR_float {i : Nat} {oi : Oper} {R : Value → Prop} (hi : ops[i]? = some oi) (hp : ∀ (j : Nat) (o : Oper), ops[j]? = some o → o.guard = none ∧ plainB o = true)
  (hQ : ∀ c v a w, Q (.panic c) (a.put oi.dst v) w → Q (.panic c) a w) :
  ∀ (fuel : Nat) (listed : Array Bool) (a : Act) (w : World),
   (∀ j oj, ops[j]? = some oj → j ≠ i → listed.getD j true = false → (∀ e ∈ oj.after, Region.binds .any e = true → e.on ≠ i) → oi.apart ops oj = true) →
   i ∈ Region.ready .any ops listed → (∀ w', S w' → ∃ v u, (execOp a.eval oi).run P w' = .ok (.value v) u ∧ R v ∧ Later w' u ∧ S u) →
   (∀ v, R v → wpR P ops Q S fuel (listed.setIfInBounds i true) (a.put oi.dst v) w) → wpR P ops Q S (fuel + 1) listed a w := by
 have hw : ∀ (o : Oper), o.guard = none → ∀ y, Region.wanted o y = true := fun o h y => by simp [Region.wanted, h]
 have hself : ∀ (fuel : Nat) (listed : Array Bool) (a : Act) (w w' : World), (∀ w', S w' → ∃ v u, (execOp a.eval oi).run P w' = .ok (.value v) u ∧ R v ∧ Later w' u ∧ S u) → (∀ v, R v → wpR P ops Q S fuel (listed.setIfInBounds i true) (a.put oi.dst v) w) → Later w w' → S w' →
   wpOp P ops Q i (fun a' w'' => S w'' ∧ wpR P ops Q S fuel (listed.setIfInBounds i true) a' w'') a w' := by
  intro fuel listed a w w' hrun H hl hS
  obtain ⟨v, u, hr, hR, hu, hSu⟩ := hrun w' hS
  unfold wpOp
  simp only [hi]
  rw [if_pos (hw oi (hp i oi hi).1 _)]
  refine .inl ?_
  unfold Oper.wp
  rw [hr]
  exact ⟨hSu, (H v hR).later (hl.trans hu)⟩
 intro fuel
 induction fuel with
 | zero =>
  intro listed a w _ hr hrun H w' hl hS
  refine ⟨fun h => (by rw [h] at hr; cases hr), fun j hj => ?_⟩
  by_cases hji : j = i
  ·subst hji; exact hself 0 listed a w w' hrun H hl hS
  ·obtain ⟨v, u, _, hR, _⟩ := hrun w' hS
   have h1 := (H v hR w' hl hS).1
   have := ready_mono hj hji
   rw [h1] at this
   cases this
 | succ fuel ih =>
  intro listed a w hfree hr hrun H w' hl hS
  refine ⟨fun h => (by rw [h] at hr; cases hr), fun j hj => ?_⟩
  by_cases hji : j = i
  ·subst hji; exact hself (fuel + 1) listed a w w' hrun H hl hS
  ·obtain ⟨hjun, oj, hoj, hall⟩ := mem_ready.1 hj
   have hnot : ∀ e ∈ oj.after, Region.binds .any e = true → e.on ≠ i := fun e he hb heq => by
    have h1 := hall e he hb
    have h0 := (mem_ready.1 hr).1
    rw [heq] at h1
    rcases Nat.lt_or_ge i listed.size with h' | h'
    ·simp [h'] at h0 h1; rw [h0] at h1; cases h1
    ·simp [Array.getElem?_eq_none h'] at h1
   obtain ⟨h1, h2, h3⟩ := Oper.apart_spec (hfree j oj hoj hji hjun hnot)
   have hsj := plain_nosel (hp j oj hoj).2
   have hsi := plain_nosel (hp i oi hi).2
   have hfree' : ∀ k ok, ops[k]? = some ok → k ≠ i → (listed.setIfInBounds j true).getD k true = false →
     (∀ e ∈ ok.after, Region.binds .any e = true → e.on ≠ i) → oi.apart ops ok = true := fun k ok hk hki hun hno => by
    refine hfree k ok hk hki ?_ hno
    by_cases hjk : j = k
    ·subst hjk; exact hjun
    ·rw [getD_set_ne true hjk] at hun; exact hun
   have hstep : ∀ v, R v → oj.wp P (a.put oi.dst v) w' (fun a' w'' => S w'' ∧ wpR P ops Q S fuel ((listed.setIfInBounds i true).setIfInBounds j true) a' w'') Q ∨ (oj.asks P (a.put oi.dst v) w' ∧ LetsOut Q) := fun v hv => by
    have := (H v hv w' hl hS).2 j (ready_mono hj hji)
    unfold wpOp at this
    simp only [hoj] at this
    rw [if_pos (hw oj (hp j oj hoj).1 _)] at this
    exact this
   unfold wpOp
   simp only [hoj]
   rw [if_pos (hw oj (hp j oj hoj).1 _)]
   by_cases hask : oj.asks P a w' ∧ LetsOut Q
   ·exact .inr hask
   refine .inl ?_
   have hstep' : ∀ v, R v → oj.upon P (a.put oi.dst v) (fun a' w'' => S w'' ∧ wpR P ops Q S fuel ((listed.setIfInBounds i true).setIfInBounds j true) a' w'') Q ((execOp a.eval oj).run P w') := fun v hv => by
    rcases hstep v hv with h | ⟨h, k⟩
    ·unfold Oper.wp at h
     rw [execOp_put oj hsj a oi.dst v h1] at h
     exact h
    ·exfalso
     apply hask
     unfold Oper.asks at *
     rw [execOp_put oj hsj a oi.dst v h1] at h
     exact ⟨h, k⟩
   have next : ∀ (u : Value) (w'' : World), (∀ v, R v → S w'' ∧ wpR P ops Q S fuel ((listed.setIfInBounds i true).setIfInBounds j true) ((a.put oi.dst v).put oj.dst u) w'') → S w'' ∧ wpR P ops Q S (fuel + 1) (listed.setIfInBounds j true) (a.put oj.dst u) w'' := by
    intro u w'' hall'
    obtain ⟨v0, _, _, hR0, _⟩ := hrun w' hS
    refine ⟨(hall' v0 hR0).1, ih (listed.setIfInBounds j true) (a.put oj.dst u) w'' hfree' (ready_mono hr (Ne.symm hji)) (fun w3 hS3 => ?_) (fun v hv => ?_)⟩
    ·rw [execOp_put oi hsi a oj.dst u h3]
     exact hrun w3 hS3
    ·have := (hall' v hv).2
     rw [Act.put_comm a v u h2, Array.setIfInBounds_comm _ _ (Ne.symm hji)] at this
     exact this
   unfold Oper.wp
   rcases plain_run (P := P) (hp j oj hoj).2 a.eval w' with ⟨u, w'', hrun'⟩ | ⟨w'', hrun'⟩ | ⟨x, w'', hrun'⟩
   ·rw [hrun'] at hstep' ⊢
    exact next u w'' (fun v hv => hstep' v hv)
   ·rw [hrun'] at hstep' ⊢
    exact next undef w'' (fun v hv => hstep' v hv)
   ·rw [hrun'] at hstep' ⊢
    obtain ⟨v0, _, _, hR0, _⟩ := hrun w' hS
    have := hstep' v0 hR0
    cases x <;> simp only [Oper.upon] at this ⊢
    case panic u => exact hQ _ _ _ _ this

def plainsB (ops : Array Oper) : Bool := ops.toList.all fun o => o.guard.isNone && plainB o
theorem plainsB_spec (h : plainsB ops = true) : ∀ (j : Nat) (o : Oper), ops[j]? = some o → o.guard = none ∧ plainB o = true := by
 intro j o ho
 unfold plainsB at h
 rw [List.all_eq_true] at h
 have := h o (by
  have := Array.mem_of_getElem? ho
  simpa using this)
 simp only [Bool.and_eq_true] at this
 exact ⟨by simpa using this.1, this.2⟩

theorem wpR_take {i : Nat} {oi : Oper} (R : Value → Prop) {fuel : Nat} {listed : Array Bool} {a : Act} {w : World} (hi : ops[i]? = some oi) (hp : plainsB ops = true) (hf : Region.free .any ops listed i = true) (hr : (Region.ready .any ops listed).contains i = true)
  (hQ : ∀ c v a w, Q (.panic c) (a.put oi.dst v) w → Q (.panic c) a w) (hrun : ∀ w', S w' → ∃ v u, (execOp a.eval oi).run P w' = .ok (.value v) u ∧ R v ∧ Later w' u ∧ S u)
  (h : ∀ v, R v → wpR P ops Q S fuel (listed.setIfInBounds i true) (a.put oi.dst v) w) : wpR P ops Q S (fuel + 1) listed a w :=
 wpR_float hi (plainsB_spec hp) hQ fuel listed a w (Region.free_spec hi hf) (by simpa using hr) hrun h

theorem wpR_one {i : Nat} {o : Oper} {fuel : Nat} {listed : Array Bool} {a : Act} {w : World} (hr : Region.ready .any ops listed = [i]) (ho : ops[i]? = some o)
  (h : ∀ w', Later w w' → S w' → ∀ K' : Act → World → Prop, Shut (∀ a w, S w → wpR P ops Q S fuel (listed.setIfInBounds i true) a w → K' a w) → if Region.wanted o (yielded ops a.tmps) = true then Oper.wp P o a w' K' Q else K' (a.put o.dst undef) w') :
  wpR P ops Q S (fuel + 1) listed a w := fun w' hl hS => ⟨fun h0 => (by rw [hr] at h0; cases h0), fun j hj => by
  rw [hr] at hj
  simp only [List.mem_singleton] at hj
  subst hj
  exact wpOp_step ho (fun K' hK => h w' hl hS K' (fun a w h1 h2 => hK a w ⟨h1, h2⟩))⟩
theorem wpR_done {listed : Array Bool} {a : Act} {w : World} (hr : Region.ready .any ops listed = []) (h : ∀ w', Later w w' → S w' → Q .normal a w') : ∀ fuel, wpR P ops Q S fuel listed a w
 | 0 => fun w' hl hS => ⟨hr, h w' hl hS⟩
 | _ + 1 => fun w' hl hS => ⟨fun _ => h w' hl hS, by rw [hr]; simp⟩
end
section
open Go.RowKit

abbrev offB (G : Nat → Prop) (vt vc : Value) (b : Nat) : Prop := G b ∧ ¬ wrB vt b ∧ ¬ wrB vc b
def OutM (n s : Nat) (G : Nat → Prop) (w : World) (vt vc : Value) (ts : List Tr) (cs : List Int) : Prop :=
 ∃ xs : List TV, xs.length = ts.length ∧ OwnE w s 29 5 vt xs.length (flatT xs) ∧ OwnE w s 3 1 vc cs.length (flatI cs) ∧ (∀ g, wrB vt g → ¬ wrB vc g) ∧
  ∀ i, i < xs.length → TreeF n w (offB G vt vc) (tvAt xs i) (ts.getD i noTr)

variable {n s : Nat} {G : Nat → Prop} {w w' : World} {vt vc vt' vc' : Value} {ts us : List Tr} {cs : List Int}

theorem OutM.nil (n s : Nat) (G : Nat → Prop) (w : World) : OutM n s G w (.slice none 0 0) (.slice none 0 0) [] [] :=
 ⟨[], rfl, OwnE.nil _ _ _ _, OwnE.nil _ _ _ _, fun g h => absurd h (wrB_nil g), fun i hi => by simp at hi⟩
theorem OutM.shape (h : OutM n s G w vt vc ts cs) : ∃ (a : Option Addr) (q : Nat) (a' : Option Addr) (q' : Nat), vt = .slice a ts.length q ∧ vc = .slice a' cs.length q' := by
 obtain ⟨xs, h1, h2, h3, _⟩ := h
 obtain ⟨a, q, e⟩ := h2.slice
 obtain ⟨a', q', e'⟩ := h3.slice
 rw [h1] at e
 exact ⟨a, q, a', q', e, e'⟩
theorem OutM.chg {p : Nat → Prop} (h : OutM n s G w vt vc ts cs) (hc : Chg p w w') (hp : ∀ g, p g → ¬ G g ∧ g < s) : OutM n s G w' vt vc ts cs := by
 obtain ⟨xs, h1, h2, h3, h4, h5⟩ := h
 refine ⟨xs, h1, h2.chg hc (fun g hg k => ?_), h3.chg hc (fun g hg k => ?_), h4, fun i hi => (h5 i hi).chg hc (fun g hg k => (hp g k).1 hg.1)⟩
 ·have := (h2.lt g hg).1
  have := (hp g k).2
  omega
 ·have := (h3.lt g hg).1
  have := (hp g k).2
  omega
theorem OutM.below (h : OutM n s G w vt vc ts cs) (hb : Below w.heap.size w w') : OutM n s G w' vt vc ts cs :=
 h.chg (Chg.of_below (F := fun _ => False) hb) (fun _ h => h.elim)
theorem OutM.alloc (h : OutM n s G w vt vc ts cs) (o : Obj) : OutM n s G (w.alloc o) vt vc ts cs := h.below (al1 w o)
theorem OutM.drew (h : OutM n s G w vt vc ts cs) : OutM n s G w.drew vt vc ts cs := h.below (Below.refl _ _).drew
theorem OutM.rowC (h : OutM n s G w vt vc ts cs) : OwnE w s 3 1 vc cs.length (flatI cs) := by
 obtain ⟨xs, h1, h2, h3, _⟩ := h
 exact h3
theorem OutM.addC (h : OutM n s G w vt vc ts cs) {ds : List Int} (a : AppTo w s 3 1 vc (cs.length + ds.length) (flatI cs ++ flatI ds) vc' w') : OutM n s G w' vt vc' ts (cs ++ ds) := by
 obtain ⟨xs, h1, h2, h3, h4, h5⟩ := h
 obtain ⟨a1, a2, a3, a4⟩ := a
 refine ⟨xs, h1, h2.chg a2 (fun g hg k => h4 g hg k), by rw [List.length_append, flatI_append]; exact a1, fun g hg k => ?_, fun i hi => ?_⟩
 ·rcases a4 g k with k | k
  ·exact h4 g hg k
  ·have := (h2.lt g hg).2
   omega
 ·have := ((h5 i hi).lt).chg a2 (fun g hg k => hg.1.2.2 k)
  refine this.mono fun g hg => ⟨hg.1.1, hg.1.2.1, fun k => ?_⟩
  rcases a4 g k with k | k
  ·exact hg.1.2.2 k
  ·have := hg.2
   omega
theorem OutM.addT (h : OutM n s G w vt vc ts cs) {ys : List TV} {m : Nat} (hm : m = ys.length) (hl : ys.length = us.length) (he : ∀ i, i < ys.length → TreeF n w (offB G vt vc) (tvAt ys i) (us.getD i noTr))
  {xs : List TV} (hx : xs.length = ts.length) (hx3 : ∀ i, i < xs.length → TreeF n w (offB G vt vc) (tvAt xs i) (ts.getD i noTr))
  (a : AppTo w s 29 5 vt (xs.length + m) (flatT xs ++ flatT ys) vt' w') : OutM n s G w' vt' vc (ts ++ us) cs := by
 subst hm
 obtain ⟨_, _, _, h3, h4, _⟩ := h
 obtain ⟨a1, a2, a3, a4⟩ := a
 refine ⟨xs ++ ys, by simp [hx, hl], by rw [List.length_append, flatT_append]; exact a1, h3.chg a2 (fun g hg k => h4 g k hg), fun g hg k => ?_, fun i hi => ?_⟩
 ·rcases a4 g hg with hg | hg
  ·exact h4 g hg k
  ·have := (h3.lt g k).2
   omega
 ·have key : ∀ {x : TV} {T : Tr}, TreeF n w (offB G vt vc) x T → TreeF n w' (offB G vt' vc) x T := fun t => by
   refine ((t.lt).chg a2 (fun g hg k => hg.1.2.1 k)).mono fun g hg => ⟨hg.1.1, fun k => ?_, hg.1.2.2⟩
   rcases a4 g k with k | k
   ·exact hg.1.2.1 k
   ·have := hg.2
    omega
  rw [List.length_append] at hi
  by_cases hxi : i < xs.length
  ·have e1 : tvAt (xs ++ ys) i = tvAt xs i := by simp [tvAt, List.getD, List.getElem?_append_left hxi]
   have e2 : (ts ++ us).getD i noTr = ts.getD i noTr := by simp [List.getD, List.getElem?_append_left (hx ▸ hxi : i < ts.length)]
   rw [e1, e2]
   exact key (hx3 i hxi)
  ·have e1 : tvAt (xs ++ ys) i = tvAt ys (i - xs.length) := by simp [tvAt, List.getD, List.getElem?_append_right (Nat.le_of_not_lt hxi)]
   have e2 : (ts ++ us).getD i noTr = us.getD (i - xs.length) noTr := by simp [List.getD, List.getElem?_append_right (hx ▸ (Nat.le_of_not_lt hxi) : ts.length ≤ i), hx]
   rw [e1, e2]
   exact key (he _ (by omega))
theorem OutM.trees (h : OutM n s G w vt vc ts cs) (hG : ∀ g, s ≤ g → G g) : TreesF n w G vt ts ∧ RowF w G vc cs.length (flatI cs) := by
 obtain ⟨xs, h1, h2, h3, h4, h5⟩ := h
 exact ⟨⟨xs, h1, (h2.rowF).mono (fun g hg => hG g (h2.lt g hg).1), fun i hi => (h5 i hi).mono fun g hg => hg.1⟩, (h3.rowF).mono (fun g hg => hG g (h3.lt g hg).1)⟩

theorem tv_one {a1 a2 a3 a4 : Option Addr} {l : Bool} {n1 n2 n3 n4 q1 q2 q3 q4 : Nat} : ∀ y ∈ [Value.bool l, .slice a1 n1 q1, .slice a2 n2 q2, .slice a3 n3 q3, .slice a4 n4 q4], y.oneCell' = true := by
 intro y hy
 simp at hy
 rcases hy with rfl | rfl | rfl | rfl | rfl <;> rfl
theorem RowF.laid (W : World) (xs : List Value) (e B : Nat) (hB : B = W.heap.size) : RowF (W.alloc (.cells xs.toArray e)) (fun g => g = B) (.slice (some ⟨B, 0, none⟩) 1 1) 1 xs := by
 subst hB
 refine ⟨_, W.heap.size, 0, 1, rfl, Nat.le_refl _, by decide, fun _ => ⟨rfl, rfl, _, _, heap_alloc_new W _⟩, fun j u hj => ?_, (fun h => by cases h), fun h => by omega⟩
 rw [Nat.zero_add, cell_of_cells (heap_alloc_new W _)]
 simpa using hj
end
end Go.Proofs.YtbmcojelgbkafaaDoor
