/-
  A region that draws its order: operations that only make memory may come at any time; the walk takes them first, and bears that new blocks appear between its steps.
  Trees side by side that are being put together: the row of trees and the row of cuts are one's own, the trees lie elsewhere.
  The contract of the model's l4Leaf.
  The contract of the model's l4Pack.
  Rows of trees, piece by piece; the contract of the model's l4Put over trees.
  The library's Grow and Concat, over trees and over numbers: any number of parts.
  The program's slices.Clone, of pairs, cuts, messages and kids.
  The copier's map: from where a list of kids stands to its copy.
-/
import Derived.Test.YtmdajbbpigbdcaaGreatOfFeed13
import Derived.Test.YtmdajbbpigbdcaaGreatOfFeed12
import Derived.Lib.BufferMore
import Derived.Laws.StructEq
import Derived.LaidEql
import Derived.MapKept
namespace Go.Proofs.YtmdajbbpigbdcaaGreat
set_option maxRecDepth 100000
set_option maxHeartbeats 8000000
section
open Go.RowKit

def Later (w w' : World) : Prop := Below w.heap.size w w'
theorem Later.refl (w : World) : Later w w := Below.refl _ _
theorem Later.trans {a b c : World} (h : Later a b) (k : Later b c) : Later a c := Below.and h k

variable {P : Program} {ops : Array Oper} {Q : Exit → Act → World → Prop} {S : World → Prop}

def wpR (P : Program) (ops : Array Oper) (Q : Exit → Act → World → Prop) (S : World → Prop) : Nat → Array Bool → Act → World → Prop
 | 0, listed, a, w => ∀ w', Later w w' → S w' → Region.ready .any ops listed = [] ∧ Q .normal a w'
 | f + 1, listed, a, w => ∀ w', Later w w' → S w' → (Region.ready .any ops listed = [] → Q .normal a w') ∧
   ∀ i ∈ Region.ready .any ops listed, wpOp P ops Q i (fun a' w'' => S w'' ∧ wpR P ops Q S f (listed.setIfInBounds i true) a' w'') a w'

theorem wpR.later : ∀ {f : Nat} {listed : Array Bool} {a : Act} {w u : World}, wpR P ops Q S f listed a w → Later w u → wpR P ops Q S f listed a u
 | 0, _, _, _, _, h, k => fun w' hw hS => h w' (k.trans hw) hS
 | _ + 1, _, _, _, _, h, k => fun w' hw hS => h w' (k.trans hw) hS
theorem wpR.held : ∀ {f : Nat} {listed : Array Bool} {a : Act} {w : World}, wpR P ops Q S f listed a w → S w → wpAnyH P .any ops Q S f listed a w
 | 0, _, _, w, h, hS => h w (Later.refl w) hS
 | f + 1, _, _, w, h, hS => by
  obtain ⟨h1, h2⟩ := h w (Later.refl w) hS
  exact ⟨h1, fun i hi => wpOp_mono (fun a' w' k => ⟨k.1, k.2.held k.1⟩) (h2 i hi)⟩

def plainB (o : Oper) : Bool :=
 match o.op with
 | .move _ | .assign _ | .alloc _ | .build _ _ | .buildSlice _ _ _ | .load _ _ | .store _ _ _ | .binOp _ _ _ _ _ | .slice _ _ _ _ _ | .fieldAddr _ _ _ | .indexAddr _ _ _ => true
 | .call c => match c.callee with
  | .builtin .append => true
  | _ => false
 | _ => false
theorem plain_run {o : Oper} (h : plainB o = true) (ρ : Operand → Value) (w : World) : (∃ v w', (execOp ρ o).run P w = .ok (.value v) w') ∨ (∃ w', (execOp ρ o).run P w = .ok .skip w') ∨ ∃ x w', (execOp ρ o).run P w = .halt x w' := by
 have key : ∀ s : Sem Value, (∃ v w', (do pure (Next.value (← s)) : Sem Next).run P w = .ok (.value v) w') ∨ (∃ w', (do pure (Next.value (← s)) : Sem Next).run P w = .ok .skip w') ∨ ∃ x w', (do pure (Next.value (← s)) : Sem Next).run P w = .halt x w' := by
  intro s
  simp only [Sem.run_bind, Sem.run_pure]
  cases s.run P w with
  | ok v w' => exact .inl ⟨v, w', rfl⟩
  | halt x w' => exact .inr (.inr ⟨x, w', rfl⟩)
 have key2 : ∀ s : Sem Unit, (∃ v w', (do s; pure Next.skip : Sem Next).run P w = .ok (.value v) w') ∨ (∃ w', (do s; pure Next.skip : Sem Next).run P w = .ok .skip w') ∨ ∃ x w', (do s; pure Next.skip : Sem Next).run P w = .halt x w' := by
  intro s
  simp only [Sem.run_bind, Sem.run_pure]
  cases s.run P w with
  | ok v w' => exact .inr (.inl ⟨w', rfl⟩)
  | halt x w' => exact .inr (.inr ⟨x, w', rfl⟩)
 obtain ⟨d, op, ty, pos, aft, g⟩ := o
 cases op <;> simp only [plainB] at h <;> try (exact absurd h (by decide))
 case move x => exact .inl ⟨_, w, rfl⟩
 case assign x => exact .inl ⟨_, w, rfl⟩
 case alloc e => exact key _
 case build t p => exact key _
 case buildSlice t l p => exact key _
 case load t x => exact key _
 case store t x y => exact key2 _
 case binOp => exact key _
 case slice => exact key _
 case fieldAddr => exact key _
 case indexAddr => exact key _
 case call c =>
  obtain ⟨callee, args, ats⟩ := c
  cases callee <;> simp only at h <;> try (exact absurd h (by decide))
  case builtin b =>
   cases b <;> simp only at h <;> try (exact absurd h (by decide))
   have : execOp ρ ⟨d, .call ⟨.builtin .append, args, ats⟩, ty, pos, aft, g⟩ = (do pure (Next.value (← Builtin.append_ ats ty (args.map ρ))) : Sem Next) := by
    simp [execOp, resolve, invoke, builtin]
   rw [this]
   exact key _

theorem plain_nosel {o : Oper} (h : plainB o = true) : ∀ cs b, o.op ≠ .select cs b := by
 intro cs b e
 simp [plainB, e] at h

theorem wpR_float {i : Nat} {oi : Oper} {R : Value → Prop} (hi : ops[i]? = some oi) (hp : ∀ (j : Nat) (o : Oper), ops[j]? = some o → o.guard = none ∧ plainB o = true)
  (hQ : ∀ c v a w, Q (.panic c) (a.put oi.dst v) w → Q (.panic c) a w) :
  ∀ (fuel : Nat) (listed : Array Bool) (a : Act) (w : World),
   (∀ j oj, ops[j]? = some oj → j ≠ i → listed.getD j true = false → (∀ e ∈ oj.after, Region.binds .any e = true → e.on ≠ i) → oi.apart ops oj = true) →
   i ∈ Region.ready .any ops listed → (∀ w', S w' → ∃ v u, (execOp a.eval oi).run P w' = .ok (.value v) u ∧ R v ∧ Later w' u ∧ S u) →
   (∀ v, R v → wpR P ops Q S fuel (listed.setIfInBounds i true) (a.put oi.dst v) w) → wpR P ops Q S (fuel + 1) listed a w := by
 have hw : ∀ (o : Oper), o.guard = none → ∀ y, Region.wanted o y = true := fun o h y => by simp [Region.wanted, h]
 have hself : ∀ (fuel : Nat) (listed : Array Bool) (a : Act) (w w' : World), (∀ w', S w' → ∃ v u, (execOp a.eval oi).run P w' = .ok (.value v) u ∧ R v ∧ Later w' u ∧ S u) → (∀ v, R v → wpR P ops Q S fuel (listed.setIfInBounds i true) (a.put oi.dst v) w) → Later w w' → S w' →
   wpOp P ops Q i (fun a' w'' => S w'' ∧ wpR P ops Q S fuel (listed.setIfInBounds i true) a' w'') a w' := by
  intro fuel listed a w w' hrun H hl hS
  obtain ⟨v, u, hr, hR, hu, hSu⟩ := hrun w' hS
  unfold wpOp
  simp only [hi]
  rw [if_pos (hw oi (hp i oi hi).1 _)]
  refine .inl ?_
  unfold Oper.wp
  rw [hr]
  exact ⟨hSu, (H v hR).later (hl.trans hu)⟩
 intro fuel
 induction fuel with
 | zero =>
  intro listed a w _ hr hrun H w' hl hS
  refine ⟨fun h => (by rw [h] at hr; cases hr), fun j hj => ?_⟩
  by_cases hji : j = i
  ·subst hji; exact hself 0 listed a w w' hrun H hl hS
  ·obtain ⟨v, u, _, hR, _⟩ := hrun w' hS
   have h1 := (H v hR w' hl hS).1
   have := ready_mono hj hji
   rw [h1] at this
   cases this
 | succ fuel ih =>
  intro listed a w hfree hr hrun H w' hl hS
  refine ⟨fun h => (by rw [h] at hr; cases hr), fun j hj => ?_⟩
  by_cases hji : j = i
  ·subst hji; exact hself (fuel + 1) listed a w w' hrun H hl hS
  ·obtain ⟨hjun, oj, hoj, hall⟩ := mem_ready.1 hj
   have hnot : ∀ e ∈ oj.after, Region.binds .any e = true → e.on ≠ i := fun e he hb heq => by
    have h1 := hall e he hb
    have h0 := (mem_ready.1 hr).1
    rw [heq] at h1
    rcases Nat.lt_or_ge i listed.size with h' | h'
    ·simp [h'] at h0 h1; rw [h0] at h1; cases h1
    ·simp [Array.getElem?_eq_none h'] at h1
   obtain ⟨h1, h2, h3⟩ := Oper.apart_spec (hfree j oj hoj hji hjun hnot)
   have hsj := plain_nosel (hp j oj hoj).2
   have hsi := plain_nosel (hp i oi hi).2
   have hfree' : ∀ k ok, ops[k]? = some ok → k ≠ i → (listed.setIfInBounds j true).getD k true = false →
     (∀ e ∈ ok.after, Region.binds .any e = true → e.on ≠ i) → oi.apart ops ok = true := fun k ok hk hki hun hno => by
    refine hfree k ok hk hki ?_ hno
    by_cases hjk : j = k
    ·subst hjk; exact hjun
    ·rw [getD_set_ne true hjk] at hun; exact hun
   have hstep : ∀ v, R v → oj.wp P (a.put oi.dst v) w' (fun a' w'' => S w'' ∧ wpR P ops Q S fuel ((listed.setIfInBounds i true).setIfInBounds j true) a' w'') Q ∨ (oj.asks P (a.put oi.dst v) w' ∧ LetsOut Q) := fun v hv => by
    have := (H v hv w' hl hS).2 j (ready_mono hj hji)
    unfold wpOp at this
    simp only [hoj] at this
    rw [if_pos (hw oj (hp j oj hoj).1 _)] at this
    exact this
   unfold wpOp
   simp only [hoj]
   rw [if_pos (hw oj (hp j oj hoj).1 _)]
   by_cases hask : oj.asks P a w' ∧ LetsOut Q
   ·exact .inr hask
   refine .inl ?_
   have hstep' : ∀ v, R v → oj.upon P (a.put oi.dst v) (fun a' w'' => S w'' ∧ wpR P ops Q S fuel ((listed.setIfInBounds i true).setIfInBounds j true) a' w'') Q ((execOp a.eval oj).run P w') := fun v hv => by
    rcases hstep v hv with h | ⟨h, k⟩
    ·unfold Oper.wp at h
     rw [execOp_put oj hsj a oi.dst v h1] at h
     exact h
    ·exfalso
     apply hask
     unfold Oper.asks at *
     rw [execOp_put oj hsj a oi.dst v h1] at h
     exact ⟨h, k⟩
   have next : ∀ (u : Value) (w'' : World), (∀ v, R v → S w'' ∧ wpR P ops Q S fuel ((listed.setIfInBounds i true).setIfInBounds j true) ((a.put oi.dst v).put oj.dst u) w'') → S w'' ∧ wpR P ops Q S (fuel + 1) (listed.setIfInBounds j true) (a.put oj.dst u) w'' := by
    intro u w'' hall'
    obtain ⟨v0, _, _, hR0, _⟩ := hrun w' hS
    refine ⟨(hall' v0 hR0).1, ih (listed.setIfInBounds j true) (a.put oj.dst u) w'' hfree' (ready_mono hr (Ne.symm hji)) (fun w3 hS3 => ?_) (fun v hv => ?_)⟩
    ·rw [execOp_put oi hsi a oj.dst u h3]
     exact hrun w3 hS3
    ·have := (hall' v hv).2
     rw [Act.put_comm a v u h2, Array.setIfInBounds_comm _ _ (Ne.symm hji)] at this
     exact this
   unfold Oper.wp
   rcases plain_run (P := P) (hp j oj hoj).2 a.eval w' with ⟨u, w'', hrun'⟩ | ⟨w'', hrun'⟩ | ⟨x, w'', hrun'⟩
   ·rw [hrun'] at hstep' ⊢
    exact next u w'' (fun v hv => hstep' v hv)
   ·rw [hrun'] at hstep' ⊢
    exact next undef w'' (fun v hv => hstep' v hv)
   ·rw [hrun'] at hstep' ⊢
    obtain ⟨v0, _, _, hR0, _⟩ := hrun w' hS
    have := hstep' v0 hR0
    cases x <;> simp only [Oper.upon] at this ⊢
    case panic u => exact hQ _ _ _ _ this

def plainsB (ops : Array Oper) : Bool := ops.toList.all fun o => o.guard.isNone && plainB o
theorem plainsB_spec (h : plainsB ops = true) : ∀ (j : Nat) (o : Oper), ops[j]? = some o → o.guard = none ∧ plainB o = true := by
 intro j o ho
 unfold plainsB at h
 rw [List.all_eq_true] at h
 have := h o (by
  have := Array.mem_of_getElem? ho
  simpa using this)
 simp only [Bool.and_eq_true] at this
 exact ⟨by simpa using this.1, this.2⟩

theorem wpR_take {i : Nat} {oi : Oper} (R : Value → Prop) {fuel : Nat} {listed : Array Bool} {a : Act} {w : World} (hi : ops[i]? = some oi) (hp : plainsB ops = true) (hf : Region.free .any ops listed i = true) (hr : (Region.ready .any ops listed).contains i = true)
  (hQ : ∀ c v a w, Q (.panic c) (a.put oi.dst v) w → Q (.panic c) a w) (hrun : ∀ w', S w' → ∃ v u, (execOp a.eval oi).run P w' = .ok (.value v) u ∧ R v ∧ Later w' u ∧ S u)
  (h : ∀ v, R v → wpR P ops Q S fuel (listed.setIfInBounds i true) (a.put oi.dst v) w) : wpR P ops Q S (fuel + 1) listed a w :=
 wpR_float hi (plainsB_spec hp) hQ fuel listed a w (Region.free_spec hi hf) (by simpa using hr) hrun h

theorem wpR_one {i : Nat} {o : Oper} {fuel : Nat} {listed : Array Bool} {a : Act} {w : World} (hr : Region.ready .any ops listed = [i]) (ho : ops[i]? = some o)
  (h : ∀ w', Later w w' → S w' → ∀ K' : Act → World → Prop, Shut (∀ a w, S w → wpR P ops Q S fuel (listed.setIfInBounds i true) a w → K' a w) → if Region.wanted o (yielded ops a.tmps) = true then Oper.wp P o a w' K' Q else K' (a.put o.dst undef) w') :
  wpR P ops Q S (fuel + 1) listed a w := fun w' hl hS => ⟨fun h0 => (by rw [hr] at h0; cases h0), fun j hj => by
  rw [hr] at hj
  simp only [List.mem_singleton] at hj
  subst hj
  exact wpOp_step ho (fun K' hK => h w' hl hS K' (fun a w h1 h2 => hK a w ⟨h1, h2⟩))⟩
theorem wpR_two {i k : Nat} {o o2 : Oper} {fuel : Nat} {listed : Array Bool} {a : Act} {w : World} (hr : Region.ready .any ops listed = [i, k]) (ho : ops[i]? = some o) (ho2 : ops[k]? = some o2)
  (h : ∀ w', Later w w' → S w' → ∀ K' : Act → World → Prop, Shut (∀ a w, S w → wpR P ops Q S fuel (listed.setIfInBounds i true) a w → K' a w) → if Region.wanted o (yielded ops a.tmps) = true then Oper.wp P o a w' K' Q else K' (a.put o.dst undef) w')
  (h2 : ∀ w', Later w w' → S w' → ∀ K' : Act → World → Prop, Shut (∀ a w, S w → wpR P ops Q S fuel (listed.setIfInBounds k true) a w → K' a w) → if Region.wanted o2 (yielded ops a.tmps) = true then Oper.wp P o2 a w' K' Q else K' (a.put o2.dst undef) w') :
  wpR P ops Q S (fuel + 1) listed a w := fun w' hl hS => ⟨fun h0 => (by rw [hr] at h0; cases h0), fun j hj => by
  rw [hr] at hj
  simp only [List.mem_cons, List.not_mem_nil, or_false] at hj
  rcases hj with rfl | rfl
  ·exact wpOp_step ho (fun K' hK => h w' hl hS K' (fun a w h1 h2 => hK a w ⟨h1, h2⟩))
  ·exact wpOp_step ho2 (fun K' hK => h2 w' hl hS K' (fun a w h1 h2 => hK a w ⟨h1, h2⟩))⟩
theorem wpR_done {listed : Array Bool} {a : Act} {w : World} (hr : Region.ready .any ops listed = []) (h : ∀ w', Later w w' → S w' → Q .normal a w') : ∀ fuel, wpR P ops Q S fuel listed a w
 | 0 => fun w' hl hS => ⟨hr, h w' hl hS⟩
 | _ + 1 => fun w' hl hS => ⟨fun _ => h w' hl hS, by rw [hr]; simp⟩
end
section
open Go.RowKit

abbrev offB (G : Nat → Prop) (vt vc : Value) (b : Nat) : Prop := G b ∧ ¬ wrB vt b ∧ ¬ wrB vc b
def OutM (n s : Nat) (G : Nat → Prop) (w : World) (vt vc : Value) (ts : List Tr) (cs : List Int) : Prop :=
 ∃ xs : List TV, xs.length = ts.length ∧ OwnE w s 45 5 vt xs.length (flatT xs) ∧ OwnE w s 3 1 vc cs.length (flatI cs) ∧ (∀ g, wrB vt g → ¬ wrB vc g) ∧
  ∀ i, i < xs.length → TreeF n w (offB G vt vc) (tvAt xs i) (ts.getD i noTr)

variable {n s : Nat} {G : Nat → Prop} {w w' : World} {vt vc vt' vc' : Value} {ts us : List Tr} {cs : List Int}

theorem tv_one {a1 a2 a3 a4 : Option Addr} {l : Bool} {n1 n2 n3 n4 q1 q2 q3 q4 : Nat} : ∀ y ∈ [Value.bool l, .slice a1 n1 q1, .slice a2 n2 q2, .slice a3 n3 q3, .slice a4 n4 q4], y.oneCell' = true := by
 intro y hy
 simp at hy
 rcases hy with rfl | rfl | rfl | rfl | rfl <;> rfl
end
section
open Go.RowKit
end
section
open Go.RowKit
end
section
open Go.RowKit

def Els (n : Nat) (w : World) (F : Nat → Prop) (xs : List TV) (ts : List Tr) : Prop := xs.length = ts.length ∧ ∀ i, i < xs.length → TreeF n w F (tvAt xs i) (ts.getD i noTr)
variable {n : Nat} {w w' : World} {F : Nat → Prop} {xs ys : List TV} {ts us : List Tr}
end
section
open Go.RowKit

abbrev Pt := Value × Nat × List Value
def ptAt (P : List Pt) (i : Nat) : Pt := P.getD i (.slice none 0 0, 0, [])
def ptN (P : List Pt) (j : Nat) : Nat := ((P.take j).map fun p => p.2.1).sum
def ptC (P : List Pt) (j : Nat) : List Value := ((P.take j).map fun p => p.2.2).flatten
def PtOk (w : World) (size : Nat) (P : List Pt) : Prop := ∀ i, i < P.length → Row w (ptAt P i).1 (ptAt P i).2.1 (ptAt P i).2.2 ∧ (ptAt P i).2.2.length = (ptAt P i).2.1 * size ∧ ∀ y ∈ (ptAt P i).2.2, y.oneCell' = true
end
section
open Go.RowKit

theorem clone105_any (v : Value) (n : Nat) (xs : List Value) (w : World) (h : Row w v n xs) (hl : xs.length = n * 2) (h1 : ∀ y ∈ xs, y.oneCell' = true) (hn : n ≤ 8388608) :
  Calls Tryz.prog 126 #[v] w fun e w' => ∃ v', e = .returned v' ∧ OwnE w' w.heap.size 156 2 v' n xs ∧ Below w.heap.size w w' := by
 obtain ⟨a, q, hv, hq⟩ := h.len
 obtain ⟨i0, hi0, hz0, hz1, hz2⟩ := info_parts Tryz.info156
 have HR : Hid _ := room_row (n := n) (bytes := 16) hn (by decide)
 have RR : Hid (∀ u, Below w.heap.size w u → Row u v n xs) := fun u hu => h.below hu
 have HL : Hid (xs.length = n * 2) := hl
 have H1 : Hid _ := h1
 cases a with
 | none =>
  have hn0 : n = 0 := by
   obtain ⟨a, b, o, c, h3, h4, h5, h6, h7, h8⟩ := h
   rw [hv] at h3
   injection h3 with e1 e2 e3
   have := h8 e1.symm
   omega
  subst hn0
  have hx : xs = [] := List.length_eq_zero_iff.1 (by omega)
  subst hx hv
  clear h hl h1 RR H1 HL
  have hnil : ∀ W, (binOp .eql 41 (.slice none 0 q) (.slice none 0 0)).run Tryz.prog W = .ok (.bool true) W := fun W => Lib.run_eql_slice_nil_nil W _ _ Tryz.underlying41
  go_enter Tryz.func126, Tryz.ntmps126
  go_wp2
  go_ret
  exact ⟨_, rfl, OwnE.nil _ _ _ _, Below.refl _ _⟩
 | some p =>
  subst hv
  clear h hl h1
  have hnil : ∀ W, (binOp .eql 41 (.slice (some p) n q) (.slice none 0 0)).run Tryz.prog W = .ok (.bool false) W := fun W => Lib.run_eql_slice_some_nil W _ _ _ Tryz.underlying41
  go_enter Tryz.func126, Tryz.ntmps126
  go_wp2_with (at_builtin; refine list_appE (w.alloc (.cells #[] 156)) rfl _ _ 41 rfl w.heap.size 156 i0 _ 2 16 Tryz.underlying41 hi0 hz0 hz1 hz2 rfl (by decide) (.slice (some ⟨w.heap.size, 0, none⟩) 0 0) 0 [] rfl (OwnE.zero _ _ _ _ _) (.slice (some p) n q) n xs rfl (RR.out _ (al1 _ _)) HL.out H1.out HR.out.1 HR.out.2 (by simp) ?_)
  rintro v' w2 ⟨o1, o2, o3, o4⟩
  have B2 : Below w.heap.size w w2 := Below.trans (al1 _ _) o3
  clear o2 o3 o4
  go_wp2
  go_ret
  exact ⟨_, rfl, by simpa using o1, B2⟩

theorem clone106_any (v : Value) (n : Nat) (xs : List Value) (w : World) (h : Row w v n xs) (hl : xs.length = n * 1) (h1 : ∀ y ∈ xs, y.oneCell' = true) (hn : n ≤ 8388608) :
  Calls Tryz.prog 67 #[v] w fun e w' => ∃ v', e = .returned v' ∧ OwnE w' w.heap.size 3 1 v' n xs ∧ Below w.heap.size w w' := by
 obtain ⟨a, q, hv, hq⟩ := h.len
 obtain ⟨i0, hi0, hz0, hz1, hz2⟩ := info_parts Tryz.info3
 have HR : Hid _ := room_row (n := n) (bytes := 8) hn (by decide)
 have RR : Hid (∀ u, Below w.heap.size w u → Row u v n xs) := fun u hu => h.below hu
 have HL : Hid (xs.length = n * 1) := hl
 have H1 : Hid _ := h1
 cases a with
 | none =>
  have hn0 : n = 0 := by
   obtain ⟨a, b, o, c, h3, h4, h5, h6, h7, h8⟩ := h
   rw [hv] at h3
   injection h3 with e1 e2 e3
   have := h8 e1.symm
   omega
  subst hn0
  have hx : xs = [] := List.length_eq_zero_iff.1 (by omega)
  subst hx hv
  clear h hl h1 RR H1 HL
  have hnil : ∀ W, (binOp .eql 26 (.slice none 0 q) (.slice none 0 0)).run Tryz.prog W = .ok (.bool true) W := fun W => Lib.run_eql_slice_nil_nil W _ _ Tryz.underlying26
  go_enter Tryz.func67, Tryz.ntmps67
  go_wp2
  go_ret
  exact ⟨_, rfl, OwnE.nil _ _ _ _, Below.refl _ _⟩
 | some p =>
  subst hv
  clear h hl h1
  have hnil : ∀ W, (binOp .eql 26 (.slice (some p) n q) (.slice none 0 0)).run Tryz.prog W = .ok (.bool false) W := fun W => Lib.run_eql_slice_some_nil W _ _ _ Tryz.underlying26
  go_enter Tryz.func67, Tryz.ntmps67
  go_wp2_with (at_builtin; refine list_appE (w.alloc (.cells #[] 3)) rfl _ _ 26 rfl w.heap.size 3 i0 _ 1 8 Tryz.underlying26 hi0 hz0 hz1 hz2 rfl (by decide) (.slice (some ⟨w.heap.size, 0, none⟩) 0 0) 0 [] rfl (OwnE.zero _ _ _ _ _) (.slice (some p) n q) n xs rfl (RR.out _ (al1 _ _)) HL.out H1.out HR.out.1 HR.out.2 (by simp) ?_)
  rintro v' w2 ⟨o1, o2, o3, o4⟩
  have B2 : Below w.heap.size w w2 := Below.trans (al1 _ _) o3
  clear o2 o3 o4
  go_wp2
  go_ret
  exact ⟨_, rfl, by simpa using o1, B2⟩

theorem clone108_any (v : Value) (n : Nat) (xs : List Value) (w : World) (h : Row w v n xs) (hl : xs.length = n * 3) (h1 : ∀ y ∈ xs, y.oneCell' = true) (hn : n ≤ 8388608) :
  Calls Tryz.prog 128 #[v] w fun e w' => ∃ v', e = .returned v' ∧ OwnE w' w.heap.size 109 3 v' n xs ∧ Below w.heap.size w w' := by
 obtain ⟨a, q, hv, hq⟩ := h.len
 obtain ⟨i0, hi0, hz0, hz1, hz2⟩ := info_parts Tryz.info109
 have HR : Hid _ := room_row (n := n) (bytes := 24) hn (by decide)
 have RR : Hid (∀ u, Below w.heap.size w u → Row u v n xs) := fun u hu => h.below hu
 have HL : Hid (xs.length = n * 3) := hl
 have H1 : Hid _ := h1
 cases a with
 | none =>
  have hn0 : n = 0 := by
   obtain ⟨a, b, o, c, h3, h4, h5, h6, h7, h8⟩ := h
   rw [hv] at h3
   injection h3 with e1 e2 e3
   have := h8 e1.symm
   omega
  subst hn0
  have hx : xs = [] := List.length_eq_zero_iff.1 (by omega)
  subst hx hv
  clear h hl h1 RR H1 HL
  have hnil : ∀ W, (binOp .eql 43 (.slice none 0 q) (.slice none 0 0)).run Tryz.prog W = .ok (.bool true) W := fun W => Lib.run_eql_slice_nil_nil W _ _ Tryz.underlying43
  go_enter Tryz.func128, Tryz.ntmps128
  go_wp2
  go_ret
  exact ⟨_, rfl, OwnE.nil _ _ _ _, Below.refl _ _⟩
 | some p =>
  subst hv
  clear h hl h1
  have hnil : ∀ W, (binOp .eql 43 (.slice (some p) n q) (.slice none 0 0)).run Tryz.prog W = .ok (.bool false) W := fun W => Lib.run_eql_slice_some_nil W _ _ _ Tryz.underlying43
  go_enter Tryz.func128, Tryz.ntmps128
  go_wp2_with (at_builtin; refine list_appE (w.alloc (.cells #[] 109)) rfl _ _ 43 rfl w.heap.size 109 i0 _ 3 24 Tryz.underlying43 hi0 hz0 hz1 hz2 rfl (by decide) (.slice (some ⟨w.heap.size, 0, none⟩) 0 0) 0 [] rfl (OwnE.zero _ _ _ _ _) (.slice (some p) n q) n xs rfl (RR.out _ (al1 _ _)) HL.out H1.out HR.out.1 HR.out.2 (by simp) ?_)
  rintro v' w2 ⟨o1, o2, o3, o4⟩
  have B2 : Below w.heap.size w w2 := Below.trans (al1 _ _) o3
  clear o2 o3 o4
  go_wp2
  go_ret
  exact ⟨_, rfl, by simpa using o1, B2⟩

theorem clone146_any (v : Value) (n : Nat) (xs : List Value) (w : World) (h : Row w v n xs) (hl : xs.length = n * 5) (h1 : ∀ y ∈ xs, y.oneCell' = true) (hn : n ≤ 8388608) :
  Calls Tryz.prog 139 #[v] w fun e w' => ∃ v', e = .returned v' ∧ OwnE w' w.heap.size 45 5 v' n xs ∧ Below w.heap.size w w' := by
 obtain ⟨a, q, hv, hq⟩ := h.len
 obtain ⟨i0, hi0, hz0, hz1, hz2⟩ := info_parts Tryz.info45
 have HR : Hid _ := room_row (n := n) (bytes := 104) hn (by decide)
 have RR : Hid (∀ u, Below w.heap.size w u → Row u v n xs) := fun u hu => h.below hu
 have HL : Hid (xs.length = n * 5) := hl
 have H1 : Hid _ := h1
 cases a with
 | none =>
  have hn0 : n = 0 := by
   obtain ⟨a, b, o, c, h3, h4, h5, h6, h7, h8⟩ := h
   rw [hv] at h3
   injection h3 with e1 e2 e3
   have := h8 e1.symm
   omega
  subst hn0
  have hx : xs = [] := List.length_eq_zero_iff.1 (by omega)
  subst hx hv
  clear h hl h1 RR H1 HL
  have hnil : ∀ W, (binOp .eql 42 (.slice none 0 q) (.slice none 0 0)).run Tryz.prog W = .ok (.bool true) W := fun W => Lib.run_eql_slice_nil_nil W _ _ Tryz.underlying42
  go_enter Tryz.func139, Tryz.ntmps139
  go_wp2
  go_ret
  exact ⟨_, rfl, OwnE.nil _ _ _ _, Below.refl _ _⟩
 | some p =>
  subst hv
  clear h hl h1
  have hnil : ∀ W, (binOp .eql 42 (.slice (some p) n q) (.slice none 0 0)).run Tryz.prog W = .ok (.bool false) W := fun W => Lib.run_eql_slice_some_nil W _ _ _ Tryz.underlying42
  go_enter Tryz.func139, Tryz.ntmps139
  go_wp2_with (at_builtin; refine list_appE (w.alloc (.cells #[] 45)) rfl _ _ 42 rfl w.heap.size 45 i0 _ 5 104 Tryz.underlying42 hi0 hz0 hz1 hz2 rfl (by decide) (.slice (some ⟨w.heap.size, 0, none⟩) 0 0) 0 [] rfl (OwnE.zero _ _ _ _ _) (.slice (some p) n q) n xs rfl (RR.out _ (al1 _ _)) HL.out H1.out HR.out.1 HR.out.2 (by simp) ?_)
  rintro v' w2 ⟨o1, o2, o3, o4⟩
  have B2 : Below w.heap.size w w2 := Below.trans (al1 _ _) o3
  clear o2 o3 o4
  go_wp2
  go_ret
  exact ⟨_, rfl, by simpa using o1, B2⟩
end
section
open Go.RowKit

def keyV (a : Addr) (n : Int) : Value := .agg #[.pointer (some a), .int .i64 n]

theorem key_fields : ∃ f1 f2 : Field, (Tryz.prog.fieldsOf 174).toList = [f1, f2] ∧ f1.name = "first" ∧ f1.type = 162 ∧ f1.offset = 0 ∧ f2.name = "count" ∧ f2.type = 3 ∧ f2.offset = 1 := by
 have hF : (Tryz.prog.fieldsOf 174).toList.map (fun f => (f.name, f.type, f.offset)) = [("first", 162, 0), ("count", 3, 1)] := by kernel_rfl
 generalize (Tryz.prog.fieldsOf 174).toList = l at hF
 have hl : l.length = 2 := by have := congrArg List.length hF; simpa using this
 rcases l with _ | ⟨f1, _ | ⟨f2, _ | ⟨f3, l⟩⟩⟩ <;> simp at hl
 simp at hF
 exact ⟨f1, f2, rfl, hF.1.1, hF.1.2.1, hF.1.2.2, hF.2.1, hF.2.2.1, hF.2.2.2⟩

theorem keyEq (a b : Addr) (n m : Int) (w : World) (ha : Plain w a.block) (hb : Plain w b.block) :
  (Op.equalIn 10000 174 (keyV a n) (keyV b m)).run Tryz.prog w = .ok (a == b && n == m) w := by
 have u3 := Tryz.underlying3
 have hS : Tryz.prog.underlying 174 = some (.struct (Tryz.prog.fieldsOf 174)) := by kernel_rfl
 have hp : Tryz.prog.stoodInHeld 174 = false := by kernel_rfl
 have P1 : ∀ (a : Addr) (n : Int) w, (part 162 #[.pointer (some a), .int .i64 n] 0).run Tryz.prog w = .ok (.pointer (some a)) w := fun a n w => by kernel_rfl
 have P2 : ∀ (a : Addr) (n : Int) w, (part 3 #[.pointer (some a), .int .i64 n] 1).run Tryz.prog w = .ok (.int .i64 n) w := fun a n w => by kernel_rfl
 have hu : Tryz.prog.underlying 162 = some (.pointer 45) := by kernel_rfl
 obtain ⟨i0, hi0, _, hz1, _⟩ := info_parts Tryz.info45
 have E0 : ∀ d : Nat, (Op.equalIn (d + 1) 162 (.pointer (some a)) (.pointer (some b))).run Tryz.prog w = .ok (a == b) w := fun d => by
  have hs : (sizeOf 45).run Tryz.prog w = .ok 5 w := by simp [sizeOf, typeInfo, hi0, hz1, run_program]
  have h2 : (sameAddr a b).run Tryz.prog w = .ok (a == b) w := by
   by_cases e : a = b
   ·subst e
    simpa using run_sameAddr_same (P := Tryz.prog) (w := w) a
   ·obtain ⟨c1, t1, h1⟩ := ha
    obtain ⟨c2, t2, h2⟩ := hb
    have := run_sameAddr_other (P := Tryz.prog) w e h1 h2
    rw [this]
    simp [e]
  simp [Op.equalIn, run_underlying hu, hs, h2]
 have E1 : (Op.equalIn 9999 162 (.pointer (some a)) (.pointer (some b))).run Tryz.prog w = .ok (a == b) w := E0 9998
 have E2 : (Op.equalIn 9999 3 (.int .i64 n) (.int .i64 m)).run Tryz.prog w = .ok (n == m) w := run_equalIn_int w 9998 3 .i64 .i64 n m u3
 unfold keyV
 rw [show (10000 : Nat) = 9999 + 1 from rfl, run_equalIn_agg w 9999 174 _ _ hS hp]
 obtain ⟨f1, f2, hF, q1, q2, q3, q4, q5, q6⟩ := key_fields
 rw [hF]
 simp only [Op.eqFields, q1, q2, q3, q4, q5, q6, Sem.run_bind, Sem.run_ite, P1, P2, E1, E2, Result.andThen_ok]
 by_cases h1 : a = b <;> by_cases h2 : n = m <;> simp [h1, h2]

def KeysIn0 (w : World) (V : Nat → Prop) (es : List MapEntry) : Prop := ∀ e ∈ es, ∃ a n, e.key = keyV a n ∧ Plain w a.block ∧ V a.block

def MadeAt (w : World) (M : Nat) (V : Nat → Prop) : Prop := ∃ es clock, w.heap[M]? = some (.map es clock) ∧ KeysIn0 w V es.toList

theorem find_made {w : World} {V : Nat → Prop} (a : Addr) (n : Int) (ha : Plain w a.block) : ∀ (es : List MapEntry) (i : Nat), KeysIn0 w V es → ∃ r, (∀ w', w'.heap = w.heap → (Instr.findAsking 174 (keyV a n) es i).run Tryz.prog w' = .ok r w') ∧ ∀ j v, r = some (j, v) → V a.block ∧ i ≤ j ∧ ∃ e, es[j - i]? = some e ∧ e.key = keyV a n
 | [], i, _ => ⟨none, fun _ _ => rfl, fun _ _ h => by simp at h⟩
 | e :: es, i, h => by
  obtain ⟨b, m, he, hb, hv⟩ := h e (by simp)
  obtain ⟨r, hr, hq⟩ := find_made a n ha es (i + 1) (fun x hx => h x (by simp [hx]))
  have hE : ∀ w', w'.heap = w.heap → (Op.equal 174 (keyV a n) e.key).run Tryz.prog w' = .ok (a == b && n == m) w' := fun w' hw => by rw [he]; exact keyEq a b n m w' (by rw [Plain, hw]; exact ha) (by rw [Plain, hw]; exact hb)
  cases hc : (a == b && n == m)
  ·refine ⟨r, ?_, fun j v hj => ?_⟩
   ·intro w' hw
    simp [Instr.findAsking, hE w' hw, hc, hr w' hw]
   ·obtain ⟨q1, q2, e', q3, q4⟩ := hq j v hj
    refine ⟨q1, by omega, e', ?_, q4⟩
    rw [show j - i = (j - (i + 1)) + 1 by omega]
    simpa using q3
  ·simp only [Bool.and_eq_true, beq_iff_eq] at hc
   obtain ⟨rfl, rfl⟩ := hc
   refine ⟨some (i, e.val), ?_, fun j v hj => ?_⟩
   ·intro w' hw
    simp [Instr.findAsking, hE w' hw]
   ·simp at hj
    obtain ⟨rfl, rfl⟩ := hj
    exact ⟨hv, Nat.le_refl _, e, by simp, he⟩

theorem findKey_made {w : World} {V : Nat → Prop} (a : Addr) (n : Int) (ha : Plain w a.block) (es : List MapEntry) (h : KeysIn0 w V es) : ∃ r, (∀ w', w'.heap = w.heap → (Instr.findKey 174 (keyV a n) es).run Tryz.prog w' = .ok r w') ∧ ∀ j v, r = some (j, v) → V a.block ∧ ∃ e, es[j]? = some e ∧ e.key = keyV a n := by
 have hS : Tryz.prog.underlying 174 = some (.struct (Tryz.prog.fieldsOf 174)) := by kernel_rfl
 cases es with
 | nil => exact ⟨none, fun w' _ => by simp [Instr.findKey, run_underlying hS, Instr.findNow], fun _ _ h => by simp at h⟩
 | cons e es =>
  obtain ⟨r, hr, hq⟩ := find_made a n ha (e :: es) 0 h
  refine ⟨r, ?_, fun j v hj => ?_⟩
  ·intro w' hw
   simp [Instr.findKey, run_underlying hS, Instr.findNow, Instr.sameNow, hr w' hw]
  ·obtain ⟨q1, _, e', q3, q4⟩ := hq j v hj
   exact ⟨q1, e', by simpa using q3, q4⟩

theorem check_key (b : Bool) (a : Addr) (n : Int) (w : World) : (Instr.checkKey b 10000 174 (keyV a n)).run Tryz.prog w = .ok () w := by kernel_rfl

theorem look_made {w : World} {M : Nat} {V : Nat → Prop} (hM : MadeAt w M V) (a : Addr) (n : Int) (ha : Plain w a.block) : ∃ v met, (∀ w', w'.heap = w.heap → (Instr.lookup 161 (.map (some M)) (keyV a n) true).run Tryz.prog w' = .ok (.tuple #[v, .bool met]) w') ∧ (met = true → V a.block) := by
 obtain ⟨es, clock, hb, hk⟩ := hM
 have hu : Tryz.prog.underlying 161 = some (.map 174 42) := by kernel_rfl
 have hz : ∀ w', (zeroValue 42).run Tryz.prog w' = .ok (.slice none 0 0) w' := fun w' => by kernel_rfl
 obtain ⟨r, hr, hq⟩ := findKey_made a n ha es.toList hk
 cases r with
 | none => exact ⟨.slice none 0 0, false, fun w' hw => by simp [Instr.lookup, run_underlying hu, MapKept.run_getObj_map (w := w') (by rw [hw]; exact hb), check_key, hr w' hw, hz], fun h => by simp at h⟩
 | some r => exact ⟨r.2, true, fun w' hw => by simp [Instr.lookup, run_underlying hu, MapKept.run_getObj_map (w := w') (by rw [hw]; exact hb), check_key, hr w' hw], fun _ => (hq r.1 r.2 rfl).1⟩
end
end Go.Proofs.YtmdajbbpigbdcaaGreat
