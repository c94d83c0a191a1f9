/-
  The model's GetNode: what it reads of a fork, step by step.
-/
import Derived.Test.YtfedeljadckjiaaDoorSHead
import Derived.Test.YtfedeljadckjiaaDoorAppE
import Derived.Test.YtfedeljadckjiaaDoorRegLast
namespace Go.Proofs.YtfedeljadckjiaaDoor
open Go.RowKit

theorem nums_step {bs : List Int} {p at_ x q : Int} {k : Bool} {j : Nat} {l : List Int} (hl : numsN bs p j = some (l, at_)) (h : curN bs at_ true = (x, q, k)) :
    (k = true → numsN bs p (j + 1) = some (l ++ [x], q)) ∧ (k = false → numsN bs p (j + 1) = none) := by
  cases k with
  | false =>
    refine ⟨fun h => (by cases h), fun _ => ?_⟩
    rw [numsN, hl]
    simp only [curN_false h]
  | true =>
    refine ⟨fun _ => ?_, fun h => (by cases h)⟩
    rw [numsN, hl]
    simp only [curN_true h]
/-- the head of a fork was read -/
def ForkH (bs : List Int) (n p2 : Int) : Prop := ∃ x0 p1, getN bs 0 = some (x0, p1) ∧ x0 ≠ 1 ∧ countN bs p1 0 4 = some (n, p2)
theorem ForkH.read {bs : List Int} {n p2 : Int} (h : ForkH bs n p2) : specRead bs = sforkA bs p2 n.toNat := by
  obtain ⟨x0, p1, h1, h2, h3⟩ := h
  unfold specRead
  rw [h1]
  simp only [h3]
  rw [if_neg h2]
theorem ForkH.n4 {bs : List Int} {n p2 : Int} (h : ForkH bs n p2) : 0 ≤ n ∧ n ≤ 4 := by
  obtain ⟨x0, p1, h1, h2, h3⟩ := h
  have := countN_in h3
  exact ⟨this.1, this.2.1⟩
theorem ForkH.kids_none {bs : List Int} {n p2 : Int} (h : ForkH bs n p2) {j : Nat} (hj : (j : Int) ≤ n) (hn : numsN bs p2 j = none) : specRead bs = none := by
  rw [h.read]
  unfold sforkA
  rw [numsN_none hn n.toNat (by omega)]
theorem ForkH.cuts_none {bs : List Int} {n p2 p3 : Int} {ks : List Int} (h : ForkH bs n p2) (hk : numsN bs p2 n.toNat = some (ks, p3)) {j : Nat} (hj : j ≤ n.toNat - 1) (hn : numsN bs p3 j = none) : specRead bs = none := by
  rw [h.read]
  unfold sforkA sforkB
  simp only [hk]
  rw [numsN_none hn _ hj]
theorem ForkH.count {bs : List Int} {n p2 p3 p4 m p5 : Int} {ks cs : List Int} {k : Bool} (h : ForkH bs n p2) (hk : numsN bs p2 n.toNat = some (ks, p3)) (hc : numsN bs p3 (n.toNat - 1) = some (cs, p4)) (hm : curN bs p4 true = (m, p5, k)) :
    ((k && inB m 0 6) = true → countN bs p4 0 6 = some (m, p5)) ∧ ((k && inB m 0 6) = false → specRead bs = none) := by
  have hr : specRead bs = sforkC bs p4 ks cs := by
    rw [h.read]
    unfold sforkA sforkB
    simp only [hk, hc]
  cases k with
  | false =>
    refine ⟨fun h => by simp at h, fun _ => ?_⟩
    rw [hr]
    unfold sforkC countN
    simp only [curN_false hm]
  | true =>
    simp only [Bool.true_and]
    refine ⟨fun h => ?_, fun h => ?_⟩
    · unfold countN
      rw [curN_true hm]
      simp only
      rw [if_pos (inB_iff.1 h)]
    · rw [hr]
      unfold sforkC countN
      rw [curN_true hm]
      simp only
      rw [if_neg (fun hh => by rw [inB_iff.2 hh] at h; cases h)]
theorem msg_step {bs : List Int} {p at_ x q1 y q2 z q3 : Int} {kx ky kz : Bool} {j : Nat} {l : List (Int × Int × Int)} (hl : msgsN bs p j = some (l, at_)) (h1 : curN bs at_ true = (x, q1, kx)) (h2 : curN bs q1 kx = (y, q2, ky)) (h3 : curN bs q2 ky = (z, q3, kz)) :
    (kz = true → msgsN bs p (j + 1) = some (l ++ [(x, y, z)], q3)) ∧ (kz = false → msgsN bs p (j + 1) = none) := by
  cases kx with
  | false =>
    have := curN_off h2
    subst this
    have := curN_off h3
    subst this
    refine ⟨fun h => by simp at h, fun _ => ?_⟩
    rw [msgsN, hl]
    simp only [numsN, curN_false h1]
  | true =>
    have g1 := curN_true h1
    cases ky with
    | false =>
      have := curN_off h3
      subst this
      refine ⟨fun h => by simp at h, fun _ => ?_⟩
      rw [msgsN, hl]
      simp only [numsN, g1, curN_false h2]
    | true =>
      have g2 := curN_true h2
      cases kz with
      | false =>
        refine ⟨fun h => by simp at h, fun _ => ?_⟩
        rw [msgsN, hl]
        simp only [numsN, g1, g2, curN_false h3]
      | true =>
        refine ⟨fun _ => ?_, fun h => by simp at h⟩
        rw [msgsN, hl]
        simp [numsN, g1, g2, curN_true h3]
theorem ForkH.done {bs : List Int} {n p2 p3 p4 m p5 : Int} {ks cs : List Int} (h : ForkH bs n p2) (hk : numsN bs p2 n.toNat = some (ks, p3)) (hc : numsN bs p3 (n.toNat - 1) = some (cs, p4)) (hm : countN bs p4 0 6 = some (m, p5)) :
    specRead bs = match msgsN bs p5 m.toNat with
      | none => none
      | some (ms, r) => some (.inr ⟨ks, cs, ms⟩, r) := by
  rw [h.read]
  unfold sforkA sforkB sforkC
  simp only [hk, hc, hm]
  cases msgsN bs p5 m.toNat <;> rfl

/-- rows of two kinds never share a block -/
theorem wrB_ne {w : World} {b1 b2 e1 e2 s1 s2 n1 n2 : Nat} {v1 v2 : Value} {x1 x2 : List Value} (h1 : OwnE w b1 e1 s1 v1 n1 x1) (h2 : OwnE w b2 e2 s2 v2 n2 x2) (he : e1 ≠ e2) {g : Nat} (hg : wrB v1 g) : ¬ wrB v2 g := by
  have key : ∀ {b e s n : Nat} {v : Value} {xs : List Value}, OwnE w b e s v n xs → wrB v g → ∃ cur, w.heap[g]? = some (.cells cur e (0, 0)) := by
    intro b e s n v xs ho hw
    obtain ⟨k, cap, rfl, hc⟩ := hw
    rcases ho with ho | ⟨_, _, g', h'⟩
    · exact (owns_lt ho (g := g) rfl).2
    · simp at h'; omega
  intro hg2
  obtain ⟨c1, q1⟩ := key h1 hg
  obtain ⟨c2, q2⟩ := key h2 hg2
  rw [q1] at q2
  simp at q2
  exact he q2.2
theorem OwnE.row' {w : World} {base e size n : Nat} {v : Value} {xs : List Value} (h : OwnE w base e size v n xs) : Row w v n xs := by
  rcases h with h | ⟨rfl, rfl, g, rfl⟩
  · exact Row.of_owns h
  · exact ⟨_, g, 0, 0, rfl, Nat.le_refl _, Nat.zero_le _, fun h => absurd h (Nat.lt_irrefl _), fun j u hj => by simp at hj, fun h => by cases h⟩

theorem step_fnB {P : Program} {ops : Array Oper} {o : Oper} {a : Act} {K : Act → World → Prop} {Q : Exit → Act → World → Prop} {E : Prop} {w : World} {R : Ending → World → Prop} (hwt : Region.wanted o (yielded ops a.tmps) = true) (f : FuncId) (xs : List Operand) (ats : Array TypeId)
    (ho : o.op = .call { callee := .value (.func f), args := xs.toArray, argTypes := ats }) (hrun : ∀ args w, (callFunc f args).run P w = .ok (.enter f args) w) (args : List Value) (he : xs.map a.eval = args)
    (h : Calls P f args.toArray w R) (hk : ∀ e w', R e w' → ∃ v, e = .returned v ∧ K (a.put o.dst v) w') :
    if Region.wanted o (yielded ops a.tmps) = true then Oper.wp P o a w K Q else E := by
  rw [if_pos hwt]
  have ef : a.eval (.func f) = .func (.func f) #[] #[] := rfl
  have hx : execOp a.eval o = callFunc f args.toArray := by
    unfold execOp
    simp [ho, resolve, Deferred.ofValue, invoke, ef, he]
  unfold Oper.wp
  rw [hx, hrun, Oper.upon_enter]
  refine Calls.mono h ?_
  intro e w' hr
  obtain ⟨v, rfl, hk⟩ := hk e w' hr
  exact hk

end Go.Proofs.YtfedeljadckjiaaDoor
