/-
  What was read stands in the bytes, form behind form: what is parsed is what is put.
-/
import Derived.Test.YtfedeljadckjiaaDoorGetNode
import Derived.Test.YtfedeljadckjiaaDoorReadMathB
namespace Go.Proofs.YtfedeljadckjiaaDoor

/-- from p to q stand the forms of these numbers -/
def Spans (bs : List Int) (p : Int) (l : List Int) (q : Int) : Prop := 0 ≤ p ∧ p ≤ bs.length ∧ q ≤ bs.length ∧ q = p + (formsB l).length ∧ formsB l = (bs.drop p.toNat).take (formsB l).length ∧ okNums l
theorem formsB_app (l m : List Int) : formsB (l ++ m) = formsB l ++ formsB m := by simp [formsB]
variable {bs : List Int} {p q r : Int} {l m : List Int}
theorem Spans.nil (h0 : 0 ≤ p) (h1 : p ≤ bs.length) : Spans bs p [] p := ⟨h0, h1, h1, by simp [formsB], by simp [formsB], fun x hx => by cases hx⟩
theorem Spans.one (hb : inByte bs) {x : Int} (h : getN bs p = some (x, q)) : Spans bs p [x] q := by
  obtain ⟨h0, h1, h2, h3, h4, h5⟩ := putN_getN hb h
  have e : formsB [x] = putN x := by simp [formsB]
  refine ⟨h0, by omega, h3, by rw [e]; exact h1, by rw [e]; exact h5, fun y hy => ?_⟩
  have : y = x := by simpa using hy
  rw [this]; exact h4
theorem Spans.app (h : Spans bs p l q) (h' : Spans bs q m r) : Spans bs p (l ++ m) r := by
  obtain ⟨a0, a1, a2, a3, a4, a5⟩ := h
  obtain ⟨b0, b1, b2, b3, b4, b5⟩ := h'
  refine ⟨a0, a1, b2, by rw [formsB_app, List.length_append]; omega, ?_, fun x hx => ?_⟩
  · rw [formsB_app, List.length_append, List.take_add, List.drop_drop, ← a4]
    have : p.toNat + (formsB l).length = q.toNat := by omega
    rw [this, ← b4]
  · rcases List.mem_append.1 hx with hx | hx
    · exact a5 x hx
    · exact b5 x hx
theorem Spans.lo (h : Spans bs p l q) : 0 ≤ q ∧ q ≤ bs.length := ⟨by obtain ⟨a0, a1, a2, a3, a4, a5⟩ := h; omega, h.2.2.1⟩
/-- all of the bytes -/
theorem Spans.all (h : Spans bs 0 l bs.length) : formsB l = bs ∧ okNums l := by
  obtain ⟨a0, a1, a2, a3, a4, a5⟩ := h
  have : (formsB l).length = bs.length := by omega
  rw [this] at a4
  simp at a4
  exact ⟨a4, a5⟩
theorem numsN_spans (hb : inByte bs) (h0 : 0 ≤ p) (h1 : p ≤ bs.length) : ∀ {k : Nat} {l : List Int} {q : Int}, numsN bs p k = some (l, q) → Spans bs p l q := by
  intro k
  induction k with
  | zero => intro l q h; simp [numsN] at h; rw [h.1, ← h.2]; exact Spans.nil h0 h1
  | succ k ih =>
    intro l q h
    rw [numsN] at h
    cases hq : numsN bs p k with
    | none => rw [hq] at h; cases h
    | some lp =>
      obtain ⟨l', p'⟩ := lp
      rw [hq] at h
      cases hg : getN bs p' with
      | none => simp only [hg] at h; cases h
      | some xq =>
        obtain ⟨x, q'⟩ := xq
        simp only [hg, Option.some.injEq, Prod.mk.injEq] at h
        obtain ⟨rfl, rfl⟩ := h
        exact (ih hq).app (Spans.one hb hg)
theorem pairsN_spans (hb : inByte bs) (h0 : 0 ≤ p) (h1 : p ≤ bs.length) : ∀ {k : Nat} {l : List (Int × Int)} {q : Int}, pairsN bs p k = some (l, q) → Spans bs p (pairNums l) q := by
  intro k
  induction k with
  | zero => intro l q h; simp [pairsN] at h; rw [h.1, ← h.2]; exact Spans.nil h0 h1
  | succ k ih =>
    intro l q h
    rw [pairsN] at h
    cases hq : pairsN bs p k with
    | none => rw [hq] at h; cases h
    | some lp =>
      obtain ⟨l', p'⟩ := lp
      rw [hq] at h
      simp only at h
      split at h
      · rename_i x y q' hg
        simp only [Option.some.injEq, Prod.mk.injEq] at h
        obtain ⟨rfl, rfl⟩ := h
        have := (ih hq).app (numsN_spans hb (ih hq).lo.1 (ih hq).lo.2 hg)
        simpa [pairNums] using this
      · cases h
theorem msgsN_spans (hb : inByte bs) (h0 : 0 ≤ p) (h1 : p ≤ bs.length) : ∀ {k : Nat} {l : List (Int × Int × Int)} {q : Int}, msgsN bs p k = some (l, q) → Spans bs p (msgNums l) q := by
  intro k
  induction k with
  | zero => intro l q h; simp [msgsN] at h; rw [h.1, ← h.2]; exact Spans.nil h0 h1
  | succ k ih =>
    intro l q h
    rw [msgsN] at h
    cases hq : msgsN bs p k with
    | none => rw [hq] at h; cases h
    | some lp =>
      obtain ⟨l', p'⟩ := lp
      rw [hq] at h
      simp only at h
      split at h
      · rename_i x y z q' hg
        simp only [Option.some.injEq, Prod.mk.injEq] at h
        obtain ⟨rfl, rfl⟩ := h
        have := (ih hq).app (numsN_spans hb (ih hq).lo.1 (ih hq).lo.2 hg)
        simpa [msgNums] using this
      · cases h
/-- the numbers of what a node tells -/
def numsV : NodeV → List Int
  | .inl l => leafNums l
  | .inr f => [0, (f.kids.length : Int)] ++ f.kids ++ f.cuts ++ [(f.buf.length : Int)] ++ msgNums f.buf
/-- its counts are as a node's -/
def okV : NodeV → Prop
  | .inl l => l.length ≤ 4
  | .inr f => 1 ≤ f.kids.length ∧ f.kids.length ≤ 4 ∧ f.cuts.length + 1 = f.kids.length ∧ f.buf.length ≤ 6
theorem countN_spans (hb : inByte bs) {lo hi x : Int} (h : countN bs p lo hi = some (x, q)) : Spans bs p [x] q ∧ lo ≤ x ∧ x ≤ hi :=
  ⟨Spans.one hb (countN_in h).2.2, (countN_in h).1, (countN_in h).2.1⟩
theorem nodeN_spans (hb : inByte bs) {n : NodeV} (h : nodeN bs p = some (n, q)) : Spans bs p (numsV n) q ∧ okV n := by
  unfold nodeN at h
  cases hg : getN bs p with
  | none => rw [hg] at h; cases h
  | some xp =>
    obtain ⟨x, p1⟩ := xp
    have s1 := Spans.one hb hg
    rw [hg] at h
    simp only at h
    split at h
    · rename_i hx
      subst hx
      unfold leafN at h
      cases hc : countN bs p1 0 4 with
      | none => simp only [hc] at h; cases h
      | some np =>
        obtain ⟨c, p2⟩ := np
        obtain ⟨s2, c0, c4⟩ := countN_spans hb hc
        simp only [hc] at h
        cases hp : pairsN bs p2 c.toNat with
        | none => simp only [hp] at h; cases h
        | some lq =>
          obtain ⟨l, q'⟩ := lq
          simp only [hp, Option.some.injEq, Prod.mk.injEq] at h
          obtain ⟨rfl, rfl⟩ := h
          have hl := pairsN_length hp
          have s3 := pairsN_spans hb s2.lo.1 s2.lo.2 hp
          have e : c = (l.length : Int) := by omega
          subst e
          exact ⟨by simpa [numsV, leafNums] using (s1.app s2).app s3, by show l.length ≤ 4; omega⟩
    · split at h
      · rename_i hx
        subst hx
        unfold forkN at h
        cases hc : countN bs p1 1 4 with
        | none => simp only [hc] at h; cases h
        | some np =>
          obtain ⟨c, p2⟩ := np
          obtain ⟨s2, c0, c4⟩ := countN_spans hb hc
          simp only [hc] at h
          unfold forkA at h
          cases hk : numsN bs p2 ((c - 1).toNat + 1) with
          | none => simp only [hk] at h; cases h
          | some kq =>
            obtain ⟨ks, p3⟩ := kq
            have s3 := numsN_spans hb s2.lo.1 s2.lo.2 hk
            have lk := numsN_length hk
            simp only [hk] at h
            unfold forkB at h
            cases hu : numsN bs p3 (c - 1).toNat with
            | none => simp only [hu] at h; cases h
            | some cq =>
              obtain ⟨cs, p4⟩ := cq
              have s4 := numsN_spans hb s3.lo.1 s3.lo.2 hu
              have lc := numsN_length hu
              simp only [hu] at h
              unfold forkC at h
              cases hm : countN bs p4 0 6 with
              | none => simp only [hm] at h; cases h
              | some mq =>
                obtain ⟨d, p5⟩ := mq
                obtain ⟨s5, d0, d6⟩ := countN_spans hb hm
                simp only [hm] at h
                cases hms : msgsN bs p5 d.toNat with
                | none => simp only [hms] at h; cases h
                | some mr =>
                  obtain ⟨ms, q'⟩ := mr
                  simp only [hms, Option.some.injEq, Prod.mk.injEq] at h
                  obtain ⟨rfl, rfl⟩ := h
                  have lm := msgsN_length hms
                  have s6 := msgsN_spans hb s5.lo.1 s5.lo.2 hms
                  have e : c = (ks.length : Int) := by omega
                  have e2 : d = (ms.length : Int) := by omega
                  subst e
                  subst e2
                  refine ⟨by simpa [numsV] using (((((s1.app s2).app s3).app s4).app s5).app s6), ?_, ?_, ?_, ?_⟩
                  all_goals (simp only; omega)
      · cases h
/-- what GetNode takes is what PutNode makes of it -/
theorem getNodeF_put (hb : inByte bs) {n : NodeV} (h : getNodeF bs = some n) : formsB (numsV n) = bs ∧ okNums (numsV n) ∧ okV n := by
  unfold getNodeF at h
  cases hn : nodeN bs 0 with
  | none => rw [hn] at h; cases h
  | some np =>
    obtain ⟨n', p'⟩ := np
    rw [hn] at h
    simp only at h
    split at h
    · rename_i hp
      cases h
      subst hp
      obtain ⟨s, o⟩ := nodeN_spans hb hn
      exact ⟨s.all.1, s.all.2, o⟩
    · cases h

end Go.Proofs.YtfedeljadckjiaaDoor
