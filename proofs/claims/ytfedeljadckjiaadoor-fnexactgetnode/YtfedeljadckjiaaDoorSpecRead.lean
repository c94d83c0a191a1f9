/-
  What the model's GetNode reads, as a plain function; where it reads all and its own PutNode makes the same bytes again, it is getNodeF.
-/
import Derived.Test.YtfedeljadckjiaaDoorSpansB
namespace Go.Proofs.YtfedeljadckjiaaDoor

/-- behind the first two numbers of a fork -/
def sforkC (bs : List Int) (p : Int) (ks cs : List Int) : Option (NodeV × Int) := match countN bs p 0 6 with
  | none => none
  | some (m, q) => match msgsN bs q m.toNat with
    | none => none
    | some (ms, r) => some (.inr ⟨ks, cs, ms⟩, r)
def sforkB (bs : List Int) (p : Int) (n : Nat) (ks : List Int) : Option (NodeV × Int) := match numsN bs p (n - 1) with
  | none => none
  | some (cs, q) => sforkC bs q ks cs
def sforkA (bs : List Int) (p : Int) (n : Nat) : Option (NodeV × Int) := match numsN bs p n with
  | none => none
  | some (ks, q) => sforkB bs q n ks
def sleafA (bs : List Int) (p : Int) (n : Nat) : Option (NodeV × Int) := match pairsN bs p n with
  | none => none
  | some (l, q) => some (.inl l, q)
/-- what the model reads -/
def specRead (bs : List Int) : Option (NodeV × Int) := match getN bs 0 with
  | none => none
  | some (x, p) => match countN bs p 0 4 with
    | none => none
    | some (n, q) => if x = 1 then sleafA bs q n.toNat else sforkA bs q n.toNat
theorem nodeN_spec {bs : List Int} {r : NodeV × Int} (h : nodeN bs 0 = some r) : specRead bs = some r := by
  unfold nodeN at h
  unfold specRead
  cases hg : getN bs 0 with
  | none => rw [hg] at h; cases h
  | some xp =>
    obtain ⟨x, p1⟩ := xp
    rw [hg] at h
    simp only at h ⊢
    split at h
    · rename_i hx
      unfold leafN at h
      cases hc : countN bs p1 0 4 with
      | none => simp only [hc] at h; cases h
      | some np =>
        obtain ⟨c, p2⟩ := np
        simp only [hc] at h ⊢
        rw [if_pos hx]
        unfold sleafA
        cases hp : pairsN bs p2 c.toNat with
        | none => simp only [hp] at h; cases h
        | some lq =>
          simp only [hp] at h ⊢
          exact h
    · split at h
      · rename_i hx1 hx
        unfold forkN at h
        cases hc : countN bs p1 1 4 with
        | none => simp only [hc] at h; cases h
        | some np =>
          obtain ⟨c, p2⟩ := np
          obtain ⟨c0, c4, hcg⟩ := countN_in hc
          have hc' : countN bs p1 0 4 = some (c, p2) := by unfold countN; rw [hcg]; simp only; rw [if_pos ⟨by omega, c4⟩]
          simp only [hc] at h
          simp only [hc']
          rw [if_neg hx1]
          unfold sforkA
          unfold forkA at h
          have e : (c - 1).toNat + 1 = c.toNat := by omega
          have e2 : (c - 1).toNat = c.toNat - 1 := by omega
          rw [e] at h
          cases hk : numsN bs p2 c.toNat with
          | none => simp only [hk] at h; cases h
          | some kq =>
            obtain ⟨ks, p3⟩ := kq
            simp only [hk] at h ⊢
            unfold forkB at h
            unfold sforkB
            rw [e2] at h
            cases hu : numsN bs p3 (c.toNat - 1) with
            | none => simp only [hu] at h; cases h
            | some cq =>
              obtain ⟨cs, p4⟩ := cq
              simp only [hu] at h ⊢
              unfold forkC at h
              unfold sforkC
              cases hm : countN bs p4 0 6 with
              | none => simp only [hm] at h; cases h
              | some mq =>
                obtain ⟨d, p5⟩ := mq
                simp only [hm] at h ⊢
                cases hms : msgsN bs p5 d.toNat with
                | none => simp only [hms] at h; cases h
                | some mr =>
                  obtain ⟨ms, q'⟩ := mr
                  simp only [hms] at h ⊢
                  exact h
      · cases h
/-- the model's own test -/
def specTest (bs : List Int) (n : NodeV) (q : Int) : Prop := q = (bs.length : Int) ∧ okV n ∧ okNums (numsV n) ∧ formsB (numsV n) = bs
theorem getNodeF_yes {bs : List Int} {n : NodeV} {q : Int} (ht : specTest bs n q) : getNodeF bs = some n := by
  obtain ⟨_, h2, h3, h4⟩ := ht
  rw [← h4]
  exact getNodeF_of h3 h2
theorem getNodeF_no {bs : List Int} (hb : inByte bs) {n : NodeV} {q : Int} (h : specRead bs = some (n, q)) (ht : ¬ specTest bs n q) : getNodeF bs = none := by
  cases hf : getNodeF bs with
  | none => rfl
  | some n' =>
    exfalso
    obtain ⟨f1, f2, f3⟩ := getNodeF_put hb hf
    unfold getNodeF at hf
    cases hn : nodeN bs 0 with
    | none => rw [hn] at hf; cases hf
    | some np =>
      obtain ⟨m, p⟩ := np
      rw [hn] at hf
      simp only at hf
      split at hf
      · rename_i hp
        cases hf
        have := nodeN_spec hn
        rw [h] at this
        simp only [Option.some.injEq, Prod.mk.injEq] at this
        obtain ⟨rfl, rfl⟩ := this
        exact ht ⟨hp, f3, f2, f1⟩
      · cases hf
theorem getNodeF_none {bs : List Int} (h : specRead bs = none) : getNodeF bs = none := by
  unfold getNodeF
  cases hn : nodeN bs 0 with
  | none => rfl
  | some np =>
    have := nodeN_spec hn
    rw [h] at this
    cases this

end Go.Proofs.YtfedeljadckjiaaDoor
