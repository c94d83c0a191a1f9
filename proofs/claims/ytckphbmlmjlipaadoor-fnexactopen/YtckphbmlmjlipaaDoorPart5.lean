/-
  What is put is read, and what is read is put: the number form there and back.
  What was read stands in the bytes, form behind form: what is parsed is what is put.
  What is put is read again: the other way round.
  What the model's GetNode reads, as a plain function; where it reads all and its own PutNode makes the same bytes again, it is getNodeF.
  The model's cursor over bytes: one number.
  The model's GetNode: its first two numbers.
  The model's GetNode: what it reads of a fork, step by step.
-/
import Derived.Test.YtckphbmlmjlipaaDoorPart2
import Derived.Test.YtckphbmlmjlipaaDoorGetNode
import Derived.Test.YtckphbmlmjlipaaDoorLeaf
import Derived.Test.YtckphbmlmjlipaaDoorSGetNum
import Derived.Deep.DeepCutAuto
import Derived.Test.YtckphbmlmjlipaaDoorPart4
import Derived.Test.YtckphbmlmjlipaaDoorRegLast
namespace Go.Proofs.YtckphbmlmjlipaaDoor
open Go.RowKit

theorem numN_codeN (x : Int) : numN (codeN x) = x := by
  unfold codeN numN; split <;> split <;> omega
theorem codeN_numN {c : Int} (h : 0 ≤ c) : codeN (numN c) = c := by
  unfold codeN numN; split <;> split <;> omega

/-- a form is read -/
theorem readC_sevens (r : List Int) : ∀ (k f : Nat) (u c m : Int), k < f → 1 ≤ u → 0 ≤ m → m < topN k → (0 < m ∨ u = 1) → c + m * u ≤ 4000000000 → readC f u c (sevens k m ++ r) = some (c + m * u, (sevens k m).length) := by
  intro k
  induction k with
  | zero =>
    intro f u c m hf hu h0 ht hp hm
    obtain ⟨f, rfl⟩ : ∃ f', f = f' + 1 := ⟨f - 1, by omega⟩
    simp only [topN] at ht
    have e : m % 128 = m := by omega
    simp only [sevens, List.singleton_append, readC, if_pos ht, e]
    rw [if_pos ⟨hp, hm⟩]; rfl
  | succ k ih =>
    intro f u c m hf hu h0 ht hp hm
    obtain ⟨f, rfl⟩ : ∃ f', f = f' + 1 := ⟨f - 1, by omega⟩
    by_cases hb : 127 < m
    · rw [sevens_go k hb, List.cons_append, readC, if_neg (by omega)]
      have e1 : (m % 128 + 128) % 128 = m % 128 := by omega
      have e2 : c + m % 128 * u + m / 128 * (u * 128) = c + m * u := by
        have : m = m % 128 + 128 * (m / 128) := by omega
        calc c + m % 128 * u + m / 128 * (u * 128) = c + (m % 128 + 128 * (m / 128)) * u := by rw [Int.add_mul, Int.mul_comm u 128, ← Int.mul_assoc, Int.mul_comm (m / 128) 128, Int.add_assoc]
          _ = c + m * u := by rw [← this]
      rw [e1, ih f (u * 128) (c + m % 128 * u) (m / 128) (by omega) (by omega) (by omega) (by rw [topN] at ht; omega) (.inl (by omega)) (by rw [e2]; exact hm), e2]
      simp
    · have e : m % 128 = m := by omega
      rw [sevens_stop _ hb]
      simp only [List.singleton_append, readC, if_pos (show m < 128 by omega), e]
      rw [if_pos ⟨hp, hm⟩]; rfl
theorem getN_putN {x : Int} (h1 : -2000000000 ≤ x) (h2 : x ≤ 2000000000) (l r : List Int) : getN (l ++ putN x ++ r) l.length = some (x, (l.length : Int) + ((putN x).length : Int)) := by
  have hc := codeN_in h1 h2
  unfold getN fromB
  rw [if_neg (by omega), Int.toNat_natCast, List.append_assoc, List.drop_left, putN_in h1 h2, readC_sevens r 4 5 1 0 (codeN x) (by decide) (by decide) hc.1 (by simp [topN]; omega) (.inr rfl) (by omega)]
  simp [numN_codeN]

/-- what is read is a form -/
theorem sevens_readC : ∀ (f : Nat) (u c : Int) (r : List Int) (C : Int) (n : Nat), (∀ b ∈ r, 0 ≤ b ∧ b ≤ 255) → 1 ≤ u → readC (f + 1) u c r = some (C, n) → ∃ m, C = c + m * u ∧ 0 ≤ m ∧ (0 < m ∨ u = 1) ∧ sevens f m = r.take n ∧ n ≤ r.length := by
  intro f
  induction f with
  | zero =>
    intro u c r C n hr hu h
    cases r with
    | nil => simp [readC] at h
    | cons b r =>
      have hb := hr b (by simp)
      simp only [readC] at h
      by_cases hlt : b < 128
      · rw [if_pos hlt] at h
        split at h
        · rename_i hc
          simp only [Option.some.injEq, Prod.mk.injEq] at h
          obtain ⟨rfl, rfl⟩ := h
          have e : b % 128 = b := by omega
          exact ⟨b, by rw [e], hb.1, hc.1, by simp [sevens], by simp⟩
        · cases h
      · rw [if_neg hlt] at h; simp at h
  | succ f ih =>
    intro u c r C n hr hu h
    cases r with
    | nil => simp [readC] at h
    | cons b r =>
      have hb := hr b (by simp)
      rw [readC] at h
      by_cases hlt : b < 128
      · rw [if_pos hlt] at h
        split at h
        · rename_i hc
          simp only [Option.some.injEq, Prod.mk.injEq] at h
          obtain ⟨rfl, rfl⟩ := h
          have e : b % 128 = b := by omega
          exact ⟨b, by rw [e], hb.1, hc.1, by rw [sevens_stop _ (by omega)]; simp, by simp⟩
        · cases h
      · rw [if_neg hlt] at h
        cases hq : readC (f + 1) (u * 128) (c + b % 128 * u) r with
        | none => rw [hq] at h; cases h
        | some q =>
          obtain ⟨C', n'⟩ := q
          rw [hq] at h
          simp only [Option.map_some, Option.some.injEq, Prod.mk.injEq] at h
          obtain ⟨rfl, rfl⟩ := h
          obtain ⟨m, h1, h2, h3, h4, h5⟩ := ih (u * 128) _ r C' n' (fun x hx => hr x (by simp [hx])) (by omega) hq
          have hm : 0 < m := by
            rcases h3 with h3 | h3
            · exact h3
            · omega
          refine ⟨b % 128 + 128 * m, ?_, by omega, .inl (by omega), ?_, by simp; omega⟩
          · rw [h1, Int.add_mul, Int.mul_comm u 128, ← Int.mul_assoc, Int.mul_comm m 128, Int.add_assoc]
          · rw [sevens_go f (by omega), show (b % 128 + 128 * m) % 128 + 128 = b by omega, show (b % 128 + 128 * m) / 128 = m by omega, h4]
            simp
theorem readC_high : ∀ (f : Nat) (u c : Int) (r : List Int) (C : Int) (n : Nat), readC f u c r = some (C, n) → C ≤ 4000000000 := by
  intro f
  induction f with
  | zero => intro u c r C n h; cases h
  | succ f ih =>
    intro u c r C n h
    cases r with
    | nil => simp [readC] at h
    | cons b r =>
      rw [readC] at h
      split at h
      · split at h
        · rename_i hc
          simp only [Option.some.injEq, Prod.mk.injEq] at h
          obtain ⟨rfl, rfl⟩ := h
          exact hc.2
        · cases h
      · cases hq : readC f (u * 128) (c + b % 128 * u) r with
        | none => rw [hq] at h; cases h
        | some q =>
          obtain ⟨C', n'⟩ := q
          rw [hq] at h
          simp only [Option.map_some, Option.some.injEq, Prod.mk.injEq] at h
          obtain ⟨rfl, rfl⟩ := h
          exact ih _ _ _ _ _ hq
/-- a number that is read: its bytes stand there -/
theorem putN_getN {bs : List Int} (hb : inByte bs) {at_ x p : Int} (h : getN bs at_ = some (x, p)) : 0 ≤ at_ ∧ p = at_ + (putN x).length ∧ 0 < (putN x).length ∧ p ≤ bs.length ∧ (-2000000000 ≤ x ∧ x ≤ 2000000000) ∧ putN x = (bs.drop at_.toNat).take (putN x).length := by
  unfold getN at h
  cases hq : readC 5 1 0 (fromB bs at_) with
  | none => rw [hq] at h; cases h
  | some q =>
    obtain ⟨C, n⟩ := q
    rw [hq] at h
    simp only [Option.map_some, Option.some.injEq, Prod.mk.injEq] at h
    obtain ⟨rfl, rfl⟩ := h
    have hat : 0 ≤ at_ := by
      by_cases h0 : at_ < 0
      · unfold fromB at hq; rw [if_pos h0] at hq; simp [readC] at hq
      · omega
    have hf : fromB bs at_ = bs.drop at_.toNat := by unfold fromB; rw [if_neg (by omega)]
    rw [hf] at hq
    have hi := readC_high _ _ _ _ _ _ hq
    obtain ⟨m, h1, h2, h3, h4, h5⟩ := sevens_readC 4 1 0 _ C n (fun b hb' => hb b (List.mem_of_mem_drop hb')) (by decide) hq
    have hm : C = m := by omega
    subst hm
    have hr := (numN_in h2).2 hi
    have hp : putN (numN C) = (bs.drop at_.toNat).take n := by rw [putN_in hr.1 hr.2, codeN_numN h2, h4]
    have hl : (putN (numN C)).length = n := by rw [hp]; simp at h5 ⊢; omega
    have hpos : 0 < (putN (numN C)).length := by rw [putN_in hr.1 hr.2]; exact sevens_pos _ _
    refine ⟨hat, by rw [hl], hpos, ?_, hr, by rw [hl]; exact hp⟩
    simp at h5
    rw [hl] at hpos
    omega

end Go.Proofs.YtckphbmlmjlipaaDoor

namespace Go.Proofs.YtckphbmlmjlipaaDoor

/-- from p to q stand the forms of these numbers -/
def Spans (bs : List Int) (p : Int) (l : List Int) (q : Int) : Prop := 0 ≤ p ∧ p ≤ bs.length ∧ q ≤ bs.length ∧ q = p + (formsB l).length ∧ formsB l = (bs.drop p.toNat).take (formsB l).length ∧ okNums l
theorem formsB_app (l m : List Int) : formsB (l ++ m) = formsB l ++ formsB m := by simp [formsB]
variable {bs : List Int} {p q r : Int} {l m : List Int}
theorem Spans.nil (h0 : 0 ≤ p) (h1 : p ≤ bs.length) : Spans bs p [] p := ⟨h0, h1, h1, by simp [formsB], by simp [formsB], fun x hx => by cases hx⟩
theorem Spans.one (hb : inByte bs) {x : Int} (h : getN bs p = some (x, q)) : Spans bs p [x] q := by
  obtain ⟨h0, h1, h2, h3, h4, h5⟩ := putN_getN hb h
  have e : formsB [x] = putN x := by simp [formsB]
  refine ⟨h0, by omega, h3, by rw [e]; exact h1, by rw [e]; exact h5, fun y hy => ?_⟩
  have : y = x := by simpa using hy
  rw [this]; exact h4
theorem Spans.app (h : Spans bs p l q) (h' : Spans bs q m r) : Spans bs p (l ++ m) r := by
  obtain ⟨a0, a1, a2, a3, a4, a5⟩ := h
  obtain ⟨b0, b1, b2, b3, b4, b5⟩ := h'
  refine ⟨a0, a1, b2, by rw [formsB_app, List.length_append]; omega, ?_, fun x hx => ?_⟩
  · rw [formsB_app, List.length_append, List.take_add, List.drop_drop, ← a4]
    have : p.toNat + (formsB l).length = q.toNat := by omega
    rw [this, ← b4]
  · rcases List.mem_append.1 hx with hx | hx
    · exact a5 x hx
    · exact b5 x hx
theorem Spans.lo (h : Spans bs p l q) : 0 ≤ q ∧ q ≤ bs.length := ⟨by obtain ⟨a0, a1, a2, a3, a4, a5⟩ := h; omega, h.2.2.1⟩
/-- all of the bytes -/
theorem Spans.all (h : Spans bs 0 l bs.length) : formsB l = bs ∧ okNums l := by
  obtain ⟨a0, a1, a2, a3, a4, a5⟩ := h
  have : (formsB l).length = bs.length := by omega
  rw [this] at a4
  simp at a4
  exact ⟨a4, a5⟩
theorem numsN_spans (hb : inByte bs) (h0 : 0 ≤ p) (h1 : p ≤ bs.length) : ∀ {k : Nat} {l : List Int} {q : Int}, numsN bs p k = some (l, q) → Spans bs p l q := by
  intro k
  induction k with
  | zero => intro l q h; simp [numsN] at h; rw [h.1, ← h.2]; exact Spans.nil h0 h1
  | succ k ih =>
    intro l q h
    rw [numsN] at h
    cases hq : numsN bs p k with
    | none => rw [hq] at h; cases h
    | some lp =>
      obtain ⟨l', p'⟩ := lp
      rw [hq] at h
      cases hg : getN bs p' with
      | none => simp only [hg] at h; cases h
      | some xq =>
        obtain ⟨x, q'⟩ := xq
        simp only [hg, Option.some.injEq, Prod.mk.injEq] at h
        obtain ⟨rfl, rfl⟩ := h
        exact (ih hq).app (Spans.one hb hg)
theorem pairsN_spans (hb : inByte bs) (h0 : 0 ≤ p) (h1 : p ≤ bs.length) : ∀ {k : Nat} {l : List (Int × Int)} {q : Int}, pairsN bs p k = some (l, q) → Spans bs p (pairNums l) q := by
  intro k
  induction k with
  | zero => intro l q h; simp [pairsN] at h; rw [h.1, ← h.2]; exact Spans.nil h0 h1
  | succ k ih =>
    intro l q h
    rw [pairsN] at h
    cases hq : pairsN bs p k with
    | none => rw [hq] at h; cases h
    | some lp =>
      obtain ⟨l', p'⟩ := lp
      rw [hq] at h
      simp only at h
      split at h
      · rename_i x y q' hg
        simp only [Option.some.injEq, Prod.mk.injEq] at h
        obtain ⟨rfl, rfl⟩ := h
        have := (ih hq).app (numsN_spans hb (ih hq).lo.1 (ih hq).lo.2 hg)
        simpa [pairNums] using this
      · cases h
theorem msgsN_spans (hb : inByte bs) (h0 : 0 ≤ p) (h1 : p ≤ bs.length) : ∀ {k : Nat} {l : List (Int × Int × Int)} {q : Int}, msgsN bs p k = some (l, q) → Spans bs p (msgNums l) q := by
  intro k
  induction k with
  | zero => intro l q h; simp [msgsN] at h; rw [h.1, ← h.2]; exact Spans.nil h0 h1
  | succ k ih =>
    intro l q h
    rw [msgsN] at h
    cases hq : msgsN bs p k with
    | none => rw [hq] at h; cases h
    | some lp =>
      obtain ⟨l', p'⟩ := lp
      rw [hq] at h
      simp only at h
      split at h
      · rename_i x y z q' hg
        simp only [Option.some.injEq, Prod.mk.injEq] at h
        obtain ⟨rfl, rfl⟩ := h
        have := (ih hq).app (numsN_spans hb (ih hq).lo.1 (ih hq).lo.2 hg)
        simpa [msgNums] using this
      · cases h
/-- the numbers of what a node tells -/
def numsV : NodeV → List Int
  | .inl l => leafNums l
  | .inr f => [0, (f.kids.length : Int)] ++ f.kids ++ f.cuts ++ [(f.buf.length : Int)] ++ msgNums f.buf
/-- its counts are as a node's -/
def okV : NodeV → Prop
  | .inl l => l.length ≤ 4
  | .inr f => 1 ≤ f.kids.length ∧ f.kids.length ≤ 4 ∧ f.cuts.length + 1 = f.kids.length ∧ f.buf.length ≤ 6
theorem countN_spans (hb : inByte bs) {lo hi x : Int} (h : countN bs p lo hi = some (x, q)) : Spans bs p [x] q ∧ lo ≤ x ∧ x ≤ hi :=
  ⟨Spans.one hb (countN_in h).2.2, (countN_in h).1, (countN_in h).2.1⟩
theorem nodeN_spans (hb : inByte bs) {n : NodeV} (h : nodeN bs p = some (n, q)) : Spans bs p (numsV n) q ∧ okV n := by
  unfold nodeN at h
  cases hg : getN bs p with
  | none => rw [hg] at h; cases h
  | some xp =>
    obtain ⟨x, p1⟩ := xp
    have s1 := Spans.one hb hg
    rw [hg] at h
    simp only at h
    split at h
    · rename_i hx
      subst hx
      unfold leafN at h
      cases hc : countN bs p1 0 4 with
      | none => simp only [hc] at h; cases h
      | some np =>
        obtain ⟨c, p2⟩ := np
        obtain ⟨s2, c0, c4⟩ := countN_spans hb hc
        simp only [hc] at h
        cases hp : pairsN bs p2 c.toNat with
        | none => simp only [hp] at h; cases h
        | some lq =>
          obtain ⟨l, q'⟩ := lq
          simp only [hp, Option.some.injEq, Prod.mk.injEq] at h
          obtain ⟨rfl, rfl⟩ := h
          have hl := pairsN_length hp
          have s3 := pairsN_spans hb s2.lo.1 s2.lo.2 hp
          have e : c = (l.length : Int) := by omega
          subst e
          exact ⟨by simpa [numsV, leafNums] using (s1.app s2).app s3, by show l.length ≤ 4; omega⟩
    · split at h
      · rename_i hx
        subst hx
        unfold forkN at h
        cases hc : countN bs p1 1 4 with
        | none => simp only [hc] at h; cases h
        | some np =>
          obtain ⟨c, p2⟩ := np
          obtain ⟨s2, c0, c4⟩ := countN_spans hb hc
          simp only [hc] at h
          unfold forkA at h
          cases hk : numsN bs p2 ((c - 1).toNat + 1) with
          | none => simp only [hk] at h; cases h
          | some kq =>
            obtain ⟨ks, p3⟩ := kq
            have s3 := numsN_spans hb s2.lo.1 s2.lo.2 hk
            have lk := numsN_length hk
            simp only [hk] at h
            unfold forkB at h
            cases hu : numsN bs p3 (c - 1).toNat with
            | none => simp only [hu] at h; cases h
            | some cq =>
              obtain ⟨cs, p4⟩ := cq
              have s4 := numsN_spans hb s3.lo.1 s3.lo.2 hu
              have lc := numsN_length hu
              simp only [hu] at h
              unfold forkC at h
              cases hm : countN bs p4 0 6 with
              | none => simp only [hm] at h; cases h
              | some mq =>
                obtain ⟨d, p5⟩ := mq
                obtain ⟨s5, d0, d6⟩ := countN_spans hb hm
                simp only [hm] at h
                cases hms : msgsN bs p5 d.toNat with
                | none => simp only [hms] at h; cases h
                | some mr =>
                  obtain ⟨ms, q'⟩ := mr
                  simp only [hms, Option.some.injEq, Prod.mk.injEq] at h
                  obtain ⟨rfl, rfl⟩ := h
                  have lm := msgsN_length hms
                  have s6 := msgsN_spans hb s5.lo.1 s5.lo.2 hms
                  have e : c = (ks.length : Int) := by omega
                  have e2 : d = (ms.length : Int) := by omega
                  subst e
                  subst e2
                  refine ⟨by simpa [numsV] using (((((s1.app s2).app s3).app s4).app s5).app s6), ?_, ?_, ?_, ?_⟩
                  all_goals (simp only; omega)
      · cases h
/-- what GetNode takes is what PutNode makes of it -/
theorem getNodeF_put (hb : inByte bs) {n : NodeV} (h : getNodeF bs = some n) : formsB (numsV n) = bs ∧ okNums (numsV n) ∧ okV n := by
  unfold getNodeF at h
  cases hn : nodeN bs 0 with
  | none => rw [hn] at h; cases h
  | some np =>
    obtain ⟨n', p'⟩ := np
    rw [hn] at h
    simp only at h
    split at h
    · rename_i hp
      cases h
      subst hp
      obtain ⟨s, o⟩ := nodeN_spans hb hn
      exact ⟨s.all.1, s.all.2, o⟩
    · cases h

end Go.Proofs.YtckphbmlmjlipaaDoor

namespace Go.Proofs.YtckphbmlmjlipaaDoor
variable {bs : List Int} {p q r : Int} {l m : List Int}

theorem Spans.of (l : List Int) (h : okNums l) : Spans (formsB l) 0 l (formsB l).length := ⟨by omega, by omega, by omega, by omega, by simp, h⟩
theorem Spans.split (h : Spans bs p (l ++ m) r) : ∃ q, Spans bs p l q ∧ Spans bs q m r := by
  obtain ⟨a0, a1, a2, a3, a4, a5⟩ := h
  rw [formsB_app, List.length_append, List.take_add, List.drop_drop] at a4
  rw [formsB_app, List.length_append] at a3
  have hlen : ((bs.drop p.toNat).take (formsB l).length).length = (formsB l).length := by
    rw [List.length_take, List.length_drop]; omega
  obtain ⟨e1, e2⟩ := List.append_inj a4 (by rw [hlen])
  refine ⟨p + (formsB l).length, ⟨a0, a1, by omega, rfl, e1, fun x hx => a5 x (List.mem_append_left _ hx)⟩, ⟨by omega, by omega, a2, by omega, ?_, fun x hx => a5 x (List.mem_append_right _ hx)⟩⟩
  have : (p + ((formsB l).length : Int)).toNat = p.toNat + (formsB l).length := by omega
  rw [this]
  exact e2
theorem Spans.get {x : Int} (h : Spans bs p [x] q) : getN bs p = some (x, q) := by
  obtain ⟨a0, a1, a2, a3, a4, a5⟩ := h
  have e : formsB [x] = putN x := by simp [formsB]
  rw [e] at a3 a4
  obtain ⟨x1, x2⟩ := a5 x (by simp)
  have hb : bs = bs.take p.toNat ++ putN x ++ (bs.drop p.toNat).drop (putN x).length := by
    rw [List.append_assoc]
    conv => lhs; rw [← List.take_append_drop p.toNat bs, ← List.take_append_drop (putN x).length (bs.drop p.toNat), ← a4]
  have hl : (bs.take p.toNat).length = p.toNat := by rw [List.length_take]; omega
  have := getN_putN x1 x2 (bs.take p.toNat) ((bs.drop p.toNat).drop (putN x).length)
  rw [← hb, hl] at this
  have hp : ((p.toNat : Nat) : Int) = p := by omega
  rw [hp] at this
  rw [this, a3]
theorem Spans.nums : ∀ {l : List Int} {q : Int}, Spans bs p l q → numsN bs p l.length = some (l, q) := by
  intro l
  induction h : l.length generalizing l with
  | zero =>
    intro q hs
    obtain rfl := List.length_eq_zero_iff.1 h
    have : q = p := by have := hs.2.2.2.1; simp [formsB] at this; exact this
    rw [this, numsN]
  | succ k ih =>
    intro q hs
    rcases List.eq_nil_or_concat l with rfl | ⟨l', x, rfl⟩
    · simp at h
    · rw [List.concat_eq_append] at hs h ⊢
      obtain ⟨q', s1, s2⟩ := hs.split
      have := ih (l := l') (by simpa using h) s1
      rw [numsN, this]
      simp only [s2.get]
theorem Spans.count {x lo hi : Int} (h : Spans bs p [x] q) (h1 : lo ≤ x) (h2 : x ≤ hi) : countN bs p lo hi = some (x, q) := by
  unfold countN
  rw [h.get]
  simp only
  rw [if_pos ⟨h1, h2⟩]
theorem Spans.pairs : ∀ {l : List (Int × Int)} {q : Int}, Spans bs p (pairNums l) q → pairsN bs p l.length = some (l, q) := by
  intro l
  induction h : l.length generalizing l with
  | zero =>
    intro q hs
    obtain rfl := List.length_eq_zero_iff.1 h
    have : q = p := by have := hs.2.2.2.1; simp [formsB, pairNums] at this; exact this
    rw [this, pairsN]
  | succ k ih =>
    intro q hs
    rcases List.eq_nil_or_concat l with rfl | ⟨l', x, rfl⟩
    · simp at h
    · rw [List.concat_eq_append] at hs h ⊢
      have e : pairNums (l' ++ [x]) = pairNums l' ++ [x.1, x.2] := by simp [pairNums]
      rw [e] at hs
      obtain ⟨q', s1, s2⟩ := hs.split
      have := ih (l := l') (by simpa using h) s1
      rw [pairsN, this]
      have := s2.nums
      simp only [List.length_cons, List.length_nil, Nat.zero_add, Nat.reduceAdd] at this
      simp only [this]
theorem Spans.msgs : ∀ {l : List (Int × Int × Int)} {q : Int}, Spans bs p (msgNums l) q → msgsN bs p l.length = some (l, q) := by
  intro l
  induction h : l.length generalizing l with
  | zero =>
    intro q hs
    obtain rfl := List.length_eq_zero_iff.1 h
    have : q = p := by have := hs.2.2.2.1; simp [formsB, msgNums] at this; exact this
    rw [this, msgsN]
  | succ k ih =>
    intro q hs
    rcases List.eq_nil_or_concat l with rfl | ⟨l', x, rfl⟩
    · simp at h
    · rw [List.concat_eq_append] at hs h ⊢
      have e : msgNums (l' ++ [x]) = msgNums l' ++ [x.1, x.2.1, x.2.2] := by simp [msgNums]
      rw [e] at hs
      obtain ⟨q', s1, s2⟩ := hs.split
      have := ih (l := l') (by simpa using h) s1
      rw [msgsN, this]
      have := s2.nums
      simp only [List.length_cons, List.length_nil, Nat.zero_add, Nat.reduceAdd] at this
      simp only [this]
theorem Spans.node {n : NodeV} (ho : okV n) (h : Spans bs p (numsV n) q) : nodeN bs p = some (n, q) := by
  cases n with
  | inl l =>
    have ho : l.length ≤ 4 := ho
    have h : Spans bs p ([1] ++ ([(l.length : Int)] ++ pairNums l)) q := by simpa [numsV, leafNums] using h
    obtain ⟨p1, s1, h⟩ := h.split
    obtain ⟨p2, s2, s3⟩ := h.split
    unfold nodeN leafN
    simp only [s1.get, if_true, s2.count (lo := 0) (hi := 4) (by omega) (by omega), Int.toNat_natCast, s3.pairs]
  | inr f =>
    obtain ⟨ks, cs, ms⟩ := f
    obtain ⟨o1, o2, o3, o4⟩ := ho
    simp only at o1 o2 o3 o4
    have h : Spans bs p ([0] ++ ([(ks.length : Int)] ++ (ks ++ (cs ++ ([(ms.length : Int)] ++ msgNums ms))))) q := by simpa [numsV] using h
    obtain ⟨p1, s1, h⟩ := h.split
    obtain ⟨p2, s2, h⟩ := h.split
    obtain ⟨p3, s3, h⟩ := h.split
    obtain ⟨p4, s4, h⟩ := h.split
    obtain ⟨p5, s5, s6⟩ := h.split
    have hk : ((ks.length : Int) - 1).toNat = cs.length := by omega
    have s3' := s3.nums
    rw [← o3] at s3'
    unfold nodeN forkN
    simp only [s1.get, s2.count (lo := 1) (hi := 4) (by omega) (by omega), hk]
    unfold forkA forkB forkC
    simp only [s3', s4.nums, s5.count (lo := 0) (hi := 6) (by omega) (by omega), Int.toNat_natCast, s6.msgs]
    rfl
/-- what PutNode makes is taken by GetNode -/
theorem getNodeF_of {n : NodeV} (hn : okNums (numsV n)) (ho : okV n) : getNodeF (formsB (numsV n)) = some n := by
  unfold getNodeF
  rw [Spans.node ho (Spans.of _ hn)]
  simp

end Go.Proofs.YtckphbmlmjlipaaDoor

namespace Go.Proofs.YtckphbmlmjlipaaDoor

/-- behind the first two numbers of a fork -/
def sforkC (bs : List Int) (p : Int) (ks cs : List Int) : Option (NodeV × Int) := match countN bs p 0 6 with
  | none => none
  | some (m, q) => match msgsN bs q m.toNat with
    | none => none
    | some (ms, r) => some (.inr ⟨ks, cs, ms⟩, r)
def sforkB (bs : List Int) (p : Int) (n : Nat) (ks : List Int) : Option (NodeV × Int) := match numsN bs p (n - 1) with
  | none => none
  | some (cs, q) => sforkC bs q ks cs
def sforkA (bs : List Int) (p : Int) (n : Nat) : Option (NodeV × Int) := match numsN bs p n with
  | none => none
  | some (ks, q) => sforkB bs q n ks
def sleafA (bs : List Int) (p : Int) (n : Nat) : Option (NodeV × Int) := match pairsN bs p n with
  | none => none
  | some (l, q) => some (.inl l, q)
/-- what the model reads -/
def specRead (bs : List Int) : Option (NodeV × Int) := match getN bs 0 with
  | none => none
  | some (x, p) => match countN bs p 0 4 with
    | none => none
    | some (n, q) => if x = 1 then sleafA bs q n.toNat else sforkA bs q n.toNat
theorem nodeN_spec {bs : List Int} {r : NodeV × Int} (h : nodeN bs 0 = some r) : specRead bs = some r := by
  unfold nodeN at h
  unfold specRead
  cases hg : getN bs 0 with
  | none => rw [hg] at h; cases h
  | some xp =>
    obtain ⟨x, p1⟩ := xp
    rw [hg] at h
    simp only at h ⊢
    split at h
    · rename_i hx
      unfold leafN at h
      cases hc : countN bs p1 0 4 with
      | none => simp only [hc] at h; cases h
      | some np =>
        obtain ⟨c, p2⟩ := np
        simp only [hc] at h ⊢
        rw [if_pos hx]
        unfold sleafA
        cases hp : pairsN bs p2 c.toNat with
        | none => simp only [hp] at h; cases h
        | some lq =>
          simp only [hp] at h ⊢
          exact h
    · split at h
      · rename_i hx1 hx
        unfold forkN at h
        cases hc : countN bs p1 1 4 with
        | none => simp only [hc] at h; cases h
        | some np =>
          obtain ⟨c, p2⟩ := np
          obtain ⟨c0, c4, hcg⟩ := countN_in hc
          have hc' : countN bs p1 0 4 = some (c, p2) := by unfold countN; rw [hcg]; simp only; rw [if_pos ⟨by omega, c4⟩]
          simp only [hc] at h
          simp only [hc']
          rw [if_neg hx1]
          unfold sforkA
          unfold forkA at h
          have e : (c - 1).toNat + 1 = c.toNat := by omega
          have e2 : (c - 1).toNat = c.toNat - 1 := by omega
          rw [e] at h
          cases hk : numsN bs p2 c.toNat with
          | none => simp only [hk] at h; cases h
          | some kq =>
            obtain ⟨ks, p3⟩ := kq
            simp only [hk] at h ⊢
            unfold forkB at h
            unfold sforkB
            rw [e2] at h
            cases hu : numsN bs p3 (c.toNat - 1) with
            | none => simp only [hu] at h; cases h
            | some cq =>
              obtain ⟨cs, p4⟩ := cq
              simp only [hu] at h ⊢
              unfold forkC at h
              unfold sforkC
              cases hm : countN bs p4 0 6 with
              | none => simp only [hm] at h; cases h
              | some mq =>
                obtain ⟨d, p5⟩ := mq
                simp only [hm] at h ⊢
                cases hms : msgsN bs p5 d.toNat with
                | none => simp only [hms] at h; cases h
                | some mr =>
                  obtain ⟨ms, q'⟩ := mr
                  simp only [hms] at h ⊢
                  exact h
      · cases h
/-- the model's own test -/
def specTest (bs : List Int) (n : NodeV) (q : Int) : Prop := q = (bs.length : Int) ∧ okV n ∧ okNums (numsV n) ∧ formsB (numsV n) = bs
theorem getNodeF_yes {bs : List Int} {n : NodeV} {q : Int} (ht : specTest bs n q) : getNodeF bs = some n := by
  obtain ⟨_, h2, h3, h4⟩ := ht
  rw [← h4]
  exact getNodeF_of h3 h2
theorem getNodeF_no {bs : List Int} (hb : inByte bs) {n : NodeV} {q : Int} (h : specRead bs = some (n, q)) (ht : ¬ specTest bs n q) : getNodeF bs = none := by
  cases hf : getNodeF bs with
  | none => rfl
  | some n' =>
    exfalso
    obtain ⟨f1, f2, f3⟩ := getNodeF_put hb hf
    unfold getNodeF at hf
    cases hn : nodeN bs 0 with
    | none => rw [hn] at hf; cases hf
    | some np =>
      obtain ⟨m, p⟩ := np
      rw [hn] at hf
      simp only at hf
      split at hf
      · rename_i hp
        cases hf
        have := nodeN_spec hn
        rw [h] at this
        simp only [Option.some.injEq, Prod.mk.injEq] at this
        obtain ⟨rfl, rfl⟩ := this
        exact ht ⟨hp, f3, f2, f1⟩
      · cases hf
theorem getNodeF_none {bs : List Int} (h : specRead bs = none) : getNodeF bs = none := by
  unfold getNodeF
  cases hn : nodeN bs 0 with
  | none => rfl
  | some np =>
    have := nodeN_spec hn
    rw [h] at this
    cases this

end Go.Proofs.YtckphbmlmjlipaaDoor

namespace Go.Proofs.YtckphbmlmjlipaaDoor
open Go.RowKit

/-- the cursor: its bytes, its place, whether all was well -/
def CurAt (w : World) (C : Nat) (v : Value) (at_ : Int) (ok : Bool) : Prop := w.heap[C]? = some (.cells #[v, .int .i64 at_, .bool ok] 88 (0, 0))
theorem CurAt.cell {w : World} {C : Nat} {v : Value} {at_ : Int} {ok : Bool} (h : CurAt w C v at_ ok) : w.cell? ⟨C, 0, none⟩ = some v ∧ w.cell? ⟨C, 1, none⟩ = some (.int .i64 at_) ∧ w.cell? ⟨C, 2, none⟩ = some (.bool ok) := by
  refine ⟨?_, ?_, ?_⟩ <;> (rw [cell_of_cells h]; rfl)
theorem CurAt.live {w : World} {C : Nat} {v : Value} {at_ : Int} {ok : Bool} (h : CurAt w C v at_ ok) (j : Nat) : w.frozen? ⟨C, j, none⟩ = false := frozen_of_cells h
theorem CurAt.below {w w' : World} {C : Nat} {v : Value} {at_ : Int} {ok : Bool} (h : CurAt w C v at_ ok) (hb : Below w.heap.size w w') : CurAt w' C v at_ ok := row_chg h (Chg.of_below (F := fun _ => False) hb) id
theorem CurAt.chg {F : Nat → Prop} {w w' : World} {C : Nat} {v : Value} {at_ : Int} {ok : Bool} (h : CurAt w C v at_ ok) (hc : Chg F w w') (hF : ¬ F C) : CurAt w' C v at_ ok := row_chg h hc hF
theorem CurAt.setOk {w : World} {C : Nat} {v : Value} {at_ : Int} {ok : Bool} (h : CurAt w C v at_ ok) (z : Bool) : CurAt (w.setCell ⟨C, 2, none⟩ (.bool z)) C v at_ z := heap_setCell_same w C 2 _ _ _ h
theorem CurAt.setAt {w : World} {C : Nat} {v : Value} {at_ : Int} {ok : Bool} (h : CurAt w C v at_ ok) (p : Int) : CurAt (w.setCell ⟨C, 1, none⟩ (.int .i64 p)) C v p ok := heap_setCell_same w C 1 _ _ _ h
/-- a number, the place behind it, whether all was well -/
def curN (bs : List Int) (at_ : Int) (ok : Bool) : Int × Int × Bool := match getN bs at_, ok with
  | some (x, p), true => (x, p, true)
  | _, _ => (0, at_, false)

set_option maxRecDepth 100000 in
set_option maxHeartbeats 1000000 in
theorem l5Num_any (v : Value) (bs : List Int) (C : Nat) (at_ : Int) (ok : Bool) (w : World) (hr : Row w v bs.length (flatB bs)) (hbs : inByte bs) (hn : bs.length ≤ 1099511627776) (h : CurAt w C v at_ ok) :
    Calls Tryd.prog 52 #[.pointer (some ⟨C, 0, none⟩)] w fun e w' => e = .returned (.int .i64 (curN bs at_ ok).1) ∧ CurAt w' C v (curN bs at_ ok).2.1 (curN bs at_ ok).2.2 ∧ Chg (fun g => g = C) w w' := by
  obtain ⟨av, bv, ov, cv, hv, _⟩ := id hr
  have hnot : ∀ (x : Bool) (w : World), (Op.unary .not (.bool x)).run Tryd.prog w = .ok (.bool (!x)) w := fun _ _ => rfl
  have GN : Hid (∀ u, Below w.heap.size w u → Calls Tryd.prog 58 #[v, .int .i64 at_] u fun e w' => e = .returned (gotN (getN bs at_)) ∧ Below u.heap.size u w') := fun u hu => specGetNum_any v bs at_ u (hr.below hu) hbs hn
  subst hv
  have H : Hid (CurAt w C (.slice av bs.length cv) at_ ok) := h
  obtain ⟨c0, c1, c2⟩ := h.cell
  clear hr h
  go_enter Tryd.func52, Tryd.ntmps52
  go_upto_region 1 with fail
  go_cut [3, 4, 5] (fun s3 s4 s5 wx => Value.tuple #[s3, s4, s5] = gotN (getN bs at_) ∧ Hid (Below w.heap.size w wx))
  case first =>
    refine wp_region_held_drew (S := fun u => u.cell? ⟨C, 0, none⟩ = some (.slice av bs.length cv) ∧ u.cell? ⟨C, 1, none⟩ = some (.int .i64 at_)) (by kernel_rfl) ⟨c0, c1⟩ ?_
    intro hS
    have BD : Hid (Below w.heap.size w w.drew) := (Below.refl _ _).drew
    generalize w.drew = wd at *
    refine wpAnyH_take (i := 0) (oi := ⟨_, _, _, _, _, _⟩) (v := ?_) rfl (by kernel_rfl) (by kernel_rfl) (by kernel_rfl) (fun _ _ _ h => h) (Or.inl ⟨by rfl, ?_⟩) (by assumption) ?_
    rotate_left
    · ((intro w hSw; (try dsimp only at hSw); go_simp); (try with_reducible rfl))
    try simp only [Act.put, List.setIfInBounds_toArray, List.set_cons_zero, List.set_cons_succ]
    refine wpAnyH_take (i := 1) (oi := ⟨_, _, _, _, _, _⟩) (v := ?_) rfl (by kernel_rfl) (by kernel_rfl) (by kernel_rfl) (fun _ _ _ h => h) (Or.inl ⟨by rfl, ?_⟩) (by assumption) ?_
    rotate_left
    · ((intro w hSw; (try dsimp only at hSw); go_simp); (try with_reducible rfl))
    try simp only [Act.put, List.setIfInBounds_toArray, List.set_cons_zero, List.set_cons_succ]
    refine wpAnyH_take (i := 2) (oi := ⟨_, _, _, _, _, _⟩) (v := ?_) rfl (by kernel_rfl) (by kernel_rfl) (by kernel_rfl) (fun _ _ _ h => h) (Or.inl ⟨by rfl, ?_⟩) (by assumption) ?_
    rotate_left
    · ((intro w hSw; (try dsimp only at hSw); go_simp); (try with_reducible rfl))
    try simp only [Act.put, List.setIfInBounds_toArray, List.set_cons_zero, List.set_cons_succ]
    refine wpAnyH_take (i := 3) (oi := ⟨_, _, _, _, _, _⟩) (v := ?_) rfl (by kernel_rfl) (by kernel_rfl) (by kernel_rfl) (fun _ _ _ h => h) (Or.inl ⟨by rfl, ?_⟩) (by assumption) ?_
    rotate_left
    · ((intro w hSw; (try dsimp only at hSw); go_simp); (try with_reducible rfl))
    try simp only [Act.put, List.setIfInBounds_toArray, List.set_cons_zero, List.set_cons_succ]
    refine wpAnyH_take (i := 4) (oi := ⟨_, _, _, _, _, _⟩) (v := ?_) rfl (by kernel_rfl) (by kernel_rfl) (by kernel_rfl) (fun _ _ _ h => h) (Or.inl ⟨by rfl, ?_⟩) (by assumption) ?_
    rotate_left
    · ((intro w hSw; (try dsimp only at hSw); go_simp); (try with_reducible rfl))
    try simp only [Act.put, List.setIfInBounds_toArray, List.set_cons_zero, List.set_cons_succ]
    refine wpAnyH_take (i := 5) (oi := ⟨_, _, _, _, _, _⟩) (v := ?_) rfl (by kernel_rfl) (by kernel_rfl) (by kernel_rfl) (fun _ _ _ h => h) (Or.inl ⟨by rfl, ?_⟩) (by assumption) ?_
    rotate_left
    · ((intro w hSw; (try dsimp only at hSw); go_simp); (try with_reducible rfl))
    try simp only [Act.put, List.setIfInBounds_toArray, List.set_cons_zero, List.set_cons_succ]
    refine wpAnyH_take (i := 6) (oi := ⟨_, _, _, _, _, _⟩) (v := ?_) rfl (by kernel_rfl) (by kernel_rfl) (by kernel_rfl) (fun _ _ _ h => h) (Or.inl ⟨by rfl, ?_⟩) (by assumption) ?_
    rotate_left
    · ((intro w hSw; (try dsimp only at hSw); go_simp); (try with_reducible rfl))
    try simp only [Act.put, List.setIfInBounds_toArray, List.set_cons_zero, List.set_cons_succ]
    refine wpAnyH_take (i := 7) (oi := ⟨_, _, _, _, _, _⟩) (v := ?_) rfl (by kernel_rfl) (by kernel_rfl) (by kernel_rfl) (fun _ _ _ h => h) (Or.inl ⟨by rfl, ?_⟩) (by assumption) ?_
    rotate_left
    · ((intro w hSw; (try dsimp only at hSw); go_simp); (try with_reducible rfl))
    try simp only [Act.put, List.setIfInBounds_toArray, List.set_cons_zero, List.set_cons_succ]
    refine wpAnyH_ready (rs := [8]) (by kernel_rfl) (by simp) ?_
    refine AllReadyH.cons (o := ⟨_, _, _, _, _, _⟩) rfl (fun K hK => ?_) AllReadyH.nil
    go_simp
    refine Calls.mono (GN.out _ BD.out) ?_
    rintro e w2 ⟨rfl, b2⟩
    have S2 : w2.cell? ⟨C, 0, none⟩ = some (.slice av bs.length cv) ∧ w2.cell? ⟨C, 1, none⟩ = some (.int .i64 at_) := ⟨cell_lowB b2 (cell_lt hS.1) hS.1, cell_lowB b2 (cell_lt hS.2) hS.2⟩
    have B2 : Hid (Below w.heap.size w w2) := BD.out.trans (b2.mono BD.out.size)
    have ht : ∃ y0 y1 y2, gotN (getN bs at_) = .tuple #[y0, y1, y2] := by
      cases getN bs at_ with
      | none => exact ⟨_, _, _, rfl⟩
      | some xp => exact ⟨_, _, _, rfl⟩
    obtain ⟨y0, y1, y2, hy⟩ := ht
    have HY : Hid _ := hy
    rw [hy]
    clear hy b2
    refine hK.out _ _ S2 (fun _ => ?_)
    clear hK K
    try simp only [Act.put, List.setIfInBounds_toArray, List.set_cons_zero, List.set_cons_succ]
    refine wpAnyH_take (i := 9) (oi := ⟨_, _, _, _, _, _⟩) (v := ?_) rfl (by kernel_rfl) (by kernel_rfl) (by kernel_rfl) (fun _ _ _ h => h) (Or.inl ⟨by rfl, ?_⟩) (by assumption) ?_
    rotate_left
    · ((intro w hSw; (try dsimp only at hSw); go_simp); (try with_reducible rfl))
    try simp only [Act.put, List.setIfInBounds_toArray, List.set_cons_zero, List.set_cons_succ]
    refine wpAnyH_take (i := 10) (oi := ⟨_, _, _, _, _, _⟩) (v := ?_) rfl (by kernel_rfl) (by kernel_rfl) (by kernel_rfl) (fun _ _ _ h => h) (Or.inl ⟨by rfl, ?_⟩) (by assumption) ?_
    rotate_left
    · ((intro w hSw; (try dsimp only at hSw); go_simp); (try with_reducible rfl))
    try simp only [Act.put, List.setIfInBounds_toArray, List.set_cons_zero, List.set_cons_succ]
    refine wpAnyH_take (i := 11) (oi := ⟨_, _, _, _, _, _⟩) (v := ?_) rfl (by kernel_rfl) (by kernel_rfl) (by kernel_rfl) (fun _ _ _ h => h) (Or.inl ⟨by rfl, ?_⟩) (by assumption) ?_
    rotate_left
    · ((intro w hSw; (try dsimp only at hSw); go_simp); (try with_reducible rfl))
    try simp only [Act.put, List.setIfInBounds_toArray, List.set_cons_zero, List.set_cons_succ]
    refine wpAnyH_take (i := 12) (oi := ⟨_, _, _, _, _, _⟩) (v := ?_) rfl (by kernel_rfl) (by kernel_rfl) (by kernel_rfl) (fun _ _ _ h => h) (Or.inl ⟨by rfl, ?_⟩) (by assumption) ?_
    rotate_left
    · ((intro w hSw; (try dsimp only at hSw); go_simp); (try with_reducible rfl))
    try simp only [Act.put, List.setIfInBounds_toArray, List.set_cons_zero, List.set_cons_succ]
    refine wpAnyH_take (i := 13) (oi := ⟨_, _, _, _, _, _⟩) (v := ?_) rfl (by kernel_rfl) (by kernel_rfl) (by kernel_rfl) (fun _ _ _ h => h) (Or.inl ⟨by rfl, ?_⟩) (by assumption) ?_
    rotate_left
    · ((intro w hSw; (try dsimp only at hSw); go_simp); (try with_reducible rfl))
    try simp only [Act.put, List.setIfInBounds_toArray, List.set_cons_zero, List.set_cons_succ]
    refine wpAnyH_take (i := 14) (oi := ⟨_, _, _, _, _, _⟩) (v := ?_) rfl (by kernel_rfl) (by kernel_rfl) (by kernel_rfl) (fun _ _ _ h => h) (Or.inl ⟨by rfl, ?_⟩) (by assumption) ?_
    rotate_left
    · ((intro w hSw; (try dsimp only at hSw); go_simp); (try with_reducible rfl))
    try simp only [Act.put, List.setIfInBounds_toArray, List.set_cons_zero, List.set_cons_succ]
    refine wpAnyH_take (i := 15) (oi := ⟨_, _, _, _, _, _⟩) (v := ?_) rfl (by kernel_rfl) (by kernel_rfl) (by kernel_rfl) (fun _ _ _ h => h) (Or.inl ⟨by rfl, ?_⟩) (by assumption) ?_
    rotate_left
    · ((intro w hSw; (try dsimp only at hSw); go_simp); (try with_reducible rfl))
    try simp only [Act.put, List.setIfInBounds_toArray, List.set_cons_zero, List.set_cons_succ]
    refine wpAnyH_done (by kernel_rfl) ?_ _
    go_wp2_with fail
    go_meet
    case rel => exact ⟨HY.out.symm, B2⟩
  case rest =>
  obtain ⟨hy, B2⟩ := hcut
  have h2 : CurAt wc C (.slice av bs.length cv) at_ ok := H.out.chg (Chg.of_below (F := fun _ => False) B2.out) id
  have CW : Chg (fun g => g = C) w wc := Chg.of_below B2.out
  obtain ⟨d0, d1, d2⟩ := h2.cell
  have f2 := h2.live
  have I : Hid _ := And.intro h2 CW
  clear h2 CW c0 c1 c2
  cases hg : getN bs at_ with
  | none =>
    rw [hg] at hy
    simp only [gotN, Value.tuple.injEq, Array.mk.injEq, List.cons.injEq, and_true] at hy
    obtain ⟨rfl, rfl, rfl⟩ := hy
    have G : Hid (curN bs at_ ok = (0, at_, false)) := by show _ = _; unfold curN; rw [hg]
    clear hg
    go_wp2
    rw [G.out]
    go_ret
    exact ⟨rfl, I.out.1.setOk false, I.out.2.setAt C 2 rfl _⟩
  | some xp =>
    obtain ⟨x, p⟩ := xp
    rw [hg] at hy
    simp only [gotN, Value.tuple.injEq, Array.mk.injEq, List.cons.injEq, and_true] at hy
    obtain ⟨rfl, rfl, rfl⟩ := hy
    cases ok with
    | false =>
      have G : Hid (curN bs at_ false = (0, at_, false)) := by show _ = _; unfold curN; rw [hg]
      clear hg
      go_wp2
      rw [G.out]
      go_ret
      exact ⟨rfl, I.out.1.setOk false, I.out.2.setAt C 2 rfl _⟩
    | true =>
      have G : Hid (curN bs at_ true = (x, p, true)) := by show _ = _; unfold curN; rw [hg]
      clear hg
      go_wp2
      rw [G.out]
      go_ret
      exact ⟨rfl, I.out.1.setAt p, I.out.2.setAt C 1 rfl _⟩

end Go.Proofs.YtckphbmlmjlipaaDoor

namespace Go.Proofs.YtckphbmlmjlipaaDoor

theorem curN_true {bs : List Int} {at_ x p : Int} (h : curN bs at_ true = (x, p, true)) : getN bs at_ = some (x, p) := by
  unfold curN at h
  cases hg : getN bs at_ with
  | none => rw [hg] at h; simp at h
  | some xp =>
    obtain ⟨x', p'⟩ := xp
    rw [hg] at h
    simp only [Prod.mk.injEq, and_true] at h
    rw [h.1, h.2]
theorem curN_false {bs : List Int} {at_ x p : Int} (h : curN bs at_ true = (x, p, false)) : getN bs at_ = none := by
  unfold curN at h
  cases hg : getN bs at_ with
  | none => rfl
  | some xp =>
    obtain ⟨x', p'⟩ := xp
    rw [hg] at h
    simp at h
theorem curN_off {bs : List Int} {at_ x p : Int} {k : Bool} (h : curN bs at_ false = (x, p, k)) : k = false := by
  unfold curN at h
  cases hg : getN bs at_ with
  | none => rw [hg] at h; simp at h; exact h.2.2
  | some xp => rw [hg] at h; simp at h; exact h.2.2
theorem head_read {bs : List Int} {x0 p1 n p2 : Int} {k1 k2 : Bool} (h1 : curN bs 0 true = (x0, p1, k1)) (h2 : curN bs p1 k1 = (n, p2, k2)) :
    ((k2 && inB n 0 4) = true → getN bs 0 = some (x0, p1) ∧ countN bs p1 0 4 = some (n, p2)) ∧ ((k2 && inB n 0 4) = false → specRead bs = none) := by
  cases k1 with
  | false =>
    have := curN_off h2
    subst this
    refine ⟨fun h => by simp at h, fun _ => ?_⟩
    unfold specRead
    rw [curN_false h1]
  | true =>
    have g1 := curN_true h1
    cases k2 with
    | false =>
      have g2 := curN_false h2
      refine ⟨fun h => by simp at h, fun _ => ?_⟩
      unfold specRead countN
      rw [g1]
      simp only [g2]
    | true =>
      have g2 := curN_true h2
      simp only [Bool.true_and]
      refine ⟨fun h => ⟨g1, ?_⟩, fun h => ?_⟩
      · unfold countN
        rw [g2]
        simp only
        rw [if_pos (inB_iff.1 h)]
      · unfold specRead countN
        rw [g1]
        simp only [g2]
        rw [if_neg (fun hh => by rw [inB_iff.2 hh] at h; cases h)]
/-- a pair, by two numbers of the cursor -/
theorem pair_step {bs : List Int} {p2 at_ x q1 y q2 : Int} {kx ky : Bool} {j : Nat} {l : List (Int × Int)} (hl : pairsN bs p2 j = some (l, at_)) (h1 : curN bs at_ true = (x, q1, kx)) (h2 : curN bs q1 kx = (y, q2, ky)) :
    (ky = true → pairsN bs p2 (j + 1) = some (l ++ [(x, y)], q2)) ∧ (ky = false → pairsN bs p2 (j + 1) = none) := by
  cases kx with
  | false =>
    have := curN_off h2
    subst this
    refine ⟨fun h => by simp at h, fun _ => ?_⟩
    rw [pairsN, hl]
    simp only [numsN, curN_false h1]
  | true =>
    have g1 := curN_true h1
    cases ky with
    | false =>
      refine ⟨fun h => by simp at h, fun _ => ?_⟩
      rw [pairsN, hl]
      simp only [numsN, g1, curN_false h2]
    | true =>
      refine ⟨fun _ => ?_, fun h => by simp at h⟩
      rw [pairsN, hl]
      simp [numsN, g1, curN_true h2]
theorem spec_leaf_none {bs : List Int} {p1 n p2 : Int} {j : Nat} (h0 : getN bs 0 = some (1, p1)) (h1 : countN bs p1 0 4 = some (n, p2)) (hj : (j : Int) ≤ n) (h : pairsN bs p2 j = none) : specRead bs = none := by
  unfold specRead sleafA
  rw [h0]
  simp only [h1, if_true]
  rw [pairsN_none h n.toNat (by omega)]

end Go.Proofs.YtckphbmlmjlipaaDoor

namespace Go.Proofs.YtckphbmlmjlipaaDoor
open Go.RowKit

theorem nums_step {bs : List Int} {p at_ x q : Int} {k : Bool} {j : Nat} {l : List Int} (hl : numsN bs p j = some (l, at_)) (h : curN bs at_ true = (x, q, k)) :
    (k = true → numsN bs p (j + 1) = some (l ++ [x], q)) ∧ (k = false → numsN bs p (j + 1) = none) := by
  cases k with
  | false =>
    refine ⟨fun h => (by cases h), fun _ => ?_⟩
    rw [numsN, hl]
    simp only [curN_false h]
  | true =>
    refine ⟨fun _ => ?_, fun h => (by cases h)⟩
    rw [numsN, hl]
    simp only [curN_true h]
/-- the head of a fork was read -/
def ForkH (bs : List Int) (n p2 : Int) : Prop := ∃ x0 p1, getN bs 0 = some (x0, p1) ∧ x0 ≠ 1 ∧ countN bs p1 0 4 = some (n, p2)
theorem ForkH.read {bs : List Int} {n p2 : Int} (h : ForkH bs n p2) : specRead bs = sforkA bs p2 n.toNat := by
  obtain ⟨x0, p1, h1, h2, h3⟩ := h
  unfold specRead
  rw [h1]
  simp only [h3]
  rw [if_neg h2]
theorem ForkH.n4 {bs : List Int} {n p2 : Int} (h : ForkH bs n p2) : 0 ≤ n ∧ n ≤ 4 := by
  obtain ⟨x0, p1, h1, h2, h3⟩ := h
  have := countN_in h3
  exact ⟨this.1, this.2.1⟩
theorem ForkH.kids_none {bs : List Int} {n p2 : Int} (h : ForkH bs n p2) {j : Nat} (hj : (j : Int) ≤ n) (hn : numsN bs p2 j = none) : specRead bs = none := by
  rw [h.read]
  unfold sforkA
  rw [numsN_none hn n.toNat (by omega)]
theorem ForkH.cuts_none {bs : List Int} {n p2 p3 : Int} {ks : List Int} (h : ForkH bs n p2) (hk : numsN bs p2 n.toNat = some (ks, p3)) {j : Nat} (hj : j ≤ n.toNat - 1) (hn : numsN bs p3 j = none) : specRead bs = none := by
  rw [h.read]
  unfold sforkA sforkB
  simp only [hk]
  rw [numsN_none hn _ hj]
theorem ForkH.count {bs : List Int} {n p2 p3 p4 m p5 : Int} {ks cs : List Int} {k : Bool} (h : ForkH bs n p2) (hk : numsN bs p2 n.toNat = some (ks, p3)) (hc : numsN bs p3 (n.toNat - 1) = some (cs, p4)) (hm : curN bs p4 true = (m, p5, k)) :
    ((k && inB m 0 6) = true → countN bs p4 0 6 = some (m, p5)) ∧ ((k && inB m 0 6) = false → specRead bs = none) := by
  have hr : specRead bs = sforkC bs p4 ks cs := by
    rw [h.read]
    unfold sforkA sforkB
    simp only [hk, hc]
  cases k with
  | false =>
    refine ⟨fun h => by simp at h, fun _ => ?_⟩
    rw [hr]
    unfold sforkC countN
    simp only [curN_false hm]
  | true =>
    simp only [Bool.true_and]
    refine ⟨fun h => ?_, fun h => ?_⟩
    · unfold countN
      rw [curN_true hm]
      simp only
      rw [if_pos (inB_iff.1 h)]
    · rw [hr]
      unfold sforkC countN
      rw [curN_true hm]
      simp only
      rw [if_neg (fun hh => by rw [inB_iff.2 hh] at h; cases h)]
theorem msg_step {bs : List Int} {p at_ x q1 y q2 z q3 : Int} {kx ky kz : Bool} {j : Nat} {l : List (Int × Int × Int)} (hl : msgsN bs p j = some (l, at_)) (h1 : curN bs at_ true = (x, q1, kx)) (h2 : curN bs q1 kx = (y, q2, ky)) (h3 : curN bs q2 ky = (z, q3, kz)) :
    (kz = true → msgsN bs p (j + 1) = some (l ++ [(x, y, z)], q3)) ∧ (kz = false → msgsN bs p (j + 1) = none) := by
  cases kx with
  | false =>
    have := curN_off h2
    subst this
    have := curN_off h3
    subst this
    refine ⟨fun h => by simp at h, fun _ => ?_⟩
    rw [msgsN, hl]
    simp only [numsN, curN_false h1]
  | true =>
    have g1 := curN_true h1
    cases ky with
    | false =>
      have := curN_off h3
      subst this
      refine ⟨fun h => by simp at h, fun _ => ?_⟩
      rw [msgsN, hl]
      simp only [numsN, g1, curN_false h2]
    | true =>
      have g2 := curN_true h2
      cases kz with
      | false =>
        refine ⟨fun h => by simp at h, fun _ => ?_⟩
        rw [msgsN, hl]
        simp only [numsN, g1, g2, curN_false h3]
      | true =>
        refine ⟨fun _ => ?_, fun h => by simp at h⟩
        rw [msgsN, hl]
        simp [numsN, g1, g2, curN_true h3]
theorem ForkH.done {bs : List Int} {n p2 p3 p4 m p5 : Int} {ks cs : List Int} (h : ForkH bs n p2) (hk : numsN bs p2 n.toNat = some (ks, p3)) (hc : numsN bs p3 (n.toNat - 1) = some (cs, p4)) (hm : countN bs p4 0 6 = some (m, p5)) :
    specRead bs = match msgsN bs p5 m.toNat with
      | none => none
      | some (ms, r) => some (.inr ⟨ks, cs, ms⟩, r) := by
  rw [h.read]
  unfold sforkA sforkB sforkC
  simp only [hk, hc, hm] <;> cases msgsN bs p5 m.toNat <;> rfl

/-- rows of two kinds never share a block -/
theorem wrB_ne {w : World} {b1 b2 e1 e2 s1 s2 n1 n2 : Nat} {v1 v2 : Value} {x1 x2 : List Value} (h1 : OwnE w b1 e1 s1 v1 n1 x1) (h2 : OwnE w b2 e2 s2 v2 n2 x2) (he : e1 ≠ e2) {g : Nat} (hg : wrB v1 g) : ¬ wrB v2 g := by
  have key : ∀ {b e s n : Nat} {v : Value} {xs : List Value}, OwnE w b e s v n xs → wrB v g → ∃ cur, w.heap[g]? = some (.cells cur e (0, 0)) := by
    intro b e s n v xs ho hw
    obtain ⟨k, cap, rfl, hc⟩ := hw
    rcases ho with ho | ⟨_, _, g', h'⟩
    · exact (owns_lt ho (g := g) rfl).2
    · simp at h'; omega
  intro hg2
  obtain ⟨c1, q1⟩ := key h1 hg
  obtain ⟨c2, q2⟩ := key h2 hg2
  rw [q1] at q2
  simp at q2
  exact he q2.2
theorem OwnE.row' {w : World} {base e size n : Nat} {v : Value} {xs : List Value} (h : OwnE w base e size v n xs) : Row w v n xs := by
  rcases h with h | ⟨rfl, rfl, g, rfl⟩
  · exact Row.of_owns h
  · exact ⟨_, g, 0, 0, rfl, Nat.le_refl _, Nat.zero_le _, fun h => absurd h (Nat.lt_irrefl _), fun j u hj => by simp at hj, fun h => by cases h⟩

theorem step_fnB {P : Program} {ops : Array Oper} {o : Oper} {a : Act} {K : Act → World → Prop} {Q : Exit → Act → World → Prop} {E : Prop} {w : World} {R : Ending → World → Prop} (hwt : Region.wanted o (yielded ops a.tmps) = true) (f : FuncId) (xs : List Operand) (ats : Array TypeId)
    (ho : o.op = .call { callee := .value (.func f), args := xs.toArray, argTypes := ats }) (hrun : ∀ args w, (callFunc f args).run P w = .ok (.enter f args) w) (args : List Value) (he : xs.map a.eval = args)
    (h : Calls P f args.toArray w R) (hk : ∀ e w', R e w' → ∃ v, e = .returned v ∧ K (a.put o.dst v) w') :
    if Region.wanted o (yielded ops a.tmps) = true then Oper.wp P o a w K Q else E := by
  rw [if_pos hwt]
  have ef : a.eval (.func f) = .func (.func f) #[] #[] := rfl
  have hx : execOp a.eval o = callFunc f args.toArray := by
    unfold execOp
    simp [ho, resolve, Deferred.ofValue, invoke, ef, he]
  unfold Oper.wp
  rw [hx, hrun, Oper.upon_enter]
  refine Calls.mono h ?_
  intro e w' hr
  obtain ⟨v, rfl, hk⟩ := hk e w' hr
  exact hk

end Go.Proofs.YtckphbmlmjlipaaDoor
