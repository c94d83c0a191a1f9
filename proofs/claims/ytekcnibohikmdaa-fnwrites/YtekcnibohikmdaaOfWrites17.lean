/-
  What is put is read, and what is read is put: the number form there and back.
  What was read stands in the bytes, form behind form: what is parsed is what is put.
  What is put is read again: the other way round.
  What the model's GetNode reads, as a plain function; where it reads all and its own PutNode makes the same bytes again, it is getNodeF.
-/
import Derived.Test.YtekcnibohikmdaaOfWrites14
import Derived.Test.YtekcnibohikmdaaOfWrites16
namespace Go.Proofs.Ytekcnibohikmdaa
set_option maxRecDepth 100000
set_option maxHeartbeats 8000000
section
open Go.RowKit

theorem numN_codeN (x : Int) : numN (codeN x) = x := by
 unfold codeN numN; split <;> split <;> omega
theorem codeN_numN {c : Int} (h : 0 ≤ c) : codeN (numN c) = c := by
 unfold codeN numN; split <;> split <;> omega

theorem readC_sevens (r : List Int) : ∀ (k f : Nat) (u c m : Int), k < f → 1 ≤ u → 0 ≤ m → m < topN k → (0 < m ∨ u = 1) → c + m * u ≤ 4000000000 → readC f u c (sevens k m ++ r) = some (c + m * u, (sevens k m).length) := by
 intro k
 induction k with
 | zero =>
  intro f u c m hf hu h0 ht hp hm
  obtain ⟨f, rfl⟩ : ∃ f', f = f' + 1 := ⟨f - 1, by omega⟩
  simp only [topN] at ht
  have e : m % 128 = m := by omega
  simp only [sevens, List.singleton_append, readC, if_pos ht, e]
  rw [if_pos ⟨hp, hm⟩]; rfl
 | succ k ih =>
  intro f u c m hf hu h0 ht hp hm
  obtain ⟨f, rfl⟩ : ∃ f', f = f' + 1 := ⟨f - 1, by omega⟩
  by_cases hb : 127 < m
  ·rw [sevens_go k hb, List.cons_append, readC, if_neg (by omega)]
   have e1 : (m % 128 + 128) % 128 = m % 128 := by omega
   have e2 : c + m % 128 * u + m / 128 * (u * 128) = c + m * u := by
    have : m = m % 128 + 128 * (m / 128) := by omega
    calc c + m % 128 * u + m / 128 * (u * 128) = c + (m % 128 + 128 * (m / 128)) * u := by rw [Int.add_mul, Int.mul_comm u 128, ← Int.mul_assoc, Int.mul_comm (m / 128) 128, Int.add_assoc]
     _ = c + m * u := by rw [← this]
   rw [e1, ih f (u * 128) (c + m % 128 * u) (m / 128) (by omega) (by omega) (by omega) (by rw [topN] at ht; omega) (.inl (by omega)) (by rw [e2]; exact hm), e2]
   simp
  ·have e : m % 128 = m := by omega
   rw [sevens_stop _ hb]
   simp only [List.singleton_append, readC, if_pos (show m < 128 by omega), e]
   rw [if_pos ⟨hp, hm⟩]; rfl
theorem getN_putN {x : Int} (h1 : -2000000000 ≤ x) (h2 : x ≤ 2000000000) (l r : List Int) : getN (l ++ putN x ++ r) l.length = some (x, (l.length : Int) + ((putN x).length : Int)) := by
 have hc := codeN_in h1 h2
 unfold getN fromB
 rw [if_neg (by omega), Int.toNat_natCast, List.append_assoc, List.drop_left, putN_in h1 h2, readC_sevens r 4 5 1 0 (codeN x) (by decide) (by decide) hc.1 (by simp [topN]; omega) (.inr rfl) (by omega)]
 simp [numN_codeN]

theorem sevens_readC : ∀ (f : Nat) (u c : Int) (r : List Int) (C : Int) (n : Nat), (∀ b ∈ r, 0 ≤ b ∧ b ≤ 255) → 1 ≤ u → readC (f + 1) u c r = some (C, n) → ∃ m, C = c + m * u ∧ 0 ≤ m ∧ (0 < m ∨ u = 1) ∧ sevens f m = r.take n ∧ n ≤ r.length := by
 intro f
 induction f with
 | zero =>
  intro u c r C n hr hu h
  cases r with
  | nil => simp [readC] at h
  | cons b r =>
   have hb := hr b (by simp)
   simp only [readC] at h
   by_cases hlt : b < 128
   ·rw [if_pos hlt] at h
    split at h
    ·rename_i hc
     simp only [Option.some.injEq, Prod.mk.injEq] at h
     obtain ⟨rfl, rfl⟩ := h
     have e : b % 128 = b := by omega
     exact ⟨b, by rw [e], hb.1, hc.1, by simp [sevens], by simp⟩
    ·cases h
   ·rw [if_neg hlt] at h; simp at h
 | succ f ih =>
  intro u c r C n hr hu h
  cases r with
  | nil => simp [readC] at h
  | cons b r =>
   have hb := hr b (by simp)
   rw [readC] at h
   by_cases hlt : b < 128
   ·rw [if_pos hlt] at h
    split at h
    ·rename_i hc
     simp only [Option.some.injEq, Prod.mk.injEq] at h
     obtain ⟨rfl, rfl⟩ := h
     have e : b % 128 = b := by omega
     exact ⟨b, by rw [e], hb.1, hc.1, by rw [sevens_stop _ (by omega)]; simp, by simp⟩
    ·cases h
   ·rw [if_neg hlt] at h
    cases hq : readC (f + 1) (u * 128) (c + b % 128 * u) r with
    | none => rw [hq] at h; cases h
    | some q =>
     obtain ⟨C', n'⟩ := q
     rw [hq] at h
     simp only [Option.map_some, Option.some.injEq, Prod.mk.injEq] at h
     obtain ⟨rfl, rfl⟩ := h
     obtain ⟨m, h1, h2, h3, h4, h5⟩ := ih (u * 128) _ r C' n' (fun x hx => hr x (by simp [hx])) (by omega) hq
     have hm : 0 < m := by
      rcases h3 with h3 | h3
      ·exact h3
      ·omega
     refine ⟨b % 128 + 128 * m, ?_, by omega, .inl (by omega), ?_, by simp; omega⟩
     ·rw [h1, Int.add_mul, Int.mul_comm u 128, ← Int.mul_assoc, Int.mul_comm m 128, Int.add_assoc]
     ·rw [sevens_go f (by omega), show (b % 128 + 128 * m) % 128 + 128 = b by omega, show (b % 128 + 128 * m) / 128 = m by omega, h4]
      simp
theorem readC_high : ∀ (f : Nat) (u c : Int) (r : List Int) (C : Int) (n : Nat), readC f u c r = some (C, n) → C ≤ 4000000000 := by
 intro f
 induction f with
 | zero => intro u c r C n h; cases h
 | succ f ih =>
  intro u c r C n h
  cases r with
  | nil => simp [readC] at h
  | cons b r =>
   rw [readC] at h
   split at h
   ·split at h
    ·rename_i hc
     simp only [Option.some.injEq, Prod.mk.injEq] at h
     obtain ⟨rfl, rfl⟩ := h
     exact hc.2
    ·cases h
   ·cases hq : readC f (u * 128) (c + b % 128 * u) r with
    | none => rw [hq] at h; cases h
    | some q =>
     obtain ⟨C', n'⟩ := q
     rw [hq] at h
     simp only [Option.map_some, Option.some.injEq, Prod.mk.injEq] at h
     obtain ⟨rfl, rfl⟩ := h
     exact ih _ _ _ _ _ hq
theorem putN_getN {bs : List Int} (hb : inByte bs) {at_ x p : Int} (h : getN bs at_ = some (x, p)) : 0 ≤ at_ ∧ p = at_ + (putN x).length ∧ 0 < (putN x).length ∧ p ≤ bs.length ∧ (-2000000000 ≤ x ∧ x ≤ 2000000000) ∧ putN x = (bs.drop at_.toNat).take (putN x).length := by
 unfold getN at h
 cases hq : readC 5 1 0 (fromB bs at_) with
 | none => rw [hq] at h; cases h
 | some q =>
  obtain ⟨C, n⟩ := q
  rw [hq] at h
  simp only [Option.map_some, Option.some.injEq, Prod.mk.injEq] at h
  obtain ⟨rfl, rfl⟩ := h
  have hat : 0 ≤ at_ := by
   by_cases h0 : at_ < 0
   ·unfold fromB at hq; rw [if_pos h0] at hq; simp [readC] at hq
   ·omega
  have hf : fromB bs at_ = bs.drop at_.toNat := by unfold fromB; rw [if_neg (by omega)]
  rw [hf] at hq
  have hi := readC_high _ _ _ _ _ _ hq
  obtain ⟨m, h1, h2, h3, h4, h5⟩ := sevens_readC 4 1 0 _ C n (fun b hb' => hb b (List.mem_of_mem_drop hb')) (by decide) hq
  have hm : C = m := by omega
  subst hm
  have hr := (numN_in h2).2 hi
  have hp : putN (numN C) = (bs.drop at_.toNat).take n := by rw [putN_in hr.1 hr.2, codeN_numN h2, h4]
  have hl : (putN (numN C)).length = n := by rw [hp]; simp at h5 ⊢; omega
  have hpos : 0 < (putN (numN C)).length := by rw [putN_in hr.1 hr.2]; exact sevens_pos _ _
  refine ⟨hat, by rw [hl], hpos, ?_, hr, by rw [hl]; exact hp⟩
  simp at h5
  rw [hl] at hpos
  omega
end
section
def Spans (bs : List Int) (p : Int) (l : List Int) (q : Int) : Prop := 0 ≤ p ∧ p ≤ bs.length ∧ q ≤ bs.length ∧ q = p + (formsB l).length ∧ formsB l = (bs.drop p.toNat).take (formsB l).length ∧ okNums l
theorem formsB_app (l m : List Int) : formsB (l ++ m) = formsB l ++ formsB m := by simp [formsB]
variable {bs : List Int} {p q r : Int} {l m : List Int}
theorem Spans.nil (h0 : 0 ≤ p) (h1 : p ≤ bs.length) : Spans bs p [] p := ⟨h0, h1, h1, by simp [formsB], by simp [formsB], fun x hx => by cases hx⟩
theorem Spans.one (hb : inByte bs) {x : Int} (h : getN bs p = some (x, q)) : Spans bs p [x] q := by
 obtain ⟨h0, h1, h2, h3, h4, h5⟩ := putN_getN hb h
 have e : formsB [x] = putN x := by simp [formsB]
 refine ⟨h0, by omega, h3, by rw [e]; exact h1, by rw [e]; exact h5, fun y hy => ?_⟩
 have : y = x := by simpa using hy
 rw [this]; exact h4
theorem Spans.app (h : Spans bs p l q) (h' : Spans bs q m r) : Spans bs p (l ++ m) r := by
 obtain ⟨a0, a1, a2, a3, a4, a5⟩ := h
 obtain ⟨b0, b1, b2, b3, b4, b5⟩ := h'
 refine ⟨a0, a1, b2, by rw [formsB_app, List.length_append]; omega, ?_, fun x hx => ?_⟩
 ·rw [formsB_app, List.length_append, List.take_add, List.drop_drop, ← a4]
  have : p.toNat + (formsB l).length = q.toNat := by omega
  rw [this, ← b4]
 ·rcases List.mem_append.1 hx with hx | hx
  ·exact a5 x hx
  ·exact b5 x hx
theorem Spans.lo (h : Spans bs p l q) : 0 ≤ q ∧ q ≤ bs.length := ⟨by obtain ⟨a0, a1, a2, a3, a4, a5⟩ := h; omega, h.2.2.1⟩
theorem Spans.all (h : Spans bs 0 l bs.length) : formsB l = bs ∧ okNums l := by
 obtain ⟨a0, a1, a2, a3, a4, a5⟩ := h
 have : (formsB l).length = bs.length := by omega
 rw [this] at a4
 simp at a4
 exact ⟨a4, a5⟩
theorem numsN_spans (hb : inByte bs) (h0 : 0 ≤ p) (h1 : p ≤ bs.length) : ∀ {k : Nat} {l : List Int} {q : Int}, numsN bs p k = some (l, q) → Spans bs p l q := by
 intro k
 induction k with
 | zero => intro l q h; simp [numsN] at h; rw [h.1, ← h.2]; exact Spans.nil h0 h1
 | succ k ih =>
  intro l q h
  rw [numsN] at h
  cases hq : numsN bs p k with
  | none => rw [hq] at h; cases h
  | some lp =>
   obtain ⟨l', p'⟩ := lp
   rw [hq] at h
   cases hg : getN bs p' with
   | none => simp only [hg] at h; cases h
   | some xq =>
    obtain ⟨x, q'⟩ := xq
    simp only [hg, Option.some.injEq, Prod.mk.injEq] at h
    obtain ⟨rfl, rfl⟩ := h
    exact (ih hq).app (Spans.one hb hg)
theorem pairsN_spans (hb : inByte bs) (h0 : 0 ≤ p) (h1 : p ≤ bs.length) : ∀ {k : Nat} {l : List (Int × Int)} {q : Int}, pairsN bs p k = some (l, q) → Spans bs p (pairNums l) q := by
 intro k
 induction k with
 | zero => intro l q h; simp [pairsN] at h; rw [h.1, ← h.2]; exact Spans.nil h0 h1
 | succ k ih =>
  intro l q h
  rw [pairsN] at h
  cases hq : pairsN bs p k with
  | none => rw [hq] at h; cases h
  | some lp =>
   obtain ⟨l', p'⟩ := lp
   rw [hq] at h
   simp only at h
   split at h
   ·rename_i x y q' hg
    simp only [Option.some.injEq, Prod.mk.injEq] at h
    obtain ⟨rfl, rfl⟩ := h
    have := (ih hq).app (numsN_spans hb (ih hq).lo.1 (ih hq).lo.2 hg)
    simpa [pairNums] using this
   ·cases h
theorem msgsN_spans (hb : inByte bs) (h0 : 0 ≤ p) (h1 : p ≤ bs.length) : ∀ {k : Nat} {l : List (Int × Int × Int)} {q : Int}, msgsN bs p k = some (l, q) → Spans bs p (msgNums l) q := by
 intro k
 induction k with
 | zero => intro l q h; simp [msgsN] at h; rw [h.1, ← h.2]; exact Spans.nil h0 h1
 | succ k ih =>
  intro l q h
  rw [msgsN] at h
  cases hq : msgsN bs p k with
  | none => rw [hq] at h; cases h
  | some lp =>
   obtain ⟨l', p'⟩ := lp
   rw [hq] at h
   simp only at h
   split at h
   ·rename_i x y z q' hg
    simp only [Option.some.injEq, Prod.mk.injEq] at h
    obtain ⟨rfl, rfl⟩ := h
    have := (ih hq).app (numsN_spans hb (ih hq).lo.1 (ih hq).lo.2 hg)
    simpa [msgNums] using this
   ·cases h
def numsV : NodeV → List Int
 | .inl l => leafNums l
 | .inr f => [0, (f.kids.length : Int)] ++ f.kids ++ f.cuts ++ [(f.buf.length : Int)] ++ msgNums f.buf
def okV : NodeV → Prop
 | .inl l => l.length ≤ 4
 | .inr f => 1 ≤ f.kids.length ∧ f.kids.length ≤ 4 ∧ f.cuts.length + 1 = f.kids.length ∧ f.buf.length ≤ 6
theorem countN_spans (hb : inByte bs) {lo hi x : Int} (h : countN bs p lo hi = some (x, q)) : Spans bs p [x] q ∧ lo ≤ x ∧ x ≤ hi :=
 ⟨Spans.one hb (countN_in h).2.2, (countN_in h).1, (countN_in h).2.1⟩
theorem nodeN_spans (hb : inByte bs) {n : NodeV} (h : nodeN bs p = some (n, q)) : Spans bs p (numsV n) q ∧ okV n := by
 unfold nodeN at h
 cases hg : getN bs p with
 | none => rw [hg] at h; cases h
 | some xp =>
  obtain ⟨x, p1⟩ := xp
  have s1 := Spans.one hb hg
  rw [hg] at h
  simp only at h
  split at h
  ·rename_i hx
   subst hx
   unfold leafN at h
   cases hc : countN bs p1 0 4 with
   | none => simp only [hc] at h; cases h
   | some np =>
    obtain ⟨c, p2⟩ := np
    obtain ⟨s2, c0, c4⟩ := countN_spans hb hc
    simp only [hc] at h
    cases hp : pairsN bs p2 c.toNat with
    | none => simp only [hp] at h; cases h
    | some lq =>
     obtain ⟨l, q'⟩ := lq
     simp only [hp, Option.some.injEq, Prod.mk.injEq] at h
     obtain ⟨rfl, rfl⟩ := h
     have hl := pairsN_length hp
     have s3 := pairsN_spans hb s2.lo.1 s2.lo.2 hp
     have e : c = (l.length : Int) := by omega
     subst e
     exact ⟨by simpa [numsV, leafNums] using (s1.app s2).app s3, by show l.length ≤ 4; omega⟩
  ·split at h
   ·rename_i hx
    subst hx
    unfold forkN at h
    cases hc : countN bs p1 1 4 with
    | none => simp only [hc] at h; cases h
    | some np =>
     obtain ⟨c, p2⟩ := np
     obtain ⟨s2, c0, c4⟩ := countN_spans hb hc
     simp only [hc] at h
     unfold forkA at h
     cases hk : numsN bs p2 ((c - 1).toNat + 1) with
     | none => simp only [hk] at h; cases h
     | some kq =>
      obtain ⟨ks, p3⟩ := kq
      have s3 := numsN_spans hb s2.lo.1 s2.lo.2 hk
      have lk := numsN_length hk
      simp only [hk] at h
      unfold forkB at h
      cases hu : numsN bs p3 (c - 1).toNat with
      | none => simp only [hu] at h; cases h
      | some cq =>
       obtain ⟨cs, p4⟩ := cq
       have s4 := numsN_spans hb s3.lo.1 s3.lo.2 hu
       have lc := numsN_length hu
       simp only [hu] at h
       unfold forkC at h
       cases hm : countN bs p4 0 6 with
       | none => simp only [hm] at h; cases h
       | some mq =>
        obtain ⟨d, p5⟩ := mq
        obtain ⟨s5, d0, d6⟩ := countN_spans hb hm
        simp only [hm] at h
        cases hms : msgsN bs p5 d.toNat with
        | none => simp only [hms] at h; cases h
        | some mr =>
         obtain ⟨ms, q'⟩ := mr
         simp only [hms, Option.some.injEq, Prod.mk.injEq] at h
         obtain ⟨rfl, rfl⟩ := h
         have lm := msgsN_length hms
         have s6 := msgsN_spans hb s5.lo.1 s5.lo.2 hms
         have e : c = (ks.length : Int) := by omega
         have e2 : d = (ms.length : Int) := by omega
         subst e
         subst e2
         refine ⟨by simpa [numsV] using (((((s1.app s2).app s3).app s4).app s5).app s6), ?_, ?_, ?_, ?_⟩
         all_goals (simp only; omega)
   ·cases h
theorem getNodeF_put (hb : inByte bs) {n : NodeV} (h : getNodeF bs = some n) : formsB (numsV n) = bs ∧ okNums (numsV n) ∧ okV n := by
 unfold getNodeF at h
 cases hn : nodeN bs 0 with
 | none => rw [hn] at h; cases h
 | some np =>
  obtain ⟨n', p'⟩ := np
  rw [hn] at h
  simp only at h
  split at h
  ·rename_i hp
   cases h
   subst hp
   obtain ⟨s, o⟩ := nodeN_spans hb hn
   exact ⟨s.all.1, s.all.2, o⟩
  ·cases h
end
section
variable {bs : List Int} {p q r : Int} {l m : List Int}

theorem Spans.of (l : List Int) (h : okNums l) : Spans (formsB l) 0 l (formsB l).length := ⟨by omega, by omega, by omega, by omega, by simp, h⟩
theorem Spans.split (h : Spans bs p (l ++ m) r) : ∃ q, Spans bs p l q ∧ Spans bs q m r := by
 obtain ⟨a0, a1, a2, a3, a4, a5⟩ := h
 rw [formsB_app, List.length_append, List.take_add, List.drop_drop] at a4
 rw [formsB_app, List.length_append] at a3
 have hlen : ((bs.drop p.toNat).take (formsB l).length).length = (formsB l).length := by
  rw [List.length_take, List.length_drop]; omega
 obtain ⟨e1, e2⟩ := List.append_inj a4 (by rw [hlen])
 refine ⟨p + (formsB l).length, ⟨a0, a1, by omega, rfl, e1, fun x hx => a5 x (List.mem_append_left _ hx)⟩, ⟨by omega, by omega, a2, by omega, ?_, fun x hx => a5 x (List.mem_append_right _ hx)⟩⟩
 have : (p + ((formsB l).length : Int)).toNat = p.toNat + (formsB l).length := by omega
 rw [this]
 exact e2
theorem Spans.get {x : Int} (h : Spans bs p [x] q) : getN bs p = some (x, q) := by
 obtain ⟨a0, a1, a2, a3, a4, a5⟩ := h
 have e : formsB [x] = putN x := by simp [formsB]
 rw [e] at a3 a4
 obtain ⟨x1, x2⟩ := a5 x (by simp)
 have hb : bs = bs.take p.toNat ++ putN x ++ (bs.drop p.toNat).drop (putN x).length := by
  rw [List.append_assoc]
  conv => lhs; rw [← List.take_append_drop p.toNat bs, ← List.take_append_drop (putN x).length (bs.drop p.toNat), ← a4]
 have hl : (bs.take p.toNat).length = p.toNat := by rw [List.length_take]; omega
 have := getN_putN x1 x2 (bs.take p.toNat) ((bs.drop p.toNat).drop (putN x).length)
 rw [← hb, hl] at this
 have hp : ((p.toNat : Nat) : Int) = p := by omega
 rw [hp] at this
 rw [this, a3]
theorem Spans.nums : ∀ {l : List Int} {q : Int}, Spans bs p l q → numsN bs p l.length = some (l, q) := by
 intro l
 induction h : l.length generalizing l with
 | zero =>
  intro q hs
  obtain rfl := List.length_eq_zero_iff.1 h
  have : q = p := by have := hs.2.2.2.1; simp [formsB] at this; exact this
  rw [this, numsN]
 | succ k ih =>
  intro q hs
  rcases List.eq_nil_or_concat l with rfl | ⟨l', x, rfl⟩
  ·simp at h
  ·rw [List.concat_eq_append] at hs h ⊢
   obtain ⟨q', s1, s2⟩ := hs.split
   have := ih (l := l') (by simpa using h) s1
   rw [numsN, this]
   simp only [s2.get]
theorem Spans.count {x lo hi : Int} (h : Spans bs p [x] q) (h1 : lo ≤ x) (h2 : x ≤ hi) : countN bs p lo hi = some (x, q) := by
 unfold countN
 rw [h.get]
 simp only
 rw [if_pos ⟨h1, h2⟩]
theorem Spans.pairs : ∀ {l : List (Int × Int)} {q : Int}, Spans bs p (pairNums l) q → pairsN bs p l.length = some (l, q) := by
 intro l
 induction h : l.length generalizing l with
 | zero =>
  intro q hs
  obtain rfl := List.length_eq_zero_iff.1 h
  have : q = p := by have := hs.2.2.2.1; simp [formsB, pairNums] at this; exact this
  rw [this, pairsN]
 | succ k ih =>
  intro q hs
  rcases List.eq_nil_or_concat l with rfl | ⟨l', x, rfl⟩
  ·simp at h
  ·rw [List.concat_eq_append] at hs h ⊢
   have e : pairNums (l' ++ [x]) = pairNums l' ++ [x.1, x.2] := by simp [pairNums]
   rw [e] at hs
   obtain ⟨q', s1, s2⟩ := hs.split
   have := ih (l := l') (by simpa using h) s1
   rw [pairsN, this]
   have := s2.nums
   simp only [List.length_cons, List.length_nil, Nat.zero_add, Nat.reduceAdd] at this
   simp only [this]
theorem Spans.msgs : ∀ {l : List (Int × Int × Int)} {q : Int}, Spans bs p (msgNums l) q → msgsN bs p l.length = some (l, q) := by
 intro l
 induction h : l.length generalizing l with
 | zero =>
  intro q hs
  obtain rfl := List.length_eq_zero_iff.1 h
  have : q = p := by have := hs.2.2.2.1; simp [formsB, msgNums] at this; exact this
  rw [this, msgsN]
 | succ k ih =>
  intro q hs
  rcases List.eq_nil_or_concat l with rfl | ⟨l', x, rfl⟩
  ·simp at h
  ·rw [List.concat_eq_append] at hs h ⊢
   have e : msgNums (l' ++ [x]) = msgNums l' ++ [x.1, x.2.1, x.2.2] := by simp [msgNums]
   rw [e] at hs
   obtain ⟨q', s1, s2⟩ := hs.split
   have := ih (l := l') (by simpa using h) s1
   rw [msgsN, this]
   have := s2.nums
   simp only [List.length_cons, List.length_nil, Nat.zero_add, Nat.reduceAdd] at this
   simp only [this]
theorem Spans.node {n : NodeV} (ho : okV n) (h : Spans bs p (numsV n) q) : nodeN bs p = some (n, q) := by
 cases n with
 | inl l =>
  have ho : l.length ≤ 4 := ho
  have h : Spans bs p ([1] ++ ([(l.length : Int)] ++ pairNums l)) q := by simpa [numsV, leafNums] using h
  obtain ⟨p1, s1, h⟩ := h.split
  obtain ⟨p2, s2, s3⟩ := h.split
  unfold nodeN leafN
  simp only [s1.get, if_true, s2.count (lo := 0) (hi := 4) (by omega) (by omega), Int.toNat_natCast, s3.pairs]
 | inr f =>
  obtain ⟨ks, cs, ms⟩ := f
  obtain ⟨o1, o2, o3, o4⟩ := ho
  simp only at o1 o2 o3 o4
  have h : Spans bs p ([0] ++ ([(ks.length : Int)] ++ (ks ++ (cs ++ ([(ms.length : Int)] ++ msgNums ms))))) q := by simpa [numsV] using h
  obtain ⟨p1, s1, h⟩ := h.split
  obtain ⟨p2, s2, h⟩ := h.split
  obtain ⟨p3, s3, h⟩ := h.split
  obtain ⟨p4, s4, h⟩ := h.split
  obtain ⟨p5, s5, s6⟩ := h.split
  have hk : ((ks.length : Int) - 1).toNat = cs.length := by omega
  have s3' := s3.nums
  rw [← o3] at s3'
  unfold nodeN forkN
  simp only [s1.get, s2.count (lo := 1) (hi := 4) (by omega) (by omega), hk]
  unfold forkA forkB forkC
  simp only [s3', s4.nums, s5.count (lo := 0) (hi := 6) (by omega) (by omega), Int.toNat_natCast, s6.msgs]
  rfl
theorem getNodeF_of {n : NodeV} (hn : okNums (numsV n)) (ho : okV n) : getNodeF (formsB (numsV n)) = some n := by
 unfold getNodeF
 rw [Spans.node ho (Spans.of _ hn)]
 simp
end
section
def sforkC (bs : List Int) (p : Int) (ks cs : List Int) : Option (NodeV × Int) := match countN bs p 0 6 with
 | none => none
 | some (m, q) => match msgsN bs q m.toNat with
  | none => none
  | some (ms, r) => some (.inr ⟨ks, cs, ms⟩, r)
def sforkB (bs : List Int) (p : Int) (n : Nat) (ks : List Int) : Option (NodeV × Int) := match numsN bs p (n - 1) with
 | none => none
 | some (cs, q) => sforkC bs q ks cs
def sforkA (bs : List Int) (p : Int) (n : Nat) : Option (NodeV × Int) := match numsN bs p n with
 | none => none
 | some (ks, q) => sforkB bs q n ks
def sleafA (bs : List Int) (p : Int) (n : Nat) : Option (NodeV × Int) := match pairsN bs p n with
 | none => none
 | some (l, q) => some (.inl l, q)
def specRead (bs : List Int) : Option (NodeV × Int) := match getN bs 0 with
 | none => none
 | some (x, p) => match countN bs p 0 4 with
  | none => none
  | some (n, q) => if x = 1 then sleafA bs q n.toNat else sforkA bs q n.toNat
theorem nodeN_spec {bs : List Int} {r : NodeV × Int} (h : nodeN bs 0 = some r) : specRead bs = some r := by
 unfold nodeN at h
 unfold specRead
 cases hg : getN bs 0 with
 | none => rw [hg] at h; cases h
 | some xp =>
  obtain ⟨x, p1⟩ := xp
  rw [hg] at h
  simp only at h ⊢
  split at h
  ·rename_i hx
   unfold leafN at h
   cases hc : countN bs p1 0 4 with
   | none => simp only [hc] at h; cases h
   | some np =>
    obtain ⟨c, p2⟩ := np
    simp only [hc] at h ⊢
    rw [if_pos hx]
    unfold sleafA
    cases hp : pairsN bs p2 c.toNat with
    | none => simp only [hp] at h; cases h
    | some lq =>
     simp only [hp] at h ⊢
     exact h
  ·split at h
   ·rename_i hx1 hx
    unfold forkN at h
    cases hc : countN bs p1 1 4 with
    | none => simp only [hc] at h; cases h
    | some np =>
     obtain ⟨c, p2⟩ := np
     obtain ⟨c0, c4, hcg⟩ := countN_in hc
     have hc' : countN bs p1 0 4 = some (c, p2) := by unfold countN; rw [hcg]; simp only; rw [if_pos ⟨by omega, c4⟩]
     simp only [hc] at h
     simp only [hc']
     rw [if_neg hx1]
     unfold sforkA
     unfold forkA at h
     have e : (c - 1).toNat + 1 = c.toNat := by omega
     have e2 : (c - 1).toNat = c.toNat - 1 := by omega
     rw [e] at h
     cases hk : numsN bs p2 c.toNat with
     | none => simp only [hk] at h; cases h
     | some kq =>
      obtain ⟨ks, p3⟩ := kq
      simp only [hk] at h ⊢
      unfold forkB at h
      unfold sforkB
      rw [e2] at h
      cases hu : numsN bs p3 (c.toNat - 1) with
      | none => simp only [hu] at h; cases h
      | some cq =>
       obtain ⟨cs, p4⟩ := cq
       simp only [hu] at h ⊢
       unfold forkC at h
       unfold sforkC
       cases hm : countN bs p4 0 6 with
       | none => simp only [hm] at h; cases h
       | some mq =>
        obtain ⟨d, p5⟩ := mq
        simp only [hm] at h ⊢
        cases hms : msgsN bs p5 d.toNat with
        | none => simp only [hms] at h; cases h
        | some mr =>
         obtain ⟨ms, q'⟩ := mr
         simp only [hms] at h ⊢
         exact h
   ·cases h
def specTest (bs : List Int) (n : NodeV) (q : Int) : Prop := q = (bs.length : Int) ∧ okV n ∧ okNums (numsV n) ∧ formsB (numsV n) = bs
theorem getNodeF_yes {bs : List Int} {n : NodeV} {q : Int} (ht : specTest bs n q) : getNodeF bs = some n := by
 obtain ⟨_, h2, h3, h4⟩ := ht
 rw [← h4]
 exact getNodeF_of h3 h2
theorem getNodeF_no {bs : List Int} (hb : inByte bs) {n : NodeV} {q : Int} (h : specRead bs = some (n, q)) (ht : ¬ specTest bs n q) : getNodeF bs = none := by
 cases hf : getNodeF bs with
 | none => rfl
 | some n' =>
  exfalso
  obtain ⟨f1, f2, f3⟩ := getNodeF_put hb hf
  unfold getNodeF at hf
  cases hn : nodeN bs 0 with
  | none => rw [hn] at hf; cases hf
  | some np =>
   obtain ⟨m, p⟩ := np
   rw [hn] at hf
   simp only at hf
   split at hf
   ·rename_i hp
    cases hf
    have := nodeN_spec hn
    rw [h] at this
    simp only [Option.some.injEq, Prod.mk.injEq] at this
    obtain ⟨rfl, rfl⟩ := this
    exact ht ⟨hp, f3, f2, f1⟩
   ·cases hf
theorem getNodeF_none {bs : List Int} (h : specRead bs = none) : getNodeF bs = none := by
 unfold getNodeF
 cases hn : nodeN bs 0 with
 | none => rfl
 | some np =>
  have := nodeN_spec hn
  rw [h] at this
  cases this
end
end Go.Proofs.Ytekcnibohikmdaa
