/-
  What is put is read again: the other way round.
-/
import Derived.Test.YtfedeljadckjiaaDoorSpans
namespace Go.Proofs.YtfedeljadckjiaaDoor
variable {bs : List Int} {p q r : Int} {l m : List Int}

theorem Spans.of (l : List Int) (h : okNums l) : Spans (formsB l) 0 l (formsB l).length := ⟨by omega, by omega, by omega, by omega, by simp, h⟩
theorem Spans.split (h : Spans bs p (l ++ m) r) : ∃ q, Spans bs p l q ∧ Spans bs q m r := by
  obtain ⟨a0, a1, a2, a3, a4, a5⟩ := h
  rw [formsB_app, List.length_append, List.take_add, List.drop_drop] at a4
  rw [formsB_app, List.length_append] at a3
  have hlen : ((bs.drop p.toNat).take (formsB l).length).length = (formsB l).length := by
    rw [List.length_take, List.length_drop]; omega
  obtain ⟨e1, e2⟩ := List.append_inj a4 (by rw [hlen])
  refine ⟨p + (formsB l).length, ⟨a0, a1, by omega, rfl, e1, fun x hx => a5 x (List.mem_append_left _ hx)⟩, ⟨by omega, by omega, a2, by omega, ?_, fun x hx => a5 x (List.mem_append_right _ hx)⟩⟩
  have : (p + ((formsB l).length : Int)).toNat = p.toNat + (formsB l).length := by omega
  rw [this]
  exact e2
theorem Spans.get {x : Int} (h : Spans bs p [x] q) : getN bs p = some (x, q) := by
  obtain ⟨a0, a1, a2, a3, a4, a5⟩ := h
  have e : formsB [x] = putN x := by simp [formsB]
  rw [e] at a3 a4
  obtain ⟨x1, x2⟩ := a5 x (by simp)
  have hb : bs = bs.take p.toNat ++ putN x ++ (bs.drop p.toNat).drop (putN x).length := by
    rw [List.append_assoc]
    conv => lhs; rw [← List.take_append_drop p.toNat bs, ← List.take_append_drop (putN x).length (bs.drop p.toNat), ← a4]
  have hl : (bs.take p.toNat).length = p.toNat := by rw [List.length_take]; omega
  have := getN_putN x1 x2 (bs.take p.toNat) ((bs.drop p.toNat).drop (putN x).length)
  rw [← hb, hl] at this
  have hp : ((p.toNat : Nat) : Int) = p := by omega
  rw [hp] at this
  rw [this, a3]
theorem Spans.nums : ∀ {l : List Int} {q : Int}, Spans bs p l q → numsN bs p l.length = some (l, q) := by
  intro l
  induction h : l.length generalizing l with
  | zero =>
    intro q hs
    obtain rfl := List.length_eq_zero_iff.1 h
    have : q = p := by have := hs.2.2.2.1; simp [formsB] at this; exact this
    rw [this, numsN]
  | succ k ih =>
    intro q hs
    rcases List.eq_nil_or_concat l with rfl | ⟨l', x, rfl⟩
    · simp at h
    · rw [List.concat_eq_append] at hs h ⊢
      obtain ⟨q', s1, s2⟩ := hs.split
      have := ih (l := l') (by simpa using h) s1
      rw [numsN, this]
      simp only [s2.get]
theorem Spans.count {x lo hi : Int} (h : Spans bs p [x] q) (h1 : lo ≤ x) (h2 : x ≤ hi) : countN bs p lo hi = some (x, q) := by
  unfold countN
  rw [h.get]
  simp only
  rw [if_pos ⟨h1, h2⟩]
theorem Spans.pairs : ∀ {l : List (Int × Int)} {q : Int}, Spans bs p (pairNums l) q → pairsN bs p l.length = some (l, q) := by
  intro l
  induction h : l.length generalizing l with
  | zero =>
    intro q hs
    obtain rfl := List.length_eq_zero_iff.1 h
    have : q = p := by have := hs.2.2.2.1; simp [formsB, pairNums] at this; exact this
    rw [this, pairsN]
  | succ k ih =>
    intro q hs
    rcases List.eq_nil_or_concat l with rfl | ⟨l', x, rfl⟩
    · simp at h
    · rw [List.concat_eq_append] at hs h ⊢
      have e : pairNums (l' ++ [x]) = pairNums l' ++ [x.1, x.2] := by simp [pairNums]
      rw [e] at hs
      obtain ⟨q', s1, s2⟩ := hs.split
      have := ih (l := l') (by simpa using h) s1
      rw [pairsN, this]
      have := s2.nums
      simp only [List.length_cons, List.length_nil, Nat.zero_add, Nat.reduceAdd] at this
      simp only [this]
theorem Spans.msgs : ∀ {l : List (Int × Int × Int)} {q : Int}, Spans bs p (msgNums l) q → msgsN bs p l.length = some (l, q) := by
  intro l
  induction h : l.length generalizing l with
  | zero =>
    intro q hs
    obtain rfl := List.length_eq_zero_iff.1 h
    have : q = p := by have := hs.2.2.2.1; simp [formsB, msgNums] at this; exact this
    rw [this, msgsN]
  | succ k ih =>
    intro q hs
    rcases List.eq_nil_or_concat l with rfl | ⟨l', x, rfl⟩
    · simp at h
    · rw [List.concat_eq_append] at hs h ⊢
      have e : msgNums (l' ++ [x]) = msgNums l' ++ [x.1, x.2.1, x.2.2] := by simp [msgNums]
      rw [e] at hs
      obtain ⟨q', s1, s2⟩ := hs.split
      have := ih (l := l') (by simpa using h) s1
      rw [msgsN, this]
      have := s2.nums
      simp only [List.length_cons, List.length_nil, Nat.zero_add, Nat.reduceAdd] at this
      simp only [this]
theorem Spans.node {n : NodeV} (ho : okV n) (h : Spans bs p (numsV n) q) : nodeN bs p = some (n, q) := by
  cases n with
  | inl l =>
    have ho : l.length ≤ 4 := ho
    have h : Spans bs p ([1] ++ ([(l.length : Int)] ++ pairNums l)) q := by simpa [numsV, leafNums] using h
    obtain ⟨p1, s1, h⟩ := h.split
    obtain ⟨p2, s2, s3⟩ := h.split
    unfold nodeN leafN
    simp only [s1.get, if_true, s2.count (lo := 0) (hi := 4) (by omega) (by omega), Int.toNat_natCast, s3.pairs]
  | inr f =>
    obtain ⟨ks, cs, ms⟩ := f
    obtain ⟨o1, o2, o3, o4⟩ := ho
    simp only at o1 o2 o3 o4
    have h : Spans bs p ([0] ++ ([(ks.length : Int)] ++ (ks ++ (cs ++ ([(ms.length : Int)] ++ msgNums ms))))) q := by simpa [numsV] using h
    obtain ⟨p1, s1, h⟩ := h.split
    obtain ⟨p2, s2, h⟩ := h.split
    obtain ⟨p3, s3, h⟩ := h.split
    obtain ⟨p4, s4, h⟩ := h.split
    obtain ⟨p5, s5, s6⟩ := h.split
    have hk : ((ks.length : Int) - 1).toNat = cs.length := by omega
    have s3' := s3.nums
    rw [← o3] at s3'
    unfold nodeN forkN
    simp only [s1.get, s2.count (lo := 1) (hi := 4) (by omega) (by omega), hk]
    unfold forkA forkB forkC
    simp only [s3', s4.nums, s5.count (lo := 0) (hi := 6) (by omega) (by omega), Int.toNat_natCast, s6.msgs]
    rfl
/-- what PutNode makes is taken by GetNode -/
theorem getNodeF_of {n : NodeV} (hn : okNums (numsV n)) (ho : okV n) : getNodeF (formsB (numsV n)) = some n := by
  unfold getNodeF
  rw [Spans.node ho (Spans.of _ hn)]
  simp

end Go.Proofs.YtfedeljadckjiaaDoor
