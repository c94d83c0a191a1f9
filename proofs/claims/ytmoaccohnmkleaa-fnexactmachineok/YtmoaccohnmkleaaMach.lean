/-
  Machines in memory: the laws' own functions on them.
-/
import Derived.Test.YtmoaccohnmkleaaDones
import Derived.Test.YtmoaccohnmkleaaBox
import Derived.Test.YtmoaccohnmkleaaTreeSz
import Derived.Test.YtmoaccohnmkleaaTreeEq
import Derived.Test.YtmoaccohnmkleaaTreeToB
namespace Go.Proofs.Ytmoaccohnmkleaa
open Go.RowKit

/-- the cells of a machine: those of its tree, and the slice of what was done last -/
structure MacV where
  x : TV
  v : Value
abbrev MacV.arr (m : MacV) : Array Value := #[.bool m.x.lf, m.x.p, m.x.c, m.x.k, m.x.b, m.v]
abbrev MacV.val (m : MacV) : Value := .agg #[.bool m.x.lf, m.x.p, m.x.c, m.x.k, m.x.b, m.v]
/-- this machine lies there -/
def MacAt (n : Nat) (w : World) (m : MacV) (T : Tr) (l : DL) : Prop := TreeAt n w m.x T ∧ Row w m.v l.length (flatD l)
theorem MacAt.below {n : Nat} {w w' : World} {m : MacV} {T : Tr} {l : DL} (h : MacAt n w m T l) (hb : Below w.heap.size w w') : MacAt n w' m T l := ⟨h.1.below hb, h.2.below hb⟩
theorem MacAt.shape {n : Nat} {w : World} {m : MacV} {T : Tr} {l : DL} (h : MacAt n w m T l) : ∃ (a1 a2 a3 a4 a5 : Option Addr) (c1 c2 c3 c4 c5 : Nat), m = ⟨⟨T.leaf, .slice a1 T.pairs.length c1, .slice a2 T.cuts.length c2, .slice a3 T.kids.length c3, .slice a4 T.buf.length c4⟩, .slice a5 l.length c5⟩ := by
  obtain ⟨a1, a2, a3, a4, c1, c2, c3, c4, hx⟩ := h.1.shape
  obtain ⟨a5, c5, hv, _⟩ := h.2.len
  obtain ⟨x, v⟩ := m
  simp only at hx hv
  subst hx hv
  exact ⟨_, _, _, _, _, _, _, _, _, _, rfl⟩

set_option maxHeartbeats 1000000 in
theorem szMachine_any (n : Nat) (m : MacV) (T : Tr) (l : DL) (left : Int) (w : World) (h : MacAt n w m T l) (h0 : 0 ≤ left) (h1 : left ≤ 1048576) :
    Calls Try.prog 4 #[m.val, .int .i64 left] w fun e w' => e = .returned (.int .i64 (leftOf left (sizeT n T + l.length))) ∧ Below w.heap.size w w' := by
  obtain ⟨a5, c5, hv, hle⟩ := h.2.len
  obtain ⟨⟨lf, p, c, k, b⟩, v⟩ := m
  simp only at hv
  subst hv
  have H : Hid _ := h.1
  have N1 : Hid (MBox 30 (w.alloc (.cells #[.bool lf, p, c, k, b, .slice a5 l.length c5] 30)) w.heap.size #[.bool lf, p, c, k, b, .slice a5 l.length c5]) := MBox.start _ w _
  have B1 : Hid (Below w.heap.size w (w.alloc (.cells #[.bool lf, p, c, k, b, .slice a5 l.length c5] 30))) := bel_nw _ _
  have S1 : Hid (∀ w0, Below w.heap.size w w0 → Calls Try.prog 9 #[.agg #[.bool lf, p, c, k, b], .int .i64 left] w0 fun e w' => e = .returned (.int .i64 (leftOf left (sizeT n T))) ∧ Below w0.heap.size w0 w') := fun w0 hb => szTree_any n ⟨lf, p, c, k, b⟩ T left w0 (H.out.below hb) h0 h1
  have c1 := N1.out.cells
  clear h H
  show Calls Try.prog 4 #[.agg #[.bool lf, p, c, k, b, .slice a5 l.length c5], .int .i64 left] w _
  by_cases hs : (sizeT n T : Int) ≤ left
  · have hs' : leftOf left (sizeT n T) = left - sizeT n T := leftOf_yes hs
    have hs2 : Hid (leftOf left (sizeT n T + l.length) = if (l.length : Int) ≤ left - sizeT n T then left - sizeT n T - l.length else -1) := by
      show _ = _
      unfold leftOf
      split <;> split <;> omega
    rw [hs'] at S1
    clear hs'
    rw [hs2.out]
    generalize sizeT n T = sz at *
    go_enter Try.func4, Try.ntmps4
    go_wp2_with fail
    generalize w.alloc (.cells #[.bool lf, p, c, k, b, .slice a5 l.length c5] 30) = W at *
    refine Calls.mono (S1.out _ B1.out) ?_
    rintro e w1 ⟨rfl, b1⟩
    have B3 : Hid (Below w.heap.size w w1) := Below.and B1.out b1
    have N3 : Hid (MBox 30 w1 w.heap.size #[.bool lf, p, c, k, b, .slice a5 l.length c5]) := N1.out.step b1
    clear c1 N1 B1 b1
    have c1 := N3.out.cells
    have hnn : ¬ (left - (sz : Int) < 0) := by omega
    go_wp2_with fail
    refine Calls.mono (szDoneS_any a5 l.length c5 _ hle (by omega) (by omega) _) ?_
    rintro e w2 ⟨rfl, rfl⟩
    by_cases hd : (l.length : Int) ≤ left - sz
    · rw [if_pos hd]
      have hn2 : ¬ (left - (sz : Int) - (l.length : Int) < 0) := by omega
      go_wp2
      go_ret
      exact ⟨rfl, B3.out⟩
    · rw [if_neg hd]
      go_wp2
      go_ret
      exact ⟨rfl, B3.out⟩
  · have hs' : leftOf left (sizeT n T) = -1 := leftOf_no hs
    have hs2 : Hid (leftOf left (sizeT n T + l.length) = -1) := leftOf_no (by omega)
    rw [hs'] at S1
    rw [hs2.out]
    go_enter Try.func4, Try.ntmps4
    go_wp2_with fail
    generalize w.alloc (.cells #[.bool lf, p, c, k, b, .slice a5 l.length c5] 30) = W at *
    refine Calls.mono (S1.out _ B1.out) ?_
    rintro e w1 ⟨rfl, b1⟩
    go_wp2
    go_ret
    exact ⟨rfl, Below.and B1.out b1⟩

set_option maxHeartbeats 1000000 in
theorem eqMachine_any (n : Nat) (m m2 : MacV) (T : Tr) (l : DL) (w : World) (h : MacAt n w m T l) (h2 : MacAt n w m2 T l) :
    Calls Try.prog 8 #[m.val, m2.val] w fun e w' => e = .returned (.bool true) ∧ Below w.heap.size w w' := by
  obtain ⟨⟨lf, p, c, k, b⟩, v⟩ := m
  obtain ⟨⟨lf2, p2, c2, k2, b2⟩, v2⟩ := m2
  have H : Hid _ := And.intro h h2
  have N1 : Hid (MBox 40 (w.alloc (.cells #[.bool lf, p, c, k, b, v] 40)) w.heap.size #[.bool lf, p, c, k, b, v]) := MBox.start _ w _
  have N2 : Hid (MBox 40 ((w.alloc (.cells #[.bool lf, p, c, k, b, v] 40)).alloc (.cells #[.bool lf2, p2, c2, k2, b2, v2] 40)) (w.alloc (.cells #[.bool lf, p, c, k, b, v] 40)).heap.size #[.bool lf2, p2, c2, k2, b2, v2]) := MBox.start _ _ _
  have N1b : Hid (MBox 40 ((w.alloc (.cells #[.bool lf, p, c, k, b, v] 40)).alloc (.cells #[.bool lf2, p2, c2, k2, b2, v2] 40)) w.heap.size #[.bool lf, p, c, k, b, v]) := N1.out.step (bel_nw _ _)
  have B2 : Hid (Below w.heap.size w ((w.alloc (.cells #[.bool lf, p, c, k, b, v] 40)).alloc (.cells #[.bool lf2, p2, c2, k2, b2, v2] 40))) := Below.and (bel_nw _ _) (bel_nw _ _)
  have e1 : (w.alloc (.cells #[.bool lf, p, c, k, b, v] 40)).heap.size = w.heap.size + 1 := by simp
  rw [e1] at N2
  have c1 := N1b.out.cells
  have d1 := N2.out.cells
  clear N1 e1 h h2
  show Calls Try.prog 8 #[.agg #[.bool lf, p, c, k, b, v], .agg #[.bool lf2, p2, c2, k2, b2, v2]] w _
  go_enter Try.func8, Try.ntmps8
  go_wp2_with fail
  generalize (w.alloc (.cells #[.bool lf, p, c, k, b, v] 40)).alloc (.cells #[.bool lf2, p2, c2, k2, b2, v2] 40) = W at *
  refine Calls.mono (eqTree_any n ⟨lf, p, c, k, b⟩ ⟨lf2, p2, c2, k2, b2⟩ T W (H.out.1.1.below B2.out) (H.out.2.1.below B2.out)) ?_
  rintro e w1 ⟨rfl, b1⟩
  have B3 : Hid (Below w.heap.size w w1) := Below.and B2.out b1
  have N3 : Hid (MBox 40 w1 w.heap.size #[.bool lf, p, c, k, b, v]) := N1b.out.step b1
  have N4 : Hid (MBox 40 w1 (w.heap.size + 1) #[.bool lf2, p2, c2, k2, b2, v2]) := N2.out.step b1
  clear c1 d1 N1b N2 B2 b1
  have c1 := N3.out.cells
  have d1 := N4.out.cells
  go_wp2_with fail
  refine Calls.mono (eqDoneS_any v v2 l l w1 (H.out.1.2.below B3.out) (H.out.2.2.below B3.out)) ?_
  rintro e w2 ⟨rfl, b2⟩
  rw [decide_eq_true rfl]
  go_wp2
  go_ret
  exact ⟨rfl, Below.and B3.out b2⟩

end Go.Proofs.Ytmoaccohnmkleaa
