/-
  Contracts of the model's chapter 2: TreeDepth, TreeOk, l2Count, TreeCount, l2Kid, KidOf.
-/
import Derived.Test.YtmpiijphpnjlnaaTreeDepth
namespace Go.Proofs.Ytmpiijphpnjlnaa
open Go.RowKit

set_option maxHeartbeats 400000 in
theorem specTreeDepth_any (n : Nat) (x : TV) (T : Tr) (w : World) (ht : TreeAt n w x T) (hsz : sizeT n T ≤ 1099511627776) :
    Calls Try.prog 15 #[x.val] w fun e w' => e = .returned (.int .i64 (depthT T : Nat)) ∧ Below w.heap.size w w' := by
  have TT : Hid (TreeAt n w x T) := ht
  clear ht
  obtain ⟨lf, p, c, k, b⟩ := x
  have B0 : Hid _ := bel_box w #[.bool lf, p, c, k, b]
  have HC := l2Depth_any 7 (by omega) n ⟨lf, p, c, k, b⟩ T 0 1000 _ (TT.out.below B0.out) hsz (by omega) (by omega) (by omega) (by omega)
  have HC' : Hid _ := HC
  clear HC
  show Calls Try.prog 15 #[.agg #[.bool lf, p, c, k, b]] w _
  unfold depthT
  generalize depthF 7 T 0 1000 = d at *
  go_enter Try.func15, Try.ntmps15
  go_wp2_with fail
  refine Calls.mono HC'.out ?_
  rintro e w1 ⟨rfl, hb1⟩
  have B1 : Hid (Below w.heap.size w w1) := Below.and B0.out hb1
  clear hb1 B0
  go_wp2
  go_ret
  exact ⟨rfl, B1.out⟩

set_option maxHeartbeats 400000 in
theorem specTreeOk_any (n : Nat) (x : TV) (T : Tr) (w : World) (ht : TreeAt n w x T) (hsz : sizeT n T ≤ 1099511627776) :
    Calls Try.prog 16 #[x.val] w fun e w' => e = .returned (.bool (okT T)) ∧ Below w.heap.size w w' := by
  have TT : Hid (TreeAt n w x T) := ht
  clear ht
  obtain ⟨lf, p, c, k, b⟩ := x
  have B0 : Hid _ := bel_box w #[.bool lf, p, c, k, b]
  have HC := specTreeDepth_any n ⟨lf, p, c, k, b⟩ T _ (TT.out.below B0.out) hsz
  have HC' : Hid _ := HC
  clear HC
  show Calls Try.prog 16 #[.agg #[.bool lf, p, c, k, b]] w _
  unfold okT
  generalize depthT T = d at *
  go_enter Try.func16, Try.ntmps16
  go_wp2_with fail
  refine Calls.mono HC'.out ?_
  rintro e w1 ⟨rfl, hb1⟩
  have B1 : Hid (Below w.heap.size w w1) := Below.and B0.out hb1
  clear hb1 B0
  go_wp2
  go_ret
  exact ⟨rfl, B1.out⟩

/-- WHAT COUNTS A TREE, as the function g does. -/
def CountIs (g : FuncId) (n : Nat) : Prop := ∀ (x : TV) (T : Tr) (w : World), TreeAt n w x T → sizeT n T ≤ 1099511627776 →
    Calls Try.prog g #[x.val] w fun e w' => e = .returned (.tuple #[.int .i64 (pairsF n T : Nat), .int .i64 (msgsF n T : Nat)]) ∧ Below w.heap.size w w'

theorem ret_ints {a b c d : Int} (h : a = c) (h2 : b = d) : Ending.returned (.tuple #[.int .i64 a, .int .i64 b]) = .returned (.tuple #[.int .i64 c, .int .i64 d]) := by rw [h, h2]

set_option maxHeartbeats 2000000 in
theorem l2Count_of {n : Nat} (H : CountIs 43 n) : CountIs 43 (n + 1) := by
  intro x T w ht hsz
  obtain ⟨lf, p, c, k, b⟩ := x
  obtain ⟨-, hp, hc, hb, hk⟩ := ht.parts
  simp only at hp hc hb hk
  obtain ⟨a1, q1, rfl, _⟩ := hp.len
  obtain ⟨a4, q4, rfl, _⟩ := hb.len
  obtain ⟨xs, hxl, hrow, hkt⟩ := hk
  obtain ⟨a3, b3, off3, q3, he3, hcap3, hmax3, ha3, c0, c1, c2, c3, c4⟩ := hrow.trees
  rw [hxl] at he3 hcap3 ha3 c0 c1 c2 c3 c4 hkt
  subst he3
  have hS : sizeT (n + 1) T = T.pairs.length + (T.cuts.length + (T.kids.length + (T.kids.map (sizeT n)).sum + T.buf.length)) := rfl
  have KSZ : Hid (∀ i, i < T.kids.length → sizeT n (kidT T i) ≤ 1099511627776) := fun i hi => by have := sizeT_kid (n := n) hi; omega
  have m1 : T.pairs.length ≤ 1099511627776 := by omega
  have m3 : T.kids.length ≤ 1099511627776 := by omega
  have m4 : T.buf.length ≤ 1099511627776 := by omega
  have PL : Hid (∀ k, T.pairs.length + sumF (pairsF n) T.kids k ≤ 1099511627776) := fun k => by
    have h1 := sumF_le (pairsF n) T.kids k
    have h2 := sum_map_le (pairsF_le n) T.kids
    omega
  have QL : Hid (∀ k, T.buf.length + sumF (msgsF n) T.kids k ≤ 1099511627776) := fun k => by
    have h1 := sumF_le (msgsF n) T.kids k
    have h2 := sum_map_le (msgsF_le n) T.kids
    omega
  have PS : Hid (∀ k, k < T.kids.length → sumF (pairsF n) T.kids (k + 1) = sumF (pairsF n) T.kids k + pairsF n (kidT T k)) := fun k hk => sumF_succ _ _ k hk
  have QS : Hid (∀ k, k < T.kids.length → sumF (msgsF n) T.kids (k + 1) = sumF (msgsF n) T.kids k + msgsF n (kidT T k)) := fun k hk => sumF_succ _ _ k hk
  have PE : Hid (pairsF (n + 1) T = T.pairs.length + sumF (pairsF n) T.kids T.kids.length) := by
    show _ = _
    rw [pairsF, sumF_all]
  have QE : Hid (msgsF (n + 1) T = T.buf.length + sumF (msgsF n) T.kids T.kids.length) := by
    show _ = _
    rw [msgsF, sumF_all]
  generalize pairsF (n + 1) T = PP at *
  generalize msgsF (n + 1) T = QQ at *
  unfold maxLen at hmax3
  clear hS hsz hp hc hb hrow ht
  have KT : Hid (∀ i, i < T.kids.length → TreeAt n w (tvAt xs i) (kidT T i)) := hkt
  clear hkt hxl
  generalize T.pairs.length = n1 at *
  generalize T.kids.length = n3 at *
  generalize T.buf.length = n4 at *
  show Calls Try.prog 43 #[.agg #[.bool lf, .slice a1 n1 q1, c, .slice a3 n3 q3, .slice a4 n4 q4]] w _
  have B0 : Hid _ := bel_box w #[.bool lf, .slice a1 n1 q1, c, .slice a3 n3 q3, .slice a4 n4 q4]
  have S0 : Hid (OneAt _ w.heap.size _) := OneAt.start w #[.bool lf, .slice a1 n1 q1, c, .slice a3 n3 q3, .slice a4 n4 q4]
  go_enter Try.func43, Try.ntmps43
  go_wp2_with fail
  go_quiet (fail)
  go_wp2
  go_loopw [4, 5, 6] (fun pp mm i wr => ∃ (k P Q : Nat), k ≤ n3 ∧ i = .int .i64 k ∧ pp = .int .i64 P ∧ mm = .int .i64 Q ∧ P ≤ 1099511627776 ∧ Q ≤ 1099511627776 ∧ Hid (P = n1 + sumF (pairsF n) T.kids k) ∧ Hid (Q = n4 + sumF (msgsF n) T.kids k) ∧ Hid (Below w.heap.size w wr) ∧ Hid (OneAt wr w.heap.size #[.bool lf, .slice a1 n1 q1, c, .slice a3 n3 q3, .slice a4 n4 q4]))
    (fun _ _ i _ => n3 - (intOf i).toNat)
  case atStart => exact ⟨0, n1, n4, Nat.zero_le _, rfl, rfl, rfl, m1, m4, by show _ = _; rw [sumF_zero]; rfl, by show _ = _; rw [sumF_zero]; rfl, below_drewN B0.out _, S0.out.step (below_drewN (Below.refl _ _) _)⟩
  case round =>
    obtain ⟨k, P, Q, hkl, rfl, rfl, rfl, hP, hQ, PK, QK, BB, SS⟩ := hrel
    clear B0 S0
    have k0 := SS.out.cells
    by_cases hlt : k < n3
    · have hal := ha3 (by omega)
      subst hal
      have e0 := (BB.out.cell (by exact cell_lt (c0 k hlt))).trans (c0 k hlt)
      have e1 := (BB.out.cell (by exact cell_lt (c1 k hlt))).trans (c1 k hlt)
      have e2 := (BB.out.cell (by exact cell_lt (c2 k hlt))).trans (c2 k hlt)
      have e3 := (BB.out.cell (by exact cell_lt (c3 k hlt))).trans (c3 k hlt)
      have e4 := (BB.out.cell (by exact cell_lt (c4 k hlt))).trans (c4 k hlt)
      have T0 : Hid (TreeAt n wr (tvAt xs k) (kidT T k)) := (KT.out k hlt).below BB.out
      have TS : Hid (sizeT n (kidT T k) ≤ 1099511627776) := KSZ.out k hlt
      have PK2 := PS.out k hlt
      have QK2 := QS.out k hlt
      have PL2 := PL.out (k + 1)
      have QL2 := QL.out (k + 1)
      have HC := H (tvAt xs k) (kidT T k) wr T0.out TS.out
      have HC' : Hid _ := HC
      generalize pairsF n (kidT T k) = dp at *
      generalize msgsF n (kidT T k) = dq at *
      have hP2 : P + dp ≤ 1099511627776 := by have := PK.out; omega
      have hQ2 : Q + dq ≤ 1099511627776 := by have := QK.out; omega
      have PK3 : Hid (P + dp = n1 + sumF (pairsF n) T.kids (k + 1)) := by
        show _ = _
        have := PK.out; omega
      have QK3 : Hid (Q + dq = n4 + sumF (msgsF n) T.kids (k + 1)) := by
        show _ = _
        have := QK.out; omega
      clear PK2 QK2 PL2 QL2 HC c0 c1 c2 c3 c4 ha3 PK QK
      go_wp2_with fail
      refine Calls.mono HC'.out ?_
      rintro e w1 ⟨rfl, hb1⟩
      have B1 : Hid (Below w.heap.size w w1) := Below.and BB.out hb1
      have S1 : Hid (OneAt w1 w.heap.size _) := SS.out.step hb1
      clear hb1 T0 e0 e1 e2 e3 e4 HC'
      go_wp2
      go_roundw
      case rel => exact ⟨k + 1, P + dp, Q + dq, by omega, by go_num, by go_num, by go_num, hP2, hQ2, PK3, QK3, B1, S1⟩
      case measure => simp [intOf]; omega
    · have hkk : k = n3 := by omega
      have E1 : Hid (PP = P) := by
        show _ = _
        rw [PE.out, PK.out, hkk]
      have E2 : Hid (QQ = Q) := by
        show _ = _
        rw [QE.out, QK.out, hkk]
      clear c0 c1 c2 c3 c4 ha3 hkk
      go_wp2
      go_ret2
      exact ⟨ret_ints (by rw [E1.out]) (by rw [E2.out]), BB.out⟩

theorem l2Count_any : ∀ n, CountIs 43 n
  | 0 => fun _ _ _ h => h.elim
  | n + 1 => l2Count_of (l2Count_any n)

end Go.Proofs.Ytmpiijphpnjlnaa
