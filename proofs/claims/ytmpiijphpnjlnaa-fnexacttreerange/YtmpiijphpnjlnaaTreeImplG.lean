/-
  Contracts of the program's chapter 2: TreeDepth, TreeOk, countAll, TreeCount, kidAt, KidOf.
-/
import Derived.Test.YtmpiijphpnjlnaaTreeImplF
namespace Go.Proofs.Ytmpiijphpnjlnaa
open Go.RowKit

set_option maxHeartbeats 400000 in
theorem implTreeDepth_any (n : Nat) (x : TV) (T : Tr) (w : World) (ht : TreeAt n w x T) :
    Calls Try.prog 11 #[x.val] w fun e w' => e = .returned (.int .i64 (depthT T : Nat)) ∧ Below w.heap.size w w' := by
  have TT : Hid (TreeAt n w x T) := ht
  clear ht
  obtain ⟨lf, p, c, k, b⟩ := x
  have B0 : Hid _ := bel_box w #[.bool lf, p, c, k, b]
  have HR : Hid (∀ w0, Below w.heap.size w w0 → Calls Try.prog 40 #[.agg #[.bool lf, p, c, k, b]] w0 fun e w' => e = .returned (.agg #[.int .i64 (kindN T), .int .i64 0, .int .i64 1000, .int .i64 0, .bool lf, p, c, k, b]) ∧ Below w0.heap.size w0 w') := fun w0 hb => rootOf_any n ⟨lf, p, c, k, b⟩ T w0 (TT.out.below hb)
  have HD : Hid (∀ w0, Below w.heap.size w w0 → Calls Try.prog 41 #[.agg #[.int .i64 (kindN T), .int .i64 0, .int .i64 1000, .int .i64 0, .bool lf, p, c, k, b]] w0 fun e w' => e = .returned (.int .i64 (depthT T : Nat)) ∧ Below w0.heap.size w0 w') := fun w0 hb => depth_any 7 (by omega) n ⟨lf, p, c, k, b⟩ T 0 1000 w0 (TT.out.below hb)
  generalize depthT T = d at *
  generalize kindN T = kn at *
  show Calls Try.prog 11 #[.agg #[.bool lf, p, c, k, b]] w _
  go_enter Try.func11, Try.ntmps11
  go_wp2_with fail
  refine Calls.mono (HR.out _ B0.out) ?_
  rintro e w1 ⟨rfl, hb1⟩
  have B1 : Hid (Below w.heap.size w w1) := Below.and B0.out hb1
  clear hb1 B0
  go_wp2_with fail
  refine Calls.mono (HD.out _ B1.out) ?_
  rintro e w2 ⟨rfl, hb2⟩
  have B2 : Hid (Below w.heap.size w w2) := Below.and B1.out hb2
  clear hb2 B1
  go_wp2
  go_ret
  exact ⟨rfl, B2.out⟩

set_option maxHeartbeats 400000 in
theorem implTreeOk_any (n : Nat) (x : TV) (T : Tr) (w : World) (ht : TreeAt n w x T) :
    Calls Try.prog 38 #[x.val] w fun e w' => e = .returned (.bool (okT T)) ∧ Below w.heap.size w w' := by
  have TT : Hid (TreeAt n w x T) := ht
  clear ht
  obtain ⟨lf, p, c, k, b⟩ := x
  have B0 : Hid _ := bel_box w #[.bool lf, p, c, k, b]
  have HC := implTreeDepth_any n ⟨lf, p, c, k, b⟩ T _ (TT.out.below B0.out)
  have HC' : Hid _ := HC
  clear HC
  show Calls Try.prog 38 #[.agg #[.bool lf, p, c, k, b]] w _
  unfold okT
  generalize depthT T = d at *
  go_enter Try.func38, Try.ntmps38
  go_wp2_with fail
  refine Calls.mono HC'.out ?_
  rintro e w1 ⟨rfl, hb1⟩
  have B1 : Hid (Below w.heap.size w w1) := Below.and B0.out hb1
  clear hb1 B0
  go_wp2
  go_ret
  exact ⟨rfl, B1.out⟩

set_option maxHeartbeats 2000000 in
theorem countAll_of {n : Nat} (H : CountIs 42 n) : CountIs 42 (n + 1) := by
  intro x T w ht hsz
  obtain ⟨lf, p, c, k, b⟩ := x
  obtain ⟨-, hp, hc, hb, hk⟩ := ht.parts
  simp only at hp hc hb hk
  obtain ⟨a1, q1, rfl, _⟩ := hp.len
  obtain ⟨a4, q4, rfl, _⟩ := hb.len
  obtain ⟨xs, hxl, hrow, hkt⟩ := hk
  obtain ⟨a3, b3, off3, q3, he3, hcap3, hmax3, ha3, c0, c1, c2, c3, c4⟩ := hrow.trees
  rw [hxl] at he3 hcap3 ha3 c0 c1 c2 c3 c4 hkt
  subst he3
  have hS : sizeT (n + 1) T = T.pairs.length + (T.cuts.length + (T.kids.length + (T.kids.map (sizeT n)).sum + T.buf.length)) := rfl
  have KSZ : Hid (∀ i, i < T.kids.length → sizeT n (kidT T i) ≤ 1099511627776) := fun i hi => by have := sizeT_kid (n := n) hi; omega
  have m1 : T.pairs.length ≤ 1099511627776 := by omega
  have m3 : T.kids.length ≤ 1099511627776 := by omega
  have m4 : T.buf.length ≤ 1099511627776 := by omega
  have PL : Hid (∀ k, T.pairs.length + sumF (pairsF n) T.kids k ≤ 1099511627776) := fun k => by
    have h1 := sumF_le (pairsF n) T.kids k
    have h2 := sum_map_le (pairsF_le n) T.kids
    omega
  have QL : Hid (∀ k, T.buf.length + sumF (msgsF n) T.kids k ≤ 1099511627776) := fun k => by
    have h1 := sumF_le (msgsF n) T.kids k
    have h2 := sum_map_le (msgsF_le n) T.kids
    omega
  have PS : Hid (∀ k, k < T.kids.length → sumF (pairsF n) T.kids (k + 1) = sumF (pairsF n) T.kids k + pairsF n (kidT T k)) := fun k hk => sumF_succ _ _ k hk
  have QS : Hid (∀ k, k < T.kids.length → sumF (msgsF n) T.kids (k + 1) = sumF (msgsF n) T.kids k + msgsF n (kidT T k)) := fun k hk => sumF_succ _ _ k hk
  have PE : Hid (pairsF (n + 1) T = T.pairs.length + sumF (pairsF n) T.kids T.kids.length) := by
    show _ = _
    rw [pairsF, sumF_all]
  have QE : Hid (msgsF (n + 1) T = T.buf.length + sumF (msgsF n) T.kids T.kids.length) := by
    show _ = _
    rw [msgsF, sumF_all]
  generalize pairsF (n + 1) T = PP at *
  generalize msgsF (n + 1) T = QQ at *
  unfold maxLen at hmax3
  clear hS hsz hp hc hb hrow ht
  have KT : Hid (∀ i, i < T.kids.length → TreeAt n w (tvAt xs i) (kidT T i)) := hkt
  have SH : Hid (∀ i, i < T.kids.length → ∃ (r1 r2 r3 r4 : Option Addr) (z1 z2 z3 z4 s1 s2 s3 s4 : Nat) (z0 : Bool), tvAt xs i = ⟨z0, .slice r1 z1 s1, .slice r2 z2 s2, .slice r3 z3 s3, .slice r4 z4 s4⟩) := fun i hi => by
    obtain ⟨r1, r2, r3, r4, s1, s2, s3, s4, e⟩ := (KT.out i hi).shape
    exact ⟨r1, r2, r3, r4, _, _, _, _, s1, s2, s3, s4, _, e⟩
  clear hkt hxl
  generalize T.pairs.length = n1 at *
  generalize T.kids.length = n3 at *
  generalize T.buf.length = n4 at *
  show Calls Try.prog 42 #[.agg #[.bool lf, .slice a1 n1 q1, c, .slice a3 n3 q3, .slice a4 n4 q4]] w _
  have B0 : Hid _ := bel_box w #[.bool lf, .slice a1 n1 q1, c, .slice a3 n3 q3, .slice a4 n4 q4]
  go_enter Try.func42, Try.ntmps42
  go_wp2_with fail
  go_quiet (fail)
  go_wp2
  go_loopw [4, 5, 19] (fun pp mm i wr => ∃ (k P Q : Nat), k ≤ n3 ∧ i = .int .i64 k ∧ pp = .int .i64 P ∧ mm = .int .i64 Q ∧ P ≤ 1099511627776 ∧ Q ≤ 1099511627776 ∧ Hid (P = n1 + sumF (pairsF n) T.kids k) ∧ Hid (Q = n4 + sumF (msgsF n) T.kids k) ∧ Hid (Below w.heap.size w wr))
    (fun _ _ i _ => n3 - (intOf i).toNat)
  case atStart => exact ⟨0, n1, n4, Nat.zero_le _, rfl, rfl, rfl, m1, m4, by show _ = _; rw [sumF_zero]; rfl, by show _ = _; rw [sumF_zero]; rfl, below_drewN B0.out _⟩
  case round =>
    obtain ⟨k, P, Q, hkl, rfl, rfl, rfl, hP, hQ, PK, QK, BB⟩ := hrel
    clear B0
    by_cases hlt : k < n3
    · have hal := ha3 (by omega)
      subst hal
      have e0 := (BB.out.cell (by exact cell_lt (c0 k hlt))).trans (c0 k hlt)
      have e1 := (BB.out.cell (by exact cell_lt (c1 k hlt))).trans (c1 k hlt)
      have e2 := (BB.out.cell (by exact cell_lt (c2 k hlt))).trans (c2 k hlt)
      have e3 := (BB.out.cell (by exact cell_lt (c3 k hlt))).trans (c3 k hlt)
      have e4 := (BB.out.cell (by exact cell_lt (c4 k hlt))).trans (c4 k hlt)
      have T0 := KT.out k hlt
      obtain ⟨r1, r2, r3, r4, z1, z2, z3, z4, s1, s2, s3, s4, z0, hy⟩ := SH.out k hlt
      rw [hy] at T0 e0 e1 e2 e3 e4
      simp only at e0 e1 e2 e3 e4
      have TS : Hid (sizeT n (kidT T k) ≤ 1099511627776) := KSZ.out k hlt
      have PK2 := PS.out k hlt
      have QK2 := QS.out k hlt
      have PL2 := PL.out (k + 1)
      have QL2 := QL.out (k + 1)
      have HC : Hid (∀ w0, Below w.heap.size w w0 → Calls Try.prog 42 #[.agg #[.bool z0, .slice r1 z1 s1, .slice r2 z2 s2, .slice r3 z3 s3, .slice r4 z4 s4]] w0 fun e w' => e = .returned (.tuple #[.int .i64 (pairsF n (kidT T k) : Nat), .int .i64 (msgsF n (kidT T k) : Nat)]) ∧ Below w0.heap.size w0 w') := fun w0 hb => H ⟨z0, .slice r1 z1 s1, .slice r2 z2 s2, .slice r3 z3 s3, .slice r4 z4 s4⟩ (kidT T k) w0 (T0.below hb) TS.out
      have B1 : Hid (∀ o, Below w.heap.size w (wr.alloc o)) := fun o => BB.out.alloc BB.out.size o
      generalize pairsF n (kidT T k) = dp at *
      generalize msgsF n (kidT T k) = dq at *
      have hP2 : P + dp ≤ 1099511627776 := by have := PK.out; omega
      have hQ2 : Q + dq ≤ 1099511627776 := by have := QK.out; omega
      have PK3 : Hid (P + dp = n1 + sumF (pairsF n) T.kids (k + 1)) := by
        show _ = _
        have := PK.out; omega
      have QK3 : Hid (Q + dq = n4 + sumF (msgsF n) T.kids (k + 1)) := by
        show _ = _
        have := QK.out; omega
      clear PK2 QK2 PL2 QL2 c0 c1 c2 c3 c4 ha3 PK QK T0 hy
      go_wp2_with fail
      refine Calls.mono (HC.out _ (B1.out _)) ?_
      rintro e w1 ⟨rfl, hb1⟩
      have B2 : Hid (Below w.heap.size w w1) := Below.and (B1.out _) hb1
      clear hb1 e0 e1 e2 e3 e4 HC
      go_wp2
      go_roundw
      case rel => exact ⟨k + 1, P + dp, Q + dq, by omega, by go_num, by go_num, by go_num, hP2, hQ2, PK3, QK3, B2⟩
      case measure => simp [intOf]; omega
    · have hkk : k = n3 := by omega
      have E1 : Hid (PP = P) := by
        show _ = _
        rw [PE.out, PK.out, hkk]
      have E2 : Hid (QQ = Q) := by
        show _ = _
        rw [QE.out, QK.out, hkk]
      clear c0 c1 c2 c3 c4 ha3 hkk
      go_wp2
      go_ret2
      exact ⟨ret_ints (by rw [E1.out]) (by rw [E2.out]), BB.out⟩

theorem countAll_any : ∀ n, CountIs 42 n
  | 0 => fun _ _ _ h => h.elim
  | n + 1 => countAll_of (countAll_any n)

set_option maxHeartbeats 400000 in
theorem implTreeCount_any (n : Nat) (x : TV) (T : Tr) (w : World) (ht : TreeAt n w x T) (hsz : sizeT n T ≤ 1099511627776) :
    Calls Try.prog 12 #[x.val] w fun e w' => e = .returned (.tuple #[.int .i64 (if okT T = true then (pairsF n T : Nat) else 0), .int .i64 (if okT T = true then (msgsF n T : Nat) else 0)]) ∧ Below w.heap.size w w' := by
  have TT : Hid (TreeAt n w x T) := ht
  clear ht
  obtain ⟨lf, p, c, k, b⟩ := x
  have B0 : Hid _ := bel_box w #[.bool lf, p, c, k, b]
  have S0 : Hid (OneAt _ w.heap.size _) := OneAt.start w #[.bool lf, p, c, k, b]
  have HC := implTreeOk_any n ⟨lf, p, c, k, b⟩ T _ (TT.out.below B0.out)
  have HC' : Hid _ := HC
  clear HC
  have HD : Hid (∀ w1, Below w.heap.size w w1 → Calls Try.prog 42 #[.agg #[.bool lf, p, c, k, b]] w1 fun e w' => e = .returned (.tuple #[.int .i64 (pairsF n T : Nat), .int .i64 (msgsF n T : Nat)]) ∧ Below w1.heap.size w1 w') :=
    fun w1 hb => countAll_any n ⟨lf, p, c, k, b⟩ T w1 (TT.out.below hb) hsz
  show Calls Try.prog 12 #[.agg #[.bool lf, p, c, k, b]] w _
  generalize pairsF n T = P at *
  generalize msgsF n T = Q at *
  cases hok : okT T
  · rw [hok] at HC'
    go_enter Try.func12, Try.ntmps12
    go_wp2_with fail
    refine Calls.mono HC'.out ?_
    rintro e w1 ⟨rfl, hb1⟩
    have B1 : Hid (Below w.heap.size w w1) := Below.and B0.out hb1
    clear hb1 B0
    go_wp2
    go_ret2
    exact ⟨rfl, B1.out⟩
  · rw [hok] at HC'
    go_enter Try.func12, Try.ntmps12
    go_wp2_with fail
    refine Calls.mono HC'.out ?_
    rintro e w1 ⟨rfl, hb1⟩
    have B1 : Hid (Below w.heap.size w w1) := Below.and B0.out hb1
    have k0 := (S0.out.step hb1).cells
    clear hb1 B0
    go_wp2_with fail
    refine Calls.mono (HD.out w1 B1.out) ?_
    rintro e w2 ⟨rfl, hb2⟩
    have B2 : Hid (Below w.heap.size w w2) := Below.and B1.out hb2
    clear hb2 B1
    go_wp2
    go_ret2
    exact ⟨rfl, B2.out⟩

end Go.Proofs.Ytmpiijphpnjlnaa
