/-
  Contracts of the program's chapter 2: depthByKids, depth.
  Contracts of the program's chapter 2: TreeDepth, TreeOk, countAll, TreeCount, kidAt, KidOf.
  MachineOk of the program.
  LogOk of the program.
  The program's NodeOk.
-/
import Derived.Test.YtmdajbbpigbdcaaOfRpc12
import Derived.Test.YtmdajbbpigbdcaaOfRpc13
import Derived.Test.YtmdajbbpigbdcaaOfRpc9
import Derived.Test.YtmdajbbpigbdcaaOfRpc5
import Derived.Test.YtmdajbbpigbdcaaOfRpc11
namespace Go.Proofs.Ytmdajbbpigbdcaa
open Go.RowKit

/-- WHAT THE PROGRAM's depth DOES, where m more may stand below. -/
def DepthI (m : Nat) : Prop := ∀ (n : Nat) (x : TV) (T : Tr) (lo hi : Int) (w : World), TreeAt n w x T →
    Calls Try.prog 126 #[placedV (kindN T) lo hi (7 - (m : Int)) x] w fun e w' => e = .returned (.int .i64 (depthF m T lo hi : Nat)) ∧ Below w.heap.size w w'

set_option maxHeartbeats 2000000 in
theorem depthByKids_of {m : Nat} (hm : m ≤ 6) (H : DepthI m) (n : Nat) (x : TV) (T : Tr) (kd lo hi : Int) (w : World) (ht : TreeAt (n + 1) w x T) (hk2 : 2 ≤ T.kids.length) (hk4 : T.kids.length ≤ 4) (hcl : T.cuts.length + 1 = T.kids.length) :
    Calls Try.prog 133 #[placedV kd lo hi (7 - ((m + 1 : Nat) : Int)) x] w fun e w' => e = .returned (.int .i64 (kidsD (kidF m T lo hi) T.kids.length : Nat)) ∧ Below w.heap.size w w' := by
  have KD : Hid (∀ (i : Nat) (w0 : World), i < T.kids.length → Below w.heap.size w w0 → Calls Try.prog 137 #[placedV kd lo hi (7 - ((m + 1 : Nat) : Int)) x, .int .i64 i] w0 fun e w' => ∃ y : TV, e = .returned (placedV (kindN (kidT T i)) (fromT T lo i) (toT T hi i) (7 - (m : Int)) y) ∧ TreeAt n w0 y (kidT T i) ∧ Below w0.heap.size w0 w') := by
    intro i w0 hik hb
    have := kid_any n x T kd lo hi (7 - ((m + 1 : Nat) : Int)) i w0 (ht.below hb) hik hcl hk4 (by omega) (by omega)
    rw [show (7 - ((m + 1 : Nat) : Int)) + 1 = 7 - (m : Int) by omega] at this
    exact this
  have DP : Hid (∀ (i : Nat) (y : TV) (w0 : World), TreeAt n w0 y (kidT T i) → Calls Try.prog 126 #[placedV (kindN (kidT T i)) (fromT T lo i) (toT T hi i) (7 - (m : Int)) y] w0 fun e w' => e = .returned (.int .i64 (kidF m T lo hi i : Nat)) ∧ Below w0.heap.size w0 w') := fun i y w0 h => H n y (kidT T i) _ _ w0 h
  obtain ⟨a1, a2, a3, a4, q1, q2, q3, q4, rfl⟩ := ht.shape
  have KL : Hid (∀ i, kidF m T lo hi i ≤ 7) := fun i => by have := depthF_le m (kidT T i) (fromT T lo i) (toT T hi i); show depthF m (kidT T i) (fromT T lo i) (toT T hi i) ≤ 7; omega
  have Z0 : Hid (∀ i, i < T.kids.length → kidF m T lo hi i = 0 → kidsD (kidF m T lo hi) T.kids.length = 0) := fun i h1 h2 => kidsD_zero h1 h2
  have Z1 : Hid (∀ i, i < T.kids.length → kidF m T lo hi i ≠ kidF m T lo hi 0 → kidsD (kidF m T lo hi) T.kids.length = 0) := fun i h1 h2 => kidsD_ne h1 h2
  have Y1 : Hid (kidF m T lo hi 0 ≠ 0 → (∀ i, i < T.kids.length → kidF m T lo hi i = kidF m T lo hi 0) → kidsD (kidF m T lo hi) T.kids.length = kidF m T lo hi 0 + 1) := kidsD_yes
  generalize kidsD (kidF m T lo hi) T.kids.length = R at *
  generalize kidF m T lo hi = f at *
  clear ht H
  generalize T.pairs.length = n1 at *
  generalize T.cuts.length = n2 at *
  generalize T.kids.length = n3 at *
  generalize T.buf.length = n4 at *
  have ABL : Hid ((7 - ((m + 1 : Nat) : Int)) = (7 - ((m + 1 : Nat) : Int))) := rfl
  clear ABL
  generalize (7 - ((m + 1 : Nat) : Int)) = ab at *
  generalize (7 - (m : Int)) = ab1 at *
  show Calls Try.prog 133 #[.agg #[.int .i64 kd, .int .i64 lo, .int .i64 hi, .int .i64 ab, .bool T.leaf, .slice a1 n1 q1, .slice a2 n2 q2, .slice a3 n3 q3, .slice a4 n4 q4]] w _
  have B0 : Hid _ := bel_new w (.cells #[.int .i64 kd, .int .i64 lo, .int .i64 hi, .int .i64 ab, .bool T.leaf, .slice a1 n1 q1, .slice a2 n2 q2, .slice a3 n3 q3, .slice a4 n4 q4] 175)
  have S0 : Hid (BoxAt 175 _ w.heap.size _) := BoxAt.start 175 w #[.int .i64 kd, .int .i64 lo, .int .i64 hi, .int .i64 ab, .bool T.leaf, .slice a1 n1 q1, .slice a2 n2 q2, .slice a3 n3 q3, .slice a4 n4 q4]
  go_enter Try.func133, Try.ntmps133
  go_wp2_with fail
  refine Calls.mono (KD.out 0 _ (by omega) B0.out) ?_
  rintro e w1 ⟨y, rfl, ty, hb1⟩
  have B1 : Hid (Below w.heap.size w w1) := Below.and B0.out hb1
  have S1 : Hid (BoxAt 175 w1 w.heap.size #[.int .i64 kd, .int .i64 lo, .int .i64 hi, .int .i64 ab, .bool T.leaf, .slice a1 n1 q1, .slice a2 n2 q2, .slice a3 n3 q3, .slice a4 n4 q4]) := S0.out.step hb1
  have TY : Hid (TreeAt n w1 y (kidT T 0)) := ty.below hb1
  clear B0 S0 hb1 ty
  go_wp2_with fail
  refine Calls.mono (DP.out 0 y w1 TY.out) ?_
  rintro e w2 ⟨rfl, hb2⟩
  have B2 : Hid (Below w.heap.size w w2) := Below.and B1.out hb2
  have S2 : Hid (BoxAt 175 w2 w.heap.size #[.int .i64 kd, .int .i64 lo, .int .i64 hi, .int .i64 ab, .bool T.leaf, .slice a1 n1 q1, .slice a2 n2 q2, .slice a3 n3 q3, .slice a4 n4 q4]) := S1.out.step hb2
  have k0 := S2.out.cells
  have hf0 := KL.out 0
  clear B1 S1 hb2 TY
  by_cases hz : f 0 = 0
  · have E := Z0.out 0 (by omega) hz
    subst E
    rw [hz]
    go_wp2
    go_ret
    exact ⟨rfl, B2.out⟩
  have hz1 : ((f 0 : Int) == 0) = false := by rw [beq_eq_false_iff_ne]; omega
  have HZ : Hid (f 0 ≠ 0) := hz
  go_wp2
  go_loopw [4] (fun i wr => ∃ k' : Nat, 1 ≤ k' ∧ k' ≤ n3 ∧ i = .int .i64 k' ∧ Hid (∀ i, i < k' → f i = f 0) ∧ Hid (Below w.heap.size w wr) ∧ Hid (BoxAt 175 wr w.heap.size #[.int .i64 kd, .int .i64 lo, .int .i64 hi, .int .i64 ab, .bool T.leaf, .slice a1 n1 q1, .slice a2 n2 q2, .slice a3 n3 q3, .slice a4 n4 q4]))
    (fun i _ => n3 - (intOf i).toNat)
  case atStart => exact ⟨1, by omega, by omega, rfl, fun i hi => by rw [show i = 0 by omega], B2, S2⟩
  case round =>
    clear B2 S2 k0
    obtain ⟨k', hk1, hkl, rfl, ALL, BB, SS⟩ := hrel
    have k0 := SS.out.cells
    by_cases hlt : k' < n3
    · have hfk := KL.out k'
      go_wp2_with fail
      refine Calls.mono (KD.out k' _ hlt BB.out) ?_
      rintro e w3 ⟨y3, rfl, ty3, hb3⟩
      have B3 : Hid (Below w.heap.size w w3) := Below.and BB.out hb3
      have S3 : Hid (BoxAt 175 w3 w.heap.size #[.int .i64 kd, .int .i64 lo, .int .i64 hi, .int .i64 ab, .bool T.leaf, .slice a1 n1 q1, .slice a2 n2 q2, .slice a3 n3 q3, .slice a4 n4 q4]) := SS.out.step hb3
      have TY : Hid (TreeAt n w3 y3 (kidT T k')) := ty3.below hb3
      clear hb3 ty3
      go_wp2_with fail
      refine Calls.mono (DP.out k' y3 w3 TY.out) ?_
      rintro e w4 ⟨rfl, hb4⟩
      have B4 : Hid (Below w.heap.size w w4) := Below.and B3.out hb4
      have S4 : Hid (BoxAt 175 w4 w.heap.size #[.int .i64 kd, .int .i64 lo, .int .i64 hi, .int .i64 ab, .bool T.leaf, .slice a1 n1 q1, .slice a2 n2 q2, .slice a3 n3 q3, .slice a4 n4 q4]) := S3.out.step hb4
      clear hb4 TY S3 B3
      by_cases he : f k' = f 0
      · have he1 : ((f k' : Int) != (f 0 : Int)) = false := by rw [bne_eq_false_iff_eq]; omega
        have HE : Hid (f k' = f 0) := he
        clear he
        go_wp2
        go_roundw
        case rel => exact ⟨k' + 1, by omega, by omega, by go_num, fun i hi => if h : i < k' then ALL.out i h else by rw [show i = k' by omega]; exact HE.out, B4, S4⟩
        case measure => simp [intOf]; omega
      · have he1 : ((f k' : Int) != (f 0 : Int)) = true := by rw [bne_iff_ne]; omega
        have E := Z1.out k' hlt he
        subst E
        go_wp2
        go_ret
        exact ⟨rfl, B4.out⟩
    · have E := Y1.out HZ.out (fun i hi => ALL.out i (by omega))
      subst E
      go_wp2
      go_ret
      exact ⟨ret_int (by omega), BB.out⟩

theorem leaf_pairs {T : Tr} {lo hi : Int} (hb : T.cuts.length = 0 ∧ T.kids.length = 0 ∧ T.buf.length = 0) : leafOkB T lo hi = pairsOkB T lo hi := by
  rw [leafOkB, pairsOkB, decide_eq_true (p := T.cuts.length + T.kids.length + T.buf.length = 0) (by omega)]
  cases mapOkB T.pairs <;> cases decide (T.pairs.length ≤ 4) <;> rfl
theorem fork_parts {T : Tr} {lo hi : Int} (hb : T.pairs.length = 0) : forkOkB T lo hi = (cutsOk2B T lo hi && bufOk2B T lo hi) := by
  rw [forkOkB, shapeB, cutsOk2B, bufOk2B, decide_eq_true hb]
  cases decide (2 ≤ T.kids.length ∧ T.kids.length ≤ 4) <;> cases decide (T.cuts.length + 1 = T.kids.length) <;> cases decide (T.buf.length ≤ 6) <;> cases bufOkB T lo hi <;> cases cutsOkB T lo hi <;> rfl
theorem cutsOk2_shape {T : Tr} {lo hi : Int} (h : cutsOk2B T lo hi = true) : (2 ≤ T.kids.length ∧ T.kids.length ≤ 4) ∧ T.cuts.length + 1 = T.kids.length := by
  rw [cutsOk2B] at h
  simp only [Bool.and_eq_true, decide_eq_true_eq] at h
  exact ⟨h.1, h.2.1⟩

set_option maxHeartbeats 2000000 in
theorem depth_of {m : Nat} (hm : m ≤ 6) (H : DepthI m) : DepthI (m + 1) := by
  intro n x T lo hi w ht
  cases n with
  | zero => exact ht.elim
  | succ n =>
  have PO : Hid (∀ w0, Below w.heap.size w w0 → Calls Try.prog 130 #[placedV (kindN T) lo hi (7 - ((m + 1 : Nat) : Int)) x] w0 fun e w' => e = .returned (.bool (pairsOkB T lo hi)) ∧ Below w0.heap.size w0 w') := fun w0 hb => pairsOk_any (n + 1) x T _ lo hi _ w0 (ht.below hb)
  have CO : Hid (∀ w0, Below w.heap.size w w0 → Calls Try.prog 131 #[placedV (kindN T) lo hi (7 - ((m + 1 : Nat) : Int)) x] w0 fun e w' => e = .returned (.bool (cutsOk2B T lo hi)) ∧ Below w0.heap.size w0 w') := fun w0 hb => cutsOk_any (n + 1) x T _ lo hi _ w0 (ht.below hb)
  have BO : Hid (∀ w0, Below w.heap.size w w0 → Calls Try.prog 132 #[placedV (kindN T) lo hi (7 - ((m + 1 : Nat) : Int)) x] w0 fun e w' => e = .returned (.bool (bufOk2B T lo hi)) ∧ Below w0.heap.size w0 w') := fun w0 hb => bufOk_any (n + 1) x T _ lo hi _ w0 (ht.below hb)
  have DK : Hid (∀ w0, Below w.heap.size w w0 → cutsOk2B T lo hi = true → Calls Try.prog 133 #[placedV (kindN T) lo hi (7 - ((m + 1 : Nat) : Int)) x] w0 fun e w' => e = .returned (.int .i64 (kidsD (kidF m T lo hi) T.kids.length : Nat)) ∧ Below w0.heap.size w0 w') := fun w0 hb hc => depthByKids_of hm H n x T _ lo hi w0 (ht.below hb) (cutsOk2_shape hc).1.1 (cutsOk2_shape hc).1.2 (cutsOk2_shape hc).2
  have hab : ¬ (7 ≤ 7 - ((m + 1 : Nat) : Int)) := by omega
  have hab1 : decide (7 ≤ 7 - ((m + 1 : Nat) : Int)) = false := decide_eq_false hab
  have TD : Hid (∀ kd w0, Calls Try.prog 129 #[placeV kd lo hi (7 - ((m + 1 : Nat) : Int))] w0 fun e w' => e = .returned (.bool false) ∧ Below w0.heap.size w0 w') := fun kd w0 => by
    have := tooDeep_any kd lo hi (7 - ((m + 1 : Nat) : Int)) w0
    rw [hab1] at this
    exact this
  clear hab hab1
  have D1 : Hid (T.leaf = true → depthF (m + 1) T lo hi = if leafOkB T lo hi = true then 1 else 0) := depthF_leaf
  have D2 : Hid (T.leaf = false → forkOkB T lo hi = false → depthF (m + 1) T lo hi = 0) := depthF_no
  have D3 : Hid (T.leaf = false → forkOkB T lo hi = true → depthF (m + 1) T lo hi = kidsD (kidF m T lo hi) T.kids.length) := depthF_fork
  generalize depthF (m + 1) T lo hi = R at *
  generalize (7 - ((m + 1 : Nat) : Int)) = ab at *
  obtain ⟨lf, p, c, k, b⟩ := x
  have B0 : Hid _ := bel_new w (.cells #[.int .i64 (kindN T), .int .i64 lo, .int .i64 hi, .int .i64 ab, .bool lf, p, c, k, b] 175)
  have S0 : Hid (BoxAt 175 _ w.heap.size _) := BoxAt.start 175 w #[.int .i64 (kindN T), .int .i64 lo, .int .i64 hi, .int .i64 ab, .bool lf, p, c, k, b]
  show Calls Try.prog 126 #[.agg #[.int .i64 (kindN T), .int .i64 lo, .int .i64 hi, .int .i64 ab, .bool lf, p, c, k, b]] w _
  have K : (T.leaf = true ∧ (T.cuts.length = 0 ∧ T.kids.length = 0 ∧ T.buf.length = 0) ∧ kindN T = 1) ∨ (T.leaf = true ∧ ¬ (T.cuts.length = 0 ∧ T.kids.length = 0 ∧ T.buf.length = 0) ∧ kindN T = 0) ∨ (T.leaf = false ∧ T.pairs.length = 0 ∧ kindN T = 2) ∨ (T.leaf = false ∧ ¬ T.pairs.length = 0 ∧ kindN T = 0) := by
    cases hlf : T.leaf
    · by_cases hp : T.pairs.length = 0
      · exact Or.inr (Or.inr (Or.inl ⟨rfl, hp, kindN_fork hlf hp⟩))
      · exact Or.inr (Or.inr (Or.inr ⟨rfl, hp, kindN_fork_no hlf hp⟩))
    · by_cases hp : T.cuts.length = 0 ∧ T.kids.length = 0 ∧ T.buf.length = 0
      · exact Or.inl ⟨rfl, hp, kindN_leaf hlf hp⟩
      · exact Or.inr (Or.inl ⟨rfl, hp, kindN_leaf_no hlf hp⟩)
  clear ht H
  rcases K with ⟨hlf, hb, hkd⟩ | ⟨hlf, hb, hkd⟩ | ⟨hlf, hb, hkd⟩ | ⟨hlf, hb, hkd⟩
  · have E := D1.out hlf
    rw [leaf_pairs hb] at E
    rw [hkd] at PO B0 S0 ⊢
    clear D1 D2 D3 CO BO DK hb hlf hkd
    generalize pairsOkB T lo hi = PB at *
    cases PB with
    | false =>
      simp only [Bool.false_eq_true, if_false] at E
      subst E
      go_enter Try.func126, Try.ntmps126
      go_wp2_with fail
      refine Calls.mono (TD.out _ _) ?_
      rintro e w1 ⟨rfl, hb1⟩
      have B1 : Hid (Below w.heap.size w w1) := Below.and B0.out hb1
      have S1 : Hid (BoxAt 175 w1 w.heap.size _) := S0.out.step hb1
      have k0 := S1.out.cells
      clear hb1
      go_wp2_with fail
      refine Calls.mono (PO.out _ B1.out) ?_
      rintro e w2 ⟨rfl, hb2⟩
      have B2 : Hid (Below w.heap.size w w2) := Below.and B1.out hb2
      have j0 := (S1.out.step hb2).cells
      clear hb2
      go_wp2
      go_ret
      exact ⟨rfl, B2.out⟩
    | true =>
      simp only [if_true] at E
      subst E
      go_enter Try.func126, Try.ntmps126
      go_wp2_with fail
      refine Calls.mono (TD.out _ _) ?_
      rintro e w1 ⟨rfl, hb1⟩
      have B1 : Hid (Below w.heap.size w w1) := Below.and B0.out hb1
      have S1 : Hid (BoxAt 175 w1 w.heap.size _) := S0.out.step hb1
      have k0 := S1.out.cells
      clear hb1
      go_wp2_with fail
      refine Calls.mono (PO.out _ B1.out) ?_
      rintro e w2 ⟨rfl, hb2⟩
      have B2 : Hid (Below w.heap.size w w2) := Below.and B1.out hb2
      have j0 := (S1.out.step hb2).cells
      clear hb2
      go_wp2
      go_ret
      exact ⟨rfl, B2.out⟩
  · have E := D1.out hlf
    rw [leaf_no3 (by omega)] at E
    simp only [Bool.false_eq_true, if_false] at E
    subst E
    rw [hkd] at B0 S0 ⊢
    clear D1 D2 D3 PO CO BO DK hb hlf hkd
    go_enter Try.func126, Try.ntmps126
    go_wp2_with fail
    refine Calls.mono (TD.out _ _) ?_
    rintro e w1 ⟨rfl, hb1⟩
    have B1 : Hid (Below w.heap.size w w1) := Below.and B0.out hb1
    have S1 : Hid (BoxAt 175 w1 w.heap.size _) := S0.out.step hb1
    have k0 := S1.out.cells
    clear hb1
    go_wp2
    go_ret
    exact ⟨rfl, B1.out⟩
  · have E2 := D2.out hlf
    have E3 := D3.out hlf
    rw [fork_parts hb] at E2 E3
    rw [hkd] at CO BO DK B0 S0 ⊢
    clear D1 D2 D3 PO hb hlf hkd
    generalize kidsD (kidF m T lo hi) T.kids.length = Q at *
    generalize cutsOk2B T lo hi = CB at *
    generalize bufOk2B T lo hi = BB at *
    cases CB with
    | false =>
      have E := E2 rfl
      subst E
      clear E2 E3
      go_enter Try.func126, Try.ntmps126
      go_wp2_with fail
      refine Calls.mono (TD.out _ _) ?_
      rintro e w1 ⟨rfl, hb1⟩
      have B1 : Hid (Below w.heap.size w w1) := Below.and B0.out hb1
      have S1 : Hid (BoxAt 175 w1 w.heap.size _) := S0.out.step hb1
      have k0 := S1.out.cells
      clear hb1
      go_wp2_with fail
      refine Calls.mono (CO.out _ B1.out) ?_
      rintro e w2 ⟨rfl, hb2⟩
      have B2 : Hid (Below w.heap.size w w2) := Below.and B1.out hb2
      have j0 := (S1.out.step hb2).cells
      clear hb2
      go_wp2
      go_ret
      exact ⟨rfl, B2.out⟩
    | true =>
      cases BB with
      | false =>
        have E := E2 rfl
        subst E
        clear E2 E3
        go_enter Try.func126, Try.ntmps126
        go_wp2_with fail
        refine Calls.mono (TD.out _ _) ?_
        rintro e w1 ⟨rfl, hb1⟩
        have B1 : Hid (Below w.heap.size w w1) := Below.and B0.out hb1
        have S1 : Hid (BoxAt 175 w1 w.heap.size _) := S0.out.step hb1
        have k0 := S1.out.cells
        clear hb1
        go_wp2_with fail
        refine Calls.mono (CO.out _ B1.out) ?_
        rintro e w2 ⟨rfl, hb2⟩
        have B2 : Hid (Below w.heap.size w w2) := Below.and B1.out hb2
        have j0 := (S1.out.step hb2).cells
        clear hb2
        go_wp2_with fail
        refine Calls.mono (BO.out _ B2.out) ?_
        rintro e w3 ⟨rfl, hb3⟩
        have B3 : Hid (Below w.heap.size w w3) := Below.and B2.out hb3
        clear hb3
        go_wp2
        go_ret
        exact ⟨rfl, B3.out⟩
      | true =>
        have E := E3 rfl
        subst E
        clear E2 E3
        go_enter Try.func126, Try.ntmps126
        go_wp2_with fail
        refine Calls.mono (TD.out _ _) ?_
        rintro e w1 ⟨rfl, hb1⟩
        have B1 : Hid (Below w.heap.size w w1) := Below.and B0.out hb1
        have S1 : Hid (BoxAt 175 w1 w.heap.size _) := S0.out.step hb1
        have k0 := S1.out.cells
        clear hb1
        go_wp2_with fail
        refine Calls.mono (CO.out _ B1.out) ?_
        rintro e w2 ⟨rfl, hb2⟩
        have B2 : Hid (Below w.heap.size w w2) := Below.and B1.out hb2
        have S2 : Hid (BoxAt 175 w2 w.heap.size _) := S1.out.step hb2
        have j0 := S2.out.cells
        clear hb2
        go_wp2_with fail
        refine Calls.mono (BO.out _ B2.out) ?_
        rintro e w3 ⟨rfl, hb3⟩
        have B3 : Hid (Below w.heap.size w w3) := Below.and B2.out hb3
        have i0 := (S2.out.step hb3).cells
        clear hb3
        go_wp2_with fail
        refine Calls.mono (DK.out _ B3.out trivial) ?_
        rintro e w4 ⟨rfl, hb4⟩
        have B4 : Hid (Below w.heap.size w w4) := Below.and B3.out hb4
        clear hb4
        go_wp2
        go_ret
        exact ⟨rfl, B4.out⟩
  · have E := D2.out hlf (fork_no_shape (shape_no1 hb))
    subst E
    rw [hkd] at B0 S0 ⊢
    clear D1 D2 D3 PO CO BO DK hb hlf hkd
    go_enter Try.func126, Try.ntmps126
    go_wp2_with fail
    refine Calls.mono (TD.out _ _) ?_
    rintro e w1 ⟨rfl, hb1⟩
    have B1 : Hid (Below w.heap.size w w1) := Below.and B0.out hb1
    have S1 : Hid (BoxAt 175 w1 w.heap.size _) := S0.out.step hb1
    have k0 := S1.out.cells
    clear hb1
    go_wp2
    go_ret
    exact ⟨rfl, B1.out⟩

set_option maxHeartbeats 400000 in
theorem depth_zero : DepthI 0 := by
  intro n x T lo hi w ht
  have E : depthF 0 T lo hi = 0 := rfl
  rw [E]
  have TD : Hid (∀ kd w0, Calls Try.prog 129 #[placeV kd lo hi 7] w0 fun e w' => e = .returned (.bool true) ∧ Below w0.heap.size w0 w') := fun kd w0 => tooDeep_any kd lo hi 7 w0
  obtain ⟨lf, p, c, k, b⟩ := x
  have B0 : Hid _ := bel_new w (.cells #[.int .i64 (kindN T), .int .i64 lo, .int .i64 hi, .int .i64 7, .bool lf, p, c, k, b] 175)
  show Calls Try.prog 126 #[.agg #[.int .i64 (kindN T), .int .i64 lo, .int .i64 hi, .int .i64 7, .bool lf, p, c, k, b]] w _
  clear ht
  go_enter Try.func126, Try.ntmps126
  go_wp2_with fail
  refine Calls.mono (TD.out _ _) ?_
  rintro e w1 ⟨rfl, hb1⟩
  have B1 : Hid (Below w.heap.size w w1) := Below.and B0.out hb1
  clear hb1
  go_wp2
  go_ret
  exact ⟨rfl, B1.out⟩

theorem depth_any : ∀ m, m ≤ 7 → DepthI m
  | 0, _ => depth_zero
  | m + 1, h => depth_of (by omega) (depth_any m (by omega))

end Go.Proofs.Ytmdajbbpigbdcaa

namespace Go.Proofs.Ytmdajbbpigbdcaa
open Go.RowKit

set_option maxHeartbeats 400000 in
theorem implTreeDepth_any (n : Nat) (x : TV) (T : Tr) (w : World) (ht : TreeAt n w x T) :
    Calls Try.prog 120 #[x.val] w fun e w' => e = .returned (.int .i64 (depthT T : Nat)) ∧ Below w.heap.size w w' := by
  have TT : Hid (TreeAt n w x T) := ht
  clear ht
  obtain ⟨lf, p, c, k, b⟩ := x
  have B0 : Hid _ := bel_box w #[.bool lf, p, c, k, b]
  have HR : Hid (∀ w0, Below w.heap.size w w0 → Calls Try.prog 125 #[.agg #[.bool lf, p, c, k, b]] w0 fun e w' => e = .returned (.agg #[.int .i64 (kindN T), .int .i64 0, .int .i64 1000, .int .i64 0, .bool lf, p, c, k, b]) ∧ Below w0.heap.size w0 w') := fun w0 hb => rootOf_any n ⟨lf, p, c, k, b⟩ T w0 (TT.out.below hb)
  have HD : Hid (∀ w0, Below w.heap.size w w0 → Calls Try.prog 126 #[.agg #[.int .i64 (kindN T), .int .i64 0, .int .i64 1000, .int .i64 0, .bool lf, p, c, k, b]] w0 fun e w' => e = .returned (.int .i64 (depthT T : Nat)) ∧ Below w0.heap.size w0 w') := fun w0 hb => depth_any 7 (by omega) n ⟨lf, p, c, k, b⟩ T 0 1000 w0 (TT.out.below hb)
  generalize depthT T = d at *
  generalize kindN T = kn at *
  show Calls Try.prog 120 #[.agg #[.bool lf, p, c, k, b]] w _
  go_enter Try.func120, Try.ntmps120
  go_wp2_with fail
  refine Calls.mono (HR.out _ B0.out) ?_
  rintro e w1 ⟨rfl, hb1⟩
  have B1 : Hid (Below w.heap.size w w1) := Below.and B0.out hb1
  clear hb1 B0
  go_wp2_with fail
  refine Calls.mono (HD.out _ B1.out) ?_
  rintro e w2 ⟨rfl, hb2⟩
  have B2 : Hid (Below w.heap.size w w2) := Below.and B1.out hb2
  clear hb2 B1
  go_wp2
  go_ret
  exact ⟨rfl, B2.out⟩

set_option maxHeartbeats 400000 in
theorem implTreeOk_any (n : Nat) (x : TV) (T : Tr) (w : World) (ht : TreeAt n w x T) :
    Calls Try.prog 102 #[x.val] w fun e w' => e = .returned (.bool (okT T)) ∧ Below w.heap.size w w' := by
  have TT : Hid (TreeAt n w x T) := ht
  clear ht
  obtain ⟨lf, p, c, k, b⟩ := x
  have B0 : Hid _ := bel_box w #[.bool lf, p, c, k, b]
  have HC := implTreeDepth_any n ⟨lf, p, c, k, b⟩ T _ (TT.out.below B0.out)
  have HC' : Hid _ := HC
  clear HC
  show Calls Try.prog 102 #[.agg #[.bool lf, p, c, k, b]] w _
  unfold okT
  generalize depthT T = d at *
  go_enter Try.func102, Try.ntmps102
  go_wp2_with fail
  refine Calls.mono HC'.out ?_
  rintro e w1 ⟨rfl, hb1⟩
  have B1 : Hid (Below w.heap.size w w1) := Below.and B0.out hb1
  clear hb1 B0
  go_wp2
  go_ret
  exact ⟨rfl, B1.out⟩

end Go.Proofs.Ytmdajbbpigbdcaa

namespace Go.Proofs.Ytmdajbbpigbdcaa
open Go.RowKit

/-- what was done is within its limits -/
def dokB (l : DL) (k : Nat) : Bool := inB (dC l k) 1 9 && (inB (dS l k) 1 100000 && inB (dV l k) (-1000000000) 1000000000)
theorem doneAt_ok {l : DL} {k : Nat} (h : dokB l k = false) : doneAt l k = false := by
  unfold dokB at h; unfold doneAt
  cases h1 : inB (dC l k) 1 9 <;> cases h2 : inB (dS l k) 1 100000 <;> cases h3 : inB (dV l k) (-1000000000) 1000000000 <;> simp_all
theorem dok_parts {l : DL} {k : Nat} (h : dokB l k = true) : inB (dC l k) 1 9 = true ∧ inB (dS l k) 1 100000 = true ∧ inB (dV l k) (-1000000000) 1000000000 = true := by
  unfold dokB at h; simp only [Bool.and_eq_true] at h; exact ⟨h.1, h.2.1, h.2.2⟩

set_option maxHeartbeats 1000000 in
theorem doneOk_any (c s v : Int) (h : Bool) (w : World) :
    Calls Try.prog 103 #[.agg #[.int .i64 c, .int .i64 s, .int .i64 v, .bool h]] w fun e w' => e = .returned (.bool (inB c 1 9 && (inB s 1 100000 && inB v (-1000000000) 1000000000))) ∧ Below w.heap.size w w' := by
  go_enter Try.func103, Try.ntmps103
  go_wp2_with (first | (go_at_call 104; refine (clientOk_any _ _).mono ?_; rintro e w' ⟨rfl, rfl⟩) | (go_at_call 105; refine (seqOk_any _ _).mono ?_; rintro e w' ⟨rfl, rfl⟩) | (go_at_call 121; refine (valueOk_any _ _).mono ?_; rintro e w' ⟨rfl, rfl⟩))
  all_goals (go_ret; refine ⟨ret_bool ?_, (Below.refl _ _).alloc (Nat.le_refl _) _⟩)
  all_goals simp_all

set_option maxRecDepth 100000 in
set_option maxHeartbeats 4000000 in
theorem implMachineOk_any (n : Nat) (m : MacV) (T : Tr) (l : DL) (w : World) (h : MacAt n w m T l) :
    Calls Try.prog 72 #[m.val] w fun e w' => e = .returned (.bool (machOk T l)) ∧ Below w.heap.size w w' := by
  obtain ⟨a, b, off, cap, hv, hcap, hmax, ha, hx0, hx1, hx2, hx3⟩ := h.2.dones
  obtain ⟨⟨lf, p, c, k, bf⟩, v⟩ := m
  simp only at hv
  subst hv
  unfold maxLen at hmax
  have TT : Hid (TreeAt n w ⟨lf, p, c, k, bf⟩ T) := h.1
  have N1 : Hid (MBox 33 (w.alloc (.cells #[.bool lf, p, c, k, bf, .slice a l.length cap] 33)) w.heap.size #[.bool lf, p, c, k, bf, .slice a l.length cap]) := MBox.start _ w _
  have B1 : Hid (Below w.heap.size w (w.alloc (.cells #[.bool lf, p, c, k, bf, .slice a l.length cap] 33))) := bel_nw _ _
  have c1 := N1.out.cells
  clear h
  show Calls Try.prog 72 #[.agg #[.bool lf, p, c, k, bf, .slice a l.length cap]] w _
  go_enter Try.func72, Try.ntmps72
  go_upto_region 1 with fail
  generalize w.alloc (.cells #[.bool lf, p, c, k, bf, .slice a l.length cap] 33) = W0 at *
  go_wp2_with fail
  refine (implTreeOk_any n ⟨lf, p, c, k, bf⟩ T W0 (TT.out.below B1.out)).mono ?_
  rintro e W ⟨rfl, b0⟩
  replace N1 : Hid (MBox 33 W w.heap.size #[.bool lf, p, c, k, bf, .slice a l.length cap]) := N1.out.step b0
  replace B1 : Hid (Below w.heap.size w W) := Below.and B1.out b0
  clear c1 b0
  have c1 := N1.out.cells
  cases hok : okT T with
  | false =>
    have HO : Hid (okT T = false) := hok
    clear hok
    go_wp2
    go_ret
    exact ⟨ret_bool (by unfold machOk; rw [HO.out]; rfl), B1.out⟩
  | true =>
    have HO : Hid (okT T = true) := hok
    clear hok
    go_wp2_with fail
    go_loopw [12] (fun i wr => ∃ j : Nat, j ≤ l.length ∧ i = .int .i64 j ∧ Hid (∀ i, i < j → doneAt l i = true) ∧ Hid (Below W.heap.size W wr))
      (fun i _ => l.length - (intOf i).toNat)
    case atStart => exact ⟨0, Nat.zero_le _, rfl, fun i hi => absurd hi (Nat.not_lt_zero _), Below.refl _ _⟩
    case round =>
      obtain ⟨j, hjl, rfl, ALL, hbW⟩ := hrel
      have hb : Hid (Below w.heap.size w wr) := Below.and B1.out hbW.out
      by_cases hlt : j < l.length
      · have hal := ha (by omega)
        subst hal
        have d0 : wr.cell? ⟨b, off + j * 4, none⟩ = some (.int .i64 (dC l j)) := (hb.out.cell (by exact cell_lt (hx0 j hlt))).trans (hx0 j hlt)
        have d1 : wr.cell? ⟨b, off + j * 4 + 1, none⟩ = some (.int .i64 (dS l j)) := (hb.out.cell (by exact cell_lt (hx1 j hlt))).trans (hx1 j hlt)
        have d2 : wr.cell? ⟨b, off + j * 4 + 2, none⟩ = some (.int .i64 (dV l j)) := (hb.out.cell (by exact cell_lt (hx2 j hlt))).trans (hx2 j hlt)
        have d3 : wr.cell? ⟨b, off + j * 4 + 3, none⟩ = some (.bool (dH l j)) := (hb.out.cell (by exact cell_lt (hx3 j hlt))).trans (hx3 j hlt)
        have NB : Hid (Below wr.heap.size wr (wr.alloc (.cells #[.int .i64 (dC l j), .int .i64 (dS l j), .int .i64 (dV l j), .bool (dH l j)] 109))) := bel_nw _ _
        have NX : Hid (MBox 109 (wr.alloc (.cells #[.int .i64 (dC l j), .int .i64 (dS l j), .int .i64 (dV l j), .bool (dH l j)] 109)) wr.heap.size #[.int .i64 (dC l j), .int .i64 (dS l j), .int .i64 (dV l j), .bool (dH l j)]) := MBox.start _ wr _
        clear c1
        go_upto_region 6 with fail
        generalize wr.alloc (.cells #[.int .i64 (dC l j), .int .i64 (dS l j), .int .i64 (dV l j), .bool (dH l j)] 109) = V at *
        generalize hbx : wr.heap.size = bx at *
        have e0 := NX.out.cells
        have FV : Hid (Below W.heap.size W V) := hbW.out.trans (NB.out.mono (by rw [← hbx]; exact hbW.out.size))
        have c2 := (N1.out.step FV.out).cells
        have FB : Hid (Below w.heap.size w V) := Below.and B1.out FV.out
        clear d0 d1 d2 d3
        go_wp2_with fail
        refine (doneOk_any (dC l j) (dS l j) (dV l j) (dH l j) V).mono ?_
        rintro e V2 ⟨rfl, b2⟩
        have E0 : Hid (MBox 109 V2 bx #[.int .i64 (dC l j), .int .i64 (dS l j), .int .i64 (dV l j), .bool (dH l j)]) := NX.out.step b2
        replace FV : Hid (Below W.heap.size W V2) := Below.and FV.out b2
        replace FB : Hid (Below w.heap.size w V2) := Below.and FB.out b2
        clear b2 e0 c2 NX NB
        have e0 := E0.out.cells
        have c2 := (N1.out.step FV.out).cells
        change Hid _ at hbx
        generalize hK : (inB (dC l j) 1 9 && (inB (dS l j) 1 100000 && inB (dV l j) (-1000000000) 1000000000)) = B
        cases B with
        | false =>
          have NE : Hid (donesOk l = false) := donesOk_false hlt (doneAt_ok hK)
          clear hx0 hx1 hx2 hx3 hK
          go_wp2
          go_ret
          exact ⟨ret_bool (by unfold machOk; rw [HO.out, NE.out]; rfl), FB.out⟩
        | true =>
          have DP : Hid _ := dok_parts hK
          clear hK
          cases j with
          | zero =>
            have OK : Hid (doneAt l 0 = true) := doneAt_zero DP.out.1 DP.out.2.1 DP.out.2.2
            clear hx0 hx1 hx2 hx3
            go_wp2_with fail
            go_quiet (fail)
            go_wp2
            go_roundw
            case rel => exact ⟨1, by omega, by go_num, fun i hi => by rw [show i = 0 by omega]; exact OK.out, below_drewN FV.out _⟩
            case measure => simp [intOf]; omega
          | succ j =>
            have hpos : (0 : Int) < ((j + 1 : Nat) : Int) := by omega
            have g2 : V2.cell? ⟨b, off + j * 4, none⟩ = some (.int .i64 (dC l j)) := (FB.out.cell (by exact cell_lt (hx0 j (by omega)))).trans (hx0 j (by omega))
            clear hx0 hx1 hx2 hx3
            by_cases hord : dC l j < dC l (j + 1)
            · have OK : Hid (doneAt l (j + 1) = true) := doneAt_succ DP.out.1 DP.out.2.1 DP.out.2.2 hord
              have hle : ¬ dC l (j + 1) ≤ dC l j := by omega
              have hle' : decide (dC l (j + 1) ≤ dC l j) = false := decide_eq_false hle
              go_wp2_with fail
              go_quiet (fail)
              go_wp2
              go_roundw
              case rel => exact ⟨j + 1 + 1, by omega, by go_num, fun i hi => if h : i < j + 1 then ALL.out i h else by rw [show i = j + 1 by omega]; exact OK.out, below_drewN FV.out _⟩
              case measure => simp [intOf]; omega
            · have NE : Hid (donesOk l = false) := donesOk_false hlt (doneAt_lt hord)
              have hle : dC l (j + 1) ≤ dC l j := by omega
              go_wp2_with fail
              go_quiet (fail)
              go_wp2
              go_ret
              exact ⟨ret_bool (by unfold machOk; rw [HO.out, NE.out]; rfl), below_drewN FB.out _⟩
      · have OK : Hid (donesOk l = true) := donesOk_true (fun i hi => ALL.out i (by omega))
        clear hx0 hx1 hx2 hx3
        go_wp2
        go_ret
        exact ⟨ret_bool (by unfold machOk; rw [HO.out, OK.out]; rfl), hb.out⟩

end Go.Proofs.Ytmdajbbpigbdcaa

namespace Go.Proofs.Ytmdajbbpigbdcaa
open Go.RowKit

theorem indexOk_any (x : Int) (w : World) :
    Calls Try.prog 73 #[.int .i64 x] w fun e w' => e = .returned (.bool (inB x 0 100000)) ∧ w' = w := by
  by_cases h1 : 0 ≤ x
  · by_cases h2 : x ≤ 100000
    · have E : Hid (inB x 0 100000 = true) := inB_true h1 h2
      go_enter Try.func73, Try.ntmps73
      go_wp2
      go_ret
      exact ⟨ret_bool E.out.symm, rfl⟩
    · have E : Hid (inB x 0 100000 = false) := inB_false2 h2
      go_enter Try.func73, Try.ntmps73
      go_wp2
      go_ret
      exact ⟨ret_bool E.out.symm, rfl⟩
  · have E : Hid (inB x 0 100000 = false) := inB_false1 h1
    go_enter Try.func73, Try.ntmps73
    go_wp2
    go_ret
    exact ⟨ret_bool E.out.symm, rfl⟩

end Go.Proofs.Ytmdajbbpigbdcaa

namespace Go.Proofs.Ytmdajbbpigbdcaa
open Go.RowKit

set_option maxHeartbeats 400000 in
theorem sizeOk_any (x : Int) (w : World) : Calls Try.prog 19 #[.int .i64 x] w fun e w' => e = .returned (.bool (inB x 1 5)) ∧ w' = w := by
  by_cases h1 : 1 ≤ x
  · by_cases h2 : x ≤ 5
    · have E : Hid (inB x 1 5 = true) := inB_true h1 h2
      go_enter Try.func19, Try.ntmps19
      go_wp2
      go_ret
      exact ⟨ret_bool E.out.symm, rfl⟩
    · have E : Hid (inB x 1 5 = false) := inB_false2 h2
      go_enter Try.func19, Try.ntmps19
      go_wp2
      go_ret
      exact ⟨ret_bool E.out.symm, rfl⟩
  · have E : Hid (inB x 1 5 = false) := inB_false1 h1
    go_enter Try.func19, Try.ntmps19
    go_wp2
    go_ret
    exact ⟨ret_bool E.out.symm, rfl⟩
set_option maxHeartbeats 400000 in
theorem isOneOf_any (x y : Int) (w : World) : Calls Try.prog 20 #[.int .i64 x, .int .i64 y] w fun e w' => e = .returned (.bool (inB x 0 (y - 1))) ∧ w' = w := by
  by_cases h1 : 0 ≤ x
  · by_cases h2 : x < y
    · have E : Hid (inB x 0 (y - 1) = true) := inB_true h1 (by omega)
      go_enter Try.func20, Try.ntmps20
      go_wp2
      go_ret
      exact ⟨ret_bool E.out.symm, rfl⟩
    · have E : Hid (inB x 0 (y - 1) = false) := inB_false2 (by omega)
      go_enter Try.func20, Try.ntmps20
      go_wp2
      go_ret
      exact ⟨ret_bool E.out.symm, rfl⟩
  · have E : Hid (inB x 0 (y - 1) = false) := inB_false1 h1
    go_enter Try.func20, Try.ntmps20
    go_wp2
    go_ret
    exact ⟨ret_bool E.out.symm, rfl⟩
end Go.Proofs.Ytmdajbbpigbdcaa
