/-
  Contracts of the program's chapter 2: depthByKids, depth.
  Contracts of the program's chapter 2: TreeDepth, TreeOk, countAll, TreeCount, kidAt, KidOf.
  Contracts of the program's chapter 2: kidAt, KidOf.
  What a message makes of a map, key by key; plain mathematics.
  What chapter 3 says of trees, as plain functions: what is pending of a key, what a key has; plain mathematics.
  What map a tree tells, as plain functions: kid by kid as the model says it, leaf by leaf as the program does; plain mathematics.
  Appending to a row of one's own: one element that was just laid; a whole list.
  Contracts of the program's messages behind an interface, and of its sum at the limit.
  Shrinking messages, as the model and as the program do it; plain mathematics: both come to one.
  What comes of a tree that is given messages, as plain functions; shapes and weights.
  Appending a list to a row of one's own, at a step of a region that draws its order.
-/
import Derived.Test.YtmdajbbpigbdcaaGreatOfFeed10
import Derived.Test.YtmdajbbpigbdcaaGreatOfFeed2
import Derived.Test.YtmdajbbpigbdcaaGreatOfFeed1
import Derived.Laws.AppendOwnNone
import Derived.Deep.RegionHeld3
import Derived.Deep.AppendLies
namespace Go.Proofs.YtmdajbbpigbdcaaGreat
set_option maxRecDepth 100000
set_option maxHeartbeats 8000000
section
open Go.RowKit

def DepthI (m : Nat) : Prop := ∀ (n : Nat) (x : TV) (T : Tr) (lo hi : Int) (w : World), TreeAt n w x T →
  Calls Tryz.prog 142 #[placedV (kindN T) lo hi (7 - (m : Int)) x] w fun e w' => e = .returned (.int .i64 (depthF m T lo hi : Nat)) ∧ Below w.heap.size w w'

theorem depthByKids_of {m : Nat} (hm : m ≤ 6) (H : DepthI m) (n : Nat) (x : TV) (T : Tr) (kd lo hi : Int) (w : World) (ht : TreeAt (n + 1) w x T) (hk2 : 2 ≤ T.kids.length) (hk4 : T.kids.length ≤ 4) (hcl : T.cuts.length + 1 = T.kids.length) :
  Calls Tryz.prog 152 #[placedV kd lo hi (7 - ((m + 1 : Nat) : Int)) x] w fun e w' => e = .returned (.int .i64 (kidsD (kidF m T lo hi) T.kids.length : Nat)) ∧ Below w.heap.size w w' := by
 have KD : Hid (∀ (i : Nat) (w0 : World), i < T.kids.length → Below w.heap.size w w0 → Calls Tryz.prog 157 #[placedV kd lo hi (7 - ((m + 1 : Nat) : Int)) x, .int .i64 i] w0 fun e w' => ∃ y : TV, e = .returned (placedV (kindN (kidT T i)) (fromT T lo i) (toT T hi i) (7 - (m : Int)) y) ∧ TreeAt n w0 y (kidT T i) ∧ Below w0.heap.size w0 w') := by
  intro i w0 hik hb
  have := kid_any n x T kd lo hi (7 - ((m + 1 : Nat) : Int)) i w0 (ht.below hb) hik hcl hk4 (by omega) (by omega)
  rw [show (7 - ((m + 1 : Nat) : Int)) + 1 = 7 - (m : Int) by omega] at this
  exact this
 have DP : Hid (∀ (i : Nat) (y : TV) (w0 : World), TreeAt n w0 y (kidT T i) → Calls Tryz.prog 142 #[placedV (kindN (kidT T i)) (fromT T lo i) (toT T hi i) (7 - (m : Int)) y] w0 fun e w' => e = .returned (.int .i64 (kidF m T lo hi i : Nat)) ∧ Below w0.heap.size w0 w') := fun i y w0 h => H n y (kidT T i) _ _ w0 h
 obtain ⟨a1, a2, a3, a4, q1, q2, q3, q4, rfl⟩ := ht.shape
 have KL : Hid (∀ i, kidF m T lo hi i ≤ 7) := fun i => by have := depthF_le m (kidT T i) (fromT T lo i) (toT T hi i); show depthF m (kidT T i) (fromT T lo i) (toT T hi i) ≤ 7; omega
 have Z0 : Hid (∀ i, i < T.kids.length → kidF m T lo hi i = 0 → kidsD (kidF m T lo hi) T.kids.length = 0) := fun i h1 h2 => kidsD_zero h1 h2
 have Z1 : Hid (∀ i, i < T.kids.length → kidF m T lo hi i ≠ kidF m T lo hi 0 → kidsD (kidF m T lo hi) T.kids.length = 0) := fun i h1 h2 => kidsD_ne h1 h2
 have Y1 : Hid (kidF m T lo hi 0 ≠ 0 → (∀ i, i < T.kids.length → kidF m T lo hi i = kidF m T lo hi 0) → kidsD (kidF m T lo hi) T.kids.length = kidF m T lo hi 0 + 1) := kidsD_yes
 generalize kidsD (kidF m T lo hi) T.kids.length = R at *
 generalize kidF m T lo hi = f at *
 clear ht H
 generalize T.pairs.length = n1 at *
 generalize T.cuts.length = n2 at *
 generalize T.kids.length = n3 at *
 generalize T.buf.length = n4 at *
 have ABL : Hid ((7 - ((m + 1 : Nat) : Int)) = (7 - ((m + 1 : Nat) : Int))) := rfl
 clear ABL
 generalize (7 - ((m + 1 : Nat) : Int)) = ab at *
 generalize (7 - (m : Int)) = ab1 at *
 show Calls Tryz.prog 152 #[.agg #[.int .i64 kd, .int .i64 lo, .int .i64 hi, .int .i64 ab, .bool T.leaf, .slice a1 n1 q1, .slice a2 n2 q2, .slice a3 n3 q3, .slice a4 n4 q4]] w _
 have B0 : Hid _ := bel_new w (.cells #[.int .i64 kd, .int .i64 lo, .int .i64 hi, .int .i64 ab, .bool T.leaf, .slice a1 n1 q1, .slice a2 n2 q2, .slice a3 n3 q3, .slice a4 n4 q4] 180)
 have S0 : Hid (BoxAt 180 _ w.heap.size _) := BoxAt.start 180 w #[.int .i64 kd, .int .i64 lo, .int .i64 hi, .int .i64 ab, .bool T.leaf, .slice a1 n1 q1, .slice a2 n2 q2, .slice a3 n3 q3, .slice a4 n4 q4]
 go_enter Tryz.func152, Tryz.ntmps152
 go_wp2_with fail
 refine Calls.mono (KD.out 0 _ (by omega) B0.out) ?_
 rintro e w1 ⟨y, rfl, ty, hb1⟩
 have B1 : Hid (Below w.heap.size w w1) := Below.and B0.out hb1
 have S1 := hid (S0.out.step hb1)
 have TY := hid (ty.below hb1)
 clear B0 S0 hb1 ty
 go_wp2_with fail
 refine Calls.mono (DP.out 0 y w1 TY.out) ?_
 rintro e w2 ⟨rfl, hb2⟩
 have B2 := hid (Below.and B1.out hb2)
 have S2 := hid (S1.out.step hb2)
 have k0 := S2.out.cells
 have hf0 := KL.out 0
 clear B1 S1 hb2 TY
 by_cases hz : f 0 = 0
 ·have E := Z0.out 0 (by omega) hz
  subst E
  rw [hz]
  go_wp2
  go_ret
  exact ⟨rfl, B2.out⟩
 have hz1 : ((f 0 : Int) == 0) = false := by rw [beq_eq_false_iff_ne]; omega
 have HZ : Hid (f 0 ≠ 0) := hz
 go_wp2
 go_loopw [4] (fun i wr => ∃ k' : Nat, 1 ≤ k' ∧ k' ≤ n3 ∧ i = .int .i64 k' ∧ Hid (∀ i, i < k' → f i = f 0) ∧ Hid (Below w.heap.size w wr) ∧ Hid (BoxAt 180 wr w.heap.size #[.int .i64 kd, .int .i64 lo, .int .i64 hi, .int .i64 ab, .bool T.leaf, .slice a1 n1 q1, .slice a2 n2 q2, .slice a3 n3 q3, .slice a4 n4 q4]))
  (fun i _ => n3 - (intOf i).toNat)
 case atStart => exact ⟨1, by omega, by omega, rfl, fun i hi => by rw [show i = 0 by omega], B2, S2⟩
 case round =>
  clear B2 S2 k0
  obtain ⟨k', hk1, hkl, rfl, ALL, BB, SS⟩ := hrel
  have k0 := SS.out.cells
  by_cases hlt : k' < n3
  ·have hfk := KL.out k'
   go_wp2_with fail
   refine Calls.mono (KD.out k' _ hlt BB.out) ?_
   rintro e w3 ⟨y3, rfl, ty3, hb3⟩
   have B3 := hid (Below.and BB.out hb3)
   have S3 := hid (SS.out.step hb3)
   have TY : Hid (TreeAt n w3 y3 (kidT T k')) := ty3.below hb3
   clear hb3 ty3
   go_wp2_with fail
   refine Calls.mono (DP.out k' y3 w3 TY.out) ?_
   rintro e w4 ⟨rfl, hb4⟩
   have B4 : Hid (Below w.heap.size w w4) := Below.and B3.out hb4
   have S4 : Hid (BoxAt 180 w4 w.heap.size #[.int .i64 kd, .int .i64 lo, .int .i64 hi, .int .i64 ab, .bool T.leaf, .slice a1 n1 q1, .slice a2 n2 q2, .slice a3 n3 q3, .slice a4 n4 q4]) := S3.out.step hb4
   clear hb4 TY S3 B3
   by_cases he : f k' = f 0
   ·have he1 : ((f k' : Int) != (f 0 : Int)) = false := by rw [bne_eq_false_iff_eq]; omega
    have HE : Hid (f k' = f 0) := he
    clear he
    go_wp2
    go_roundw
    case rel => exact ⟨k' + 1, by omega, by omega, by go_num, fun i hi => if h : i < k' then ALL.out i h else by rw [show i = k' by omega]; exact HE.out, B4, S4⟩
    case measure => simp [intOf]; omega
   ·have he1 : ((f k' : Int) != (f 0 : Int)) = true := by rw [bne_iff_ne]; omega
    have E := Z1.out k' hlt he
    subst E
    go_wp2
    go_ret
    exact ⟨rfl, B4.out⟩
  ·have E := Y1.out HZ.out (fun i hi => ALL.out i (by omega))
   subst E
   go_wp2
   go_ret
   exact ⟨ret_int (by omega), BB.out⟩

theorem leaf_pairs {T : Tr} {lo hi : Int} (hb : T.cuts.length = 0 ∧ T.kids.length = 0 ∧ T.buf.length = 0) : leafOkB T lo hi = pairsOkB T lo hi := by
 rw [leafOkB, pairsOkB, decide_eq_true (p := T.cuts.length + T.kids.length + T.buf.length = 0) (by omega)]
 cases mapOkB T.pairs <;> cases decide (T.pairs.length ≤ 4) <;> rfl
theorem fork_parts {T : Tr} {lo hi : Int} (hb : T.pairs.length = 0) : forkOkB T lo hi = (cutsOk2B T lo hi && bufOk2B T lo hi) := by
 rw [forkOkB, shapeB, cutsOk2B, bufOk2B, decide_eq_true hb]
 cases decide (2 ≤ T.kids.length ∧ T.kids.length ≤ 4) <;> cases decide (T.cuts.length + 1 = T.kids.length) <;> cases decide (T.buf.length ≤ 6) <;> cases bufOkB T lo hi <;> cases cutsOkB T lo hi <;> rfl
theorem cutsOk2_shape {T : Tr} {lo hi : Int} (h : cutsOk2B T lo hi = true) : (2 ≤ T.kids.length ∧ T.kids.length ≤ 4) ∧ T.cuts.length + 1 = T.kids.length := by
 rw [cutsOk2B] at h
 simp only [Bool.and_eq_true, decide_eq_true_eq] at h
 exact ⟨h.1, h.2.1⟩

theorem depth_of {m : Nat} (hm : m ≤ 6) (H : DepthI m) : DepthI (m + 1) := by
 intro n x T lo hi w ht
 cases n with
 | zero => exact ht.elim
 | succ n =>
 have PO : Hid (∀ w0, Below w.heap.size w w0 → Calls Tryz.prog 149 #[placedV (kindN T) lo hi (7 - ((m + 1 : Nat) : Int)) x] w0 fun e w' => e = .returned (.bool (pairsOkB T lo hi)) ∧ Below w0.heap.size w0 w') := fun w0 hb => pairsOk_any (n + 1) x T _ lo hi _ w0 (ht.below hb)
 have CO : Hid (∀ w0, Below w.heap.size w w0 → Calls Tryz.prog 150 #[placedV (kindN T) lo hi (7 - ((m + 1 : Nat) : Int)) x] w0 fun e w' => e = .returned (.bool (cutsOk2B T lo hi)) ∧ Below w0.heap.size w0 w') := fun w0 hb => cutsOk_any (n + 1) x T _ lo hi _ w0 (ht.below hb)
 have BO : Hid (∀ w0, Below w.heap.size w w0 → Calls Tryz.prog 151 #[placedV (kindN T) lo hi (7 - ((m + 1 : Nat) : Int)) x] w0 fun e w' => e = .returned (.bool (bufOk2B T lo hi)) ∧ Below w0.heap.size w0 w') := fun w0 hb => bufOk_any (n + 1) x T _ lo hi _ w0 (ht.below hb)
 have DK : Hid (∀ w0, Below w.heap.size w w0 → cutsOk2B T lo hi = true → Calls Tryz.prog 152 #[placedV (kindN T) lo hi (7 - ((m + 1 : Nat) : Int)) x] w0 fun e w' => e = .returned (.int .i64 (kidsD (kidF m T lo hi) T.kids.length : Nat)) ∧ Below w0.heap.size w0 w') := fun w0 hb hc => depthByKids_of hm H n x T _ lo hi w0 (ht.below hb) (cutsOk2_shape hc).1.1 (cutsOk2_shape hc).1.2 (cutsOk2_shape hc).2
 have hab : ¬ (7 ≤ 7 - ((m + 1 : Nat) : Int)) := by omega
 have hab1 : decide (7 ≤ 7 - ((m + 1 : Nat) : Int)) = false := decide_eq_false hab
 have TD : Hid (∀ kd w0, Calls Tryz.prog 148 #[placeV kd lo hi (7 - ((m + 1 : Nat) : Int))] w0 fun e w' => e = .returned (.bool false) ∧ Below w0.heap.size w0 w') := fun kd w0 => by
  have := tooDeep_any kd lo hi (7 - ((m + 1 : Nat) : Int)) w0
  rw [hab1] at this
  exact this
 clear hab hab1
 have D1 : Hid (T.leaf = true → depthF (m + 1) T lo hi = if leafOkB T lo hi = true then 1 else 0) := depthF_leaf
 have D2 : Hid (T.leaf = false → forkOkB T lo hi = false → depthF (m + 1) T lo hi = 0) := depthF_no
 have D3 : Hid (T.leaf = false → forkOkB T lo hi = true → depthF (m + 1) T lo hi = kidsD (kidF m T lo hi) T.kids.length) := depthF_fork
 generalize depthF (m + 1) T lo hi = R at *
 generalize (7 - ((m + 1 : Nat) : Int)) = ab at *
 obtain ⟨lf, p, c, k, b⟩ := x
 have B0 : Hid _ := bel_new w (.cells #[.int .i64 (kindN T), .int .i64 lo, .int .i64 hi, .int .i64 ab, .bool lf, p, c, k, b] 180)
 have S0 : Hid (BoxAt 180 _ w.heap.size _) := BoxAt.start 180 w #[.int .i64 (kindN T), .int .i64 lo, .int .i64 hi, .int .i64 ab, .bool lf, p, c, k, b]
 show Calls Tryz.prog 142 #[.agg #[.int .i64 (kindN T), .int .i64 lo, .int .i64 hi, .int .i64 ab, .bool lf, p, c, k, b]] w _
 have K : (T.leaf = true ∧ (T.cuts.length = 0 ∧ T.kids.length = 0 ∧ T.buf.length = 0) ∧ kindN T = 1) ∨ (T.leaf = true ∧ ¬ (T.cuts.length = 0 ∧ T.kids.length = 0 ∧ T.buf.length = 0) ∧ kindN T = 0) ∨ (T.leaf = false ∧ T.pairs.length = 0 ∧ kindN T = 2) ∨ (T.leaf = false ∧ ¬ T.pairs.length = 0 ∧ kindN T = 0) := by
  cases hlf : T.leaf
  ·by_cases hp : T.pairs.length = 0
   ·exact Or.inr (Or.inr (Or.inl ⟨rfl, hp, kindN_fork hlf hp⟩))
   ·exact Or.inr (Or.inr (Or.inr ⟨rfl, hp, kindN_fork_no hlf hp⟩))
  ·by_cases hp : T.cuts.length = 0 ∧ T.kids.length = 0 ∧ T.buf.length = 0
   ·exact Or.inl ⟨rfl, hp, kindN_leaf hlf hp⟩
   ·exact Or.inr (Or.inl ⟨rfl, hp, kindN_leaf_no hlf hp⟩)
 clear ht H
 rcases K with ⟨hlf, hb, hkd⟩ | ⟨hlf, hb, hkd⟩ | ⟨hlf, hb, hkd⟩ | ⟨hlf, hb, hkd⟩
 ·have E := D1.out hlf
  rw [leaf_pairs hb] at E
  rw [hkd] at PO B0 S0 ⊢
  clear D1 D2 D3 CO BO DK hb hlf hkd
  generalize pairsOkB T lo hi = PB at *
  cases PB with
  | false =>
   simp only [Bool.false_eq_true, if_false] at E
   subst E
   go_enter Tryz.func142, Tryz.ntmps142
   go_wp2_with fail
   refine Calls.mono (TD.out _ _) ?_
   rintro e w1 ⟨rfl, hb1⟩
   have B1 : Hid (Below w.heap.size w w1) := Below.and B0.out hb1
   have S1 := hid (S0.out.step hb1)
   have k0 := S1.out.cells
   clear hb1
   go_wp2_with fail
   refine Calls.mono (PO.out _ B1.out) ?_
   rintro e w2 ⟨rfl, hb2⟩
   have B2 := hid (Below.and B1.out hb2)
   have j0 := (S1.out.step hb2).cells
   clear hb2
   go_wp2
   go_ret
   exact ⟨rfl, B2.out⟩
  | true =>
   simp only [if_true] at E
   subst E
   go_enter Tryz.func142, Tryz.ntmps142
   go_wp2_with fail
   refine Calls.mono (TD.out _ _) ?_
   rintro e w1 ⟨rfl, hb1⟩
   have B1 := hid (Below.and B0.out hb1)
   have S1 := hid (S0.out.step hb1)
   have k0 := S1.out.cells
   clear hb1
   go_wp2_with fail
   refine Calls.mono (PO.out _ B1.out) ?_
   rintro e w2 ⟨rfl, hb2⟩
   have B2 := hid (Below.and B1.out hb2)
   have j0 := (S1.out.step hb2).cells
   clear hb2
   go_wp2
   go_ret
   exact ⟨rfl, B2.out⟩
 ·have E := D1.out hlf
  rw [leaf_no3 (by omega)] at E
  simp only [Bool.false_eq_true, if_false] at E
  subst E
  rw [hkd] at B0 S0 ⊢
  clear D1 D2 D3 PO CO BO DK hb hlf hkd
  go_enter Tryz.func142, Tryz.ntmps142
  go_wp2_with fail
  refine Calls.mono (TD.out _ _) ?_
  rintro e w1 ⟨rfl, hb1⟩
  have B1 := hid (Below.and B0.out hb1)
  have S1 := hid (S0.out.step hb1)
  have k0 := S1.out.cells
  clear hb1
  go_wp2
  go_ret
  exact ⟨rfl, B1.out⟩
 ·have E2 := D2.out hlf
  have E3 := D3.out hlf
  rw [fork_parts hb] at E2 E3
  rw [hkd] at CO BO DK B0 S0 ⊢
  clear D1 D2 D3 PO hb hlf hkd
  generalize kidsD (kidF m T lo hi) T.kids.length = Q at *
  generalize cutsOk2B T lo hi = CB at *
  generalize bufOk2B T lo hi = BB at *
  cases CB with
  | false =>
   have E := E2 rfl
   subst E
   clear E2 E3
   go_enter Tryz.func142, Tryz.ntmps142
   go_wp2_with fail
   refine Calls.mono (TD.out _ _) ?_
   rintro e w1 ⟨rfl, hb1⟩
   have B1 := hid (Below.and B0.out hb1)
   have S1 := hid (S0.out.step hb1)
   have k0 := S1.out.cells
   clear hb1
   go_wp2_with fail
   refine Calls.mono (CO.out _ B1.out) ?_
   rintro e w2 ⟨rfl, hb2⟩
   have B2 := hid (Below.and B1.out hb2)
   have j0 := (S1.out.step hb2).cells
   clear hb2
   go_wp2
   go_ret
   exact ⟨rfl, B2.out⟩
  | true =>
   cases BB with
   | false =>
    have E := E2 rfl
    subst E
    clear E2 E3
    go_enter Tryz.func142, Tryz.ntmps142
    go_wp2_with fail
    refine Calls.mono (TD.out _ _) ?_
    rintro e w1 ⟨rfl, hb1⟩
    have B1 := hid (Below.and B0.out hb1)
    have S1 := hid (S0.out.step hb1)
    have k0 := S1.out.cells
    clear hb1
    go_wp2_with fail
    refine Calls.mono (CO.out _ B1.out) ?_
    rintro e w2 ⟨rfl, hb2⟩
    have B2 := hid (Below.and B1.out hb2)
    have j0 := (S1.out.step hb2).cells
    clear hb2
    go_wp2_with fail
    refine Calls.mono (BO.out _ B2.out) ?_
    rintro e w3 ⟨rfl, hb3⟩
    have B3 := hid (Below.and B2.out hb3)
    clear hb3
    go_wp2
    go_ret
    exact ⟨rfl, B3.out⟩
   | true =>
    have E := E3 rfl
    subst E
    clear E2 E3
    go_enter Tryz.func142, Tryz.ntmps142
    go_wp2_with fail
    refine Calls.mono (TD.out _ _) ?_
    rintro e w1 ⟨rfl, hb1⟩
    have B1 := hid (Below.and B0.out hb1)
    have S1 := hid (S0.out.step hb1)
    have k0 := S1.out.cells
    clear hb1
    go_wp2_with fail
    refine Calls.mono (CO.out _ B1.out) ?_
    rintro e w2 ⟨rfl, hb2⟩
    have B2 := hid (Below.and B1.out hb2)
    have S2 := hid (S1.out.step hb2)
    have j0 := S2.out.cells
    clear hb2
    go_wp2_with fail
    refine Calls.mono (BO.out _ B2.out) ?_
    rintro e w3 ⟨rfl, hb3⟩
    have B3 := hid (Below.and B2.out hb3)
    have i0 := (S2.out.step hb3).cells
    clear hb3
    go_wp2_with fail
    refine Calls.mono (DK.out _ B3.out trivial) ?_
    rintro e w4 ⟨rfl, hb4⟩
    have B4 := hid (Below.and B3.out hb4)
    clear hb4
    go_wp2
    go_ret
    exact ⟨rfl, B4.out⟩
 ·have E := D2.out hlf (fork_no_shape (shape_no1 hb))
  subst E
  rw [hkd] at B0 S0 ⊢
  clear D1 D2 D3 PO CO BO DK hb hlf hkd
  go_enter Tryz.func142, Tryz.ntmps142
  go_wp2_with fail
  refine Calls.mono (TD.out _ _) ?_
  rintro e w1 ⟨rfl, hb1⟩
  have B1 := hid (Below.and B0.out hb1)
  have S1 := hid (S0.out.step hb1)
  have k0 := S1.out.cells
  clear hb1
  go_wp2
  go_ret
  exact ⟨rfl, B1.out⟩

theorem depth_zero : DepthI 0 := by
 intro n x T lo hi w ht
 have E : depthF 0 T lo hi = 0 := rfl
 rw [E]
 have TD := hid (fun kd w0 => tooDeep_any kd lo hi 7 w0)
 obtain ⟨lf, p, c, k, b⟩ := x
 have B0 : Hid _ := bel_new w (.cells #[.int .i64 (kindN T), .int .i64 lo, .int .i64 hi, .int .i64 7, .bool lf, p, c, k, b] 180)
 show Calls Tryz.prog 142 #[.agg #[.int .i64 (kindN T), .int .i64 lo, .int .i64 hi, .int .i64 7, .bool lf, p, c, k, b]] w _
 clear ht
 go_enter Tryz.func142, Tryz.ntmps142
 go_wp2_with fail
 refine Calls.mono (TD.out _ _) ?_
 rintro e w1 ⟨rfl, hb1⟩
 have B1 := hid (Below.and B0.out hb1)
 clear hb1
 go_wp2
 go_ret
 exact ⟨rfl, B1.out⟩

theorem depth_any : ∀ m, m ≤ 7 → DepthI m
 | 0, _ => depth_zero
 | m + 1, h => depth_of (by omega) (depth_any m (by omega))
end
section
open Go.RowKit

theorem implTreeDepth_any (n : Nat) (x : TV) (T : Tr) (w : World) (ht : TreeAt n w x T) :
  Calls Tryz.prog 130 #[x.val] w fun e w' => e = .returned (.int .i64 (depthT T : Nat)) ∧ Below w.heap.size w w' := by
 have TT := hid (ht)
 clear ht
 obtain ⟨lf, p, c, k, b⟩ := x
 have B0 : Hid _ := bel_box w #[.bool lf, p, c, k, b]
 have HR := hid (fun w0 (hb : Below w.heap.size w w0) => rootOf_any n ⟨lf, p, c, k, b⟩ T w0 (TT.out.below hb))
 have HD : Hid (∀ w0, Below w.heap.size w w0 → Calls Tryz.prog 142 #[.agg #[.int .i64 (kindN T), .int .i64 0, .int .i64 1000, .int .i64 0, .bool lf, p, c, k, b]] w0 fun e w' => e = .returned (.int .i64 (depthT T : Nat)) ∧ Below w0.heap.size w0 w') := fun w0 hb => depth_any 7 (by omega) n ⟨lf, p, c, k, b⟩ T 0 1000 w0 (TT.out.below hb)
 generalize depthT T = d at *
 generalize kindN T = kn at *
 show Calls Tryz.prog 130 #[.agg #[.bool lf, p, c, k, b]] w _
 go_enter Tryz.func130, Tryz.ntmps130
 go_wp2_with fail
 refine Calls.mono (HR.out _ B0.out) ?_
 rintro e w1 ⟨rfl, hb1⟩
 have B1 : Hid (Below w.heap.size w w1) := Below.and B0.out hb1
 clear hb1 B0
 go_wp2_with fail
 refine Calls.mono (HD.out _ B1.out) ?_
 rintro e w2 ⟨rfl, hb2⟩
 have B2 := hid (Below.and B1.out hb2)
 clear hb2 B1
 go_wp2
 go_ret
 exact ⟨rfl, B2.out⟩

theorem implTreeOk_any (n : Nat) (x : TV) (T : Tr) (w : World) (ht : TreeAt n w x T) :
  Calls Tryz.prog 103 #[x.val] w fun e w' => e = .returned (.bool (okT T)) ∧ Below w.heap.size w w' := by
 have TT := hid (ht)
 clear ht
 obtain ⟨lf, p, c, k, b⟩ := x
 have B0 : Hid _ := bel_box w #[.bool lf, p, c, k, b]
 have HC := implTreeDepth_any n ⟨lf, p, c, k, b⟩ T _ (TT.out.below B0.out)
 have HC' : Hid _ := HC
 clear HC
 show Calls Tryz.prog 103 #[.agg #[.bool lf, p, c, k, b]] w _
 unfold okT
 generalize depthT T = d at *
 go_enter Tryz.func103, Tryz.ntmps103
 go_wp2_with fail
 refine Calls.mono HC'.out ?_
 rintro e w1 ⟨rfl, hb1⟩
 have B1 := hid (Below.and B0.out hb1)
 clear hb1 B0
 go_wp2
 go_ret
 exact ⟨rfl, B1.out⟩
end
section
open Go.RowKit

def cntK (l : List Int) (k : Int) : Nat → Nat
 | 0 => 0
 | n + 1 => cntK l k n + (if iAt l n ≤ k then 1 else 0)
end
section

end
section
def ofK (ms : ML) (k : Int) : ML := ms.filter fun m => decide (m.2.1 = k)
def kidK (T : Tr) (k : Int) : Tr := kidT T (prefK T.cuts k)
def leafF : Nat → Tr → Int → Tr
 | 0, T, _ => T
 | n + 1, T, k => if T.leaf = true then T else leafF n (kidK T k) k
def pendF : Nat → Tr → Int → ML
 | 0, _, _ => []
 | n + 1, T, k => if T.leaf = true then [] else pendF n (kidK T k) k ++ ofK T.buf k
def updV (x : Int × Bool) (m : Int × Int × Int) : Int × Bool :=
 if msgOkB m.1 m.2.1 m.2.2 = true then (if m.1 = 1 then (m.2.2, true) else if m.1 = 2 then (0, false) else if m.1 = 3 then (clampI (x.1 + m.2.2), true) else x) else x
def updA (x : Int × Bool) (ms : ML) : Int × Bool := ms.foldl updV x
def valF (n : Nat) (T : Tr) (k : Int) : Int × Bool := updA (getP (leafF n T k).pairs k) (pendF n T k)

def oneP (l : PL) (k : Int) : PL := if (getP l k).2 = true then [(k, (getP l k).1)] else []
end
section
def KeysIn (lo hi : Int) (l : PL) : Prop := ∀ p ∈ l, lo ≤ p.1 ∧ p.1 < hi
def Chain : Int → Int → List Int → List PL → Prop
 | lo, hi, [], [M] => MapP M ∧ KeysIn lo hi M
 | lo, hi, c :: cs, M :: Ms => (MapP M ∧ KeysIn lo c M) ∧ lo < c ∧ c < hi ∧ Chain c hi cs Ms
 | _, _, _, _ => False
def frC (cs : List Int) (lo : Int) (i : Nat) : Int := if i = 0 then lo else iAt cs (i - 1)
def toC (cs : List Int) (hi : Int) (i : Nat) : Int := if i < cs.length then iAt cs i else hi
def mapF : Nat → Tr → PL
 | 0, _ => []
 | n + 1, T => allL (T.pairs ++ (T.kids.map (mapF n)).flatten) T.buf
def mineK (cs : List Int) (i : Nat) (ms : ML) : ML := ms.filter fun m => decide (cntK cs m.2.1 cs.length = i)
def toldF : Nat → Tr → ML → PL
 | 0, _, _ => []
 | n + 1, T, ab => if T.leaf = true then allL T.pairs ab else ((List.range T.kids.length).map fun i => toldF n (kidT T i) (mineK T.cuts i (T.buf ++ ab))).flatten

def rangeL (l : PL) (lo hi : Int) : PL := l.filter fun p => decide (lo ≤ p.1 ∧ p.1 < hi)
end
section
open Go.RowKit

theorem chg_of_grown {w w' : World} {r : Option Nat} (h : w.grownBy w' r) : Chg (fun g => r = some g) w w' :=
 ⟨h.os, h.tape, h.output, h.size, fun k hk hn => h.block k hk (fun e => hn e.symm)⟩
theorem flatP_one (l : List (Int × Int)) : ∀ y ∈ flatP l, y.oneCell' = true := by
 induction l with
 | nil => intro y hy; simp [flatP] at hy
 | cons p l ih =>
  intro y hy
  rw [show flatP (p :: l) = .int .i64 p.1 :: .int .i64 p.2 :: flatP l from rfl] at hy
  rcases List.mem_cons.1 hy with rfl | hy
  ·rfl
  ·rcases List.mem_cons.1 hy with rfl | hy
   ·rfl
   ·exact ih y hy
theorem room_of {n bytes : Nat} (h : n ≤ 8388608) (hb : bytes ≤ 256) : n + 1 ≤ maxLen ∧ (n + 1) * bytes ≤ 140737488355328 := by
 refine ⟨by unfold maxLen; omega, ?_⟩
 have : (n + 1) * bytes ≤ (n + 1) * 256 := Nat.mul_le_mul_left _ hb
 omega
end
section
open Go.RowKit

def okM (m : Int × Int × Int) : Bool := msgOkB m.1 m.2.1 m.2.2
def okMs (ms : ML) : ML := ms.filter okM
end
section
def rulB (m : Int × Int × Int) : Bool := (m.1 == 1) || (m.1 == 2)
def ruledB (l : ML) (k : Int) : Bool := l.any fun m => (m.2.1 == k) && rulB m
def overB (l : ML) (k : Int) : Bool := l.any fun m => okM m && ((m.2.1 == k) && rulB m)
def keptF : ML → ML
 | [] => []
 | m :: l => if okM m = true ∧ m.1 ≠ 4 ∧ overB l m.2.1 = false then m :: keptF l else keptF l
def firstI : ML → Int → Int
 | [], _ => -1
 | m :: l, k => if m.2.1 = k then 0 else if firstI l k < 0 then -1 else firstI l k + 1
def joinsB (A : ML) (m : Int × Int × Int) : Bool := decide (0 ≤ firstI A m.2.1) && ((mO A (firstI A m.2.1).toNat == 1) && (m.1 == 3))
def stepS (A : ML) (m : Int × Int × Int) : ML :=
 if joinsB A m = true then A.set (firstI A m.2.1).toNat (mO A (firstI A m.2.1).toNat, mK A (firstI A m.2.1).toNat, clampI (mV A (firstI A m.2.1).toNat + m.2.2)) else A ++ [m]
def shrinkF (ms : ML) : ML := (keptF ms).foldl stepS []

def wgF (l : ML) : ML := l.filter fun m => m.1 != 4
def woF : ML → ML
 | [] => []
 | m :: l => if ruledB l m.2.1 = true then woF l else m :: woF l
def stepJ (s : ML × PL) (m : Int × Int × Int) : ML × PL :=
 if m.1 = 1 then (s.1 ++ [m], putF s.2 m.2.1 s.1.length)
 else if m.1 = 3 ∧ (getP s.2 m.2.1).2 = true then (s.1.set (getP s.2 m.2.1).1.toNat (1, m.2.1, clampI (mV s.1 (getP s.2 m.2.1).1.toNat + m.2.2)), s.2)
 else (s.1 ++ [m], s.2)
def joinF (l : ML) : ML := (l.foldl stepJ ([], [])).1

def NoRul (l : ML) : Prop := l.Pairwise fun a b => a.2.1 = b.2.1 → rulB b = false
structure Side (A : ML) (P : PL) : Prop where
 asc : Asc P
 has : ∀ k, (getP P k).2 = true → ∃ n : Nat, (getP P k).1 = n ∧ firstI A k = n ∧ n < A.length ∧ mO A n = 1
 hasnt : ∀ k, (getP P k).2 = false → 0 ≤ firstI A k → mO A (firstI A k).toNat ≠ 1

def okN (m : Int × Int × Int) : Prop := okM m = true ∧ m.1 ≠ 4
end
section
open Go.RowKit

abbrev TM := List Tr × List Int

def mineF (cs : List Int) (i : Nat) (b : ML) : ML := b.filter fun m => decide (prefK cs m.2.1 = i)
def restF (cs : List Int) (i : Nat) (b : ML) : ML := b.filter fun m => !decide (prefK cs m.2.1 = i)
def mineSum (cs : List Int) (b : ML) : Nat → Nat
 | 0 => 0
 | k + 1 => mineSum cs b k + (mineF cs k b).length
def mostTo (cs : List Int) (b : ML) : Nat → Nat × Int
 | 0 => (0, -1)
 | k + 1 => if (mostTo cs b k).2 < ((mineF cs k b).length : Int) then (k, ((mineF cs k b).length : Int)) else mostTo cs b k
def manyN (r : Nat) : Nat := if r = 3 then 3 else 2
def leafT (ps : PL) : Tr := ⟨true, ps, [], [], []⟩
def lfTF (ps : PL) : Nat → Nat → List Tr
 | 0, _ => []
 | f + 1, i => if i < ps.length then leafT ((ps.drop i).take (manyN (ps.length - i))) :: lfTF ps f (i + manyN (ps.length - i)) else []
def lfCF (ps : PL) : Nat → Nat → List Int
 | 0, _ => []
 | f + 1, i => if i < ps.length then (if 0 < i then [kOf ps i] else []) ++ lfCF ps f (i + manyN (ps.length - i)) else []
def lfT (ps : PL) (i : Nat) : List Tr := lfTF ps (ps.length - i) i
def lfC (ps : PL) (i : Nat) : List Int := lfCF ps (ps.length - i) i
def leafM (ps : PL) : TM := if ps.length ≤ 4 then ([leafT ps], []) else (lfT ps 0, lfC ps 0)

def packT (m : TM) (i : Nat) : Tr := ⟨false, [], (m.2.drop i).take (manyN (m.1.length - i) - 1), (m.1.drop i).take (manyN (m.1.length - i)), []⟩
def pkTF (m : TM) : Nat → Nat → List Tr
 | 0, _ => []
 | f + 1, i => if i < m.1.length then packT m i :: pkTF m f (i + manyN (m.1.length - i)) else []
def pkCF (m : TM) : Nat → Nat → List Int
 | 0, _ => []
 | f + 1, i => if i < m.1.length then (if 0 < i then [iAt m.2 (i - 1)] else []) ++ pkCF m f (i + manyN (m.1.length - i)) else []
def pkT (m : TM) (i : Nat) : List Tr := pkTF m (m.1.length - i) i
def pkC (m : TM) (i : Nat) : List Int := pkCF m (m.1.length - i) i
def packM (m : TM) : TM := (pkT m 0, pkC m 0)

def putM (m : TM) (i : Nat) (x : TM) : TM := (m.1.take i ++ x.1 ++ m.1.drop (i + 1), m.2.take i ++ x.2 ++ m.2.drop i)

def sideT (f : Nat → TM) : Nat → List Tr
 | 0 => []
 | k + 1 => sideT f k ++ (f k).1
def sideC (f : Nat → TM) (cs : List Int) : Nat → List Int
 | 0 => []
 | k + 1 => (sideC f cs k ++ if 0 < k then [iAt cs (k - 1)] else []) ++ (f k).2
def kidM (g : Tr → ML → TM) (m : TM) (b : ML) (i : Nat) : TM := if 0 < (mineF m.2 i b).length then g (m.1.getD i noTr) (mineF m.2 i b) else ([m.1.getD i noTr], [])
def downM (g : Tr → ML → TM) (m : TM) (b : ML) : TM := (sideT (kidM g m b) m.1.length, sideC (kidM g m b) m.2 m.1.length)

def loopM (g : Tr → ML → TM) : Nat → TM → ML → TM × ML
 | 0, m, b => (m, b)
 | f + 1, m, b => if 6 < b.length then loopM g f (putM m (mostTo m.2 b m.1.length).1 (g (m.1.getD (mostTo m.2 b m.1.length).1 noTr) (mineF m.2 (mostTo m.2 b m.1.length).1 b))) (restF m.2 (mostTo m.2 b m.1.length).1 b) else (m, b)

def endM (g : Tr → ML → TM) (r : TM × ML) : TM := if 4 < r.1.1.length then packM (downM g r.1 r.2) else ([⟨false, [], r.1.2, r.1.1, r.2⟩], [])
def giveM : Nat → Tr → ML → TM
 | 0, T, _ => ([T], [])
 | d + 1, T, ms => if T.leaf = true then leafM (allL T.pairs ms) else
   endM (giveM d) (loopM (giveM d) (shrinkF (T.buf ++ ms)).length (T.kids, T.cuts) (shrinkF (T.buf ++ ms)))

def rootM : Nat → TM → Tr
 | 0, m => m.1.getD 0 noTr
 | f + 1, m => if 4 < m.1.length then rootM f (packM m) else if m.1.length = 1 then m.1.getD 0 noTr else ⟨false, [], m.2, m.1, []⟩

def bothM (f : Nat → TM) (m : TM) : TM := (sideT f m.1.length, sideC f m.2 m.1.length)
def endD (o : TM) : TM := if 4 < o.1.length then packM o else ([⟨false, [], o.2, o.1, []⟩], [])
def drainM : Nat → Tr → TM
 | 0, T => ([T], [])
 | d + 1, T => if T.leaf = true then ([T], []) else
   endD (bothM (fun i => drainM d ((downM (giveM d) (T.kids, T.cuts) T.buf).1.getD i noTr)) (downM (giveM d) (T.kids, T.cuts) T.buf))

def shT : Nat → Tr → Prop
 | 0, _ => False
 | d + 1, T => (T.leaf = true ∧ d = 0 ∧ T.pairs.length ≤ 4 ∧ T.cuts = [] ∧ T.kids = [] ∧ T.buf = []) ∨
   (T.leaf = false ∧ T.pairs = [] ∧ 2 ≤ T.kids.length ∧ T.kids.length ≤ 4 ∧ T.cuts.length + 1 = T.kids.length ∧ T.buf.length ≤ 6 ∧ ∀ t ∈ T.kids, shT d t)
def wt : Nat → Tr → Nat
 | 0, _ => 0
 | d + 1, T => if T.leaf = true then 1 else (T.kids.map (wt d)).sum + T.buf.length
def wtL (d : Nat) (ts : List Tr) : Nat := (ts.map (wt d)).sum
def MOk (d : Nat) (m : TM) : Prop := m.2.length + 1 = m.1.length ∧ ∀ t ∈ m.1, shT d t
def Keeps (d : Nat) (g : Tr → ML → TM) : Prop := ∀ T ms, shT d T → 0 < ms.length → MOk d (g T ms) ∧ wtL d (g T ms).1 ≤ wt d T + ms.length
end
section
open Go.RowKit

theorem flatM_one (l : ML) : ∀ y ∈ flatM l, y.oneCell' = true := by
 induction l with
 | nil => intro y hy; simp [flatM] at hy
 | cons p l ih =>
  intro y hy
  rw [flatM_cons] at hy
  rcases List.mem_cons.1 hy with rfl | hy
  ·rfl
  ·rcases List.mem_cons.1 hy with rfl | hy
   ·rfl
   ·rcases List.mem_cons.1 hy with rfl | hy
    ·rfl
    ·exact ih y hy
end
end Go.Proofs.YtmdajbbpigbdcaaGreat
