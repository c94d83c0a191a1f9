/-
  Nodes in memory: the laws' own functions that measure and compare them.
  What chapter 2 says of trees, as plain functions.
-/
import Derived.Test.YtnlgcolbcnhnbaaOfNodeOk4
import Derived.Test.YtnlgcolbcnhnbaaOfNodeOk6
import Derived.Test.YtnlgcolbcnhnbaaOfNodeOk3
namespace Go.Proofs.Ytnlgcolbcnhnbaa
open Go.RowKit

/-- THE CELLS OF A NODE. -/
structure NodV where
  id : Int
  te : Int
  vo : Int
  lb : Int
  lt : Int
  lv : Value
  s : MacV
  ro : Int
  vv : Value
  nv : Value
  mv : Value
  cm : Int
  o : MacV
abbrev NodV.val (N : NodV) : Value := .agg #[.int .i64 N.id, .int .i64 N.te, .int .i64 N.vo, .int .i64 N.lb, .int .i64 N.lt, N.lv, .bool N.s.x.lf, N.s.x.p, N.s.x.c, N.s.x.k, N.s.x.b, N.s.v, .int .i64 N.ro, N.vv, N.nv, N.mv, .int .i64 N.cm, .bool N.o.x.lf, N.o.x.p, N.o.x.c, N.o.x.k, N.o.x.b, N.o.v]
/-- WHAT ITS LISTS HOLD. -/
structure Nd where
  l : EL
  T1 : Tr
  d1 : DL
  vs : List Bool
  nx : List Int
  mt : List Int
  T2 : Tr
  d2 : DL
/-- this node lies there -/
def NodAt (n : Nat) (w : World) (N : NodV) (D : Nd) : Prop :=
  Row w N.lv D.l.length (flatE D.l) ∧ MacAt n w N.s D.T1 D.d1 ∧ Row w N.vv D.vs.length (flatL D.vs) ∧ Row w N.nv D.nx.length (flatI D.nx) ∧ Row w N.mv D.mt.length (flatI D.mt) ∧ MacAt n w N.o D.T2 D.d2
theorem NodAt.below {n : Nat} {w w' : World} {N : NodV} {D : Nd} (h : NodAt n w N D) (hb : Below w.heap.size w w') : NodAt n w' N D := ⟨h.1.below hb, h.2.1.below hb, h.2.2.1.below hb, h.2.2.2.1.below hb, h.2.2.2.2.1.below hb, h.2.2.2.2.2.below hb⟩
/-- all of it is small -/
def Nd.small (n : Nat) (D : Nd) : Prop := D.l.length ≤ 1048576 ∧ sizeT n D.T1 ≤ 1048576 ∧ D.d1.length ≤ 1048576 ∧ D.vs.length ≤ 1048576 ∧ D.nx.length ≤ 1048576 ∧ D.mt.length ≤ 1048576 ∧ sizeT n D.T2 ≤ 1048576 ∧ D.d2.length ≤ 1048576

set_option maxHeartbeats 400000 in
theorem szBoolS_any (a : Option Addr) (n cap : Nat) (left : Int) (hn : n ≤ maxLen) (hl : 0 ≤ left) (hl2 : left ≤ 1048576) (w : World) :
    Calls Try.prog 16 #[.slice a n cap, .int .i64 left] w fun e w' => e = .returned (.int .i64 (if (n : Int) ≤ left then left - n else -1)) ∧ w' = w := by
  unfold maxLen at hn
  by_cases h : (n : Int) ≤ left
  · go_enter Try.func16, Try.ntmps16
    go_wp2
    go_ret
    exact ⟨rfl, rfl⟩
  · go_enter Try.func16, Try.ntmps16
    go_wp2
    go_ret
    exact ⟨rfl, rfl⟩
/-- what a measure leaves: less than nothing, or what it took away -/
def Took (m : Nat) (left r : Int) : Prop := r = -1 ∨ (0 ≤ r ∧ r ≤ left ∧ (m : Int) ≤ left)
theorem took_if {m : Nat} {left : Int} (_h : 0 ≤ left) : Took m left (if (m : Int) ≤ left then left - m else -1) := by
  unfold Took
  split
  · right; omega
  · left; rfl
theorem took_leftOf {m : Nat} {left : Int} (h : 0 ≤ left) : Took m left (leftOf left m) := took_if h

set_option maxRecDepth 100000 in
set_option maxHeartbeats 2000000 in
theorem szNode_any (n : Nat) (N : NodV) (D : Nd) (left : Int) (w : World) (h : NodAt n w N D) (h0 : 0 ≤ left) (h1 : left ≤ 1048576) :
    Calls Try.prog 5 #[N.val, .int .i64 left] w fun e w' => ∃ r : Int, e = .returned (.int .i64 r) ∧ (¬ r < 0 → D.small n) ∧ Below w.heap.size w w' := by
  obtain ⟨id, te, vo, lb, lt, lv, ⟨⟨sl, sp, sc, sk, sb⟩, sv⟩, ro, vv, nv, mv, cm, ⟨⟨ol, op, oc, ok, ob⟩, ov⟩⟩ := N
  obtain ⟨q1, q2, q3, q4, q5, q6⟩ := h
  obtain ⟨av, cv, hvv, hlv⟩ := q3.len
  obtain ⟨an, cn, hnv, hln⟩ := q4.len
  obtain ⟨am, cq, hmv, hlm⟩ := q5.len
  simp only at hvv hnv hmv
  subst hvv hnv hmv
  have S1 : Hid (∀ u (L : Int), Below w.heap.size w u → 0 ≤ L → L ≤ 1048576 → Calls Try.prog 14 #[lgV lb lt lv, .int .i64 L] u fun e w' => ∃ r : Int, e = .returned (.int .i64 r) ∧ Took D.l.length L r ∧ Below u.heap.size u w') := fun u L hu a b => (szLog_any lb lt lv D.l L u (q1.below hu) a b).mono (fun e w' ⟨he, hb⟩ => ⟨_, he, took_if a, hb⟩)
  have S2 : Hid (∀ u (L : Int), Below w.heap.size w u → 0 ≤ L → L ≤ 1048576 → Calls Try.prog 15 #[.agg #[.bool sl, sp, sc, sk, sb, sv], .int .i64 L] u fun e w' => ∃ r : Int, e = .returned (.int .i64 r) ∧ Took (sizeT n D.T1 + D.d1.length) L r ∧ Below u.heap.size u w') := fun u L hu a b => (szMachine_any n ⟨⟨sl, sp, sc, sk, sb⟩, sv⟩ D.T1 D.d1 L u (q2.below hu) a b).mono (fun e w' ⟨he, hb⟩ => ⟨_, he, took_leftOf a, hb⟩)
  have S3 : Hid (∀ u (L : Int), 0 ≤ L → L ≤ 1048576 → Calls Try.prog 16 #[.slice av D.vs.length cv, .int .i64 L] u fun e w' => ∃ r : Int, e = .returned (.int .i64 r) ∧ Took D.vs.length L r ∧ w' = u) := fun u L a b => (szBoolS_any av _ cv L hlv a b u).mono (fun e w' ⟨he, hb⟩ => ⟨_, he, took_if a, hb⟩)
  have S4 : Hid (∀ u (L : Int), 0 ≤ L → L ≤ 1048576 → Calls Try.prog 17 #[.slice an D.nx.length cn, .int .i64 L] u fun e w' => ∃ r : Int, e = .returned (.int .i64 r) ∧ Took D.nx.length L r ∧ w' = u) := fun u L a b => (szIntS_any an _ cn L hln a b u).mono (fun e w' ⟨he, hb⟩ => ⟨_, he, took_if a, hb⟩)
  have S5 : Hid (∀ u (L : Int), 0 ≤ L → L ≤ 1048576 → Calls Try.prog 17 #[.slice am D.mt.length cq, .int .i64 L] u fun e w' => ∃ r : Int, e = .returned (.int .i64 r) ∧ Took D.mt.length L r ∧ w' = u) := fun u L a b => (szIntS_any am _ cq L hlm a b u).mono (fun e w' ⟨he, hb⟩ => ⟨_, he, took_if a, hb⟩)
  have S6 : Hid (∀ u (L : Int), Below w.heap.size w u → 0 ≤ L → L ≤ 1048576 → Calls Try.prog 15 #[.agg #[.bool ol, op, oc, ok, ob, ov], .int .i64 L] u fun e w' => ∃ r : Int, e = .returned (.int .i64 r) ∧ Took (sizeT n D.T2 + D.d2.length) L r ∧ Below u.heap.size u w') := fun u L hu a b => (szMachine_any n ⟨⟨ol, op, oc, ok, ob⟩, ov⟩ D.T2 D.d2 L u (q6.below hu) a b).mono (fun e w' ⟨he, hb⟩ => ⟨_, he, took_leftOf a, hb⟩)
  have FIN : Hid (∀ r1 r2 r3 r4 r5 r6 : Int, Took D.l.length left r1 → 0 ≤ r1 → Took (sizeT n D.T1 + D.d1.length) r1 r2 → 0 ≤ r2 → Took D.vs.length r2 r3 → 0 ≤ r3 → Took D.nx.length r3 r4 → 0 ≤ r4 → Took D.mt.length r4 r5 → 0 ≤ r5 → Took (sizeT n D.T2 + D.d2.length) r5 r6 → 0 ≤ r6 → D.small n) := fun r1 r2 r3 r4 r5 r6 t1 k1 t2 k2 t3 k3 t4 k4 t5 k5 t6 k6 => by
    unfold Took at t1 t2 t3 t4 t5 t6
    exact ⟨by omega, by omega, by omega, by omega, by omega, by omega, by omega, by omega⟩
  generalize D.small n = SM at *
  generalize D.l.length = n1 at *
  generalize sizeT n D.T1 + D.d1.length = n2 at *
  generalize D.vs.length = nB at *
  generalize D.nx.length = nN at *
  generalize D.mt.length = nM at *
  generalize sizeT n D.T2 + D.d2.length = n6 at *
  clear q1 q2 q3 q4 q5 q6 hlv hln hlm
  have N1 : Hid (MBox 36 (w.alloc (.cells #[.int .i64 id, .int .i64 te, .int .i64 vo, .int .i64 lb, .int .i64 lt, lv, .bool sl, sp, sc, sk, sb, sv, .int .i64 ro, .slice av nB cv, .slice an nN cn, .slice am nM cq, .int .i64 cm, .bool ol, op, oc, ok, ob, ov] 36)) w.heap.size #[.int .i64 id, .int .i64 te, .int .i64 vo, .int .i64 lb, .int .i64 lt, lv, .bool sl, sp, sc, sk, sb, sv, .int .i64 ro, .slice av nB cv, .slice an nN cn, .slice am nM cq, .int .i64 cm, .bool ol, op, oc, ok, ob, ov]) := MBox.start _ w _
  have B1 : Hid (Below w.heap.size w (w.alloc (.cells #[.int .i64 id, .int .i64 te, .int .i64 vo, .int .i64 lb, .int .i64 lt, lv, .bool sl, sp, sc, sk, sb, sv, .int .i64 ro, .slice av nB cv, .slice an nN cn, .slice am nM cq, .int .i64 cm, .bool ol, op, oc, ok, ob, ov] 36))) := bel_nw _ _
  have c1 := N1.out.cells
  show Calls Try.prog 5 #[.agg #[.int .i64 id, .int .i64 te, .int .i64 vo, .int .i64 lb, .int .i64 lt, lv, .bool sl, sp, sc, sk, sb, sv, .int .i64 ro, .slice av nB cv, .slice an nN cn, .slice am nM cq, .int .i64 cm, .bool ol, op, oc, ok, ob, ov], .int .i64 left] w _
  go_enter Try.func5, Try.ntmps5
  go_wp2_with fail
  generalize w.alloc (.cells #[.int .i64 id, .int .i64 te, .int .i64 vo, .int .i64 lb, .int .i64 lt, lv, .bool sl, sp, sc, sk, sb, sv, .int .i64 ro, .slice av nB cv, .slice an nN cn, .slice am nM cq, .int .i64 cm, .bool ol, op, oc, ok, ob, ov] 36) = W at *
  refine (S1.out _ left B1.out (by omega) (by omega)).mono ?_
  rintro e w1 ⟨r1, rfl, t1, b1⟩
  replace B1 : Hid (Below w.heap.size w w1) := Below.and B1.out b1
  replace N1 : Hid (MBox 36 w1 w.heap.size #[.int .i64 id, .int .i64 te, .int .i64 vo, .int .i64 lb, .int .i64 lt, lv, .bool sl, sp, sc, sk, sb, sv, .int .i64 ro, .slice av nB cv, .slice an nN cn, .slice am nM cq, .int .i64 cm, .bool ol, op, oc, ok, ob, ov]) := N1.out.step b1
  clear b1 c1
  have c1 := N1.out.cells
  have T1 : Hid _ := t1
  have u1 : r1 ≤ 1048576 := by unfold Took at t1; omega
  clear t1
  by_cases p1 : r1 < 0
  · go_wp2
    go_ret
    exact ⟨_, rfl, fun h => by omega, B1.out⟩
  go_wp2_with fail
  refine (S2.out _ r1 B1.out (by omega) (by omega)).mono ?_
  rintro e w2 ⟨r2, rfl, t2, b2⟩
  replace B1 : Hid (Below w.heap.size w w2) := Below.and B1.out b2
  replace N1 : Hid (MBox 36 w2 w.heap.size #[.int .i64 id, .int .i64 te, .int .i64 vo, .int .i64 lb, .int .i64 lt, lv, .bool sl, sp, sc, sk, sb, sv, .int .i64 ro, .slice av nB cv, .slice an nN cn, .slice am nM cq, .int .i64 cm, .bool ol, op, oc, ok, ob, ov]) := N1.out.step b2
  clear b2 c1
  have c1 := N1.out.cells
  have T2 : Hid _ := t2
  have u2 : r2 ≤ 1048576 := by unfold Took at t2; omega
  clear t2
  by_cases p2 : r2 < 0
  · go_wp2
    go_ret
    exact ⟨_, rfl, fun h => by omega, B1.out⟩
  go_wp2_with fail
  refine (S3.out _ r2 (by omega) (by omega)).mono ?_
  rintro e w3 ⟨r3, rfl, t3, b3⟩
  subst b3
  have T3 : Hid _ := t3
  have u3 : r3 ≤ 1048576 := by unfold Took at t3; omega
  clear t3
  by_cases p3 : r3 < 0
  · go_wp2
    go_ret
    exact ⟨_, rfl, fun h => by omega, B1.out⟩
  go_wp2_with fail
  refine (S4.out _ r3 (by omega) (by omega)).mono ?_
  rintro e w4 ⟨r4, rfl, t4, b4⟩
  subst b4
  have T4 : Hid _ := t4
  have u4 : r4 ≤ 1048576 := by unfold Took at t4; omega
  clear t4
  by_cases p4 : r4 < 0
  · go_wp2
    go_ret
    exact ⟨_, rfl, fun h => by omega, B1.out⟩
  go_wp2_with fail
  refine (S5.out _ r4 (by omega) (by omega)).mono ?_
  rintro e w5 ⟨r5, rfl, t5, b5⟩
  subst b5
  have T5 : Hid _ := t5
  have u5 : r5 ≤ 1048576 := by unfold Took at t5; omega
  clear t5
  by_cases p5 : r5 < 0
  · go_wp2
    go_ret
    exact ⟨_, rfl, fun h => by omega, B1.out⟩
  go_wp2_with fail
  refine (S6.out _ r5 B1.out (by omega) (by omega)).mono ?_
  rintro e w6 ⟨r6, rfl, t6, b6⟩
  replace B1 : Hid (Below w.heap.size w w6) := Below.and B1.out b6
  replace N1 : Hid (MBox 36 w6 w.heap.size #[.int .i64 id, .int .i64 te, .int .i64 vo, .int .i64 lb, .int .i64 lt, lv, .bool sl, sp, sc, sk, sb, sv, .int .i64 ro, .slice av nB cv, .slice an nN cn, .slice am nM cq, .int .i64 cm, .bool ol, op, oc, ok, ob, ov]) := N1.out.step b6
  clear b6 c1
  have c1 := N1.out.cells
  have T6 : Hid _ := t6
  have u6 : r6 ≤ 1048576 := by unfold Took at t6; omega
  clear t6
  by_cases p6 : r6 < 0
  · go_wp2
    go_ret
    exact ⟨_, rfl, fun h => by omega, B1.out⟩
  go_wp2
  go_ret
  exact ⟨_, rfl, fun _ => FIN.out r1 r2 r3 r4 r5 r6 T1.out (by omega) T2.out (by omega) T3.out (by omega) T4.out (by omega) T5.out (by omega) T6.out (by omega), B1.out⟩

/-- two nodes that hold the same numbers -/
def NodV.like (N M : NodV) : Prop := N.id = M.id ∧ N.te = M.te ∧ N.vo = M.vo ∧ N.lb = M.lb ∧ N.lt = M.lt ∧ N.ro = M.ro ∧ N.cm = M.cm
set_option maxRecDepth 100000 in
set_option maxHeartbeats 2000000 in
theorem eqNode_any (n : Nat) (N M : NodV) (D : Nd) (w : World) (hl : N.like M) (h : NodAt n w N D) (h2 : NodAt n w M D) :
    Calls Try.prog 9 #[N.val, M.val] w fun e w' => e = .returned (.bool true) ∧ Below w.heap.size w w' := by
  obtain ⟨id1, te1, vo1, lb1, lt1, lv1, ⟨⟨sl1, sp1, sc1, sk1, sb1⟩, sv1⟩, ro1, vv1, nv1, mv1, cm1, ⟨⟨ol1, op1, oc1, ok1, ob1⟩, ov1⟩⟩ := N
  obtain ⟨id2, te2, vo2, lb2, lt2, lv2, ⟨⟨sl2, sp2, sc2, sk2, sb2⟩, sv2⟩, ro2, vv2, nv2, mv2, cm2, ⟨⟨ol2, op2, oc2, ok2, ob2⟩, ov2⟩⟩ := M
  obtain ⟨e1, e2, e3, e4, e5, e6, e7⟩ := hl
  simp only at e1 e2 e3 e4 e5 e6 e7
  subst e1 e2 e3 e4 e5 e6 e7
  have H : Hid _ := And.intro h h2
  have K1 : Hid (∀ u, Below w.heap.size w u → Calls Try.prog 33 #[lgV lb1 lt1 lv1, lgV lb1 lt1 lv2] u fun e w' => e = .returned (.bool true) ∧ Below u.heap.size u w') := fun u hu => (eqLog_any lb1 lt1 lb1 lt1 lv1 lv2 D.l D.l u (H.out.1.below hu).1 (H.out.2.below hu).1).mono (fun e w' ⟨he, hb⟩ => ⟨by rw [he]; simp, hb⟩)
  have K2 : Hid (∀ u, Below w.heap.size w u → Calls Try.prog 34 #[.agg #[.bool sl1, sp1, sc1, sk1, sb1, sv1], .agg #[.bool sl2, sp2, sc2, sk2, sb2, sv2]] u fun e w' => e = .returned (.bool true) ∧ Below u.heap.size u w') := fun u hu => eqMachine_any n ⟨⟨sl1, sp1, sc1, sk1, sb1⟩, sv1⟩ ⟨⟨sl2, sp2, sc2, sk2, sb2⟩, sv2⟩ D.T1 D.d1 u (H.out.1.below hu).2.1 (H.out.2.below hu).2.1
  have K3 : Hid (∀ u, Below w.heap.size w u → Calls Try.prog 35 #[vv1, vv2] u fun e w' => e = .returned (.bool true) ∧ Below u.heap.size u w') := fun u hu => (eqBoolS_any vv1 vv2 D.vs D.vs u (H.out.1.below hu).2.2.1 (H.out.2.below hu).2.2.1).mono (fun e w' ⟨he, hb⟩ => ⟨by rw [he]; simp, hb⟩)
  have K4 : Hid (∀ u, Below w.heap.size w u → Calls Try.prog 36 #[nv1, nv2] u fun e w' => e = .returned (.bool true) ∧ Below u.heap.size u w') := fun u hu => (eqIntS_any nv1 nv2 D.nx D.nx u (H.out.1.below hu).2.2.2.1 (H.out.2.below hu).2.2.2.1).mono (fun e w' ⟨he, hb⟩ => ⟨by rw [he]; simp, hb⟩)
  have K5 : Hid (∀ u, Below w.heap.size w u → Calls Try.prog 36 #[mv1, mv2] u fun e w' => e = .returned (.bool true) ∧ Below u.heap.size u w') := fun u hu => (eqIntS_any mv1 mv2 D.mt D.mt u (H.out.1.below hu).2.2.2.2.1 (H.out.2.below hu).2.2.2.2.1).mono (fun e w' ⟨he, hb⟩ => ⟨by rw [he]; simp, hb⟩)
  have K6 : Hid (∀ u, Below w.heap.size w u → Calls Try.prog 34 #[.agg #[.bool ol1, op1, oc1, ok1, ob1, ov1], .agg #[.bool ol2, op2, oc2, ok2, ob2, ov2]] u fun e w' => e = .returned (.bool true) ∧ Below u.heap.size u w') := fun u hu => eqMachine_any n ⟨⟨ol1, op1, oc1, ok1, ob1⟩, ov1⟩ ⟨⟨ol2, op2, oc2, ok2, ob2⟩, ov2⟩ D.T2 D.d2 u (H.out.1.below hu).2.2.2.2.2 (H.out.2.below hu).2.2.2.2.2
  have B1 : Hid (Below w.heap.size w ((w.alloc (.cells #[.int .i64 id1, .int .i64 te1, .int .i64 vo1, .int .i64 lb1, .int .i64 lt1, lv1, .bool sl1, sp1, sc1, sk1, sb1, sv1, .int .i64 ro1, vv1, nv1, mv1, .int .i64 cm1, .bool ol1, op1, oc1, ok1, ob1, ov1] 51)).alloc (.cells #[.int .i64 id1, .int .i64 te1, .int .i64 vo1, .int .i64 lb1, .int .i64 lt1, lv2, .bool sl2, sp2, sc2, sk2, sb2, sv2, .int .i64 ro1, vv2, nv2, mv2, .int .i64 cm1, .bool ol2, op2, oc2, ok2, ob2, ov2] 51))) := Below.and (bel_nw _ _) (bel_nw _ _)
  have N1 : Hid (MBox 51 ((w.alloc (.cells #[.int .i64 id1, .int .i64 te1, .int .i64 vo1, .int .i64 lb1, .int .i64 lt1, lv1, .bool sl1, sp1, sc1, sk1, sb1, sv1, .int .i64 ro1, vv1, nv1, mv1, .int .i64 cm1, .bool ol1, op1, oc1, ok1, ob1, ov1] 51)).alloc (.cells #[.int .i64 id1, .int .i64 te1, .int .i64 vo1, .int .i64 lb1, .int .i64 lt1, lv2, .bool sl2, sp2, sc2, sk2, sb2, sv2, .int .i64 ro1, vv2, nv2, mv2, .int .i64 cm1, .bool ol2, op2, oc2, ok2, ob2, ov2] 51)) w.heap.size #[.int .i64 id1, .int .i64 te1, .int .i64 vo1, .int .i64 lb1, .int .i64 lt1, lv1, .bool sl1, sp1, sc1, sk1, sb1, sv1, .int .i64 ro1, vv1, nv1, mv1, .int .i64 cm1, .bool ol1, op1, oc1, ok1, ob1, ov1]) := (MBox.start _ w _).step (bel_nw _ _)
  have N2 : Hid (MBox 51 ((w.alloc (.cells #[.int .i64 id1, .int .i64 te1, .int .i64 vo1, .int .i64 lb1, .int .i64 lt1, lv1, .bool sl1, sp1, sc1, sk1, sb1, sv1, .int .i64 ro1, vv1, nv1, mv1, .int .i64 cm1, .bool ol1, op1, oc1, ok1, ob1, ov1] 51)).alloc (.cells #[.int .i64 id1, .int .i64 te1, .int .i64 vo1, .int .i64 lb1, .int .i64 lt1, lv2, .bool sl2, sp2, sc2, sk2, sb2, sv2, .int .i64 ro1, vv2, nv2, mv2, .int .i64 cm1, .bool ol2, op2, oc2, ok2, ob2, ov2] 51)) (w.heap.size + 1) #[.int .i64 id1, .int .i64 te1, .int .i64 vo1, .int .i64 lb1, .int .i64 lt1, lv2, .bool sl2, sp2, sc2, sk2, sb2, sv2, .int .i64 ro1, vv2, nv2, mv2, .int .i64 cm1, .bool ol2, op2, oc2, ok2, ob2, ov2]) := by
    have := MBox.start 51 (w.alloc (.cells #[.int .i64 id1, .int .i64 te1, .int .i64 vo1, .int .i64 lb1, .int .i64 lt1, lv1, .bool sl1, sp1, sc1, sk1, sb1, sv1, .int .i64 ro1, vv1, nv1, mv1, .int .i64 cm1, .bool ol1, op1, oc1, ok1, ob1, ov1] 51)) #[.int .i64 id1, .int .i64 te1, .int .i64 vo1, .int .i64 lb1, .int .i64 lt1, lv2, .bool sl2, sp2, sc2, sk2, sb2, sv2, .int .i64 ro1, vv2, nv2, mv2, .int .i64 cm1, .bool ol2, op2, oc2, ok2, ob2, ov2]
    rw [World.size_alloc] at this
    exact this
  have c1 := N1.out.cells
  have d1 := N2.out.cells
  clear h h2 H
  show Calls Try.prog 9 #[.agg #[.int .i64 id1, .int .i64 te1, .int .i64 vo1, .int .i64 lb1, .int .i64 lt1, lv1, .bool sl1, sp1, sc1, sk1, sb1, sv1, .int .i64 ro1, vv1, nv1, mv1, .int .i64 cm1, .bool ol1, op1, oc1, ok1, ob1, ov1], .agg #[.int .i64 id1, .int .i64 te1, .int .i64 vo1, .int .i64 lb1, .int .i64 lt1, lv2, .bool sl2, sp2, sc2, sk2, sb2, sv2, .int .i64 ro1, vv2, nv2, mv2, .int .i64 cm1, .bool ol2, op2, oc2, ok2, ob2, ov2]] w _
  go_enter Try.func9, Try.ntmps9
  go_wp2_with fail
  generalize ((w.alloc (.cells #[.int .i64 id1, .int .i64 te1, .int .i64 vo1, .int .i64 lb1, .int .i64 lt1, lv1, .bool sl1, sp1, sc1, sk1, sb1, sv1, .int .i64 ro1, vv1, nv1, mv1, .int .i64 cm1, .bool ol1, op1, oc1, ok1, ob1, ov1] 51)).alloc (.cells #[.int .i64 id1, .int .i64 te1, .int .i64 vo1, .int .i64 lb1, .int .i64 lt1, lv2, .bool sl2, sp2, sc2, sk2, sb2, sv2, .int .i64 ro1, vv2, nv2, mv2, .int .i64 cm1, .bool ol2, op2, oc2, ok2, ob2, ov2] 51)) = W at *
  refine (K1.out _ B1.out).mono ?_
  rintro e w1 ⟨rfl, b1⟩
  replace B1 : Hid (Below w.heap.size w w1) := Below.and B1.out b1
  replace N1 : Hid (MBox 51 w1 w.heap.size #[.int .i64 id1, .int .i64 te1, .int .i64 vo1, .int .i64 lb1, .int .i64 lt1, lv1, .bool sl1, sp1, sc1, sk1, sb1, sv1, .int .i64 ro1, vv1, nv1, mv1, .int .i64 cm1, .bool ol1, op1, oc1, ok1, ob1, ov1]) := N1.out.step b1
  replace N2 : Hid (MBox 51 w1 (w.heap.size + 1) #[.int .i64 id1, .int .i64 te1, .int .i64 vo1, .int .i64 lb1, .int .i64 lt1, lv2, .bool sl2, sp2, sc2, sk2, sb2, sv2, .int .i64 ro1, vv2, nv2, mv2, .int .i64 cm1, .bool ol2, op2, oc2, ok2, ob2, ov2]) := N2.out.step b1
  clear b1 c1 d1
  have c1 := N1.out.cells
  have d1 := N2.out.cells
  go_wp2_with fail
  refine (K2.out _ B1.out).mono ?_
  rintro e w2 ⟨rfl, b2⟩
  replace B1 : Hid (Below w.heap.size w w2) := Below.and B1.out b2
  replace N1 : Hid (MBox 51 w2 w.heap.size #[.int .i64 id1, .int .i64 te1, .int .i64 vo1, .int .i64 lb1, .int .i64 lt1, lv1, .bool sl1, sp1, sc1, sk1, sb1, sv1, .int .i64 ro1, vv1, nv1, mv1, .int .i64 cm1, .bool ol1, op1, oc1, ok1, ob1, ov1]) := N1.out.step b2
  replace N2 : Hid (MBox 51 w2 (w.heap.size + 1) #[.int .i64 id1, .int .i64 te1, .int .i64 vo1, .int .i64 lb1, .int .i64 lt1, lv2, .bool sl2, sp2, sc2, sk2, sb2, sv2, .int .i64 ro1, vv2, nv2, mv2, .int .i64 cm1, .bool ol2, op2, oc2, ok2, ob2, ov2]) := N2.out.step b2
  clear b2 c1 d1
  have c1 := N1.out.cells
  have d1 := N2.out.cells
  go_wp2_with fail
  refine (K3.out _ B1.out).mono ?_
  rintro e w3 ⟨rfl, b3⟩
  replace B1 : Hid (Below w.heap.size w w3) := Below.and B1.out b3
  replace N1 : Hid (MBox 51 w3 w.heap.size #[.int .i64 id1, .int .i64 te1, .int .i64 vo1, .int .i64 lb1, .int .i64 lt1, lv1, .bool sl1, sp1, sc1, sk1, sb1, sv1, .int .i64 ro1, vv1, nv1, mv1, .int .i64 cm1, .bool ol1, op1, oc1, ok1, ob1, ov1]) := N1.out.step b3
  replace N2 : Hid (MBox 51 w3 (w.heap.size + 1) #[.int .i64 id1, .int .i64 te1, .int .i64 vo1, .int .i64 lb1, .int .i64 lt1, lv2, .bool sl2, sp2, sc2, sk2, sb2, sv2, .int .i64 ro1, vv2, nv2, mv2, .int .i64 cm1, .bool ol2, op2, oc2, ok2, ob2, ov2]) := N2.out.step b3
  clear b3 c1 d1
  have c1 := N1.out.cells
  have d1 := N2.out.cells
  go_wp2_with fail
  refine (K4.out _ B1.out).mono ?_
  rintro e w4 ⟨rfl, b4⟩
  replace B1 : Hid (Below w.heap.size w w4) := Below.and B1.out b4
  replace N1 : Hid (MBox 51 w4 w.heap.size #[.int .i64 id1, .int .i64 te1, .int .i64 vo1, .int .i64 lb1, .int .i64 lt1, lv1, .bool sl1, sp1, sc1, sk1, sb1, sv1, .int .i64 ro1, vv1, nv1, mv1, .int .i64 cm1, .bool ol1, op1, oc1, ok1, ob1, ov1]) := N1.out.step b4
  replace N2 : Hid (MBox 51 w4 (w.heap.size + 1) #[.int .i64 id1, .int .i64 te1, .int .i64 vo1, .int .i64 lb1, .int .i64 lt1, lv2, .bool sl2, sp2, sc2, sk2, sb2, sv2, .int .i64 ro1, vv2, nv2, mv2, .int .i64 cm1, .bool ol2, op2, oc2, ok2, ob2, ov2]) := N2.out.step b4
  clear b4 c1 d1
  have c1 := N1.out.cells
  have d1 := N2.out.cells
  go_wp2_with fail
  refine (K5.out _ B1.out).mono ?_
  rintro e w5 ⟨rfl, b5⟩
  replace B1 : Hid (Below w.heap.size w w5) := Below.and B1.out b5
  replace N1 : Hid (MBox 51 w5 w.heap.size #[.int .i64 id1, .int .i64 te1, .int .i64 vo1, .int .i64 lb1, .int .i64 lt1, lv1, .bool sl1, sp1, sc1, sk1, sb1, sv1, .int .i64 ro1, vv1, nv1, mv1, .int .i64 cm1, .bool ol1, op1, oc1, ok1, ob1, ov1]) := N1.out.step b5
  replace N2 : Hid (MBox 51 w5 (w.heap.size + 1) #[.int .i64 id1, .int .i64 te1, .int .i64 vo1, .int .i64 lb1, .int .i64 lt1, lv2, .bool sl2, sp2, sc2, sk2, sb2, sv2, .int .i64 ro1, vv2, nv2, mv2, .int .i64 cm1, .bool ol2, op2, oc2, ok2, ob2, ov2]) := N2.out.step b5
  clear b5 c1 d1
  have c1 := N1.out.cells
  have d1 := N2.out.cells
  go_wp2_with fail
  refine (K6.out _ B1.out).mono ?_
  rintro e w6 ⟨rfl, b6⟩
  replace B1 : Hid (Below w.heap.size w w6) := Below.and B1.out b6
  replace N1 : Hid (MBox 51 w6 w.heap.size #[.int .i64 id1, .int .i64 te1, .int .i64 vo1, .int .i64 lb1, .int .i64 lt1, lv1, .bool sl1, sp1, sc1, sk1, sb1, sv1, .int .i64 ro1, vv1, nv1, mv1, .int .i64 cm1, .bool ol1, op1, oc1, ok1, ob1, ov1]) := N1.out.step b6
  replace N2 : Hid (MBox 51 w6 (w.heap.size + 1) #[.int .i64 id1, .int .i64 te1, .int .i64 vo1, .int .i64 lb1, .int .i64 lt1, lv2, .bool sl2, sp2, sc2, sk2, sb2, sv2, .int .i64 ro1, vv2, nv2, mv2, .int .i64 cm1, .bool ol2, op2, oc2, ok2, ob2, ov2]) := N2.out.step b6
  clear b6 c1 d1
  have c1 := N1.out.cells
  have d1 := N2.out.cells
  go_wp2
  go_ret
  exact ⟨rfl, B1.out⟩

end Go.Proofs.Ytnlgcolbcnhnbaa

namespace Go.Proofs.Ytnlgcolbcnhnbaa

/-- all below a number -/
def allB (n : Nat) (f : Nat → Bool) : Bool := (List.range n).all f
theorem allB_true {n : Nat} {f : Nat → Bool} (h : ∀ i, i < n → f i = true) : allB n f = true := by
  simp only [allB, List.all_eq_true, List.mem_range]; exact h
theorem allB_false {n : Nat} {f : Nat → Bool} {i : Nat} (hi : i < n) (h : f i = false) : allB n f = false := by
  rw [Bool.eq_false_iff]
  intro hc
  simp only [allB, List.all_eq_true, List.mem_range] at hc
  rw [hc i hi] at h
  cases h
theorem allB_at {n : Nat} {f : Nat → Bool} (h : allB n f = true) {i : Nat} (hi : i < n) : f i = true := by
  simp only [allB, List.all_eq_true, List.mem_range] at h
  exact h i hi

def pairAt (T : Tr) (lo hi : Int) (i : Nat) : Bool := inB (kOf T.pairs i) lo (hi - 1)
def pairsInB (T : Tr) (lo hi : Int) : Bool := allB T.pairs.length (pairAt T lo hi)
def leafOkB (T : Tr) (lo hi : Int) : Bool := mapOkB T.pairs && (decide (T.pairs.length ≤ 4) && (decide (T.cuts.length + T.kids.length + T.buf.length = 0) && pairsInB T lo hi))
def msgAt (T : Tr) (lo hi : Int) (i : Nat) : Bool := msgOkB (mO T.buf i) (mK T.buf i) (mV T.buf i) && (!(mO T.buf i == 4) && inB (mK T.buf i) lo (hi - 1))
def bufOkB (T : Tr) (lo hi : Int) : Bool := allB T.buf.length (msgAt T lo hi)
/-- from where on, and below what, the keys of the i-th kid lie -/
def fromT (T : Tr) (lo : Int) (i : Nat) : Int := if i = 0 then lo else iAt T.cuts (i - 1)
def toT (T : Tr) (hi : Int) (i : Nat) : Int := if i < T.cuts.length then iAt T.cuts i else hi
def cutAt (T : Tr) (lo hi : Int) (i : Nat) : Bool := inB (iAt T.cuts i) (fromT T lo i + 1) (hi - 1)
def cutsOkB (T : Tr) (lo hi : Int) : Bool := allB T.cuts.length (cutAt T lo hi)
def shapeB (T : Tr) : Bool := decide (T.pairs.length = 0) && (decide (2 ≤ T.kids.length ∧ T.kids.length ≤ 4) && (decide (T.cuts.length + 1 = T.kids.length) && decide (T.buf.length ≤ 6)))
def forkOkB (T : Tr) (lo hi : Int) : Bool := shapeB T && (bufOkB T lo hi && cutsOkB T lo hi)
/-- one more than the depth of all kids, where it is one -/
def kidsD (d : Nat → Nat) (n : Nat) : Nat := if (!(d 0 == 0) && allB n fun i => d i == d 0) = true then d 0 + 1 else 0
/-- the depth of a tree whose keys lie from lo on and below hi, of at most m; 0: it is not right -/
def depthF : Nat → Tr → Int → Int → Nat
  | 0, _, _, _ => 0
  | m + 1, T, lo, hi => if T.leaf = true then (if leafOkB T lo hi = true then 1 else 0) else if forkOkB T lo hi = true then kidsD (fun i => depthF m (kidT T i) (fromT T lo i) (toT T hi i)) T.kids.length else 0
def kidF (m : Nat) (T : Tr) (lo hi : Int) (i : Nat) : Nat := depthF m (kidT T i) (fromT T lo i) (toT T hi i)

theorem depthF_leaf {m : Nat} {T : Tr} {lo hi : Int} (h : T.leaf = true) : depthF (m + 1) T lo hi = if leafOkB T lo hi = true then 1 else 0 := by rw [depthF, if_pos h]
theorem depthF_no {m : Nat} {T : Tr} {lo hi : Int} (h : T.leaf = false) (hf : forkOkB T lo hi = false) : depthF (m + 1) T lo hi = 0 := by
  rw [depthF, if_neg (by rw [h]; decide), if_neg (by rw [hf]; decide)]
theorem depthF_fork {m : Nat} {T : Tr} {lo hi : Int} (h : T.leaf = false) (hf : forkOkB T lo hi = true) : depthF (m + 1) T lo hi = kidsD (kidF m T lo hi) T.kids.length := by
  rw [depthF, if_neg (by rw [h]; decide), if_pos hf]; rfl
theorem kidsD_zero {d : Nat → Nat} {n i : Nat} (hi : i < n) (h : d i = 0) : kidsD d n = 0 := by
  rw [kidsD, if_neg]
  intro hc
  simp only [Bool.and_eq_true] at hc
  have := allB_at hc.2 hi
  simp only [beq_iff_eq] at this
  rw [h] at this
  rw [← this] at hc
  simp at hc
theorem kidsD_ne {d : Nat → Nat} {n i : Nat} (hi : i < n) (h : d i ≠ d 0) : kidsD d n = 0 := by
  rw [kidsD, if_neg]
  intro hc
  simp only [Bool.and_eq_true] at hc
  have := allB_at hc.2 hi
  simp only [beq_iff_eq] at this
  exact h this
theorem kidsD_yes {d : Nat → Nat} {n : Nat} (h0 : d 0 ≠ 0) (h : ∀ i, i < n → d i = d 0) : kidsD d n = d 0 + 1 := by
  rw [kidsD, if_pos]
  simp only [Bool.and_eq_true]
  refine ⟨by simpa using h0, allB_true fun i hi => by simpa using h i hi⟩
theorem kidsD_le {d : Nat → Nat} {n m : Nat} (h : ∀ i, d i ≤ m) : kidsD d n ≤ m + 1 := by
  unfold kidsD
  split
  · have := h 0; omega
  · omega
theorem depthF_le : ∀ (m : Nat) (T : Tr) (lo hi : Int), depthF m T lo hi ≤ m
  | 0, _, _, _ => by simp [depthF]
  | m + 1, T, lo, hi => by
    rw [depthF]
    split
    · split <;> omega
    · split
      · exact kidsD_le fun i => depthF_le m _ _ _
      · omega

/-- how many pairs, messages a tree has -/
def pairsF : Nat → Tr → Nat
  | 0, _ => 0
  | n + 1, T => T.pairs.length + (T.kids.map (pairsF n)).sum
def msgsF : Nat → Tr → Nat
  | 0, _ => 0
  | n + 1, T => T.buf.length + (T.kids.map (msgsF n)).sum
def sumF (f : Tr → Nat) (ts : List Tr) (k : Nat) : Nat := ((ts.take k).map f).sum
/-- how many of the first cuts are at most k -/
def cutsTo (l : List Int) (k : Int) : Nat := (l.filter fun c => decide (c ≤ k)).length

/-- the answers of chapter 2 -/
def depthT (T : Tr) : Nat := depthF 7 T 0 1000
def okT (T : Tr) : Bool := decide (0 < depthT T)

end Go.Proofs.Ytnlgcolbcnhnbaa
