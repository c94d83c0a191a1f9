/-
  What nodes tell each other, in memory: the laws' own functions that measure and compare it.
  The laws' measures of a node and of what is told, with all that they take.
  toMachine: a machine copied out of the law's own kind.
  toMachine: a machine copied out of the law's own kind owns its memory.
-/
import Derived.Test.YthfmifdpldmbaaaOfFirst4
import Derived.Test.YthfmifdpldmbaaaOfFirst6
import Derived.Test.YthfmifdpldmbaaaOfFirst1
namespace Go.Proofs.Ythfmifdpldmbaaa
set_option maxRecDepth 100000
set_option maxHeartbeats 8000000
section
open Go.RowKit

structure RpcV where
 kd : Int
 fr : Int
 tt : Int
 te : Int
 ix : Int
 it : Int
 cm : Int
 ok : Bool
 ev : Value
 s : MacV
abbrev RpcV.val (R : RpcV) : Value := .agg #[.int .i64 R.kd, .int .i64 R.fr, .int .i64 R.tt, .int .i64 R.te, .int .i64 R.ix, .int .i64 R.it, .int .i64 R.cm, .bool R.ok, R.ev, .bool R.s.x.lf, R.s.x.p, R.s.x.c, R.s.x.k, R.s.x.b, R.s.v]
structure Rd where
 l : EL
 T : Tr
 d : DL
def RpcAt (n : Nat) (w : World) (R : RpcV) (D : Rd) : Prop := Row w R.ev D.l.length (flatE D.l) ∧ MacAt n w R.s D.T D.d
theorem RpcAt.below {n : Nat} {w w' : World} {R : RpcV} {D : Rd} (h : RpcAt n w R D) (hb : Below w.heap.size w w') : RpcAt n w' R D := ⟨h.1.below hb, h.2.below hb⟩
def Rd.small (n : Nat) (D : Rd) : Prop := D.l.length ≤ 1048576 ∧ sizeT n D.T ≤ 1048576 ∧ D.d.length ≤ 1048576

def RpcV.like (R S : RpcV) : Prop := R.kd = S.kd ∧ R.fr = S.fr ∧ R.tt = S.tt ∧ R.te = S.te ∧ R.ix = S.ix ∧ R.it = S.it ∧ R.cm = S.cm ∧ R.ok = S.ok
theorem eqRpc_any (n : Nat) (R S : RpcV) (D : Rd) (w : World) (hl : R.like S) (h : RpcAt n w R D) (h2 : RpcAt n w S D) :
  Calls Try.prog 35 #[R.val, S.val] w fun e w' => e = .returned (.bool true) ∧ Below w.heap.size w w' := by
 obtain ⟨kd1, fr1, tt1, te1, ix1, it1, cm1, ok1, ev1, ⟨⟨sl1, sp1, sc1, sk1, sb1⟩, sv1⟩⟩ := R
 obtain ⟨kd2, fr2, tt2, te2, ix2, it2, cm2, ok2, ev2, ⟨⟨sl2, sp2, sc2, sk2, sb2⟩, sv2⟩⟩ := S
 obtain ⟨e1, e2, e3, e4, e5, e6, e7, e8⟩ := hl
 simp only at e1 e2 e3 e4 e5 e6 e7 e8
 subst e1 e2 e3 e4 e5 e6 e7 e8
 have H : Hid _ := And.intro h h2
 have K1 : Hid (∀ u, Below w.heap.size w u → Calls Try.prog 54 #[ev1, ev2] u fun e w' => e = .returned (.bool true) ∧ Below u.heap.size u w') := fun u hu => (eqEntryS_any ev1 ev2 D.l D.l u (H.out.1.below hu).1 (H.out.2.below hu).1).mono (fun e w' ⟨he, hb⟩ => ⟨by rw [he]; simp, hb⟩)
 have K2 : Hid (∀ u, Below w.heap.size w u → Calls Try.prog 51 #[.agg #[.bool sl1, sp1, sc1, sk1, sb1, sv1], .agg #[.bool sl2, sp2, sc2, sk2, sb2, sv2]] u fun e w' => e = .returned (.bool true) ∧ Below u.heap.size u w') := fun u hu => eqMachine_any n ⟨⟨sl1, sp1, sc1, sk1, sb1⟩, sv1⟩ ⟨⟨sl2, sp2, sc2, sk2, sb2⟩, sv2⟩ D.T D.d u (H.out.1.below hu).2 (H.out.2.below hu).2
 have B1 : Hid (Below w.heap.size w ((w.alloc (.cells #[.int .i64 kd1, .int .i64 fr1, .int .i64 tt1, .int .i64 te1, .int .i64 ix1, .int .i64 it1, .int .i64 cm1, .bool ok1, ev1, .bool sl1, sp1, sc1, sk1, sb1, sv1] 97)).alloc (.cells #[.int .i64 kd1, .int .i64 fr1, .int .i64 tt1, .int .i64 te1, .int .i64 ix1, .int .i64 it1, .int .i64 cm1, .bool ok1, ev2, .bool sl2, sp2, sc2, sk2, sb2, sv2] 97))) := Below.and (bel_nw _ _) (bel_nw _ _)
 have N1 : Hid (MBox 97 ((w.alloc (.cells #[.int .i64 kd1, .int .i64 fr1, .int .i64 tt1, .int .i64 te1, .int .i64 ix1, .int .i64 it1, .int .i64 cm1, .bool ok1, ev1, .bool sl1, sp1, sc1, sk1, sb1, sv1] 97)).alloc (.cells #[.int .i64 kd1, .int .i64 fr1, .int .i64 tt1, .int .i64 te1, .int .i64 ix1, .int .i64 it1, .int .i64 cm1, .bool ok1, ev2, .bool sl2, sp2, sc2, sk2, sb2, sv2] 97)) w.heap.size #[.int .i64 kd1, .int .i64 fr1, .int .i64 tt1, .int .i64 te1, .int .i64 ix1, .int .i64 it1, .int .i64 cm1, .bool ok1, ev1, .bool sl1, sp1, sc1, sk1, sb1, sv1]) := (MBox.start _ w _).step (bel_nw _ _)
 have N2 : Hid (MBox 97 ((w.alloc (.cells #[.int .i64 kd1, .int .i64 fr1, .int .i64 tt1, .int .i64 te1, .int .i64 ix1, .int .i64 it1, .int .i64 cm1, .bool ok1, ev1, .bool sl1, sp1, sc1, sk1, sb1, sv1] 97)).alloc (.cells #[.int .i64 kd1, .int .i64 fr1, .int .i64 tt1, .int .i64 te1, .int .i64 ix1, .int .i64 it1, .int .i64 cm1, .bool ok1, ev2, .bool sl2, sp2, sc2, sk2, sb2, sv2] 97)) (w.heap.size + 1) #[.int .i64 kd1, .int .i64 fr1, .int .i64 tt1, .int .i64 te1, .int .i64 ix1, .int .i64 it1, .int .i64 cm1, .bool ok1, ev2, .bool sl2, sp2, sc2, sk2, sb2, sv2]) := by
  have := MBox.start 97 (w.alloc (.cells #[.int .i64 kd1, .int .i64 fr1, .int .i64 tt1, .int .i64 te1, .int .i64 ix1, .int .i64 it1, .int .i64 cm1, .bool ok1, ev1, .bool sl1, sp1, sc1, sk1, sb1, sv1] 97)) #[.int .i64 kd1, .int .i64 fr1, .int .i64 tt1, .int .i64 te1, .int .i64 ix1, .int .i64 it1, .int .i64 cm1, .bool ok1, ev2, .bool sl2, sp2, sc2, sk2, sb2, sv2]
  rw [World.size_alloc] at this
  exact this
 have c1 := N1.out.cells
 have d1 := N2.out.cells
 clear h h2 H
 have ho : (ok1 != ok1) = false := by cases ok1 <;> rfl
 show Calls Try.prog 35 #[.agg #[.int .i64 kd1, .int .i64 fr1, .int .i64 tt1, .int .i64 te1, .int .i64 ix1, .int .i64 it1, .int .i64 cm1, .bool ok1, ev1, .bool sl1, sp1, sc1, sk1, sb1, sv1], .agg #[.int .i64 kd1, .int .i64 fr1, .int .i64 tt1, .int .i64 te1, .int .i64 ix1, .int .i64 it1, .int .i64 cm1, .bool ok1, ev2, .bool sl2, sp2, sc2, sk2, sb2, sv2]] w _
 go_enter Try.func35, Try.ntmps35
 go_wp2_with fail
 generalize ((w.alloc (.cells #[.int .i64 kd1, .int .i64 fr1, .int .i64 tt1, .int .i64 te1, .int .i64 ix1, .int .i64 it1, .int .i64 cm1, .bool ok1, ev1, .bool sl1, sp1, sc1, sk1, sb1, sv1] 97)).alloc (.cells #[.int .i64 kd1, .int .i64 fr1, .int .i64 tt1, .int .i64 te1, .int .i64 ix1, .int .i64 it1, .int .i64 cm1, .bool ok1, ev2, .bool sl2, sp2, sc2, sk2, sb2, sv2] 97)) = W at *
 refine (K1.out _ B1.out).mono ?_
 rintro e w1 ⟨rfl, b1⟩
 replace B1 : Hid (Below w.heap.size w w1) := Below.and B1.out b1
 replace N1 : Hid (MBox 97 w1 w.heap.size #[.int .i64 kd1, .int .i64 fr1, .int .i64 tt1, .int .i64 te1, .int .i64 ix1, .int .i64 it1, .int .i64 cm1, .bool ok1, ev1, .bool sl1, sp1, sc1, sk1, sb1, sv1]) := N1.out.step b1
 replace N2 : Hid (MBox 97 w1 (w.heap.size + 1) #[.int .i64 kd1, .int .i64 fr1, .int .i64 tt1, .int .i64 te1, .int .i64 ix1, .int .i64 it1, .int .i64 cm1, .bool ok1, ev2, .bool sl2, sp2, sc2, sk2, sb2, sv2]) := N2.out.step b1
 clear b1 c1 d1
 have c1 := N1.out.cells
 have d1 := N2.out.cells
 go_wp2_with fail
 refine (K2.out _ B1.out).mono ?_
 rintro e w2 ⟨rfl, b2⟩
 replace B1 : Hid (Below w.heap.size w w2) := Below.and B1.out b2
 clear b2 c1 d1
 go_wp2
 go_ret
 exact ⟨rfl, B1.out⟩
end
section
open Go.RowKit

def Tk2 (m : Nat) (left r : Int) : Prop := r = -1 ∨ (0 ≤ r ∧ r + m ≤ left)
theorem tk2_if {m : Nat} {left : Int} (_h : 0 ≤ left) : Tk2 m left (if (m : Int) ≤ left then left - m else -1) := by
 unfold Tk2
 split
 ·right; omega
 ·left; rfl
theorem tk2_leftOf {m : Nat} {left : Int} (h : 0 ≤ left) : Tk2 m left (leftOf left m) := tk2_if h
def Nd.all (n : Nat) (D : Nd) : Nat := D.l.length + (sizeT n D.T1 + D.d1.length) + D.vs.length + D.nx.length + D.mt.length + (sizeT n D.T2 + D.d2.length)
def Rd.all (n : Nat) (D : Rd) : Nat := D.l.length + (sizeT n D.T + D.d.length)
theorem Nd.small_all {n : Nat} {D : Nd} (h : Nd.all n D ≤ 1048576) : D.small n := by
 unfold Nd.all at h
 exact ⟨by omega, by omega, by omega, by omega, by omega, by omega, by omega, by omega⟩
theorem Rd.small_all {n : Nat} {D : Rd} (h : Rd.all n D ≤ 1048576) : D.small n := by
 unfold Rd.all at h
 exact ⟨by omega, by omega, by omega⟩

theorem szNode_t (n : Nat) (N : NodV) (D : Nd) (left : Int) (w : World) (h : NodAt n w N D) (h0 : 0 ≤ left) (h1 : left ≤ 1048576) :
  Calls Try.prog 27 #[N.val, .int .i64 left] w fun e w' => ∃ r : Int, e = .returned (.int .i64 r) ∧ r ≤ 1048576 ∧ (¬ r < 0 → r + ((Nd.all n D : Nat) : Int) ≤ left) ∧ Below w.heap.size w w' := by
 obtain ⟨id, te, vo, lb, lt, lv, ⟨⟨sl, sp, sc, sk, sb⟩, sv⟩, ro, vv, nv, mv, cm, ⟨⟨ol, op, oc, ok, ob⟩, ov⟩⟩ := N
 obtain ⟨q1, q2, q3, q4, q5, q6⟩ := h
 obtain ⟨av, cv, hvv, hlv⟩ := q3.len
 obtain ⟨an, cn, hnv, hln⟩ := q4.len
 obtain ⟨am, cq, hmv, hlm⟩ := q5.len
 simp only at hvv hnv hmv
 subst hvv hnv hmv
 have S1 : Hid (∀ u (L : Int), Below w.heap.size w u → 0 ≤ L → L ≤ 1048576 → Calls Try.prog 39 #[lgV lb lt lv, .int .i64 L] u fun e w' => ∃ r : Int, e = .returned (.int .i64 r) ∧ Tk2 D.l.length L r ∧ Below u.heap.size u w') := fun u L hu a b => (szLog_any lb lt lv D.l L u (q1.below hu) a b).mono (fun e w' ⟨he, hb⟩ => ⟨_, he, tk2_if a, hb⟩)
 have S2 : Hid (∀ u (L : Int), Below w.heap.size w u → 0 ≤ L → L ≤ 1048576 → Calls Try.prog 40 #[.agg #[.bool sl, sp, sc, sk, sb, sv], .int .i64 L] u fun e w' => ∃ r : Int, e = .returned (.int .i64 r) ∧ Tk2 (sizeT n D.T1 + D.d1.length) L r ∧ Below u.heap.size u w') := fun u L hu a b => (szMachine_any n ⟨⟨sl, sp, sc, sk, sb⟩, sv⟩ D.T1 D.d1 L u (q2.below hu) a b).mono (fun e w' ⟨he, hb⟩ => ⟨_, he, tk2_leftOf a, hb⟩)
 have S3 : Hid (∀ u (L : Int), 0 ≤ L → L ≤ 1048576 → Calls Try.prog 41 #[.slice av D.vs.length cv, .int .i64 L] u fun e w' => ∃ r : Int, e = .returned (.int .i64 r) ∧ Tk2 D.vs.length L r ∧ w' = u) := fun u L a b => (szBoolS_any av _ cv L hlv a b u).mono (fun e w' ⟨he, hb⟩ => ⟨_, he, tk2_if a, hb⟩)
 have S4 : Hid (∀ u (L : Int), 0 ≤ L → L ≤ 1048576 → Calls Try.prog 42 #[.slice an D.nx.length cn, .int .i64 L] u fun e w' => ∃ r : Int, e = .returned (.int .i64 r) ∧ Tk2 D.nx.length L r ∧ w' = u) := fun u L a b => (szIntS_any an _ cn L hln a b u).mono (fun e w' ⟨he, hb⟩ => ⟨_, he, tk2_if a, hb⟩)
 have S5 : Hid (∀ u (L : Int), 0 ≤ L → L ≤ 1048576 → Calls Try.prog 42 #[.slice am D.mt.length cq, .int .i64 L] u fun e w' => ∃ r : Int, e = .returned (.int .i64 r) ∧ Tk2 D.mt.length L r ∧ w' = u) := fun u L a b => (szIntS_any am _ cq L hlm a b u).mono (fun e w' ⟨he, hb⟩ => ⟨_, he, tk2_if a, hb⟩)
 have S6 : Hid (∀ u (L : Int), Below w.heap.size w u → 0 ≤ L → L ≤ 1048576 → Calls Try.prog 40 #[.agg #[.bool ol, op, oc, ok, ob, ov], .int .i64 L] u fun e w' => ∃ r : Int, e = .returned (.int .i64 r) ∧ Tk2 (sizeT n D.T2 + D.d2.length) L r ∧ Below u.heap.size u w') := fun u L hu a b => (szMachine_any n ⟨⟨ol, op, oc, ok, ob⟩, ov⟩ D.T2 D.d2 L u (q6.below hu) a b).mono (fun e w' ⟨he, hb⟩ => ⟨_, he, tk2_leftOf a, hb⟩)
 have FIN : Hid (∀ r1 r2 r3 r4 r5 r6 : Int, Tk2 D.l.length left r1 → 0 ≤ r1 → Tk2 (sizeT n D.T1 + D.d1.length) r1 r2 → 0 ≤ r2 → Tk2 D.vs.length r2 r3 → 0 ≤ r3 → Tk2 D.nx.length r3 r4 → 0 ≤ r4 → Tk2 D.mt.length r4 r5 → 0 ≤ r5 → Tk2 (sizeT n D.T2 + D.d2.length) r5 r6 → 0 ≤ r6 → r6 + ((Nd.all n D : Nat) : Int) ≤ left) := fun r1 r2 r3 r4 r5 r6 t1 k1 t2 k2 t3 k3 t4 k4 t5 k5 t6 k6 => by
  unfold Tk2 at t1 t2 t3 t4 t5 t6
  unfold Nd.all
  omega
 generalize Nd.all n D = SM at *
 generalize D.l.length = n1 at *
 generalize sizeT n D.T1 + D.d1.length = n2 at *
 generalize D.vs.length = nB at *
 generalize D.nx.length = nN at *
 generalize D.mt.length = nM at *
 generalize sizeT n D.T2 + D.d2.length = n6 at *
 clear q1 q2 q3 q4 q5 q6 hlv hln hlm
 have N1 : Hid (MBox 79 (w.alloc (.cells #[.int .i64 id, .int .i64 te, .int .i64 vo, .int .i64 lb, .int .i64 lt, lv, .bool sl, sp, sc, sk, sb, sv, .int .i64 ro, .slice av nB cv, .slice an nN cn, .slice am nM cq, .int .i64 cm, .bool ol, op, oc, ok, ob, ov] 79)) w.heap.size #[.int .i64 id, .int .i64 te, .int .i64 vo, .int .i64 lb, .int .i64 lt, lv, .bool sl, sp, sc, sk, sb, sv, .int .i64 ro, .slice av nB cv, .slice an nN cn, .slice am nM cq, .int .i64 cm, .bool ol, op, oc, ok, ob, ov]) := MBox.start _ w _
 have B1 : Hid (Below w.heap.size w (w.alloc (.cells #[.int .i64 id, .int .i64 te, .int .i64 vo, .int .i64 lb, .int .i64 lt, lv, .bool sl, sp, sc, sk, sb, sv, .int .i64 ro, .slice av nB cv, .slice an nN cn, .slice am nM cq, .int .i64 cm, .bool ol, op, oc, ok, ob, ov] 79))) := bel_nw _ _
 have c1 := N1.out.cells
 show Calls Try.prog 27 #[.agg #[.int .i64 id, .int .i64 te, .int .i64 vo, .int .i64 lb, .int .i64 lt, lv, .bool sl, sp, sc, sk, sb, sv, .int .i64 ro, .slice av nB cv, .slice an nN cn, .slice am nM cq, .int .i64 cm, .bool ol, op, oc, ok, ob, ov], .int .i64 left] w _
 go_enter Try.func27, Try.ntmps27
 go_wp2_with fail
 generalize w.alloc (.cells #[.int .i64 id, .int .i64 te, .int .i64 vo, .int .i64 lb, .int .i64 lt, lv, .bool sl, sp, sc, sk, sb, sv, .int .i64 ro, .slice av nB cv, .slice an nN cn, .slice am nM cq, .int .i64 cm, .bool ol, op, oc, ok, ob, ov] 79) = W at *
 refine (S1.out _ left B1.out (by omega) (by omega)).mono ?_
 rintro e w1 ⟨r1, rfl, t1, b1⟩
 replace B1 : Hid (Below w.heap.size w w1) := Below.and B1.out b1
 replace N1 : Hid (MBox 79 w1 w.heap.size #[.int .i64 id, .int .i64 te, .int .i64 vo, .int .i64 lb, .int .i64 lt, lv, .bool sl, sp, sc, sk, sb, sv, .int .i64 ro, .slice av nB cv, .slice an nN cn, .slice am nM cq, .int .i64 cm, .bool ol, op, oc, ok, ob, ov]) := N1.out.step b1
 clear b1 c1
 have c1 := N1.out.cells
 have T1 : Hid _ := t1
 have u1 : r1 ≤ 1048576 := by unfold Tk2 at t1; omega
 clear t1
 by_cases p1 : r1 < 0
 ·go_wp2
  go_ret
  exact ⟨_, rfl, by omega, fun h => by omega, B1.out⟩
 go_wp2_with fail
 refine (S2.out _ r1 B1.out (by omega) (by omega)).mono ?_
 rintro e w2 ⟨r2, rfl, t2, b2⟩
 replace B1 : Hid (Below w.heap.size w w2) := Below.and B1.out b2
 replace N1 : Hid (MBox 79 w2 w.heap.size #[.int .i64 id, .int .i64 te, .int .i64 vo, .int .i64 lb, .int .i64 lt, lv, .bool sl, sp, sc, sk, sb, sv, .int .i64 ro, .slice av nB cv, .slice an nN cn, .slice am nM cq, .int .i64 cm, .bool ol, op, oc, ok, ob, ov]) := N1.out.step b2
 clear b2 c1
 have c1 := N1.out.cells
 have T2 : Hid _ := t2
 have u2 : r2 ≤ 1048576 := by unfold Tk2 at t2; omega
 clear t2
 by_cases p2 : r2 < 0
 ·go_wp2
  go_ret
  exact ⟨_, rfl, by omega, fun h => by omega, B1.out⟩
 go_wp2_with fail
 refine (S3.out _ r2 (by omega) (by omega)).mono ?_
 rintro e w3 ⟨r3, rfl, t3, b3⟩
 subst b3
 have T3 : Hid _ := t3
 have u3 : r3 ≤ 1048576 := by unfold Tk2 at t3; omega
 clear t3
 by_cases p3 : r3 < 0
 ·go_wp2
  go_ret
  exact ⟨_, rfl, by omega, fun h => by omega, B1.out⟩
 go_wp2_with fail
 refine (S4.out _ r3 (by omega) (by omega)).mono ?_
 rintro e w4 ⟨r4, rfl, t4, b4⟩
 subst b4
 have T4 : Hid _ := t4
 have u4 : r4 ≤ 1048576 := by unfold Tk2 at t4; omega
 clear t4
 by_cases p4 : r4 < 0
 ·go_wp2
  go_ret
  exact ⟨_, rfl, by omega, fun h => by omega, B1.out⟩
 go_wp2_with fail
 refine (S5.out _ r4 (by omega) (by omega)).mono ?_
 rintro e w5 ⟨r5, rfl, t5, b5⟩
 subst b5
 have T5 : Hid _ := t5
 have u5 : r5 ≤ 1048576 := by unfold Tk2 at t5; omega
 clear t5
 by_cases p5 : r5 < 0
 ·go_wp2
  go_ret
  exact ⟨_, rfl, by omega, fun h => by omega, B1.out⟩
 go_wp2_with fail
 refine (S6.out _ r5 B1.out (by omega) (by omega)).mono ?_
 rintro e w6 ⟨r6, rfl, t6, b6⟩
 replace B1 : Hid (Below w.heap.size w w6) := Below.and B1.out b6
 replace N1 : Hid (MBox 79 w6 w.heap.size #[.int .i64 id, .int .i64 te, .int .i64 vo, .int .i64 lb, .int .i64 lt, lv, .bool sl, sp, sc, sk, sb, sv, .int .i64 ro, .slice av nB cv, .slice an nN cn, .slice am nM cq, .int .i64 cm, .bool ol, op, oc, ok, ob, ov]) := N1.out.step b6
 clear b6 c1
 have c1 := N1.out.cells
 have T6 : Hid _ := t6
 have u6 : r6 ≤ 1048576 := by unfold Tk2 at t6; omega
 clear t6
 by_cases p6 : r6 < 0
 ·go_wp2
  go_ret
  exact ⟨_, rfl, by omega, fun h => by omega, B1.out⟩
 go_wp2
 go_ret
 exact ⟨_, rfl, by omega, fun _ => FIN.out r1 r2 r3 r4 r5 r6 T1.out (by omega) T2.out (by omega) T3.out (by omega) T4.out (by omega) T5.out (by omega) T6.out (by omega), B1.out⟩

theorem szRpc_t (n : Nat) (R : RpcV) (D : Rd) (left : Int) (w : World) (h : RpcAt n w R D) (h0 : 0 ≤ left) (h1 : left ≤ 1048576) :
  Calls Try.prog 28 #[R.val, .int .i64 left] w fun e w' => ∃ r : Int, e = .returned (.int .i64 r) ∧ r ≤ 1048576 ∧ (¬ r < 0 → r + ((Rd.all n D : Nat) : Int) ≤ left) ∧ Below w.heap.size w w' := by
 obtain ⟨kd, fr, tt, te, ix, it, cm, ok, ev, ⟨⟨sl, sp, sc, sk, sb⟩, sv⟩⟩ := R
 obtain ⟨q1, q2⟩ := h
 obtain ⟨av, cv, hvv, hlv⟩ := q1.len
 simp only at hvv
 subst hvv
 have S1 : Hid (∀ u (L : Int), 0 ≤ L → L ≤ 1048576 → Calls Try.prog 43 #[.slice av D.l.length cv, .int .i64 L] u fun e w' => ∃ r : Int, e = .returned (.int .i64 r) ∧ Tk2 D.l.length L r ∧ w' = u) := fun u L a b => (szEntryS_any av _ cv L hlv a b u).mono (fun e w' ⟨he, hb⟩ => ⟨_, he, tk2_if a, hb⟩)
 have S2 : Hid (∀ u (L : Int), Below w.heap.size w u → 0 ≤ L → L ≤ 1048576 → Calls Try.prog 40 #[.agg #[.bool sl, sp, sc, sk, sb, sv], .int .i64 L] u fun e w' => ∃ r : Int, e = .returned (.int .i64 r) ∧ Tk2 (sizeT n D.T + D.d.length) L r ∧ Below u.heap.size u w') := fun u L hu a b => (szMachine_any n ⟨⟨sl, sp, sc, sk, sb⟩, sv⟩ D.T D.d L u (q2.below hu) a b).mono (fun e w' ⟨he, hb⟩ => ⟨_, he, tk2_leftOf a, hb⟩)
 have FIN : Hid (∀ r1 r2 : Int, Tk2 D.l.length left r1 → 0 ≤ r1 → Tk2 (sizeT n D.T + D.d.length) r1 r2 → 0 ≤ r2 → r2 + ((Rd.all n D : Nat) : Int) ≤ left) := fun r1 r2 t1 k1 t2 k2 => by
  unfold Tk2 at t1 t2
  unfold Rd.all
  omega
 generalize Rd.all n D = SM at *
 generalize D.l.length = nE at *
 generalize sizeT n D.T + D.d.length = n2 at *
 clear q1 q2 hlv
 have N1 : Hid (MBox 82 (w.alloc (.cells #[.int .i64 kd, .int .i64 fr, .int .i64 tt, .int .i64 te, .int .i64 ix, .int .i64 it, .int .i64 cm, .bool ok, .slice av nE cv, .bool sl, sp, sc, sk, sb, sv] 82)) w.heap.size #[.int .i64 kd, .int .i64 fr, .int .i64 tt, .int .i64 te, .int .i64 ix, .int .i64 it, .int .i64 cm, .bool ok, .slice av nE cv, .bool sl, sp, sc, sk, sb, sv]) := MBox.start _ w _
 have B1 : Hid (Below w.heap.size w (w.alloc (.cells #[.int .i64 kd, .int .i64 fr, .int .i64 tt, .int .i64 te, .int .i64 ix, .int .i64 it, .int .i64 cm, .bool ok, .slice av nE cv, .bool sl, sp, sc, sk, sb, sv] 82))) := bel_nw _ _
 have c1 := N1.out.cells
 show Calls Try.prog 28 #[.agg #[.int .i64 kd, .int .i64 fr, .int .i64 tt, .int .i64 te, .int .i64 ix, .int .i64 it, .int .i64 cm, .bool ok, .slice av nE cv, .bool sl, sp, sc, sk, sb, sv], .int .i64 left] w _
 go_enter Try.func28, Try.ntmps28
 go_wp2_with fail
 generalize w.alloc (.cells #[.int .i64 kd, .int .i64 fr, .int .i64 tt, .int .i64 te, .int .i64 ix, .int .i64 it, .int .i64 cm, .bool ok, .slice av nE cv, .bool sl, sp, sc, sk, sb, sv] 82) = W at *
 refine (S1.out _ left (by omega) (by omega)).mono ?_
 rintro e w1 ⟨r1, rfl, t1, b1⟩
 subst b1
 have T1 : Hid _ := t1
 have u1 : r1 ≤ 1048576 := by unfold Tk2 at t1; omega
 clear t1
 by_cases p1 : r1 < 0
 ·go_wp2
  go_ret
  exact ⟨_, rfl, by omega, fun h => by omega, B1.out⟩
 go_wp2_with fail
 refine (S2.out _ r1 B1.out (by omega) (by omega)).mono ?_
 rintro e w2 ⟨r2, rfl, t2, b2⟩
 replace B1 : Hid (Below w.heap.size w w2) := Below.and B1.out b2
 clear b2 c1
 have T2 : Hid _ := t2
 have u2 : r2 ≤ 1048576 := by unfold Tk2 at t2; omega
 clear t2
 by_cases p2 : r2 < 0
 ·go_wp2
  go_ret
  exact ⟨_, rfl, by omega, fun h => by omega, B1.out⟩
 go_wp2
 go_ret
 exact ⟨_, rfl, by omega, fun _ => FIN.out r1 r2 T1.out (by omega) T2.out (by omega), B1.out⟩
end
section
open Go.RowKit

theorem six_at {W : World} {R : Nat} {t : TypeId} {x0 x1 x2 x3 x4 x5 : Value} (a b c d e f : Value) (h : W.heap[R]? = some (.cells #[x0, x1, x2, x3, x4, x5] t (0, 0))) : ((((((W.setCell ⟨R, 0, none⟩ a).setCell ⟨R, 1, none⟩ b).setCell ⟨R, 2, none⟩ c).setCell ⟨R, 3, none⟩ d).setCell ⟨R, 4, none⟩ e).setCell ⟨R, 5, none⟩ f).heap[R]? = some (.cells #[a, b, c, d, e, f] t (0, 0)) := by
 have h0 := heap_setCell_same W R 0 _ _ a h
 have h1 := heap_setCell_same _ R 1 _ _ b h0
 have h2 := heap_setCell_same _ R 2 _ _ c h1
 have h3 := heap_setCell_same _ R 3 _ _ d h2
 have h4 := heap_setCell_same _ R 4 _ _ e h3
 have h5 := heap_setCell_same _ R 5 _ _ f h4
 simpa using h5
theorem six_chg (W : World) (R : Nat) (a b c d e f : Value) : Chg (fun g => g = R) W ((((((W.setCell ⟨R, 0, none⟩ a).setCell ⟨R, 1, none⟩ b).setCell ⟨R, 2, none⟩ c).setCell ⟨R, 3, none⟩ d).setCell ⟨R, 4, none⟩ e).setCell ⟨R, 5, none⟩ f) :=
 ((((((Chg.refl (fun g => g = R) W).setAt R 0 rfl a).setAt R 1 rfl b).setAt R 2 rfl c).setAt R 3 rfl d).setAt R 4 rfl e).setAt R 5 rfl f
theorem fst_at {W : World} {R : Nat} {t : TypeId} {x0 x1 x2 x3 x4 x5 : Value} (a b c d e : Value) (h : W.heap[R]? = some (.cells #[x0, x1, x2, x3, x4, x5] t (0, 0))) : (((((W.setCell ⟨R, 0, none⟩ a).setCell ⟨R, 1, none⟩ b).setCell ⟨R, 2, none⟩ c).setCell ⟨R, 3, none⟩ d).setCell ⟨R, 4, none⟩ e).heap[R]? = some (.cells #[a, b, c, d, e, x5] t (0, 0)) := by
 have h0 := heap_setCell_same W R 0 _ _ a h
 have h1 := heap_setCell_same _ R 1 _ _ b h0
 have h2 := heap_setCell_same _ R 2 _ _ c h1
 have h3 := heap_setCell_same _ R 3 _ _ d h2
 have h4 := heap_setCell_same _ R 4 _ _ e h3
 simpa using h4
theorem fst_chg (W : World) (R : Nat) (a b c d e : Value) : Chg (fun g => g = R) W (((((W.setCell ⟨R, 0, none⟩ a).setCell ⟨R, 1, none⟩ b).setCell ⟨R, 2, none⟩ c).setCell ⟨R, 3, none⟩ d).setCell ⟨R, 4, none⟩ e) :=
 (((((Chg.refl (fun g => g = R) W).setAt R 0 rfl a).setAt R 1 rfl b).setAt R 2 rfl c).setAt R 3 rfl d).setAt R 4 rfl e
theorem lst_at {W : World} {R : Nat} {t : TypeId} {x0 x1 x2 x3 x4 x5 : Value} (f : Value) (h : W.heap[R]? = some (.cells #[x0, x1, x2, x3, x4, x5] t (0, 0))) : (W.setCell ⟨R, 5, none⟩ f).heap[R]? = some (.cells #[x0, x1, x2, x3, x4, f] t (0, 0)) := by
 have h5 := heap_setCell_same _ R 5 _ _ f h
 simpa using h5
theorem own_fst {n : Nat} {w : World} {base R : Nat} {x : TV} {T : Tr} (h : TreeOwn n w base x T) (hR : R < base) (a b c d e : Value) : TreeOwn n (((((w.setCell ⟨R, 0, none⟩ a).setCell ⟨R, 1, none⟩ b).setCell ⟨R, 2, none⟩ c).setCell ⟨R, 3, none⟩ d).setCell ⟨R, 4, none⟩ e) base x T :=
 ((((h.setCell hR a).setCell hR b).setCell hR c).setCell hR d).setCell hR e
theorem own_six {n : Nat} {w : World} {base R : Nat} {x : TV} {T : Tr} (h : TreeOwn n w base x T) (hR : R < base) (a b c d e f : Value) : TreeOwn n ((((((w.setCell ⟨R, 0, none⟩ a).setCell ⟨R, 1, none⟩ b).setCell ⟨R, 2, none⟩ c).setCell ⟨R, 3, none⟩ d).setCell ⟨R, 4, none⟩ e).setCell ⟨R, 5, none⟩ f) base x T :=
 (own_fst h hR a b c d e).setCell hR f
end
section
open Go.RowKit

theorem hid9 {p : Prop} (h : p) : Hid p := h
def MacOwn (n : Nat) (w : World) (base : Nat) (m : MacV) (T : Tr) (l : DL) : Prop := TreeOwn n w base m.x T ∧ w.ownsRow base 104 4 m.v l.length (flatD l)
theorem MacOwn.at {n : Nat} {w : World} {base : Nat} {m : MacV} {T : Tr} {l : DL} (h : MacOwn n w base m T l) : MacAt n w m T l := ⟨h.1.treeAt, Row.of_owns h.2⟩
theorem MacOwn.below {n : Nat} {w w' : World} {base : Nat} {m : MacV} {T : Tr} {l : DL} (h : MacOwn n w base m T l) (hb : Below w.heap.size w w') : MacOwn n w' base m T l := ⟨h.1.below hb, owns_below h.2 hb⟩
theorem MacOwn.low {n : Nat} {w : World} {base base' : Nat} {m : MacV} {T : Tr} {l : DL} (h : MacOwn n w base m T l) (hb : base' ≤ base) : MacOwn n w base' m T l := ⟨h.1.low hb, owns_mono h.2 hb⟩
theorem owns_but {w w' : World} {base e size k R : Nat} {v : Value} {xs : List Value} (h : w.ownsRow base e size v k xs) (hc : Chg (fun g => g = R) w w') (hR : R < base) : w'.ownsRow base e size v k xs := owns_chg h hc (fun g hg e => by have := (h.lt g hg).1; omega)
theorem MacOwn.but {n : Nat} {w w' : World} {base R : Nat} {m : MacV} {T : Tr} {l : DL} (h : MacOwn n w base m T l) (hc : Chg (fun g => g = R) w w') (hR : R < base) : MacOwn n w' base m T l := ⟨h.1.same (fun g hg hl => hc.block g hl (by omega)), owns_but h.2 hc hR⟩

theorem toMachine_own (n : Nat) (m : MacV) (T : Tr) (l : DL) (w : World) (h : MacAt n w m T l) (hs : sizeT n T ≤ 1048576) (hl : l.length ≤ 1048576) :
  Calls Try.prog 45 #[m.val] w fun e w' => ∃ m' : MacV, e = .returned m'.val ∧ MacOwn n w' w.heap.size m' T l ∧ Below w.heap.size w w' := by
 obtain ⟨⟨lf, p, c, k, b⟩, v⟩ := m
 have b0 : Below w.heap.size w (((w.alloc (.cells #[.bool lf, p, c, k, b, v] 76)).alloc (.cells #[.bool false, .slice none 0 0, .slice none 0 0, .slice none 0 0, .slice none 0 0, .slice none 0 0] 92)).alloc (.cells #[.bool false, .slice none 0 0, .slice none 0 0, .slice none 0 0, .slice none 0 0, .slice none 0 0] 92)) := (((Below.refl _ _).alloc (Nat.le_refl _) _).alloc (by simp) _).alloc (by simp; omega) _
 have n0 := MBox.step (MBox.step (MBox.start 76 w #[.bool lf, p, c, k, b, v]) (bel_nw _ (.cells #[.bool false, .slice none 0 0, .slice none 0 0, .slice none 0 0, .slice none 0 0, .slice none 0 0] 92))) (bel_nw _ (.cells #[.bool false, .slice none 0 0, .slice none 0 0, .slice none 0 0, .slice none 0 0, .slice none 0 0] 92))
 have n1 := MBox.step (MBox.start 92 (w.alloc (.cells #[.bool lf, p, c, k, b, v] 76)) #[.bool false, .slice none 0 0, .slice none 0 0, .slice none 0 0, .slice none 0 0, .slice none 0 0]) (bel_nw _ (.cells #[.bool false, .slice none 0 0, .slice none 0 0, .slice none 0 0, .slice none 0 0, .slice none 0 0] 92))
 have n2 := MBox.start 92 ((w.alloc (.cells #[.bool lf, p, c, k, b, v] 76)).alloc (.cells #[.bool false, .slice none 0 0, .slice none 0 0, .slice none 0 0, .slice none 0 0, .slice none 0 0] 92)) #[.bool false, .slice none 0 0, .slice none 0 0, .slice none 0 0, .slice none 0 0, .slice none 0 0]
 simp only [World.size_alloc] at n1 n2
 have zz : (((w.alloc (.cells #[.bool lf, p, c, k, b, v] 76)).alloc (.cells #[.bool false, .slice none 0 0, .slice none 0 0, .slice none 0 0, .slice none 0 0, .slice none 0 0] 92)).alloc (.cells #[.bool false, .slice none 0 0, .slice none 0 0, .slice none 0 0, .slice none 0 0, .slice none 0 0] 92)).heap.size = w.heap.size + 3 := by simp
 have c0 := n0.cells
 have H : Hid _ := And.intro h (And.intro b0 (And.intro n0 (And.intro n1 (And.intro n2 zz))))
 clear h b0 n0 n1 n2 zz
 show Calls Try.prog 45 #[.agg #[.bool lf, p, c, k, b, v]] w _
 go_enter Try.func45, Try.ntmps45
 go_wp2_with fail
 generalize (((w.alloc (.cells #[.bool lf, p, c, k, b, v] 76)).alloc (.cells #[.bool false, .slice none 0 0, .slice none 0 0, .slice none 0 0, .slice none 0 0, .slice none 0 0] 92)).alloc (.cells #[.bool false, .slice none 0 0, .slice none 0 0, .slice none 0 0, .slice none 0 0, .slice none 0 0] 92)) = W at *
 refine (toTree_any n ⟨lf, p, c, k, b⟩ T W (H.out.1.1.below H.out.2.1) hs).mono ?_
 rintro e w1 ⟨y, rfl, t1, b1⟩
 obtain ⟨h, b0, n0, n1, n2, zz⟩ := H.out
 obtain ⟨a1, a2, a3, a4, q1, q2, q3, q4, hy⟩ := t1.treeAt.shape
 generalize T.leaf = m0, T.pairs.length = m1, T.cuts.length = m2, T.kids.length = m3, T.buf.length = m4 at hy
 subst hy
 have p0 := n0.step b1
 have p1 := n1.step b1
 have p2 := n2.step b1
 have r2 := fst_at (.bool m0) (.slice a1 m1 q1) (.slice a2 m2 q2) (.slice a3 m3 q3) (.slice a4 m4 q4) p2
 have g2 := fst_chg w1 (w.heap.size + 1 + 1) (.bool m0) (.slice a1 m1 q1) (.slice a2 m2 q2) (.slice a3 m3 q3) (.slice a4 m4 q4)
 have r0 := row_chg p0 g2 (by omega)
 have r1 := row_chg p1 g2 (by omega)
 have t2 := own_fst (R := w.heap.size + 1 + 1) t1 (by omega) (.bool m0) (.slice a1 m1 q1) (.slice a2 m2 q2) (.slice a3 m3 q3) (.slice a4 m4 q4)
 have B1 := Below.and b0 b1
 have B2 := B1.trans (g2.below (fun g _ hg => by omega) B1.size)
 have f1 : ∀ j, w1.frozen? ⟨w.heap.size + 1 + 1, j, none⟩ = false := fun j => frozen_of_cells p2
 have d0 : ∀ j, w1.cell? ⟨w.heap.size + 1 + 1, j, none⟩ = (#[.bool false, .slice none 0 0, .slice none 0 0, .slice none 0 0, .slice none 0 0, .slice none 0 0] : Array Value)[j]? := fun j => cell_of_cells p2
 have d1 : ∀ j, (((((w1.setCell ⟨w.heap.size + 1 + 1, 0, none⟩ (.bool m0)).setCell ⟨w.heap.size + 1 + 1, 1, none⟩ (.slice a1 m1 q1)).setCell ⟨w.heap.size + 1 + 1, 2, none⟩ (.slice a2 m2 q2)).setCell ⟨w.heap.size + 1 + 1, 3, none⟩ (.slice a3 m3 q3)).setCell ⟨w.heap.size + 1 + 1, 4, none⟩ (.slice a4 m4 q4)).cell? ⟨w.heap.size, j, none⟩ = (#[.bool lf, p, c, k, b, v] : Array Value)[j]? := fun j => cell_of_cells r0
 have hz1 : w.heap.size + 3 ≤ w1.heap.size := by have := b1.size; omega
 have G : Hid _ := And.intro h.2 (And.intro t2 (And.intro r1 (And.intro r2 (And.intro B2 (And.intro zz hz1)))))
 clear h b0 n0 n1 n2 zz p0 p1 p2 r0 r1 r2 g2 t2 B1 B2 H t1 b1 c0
 go_wp2_with fail
 generalize hW2 : (((((w1.setCell ⟨w.heap.size + 1 + 1, 0, none⟩ (.bool m0)).setCell ⟨w.heap.size + 1 + 1, 1, none⟩ (.slice a1 m1 q1)).setCell ⟨w.heap.size + 1 + 1, 2, none⟩ (.slice a2 m2 q2)).setCell ⟨w.heap.size + 1 + 1, 3, none⟩ (.slice a3 m3 q3)).setCell ⟨w.heap.size + 1 + 1, 4, none⟩ (.slice a4 m4 q4)) = W2 at *
 obtain ⟨hv, t2, r1, r2, B2, zz, hz1⟩ := G.out
 have hz2 : W2.heap.size = w1.heap.size := by rw [← hW2]; simp
 clear d0 f1 hW2 G
 refine (toDoneS_any v l W2 (hv.below B2) hl).mono ?_
 rintro e w3 ⟨v3, rfl, o3, b3⟩
 obtain ⟨a5, q5, hv3⟩ := owns_val o3
 subst hv3
 generalize hm5 : l.length = m5 at *
 have s1 := (b3.block _ (Array.getElem?_eq_some_iff.1 r1).1).trans r1
 have s2 := (b3.block _ (Array.getElem?_eq_some_iff.1 r2).1).trans r2
 have t3 := t2.below b3
 have B3 := Below.and B2 b3
 have u2 := lst_at (.slice a5 m5 q5) s2
 have g3 : Chg (fun g => g = w.heap.size + 1 + 1) w3 (w3.setCell ⟨w.heap.size + 1 + 1, 5, none⟩ (.slice a5 m5 q5)) := (Chg.refl (fun g => g = w.heap.size + 1 + 1) w3).setAt (w.heap.size + 1 + 1) 5 rfl (.slice a5 m5 q5)
 have u1 := row_chg s1 g3 (by omega)
 have t4 := t3.setCell (a := ⟨w.heap.size + 1 + 1, 5, none⟩) (by simp only; omega) (.slice a5 m5 q5)
 have o4 := owns_chg o3 g3 (fun g hg e => by have := (o3.lt g hg).1; omega)
 have B4 := B3.trans (g3.below (fun g _ hg => by omega) B3.size)
 have x1 := six_at (.bool m0) (.slice a1 m1 q1) (.slice a2 m2 q2) (.slice a3 m3 q3) (.slice a4 m4 q4) (.slice a5 m5 q5) u1
 have g5 := six_chg (w3.setCell ⟨w.heap.size + 1 + 1, 5, none⟩ (.slice a5 m5 q5)) (w.heap.size + 1) (.bool m0) (.slice a1 m1 q1) (.slice a2 m2 q2) (.slice a3 m3 q3) (.slice a4 m4 q4) (.slice a5 m5 q5)
 have t5 := own_six (R := w.heap.size + 1) t4 (by omega) (.bool m0) (.slice a1 m1 q1) (.slice a2 m2 q2) (.slice a3 m3 q3) (.slice a4 m4 q4) (.slice a5 m5 q5)
 have o5 := owns_chg o4 g5 (fun g hg e => by have := (o4.lt g hg).1; omega)
 have B5 := B4.trans (g5.below (fun g _ hg => by omega) B4.size)
 have f2 : ∀ j, w3.frozen? ⟨w.heap.size + 1 + 1, j, none⟩ = false := fun j => frozen_of_cells s2
 have f3 : ∀ j, (w3.setCell ⟨w.heap.size + 1 + 1, 5, none⟩ (.slice a5 m5 q5)).frozen? ⟨w.heap.size + 1, j, none⟩ = false := fun j => frozen_of_cells u1
 have c2 : ∀ j, w3.cell? ⟨w.heap.size + 1 + 1, j, none⟩ = (#[.bool m0, .slice a1 m1 q1, .slice a2 m2 q2, .slice a3 m3 q3, .slice a4 m4 q4, .slice none 0 0] : Array Value)[j]? := fun j => cell_of_cells s2
 have c3 : ∀ j, (w3.setCell ⟨w.heap.size + 1 + 1, 5, none⟩ (.slice a5 m5 q5)).cell? ⟨w.heap.size + 1 + 1, j, none⟩ = (#[.bool m0, .slice a1 m1 q1, .slice a2 m2 q2, .slice a3 m3 q3, .slice a4 m4 q4, .slice a5 m5 q5] : Array Value)[j]? := fun j => cell_of_cells u2
 have c4 : ∀ j, (w3.setCell ⟨w.heap.size + 1 + 1, 5, none⟩ (.slice a5 m5 q5)).cell? ⟨w.heap.size + 1, j, none⟩ = (#[.bool false, .slice none 0 0, .slice none 0 0, .slice none 0 0, .slice none 0 0, .slice none 0 0] : Array Value)[j]? := fun j => cell_of_cells u1
 have X1 : Hid _ := x1
 have K : Hid _ := And.intro (t5.low (by omega : w.heap.size ≤ _)) (And.intro (owns_mono (base' := w.heap.size) o5 (by omega)) B5)
 clear s1 s2 t3 B3 u2 g3 u1 t4 o4 B4 x1 g5 t5 o5 B5 o3 b3 r1 r2 t2 B2 hv zz hz1 hz2 d1
 go_wp2_with fail
 simp [bodyPost, results, Try.results45, go_sem, cell_of_cells X1.out]
 refine ⟨⟨⟨m0, .slice a1 m1 q1, .slice a2 m2 q2, .slice a3 m3 q3, .slice a4 m4 q4⟩, .slice a5 m5 q5⟩, by simp, ⟨K.out.1, ?_⟩, K.out.2.2⟩
 have := K.out.2.1
 rw [hm5]
 exact this
end
end Go.Proofs.Ythfmifdpldmbaaa
