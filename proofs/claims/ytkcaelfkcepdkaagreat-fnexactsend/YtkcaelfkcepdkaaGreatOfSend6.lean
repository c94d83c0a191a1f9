/-
  Nodes in memory: the laws' own functions that measure and compare them.
  What nodes tell each other, in memory: the laws' own functions that measure and compare it.
  The laws' measures of a node and of what is told, with all that they take.
-/
import Derived.Test.YtkcaelfkcepdkaaGreatOfSend4
import Derived.Test.YtkcaelfkcepdkaaGreatOfSend5
namespace Go.Proofs.YtkcaelfkcepdkaaGreat
set_option maxRecDepth 100000
set_option maxHeartbeats 8000000
section
open Go.RowKit

structure NodV where
 id : Int
 te : Int
 vo : Int
 lb : Int
 lt : Int
 lv : Value
 s : MacV
 ro : Int
 vv : Value
 nv : Value
 mv : Value
 cm : Int
 o : MacV
abbrev NodV.val (N : NodV) : Value := .agg #[.int .i64 N.id, .int .i64 N.te, .int .i64 N.vo, .int .i64 N.lb, .int .i64 N.lt, N.lv, .bool N.s.x.lf, N.s.x.p, N.s.x.c, N.s.x.k, N.s.x.b, N.s.v, .int .i64 N.ro, N.vv, N.nv, N.mv, .int .i64 N.cm, .bool N.o.x.lf, N.o.x.p, N.o.x.c, N.o.x.k, N.o.x.b, N.o.v]
structure Nd where
 l : EL
 T1 : Tr
 d1 : DL
 vs : List Bool
 nx : List Int
 mt : List Int
 T2 : Tr
 d2 : DL
def NodAt (n : Nat) (w : World) (N : NodV) (D : Nd) : Prop :=
 Row w N.lv D.l.length (flatE D.l) ∧ MacAt n w N.s D.T1 D.d1 ∧ Row w N.vv D.vs.length (flatL D.vs) ∧ Row w N.nv D.nx.length (flatI D.nx) ∧ Row w N.mv D.mt.length (flatI D.mt) ∧ MacAt n w N.o D.T2 D.d2
theorem NodAt.below {n : Nat} {w w' : World} {N : NodV} {D : Nd} (h : NodAt n w N D) (hb : Below w.heap.size w w') : NodAt n w' N D := ⟨h.1.below hb, h.2.1.below hb, h.2.2.1.below hb, h.2.2.2.1.below hb, h.2.2.2.2.1.below hb, h.2.2.2.2.2.below hb⟩
def Nd.small (n : Nat) (D : Nd) : Prop := D.l.length ≤ 1048576 ∧ sizeT n D.T1 ≤ 1048576 ∧ D.d1.length ≤ 1048576 ∧ D.vs.length ≤ 1048576 ∧ D.nx.length ≤ 1048576 ∧ D.mt.length ≤ 1048576 ∧ sizeT n D.T2 ≤ 1048576 ∧ D.d2.length ≤ 1048576

theorem szBoolS_any (a : Option Addr) (n cap : Nat) (left : Int) (hn : n ≤ maxLen) (hl : 0 ≤ left) (hl2 : left ≤ 1048576) (w : World) :
  Calls Tryz.prog 57 #[.slice a n cap, .int .i64 left] w fun e w' => e = .returned (.int .i64 (if (n : Int) ≤ left then left - n else -1)) ∧ w' = w := by
 unfold maxLen at hn
 by_cases h : (n : Int) ≤ left
 ·go_enter Tryz.func57, Tryz.ntmps57
  go_wp2
  go_ret
  exact ⟨rfl, rfl⟩
 ·go_enter Tryz.func57, Tryz.ntmps57
  go_wp2
  go_ret
  exact ⟨rfl, rfl⟩
def Took (m : Nat) (left r : Int) : Prop := r = -1 ∨ (0 ≤ r ∧ r ≤ left ∧ (m : Int) ≤ left)
def NodV.like (N M : NodV) : Prop := N.id = M.id ∧ N.te = M.te ∧ N.vo = M.vo ∧ N.lb = M.lb ∧ N.lt = M.lt ∧ N.ro = M.ro ∧ N.cm = M.cm
theorem eqNode_any (n : Nat) (N M : NodV) (D : Nd) (w : World) (hl : N.like M) (h : NodAt n w N D) (h2 : NodAt n w M D) :
  Calls Tryz.prog 20 #[N.val, M.val] w fun e w' => e = .returned (.bool true) ∧ Below w.heap.size w w' := by
 obtain ⟨id1, te1, vo1, lb1, lt1, lv1, ⟨⟨sl1, sp1, sc1, sk1, sb1⟩, sv1⟩, ro1, vv1, nv1, mv1, cm1, ⟨⟨ol1, op1, oc1, ok1, ob1⟩, ov1⟩⟩ := N
 obtain ⟨id2, te2, vo2, lb2, lt2, lv2, ⟨⟨sl2, sp2, sc2, sk2, sb2⟩, sv2⟩, ro2, vv2, nv2, mv2, cm2, ⟨⟨ol2, op2, oc2, ok2, ob2⟩, ov2⟩⟩ := M
 obtain ⟨e1, e2, e3, e4, e5, e6, e7⟩ := hl
 simp only at e1 e2 e3 e4 e5 e6 e7
 subst e1 e2 e3 e4 e5 e6 e7
 have H : Hid _ := And.intro h h2
 have K1 : Hid (∀ u, Below w.heap.size w u → Calls Tryz.prog 67 #[lgV lb1 lt1 lv1, lgV lb1 lt1 lv2] u fun e w' => e = .returned (.bool true) ∧ Below u.heap.size u w') := fun u hu => (eqLog_any lb1 lt1 lb1 lt1 lv1 lv2 D.l D.l u (H.out.1.below hu).1 (H.out.2.below hu).1).mono (fun e w' ⟨he, hb⟩ => ⟨by rw [he]; simp, hb⟩)
 have K2 : Hid (∀ u, Below w.heap.size w u → Calls Tryz.prog 68 #[.agg #[.bool sl1, sp1, sc1, sk1, sb1, sv1], .agg #[.bool sl2, sp2, sc2, sk2, sb2, sv2]] u fun e w' => e = .returned (.bool true) ∧ Below u.heap.size u w') := fun u hu => eqMachine_any n ⟨⟨sl1, sp1, sc1, sk1, sb1⟩, sv1⟩ ⟨⟨sl2, sp2, sc2, sk2, sb2⟩, sv2⟩ D.T1 D.d1 u (H.out.1.below hu).2.1 (H.out.2.below hu).2.1
 have K3 : Hid (∀ u, Below w.heap.size w u → Calls Tryz.prog 69 #[vv1, vv2] u fun e w' => e = .returned (.bool true) ∧ Below u.heap.size u w') := fun u hu => (eqBoolS_any vv1 vv2 D.vs D.vs u (H.out.1.below hu).2.2.1 (H.out.2.below hu).2.2.1).mono (fun e w' ⟨he, hb⟩ => ⟨by rw [he]; simp, hb⟩)
 have K4 : Hid (∀ u, Below w.heap.size w u → Calls Tryz.prog 70 #[nv1, nv2] u fun e w' => e = .returned (.bool true) ∧ Below u.heap.size u w') := fun u hu => (eqIntS_any nv1 nv2 D.nx D.nx u (H.out.1.below hu).2.2.2.1 (H.out.2.below hu).2.2.2.1).mono (fun e w' ⟨he, hb⟩ => ⟨by rw [he]; simp, hb⟩)
 have K5 : Hid (∀ u, Below w.heap.size w u → Calls Tryz.prog 70 #[mv1, mv2] u fun e w' => e = .returned (.bool true) ∧ Below u.heap.size u w') := fun u hu => (eqIntS_any mv1 mv2 D.mt D.mt u (H.out.1.below hu).2.2.2.2.1 (H.out.2.below hu).2.2.2.2.1).mono (fun e w' ⟨he, hb⟩ => ⟨by rw [he]; simp, hb⟩)
 have K6 : Hid (∀ u, Below w.heap.size w u → Calls Tryz.prog 68 #[.agg #[.bool ol1, op1, oc1, ok1, ob1, ov1], .agg #[.bool ol2, op2, oc2, ok2, ob2, ov2]] u fun e w' => e = .returned (.bool true) ∧ Below u.heap.size u w') := fun u hu => eqMachine_any n ⟨⟨ol1, op1, oc1, ok1, ob1⟩, ov1⟩ ⟨⟨ol2, op2, oc2, ok2, ob2⟩, ov2⟩ D.T2 D.d2 u (H.out.1.below hu).2.2.2.2.2 (H.out.2.below hu).2.2.2.2.2
 have B1 : Hid (Below w.heap.size w ((w.alloc (.cells #[.int .i64 id1, .int .i64 te1, .int .i64 vo1, .int .i64 lb1, .int .i64 lt1, lv1, .bool sl1, sp1, sc1, sk1, sb1, sv1, .int .i64 ro1, vv1, nv1, mv1, .int .i64 cm1, .bool ol1, op1, oc1, ok1, ob1, ov1] 73)).alloc (.cells #[.int .i64 id1, .int .i64 te1, .int .i64 vo1, .int .i64 lb1, .int .i64 lt1, lv2, .bool sl2, sp2, sc2, sk2, sb2, sv2, .int .i64 ro1, vv2, nv2, mv2, .int .i64 cm1, .bool ol2, op2, oc2, ok2, ob2, ov2] 73))) := Below.and (bel_nw _ _) (bel_nw _ _)
 have N1 : Hid (MBox 73 ((w.alloc (.cells #[.int .i64 id1, .int .i64 te1, .int .i64 vo1, .int .i64 lb1, .int .i64 lt1, lv1, .bool sl1, sp1, sc1, sk1, sb1, sv1, .int .i64 ro1, vv1, nv1, mv1, .int .i64 cm1, .bool ol1, op1, oc1, ok1, ob1, ov1] 73)).alloc (.cells #[.int .i64 id1, .int .i64 te1, .int .i64 vo1, .int .i64 lb1, .int .i64 lt1, lv2, .bool sl2, sp2, sc2, sk2, sb2, sv2, .int .i64 ro1, vv2, nv2, mv2, .int .i64 cm1, .bool ol2, op2, oc2, ok2, ob2, ov2] 73)) w.heap.size #[.int .i64 id1, .int .i64 te1, .int .i64 vo1, .int .i64 lb1, .int .i64 lt1, lv1, .bool sl1, sp1, sc1, sk1, sb1, sv1, .int .i64 ro1, vv1, nv1, mv1, .int .i64 cm1, .bool ol1, op1, oc1, ok1, ob1, ov1]) := (MBox.start _ w _).step (bel_nw _ _)
 have N2 : Hid (MBox 73 ((w.alloc (.cells #[.int .i64 id1, .int .i64 te1, .int .i64 vo1, .int .i64 lb1, .int .i64 lt1, lv1, .bool sl1, sp1, sc1, sk1, sb1, sv1, .int .i64 ro1, vv1, nv1, mv1, .int .i64 cm1, .bool ol1, op1, oc1, ok1, ob1, ov1] 73)).alloc (.cells #[.int .i64 id1, .int .i64 te1, .int .i64 vo1, .int .i64 lb1, .int .i64 lt1, lv2, .bool sl2, sp2, sc2, sk2, sb2, sv2, .int .i64 ro1, vv2, nv2, mv2, .int .i64 cm1, .bool ol2, op2, oc2, ok2, ob2, ov2] 73)) (w.heap.size + 1) #[.int .i64 id1, .int .i64 te1, .int .i64 vo1, .int .i64 lb1, .int .i64 lt1, lv2, .bool sl2, sp2, sc2, sk2, sb2, sv2, .int .i64 ro1, vv2, nv2, mv2, .int .i64 cm1, .bool ol2, op2, oc2, ok2, ob2, ov2]) := by
  have := MBox.start 73 (w.alloc (.cells #[.int .i64 id1, .int .i64 te1, .int .i64 vo1, .int .i64 lb1, .int .i64 lt1, lv1, .bool sl1, sp1, sc1, sk1, sb1, sv1, .int .i64 ro1, vv1, nv1, mv1, .int .i64 cm1, .bool ol1, op1, oc1, ok1, ob1, ov1] 73)) #[.int .i64 id1, .int .i64 te1, .int .i64 vo1, .int .i64 lb1, .int .i64 lt1, lv2, .bool sl2, sp2, sc2, sk2, sb2, sv2, .int .i64 ro1, vv2, nv2, mv2, .int .i64 cm1, .bool ol2, op2, oc2, ok2, ob2, ov2]
  rw [World.size_alloc] at this
  exact this
 have c1 := N1.out.cells
 have d1 := N2.out.cells
 clear h h2 H
 show Calls Tryz.prog 20 #[.agg #[.int .i64 id1, .int .i64 te1, .int .i64 vo1, .int .i64 lb1, .int .i64 lt1, lv1, .bool sl1, sp1, sc1, sk1, sb1, sv1, .int .i64 ro1, vv1, nv1, mv1, .int .i64 cm1, .bool ol1, op1, oc1, ok1, ob1, ov1], .agg #[.int .i64 id1, .int .i64 te1, .int .i64 vo1, .int .i64 lb1, .int .i64 lt1, lv2, .bool sl2, sp2, sc2, sk2, sb2, sv2, .int .i64 ro1, vv2, nv2, mv2, .int .i64 cm1, .bool ol2, op2, oc2, ok2, ob2, ov2]] w _
 go_enter Tryz.func20, Tryz.ntmps20
 go_wp2_with fail
 generalize ((w.alloc (.cells #[.int .i64 id1, .int .i64 te1, .int .i64 vo1, .int .i64 lb1, .int .i64 lt1, lv1, .bool sl1, sp1, sc1, sk1, sb1, sv1, .int .i64 ro1, vv1, nv1, mv1, .int .i64 cm1, .bool ol1, op1, oc1, ok1, ob1, ov1] 73)).alloc (.cells #[.int .i64 id1, .int .i64 te1, .int .i64 vo1, .int .i64 lb1, .int .i64 lt1, lv2, .bool sl2, sp2, sc2, sk2, sb2, sv2, .int .i64 ro1, vv2, nv2, mv2, .int .i64 cm1, .bool ol2, op2, oc2, ok2, ob2, ov2] 73)) = W at *
 refine (K1.out _ B1.out).mono ?_
 rintro e w1 ⟨rfl, b1⟩
 replace B1 : Hid (Below w.heap.size w w1) := Below.and B1.out b1
 replace N1 : Hid (MBox 73 w1 w.heap.size #[.int .i64 id1, .int .i64 te1, .int .i64 vo1, .int .i64 lb1, .int .i64 lt1, lv1, .bool sl1, sp1, sc1, sk1, sb1, sv1, .int .i64 ro1, vv1, nv1, mv1, .int .i64 cm1, .bool ol1, op1, oc1, ok1, ob1, ov1]) := N1.out.step b1
 replace N2 : Hid (MBox 73 w1 (w.heap.size + 1) #[.int .i64 id1, .int .i64 te1, .int .i64 vo1, .int .i64 lb1, .int .i64 lt1, lv2, .bool sl2, sp2, sc2, sk2, sb2, sv2, .int .i64 ro1, vv2, nv2, mv2, .int .i64 cm1, .bool ol2, op2, oc2, ok2, ob2, ov2]) := N2.out.step b1
 clear b1 c1 d1
 have c1 := N1.out.cells
 have d1 := N2.out.cells
 go_wp2_with fail
 refine (K2.out _ B1.out).mono ?_
 rintro e w2 ⟨rfl, b2⟩
 replace B1 : Hid (Below w.heap.size w w2) := Below.and B1.out b2
 replace N1 : Hid (MBox 73 w2 w.heap.size #[.int .i64 id1, .int .i64 te1, .int .i64 vo1, .int .i64 lb1, .int .i64 lt1, lv1, .bool sl1, sp1, sc1, sk1, sb1, sv1, .int .i64 ro1, vv1, nv1, mv1, .int .i64 cm1, .bool ol1, op1, oc1, ok1, ob1, ov1]) := N1.out.step b2
 replace N2 : Hid (MBox 73 w2 (w.heap.size + 1) #[.int .i64 id1, .int .i64 te1, .int .i64 vo1, .int .i64 lb1, .int .i64 lt1, lv2, .bool sl2, sp2, sc2, sk2, sb2, sv2, .int .i64 ro1, vv2, nv2, mv2, .int .i64 cm1, .bool ol2, op2, oc2, ok2, ob2, ov2]) := N2.out.step b2
 clear b2 c1 d1
 have c1 := N1.out.cells
 have d1 := N2.out.cells
 go_wp2_with fail
 refine (K3.out _ B1.out).mono ?_
 rintro e w3 ⟨rfl, b3⟩
 replace B1 : Hid (Below w.heap.size w w3) := Below.and B1.out b3
 replace N1 : Hid (MBox 73 w3 w.heap.size #[.int .i64 id1, .int .i64 te1, .int .i64 vo1, .int .i64 lb1, .int .i64 lt1, lv1, .bool sl1, sp1, sc1, sk1, sb1, sv1, .int .i64 ro1, vv1, nv1, mv1, .int .i64 cm1, .bool ol1, op1, oc1, ok1, ob1, ov1]) := N1.out.step b3
 replace N2 : Hid (MBox 73 w3 (w.heap.size + 1) #[.int .i64 id1, .int .i64 te1, .int .i64 vo1, .int .i64 lb1, .int .i64 lt1, lv2, .bool sl2, sp2, sc2, sk2, sb2, sv2, .int .i64 ro1, vv2, nv2, mv2, .int .i64 cm1, .bool ol2, op2, oc2, ok2, ob2, ov2]) := N2.out.step b3
 clear b3 c1 d1
 have c1 := N1.out.cells
 have d1 := N2.out.cells
 go_wp2_with fail
 refine (K4.out _ B1.out).mono ?_
 rintro e w4 ⟨rfl, b4⟩
 replace B1 : Hid (Below w.heap.size w w4) := Below.and B1.out b4
 replace N1 : Hid (MBox 73 w4 w.heap.size #[.int .i64 id1, .int .i64 te1, .int .i64 vo1, .int .i64 lb1, .int .i64 lt1, lv1, .bool sl1, sp1, sc1, sk1, sb1, sv1, .int .i64 ro1, vv1, nv1, mv1, .int .i64 cm1, .bool ol1, op1, oc1, ok1, ob1, ov1]) := N1.out.step b4
 replace N2 : Hid (MBox 73 w4 (w.heap.size + 1) #[.int .i64 id1, .int .i64 te1, .int .i64 vo1, .int .i64 lb1, .int .i64 lt1, lv2, .bool sl2, sp2, sc2, sk2, sb2, sv2, .int .i64 ro1, vv2, nv2, mv2, .int .i64 cm1, .bool ol2, op2, oc2, ok2, ob2, ov2]) := N2.out.step b4
 clear b4 c1 d1
 have c1 := N1.out.cells
 have d1 := N2.out.cells
 go_wp2_with fail
 refine (K5.out _ B1.out).mono ?_
 rintro e w5 ⟨rfl, b5⟩
 replace B1 : Hid (Below w.heap.size w w5) := Below.and B1.out b5
 replace N1 : Hid (MBox 73 w5 w.heap.size #[.int .i64 id1, .int .i64 te1, .int .i64 vo1, .int .i64 lb1, .int .i64 lt1, lv1, .bool sl1, sp1, sc1, sk1, sb1, sv1, .int .i64 ro1, vv1, nv1, mv1, .int .i64 cm1, .bool ol1, op1, oc1, ok1, ob1, ov1]) := N1.out.step b5
 replace N2 : Hid (MBox 73 w5 (w.heap.size + 1) #[.int .i64 id1, .int .i64 te1, .int .i64 vo1, .int .i64 lb1, .int .i64 lt1, lv2, .bool sl2, sp2, sc2, sk2, sb2, sv2, .int .i64 ro1, vv2, nv2, mv2, .int .i64 cm1, .bool ol2, op2, oc2, ok2, ob2, ov2]) := N2.out.step b5
 clear b5 c1 d1
 have c1 := N1.out.cells
 have d1 := N2.out.cells
 go_wp2_with fail
 refine (K6.out _ B1.out).mono ?_
 rintro e w6 ⟨rfl, b6⟩
 replace B1 : Hid (Below w.heap.size w w6) := Below.and B1.out b6
 replace N1 : Hid (MBox 73 w6 w.heap.size #[.int .i64 id1, .int .i64 te1, .int .i64 vo1, .int .i64 lb1, .int .i64 lt1, lv1, .bool sl1, sp1, sc1, sk1, sb1, sv1, .int .i64 ro1, vv1, nv1, mv1, .int .i64 cm1, .bool ol1, op1, oc1, ok1, ob1, ov1]) := N1.out.step b6
 replace N2 : Hid (MBox 73 w6 (w.heap.size + 1) #[.int .i64 id1, .int .i64 te1, .int .i64 vo1, .int .i64 lb1, .int .i64 lt1, lv2, .bool sl2, sp2, sc2, sk2, sb2, sv2, .int .i64 ro1, vv2, nv2, mv2, .int .i64 cm1, .bool ol2, op2, oc2, ok2, ob2, ov2]) := N2.out.step b6
 clear b6 c1 d1
 have c1 := N1.out.cells
 have d1 := N2.out.cells
 go_wp2
 go_ret
 exact ⟨rfl, B1.out⟩
end
section
open Go.RowKit

structure RpcV where
 kd : Int
 fr : Int
 tt : Int
 te : Int
 ix : Int
 it : Int
 cm : Int
 ok : Bool
 ev : Value
 s : MacV
abbrev RpcV.val (R : RpcV) : Value := .agg #[.int .i64 R.kd, .int .i64 R.fr, .int .i64 R.tt, .int .i64 R.te, .int .i64 R.ix, .int .i64 R.it, .int .i64 R.cm, .bool R.ok, R.ev, .bool R.s.x.lf, R.s.x.p, R.s.x.c, R.s.x.k, R.s.x.b, R.s.v]
structure Rd where
 l : EL
 T : Tr
 d : DL
def RpcAt (n : Nat) (w : World) (R : RpcV) (D : Rd) : Prop := Row w R.ev D.l.length (flatE D.l) ∧ MacAt n w R.s D.T D.d
theorem RpcAt.below {n : Nat} {w w' : World} {R : RpcV} {D : Rd} (h : RpcAt n w R D) (hb : Below w.heap.size w w') : RpcAt n w' R D := ⟨h.1.below hb, h.2.below hb⟩
def Rd.small (n : Nat) (D : Rd) : Prop := D.l.length ≤ 1048576 ∧ sizeT n D.T ≤ 1048576 ∧ D.d.length ≤ 1048576

def RpcV.like (R S : RpcV) : Prop := R.kd = S.kd ∧ R.fr = S.fr ∧ R.tt = S.tt ∧ R.te = S.te ∧ R.ix = S.ix ∧ R.it = S.it ∧ R.cm = S.cm ∧ R.ok = S.ok
theorem eqRpc_any (n : Nat) (R S : RpcV) (D : Rd) (w : World) (hl : R.like S) (h : RpcAt n w R D) (h2 : RpcAt n w S D) :
  Calls Tryz.prog 40 #[R.val, S.val] w fun e w' => e = .returned (.bool true) ∧ Below w.heap.size w w' := by
 obtain ⟨kd1, fr1, tt1, te1, ix1, it1, cm1, ok1, ev1, ⟨⟨sl1, sp1, sc1, sk1, sb1⟩, sv1⟩⟩ := R
 obtain ⟨kd2, fr2, tt2, te2, ix2, it2, cm2, ok2, ev2, ⟨⟨sl2, sp2, sc2, sk2, sb2⟩, sv2⟩⟩ := S
 obtain ⟨e1, e2, e3, e4, e5, e6, e7, e8⟩ := hl
 simp only at e1 e2 e3 e4 e5 e6 e7 e8
 subst e1 e2 e3 e4 e5 e6 e7 e8
 have H : Hid _ := And.intro h h2
 have K1 : Hid (∀ u, Below w.heap.size w u → Calls Tryz.prog 89 #[ev1, ev2] u fun e w' => e = .returned (.bool true) ∧ Below u.heap.size u w') := fun u hu => (eqEntryS_any ev1 ev2 D.l D.l u (H.out.1.below hu).1 (H.out.2.below hu).1).mono (fun e w' ⟨he, hb⟩ => ⟨by rw [he]; simp, hb⟩)
 have K2 : Hid (∀ u, Below w.heap.size w u → Calls Tryz.prog 68 #[.agg #[.bool sl1, sp1, sc1, sk1, sb1, sv1], .agg #[.bool sl2, sp2, sc2, sk2, sb2, sv2]] u fun e w' => e = .returned (.bool true) ∧ Below u.heap.size u w') := fun u hu => eqMachine_any n ⟨⟨sl1, sp1, sc1, sk1, sb1⟩, sv1⟩ ⟨⟨sl2, sp2, sc2, sk2, sb2⟩, sv2⟩ D.T D.d u (H.out.1.below hu).2 (H.out.2.below hu).2
 have B1 : Hid (Below w.heap.size w ((w.alloc (.cells #[.int .i64 kd1, .int .i64 fr1, .int .i64 tt1, .int .i64 te1, .int .i64 ix1, .int .i64 it1, .int .i64 cm1, .bool ok1, ev1, .bool sl1, sp1, sc1, sk1, sb1, sv1] 87)).alloc (.cells #[.int .i64 kd1, .int .i64 fr1, .int .i64 tt1, .int .i64 te1, .int .i64 ix1, .int .i64 it1, .int .i64 cm1, .bool ok1, ev2, .bool sl2, sp2, sc2, sk2, sb2, sv2] 87))) := Below.and (bel_nw _ _) (bel_nw _ _)
 have N1 : Hid (MBox 87 ((w.alloc (.cells #[.int .i64 kd1, .int .i64 fr1, .int .i64 tt1, .int .i64 te1, .int .i64 ix1, .int .i64 it1, .int .i64 cm1, .bool ok1, ev1, .bool sl1, sp1, sc1, sk1, sb1, sv1] 87)).alloc (.cells #[.int .i64 kd1, .int .i64 fr1, .int .i64 tt1, .int .i64 te1, .int .i64 ix1, .int .i64 it1, .int .i64 cm1, .bool ok1, ev2, .bool sl2, sp2, sc2, sk2, sb2, sv2] 87)) w.heap.size #[.int .i64 kd1, .int .i64 fr1, .int .i64 tt1, .int .i64 te1, .int .i64 ix1, .int .i64 it1, .int .i64 cm1, .bool ok1, ev1, .bool sl1, sp1, sc1, sk1, sb1, sv1]) := (MBox.start _ w _).step (bel_nw _ _)
 have N2 : Hid (MBox 87 ((w.alloc (.cells #[.int .i64 kd1, .int .i64 fr1, .int .i64 tt1, .int .i64 te1, .int .i64 ix1, .int .i64 it1, .int .i64 cm1, .bool ok1, ev1, .bool sl1, sp1, sc1, sk1, sb1, sv1] 87)).alloc (.cells #[.int .i64 kd1, .int .i64 fr1, .int .i64 tt1, .int .i64 te1, .int .i64 ix1, .int .i64 it1, .int .i64 cm1, .bool ok1, ev2, .bool sl2, sp2, sc2, sk2, sb2, sv2] 87)) (w.heap.size + 1) #[.int .i64 kd1, .int .i64 fr1, .int .i64 tt1, .int .i64 te1, .int .i64 ix1, .int .i64 it1, .int .i64 cm1, .bool ok1, ev2, .bool sl2, sp2, sc2, sk2, sb2, sv2]) := by
  have := MBox.start 87 (w.alloc (.cells #[.int .i64 kd1, .int .i64 fr1, .int .i64 tt1, .int .i64 te1, .int .i64 ix1, .int .i64 it1, .int .i64 cm1, .bool ok1, ev1, .bool sl1, sp1, sc1, sk1, sb1, sv1] 87)) #[.int .i64 kd1, .int .i64 fr1, .int .i64 tt1, .int .i64 te1, .int .i64 ix1, .int .i64 it1, .int .i64 cm1, .bool ok1, ev2, .bool sl2, sp2, sc2, sk2, sb2, sv2]
  rw [World.size_alloc] at this
  exact this
 have c1 := N1.out.cells
 have d1 := N2.out.cells
 clear h h2 H
 have ho : (ok1 != ok1) = false := by cases ok1 <;> rfl
 show Calls Tryz.prog 40 #[.agg #[.int .i64 kd1, .int .i64 fr1, .int .i64 tt1, .int .i64 te1, .int .i64 ix1, .int .i64 it1, .int .i64 cm1, .bool ok1, ev1, .bool sl1, sp1, sc1, sk1, sb1, sv1], .agg #[.int .i64 kd1, .int .i64 fr1, .int .i64 tt1, .int .i64 te1, .int .i64 ix1, .int .i64 it1, .int .i64 cm1, .bool ok1, ev2, .bool sl2, sp2, sc2, sk2, sb2, sv2]] w _
 go_enter Tryz.func40, Tryz.ntmps40
 go_wp2_with fail
 generalize ((w.alloc (.cells #[.int .i64 kd1, .int .i64 fr1, .int .i64 tt1, .int .i64 te1, .int .i64 ix1, .int .i64 it1, .int .i64 cm1, .bool ok1, ev1, .bool sl1, sp1, sc1, sk1, sb1, sv1] 87)).alloc (.cells #[.int .i64 kd1, .int .i64 fr1, .int .i64 tt1, .int .i64 te1, .int .i64 ix1, .int .i64 it1, .int .i64 cm1, .bool ok1, ev2, .bool sl2, sp2, sc2, sk2, sb2, sv2] 87)) = W at *
 refine (K1.out _ B1.out).mono ?_
 rintro e w1 ⟨rfl, b1⟩
 replace B1 : Hid (Below w.heap.size w w1) := Below.and B1.out b1
 replace N1 : Hid (MBox 87 w1 w.heap.size #[.int .i64 kd1, .int .i64 fr1, .int .i64 tt1, .int .i64 te1, .int .i64 ix1, .int .i64 it1, .int .i64 cm1, .bool ok1, ev1, .bool sl1, sp1, sc1, sk1, sb1, sv1]) := N1.out.step b1
 replace N2 : Hid (MBox 87 w1 (w.heap.size + 1) #[.int .i64 kd1, .int .i64 fr1, .int .i64 tt1, .int .i64 te1, .int .i64 ix1, .int .i64 it1, .int .i64 cm1, .bool ok1, ev2, .bool sl2, sp2, sc2, sk2, sb2, sv2]) := N2.out.step b1
 clear b1 c1 d1
 have c1 := N1.out.cells
 have d1 := N2.out.cells
 go_wp2_with fail
 refine (K2.out _ B1.out).mono ?_
 rintro e w2 ⟨rfl, b2⟩
 replace B1 : Hid (Below w.heap.size w w2) := Below.and B1.out b2
 clear b2 c1 d1
 go_wp2
 go_ret
 exact ⟨rfl, B1.out⟩
end
section
open Go.RowKit

def Tk2 (m : Nat) (left r : Int) : Prop := r = -1 ∨ (0 ≤ r ∧ r + m ≤ left)
theorem tk2_if {m : Nat} {left : Int} (_h : 0 ≤ left) : Tk2 m left (if (m : Int) ≤ left then left - m else -1) := by
 unfold Tk2
 split
 ·right; omega
 ·left; rfl
theorem tk2_leftOf {m : Nat} {left : Int} (h : 0 ≤ left) : Tk2 m left (leftOf left m) := tk2_if h
def Nd.all (n : Nat) (D : Nd) : Nat := D.l.length + (sizeT n D.T1 + D.d1.length) + D.vs.length + D.nx.length + D.mt.length + (sizeT n D.T2 + D.d2.length)
def Rd.all (n : Nat) (D : Rd) : Nat := D.l.length + (sizeT n D.T + D.d.length)
theorem Nd.small_all {n : Nat} {D : Nd} (h : Nd.all n D ≤ 1048576) : D.small n := by
 unfold Nd.all at h
 exact ⟨by omega, by omega, by omega, by omega, by omega, by omega, by omega, by omega⟩
theorem Rd.small_all {n : Nat} {D : Rd} (h : Rd.all n D ≤ 1048576) : D.small n := by
 unfold Rd.all at h
 exact ⟨by omega, by omega, by omega⟩

theorem szNode_t (n : Nat) (N : NodV) (D : Nd) (left : Int) (w : World) (h : NodAt n w N D) (h0 : 0 ≤ left) (h1 : left ≤ 1048576) :
  Calls Tryz.prog 16 #[N.val, .int .i64 left] w fun e w' => ∃ r : Int, e = .returned (.int .i64 r) ∧ r ≤ 1048576 ∧ (¬ r < 0 → r + ((Nd.all n D : Nat) : Int) ≤ left) ∧ Below w.heap.size w w' := by
 obtain ⟨id, te, vo, lb, lt, lv, ⟨⟨sl, sp, sc, sk, sb⟩, sv⟩, ro, vv, nv, mv, cm, ⟨⟨ol, op, oc, ok, ob⟩, ov⟩⟩ := N
 obtain ⟨q1, q2, q3, q4, q5, q6⟩ := h
 obtain ⟨av, cv, hvv, hlv⟩ := q3.len
 obtain ⟨an, cn, hnv, hln⟩ := q4.len
 obtain ⟨am, cq, hmv, hlm⟩ := q5.len
 simp only at hvv hnv hmv
 subst hvv hnv hmv
 have S1 : Hid (∀ u (L : Int), Below w.heap.size w u → 0 ≤ L → L ≤ 1048576 → Calls Tryz.prog 55 #[lgV lb lt lv, .int .i64 L] u fun e w' => ∃ r : Int, e = .returned (.int .i64 r) ∧ Tk2 D.l.length L r ∧ Below u.heap.size u w') := fun u L hu a b => (szLog_any lb lt lv D.l L u (q1.below hu) a b).mono (fun e w' ⟨he, hb⟩ => ⟨_, he, tk2_if a, hb⟩)
 have S2 : Hid (∀ u (L : Int), Below w.heap.size w u → 0 ≤ L → L ≤ 1048576 → Calls Tryz.prog 56 #[.agg #[.bool sl, sp, sc, sk, sb, sv], .int .i64 L] u fun e w' => ∃ r : Int, e = .returned (.int .i64 r) ∧ Tk2 (sizeT n D.T1 + D.d1.length) L r ∧ Below u.heap.size u w') := fun u L hu a b => (szMachine_any n ⟨⟨sl, sp, sc, sk, sb⟩, sv⟩ D.T1 D.d1 L u (q2.below hu) a b).mono (fun e w' ⟨he, hb⟩ => ⟨_, he, tk2_leftOf a, hb⟩)
 have S3 : Hid (∀ u (L : Int), 0 ≤ L → L ≤ 1048576 → Calls Tryz.prog 57 #[.slice av D.vs.length cv, .int .i64 L] u fun e w' => ∃ r : Int, e = .returned (.int .i64 r) ∧ Tk2 D.vs.length L r ∧ w' = u) := fun u L a b => (szBoolS_any av _ cv L hlv a b u).mono (fun e w' ⟨he, hb⟩ => ⟨_, he, tk2_if a, hb⟩)
 have S4 : Hid (∀ u (L : Int), 0 ≤ L → L ≤ 1048576 → Calls Tryz.prog 58 #[.slice an D.nx.length cn, .int .i64 L] u fun e w' => ∃ r : Int, e = .returned (.int .i64 r) ∧ Tk2 D.nx.length L r ∧ w' = u) := fun u L a b => (szIntS_any an _ cn L hln a b u).mono (fun e w' ⟨he, hb⟩ => ⟨_, he, tk2_if a, hb⟩)
 have S5 : Hid (∀ u (L : Int), 0 ≤ L → L ≤ 1048576 → Calls Tryz.prog 58 #[.slice am D.mt.length cq, .int .i64 L] u fun e w' => ∃ r : Int, e = .returned (.int .i64 r) ∧ Tk2 D.mt.length L r ∧ w' = u) := fun u L a b => (szIntS_any am _ cq L hlm a b u).mono (fun e w' ⟨he, hb⟩ => ⟨_, he, tk2_if a, hb⟩)
 have S6 : Hid (∀ u (L : Int), Below w.heap.size w u → 0 ≤ L → L ≤ 1048576 → Calls Tryz.prog 56 #[.agg #[.bool ol, op, oc, ok, ob, ov], .int .i64 L] u fun e w' => ∃ r : Int, e = .returned (.int .i64 r) ∧ Tk2 (sizeT n D.T2 + D.d2.length) L r ∧ Below u.heap.size u w') := fun u L hu a b => (szMachine_any n ⟨⟨ol, op, oc, ok, ob⟩, ov⟩ D.T2 D.d2 L u (q6.below hu) a b).mono (fun e w' ⟨he, hb⟩ => ⟨_, he, tk2_leftOf a, hb⟩)
 have FIN : Hid (∀ r1 r2 r3 r4 r5 r6 : Int, Tk2 D.l.length left r1 → 0 ≤ r1 → Tk2 (sizeT n D.T1 + D.d1.length) r1 r2 → 0 ≤ r2 → Tk2 D.vs.length r2 r3 → 0 ≤ r3 → Tk2 D.nx.length r3 r4 → 0 ≤ r4 → Tk2 D.mt.length r4 r5 → 0 ≤ r5 → Tk2 (sizeT n D.T2 + D.d2.length) r5 r6 → 0 ≤ r6 → r6 + ((Nd.all n D : Nat) : Int) ≤ left) := fun r1 r2 r3 r4 r5 r6 t1 k1 t2 k2 t3 k3 t4 k4 t5 k5 t6 k6 => by
  unfold Tk2 at t1 t2 t3 t4 t5 t6
  unfold Nd.all
  omega
 generalize Nd.all n D = SM at *
 generalize D.l.length = n1 at *
 generalize sizeT n D.T1 + D.d1.length = n2 at *
 generalize D.vs.length = nB at *
 generalize D.nx.length = nN at *
 generalize D.mt.length = nM at *
 generalize sizeT n D.T2 + D.d2.length = n6 at *
 clear q1 q2 q3 q4 q5 q6 hlv hln hlm
 have N1 : Hid (MBox 59 (w.alloc (.cells #[.int .i64 id, .int .i64 te, .int .i64 vo, .int .i64 lb, .int .i64 lt, lv, .bool sl, sp, sc, sk, sb, sv, .int .i64 ro, .slice av nB cv, .slice an nN cn, .slice am nM cq, .int .i64 cm, .bool ol, op, oc, ok, ob, ov] 59)) w.heap.size #[.int .i64 id, .int .i64 te, .int .i64 vo, .int .i64 lb, .int .i64 lt, lv, .bool sl, sp, sc, sk, sb, sv, .int .i64 ro, .slice av nB cv, .slice an nN cn, .slice am nM cq, .int .i64 cm, .bool ol, op, oc, ok, ob, ov]) := MBox.start _ w _
 have B1 : Hid (Below w.heap.size w (w.alloc (.cells #[.int .i64 id, .int .i64 te, .int .i64 vo, .int .i64 lb, .int .i64 lt, lv, .bool sl, sp, sc, sk, sb, sv, .int .i64 ro, .slice av nB cv, .slice an nN cn, .slice am nM cq, .int .i64 cm, .bool ol, op, oc, ok, ob, ov] 59))) := bel_nw _ _
 have c1 := N1.out.cells
 show Calls Tryz.prog 16 #[.agg #[.int .i64 id, .int .i64 te, .int .i64 vo, .int .i64 lb, .int .i64 lt, lv, .bool sl, sp, sc, sk, sb, sv, .int .i64 ro, .slice av nB cv, .slice an nN cn, .slice am nM cq, .int .i64 cm, .bool ol, op, oc, ok, ob, ov], .int .i64 left] w _
 go_enter Tryz.func16, Tryz.ntmps16
 go_wp2_with fail
 generalize w.alloc (.cells #[.int .i64 id, .int .i64 te, .int .i64 vo, .int .i64 lb, .int .i64 lt, lv, .bool sl, sp, sc, sk, sb, sv, .int .i64 ro, .slice av nB cv, .slice an nN cn, .slice am nM cq, .int .i64 cm, .bool ol, op, oc, ok, ob, ov] 59) = W at *
 refine (S1.out _ left B1.out (by omega) (by omega)).mono ?_
 rintro e w1 ⟨r1, rfl, t1, b1⟩
 replace B1 : Hid (Below w.heap.size w w1) := Below.and B1.out b1
 replace N1 : Hid (MBox 59 w1 w.heap.size #[.int .i64 id, .int .i64 te, .int .i64 vo, .int .i64 lb, .int .i64 lt, lv, .bool sl, sp, sc, sk, sb, sv, .int .i64 ro, .slice av nB cv, .slice an nN cn, .slice am nM cq, .int .i64 cm, .bool ol, op, oc, ok, ob, ov]) := N1.out.step b1
 clear b1 c1
 have c1 := N1.out.cells
 have T1 : Hid _ := t1
 have u1 : r1 ≤ 1048576 := by unfold Tk2 at t1; omega
 clear t1
 by_cases p1 : r1 < 0
 ·go_wp2
  go_ret
  exact ⟨_, rfl, by omega, fun h => by omega, B1.out⟩
 go_wp2_with fail
 refine (S2.out _ r1 B1.out (by omega) (by omega)).mono ?_
 rintro e w2 ⟨r2, rfl, t2, b2⟩
 replace B1 : Hid (Below w.heap.size w w2) := Below.and B1.out b2
 replace N1 : Hid (MBox 59 w2 w.heap.size #[.int .i64 id, .int .i64 te, .int .i64 vo, .int .i64 lb, .int .i64 lt, lv, .bool sl, sp, sc, sk, sb, sv, .int .i64 ro, .slice av nB cv, .slice an nN cn, .slice am nM cq, .int .i64 cm, .bool ol, op, oc, ok, ob, ov]) := N1.out.step b2
 clear b2 c1
 have c1 := N1.out.cells
 have T2 : Hid _ := t2
 have u2 : r2 ≤ 1048576 := by unfold Tk2 at t2; omega
 clear t2
 by_cases p2 : r2 < 0
 ·go_wp2
  go_ret
  exact ⟨_, rfl, by omega, fun h => by omega, B1.out⟩
 go_wp2_with fail
 refine (S3.out _ r2 (by omega) (by omega)).mono ?_
 rintro e w3 ⟨r3, rfl, t3, b3⟩
 subst b3
 have T3 : Hid _ := t3
 have u3 : r3 ≤ 1048576 := by unfold Tk2 at t3; omega
 clear t3
 by_cases p3 : r3 < 0
 ·go_wp2
  go_ret
  exact ⟨_, rfl, by omega, fun h => by omega, B1.out⟩
 go_wp2_with fail
 refine (S4.out _ r3 (by omega) (by omega)).mono ?_
 rintro e w4 ⟨r4, rfl, t4, b4⟩
 subst b4
 have T4 : Hid _ := t4
 have u4 : r4 ≤ 1048576 := by unfold Tk2 at t4; omega
 clear t4
 by_cases p4 : r4 < 0
 ·go_wp2
  go_ret
  exact ⟨_, rfl, by omega, fun h => by omega, B1.out⟩
 go_wp2_with fail
 refine (S5.out _ r4 (by omega) (by omega)).mono ?_
 rintro e w5 ⟨r5, rfl, t5, b5⟩
 subst b5
 have T5 : Hid _ := t5
 have u5 : r5 ≤ 1048576 := by unfold Tk2 at t5; omega
 clear t5
 by_cases p5 : r5 < 0
 ·go_wp2
  go_ret
  exact ⟨_, rfl, by omega, fun h => by omega, B1.out⟩
 go_wp2_with fail
 refine (S6.out _ r5 B1.out (by omega) (by omega)).mono ?_
 rintro e w6 ⟨r6, rfl, t6, b6⟩
 replace B1 : Hid (Below w.heap.size w w6) := Below.and B1.out b6
 replace N1 : Hid (MBox 59 w6 w.heap.size #[.int .i64 id, .int .i64 te, .int .i64 vo, .int .i64 lb, .int .i64 lt, lv, .bool sl, sp, sc, sk, sb, sv, .int .i64 ro, .slice av nB cv, .slice an nN cn, .slice am nM cq, .int .i64 cm, .bool ol, op, oc, ok, ob, ov]) := N1.out.step b6
 clear b6 c1
 have c1 := N1.out.cells
 have T6 : Hid _ := t6
 have u6 : r6 ≤ 1048576 := by unfold Tk2 at t6; omega
 clear t6
 by_cases p6 : r6 < 0
 ·go_wp2
  go_ret
  exact ⟨_, rfl, by omega, fun h => by omega, B1.out⟩
 go_wp2
 go_ret
 exact ⟨_, rfl, by omega, fun _ => FIN.out r1 r2 r3 r4 r5 r6 T1.out (by omega) T2.out (by omega) T3.out (by omega) T4.out (by omega) T5.out (by omega) T6.out (by omega), B1.out⟩

theorem szRpc_t (n : Nat) (R : RpcV) (D : Rd) (left : Int) (w : World) (h : RpcAt n w R D) (h0 : 0 ≤ left) (h1 : left ≤ 1048576) :
  Calls Tryz.prog 26 #[R.val, .int .i64 left] w fun e w' => ∃ r : Int, e = .returned (.int .i64 r) ∧ r ≤ 1048576 ∧ (¬ r < 0 → r + ((Rd.all n D : Nat) : Int) ≤ left) ∧ Below w.heap.size w w' := by
 obtain ⟨kd, fr, tt, te, ix, it, cm, ok, ev, ⟨⟨sl, sp, sc, sk, sb⟩, sv⟩⟩ := R
 obtain ⟨q1, q2⟩ := h
 obtain ⟨av, cv, hvv, hlv⟩ := q1.len
 simp only at hvv
 subst hvv
 have S1 : Hid (∀ u (L : Int), 0 ≤ L → L ≤ 1048576 → Calls Tryz.prog 74 #[.slice av D.l.length cv, .int .i64 L] u fun e w' => ∃ r : Int, e = .returned (.int .i64 r) ∧ Tk2 D.l.length L r ∧ w' = u) := fun u L a b => (szEntryS_any av _ cv L hlv a b u).mono (fun e w' ⟨he, hb⟩ => ⟨_, he, tk2_if a, hb⟩)
 have S2 : Hid (∀ u (L : Int), Below w.heap.size w u → 0 ≤ L → L ≤ 1048576 → Calls Tryz.prog 56 #[.agg #[.bool sl, sp, sc, sk, sb, sv], .int .i64 L] u fun e w' => ∃ r : Int, e = .returned (.int .i64 r) ∧ Tk2 (sizeT n D.T + D.d.length) L r ∧ Below u.heap.size u w') := fun u L hu a b => (szMachine_any n ⟨⟨sl, sp, sc, sk, sb⟩, sv⟩ D.T D.d L u (q2.below hu) a b).mono (fun e w' ⟨he, hb⟩ => ⟨_, he, tk2_leftOf a, hb⟩)
 have FIN : Hid (∀ r1 r2 : Int, Tk2 D.l.length left r1 → 0 ≤ r1 → Tk2 (sizeT n D.T + D.d.length) r1 r2 → 0 ≤ r2 → r2 + ((Rd.all n D : Nat) : Int) ≤ left) := fun r1 r2 t1 k1 t2 k2 => by
  unfold Tk2 at t1 t2
  unfold Rd.all
  omega
 generalize Rd.all n D = SM at *
 generalize D.l.length = nE at *
 generalize sizeT n D.T + D.d.length = n2 at *
 clear q1 q2 hlv
 have N1 : Hid (MBox 84 (w.alloc (.cells #[.int .i64 kd, .int .i64 fr, .int .i64 tt, .int .i64 te, .int .i64 ix, .int .i64 it, .int .i64 cm, .bool ok, .slice av nE cv, .bool sl, sp, sc, sk, sb, sv] 84)) w.heap.size #[.int .i64 kd, .int .i64 fr, .int .i64 tt, .int .i64 te, .int .i64 ix, .int .i64 it, .int .i64 cm, .bool ok, .slice av nE cv, .bool sl, sp, sc, sk, sb, sv]) := MBox.start _ w _
 have B1 : Hid (Below w.heap.size w (w.alloc (.cells #[.int .i64 kd, .int .i64 fr, .int .i64 tt, .int .i64 te, .int .i64 ix, .int .i64 it, .int .i64 cm, .bool ok, .slice av nE cv, .bool sl, sp, sc, sk, sb, sv] 84))) := bel_nw _ _
 have c1 := N1.out.cells
 show Calls Tryz.prog 26 #[.agg #[.int .i64 kd, .int .i64 fr, .int .i64 tt, .int .i64 te, .int .i64 ix, .int .i64 it, .int .i64 cm, .bool ok, .slice av nE cv, .bool sl, sp, sc, sk, sb, sv], .int .i64 left] w _
 go_enter Tryz.func26, Tryz.ntmps26
 go_wp2_with fail
 generalize w.alloc (.cells #[.int .i64 kd, .int .i64 fr, .int .i64 tt, .int .i64 te, .int .i64 ix, .int .i64 it, .int .i64 cm, .bool ok, .slice av nE cv, .bool sl, sp, sc, sk, sb, sv] 84) = W at *
 refine (S1.out _ left (by omega) (by omega)).mono ?_
 rintro e w1 ⟨r1, rfl, t1, b1⟩
 subst b1
 have T1 : Hid _ := t1
 have u1 : r1 ≤ 1048576 := by unfold Tk2 at t1; omega
 clear t1
 by_cases p1 : r1 < 0
 ·go_wp2
  go_ret
  exact ⟨_, rfl, by omega, fun h => by omega, B1.out⟩
 go_wp2_with fail
 refine (S2.out _ r1 B1.out (by omega) (by omega)).mono ?_
 rintro e w2 ⟨r2, rfl, t2, b2⟩
 replace B1 : Hid (Below w.heap.size w w2) := Below.and B1.out b2
 clear b2 c1
 have T2 : Hid _ := t2
 have u2 : r2 ≤ 1048576 := by unfold Tk2 at t2; omega
 clear t2
 by_cases p2 : r2 < 0
 ·go_wp2
  go_ret
  exact ⟨_, rfl, by omega, fun h => by omega, B1.out⟩
 go_wp2
 go_ret
 exact ⟨_, rfl, by omega, fun _ => FIN.out r1 r2 T1.out (by omega) T2.out (by omega), B1.out⟩
end
end Go.Proofs.YtkcaelfkcepdkaaGreat
