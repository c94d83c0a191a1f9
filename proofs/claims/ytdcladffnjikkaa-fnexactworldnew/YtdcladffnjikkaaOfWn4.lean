/-
  Nodes in memory: the laws' own functions that measure and compare them.
  toMachine: a machine copied out of the law's own kind.
  toMachine: a machine copied out of the law's own kind owns its memory.
  toNode: a node copied out of the law's own kind owns its memory.
  What chapter 2 says of trees, as plain functions.
  Contracts of MapOk, the model's and the program's.
-/
import Derived.Test.YtdcladffnjikkaaOfWn2
import Derived.Test.YtdcladffnjikkaaOfWn3
import Derived.Test.YtdcladffnjikkaaOfWn1
import Derived.Deep.DeepCutAuto
import Derived.Deep.MidRow
import Derived.Laws.Rows
namespace Go.Proofs.Ytdcladffnjikkaa
set_option maxRecDepth 100000
set_option maxHeartbeats 8000000
section
open Go.RowKit

structure NodV where
 id : Int
 te : Int
 vo : Int
 lb : Int
 lt : Int
 lv : Value
 s : MacV
 ro : Int
 vv : Value
 nv : Value
 mv : Value
 cm : Int
 o : MacV
abbrev NodV.val (N : NodV) : Value := .agg #[.int .i64 N.id, .int .i64 N.te, .int .i64 N.vo, .int .i64 N.lb, .int .i64 N.lt, N.lv, .bool N.s.x.lf, N.s.x.p, N.s.x.c, N.s.x.k, N.s.x.b, N.s.v, .int .i64 N.ro, N.vv, N.nv, N.mv, .int .i64 N.cm, .bool N.o.x.lf, N.o.x.p, N.o.x.c, N.o.x.k, N.o.x.b, N.o.v]
structure Nd where
 l : EL
 T1 : Tr
 d1 : DL
 vs : List Bool
 nx : List Int
 mt : List Int
 T2 : Tr
 d2 : DL
def NodAt (n : Nat) (w : World) (N : NodV) (D : Nd) : Prop :=
 Row w N.lv D.l.length (flatE D.l) ∧ MacAt n w N.s D.T1 D.d1 ∧ Row w N.vv D.vs.length (flatL D.vs) ∧ Row w N.nv D.nx.length (flatI D.nx) ∧ Row w N.mv D.mt.length (flatI D.mt) ∧ MacAt n w N.o D.T2 D.d2
theorem NodAt.below {n : Nat} {w w' : World} {N : NodV} {D : Nd} (h : NodAt n w N D) (hb : Below w.heap.size w w') : NodAt n w' N D := ⟨h.1.below hb, h.2.1.below hb, h.2.2.1.below hb, h.2.2.2.1.below hb, h.2.2.2.2.1.below hb, h.2.2.2.2.2.below hb⟩
def Nd.small (n : Nat) (D : Nd) : Prop := D.l.length ≤ 1048576 ∧ sizeT n D.T1 ≤ 1048576 ∧ D.d1.length ≤ 1048576 ∧ D.vs.length ≤ 1048576 ∧ D.nx.length ≤ 1048576 ∧ D.mt.length ≤ 1048576 ∧ sizeT n D.T2 ≤ 1048576 ∧ D.d2.length ≤ 1048576

def Took (m : Nat) (left r : Int) : Prop := r = -1 ∨ (0 ≤ r ∧ r ≤ left ∧ (m : Int) ≤ left)
def NodV.like (N M : NodV) : Prop := N.id = M.id ∧ N.te = M.te ∧ N.vo = M.vo ∧ N.lb = M.lb ∧ N.lt = M.lt ∧ N.ro = M.ro ∧ N.cm = M.cm
theorem NodV.like.refl (N : NodV) : N.like N := ⟨rfl, rfl, rfl, rfl, rfl, rfl, rfl⟩
theorem eqNode_any (n : Nat) (N M : NodV) (D : Nd) (w : World) (hl : N.like M) (h : NodAt n w N D) (h2 : NodAt n w M D) :
  Calls Try.prog 34 #[N.val, M.val] w fun e w' => e = .returned (.bool true) ∧ Below w.heap.size w w' := by
 obtain ⟨id1, te1, vo1, lb1, lt1, lv1, ⟨⟨sl1, sp1, sc1, sk1, sb1⟩, sv1⟩, ro1, vv1, nv1, mv1, cm1, ⟨⟨ol1, op1, oc1, ok1, ob1⟩, ov1⟩⟩ := N
 obtain ⟨id2, te2, vo2, lb2, lt2, lv2, ⟨⟨sl2, sp2, sc2, sk2, sb2⟩, sv2⟩, ro2, vv2, nv2, mv2, cm2, ⟨⟨ol2, op2, oc2, ok2, ob2⟩, ov2⟩⟩ := M
 obtain ⟨e1, e2, e3, e4, e5, e6, e7⟩ := hl
 simp only at e1 e2 e3 e4 e5 e6 e7
 subst e1 e2 e3 e4 e5 e6 e7
 have H : Hid _ := And.intro h h2
 have K1 : Hid (∀ u, Below w.heap.size w u → Calls Try.prog 57 #[lgV lb1 lt1 lv1, lgV lb1 lt1 lv2] u fun e w' => e = .returned (.bool true) ∧ Below u.heap.size u w') := fun u hu => (eqLog_any lb1 lt1 lb1 lt1 lv1 lv2 D.l D.l u (H.out.1.below hu).1 (H.out.2.below hu).1).mono (fun e w' ⟨he, hb⟩ => ⟨by rw [he]; simp, hb⟩)
 have K2 : Hid (∀ u, Below w.heap.size w u → Calls Try.prog 58 #[.agg #[.bool sl1, sp1, sc1, sk1, sb1, sv1], .agg #[.bool sl2, sp2, sc2, sk2, sb2, sv2]] u fun e w' => e = .returned (.bool true) ∧ Below u.heap.size u w') := fun u hu => eqMachine_any n ⟨⟨sl1, sp1, sc1, sk1, sb1⟩, sv1⟩ ⟨⟨sl2, sp2, sc2, sk2, sb2⟩, sv2⟩ D.T1 D.d1 u (H.out.1.below hu).2.1 (H.out.2.below hu).2.1
 have K3 : Hid (∀ u, Below w.heap.size w u → Calls Try.prog 59 #[vv1, vv2] u fun e w' => e = .returned (.bool true) ∧ Below u.heap.size u w') := fun u hu => (eqBoolS_any vv1 vv2 D.vs D.vs u (H.out.1.below hu).2.2.1 (H.out.2.below hu).2.2.1).mono (fun e w' ⟨he, hb⟩ => ⟨by rw [he]; simp, hb⟩)
 have K4 : Hid (∀ u, Below w.heap.size w u → Calls Try.prog 60 #[nv1, nv2] u fun e w' => e = .returned (.bool true) ∧ Below u.heap.size u w') := fun u hu => (eqIntS_any nv1 nv2 D.nx D.nx u (H.out.1.below hu).2.2.2.1 (H.out.2.below hu).2.2.2.1).mono (fun e w' ⟨he, hb⟩ => ⟨by rw [he]; simp, hb⟩)
 have K5 : Hid (∀ u, Below w.heap.size w u → Calls Try.prog 60 #[mv1, mv2] u fun e w' => e = .returned (.bool true) ∧ Below u.heap.size u w') := fun u hu => (eqIntS_any mv1 mv2 D.mt D.mt u (H.out.1.below hu).2.2.2.2.1 (H.out.2.below hu).2.2.2.2.1).mono (fun e w' ⟨he, hb⟩ => ⟨by rw [he]; simp, hb⟩)
 have K6 : Hid (∀ u, Below w.heap.size w u → Calls Try.prog 58 #[.agg #[.bool ol1, op1, oc1, ok1, ob1, ov1], .agg #[.bool ol2, op2, oc2, ok2, ob2, ov2]] u fun e w' => e = .returned (.bool true) ∧ Below u.heap.size u w') := fun u hu => eqMachine_any n ⟨⟨ol1, op1, oc1, ok1, ob1⟩, ov1⟩ ⟨⟨ol2, op2, oc2, ok2, ob2⟩, ov2⟩ D.T2 D.d2 u (H.out.1.below hu).2.2.2.2.2 (H.out.2.below hu).2.2.2.2.2
 have B1 : Hid (Below w.heap.size w ((w.alloc (.cells #[.int .i64 id1, .int .i64 te1, .int .i64 vo1, .int .i64 lb1, .int .i64 lt1, lv1, .bool sl1, sp1, sc1, sk1, sb1, sv1, .int .i64 ro1, vv1, nv1, mv1, .int .i64 cm1, .bool ol1, op1, oc1, ok1, ob1, ov1] 48)).alloc (.cells #[.int .i64 id1, .int .i64 te1, .int .i64 vo1, .int .i64 lb1, .int .i64 lt1, lv2, .bool sl2, sp2, sc2, sk2, sb2, sv2, .int .i64 ro1, vv2, nv2, mv2, .int .i64 cm1, .bool ol2, op2, oc2, ok2, ob2, ov2] 48))) := Below.and (bel_nw _ _) (bel_nw _ _)
 have N1 : Hid (MBox 48 ((w.alloc (.cells #[.int .i64 id1, .int .i64 te1, .int .i64 vo1, .int .i64 lb1, .int .i64 lt1, lv1, .bool sl1, sp1, sc1, sk1, sb1, sv1, .int .i64 ro1, vv1, nv1, mv1, .int .i64 cm1, .bool ol1, op1, oc1, ok1, ob1, ov1] 48)).alloc (.cells #[.int .i64 id1, .int .i64 te1, .int .i64 vo1, .int .i64 lb1, .int .i64 lt1, lv2, .bool sl2, sp2, sc2, sk2, sb2, sv2, .int .i64 ro1, vv2, nv2, mv2, .int .i64 cm1, .bool ol2, op2, oc2, ok2, ob2, ov2] 48)) w.heap.size #[.int .i64 id1, .int .i64 te1, .int .i64 vo1, .int .i64 lb1, .int .i64 lt1, lv1, .bool sl1, sp1, sc1, sk1, sb1, sv1, .int .i64 ro1, vv1, nv1, mv1, .int .i64 cm1, .bool ol1, op1, oc1, ok1, ob1, ov1]) := (MBox.start _ w _).step (bel_nw _ _)
 have N2 : Hid (MBox 48 ((w.alloc (.cells #[.int .i64 id1, .int .i64 te1, .int .i64 vo1, .int .i64 lb1, .int .i64 lt1, lv1, .bool sl1, sp1, sc1, sk1, sb1, sv1, .int .i64 ro1, vv1, nv1, mv1, .int .i64 cm1, .bool ol1, op1, oc1, ok1, ob1, ov1] 48)).alloc (.cells #[.int .i64 id1, .int .i64 te1, .int .i64 vo1, .int .i64 lb1, .int .i64 lt1, lv2, .bool sl2, sp2, sc2, sk2, sb2, sv2, .int .i64 ro1, vv2, nv2, mv2, .int .i64 cm1, .bool ol2, op2, oc2, ok2, ob2, ov2] 48)) (w.heap.size + 1) #[.int .i64 id1, .int .i64 te1, .int .i64 vo1, .int .i64 lb1, .int .i64 lt1, lv2, .bool sl2, sp2, sc2, sk2, sb2, sv2, .int .i64 ro1, vv2, nv2, mv2, .int .i64 cm1, .bool ol2, op2, oc2, ok2, ob2, ov2]) := by
  have := MBox.start 48 (w.alloc (.cells #[.int .i64 id1, .int .i64 te1, .int .i64 vo1, .int .i64 lb1, .int .i64 lt1, lv1, .bool sl1, sp1, sc1, sk1, sb1, sv1, .int .i64 ro1, vv1, nv1, mv1, .int .i64 cm1, .bool ol1, op1, oc1, ok1, ob1, ov1] 48)) #[.int .i64 id1, .int .i64 te1, .int .i64 vo1, .int .i64 lb1, .int .i64 lt1, lv2, .bool sl2, sp2, sc2, sk2, sb2, sv2, .int .i64 ro1, vv2, nv2, mv2, .int .i64 cm1, .bool ol2, op2, oc2, ok2, ob2, ov2]
  rw [World.size_alloc] at this
  exact this
 have c1 := N1.out.cells
 have d1 := N2.out.cells
 clear h h2 H
 show Calls Try.prog 34 #[.agg #[.int .i64 id1, .int .i64 te1, .int .i64 vo1, .int .i64 lb1, .int .i64 lt1, lv1, .bool sl1, sp1, sc1, sk1, sb1, sv1, .int .i64 ro1, vv1, nv1, mv1, .int .i64 cm1, .bool ol1, op1, oc1, ok1, ob1, ov1], .agg #[.int .i64 id1, .int .i64 te1, .int .i64 vo1, .int .i64 lb1, .int .i64 lt1, lv2, .bool sl2, sp2, sc2, sk2, sb2, sv2, .int .i64 ro1, vv2, nv2, mv2, .int .i64 cm1, .bool ol2, op2, oc2, ok2, ob2, ov2]] w _
 go_enter Try.func34, Try.ntmps34
 go_wp2_with fail
 generalize ((w.alloc (.cells #[.int .i64 id1, .int .i64 te1, .int .i64 vo1, .int .i64 lb1, .int .i64 lt1, lv1, .bool sl1, sp1, sc1, sk1, sb1, sv1, .int .i64 ro1, vv1, nv1, mv1, .int .i64 cm1, .bool ol1, op1, oc1, ok1, ob1, ov1] 48)).alloc (.cells #[.int .i64 id1, .int .i64 te1, .int .i64 vo1, .int .i64 lb1, .int .i64 lt1, lv2, .bool sl2, sp2, sc2, sk2, sb2, sv2, .int .i64 ro1, vv2, nv2, mv2, .int .i64 cm1, .bool ol2, op2, oc2, ok2, ob2, ov2] 48)) = W at *
 refine (K1.out _ B1.out).mono ?_
 rintro e w1 ⟨rfl, b1⟩
 replace B1 : Hid (Below w.heap.size w w1) := Below.and B1.out b1
 replace N1 : Hid (MBox 48 w1 w.heap.size #[.int .i64 id1, .int .i64 te1, .int .i64 vo1, .int .i64 lb1, .int .i64 lt1, lv1, .bool sl1, sp1, sc1, sk1, sb1, sv1, .int .i64 ro1, vv1, nv1, mv1, .int .i64 cm1, .bool ol1, op1, oc1, ok1, ob1, ov1]) := N1.out.step b1
 replace N2 : Hid (MBox 48 w1 (w.heap.size + 1) #[.int .i64 id1, .int .i64 te1, .int .i64 vo1, .int .i64 lb1, .int .i64 lt1, lv2, .bool sl2, sp2, sc2, sk2, sb2, sv2, .int .i64 ro1, vv2, nv2, mv2, .int .i64 cm1, .bool ol2, op2, oc2, ok2, ob2, ov2]) := N2.out.step b1
 clear b1 c1 d1
 have c1 := N1.out.cells
 have d1 := N2.out.cells
 go_wp2_with fail
 refine (K2.out _ B1.out).mono ?_
 rintro e w2 ⟨rfl, b2⟩
 replace B1 : Hid (Below w.heap.size w w2) := Below.and B1.out b2
 replace N1 : Hid (MBox 48 w2 w.heap.size #[.int .i64 id1, .int .i64 te1, .int .i64 vo1, .int .i64 lb1, .int .i64 lt1, lv1, .bool sl1, sp1, sc1, sk1, sb1, sv1, .int .i64 ro1, vv1, nv1, mv1, .int .i64 cm1, .bool ol1, op1, oc1, ok1, ob1, ov1]) := N1.out.step b2
 replace N2 : Hid (MBox 48 w2 (w.heap.size + 1) #[.int .i64 id1, .int .i64 te1, .int .i64 vo1, .int .i64 lb1, .int .i64 lt1, lv2, .bool sl2, sp2, sc2, sk2, sb2, sv2, .int .i64 ro1, vv2, nv2, mv2, .int .i64 cm1, .bool ol2, op2, oc2, ok2, ob2, ov2]) := N2.out.step b2
 clear b2 c1 d1
 have c1 := N1.out.cells
 have d1 := N2.out.cells
 go_wp2_with fail
 refine (K3.out _ B1.out).mono ?_
 rintro e w3 ⟨rfl, b3⟩
 replace B1 : Hid (Below w.heap.size w w3) := Below.and B1.out b3
 replace N1 : Hid (MBox 48 w3 w.heap.size #[.int .i64 id1, .int .i64 te1, .int .i64 vo1, .int .i64 lb1, .int .i64 lt1, lv1, .bool sl1, sp1, sc1, sk1, sb1, sv1, .int .i64 ro1, vv1, nv1, mv1, .int .i64 cm1, .bool ol1, op1, oc1, ok1, ob1, ov1]) := N1.out.step b3
 replace N2 : Hid (MBox 48 w3 (w.heap.size + 1) #[.int .i64 id1, .int .i64 te1, .int .i64 vo1, .int .i64 lb1, .int .i64 lt1, lv2, .bool sl2, sp2, sc2, sk2, sb2, sv2, .int .i64 ro1, vv2, nv2, mv2, .int .i64 cm1, .bool ol2, op2, oc2, ok2, ob2, ov2]) := N2.out.step b3
 clear b3 c1 d1
 have c1 := N1.out.cells
 have d1 := N2.out.cells
 go_wp2_with fail
 refine (K4.out _ B1.out).mono ?_
 rintro e w4 ⟨rfl, b4⟩
 replace B1 : Hid (Below w.heap.size w w4) := Below.and B1.out b4
 replace N1 : Hid (MBox 48 w4 w.heap.size #[.int .i64 id1, .int .i64 te1, .int .i64 vo1, .int .i64 lb1, .int .i64 lt1, lv1, .bool sl1, sp1, sc1, sk1, sb1, sv1, .int .i64 ro1, vv1, nv1, mv1, .int .i64 cm1, .bool ol1, op1, oc1, ok1, ob1, ov1]) := N1.out.step b4
 replace N2 : Hid (MBox 48 w4 (w.heap.size + 1) #[.int .i64 id1, .int .i64 te1, .int .i64 vo1, .int .i64 lb1, .int .i64 lt1, lv2, .bool sl2, sp2, sc2, sk2, sb2, sv2, .int .i64 ro1, vv2, nv2, mv2, .int .i64 cm1, .bool ol2, op2, oc2, ok2, ob2, ov2]) := N2.out.step b4
 clear b4 c1 d1
 have c1 := N1.out.cells
 have d1 := N2.out.cells
 go_wp2_with fail
 refine (K5.out _ B1.out).mono ?_
 rintro e w5 ⟨rfl, b5⟩
 replace B1 : Hid (Below w.heap.size w w5) := Below.and B1.out b5
 replace N1 : Hid (MBox 48 w5 w.heap.size #[.int .i64 id1, .int .i64 te1, .int .i64 vo1, .int .i64 lb1, .int .i64 lt1, lv1, .bool sl1, sp1, sc1, sk1, sb1, sv1, .int .i64 ro1, vv1, nv1, mv1, .int .i64 cm1, .bool ol1, op1, oc1, ok1, ob1, ov1]) := N1.out.step b5
 replace N2 : Hid (MBox 48 w5 (w.heap.size + 1) #[.int .i64 id1, .int .i64 te1, .int .i64 vo1, .int .i64 lb1, .int .i64 lt1, lv2, .bool sl2, sp2, sc2, sk2, sb2, sv2, .int .i64 ro1, vv2, nv2, mv2, .int .i64 cm1, .bool ol2, op2, oc2, ok2, ob2, ov2]) := N2.out.step b5
 clear b5 c1 d1
 have c1 := N1.out.cells
 have d1 := N2.out.cells
 go_wp2_with fail
 refine (K6.out _ B1.out).mono ?_
 rintro e w6 ⟨rfl, b6⟩
 replace B1 : Hid (Below w.heap.size w w6) := Below.and B1.out b6
 replace N1 : Hid (MBox 48 w6 w.heap.size #[.int .i64 id1, .int .i64 te1, .int .i64 vo1, .int .i64 lb1, .int .i64 lt1, lv1, .bool sl1, sp1, sc1, sk1, sb1, sv1, .int .i64 ro1, vv1, nv1, mv1, .int .i64 cm1, .bool ol1, op1, oc1, ok1, ob1, ov1]) := N1.out.step b6
 replace N2 : Hid (MBox 48 w6 (w.heap.size + 1) #[.int .i64 id1, .int .i64 te1, .int .i64 vo1, .int .i64 lb1, .int .i64 lt1, lv2, .bool sl2, sp2, sc2, sk2, sb2, sv2, .int .i64 ro1, vv2, nv2, mv2, .int .i64 cm1, .bool ol2, op2, oc2, ok2, ob2, ov2]) := N2.out.step b6
 clear b6 c1 d1
 have c1 := N1.out.cells
 have d1 := N2.out.cells
 go_wp2
 go_ret
 exact ⟨rfl, B1.out⟩
end
section
open Go.RowKit

theorem six_at {W : World} {R : Nat} {t : TypeId} {x0 x1 x2 x3 x4 x5 : Value} (a b c d e f : Value) (h : W.heap[R]? = some (.cells #[x0, x1, x2, x3, x4, x5] t (0, 0))) : ((((((W.setCell ⟨R, 0, none⟩ a).setCell ⟨R, 1, none⟩ b).setCell ⟨R, 2, none⟩ c).setCell ⟨R, 3, none⟩ d).setCell ⟨R, 4, none⟩ e).setCell ⟨R, 5, none⟩ f).heap[R]? = some (.cells #[a, b, c, d, e, f] t (0, 0)) := by
 have h0 := heap_setCell_same W R 0 _ _ a h
 have h1 := heap_setCell_same _ R 1 _ _ b h0
 have h2 := heap_setCell_same _ R 2 _ _ c h1
 have h3 := heap_setCell_same _ R 3 _ _ d h2
 have h4 := heap_setCell_same _ R 4 _ _ e h3
 have h5 := heap_setCell_same _ R 5 _ _ f h4
 simpa using h5
theorem six_chg (W : World) (R : Nat) (a b c d e f : Value) : Chg (fun g => g = R) W ((((((W.setCell ⟨R, 0, none⟩ a).setCell ⟨R, 1, none⟩ b).setCell ⟨R, 2, none⟩ c).setCell ⟨R, 3, none⟩ d).setCell ⟨R, 4, none⟩ e).setCell ⟨R, 5, none⟩ f) :=
 ((((((Chg.refl (fun g => g = R) W).setAt R 0 rfl a).setAt R 1 rfl b).setAt R 2 rfl c).setAt R 3 rfl d).setAt R 4 rfl e).setAt R 5 rfl f
end
section
open Go.RowKit

theorem hid9 {p : Prop} (h : p) : Hid p := h
def MacOwn (n : Nat) (w : World) (base : Nat) (m : MacV) (T : Tr) (l : DL) : Prop := TreeOwn n w base m.x T ∧ w.ownsRow base 78 4 m.v l.length (flatD l)
end
section
open Go.RowKit

def NodOwn (n : Nat) (w : World) (base : Nat) (N : NodV) (D : Nd) : Prop :=
 w.ownsRow base 101 6 N.lv D.l.length (flatE D.l) ∧ MacOwn n w base N.s D.T1 D.d1 ∧ w.ownsRow base 4 1 N.vv D.vs.length (flatL D.vs) ∧ w.ownsRow base 3 1 N.nv D.nx.length (flatI D.nx) ∧ w.ownsRow base 3 1 N.mv D.mt.length (flatI D.mt) ∧ MacOwn n w base N.o D.T2 D.d2
theorem range_of {w : World} {b : Nat} {A : Array Value} {t : TypeId} (h : w.heap[b]? = some (.cells A t (0, 0))) : w.rangeAt b 0 A.toList := fun j v hv => by
 rw [Nat.zero_add, cell_of_row _ _ j _ t (0, 0) h]
 simpa using hv
theorem there_of {w : World} {b : Nat} {A : Array Value} {t : TypeId} (h : w.heap[b]? = some (.cells A t (0, 0))) {k : Nat} (hk : A.size = k) : w.there b 0 k := fun j hj => by
 subst hk
 rw [Nat.zero_add, cell_of_row _ _ j _ t (0, 0) h]
 exact ⟨by simp [hj], frozen_of_row w b j A t h⟩
theorem spl_all {cur : Array Value} {vs : List Value} (h : cur.size = vs.length) : spl cur 0 vs = vs.toArray := by
 have := spl_toList vs cur 0 (by omega)
 simp only [List.take_zero, List.nil_append, Nat.zero_add] at this
 rw [List.drop_eq_nil_of_le (by simp; omega), List.append_nil] at this
 apply Array.ext'
 simpa using this
theorem setAll_at {W : World} {R : Nat} {t : TypeId} {A : Array Value} (h : W.heap[R]? = some (.cells A t (0, 0))) (vs : List Value) (hn : A.size = vs.length) : (W.setCells R 0 vs).heap[R]? = some (.cells vs.toArray t (0, 0)) := by
 have := heap_setCells_same R t vs 0 W A h
 rw [spl_all hn] at this
 exact this
theorem step_at {w w' : World} {B : Nat} {o : Obj} (h : w.heap[B]? = some o) (hb : Below w.heap.size w w') : w'.heap[B]? = some o := (hb.block B (Array.getElem?_eq_some_iff.1 h).1).trans h
theorem set_at {W : World} {R : Nat} {t : TypeId} {A : Array Value} (i : Nat) (u : Value) (h : W.heap[R]? = some (.cells A t (0, 0))) : (W.setCell ⟨R, i, none⟩ u).heap[R]? = some (.cells (A.setIfInBounds i u) t (0, 0)) := heap_setCell_same W R i _ _ u h
theorem Row.sl {w : World} {v : Value} {k : Nat} {xs : List Value} (h : Row w v k xs) : ∃ x : Option Addr × Nat × Nat, v = .slice x.1 x.2.1 x.2.2 := by
 obtain ⟨a, _, _, cap, h1, _⟩ := h
 exact ⟨(a, k, cap), h1⟩
theorem MacAt.sl {n : Nat} {w : World} {m : MacV} {T : Tr} {l : DL} (h : MacAt n w m T l) : ∃ (b : Bool) (x1 x2 x3 x4 x5 : Option Addr × Nat × Nat), m = ⟨⟨b, .slice x1.1 x1.2.1 x1.2.2, .slice x2.1 x2.2.1 x2.2.2, .slice x3.1 x3.2.1 x3.2.2, .slice x4.1 x4.2.1 x4.2.2⟩, .slice x5.1 x5.2.1 x5.2.2⟩ := by
 obtain ⟨⟨lf, p, c, k, b⟩, v⟩ := m
 obtain ⟨t, r⟩ := h
 obtain ⟨x5, e5⟩ := r.sl
 obtain ⟨a1, a2, a3, a4, b1, b2, b3, b4, hy⟩ := t.shape
 simp only [TV.mk.injEq] at hy e5
 obtain ⟨_, f1, f2, f3, f4⟩ := hy
 subst e5 f1 f2 f3 f4
 exact ⟨lf, (a1, _, b1), (a2, _, b2), (a3, _, b3), (a4, _, b4), x5, rfl⟩
end
section
def allB (n : Nat) (f : Nat → Bool) : Bool := (List.range n).all f
theorem allB_true {n : Nat} {f : Nat → Bool} (h : ∀ i, i < n → f i = true) : allB n f = true := by
 simp only [allB, List.all_eq_true, List.mem_range]; exact h
theorem allB_false {n : Nat} {f : Nat → Bool} {i : Nat} (hi : i < n) (h : f i = false) : allB n f = false := by
 rw [Bool.eq_false_iff]
 intro hc
 simp only [allB, List.all_eq_true, List.mem_range] at hc
 rw [hc i hi] at h
 cases h
theorem allB_at {n : Nat} {f : Nat → Bool} (h : allB n f = true) {i : Nat} (hi : i < n) : f i = true := by
 simp only [allB, List.all_eq_true, List.mem_range] at h
 exact h i hi

def pairAt (T : Tr) (lo hi : Int) (i : Nat) : Bool := inB (kOf T.pairs i) lo (hi - 1)
def pairsInB (T : Tr) (lo hi : Int) : Bool := allB T.pairs.length (pairAt T lo hi)
def leafOkB (T : Tr) (lo hi : Int) : Bool := mapOkB T.pairs && (decide (T.pairs.length ≤ 4) && (decide (T.cuts.length + T.kids.length + T.buf.length = 0) && pairsInB T lo hi))
def msgAt (T : Tr) (lo hi : Int) (i : Nat) : Bool := msgOkB (mO T.buf i) (mK T.buf i) (mV T.buf i) && (!(mO T.buf i == 4) && inB (mK T.buf i) lo (hi - 1))
def bufOkB (T : Tr) (lo hi : Int) : Bool := allB T.buf.length (msgAt T lo hi)
def fromT (T : Tr) (lo : Int) (i : Nat) : Int := if i = 0 then lo else iAt T.cuts (i - 1)
def toT (T : Tr) (hi : Int) (i : Nat) : Int := if i < T.cuts.length then iAt T.cuts i else hi
def cutAt (T : Tr) (lo hi : Int) (i : Nat) : Bool := inB (iAt T.cuts i) (fromT T lo i + 1) (hi - 1)
def cutsOkB (T : Tr) (lo hi : Int) : Bool := allB T.cuts.length (cutAt T lo hi)
def shapeB (T : Tr) : Bool := decide (T.pairs.length = 0) && (decide (2 ≤ T.kids.length ∧ T.kids.length ≤ 4) && (decide (T.cuts.length + 1 = T.kids.length) && decide (T.buf.length ≤ 6)))
def forkOkB (T : Tr) (lo hi : Int) : Bool := shapeB T && (bufOkB T lo hi && cutsOkB T lo hi)
def kidsD (d : Nat → Nat) (n : Nat) : Nat := if (!(d 0 == 0) && allB n fun i => d i == d 0) = true then d 0 + 1 else 0
def depthF : Nat → Tr → Int → Int → Nat
 | 0, _, _, _ => 0
 | m + 1, T, lo, hi => if T.leaf = true then (if leafOkB T lo hi = true then 1 else 0) else if forkOkB T lo hi = true then kidsD (fun i => depthF m (kidT T i) (fromT T lo i) (toT T hi i)) T.kids.length else 0
def kidF (m : Nat) (T : Tr) (lo hi : Int) (i : Nat) : Nat := depthF m (kidT T i) (fromT T lo i) (toT T hi i)

theorem depthF_leaf {m : Nat} {T : Tr} {lo hi : Int} (h : T.leaf = true) : depthF (m + 1) T lo hi = if leafOkB T lo hi = true then 1 else 0 := by rw [depthF, if_pos h]
theorem depthF_no {m : Nat} {T : Tr} {lo hi : Int} (h : T.leaf = false) (hf : forkOkB T lo hi = false) : depthF (m + 1) T lo hi = 0 := by
 rw [depthF, if_neg (by rw [h]; decide), if_neg (by rw [hf]; decide)]
theorem depthF_fork {m : Nat} {T : Tr} {lo hi : Int} (h : T.leaf = false) (hf : forkOkB T lo hi = true) : depthF (m + 1) T lo hi = kidsD (kidF m T lo hi) T.kids.length := by
 rw [depthF, if_neg (by rw [h]; decide), if_pos hf]; rfl
theorem kidsD_zero {d : Nat → Nat} {n i : Nat} (hi : i < n) (h : d i = 0) : kidsD d n = 0 := by
 rw [kidsD, if_neg]
 intro hc
 simp only [Bool.and_eq_true] at hc
 have := allB_at hc.2 hi
 simp only [beq_iff_eq] at this
 rw [h] at this
 rw [← this] at hc
 simp at hc
theorem kidsD_ne {d : Nat → Nat} {n i : Nat} (hi : i < n) (h : d i ≠ d 0) : kidsD d n = 0 := by
 rw [kidsD, if_neg]
 intro hc
 simp only [Bool.and_eq_true] at hc
 have := allB_at hc.2 hi
 simp only [beq_iff_eq] at this
 exact h this
theorem kidsD_yes {d : Nat → Nat} {n : Nat} (h0 : d 0 ≠ 0) (h : ∀ i, i < n → d i = d 0) : kidsD d n = d 0 + 1 := by
 rw [kidsD, if_pos]
 simp only [Bool.and_eq_true]
 refine ⟨by simpa using h0, allB_true fun i hi => by simpa using h i hi⟩
theorem kidsD_le {d : Nat → Nat} {n m : Nat} (h : ∀ i, d i ≤ m) : kidsD d n ≤ m + 1 := by
 unfold kidsD
 split
 ·have := h 0; omega
 ·omega
theorem depthF_le : ∀ (m : Nat) (T : Tr) (lo hi : Int), depthF m T lo hi ≤ m
 | 0, _, _, _ => by simp [depthF]
 | m + 1, T, lo, hi => by
  rw [depthF]
  split
  ·split <;> omega
  ·split
   ·exact kidsD_le fun i => depthF_le m _ _ _
   ·omega

def pairsF : Nat → Tr → Nat
 | 0, _ => 0
 | n + 1, T => T.pairs.length + (T.kids.map (pairsF n)).sum
def msgsF : Nat → Tr → Nat
 | 0, _ => 0
 | n + 1, T => T.buf.length + (T.kids.map (msgsF n)).sum
def sumF (f : Tr → Nat) (ts : List Tr) (k : Nat) : Nat := ((ts.take k).map f).sum
def cutsTo (l : List Int) (k : Int) : Nat := (l.filter fun c => decide (c ≤ k)).length

def depthT (T : Tr) : Nat := depthF 7 T 0 1000
def okT (T : Tr) : Bool := decide (0 < depthT T)
end
section
open Go.RowKit

theorem okAt_false_k {l : List (Int × Int)} {k : Nat} (h : inB (kOf l k) 0 999 = false) : okAt l k = false := by simp [okAt, h]
theorem okAt_false_v {l : List (Int × Int)} {k : Nat} (h : inB (vOf l k) (-1000000000) 1000000000 = false) : okAt l k = false := by simp [okAt, h]
theorem okAt_zero {l : List (Int × Int)} (h : inB (kOf l 0) 0 999 = true) (h' : inB (vOf l 0) (-1000000000) 1000000000 = true) : okAt l 0 = true := by simp [okAt, h, h']
theorem okAt_succ {l : List (Int × Int)} {k : Nat} (h : inB (kOf l (k + 1)) 0 999 = true) (h' : inB (vOf l (k + 1)) (-1000000000) 1000000000 = true) (hlt : kOf l k < kOf l (k + 1)) : okAt l (k + 1) = true := by simp [okAt, h, h', hlt]
theorem okAt_false_lt {l : List (Int × Int)} {k : Nat} (hlt : kOf l (k + 1) ≤ kOf l k) : okAt l (k + 1) = false := by
 have : ¬ kOf l k < kOf l (k + 1) := by omega
 simp [okAt, this]

theorem specMapOk_any (v : Value) (l : List (Int × Int)) (w : World) (h : Row w v l.length (flatP l)) :
  Calls Try.prog 83 #[v] w fun e w' => e = .returned (.bool (mapOkB l)) ∧ Below w.heap.size w w' := by
 obtain ⟨a, b, off, cap, rfl, hcap, hmax, ha, hk, hv⟩ := h.pairs
 unfold maxLen at hmax
 go_enter Try.func83, Try.ntmps83
 go_wp2
 go_loopw [3] (fun i wr => ∃ k : Nat, k ≤ l.length ∧ i = .int .i64 k ∧ (∀ i, i < k → okAt l i = true) ∧ Below w.heap.size w wr)
  (fun i _ => l.length - (intOf i).toNat)
 case atStart => exact ⟨0, Nat.zero_le _, rfl, fun i hi => absurd hi (Nat.not_lt_zero _), Below.refl _ _⟩
 case round =>
  obtain ⟨k, hkl, rfl, hall, hb⟩ := hrel
  have ALL : Hid (∀ i, i < k → okAt l i = true) := hall
  clear hall
  by_cases hlt : k < l.length
  ·have hal := ha (by omega)
   subst hal
   have d0 : wr.cell? ⟨b, off + k * 2, none⟩ = some (.int .i64 (kOf l k)) := (hb.cell (by exact cell_lt (hk k hlt))).trans (hk k hlt)
   have d1 : wr.cell? ⟨b, off + k * 2 + 1, none⟩ = some (.int .i64 (vOf l k)) := (hb.cell (by exact cell_lt (hv k hlt))).trans (hv k hlt)
   cases hK : inB (kOf l k) 0 999
   ·have NE : Hid (mapOkB l = false) := mapOkB_false hlt (okAt_false_k hK)
    clear hk hv
    go_wp2_with fail
    go_quiet ((go_at_call 9; exact Calls.quiet_of_same (l1In_any _ _ _ _)))
    go_wp2
    go_ret
    exact ⟨ret_bool NE.out.symm, below_drewN hb _⟩
   ·cases hV : inB (vOf l k) (-1000000000) 1000000000
    ·have NE : Hid (mapOkB l = false) := mapOkB_false hlt (okAt_false_v hV)
     clear hk hv
     go_wp2_with fail
     go_quiet (first | (go_at_call 9; exact Calls.quiet_of_same (l1In_any _ _ _ _)) | (go_at_call 64; exact Calls.quiet_of_same (l1Value_any _ _)))
     go_wp2
     go_ret
     exact ⟨ret_bool NE.out.symm, below_drewN hb _⟩
    ·cases k with
     | zero =>
      have OK : Hid (okAt l 0 = true) := okAt_zero hK hV
      simp only [Nat.zero_mul, Nat.add_zero] at d0 d1
      clear hk hv
      go_wp2_with fail
      go_quiet (first | (go_at_call 9; exact Calls.quiet_of_same (l1In_any _ _ _ _)) | (go_at_call 64; exact Calls.quiet_of_same (l1Value_any _ _)))
      go_wp2
      go_roundw
      case rel => exact ⟨1, by omega, by go_num, fun i hi => by rw [show i = 0 by omega]; exact OK.out, below_drewN hb _⟩
      case measure => simp [intOf]; omega
     | succ k =>
      have hpos : (0 : Int) < ((k + 1 : Nat) : Int) := by omega
      have d2 : wr.cell? ⟨b, off + k * 2, none⟩ = some (.int .i64 (kOf l k)) := (hb.cell (by exact cell_lt (hk k (by omega)))).trans (hk k (by omega))
      clear hk hv
      by_cases hord : kOf l k < kOf l (k + 1)
      ·have OK : Hid (okAt l (k + 1) = true) := okAt_succ hK hV hord
       go_wp2_with fail
       go_quiet (first | (go_at_call 9; exact Calls.quiet_of_same (l1In_any _ _ _ _)) | (go_at_call 64; exact Calls.quiet_of_same (l1Value_any _ _)))
       go_wp2
       go_roundw
       case rel => exact ⟨k + 1 + 1, by omega, by go_num, fun i hi => if h : i < k + 1 then ALL.out i h else by rw [show i = k + 1 by omega]; exact OK.out, below_drewN hb _⟩
       case measure => simp [intOf]; omega
      ·have NE : Hid (mapOkB l = false) := mapOkB_false hlt (okAt_false_lt (by omega))
       go_wp2_with fail
       go_quiet (first | (go_at_call 9; exact Calls.quiet_of_same (l1In_any _ _ _ _)) | (go_at_call 64; exact Calls.quiet_of_same (l1Value_any _ _)))
       go_wp2
       go_ret
       exact ⟨ret_bool NE.out.symm, below_drewN hb _⟩
  ·go_wp2
   go_ret
   exact ⟨ret_bool (mapOkB_true (fun i hi => ALL.out i (by omega))).symm, hb⟩
end
end Go.Proofs.Ytdcladffnjikkaa
