/-
  What nodes tell each other, in memory: the laws' own functions that measure and compare it.
  toMachine: a machine copied out of the law's own kind.
  toMachine: a machine copied out of the law's own kind owns its memory.
  toNode: a node copied out of the law's own kind owns its memory.
  The program's rpcKinds: a map of five structs of functions, and what is looked up in it.
  The laws' own functions that write marks into a list of what was done last, and look for them.
  The laws' own functions that write marks into a list of truths, and look for them.
-/
import Derived.Test.YtmdajbbpigbdcaaGreatOfFeed4
import Derived.Test.YtmdajbbpigbdcaaGreatOfFeed5
import Derived.Test.YtmdajbbpigbdcaaGreatOfFeed6
import Derived.Test.YtmdajbbpigbdcaaGreatOfFeed1
import Derived.Deep.DeepCutAuto
import Derived.Deep.MidRow
import Derived.Laws.Rows
import Derived.MapKept
import Derived.Carry
import Derived.Test.YtmdajbbpigbdcaaGreatOfFeed2
namespace Go.Proofs.YtmdajbbpigbdcaaGreat
set_option maxRecDepth 100000
set_option maxHeartbeats 8000000
section
open Go.RowKit

structure RpcV where
 kd : Int
 fr : Int
 tt : Int
 te : Int
 ix : Int
 it : Int
 cm : Int
 ok : Bool
 ev : Value
 s : MacV
abbrev RpcV.val (R : RpcV) : Value := .agg #[.int .i64 R.kd, .int .i64 R.fr, .int .i64 R.tt, .int .i64 R.te, .int .i64 R.ix, .int .i64 R.it, .int .i64 R.cm, .bool R.ok, R.ev, .bool R.s.x.lf, R.s.x.p, R.s.x.c, R.s.x.k, R.s.x.b, R.s.v]
structure Rd where
 l : EL
 T : Tr
 d : DL
def RpcAt (n : Nat) (w : World) (R : RpcV) (D : Rd) : Prop := Row w R.ev D.l.length (flatE D.l) ∧ MacAt n w R.s D.T D.d
theorem RpcAt.below {n : Nat} {w w' : World} {R : RpcV} {D : Rd} (h : RpcAt n w R D) (hb : Below w.heap.size w w') : RpcAt n w' R D := ⟨h.1.below hb, h.2.below hb⟩
def Rd.small (n : Nat) (D : Rd) : Prop := D.l.length ≤ 1048576 ∧ sizeT n D.T ≤ 1048576 ∧ D.d.length ≤ 1048576

def RpcV.like (R S : RpcV) : Prop := R.kd = S.kd ∧ R.fr = S.fr ∧ R.tt = S.tt ∧ R.te = S.te ∧ R.ix = S.ix ∧ R.it = S.it ∧ R.cm = S.cm ∧ R.ok = S.ok
theorem RpcV.like.refl (R : RpcV) : R.like R := ⟨rfl, rfl, rfl, rfl, rfl, rfl, rfl, rfl⟩
theorem eqRpc_any (n : Nat) (R S : RpcV) (D : Rd) (w : World) (hl : R.like S) (h : RpcAt n w R D) (h2 : RpcAt n w S D) :
  Calls Tryz.prog 14 #[R.val, S.val] w fun e w' => e = .returned (.bool true) ∧ Below w.heap.size w w' := by
 obtain ⟨kd1, fr1, tt1, te1, ix1, it1, cm1, ok1, ev1, ⟨⟨sl1, sp1, sc1, sk1, sb1⟩, sv1⟩⟩ := R
 obtain ⟨kd2, fr2, tt2, te2, ix2, it2, cm2, ok2, ev2, ⟨⟨sl2, sp2, sc2, sk2, sb2⟩, sv2⟩⟩ := S
 obtain ⟨e1, e2, e3, e4, e5, e6, e7, e8⟩ := hl
 simp only at e1 e2 e3 e4 e5 e6 e7 e8
 subst e1 e2 e3 e4 e5 e6 e7 e8
 have H : Hid _ := And.intro h h2
 have K1 : Hid (∀ u, Below w.heap.size w u → Calls Tryz.prog 50 #[ev1, ev2] u fun e w' => e = .returned (.bool true) ∧ Below u.heap.size u w') := fun u hu => (eqEntryS_any ev1 ev2 D.l D.l u (H.out.1.below hu).1 (H.out.2.below hu).1).mono (fun e w' ⟨he, hb⟩ => ⟨by rw [he]; simp, hb⟩)
 have K2 : Hid (∀ u, Below w.heap.size w u → Calls Tryz.prog 33 #[.agg #[.bool sl1, sp1, sc1, sk1, sb1, sv1], .agg #[.bool sl2, sp2, sc2, sk2, sb2, sv2]] u fun e w' => e = .returned (.bool true) ∧ Below u.heap.size u w') := fun u hu => eqMachine_any n ⟨⟨sl1, sp1, sc1, sk1, sb1⟩, sv1⟩ ⟨⟨sl2, sp2, sc2, sk2, sb2⟩, sv2⟩ D.T D.d u (H.out.1.below hu).2 (H.out.2.below hu).2
 have B1 : Hid (Below w.heap.size w ((w.alloc (.cells #[.int .i64 kd1, .int .i64 fr1, .int .i64 tt1, .int .i64 te1, .int .i64 ix1, .int .i64 it1, .int .i64 cm1, .bool ok1, ev1, .bool sl1, sp1, sc1, sk1, sb1, sv1] 57)).alloc (.cells #[.int .i64 kd1, .int .i64 fr1, .int .i64 tt1, .int .i64 te1, .int .i64 ix1, .int .i64 it1, .int .i64 cm1, .bool ok1, ev2, .bool sl2, sp2, sc2, sk2, sb2, sv2] 57))) := Below.and (bel_nw _ _) (bel_nw _ _)
 have N1 : Hid (MBox 57 ((w.alloc (.cells #[.int .i64 kd1, .int .i64 fr1, .int .i64 tt1, .int .i64 te1, .int .i64 ix1, .int .i64 it1, .int .i64 cm1, .bool ok1, ev1, .bool sl1, sp1, sc1, sk1, sb1, sv1] 57)).alloc (.cells #[.int .i64 kd1, .int .i64 fr1, .int .i64 tt1, .int .i64 te1, .int .i64 ix1, .int .i64 it1, .int .i64 cm1, .bool ok1, ev2, .bool sl2, sp2, sc2, sk2, sb2, sv2] 57)) w.heap.size #[.int .i64 kd1, .int .i64 fr1, .int .i64 tt1, .int .i64 te1, .int .i64 ix1, .int .i64 it1, .int .i64 cm1, .bool ok1, ev1, .bool sl1, sp1, sc1, sk1, sb1, sv1]) := (MBox.start _ w _).step (bel_nw _ _)
 have N2 : Hid (MBox 57 ((w.alloc (.cells #[.int .i64 kd1, .int .i64 fr1, .int .i64 tt1, .int .i64 te1, .int .i64 ix1, .int .i64 it1, .int .i64 cm1, .bool ok1, ev1, .bool sl1, sp1, sc1, sk1, sb1, sv1] 57)).alloc (.cells #[.int .i64 kd1, .int .i64 fr1, .int .i64 tt1, .int .i64 te1, .int .i64 ix1, .int .i64 it1, .int .i64 cm1, .bool ok1, ev2, .bool sl2, sp2, sc2, sk2, sb2, sv2] 57)) (w.heap.size + 1) #[.int .i64 kd1, .int .i64 fr1, .int .i64 tt1, .int .i64 te1, .int .i64 ix1, .int .i64 it1, .int .i64 cm1, .bool ok1, ev2, .bool sl2, sp2, sc2, sk2, sb2, sv2]) := by
  have := MBox.start 57 (w.alloc (.cells #[.int .i64 kd1, .int .i64 fr1, .int .i64 tt1, .int .i64 te1, .int .i64 ix1, .int .i64 it1, .int .i64 cm1, .bool ok1, ev1, .bool sl1, sp1, sc1, sk1, sb1, sv1] 57)) #[.int .i64 kd1, .int .i64 fr1, .int .i64 tt1, .int .i64 te1, .int .i64 ix1, .int .i64 it1, .int .i64 cm1, .bool ok1, ev2, .bool sl2, sp2, sc2, sk2, sb2, sv2]
  rw [World.size_alloc] at this
  exact this
 have c1 := N1.out.cells
 have d1 := N2.out.cells
 clear h h2 H
 have ho : (ok1 != ok1) = false := by cases ok1 <;> rfl
 show Calls Tryz.prog 14 #[.agg #[.int .i64 kd1, .int .i64 fr1, .int .i64 tt1, .int .i64 te1, .int .i64 ix1, .int .i64 it1, .int .i64 cm1, .bool ok1, ev1, .bool sl1, sp1, sc1, sk1, sb1, sv1], .agg #[.int .i64 kd1, .int .i64 fr1, .int .i64 tt1, .int .i64 te1, .int .i64 ix1, .int .i64 it1, .int .i64 cm1, .bool ok1, ev2, .bool sl2, sp2, sc2, sk2, sb2, sv2]] w _
 go_enter Tryz.func14, Tryz.ntmps14
 go_wp2_with fail
 generalize ((w.alloc (.cells #[.int .i64 kd1, .int .i64 fr1, .int .i64 tt1, .int .i64 te1, .int .i64 ix1, .int .i64 it1, .int .i64 cm1, .bool ok1, ev1, .bool sl1, sp1, sc1, sk1, sb1, sv1] 57)).alloc (.cells #[.int .i64 kd1, .int .i64 fr1, .int .i64 tt1, .int .i64 te1, .int .i64 ix1, .int .i64 it1, .int .i64 cm1, .bool ok1, ev2, .bool sl2, sp2, sc2, sk2, sb2, sv2] 57)) = W at *
 refine (K1.out _ B1.out).mono ?_
 rintro e w1 ⟨rfl, b1⟩
 replace B1 : Hid (Below w.heap.size w w1) := Below.and B1.out b1
 replace N1 : Hid (MBox 57 w1 w.heap.size #[.int .i64 kd1, .int .i64 fr1, .int .i64 tt1, .int .i64 te1, .int .i64 ix1, .int .i64 it1, .int .i64 cm1, .bool ok1, ev1, .bool sl1, sp1, sc1, sk1, sb1, sv1]) := N1.out.step b1
 replace N2 : Hid (MBox 57 w1 (w.heap.size + 1) #[.int .i64 kd1, .int .i64 fr1, .int .i64 tt1, .int .i64 te1, .int .i64 ix1, .int .i64 it1, .int .i64 cm1, .bool ok1, ev2, .bool sl2, sp2, sc2, sk2, sb2, sv2]) := N2.out.step b1
 clear b1 c1 d1
 have c1 := N1.out.cells
 have d1 := N2.out.cells
 go_wp2_with fail
 refine (K2.out _ B1.out).mono ?_
 rintro e w2 ⟨rfl, b2⟩
 replace B1 : Hid (Below w.heap.size w w2) := Below.and B1.out b2
 clear b2 c1 d1
 go_wp2
 go_ret
 exact ⟨rfl, B1.out⟩
end
section
open Go.RowKit

theorem six_at {W : World} {R : Nat} {t : TypeId} {x0 x1 x2 x3 x4 x5 : Value} (a b c d e f : Value) (h : W.heap[R]? = some (.cells #[x0, x1, x2, x3, x4, x5] t (0, 0))) : ((((((W.setCell ⟨R, 0, none⟩ a).setCell ⟨R, 1, none⟩ b).setCell ⟨R, 2, none⟩ c).setCell ⟨R, 3, none⟩ d).setCell ⟨R, 4, none⟩ e).setCell ⟨R, 5, none⟩ f).heap[R]? = some (.cells #[a, b, c, d, e, f] t (0, 0)) := by
 have h0 := heap_setCell_same W R 0 _ _ a h
 have h1 := heap_setCell_same _ R 1 _ _ b h0
 have h2 := heap_setCell_same _ R 2 _ _ c h1
 have h3 := heap_setCell_same _ R 3 _ _ d h2
 have h4 := heap_setCell_same _ R 4 _ _ e h3
 have h5 := heap_setCell_same _ R 5 _ _ f h4
 simpa using h5
theorem six_chg (W : World) (R : Nat) (a b c d e f : Value) : Chg (fun g => g = R) W ((((((W.setCell ⟨R, 0, none⟩ a).setCell ⟨R, 1, none⟩ b).setCell ⟨R, 2, none⟩ c).setCell ⟨R, 3, none⟩ d).setCell ⟨R, 4, none⟩ e).setCell ⟨R, 5, none⟩ f) :=
 ((((((Chg.refl (fun g => g = R) W).setAt R 0 rfl a).setAt R 1 rfl b).setAt R 2 rfl c).setAt R 3 rfl d).setAt R 4 rfl e).setAt R 5 rfl f
theorem fst_at {W : World} {R : Nat} {t : TypeId} {x0 x1 x2 x3 x4 x5 : Value} (a b c d e : Value) (h : W.heap[R]? = some (.cells #[x0, x1, x2, x3, x4, x5] t (0, 0))) : (((((W.setCell ⟨R, 0, none⟩ a).setCell ⟨R, 1, none⟩ b).setCell ⟨R, 2, none⟩ c).setCell ⟨R, 3, none⟩ d).setCell ⟨R, 4, none⟩ e).heap[R]? = some (.cells #[a, b, c, d, e, x5] t (0, 0)) := by
 have h0 := heap_setCell_same W R 0 _ _ a h
 have h1 := heap_setCell_same _ R 1 _ _ b h0
 have h2 := heap_setCell_same _ R 2 _ _ c h1
 have h3 := heap_setCell_same _ R 3 _ _ d h2
 have h4 := heap_setCell_same _ R 4 _ _ e h3
 simpa using h4
theorem fst_chg (W : World) (R : Nat) (a b c d e : Value) : Chg (fun g => g = R) W (((((W.setCell ⟨R, 0, none⟩ a).setCell ⟨R, 1, none⟩ b).setCell ⟨R, 2, none⟩ c).setCell ⟨R, 3, none⟩ d).setCell ⟨R, 4, none⟩ e) :=
 (((((Chg.refl (fun g => g = R) W).setAt R 0 rfl a).setAt R 1 rfl b).setAt R 2 rfl c).setAt R 3 rfl d).setAt R 4 rfl e
theorem lst_at {W : World} {R : Nat} {t : TypeId} {x0 x1 x2 x3 x4 x5 : Value} (f : Value) (h : W.heap[R]? = some (.cells #[x0, x1, x2, x3, x4, x5] t (0, 0))) : (W.setCell ⟨R, 5, none⟩ f).heap[R]? = some (.cells #[x0, x1, x2, x3, x4, f] t (0, 0)) := by
 have h5 := heap_setCell_same _ R 5 _ _ f h
 simpa using h5
end
section
open Go.RowKit

theorem hid9 {p : Prop} (h : p) : Hid p := h
def MacOwn (n : Nat) (w : World) (base : Nat) (m : MacV) (T : Tr) (l : DL) : Prop := TreeOwn n w base m.x T ∧ w.ownsRow base 126 4 m.v l.length (flatD l)
end
section
open Go.RowKit

def NodOwn (n : Nat) (w : World) (base : Nat) (N : NodV) (D : Nd) : Prop :=
 w.ownsRow base 113 6 N.lv D.l.length (flatE D.l) ∧ MacOwn n w base N.s D.T1 D.d1 ∧ w.ownsRow base 4 1 N.vv D.vs.length (flatL D.vs) ∧ w.ownsRow base 3 1 N.nv D.nx.length (flatI D.nx) ∧ w.ownsRow base 3 1 N.mv D.mt.length (flatI D.mt) ∧ MacOwn n w base N.o D.T2 D.d2
theorem range_of {w : World} {b : Nat} {A : Array Value} {t : TypeId} (h : w.heap[b]? = some (.cells A t (0, 0))) : w.rangeAt b 0 A.toList := fun j v hv => by
 rw [Nat.zero_add, cell_of_row _ _ j _ t (0, 0) h]
 simpa using hv
theorem there_of {w : World} {b : Nat} {A : Array Value} {t : TypeId} (h : w.heap[b]? = some (.cells A t (0, 0))) {k : Nat} (hk : A.size = k) : w.there b 0 k := fun j hj => by
 subst hk
 rw [Nat.zero_add, cell_of_row _ _ j _ t (0, 0) h]
 exact ⟨by simp [hj], frozen_of_row w b j A t h⟩
theorem spl_all {cur : Array Value} {vs : List Value} (h : cur.size = vs.length) : spl cur 0 vs = vs.toArray := by
 have := spl_toList vs cur 0 (by omega)
 simp only [List.take_zero, List.nil_append, Nat.zero_add] at this
 rw [List.drop_eq_nil_of_le (by simp; omega), List.append_nil] at this
 apply Array.ext'
 simpa using this
theorem setAll_at {W : World} {R : Nat} {t : TypeId} {A : Array Value} (h : W.heap[R]? = some (.cells A t (0, 0))) (vs : List Value) (hn : A.size = vs.length) : (W.setCells R 0 vs).heap[R]? = some (.cells vs.toArray t (0, 0)) := by
 have := heap_setCells_same R t vs 0 W A h
 rw [spl_all hn] at this
 exact this
theorem step_at {w w' : World} {B : Nat} {o : Obj} (h : w.heap[B]? = some o) (hb : Below w.heap.size w w') : w'.heap[B]? = some o := (hb.block B (Array.getElem?_eq_some_iff.1 h).1).trans h
theorem set_at {W : World} {R : Nat} {t : TypeId} {A : Array Value} (i : Nat) (u : Value) (h : W.heap[R]? = some (.cells A t (0, 0))) : (W.setCell ⟨R, i, none⟩ u).heap[R]? = some (.cells (A.setIfInBounds i u) t (0, 0)) := heap_setCell_same W R i _ _ u h
theorem Row.sl {w : World} {v : Value} {k : Nat} {xs : List Value} (h : Row w v k xs) : ∃ x : Option Addr × Nat × Nat, v = .slice x.1 x.2.1 x.2.2 := by
 obtain ⟨a, _, _, cap, h1, _⟩ := h
 exact ⟨(a, k, cap), h1⟩
theorem MacAt.sl {n : Nat} {w : World} {m : MacV} {T : Tr} {l : DL} (h : MacAt n w m T l) : ∃ (b : Bool) (x1 x2 x3 x4 x5 : Option Addr × Nat × Nat), m = ⟨⟨b, .slice x1.1 x1.2.1 x1.2.2, .slice x2.1 x2.2.1 x2.2.2, .slice x3.1 x3.2.1 x3.2.2, .slice x4.1 x4.2.1 x4.2.2⟩, .slice x5.1 x5.2.1 x5.2.2⟩ := by
 obtain ⟨⟨lf, p, c, k, b⟩, v⟩ := m
 obtain ⟨t, r⟩ := h
 obtain ⟨x5, e5⟩ := r.sl
 obtain ⟨a1, a2, a3, a4, b1, b2, b3, b4, hy⟩ := t.shape
 simp only [TV.mk.injEq] at hy e5
 obtain ⟨_, f1, f2, f3, f4⟩ := hy
 subst e5 f1 f2 f3 f4
 exact ⟨lf, (a1, _, b1), (a2, _, b2), (a3, _, b3), (a4, _, b4), x5, rfl⟩
def TN (w : World) (A C : Array Value) (u : World) : Prop := Below w.heap.size w u ∧ w.heap.size + 3 ≤ u.heap.size ∧ u.heap[w.heap.size]? = some (.cells A 36 (0, 0)) ∧ u.heap[w.heap.size + 1]? = some (.cells #[.int .i64 0, .int .i64 0, .int .i64 0, .int .i64 0, .int .i64 0, .slice none 0 0, .bool false, .slice none 0 0, .slice none 0 0, .slice none 0 0, .slice none 0 0, .slice none 0 0, .int .i64 0, .slice none 0 0, .slice none 0 0, .slice none 0 0, .int .i64 0, .bool false, .slice none 0 0, .slice none 0 0, .slice none 0 0, .slice none 0 0, .slice none 0 0] 50 (0, 0)) ∧ u.heap[w.heap.size + 1 + 1]? = some (.cells C 50 (0, 0))
theorem TN.step {w u u' : World} {A C : Array Value} (h : TN w A C u) (hb : Below u.heap.size u u') : TN w A C u' := ⟨Below.and h.1 hb, Nat.le_trans h.2.1 hb.size, step_at h.2.2.1 hb, step_at h.2.2.2.1 hb, step_at h.2.2.2.2 hb⟩
theorem TN.sets {w u u' : World} {A C C' : Array Value} (h : TN w A C u) (hc : Chg (fun g => g = w.heap.size + 1 + 1) u u') (h2 : u'.heap[w.heap.size + 1 + 1]? = some (.cells C' 50 (0, 0))) : TN w A C' u' :=
 ⟨h.1.trans (hc.below (fun g _ hg => by omega) h.1.size), Nat.le_trans h.2.1 hc.size, row_chg h.2.2.1 hc (by omega), row_chg h.2.2.2.1 hc (by omega), h2⟩
end
section
open Go.RowKit

theorem Tryz.uRK : Tryz.prog.underlying 117 = some (.map 3 116) := by kernel_rfl
abbrev kdV (f g : Nat) : Value := .agg #[.func (.func f) #[] #[], .func (.func g) #[] #[]]
abbrev kdE (k : Int) (f g c : Nat) : MapEntry := ⟨.int .i64 k, kdV f g, c⟩
def kinds5 : Array MapEntry := #[kdE 1 115 116 0, kdE 2 117 116 1, kdE 3 118 116 2, kdE 4 117 116 3, kdE 5 119 74 4]
def putK (W : World) (b : Nat) (o : Obj) : World := { W with heap := W.heap.setIfInBounds b o }
theorem putK_at {W : World} {b : Nat} {o p : Obj} (h : W.heap[b]? = some p) : (putK W b o).heap[b]? = some o := by
 have hb := (Array.getElem?_eq_some_iff.1 h).1
 simp [putK, hb]
theorem putK_size (W : World) (b : Nat) (o : Obj) : (putK W b o).heap.size = W.heap.size := by simp [putK]
theorem putK_ne {W : World} {b g : Nat} {o : Obj} (h : g ≠ b) : (putK W b o).heap[g]? = W.heap[g]? := by
 simp [putK, Ne.symm h]
theorem checkKey_int (e : Bool) (k : Int) (w : World) : (Instr.checkKey e 10000 3 (.int .i64 k)).run Tryz.prog w = .ok () w := by
 unfold Instr.checkKey
 rw [Sem.run_bind, run_underlying Tryz.underlying3]
 simp
theorem findKey_int (k : Int) (es : List MapEntry) (r : Option (Nat × Value)) (h : Instr.findNow (.int .i64) (.int .i64 k) es 0 = some r) (w : World) : (Instr.findKey 3 (.int .i64 k) es).run Tryz.prog w = .ok r w := by
 unfold Instr.findKey
 rw [Sem.run_bind, run_underlying Tryz.underlying3]
 simp [h]
theorem upd_new {W : World} {b : Nat} {es : Array MapEntry} {c : Nat} (k : Int) (v : Value) (hb : W.heap[b]? = some (.map es c)) (hf : Instr.findNow (.int .i64) (.int .i64 k) es.toList 0 = some none) :
  (Instr.mapUpdate 117 (.map (some b)) (.int .i64 k) v).run Tryz.prog W = .ok () (putK W b (.map (es.push ⟨.int .i64 k, v, c⟩) (c + 1))) := by
 simp [Instr.mapUpdate, run_underlying Tryz.uRK, MapKept.run_getObj_map hb, checkKey_int, findKey_int k _ _ hf, MapKept.run_setObj_map _ hb, putK]
theorem kinds_made (w : World) : ∃ w1 w2 w3 w4 w5 : World,
  (Instr.mapUpdate 117 (.map (some w.heap.size)) (.int .i64 1) (kdV 115 116)).run Tryz.prog (w.alloc (.map #[] 0)) = .ok () w1 ∧
  (Instr.mapUpdate 117 (.map (some w.heap.size)) (.int .i64 2) (kdV 117 116)).run Tryz.prog w1 = .ok () w2 ∧
  (Instr.mapUpdate 117 (.map (some w.heap.size)) (.int .i64 3) (kdV 118 116)).run Tryz.prog w2 = .ok () w3 ∧
  (Instr.mapUpdate 117 (.map (some w.heap.size)) (.int .i64 4) (kdV 117 116)).run Tryz.prog w3 = .ok () w4 ∧
  (Instr.mapUpdate 117 (.map (some w.heap.size)) (.int .i64 5) (kdV 119 74)).run Tryz.prog w4 = .ok () w5 ∧
  w5.heap[w.heap.size]? = some (.map kinds5 5) ∧ Below w.heap.size w w5 := by
 have h0 : (w.alloc (.map #[] 0)).heap[w.heap.size]? = some (.map #[] 0) := heap_alloc_new w _
 have h1 := putK_at (o := .map (#[].push (kdE 1 115 116 0)) 1) h0
 have h2 := putK_at (o := .map ((#[].push (kdE 1 115 116 0)).push (kdE 2 117 116 1)) 2) h1
 have h3 := putK_at (o := .map (((#[].push (kdE 1 115 116 0)).push (kdE 2 117 116 1)).push (kdE 3 118 116 2)) 3) h2
 have h4 := putK_at (o := .map ((((#[].push (kdE 1 115 116 0)).push (kdE 2 117 116 1)).push (kdE 3 118 116 2)).push (kdE 4 117 116 3)) 4) h3
 have h5 := putK_at (o := .map (((((#[].push (kdE 1 115 116 0)).push (kdE 2 117 116 1)).push (kdE 3 118 116 2)).push (kdE 4 117 116 3)).push (kdE 5 119 74 4)) 5) h4
 refine ⟨_, _, _, _, _, upd_new 1 _ h0 rfl, upd_new 2 _ h1 rfl, upd_new 3 _ h2 rfl, upd_new 4 _ h3 rfl, upd_new 5 _ h4 rfl, h5, ?_⟩
 have hb : ∀ (W : World) (o : Obj), Below w.heap.size w W → Below w.heap.size w (putK W w.heap.size o) := fun W o h => ⟨h.os, h.tape, h.output, by rw [putK_size]; exact h.size, fun g hg => (putK_ne (by omega)).trans (h.block g hg)⟩
 exact hb _ _ (hb _ _ (hb _ _ (hb _ _ (hb _ _ (bel_nw w _)))))

theorem rpcKinds_any (w : World) : Calls Tryz.prog 81 #[] w fun e w' => e = .returned (.map (some w.heap.size)) ∧ w'.heap[w.heap.size]? = some (.map kinds5 5) ∧ Below w.heap.size w w' := by
 obtain ⟨w1, w2, w3, w4, w5, h1, h2, h3, h4, h5, h6, h7⟩ := kinds_made w
 have hmk : ∀ W : World, (Instr.makeMap 117 none).run Tryz.prog W = .ok (.map (some W.heap.size)) (W.alloc (.map #[] 0)) := fun _ => rfl
 have H := hid9 (And.intro h6 h7)
 clear h6 h7
 go_enter Tryz.func81, Tryz.ntmps81
 go_wp2
 go_ret
 exact ⟨rfl, H.out.1, H.out.2⟩

def kindF (k : Int) : Value := if k = 1 then kdV 115 116 else if k = 2 then kdV 117 116 else if k = 3 then kdV 118 116 else if k = 4 then kdV 117 116 else if k = 5 then kdV 119 74 else .agg #[.nilFunc, .nilFunc]
end
section
open Go.RowKit

abbrev mrk (k : Int) : Bool := k % 3 == 0
def marksD (k : Int) (n : Nat) : DL := (List.range n).map fun (i : Nat) => (k + 4 * i, k + 4 * i + 1, k + 4 * i + 1 + 1, mrk (k + 4 * i + 1 + 1 + 1))
theorem marksD_length (k : Int) (n : Nat) : (marksD k n).length = n := by simp [marksD]
theorem marksD_succ (k : Int) (n : Nat) : marksD k (n + 1) = marksD k n ++ [(k + 4 * n, k + 4 * n + 1, k + 4 * n + 1 + 1, mrk (k + 4 * n + 1 + 1 + 1))] := by simp [marksD, List.range_succ]
theorem marksD_at (k : Int) (n i : Nat) (h : i < n) : dC (marksD k n) i = k + 4 * i ∧ dS (marksD k n) i = k + 4 * i + 1 ∧ dV (marksD k n) i = k + 4 * i + 1 + 1 ∧ dH (marksD k n) i = mrk (k + 4 * i + 1 + 1 + 1) := by
 simp [marksD, dC, dS, dV, dH, List.getD, h]
def midD (k : Int) (l : DL) (i : Nat) : DL := marksD k i ++ l.drop i
theorem midD_length (k : Int) (l : DL) (i : Nat) (h : i ≤ l.length) : (midD k l i).length = l.length := by simp [midD, marksD_length]; omega
theorem midD_zero (k : Int) (l : DL) : midD k l 0 = l := by simp [midD, marksD]
theorem midD_full (k : Int) (l : DL) : midD k l l.length = marksD k l.length := by simp [midD]
theorem midD_step (k : Int) (l : DL) (i : Nat) (h : i < l.length) : (midD k l i).set i (k + 4 * i, k + 4 * i + 1, k + 4 * i + 1 + 1, mrk (k + 4 * i + 1 + 1 + 1)) = midD k l (i + 1) := by
 rw [midD, midD, marksD_succ, List.drop_eq_getElem_cons h, List.set_append_right _ _ (by rw [marksD_length]; omega), marksD_length, Nat.sub_self, List.set_cons_zero]
 simp
theorem owns_capD {w : World} {base e size n cap : Nat} {a : Option Addr} {xs : List Value} (h : w.ownsRow base e size (.slice a n cap) n xs) : cap ≤ maxLen := by
 obtain ⟨_, ⟨e, _⟩ | ⟨g, cap', cur, e, _, _, _, hc, _⟩⟩ := h
 ·simp at e; rw [e.2.2]; exact Nat.zero_le _
 ·simp at e; rw [e.2]; exact hc

theorem markDoneS_any (v : Value) (l : DL) (k : Int) (w : World) (h : w.ownsRow 0 126 4 v l.length (flatD l)) (hn : l.length ≤ 67108864) (hk0 : 0 ≤ k) (hk1 : k ≤ 671088640) :
  Calls Tryz.prog 78 #[v, .int .i64 k] w fun e w' => e = .returned (.int .i64 (k + 4 * l.length)) ∧ w'.ownsRow 0 126 4 v l.length (flatD (marksD k l.length)) ∧ Chg (fun g => v.ownBlock = some g) w w' := by
 obtain ⟨a, cap, hv⟩ := owns_val h
 have OW : Hid (w.ownsRow 0 126 4 v l.length (flatD l)) := h
 clear h
 rw [hv] at OW ⊢
 clear hv
 have hcap := owns_capD OW.out
 unfold maxLen at hcap
 go_enter Tryz.func78, Tryz.ntmps78
 go_wp2
 go_loopw [1, 5] (fun kk i wr => ∃ j : Nat, j ≤ l.length ∧ i = .int .i64 j ∧ kk = .int .i64 (k + 4 * j) ∧ wr.ownsRow 0 126 4 (.slice a l.length cap) l.length (flatD (midD k l j)) ∧ Chg (fun g => (Value.slice a l.length cap).ownBlock = some g) w wr)
  (fun _ i _ => l.length - (intOf i).toNat)
 case atStart => exact ⟨0, Nat.zero_le _, rfl, by simp, by rw [midD_zero]; exact OW.out, Chg.refl _ _⟩
 case round =>
  obtain ⟨j, hj, rfl, rfl, hown, hch⟩ := hrel
  by_cases hlt : j < l.length
  ·have hex : ∃ g, a = some ⟨g, 0, none⟩ := by
    obtain ⟨_, ⟨e, e2⟩ | ⟨g, cap', cur, e, _⟩⟩ := hown
    ·omega
    ·simp at e; exact ⟨g, e.1⟩
   obtain ⟨g, rfl⟩ := hex
   have hml : (midD k l j).length = l.length := midD_length k l j hj
   have hat := flatD_at (midD k l j) j (by omega)
   have e0 := (hown.cellAt (j * 4) (by omega)).trans hat.1
   have f0 := hown.frozenAt (j * 4)
   have e1 := (hown.cellAt (j * 4 + 1) (by omega)).trans hat.2.1
   have f1 := hown.frozenAt (j * 4 + 1)
   have e2 := (hown.cellAt (j * 4 + 2) (by omega)).trans hat.2.2.1
   have f2 := hown.frozenAt (j * 4 + 2)
   have e3 := (hown.cellAt (j * 4 + 3) (by omega)).trans hat.2.2.2
   have f3 := hown.frozenAt (j * 4 + 3)
   have st0 := (hown.stored (j * 4) (.int .i64 (k + 4 * j))).1
   have st1 := (st0.stored (j * 4 + 1) (.int .i64 (k + 4 * j + 1))).1
   have st2 := (st1.stored (j * 4 + 2) (.int .i64 (k + 4 * j + 1 + 1))).1
   have st3 := (st2.stored (j * 4 + 3) (.bool (mrk (k + 4 * j + 1 + 1 + 1)))).1
   rw [flatD_set _ _ _ _ _ j (by omega), midD_step k l j hlt] at st3
   have hch2 : Chg (fun g' => (Value.slice (some ⟨g, 0, none⟩) l.length cap).ownBlock = some g') w ((((wr.setCell ⟨g, j * 4, none⟩ (.int .i64 (k + 4 * j))).setCell ⟨g, j * 4 + 1, none⟩ (.int .i64 (k + 4 * j + 1))).setCell ⟨g, j * 4 + 2, none⟩ (.int .i64 (k + 4 * j + 1 + 1))).setCell ⟨g, j * 4 + 3, none⟩ (.bool (mrk (k + 4 * j + 1 + 1 + 1)))) := (((hch.setAt g (j * 4) rfl _).setAt g (j * 4 + 1) rfl _).setAt g (j * 4 + 2) rfl _).setAt g (j * 4 + 3) rfl _
   generalize dC (midD k l j) j = x0 at *
   generalize dS (midD k l j) j = x1 at *
   generalize dV (midD k l j) j = x2 at *
   generalize dH (midD k l j) j = x3 at *
   have ST : Hid _ := And.intro st3 hch2
   clear st0 st1 st2 st3 hch2 hown hch hml hat OW
   have hb0 : 0 ≤ k + 4 * (j : Int) := by omega
   have hb1 : k + 4 * (j : Int) ≤ 10000000000 := by omega
   go_wp2
   go_roundw
   case rel => exact ⟨j + 1, by omega, by go_num, by go_num, ST.out.1, ST.out.2⟩
   case measure => simp [intOf]; omega
  ·have hjl : j = l.length := by omega
   subst hjl
   go_wp2
   go_ret
   rw [midD_full] at hown
   exact ⟨rfl, hown, hch⟩

theorem heldDoneS_any (v : Value) (n : Nat) (k : Int) (w : World) (h : Row w v n (flatD (marksD k n))) (hn : n ≤ 67108864) (hk0 : 0 ≤ k) (hk1 : k ≤ 671088640) :
  Calls Tryz.prog 80 #[v, .int .i64 k] w fun e w' => e = .returned (.int .i64 (k + 4 * n)) ∧ w' = w := by
 have h' : Row w v (marksD k n).length (flatD (marksD k n)) := by rw [marksD_length]; exact h
 obtain ⟨a, b, off, cap, rfl, hcap, hmax, ha, h10, h11, h12, h13⟩ := h'.dones
 rw [marksD_length] at *
 unfold maxLen at hmax
 clear h h'
 go_enter Tryz.func80, Tryz.ntmps80
 go_wp2
 go_loop [1, 5] (fun kk i => ∃ j : Nat, j ≤ n ∧ i = .int .i64 j ∧ kk = .int .i64 (k + 4 * j)) (fun _ i => n - (intOf i).toNat)
 case atStart => exact ⟨0, Nat.zero_le _, rfl, by simp⟩
 case round =>
  obtain ⟨j, hj, rfl, rfl⟩ := hrel
  by_cases hlt : j < n
  ·have hal := ha (by omega)
   subst hal
   have d0 : w.cell? ⟨b, off + j * 4, none⟩ = some (.int .i64 (k + 4 * j)) := by rw [h10 j hlt, (marksD_at k n j hlt).1]
   have d1 : w.cell? ⟨b, off + j * 4 + 1, none⟩ = some (.int .i64 (k + 4 * j + 1)) := by rw [h11 j hlt, (marksD_at k n j hlt).2.1]
   have d2 : w.cell? ⟨b, off + j * 4 + 2, none⟩ = some (.int .i64 (k + 4 * j + 1 + 1)) := by rw [h12 j hlt, (marksD_at k n j hlt).2.2.1]
   have d3 : w.cell? ⟨b, off + j * 4 + 3, none⟩ = some (.bool (mrk (k + 4 * j + 1 + 1 + 1))) := by rw [h13 j hlt, (marksD_at k n j hlt).2.2.2]
   clear h10 h11 h12 h13
   have hb0 : 0 ≤ k + 4 * (j : Int) := by omega
   have hb1 : k + 4 * (j : Int) ≤ 10000000000 := by omega
   by_cases hm : (k + 4 * (j : Int) + 1 + 1 + 1) % 3 = 0
   ·have hm2 : mrk (k + 4 * (j : Int) + 1 + 1 + 1) = true := by simp [mrk, hm]
    rw [hm2] at d3
    have hm3 : ((k + 4 * (j : Int) + 1 + 1 + 1) % 3 == 0) = true := hm2
    go_wp2
    go_round
    case rel => exact ⟨j + 1, by omega, by go_num, by go_num⟩
    case measure => simp [intOf]; omega
   ·have hm2 : mrk (k + 4 * (j : Int) + 1 + 1 + 1) = false := by simp [mrk, hm]
    rw [hm2] at d3
    have hm3 : ((k + 4 * (j : Int) + 1 + 1 + 1) % 3 == 0) = false := hm2
    go_wp2
    go_round
    case rel => exact ⟨j + 1, by omega, by go_num, by go_num⟩
    case measure => simp [intOf]; omega
  ·have hjl : j = n := by omega
   subst hjl
   go_wp2
   go_ret
   exact ⟨rfl, rfl⟩
end
section
open Go.RowKit

def marksL (k : Int) (n : Nat) : List Bool := (List.range n).map fun (i : Nat) => mrk (k + i)
theorem marksL_length (k : Int) (n : Nat) : (marksL k n).length = n := by simp [marksL]
theorem marksL_succ (k : Int) (n : Nat) : marksL k (n + 1) = marksL k n ++ [mrk (k + n)] := by simp [marksL, List.range_succ]
def midL (k : Int) (l : List Bool) (i : Nat) : List Bool := marksL k i ++ l.drop i
theorem midL_length (k : Int) (l : List Bool) (i : Nat) (h : i ≤ l.length) : (midL k l i).length = l.length := by simp [midL, marksL_length]; omega
theorem midL_zero (k : Int) (l : List Bool) : midL k l 0 = l := by simp [midL, marksL]
theorem midL_full (k : Int) (l : List Bool) : midL k l l.length = marksL k l.length := by simp [midL]
theorem midL_step (k : Int) (l : List Bool) (i : Nat) (h : i < l.length) : (midL k l i).set i (mrk (k + i)) = midL k l (i + 1) := by
 rw [midL, midL, marksL_succ, List.drop_eq_getElem_cons h, List.set_append_right _ _ (by rw [marksL_length]; omega), marksL_length, Nat.sub_self, List.set_cons_zero]
 simp

theorem markBoolS_m (v : Value) (l : List Bool) (k : Int) (w : World) (h : w.ownsRow 0 4 1 v l.length (flatL l)) (hn : l.length ≤ 67108864) (hk0 : 0 ≤ k) (hk1 : k ≤ 671088640) :
  Calls Tryz.prog 38 #[v, .int .i64 k] w fun e w' => e = .returned (.int .i64 (k + l.length)) ∧ w'.ownsRow 0 4 1 v l.length (flatL (marksL k l.length)) ∧ Chg (fun g => v.ownBlock = some g) w w' := by
 obtain ⟨a, cap, hv⟩ := owns_val h
 have OW : Hid (w.ownsRow 0 4 1 v l.length (flatL l)) := h
 clear h
 rw [hv] at OW ⊢
 clear hv
 have hcap := owns_capD OW.out
 unfold maxLen at hcap
 go_enter Tryz.func38, Tryz.ntmps38
 go_wp2
 go_loopw [1, 5] (fun kk i wr => ∃ j : Nat, j ≤ l.length ∧ i = .int .i64 j ∧ kk = .int .i64 (k + j) ∧ wr.ownsRow 0 4 1 (.slice a l.length cap) l.length (flatL (midL k l j)) ∧ Chg (fun g => (Value.slice a l.length cap).ownBlock = some g) w wr)
  (fun _ i _ => l.length - (intOf i).toNat)
 case atStart => exact ⟨0, Nat.zero_le _, rfl, by simp, by rw [midL_zero]; exact OW.out, Chg.refl _ _⟩
 case round =>
  obtain ⟨j, hj, rfl, rfl, hown, hch⟩ := hrel
  by_cases hlt : j < l.length
  ·have hex : ∃ g, a = some ⟨g, 0, none⟩ := by
    obtain ⟨_, ⟨e, e2⟩ | ⟨g, cap', cur, e, _⟩⟩ := hown
    ·omega
    ·simp at e; exact ⟨g, e.1⟩
   obtain ⟨g, rfl⟩ := hex
   have hml : (midL k l j).length = l.length := midL_length k l j hj
   have hat := flatL_at (midL k l j) j (by omega)
   have e0 := (hown.cellAt j (by omega)).trans hat
   have f0 := hown.frozenAt j
   have st0 := (hown.stored j (.bool (mrk (k + j)))).1
   rw [flatL_set, midL_step k l j hlt] at st0
   have hch2 : Chg (fun g' => (Value.slice (some ⟨g, 0, none⟩) l.length cap).ownBlock = some g') w (wr.setCell ⟨g, j, none⟩ (.bool (mrk (k + j)))) := hch.setAt g j rfl _
   generalize bOf (midL k l j) j = x0 at *
   have ST : Hid _ := And.intro st0 hch2
   clear st0 hch2 hown hch hml hat OW
   have hb0 : 0 ≤ k + (j : Int) := by omega
   have hb1 : k + (j : Int) ≤ 10000000000 := by omega
   go_wp2
   go_roundw
   case rel => exact ⟨j + 1, by omega, by go_num, by go_num, ST.out.1, ST.out.2⟩
   case measure => simp [intOf]; omega
  ·have hjl : j = l.length := by omega
   subst hjl
   go_wp2
   go_ret
   rw [midL_full] at hown
   exact ⟨rfl, hown, hch⟩
end
end Go.Proofs.YtmdajbbpigbdcaaGreat
