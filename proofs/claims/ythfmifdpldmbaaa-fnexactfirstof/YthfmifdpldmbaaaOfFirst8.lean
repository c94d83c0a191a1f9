/-
  toNode: a node copied out of the law's own kind owns its memory.
-/
import Derived.Test.YthfmifdpldmbaaaOfFirst6
import Derived.Test.YthfmifdpldmbaaaOfFirst7
import Derived.Deep.DeepCutAuto
import Derived.Deep.MidRow
import Derived.Laws.Rows
namespace Go.Proofs.Ythfmifdpldmbaaa
set_option maxRecDepth 100000
set_option maxHeartbeats 8000000
section
open Go.RowKit

def NodOwn (n : Nat) (w : World) (base : Nat) (N : NodV) (D : Nd) : Prop :=
 w.ownsRow base 136 6 N.lv D.l.length (flatE D.l) ∧ MacOwn n w base N.s D.T1 D.d1 ∧ w.ownsRow base 4 1 N.vv D.vs.length (flatL D.vs) ∧ w.ownsRow base 3 1 N.nv D.nx.length (flatI D.nx) ∧ w.ownsRow base 3 1 N.mv D.mt.length (flatI D.mt) ∧ MacOwn n w base N.o D.T2 D.d2
theorem NodOwn.at {n : Nat} {w : World} {base : Nat} {N : NodV} {D : Nd} (h : NodOwn n w base N D) : NodAt n w N D := ⟨Row.of_owns h.1, h.2.1.at, Row.of_owns h.2.2.1, Row.of_owns h.2.2.2.1, Row.of_owns h.2.2.2.2.1, h.2.2.2.2.2.at⟩
theorem range_of {w : World} {b : Nat} {A : Array Value} {t : TypeId} (h : w.heap[b]? = some (.cells A t (0, 0))) : w.rangeAt b 0 A.toList := fun j v hv => by
 rw [Nat.zero_add, cell_of_row _ _ j _ t (0, 0) h]
 simpa using hv
theorem there_of {w : World} {b : Nat} {A : Array Value} {t : TypeId} (h : w.heap[b]? = some (.cells A t (0, 0))) {k : Nat} (hk : A.size = k) : w.there b 0 k := fun j hj => by
 subst hk
 rw [Nat.zero_add, cell_of_row _ _ j _ t (0, 0) h]
 exact ⟨by simp [hj], frozen_of_row w b j A t h⟩
theorem spl_all {cur : Array Value} {vs : List Value} (h : cur.size = vs.length) : spl cur 0 vs = vs.toArray := by
 have := spl_toList vs cur 0 (by omega)
 simp only [List.take_zero, List.nil_append, Nat.zero_add] at this
 rw [List.drop_eq_nil_of_le (by simp; omega), List.append_nil] at this
 apply Array.ext'
 simpa using this
theorem setAll_at {W : World} {R : Nat} {t : TypeId} {A : Array Value} (h : W.heap[R]? = some (.cells A t (0, 0))) (vs : List Value) (hn : A.size = vs.length) : (W.setCells R 0 vs).heap[R]? = some (.cells vs.toArray t (0, 0)) := by
 have := heap_setCells_same R t vs 0 W A h
 rw [spl_all hn] at this
 exact this
theorem step_at {w w' : World} {B : Nat} {o : Obj} (h : w.heap[B]? = some o) (hb : Below w.heap.size w w') : w'.heap[B]? = some o := (hb.block B (Array.getElem?_eq_some_iff.1 h).1).trans h
theorem set_at {W : World} {R : Nat} {t : TypeId} {A : Array Value} (i : Nat) (u : Value) (h : W.heap[R]? = some (.cells A t (0, 0))) : (W.setCell ⟨R, i, none⟩ u).heap[R]? = some (.cells (A.setIfInBounds i u) t (0, 0)) := heap_setCell_same W R i _ _ u h
theorem Row.sl {w : World} {v : Value} {k : Nat} {xs : List Value} (h : Row w v k xs) : ∃ x : Option Addr × Nat × Nat, v = .slice x.1 x.2.1 x.2.2 := by
 obtain ⟨a, _, _, cap, h1, _⟩ := h
 exact ⟨(a, k, cap), h1⟩
theorem MacAt.sl {n : Nat} {w : World} {m : MacV} {T : Tr} {l : DL} (h : MacAt n w m T l) : ∃ (b : Bool) (x1 x2 x3 x4 x5 : Option Addr × Nat × Nat), m = ⟨⟨b, .slice x1.1 x1.2.1 x1.2.2, .slice x2.1 x2.2.1 x2.2.2, .slice x3.1 x3.2.1 x3.2.2, .slice x4.1 x4.2.1 x4.2.2⟩, .slice x5.1 x5.2.1 x5.2.2⟩ := by
 obtain ⟨⟨lf, p, c, k, b⟩, v⟩ := m
 obtain ⟨t, r⟩ := h
 obtain ⟨x5, e5⟩ := r.sl
 obtain ⟨a1, a2, a3, a4, b1, b2, b3, b4, hy⟩ := t.shape
 simp only [TV.mk.injEq] at hy e5
 obtain ⟨_, f1, f2, f3, f4⟩ := hy
 subst e5 f1 f2 f3 f4
 exact ⟨lf, (a1, _, b1), (a2, _, b2), (a3, _, b3), (a4, _, b4), x5, rfl⟩
def TN (w : World) (A C : Array Value) (u : World) : Prop := Below w.heap.size w u ∧ w.heap.size + 3 ≤ u.heap.size ∧ u.heap[w.heap.size]? = some (.cells A 79 (0, 0)) ∧ u.heap[w.heap.size + 1]? = some (.cells #[.int .i64 0, .int .i64 0, .int .i64 0, .int .i64 0, .int .i64 0, .slice none 0 0, .bool false, .slice none 0 0, .slice none 0 0, .slice none 0 0, .slice none 0 0, .slice none 0 0, .int .i64 0, .slice none 0 0, .slice none 0 0, .slice none 0 0, .int .i64 0, .bool false, .slice none 0 0, .slice none 0 0, .slice none 0 0, .slice none 0 0, .slice none 0 0] 94 (0, 0)) ∧ u.heap[w.heap.size + 1 + 1]? = some (.cells C 94 (0, 0))
theorem TN.step {w u u' : World} {A C : Array Value} (h : TN w A C u) (hb : Below u.heap.size u u') : TN w A C u' := ⟨Below.and h.1 hb, Nat.le_trans h.2.1 hb.size, step_at h.2.2.1 hb, step_at h.2.2.2.1 hb, step_at h.2.2.2.2 hb⟩
theorem TN.sets {w u u' : World} {A C C' : Array Value} (h : TN w A C u) (hc : Chg (fun g => g = w.heap.size + 1 + 1) u u') (h2 : u'.heap[w.heap.size + 1 + 1]? = some (.cells C' 94 (0, 0))) : TN w A C' u' :=
 ⟨h.1.trans (hc.below (fun g _ hg => by omega) h.1.size), Nat.le_trans h.2.1 hc.size, row_chg h.2.2.1 hc (by omega), row_chg h.2.2.2.1 hc (by omega), h2⟩

theorem toNode_own (n : Nat) (N : NodV) (D : Nd) (w : World) (h : NodAt n w N D) (hs : D.small n) :
  Calls Try.prog 29 #[N.val] w fun e w' => ∃ M : NodV, e = .returned M.val ∧ N.like M ∧ NodOwn n w' w.heap.size M D ∧ Below w.heap.size w w' := by
 obtain ⟨id, te, vo, lb, lt, lv, ⟨⟨sl, sp, sc, sk, sb⟩, sv⟩, ro, vv, nv, mv, cm, ⟨⟨ol, op, oc, ok, ob⟩, ov⟩⟩ := N
 obtain ⟨p1, p2, p3, p4, p5, p6⟩ := h
 obtain ⟨hs1, hs2, hs3, hs4, hs5, hs6, hs7, hs8⟩ := hs
 have b0 : Below w.heap.size w (((w.alloc (.cells #[.int .i64 id, .int .i64 te, .int .i64 vo, .int .i64 lb, .int .i64 lt, lv, .bool sl, sp, sc, sk, sb, sv, .int .i64 ro, vv, nv, mv, .int .i64 cm, .bool ol, op, oc, ok, ob, ov] 79)).alloc (.cells #[.int .i64 0, .int .i64 0, .int .i64 0, .int .i64 0, .int .i64 0, .slice none 0 0, .bool false, .slice none 0 0, .slice none 0 0, .slice none 0 0, .slice none 0 0, .slice none 0 0, .int .i64 0, .slice none 0 0, .slice none 0 0, .slice none 0 0, .int .i64 0, .bool false, .slice none 0 0, .slice none 0 0, .slice none 0 0, .slice none 0 0, .slice none 0 0] 94)).alloc (.cells #[.int .i64 id, .int .i64 te, .int .i64 vo, .int .i64 0, .int .i64 0, .slice none 0 0, .bool false, .slice none 0 0, .slice none 0 0, .slice none 0 0, .slice none 0 0, .slice none 0 0, .int .i64 0, .slice none 0 0, .slice none 0 0, .slice none 0 0, .int .i64 0, .bool false, .slice none 0 0, .slice none 0 0, .slice none 0 0, .slice none 0 0, .slice none 0 0] 94)) := (((Below.refl _ _).alloc (Nat.le_refl _) _).alloc (by simp) _).alloc (by simp; omega) _
 have n0 := MBox.step (MBox.step (MBox.start 79 w #[.int .i64 id, .int .i64 te, .int .i64 vo, .int .i64 lb, .int .i64 lt, lv, .bool sl, sp, sc, sk, sb, sv, .int .i64 ro, vv, nv, mv, .int .i64 cm, .bool ol, op, oc, ok, ob, ov]) (bel_nw _ (.cells #[.int .i64 0, .int .i64 0, .int .i64 0, .int .i64 0, .int .i64 0, .slice none 0 0, .bool false, .slice none 0 0, .slice none 0 0, .slice none 0 0, .slice none 0 0, .slice none 0 0, .int .i64 0, .slice none 0 0, .slice none 0 0, .slice none 0 0, .int .i64 0, .bool false, .slice none 0 0, .slice none 0 0, .slice none 0 0, .slice none 0 0, .slice none 0 0] 94))) (bel_nw _ (.cells #[.int .i64 id, .int .i64 te, .int .i64 vo, .int .i64 0, .int .i64 0, .slice none 0 0, .bool false, .slice none 0 0, .slice none 0 0, .slice none 0 0, .slice none 0 0, .slice none 0 0, .int .i64 0, .slice none 0 0, .slice none 0 0, .slice none 0 0, .int .i64 0, .bool false, .slice none 0 0, .slice none 0 0, .slice none 0 0, .slice none 0 0, .slice none 0 0] 94))
 have n1 := MBox.step (MBox.start 94 (w.alloc (.cells #[.int .i64 id, .int .i64 te, .int .i64 vo, .int .i64 lb, .int .i64 lt, lv, .bool sl, sp, sc, sk, sb, sv, .int .i64 ro, vv, nv, mv, .int .i64 cm, .bool ol, op, oc, ok, ob, ov] 79)) #[.int .i64 0, .int .i64 0, .int .i64 0, .int .i64 0, .int .i64 0, .slice none 0 0, .bool false, .slice none 0 0, .slice none 0 0, .slice none 0 0, .slice none 0 0, .slice none 0 0, .int .i64 0, .slice none 0 0, .slice none 0 0, .slice none 0 0, .int .i64 0, .bool false, .slice none 0 0, .slice none 0 0, .slice none 0 0, .slice none 0 0, .slice none 0 0]) (bel_nw _ (.cells #[.int .i64 id, .int .i64 te, .int .i64 vo, .int .i64 0, .int .i64 0, .slice none 0 0, .bool false, .slice none 0 0, .slice none 0 0, .slice none 0 0, .slice none 0 0, .slice none 0 0, .int .i64 0, .slice none 0 0, .slice none 0 0, .slice none 0 0, .int .i64 0, .bool false, .slice none 0 0, .slice none 0 0, .slice none 0 0, .slice none 0 0, .slice none 0 0] 94))
 have n2 := MBox.start 94 ((w.alloc (.cells #[.int .i64 id, .int .i64 te, .int .i64 vo, .int .i64 lb, .int .i64 lt, lv, .bool sl, sp, sc, sk, sb, sv, .int .i64 ro, vv, nv, mv, .int .i64 cm, .bool ol, op, oc, ok, ob, ov] 79)).alloc (.cells #[.int .i64 0, .int .i64 0, .int .i64 0, .int .i64 0, .int .i64 0, .slice none 0 0, .bool false, .slice none 0 0, .slice none 0 0, .slice none 0 0, .slice none 0 0, .slice none 0 0, .int .i64 0, .slice none 0 0, .slice none 0 0, .slice none 0 0, .int .i64 0, .bool false, .slice none 0 0, .slice none 0 0, .slice none 0 0, .slice none 0 0, .slice none 0 0] 94)) #[.int .i64 id, .int .i64 te, .int .i64 vo, .int .i64 0, .int .i64 0, .slice none 0 0, .bool false, .slice none 0 0, .slice none 0 0, .slice none 0 0, .slice none 0 0, .slice none 0 0, .int .i64 0, .slice none 0 0, .slice none 0 0, .slice none 0 0, .int .i64 0, .bool false, .slice none 0 0, .slice none 0 0, .slice none 0 0, .slice none 0 0, .slice none 0 0]
 simp only [World.size_alloc] at n1 n2
 have zz : w.heap.size + 3 ≤ (((w.alloc (.cells #[.int .i64 id, .int .i64 te, .int .i64 vo, .int .i64 lb, .int .i64 lt, lv, .bool sl, sp, sc, sk, sb, sv, .int .i64 ro, vv, nv, mv, .int .i64 cm, .bool ol, op, oc, ok, ob, ov] 79)).alloc (.cells #[.int .i64 0, .int .i64 0, .int .i64 0, .int .i64 0, .int .i64 0, .slice none 0 0, .bool false, .slice none 0 0, .slice none 0 0, .slice none 0 0, .slice none 0 0, .slice none 0 0, .int .i64 0, .slice none 0 0, .slice none 0 0, .slice none 0 0, .int .i64 0, .bool false, .slice none 0 0, .slice none 0 0, .slice none 0 0, .slice none 0 0, .slice none 0 0] 94)).alloc (.cells #[.int .i64 id, .int .i64 te, .int .i64 vo, .int .i64 0, .int .i64 0, .slice none 0 0, .bool false, .slice none 0 0, .slice none 0 0, .slice none 0 0, .slice none 0 0, .slice none 0 0, .int .i64 0, .slice none 0 0, .slice none 0 0, .slice none 0 0, .int .i64 0, .bool false, .slice none 0 0, .slice none 0 0, .slice none 0 0, .slice none 0 0, .slice none 0 0] 94)).heap.size := by simp
 have c0 := n0.cells
 have G : Hid (TN w #[.int .i64 id, .int .i64 te, .int .i64 vo, .int .i64 lb, .int .i64 lt, lv, .bool sl, sp, sc, sk, sb, sv, .int .i64 ro, vv, nv, mv, .int .i64 cm, .bool ol, op, oc, ok, ob, ov] #[.int .i64 id, .int .i64 te, .int .i64 vo, .int .i64 0, .int .i64 0, .slice none 0 0, .bool false, .slice none 0 0, .slice none 0 0, .slice none 0 0, .slice none 0 0, .slice none 0 0, .int .i64 0, .slice none 0 0, .slice none 0 0, .slice none 0 0, .int .i64 0, .bool false, .slice none 0 0, .slice none 0 0, .slice none 0 0, .slice none 0 0, .slice none 0 0] (((w.alloc (.cells #[.int .i64 id, .int .i64 te, .int .i64 vo, .int .i64 lb, .int .i64 lt, lv, .bool sl, sp, sc, sk, sb, sv, .int .i64 ro, vv, nv, mv, .int .i64 cm, .bool ol, op, oc, ok, ob, ov] 79)).alloc (.cells #[.int .i64 0, .int .i64 0, .int .i64 0, .int .i64 0, .int .i64 0, .slice none 0 0, .bool false, .slice none 0 0, .slice none 0 0, .slice none 0 0, .slice none 0 0, .slice none 0 0, .int .i64 0, .slice none 0 0, .slice none 0 0, .slice none 0 0, .int .i64 0, .bool false, .slice none 0 0, .slice none 0 0, .slice none 0 0, .slice none 0 0, .slice none 0 0] 94)).alloc (.cells #[.int .i64 id, .int .i64 te, .int .i64 vo, .int .i64 0, .int .i64 0, .slice none 0 0, .bool false, .slice none 0 0, .slice none 0 0, .slice none 0 0, .slice none 0 0, .slice none 0 0, .int .i64 0, .slice none 0 0, .slice none 0 0, .slice none 0 0, .int .i64 0, .bool false, .slice none 0 0, .slice none 0 0, .slice none 0 0, .slice none 0 0, .slice none 0 0] 94))) := ⟨b0, zz, n0, n1, n2⟩
 have L1 : Hid (∀ u, Below w.heap.size w u → Calls Try.prog 44 #[lgV lb lt lv] u fun e w' => ∃ v' : Value, e = .returned (lgV lb lt v') ∧ w'.ownsRow u.heap.size 136 6 v' D.l.length (flatE D.l) ∧ Below u.heap.size u w') := fun u hu => toLog_any lb lt lv D.l u (p1.below hu) hs1
 have L2 : Hid (∀ u, Below w.heap.size w u → Calls Try.prog 45 #[.agg #[.bool sl, sp, sc, sk, sb, sv]] u fun e w' => ∃ m' : MacV, e = .returned m'.val ∧ MacOwn n w' u.heap.size m' D.T1 D.d1 ∧ Below u.heap.size u w') := fun u hu => toMachine_own n ⟨⟨sl, sp, sc, sk, sb⟩, sv⟩ D.T1 D.d1 u (p2.below hu) hs2 hs3
 have L3 : Hid (∀ u, Below w.heap.size w u → Calls Try.prog 46 #[vv] u fun e w' => ∃ v', e = .returned v' ∧ w'.ownsRow u.heap.size 4 1 v' D.vs.length (flatL D.vs) ∧ Below u.heap.size u w') := fun u hu => toBoolS_any vv D.vs u (p3.below hu) hs4
 have L4 : Hid (∀ u, Below w.heap.size w u → Calls Try.prog 47 #[nv] u fun e w' => ∃ v', e = .returned v' ∧ w'.ownsRow u.heap.size 3 1 v' D.nx.length (flatI D.nx) ∧ Below u.heap.size u w') := fun u hu => toIntS_any nv D.nx u (p4.below hu) hs5
 have L5 : Hid (∀ u, Below w.heap.size w u → Calls Try.prog 47 #[mv] u fun e w' => ∃ v', e = .returned v' ∧ w'.ownsRow u.heap.size 3 1 v' D.mt.length (flatI D.mt) ∧ Below u.heap.size u w') := fun u hu => toIntS_any mv D.mt u (p5.below hu) hs6
 have L6 : Hid (∀ u, Below w.heap.size w u → Calls Try.prog 45 #[.agg #[.bool ol, op, oc, ok, ob, ov]] u fun e w' => ∃ m' : MacV, e = .returned m'.val ∧ MacOwn n w' u.heap.size m' D.T2 D.d2 ∧ Below u.heap.size u w') := fun u hu => toMachine_own n ⟨⟨ol, op, oc, ok, ob⟩, ov⟩ D.T2 D.d2 u (p6.below hu) hs7 hs8
 clear p1 p2 p3 p4 p5 p6 hs1 hs2 hs3 hs4 hs5 hs6 hs7 hs8 b0 n0 n1 n2 zz
 show Calls Try.prog 29 #[.agg #[.int .i64 id, .int .i64 te, .int .i64 vo, .int .i64 lb, .int .i64 lt, lv, .bool sl, sp, sc, sk, sb, sv, .int .i64 ro, vv, nv, mv, .int .i64 cm, .bool ol, op, oc, ok, ob, ov]] w _
 go_enter Try.func29, Try.ntmps29
 go_upto_region 5 with fail
 generalize (((w.alloc (.cells #[.int .i64 id, .int .i64 te, .int .i64 vo, .int .i64 lb, .int .i64 lt, lv, .bool sl, sp, sc, sk, sb, sv, .int .i64 ro, vv, nv, mv, .int .i64 cm, .bool ol, op, oc, ok, ob, ov] 79)).alloc (.cells #[.int .i64 0, .int .i64 0, .int .i64 0, .int .i64 0, .int .i64 0, .slice none 0 0, .bool false, .slice none 0 0, .slice none 0 0, .slice none 0 0, .slice none 0 0, .slice none 0 0, .int .i64 0, .slice none 0 0, .slice none 0 0, .slice none 0 0, .int .i64 0, .bool false, .slice none 0 0, .slice none 0 0, .slice none 0 0, .slice none 0 0, .slice none 0 0] 94)).alloc (.cells #[.int .i64 id, .int .i64 te, .int .i64 vo, .int .i64 0, .int .i64 0, .slice none 0 0, .bool false, .slice none 0 0, .slice none 0 0, .slice none 0 0, .slice none 0 0, .slice none 0 0, .int .i64 0, .slice none 0 0, .slice none 0 0, .slice none 0 0, .int .i64 0, .bool false, .slice none 0 0, .slice none 0 0, .slice none 0 0, .slice none 0 0, .slice none 0 0] 94)) = W0 at *
 go_cut [] (fun wx => ∃ x0 : Option Addr × Nat × Nat, Hid (TN w #[.int .i64 id, .int .i64 te, .int .i64 vo, .int .i64 lb, .int .i64 lt, lv, .bool sl, sp, sc, sk, sb, sv, .int .i64 ro, vv, nv, mv, .int .i64 cm, .bool ol, op, oc, ok, ob, ov] #[.int .i64 id, .int .i64 te, .int .i64 vo, .int .i64 lb, .int .i64 lt, .slice x0.1 x0.2.1 x0.2.2, .bool false, .slice none 0 0, .slice none 0 0, .slice none 0 0, .slice none 0 0, .slice none 0 0, .int .i64 0, .slice none 0 0, .slice none 0 0, .slice none 0 0, .int .i64 0, .bool false, .slice none 0 0, .slice none 0 0, .slice none 0 0, .slice none 0 0, .slice none 0 0] wx) ∧ Hid (wx.ownsRow (w.heap.size + 3) 136 6 (.slice x0.1 x0.2.1 x0.2.2) D.l.length (flatE D.l)))
 case first =>
  as_aux_lemma =>
   go_wp2_with fail
   refine (L1.out _ G.out.1).mono ?_
   rintro e w1 ⟨z, rfl, oz, bz⟩
   obtain ⟨x0, hz⟩ := (Row.of_owns oz).sl
   subst hz
   have Oz := hid9 (owns_mono (base' := w.heap.size + 3) oz G.out.2.1)
   replace G := hid9 (G.out.step bz)
   clear oz bz c0
   have ff1 : ∀ j, w1.frozen? ⟨w.heap.size + 1 + 1, j, none⟩ = false := fun j => frozen_of_cells G.out.2.2.2.2
   have dd0 : ∀ j, w1.cell? ⟨w.heap.size + 1 + 1, j, none⟩ = (#[.int .i64 id, .int .i64 te, .int .i64 vo, .int .i64 0, .int .i64 0, .slice none 0 0, .bool false, .slice none 0 0, .slice none 0 0, .slice none 0 0, .slice none 0 0, .slice none 0 0, .int .i64 0, .slice none 0 0, .slice none 0 0, .slice none 0 0, .int .i64 0, .bool false, .slice none 0 0, .slice none 0 0, .slice none 0 0, .slice none 0 0, .slice none 0 0] : Array Value)[j]? := fun j => cell_of_cells G.out.2.2.2.2
   have GC := hid9 ((((Chg.refl (fun g => g = w.heap.size + 1 + 1) w1).setAt (w.heap.size + 1 + 1) 3 rfl (.int .i64 lb)).setAt (w.heap.size + 1 + 1) 4 rfl (.int .i64 lt)).setAt (w.heap.size + 1 + 1) 5 rfl (.slice x0.1 x0.2.1 x0.2.2))
   have n2 : (((w1.setCell ⟨w.heap.size + 1 + 1, 3, none⟩ (.int .i64 lb)).setCell ⟨w.heap.size + 1 + 1, 4, none⟩ (.int .i64 lt)).setCell ⟨w.heap.size + 1 + 1, 5, none⟩ (.slice x0.1 x0.2.1 x0.2.2)).heap[w.heap.size + 1 + 1]? = some (.cells #[.int .i64 id, .int .i64 te, .int .i64 vo, .int .i64 lb, .int .i64 lt, .slice x0.1 x0.2.1 x0.2.2, .bool false, .slice none 0 0, .slice none 0 0, .slice none 0 0, .slice none 0 0, .slice none 0 0, .int .i64 0, .slice none 0 0, .slice none 0 0, .slice none 0 0, .int .i64 0, .bool false, .slice none 0 0, .slice none 0 0, .slice none 0 0, .slice none 0 0, .slice none 0 0] 94 (0, 0)) := by simpa using (set_at 5 (.slice x0.1 x0.2.1 x0.2.2) (set_at 4 (.int .i64 lt) (set_at 3 (.int .i64 lb) G.out.2.2.2.2)))
   have G2 := hid9 (G.out.sets GC.out n2)
   clear n2
   go_wp2_with fail
   go_meet
   exact ⟨x0, G2.out, owns_but Oz.out GC.out (by omega)⟩
 case rest =>
  clear G  c0
  obtain ⟨x0, G, O1⟩ := hcut
  go_upto_region 6 with fail
  go_cut [] (fun wx => ∃ (l1 : Bool) (x1 x2 x3 x4 x5 : Option Addr × Nat × Nat), Hid (TN w #[.int .i64 id, .int .i64 te, .int .i64 vo, .int .i64 lb, .int .i64 lt, lv, .bool sl, sp, sc, sk, sb, sv, .int .i64 ro, vv, nv, mv, .int .i64 cm, .bool ol, op, oc, ok, ob, ov] #[.int .i64 id, .int .i64 te, .int .i64 vo, .int .i64 lb, .int .i64 lt, .slice x0.1 x0.2.1 x0.2.2, .bool l1, .slice x1.1 x1.2.1 x1.2.2, .slice x2.1 x2.2.1 x2.2.2, .slice x3.1 x3.2.1 x3.2.2, .slice x4.1 x4.2.1 x4.2.2, .slice x5.1 x5.2.1 x5.2.2, .int .i64 0, .slice none 0 0, .slice none 0 0, .slice none 0 0, .int .i64 0, .bool false, .slice none 0 0, .slice none 0 0, .slice none 0 0, .slice none 0 0, .slice none 0 0] wx) ∧ Hid (wx.ownsRow (w.heap.size + 3) 136 6 (.slice x0.1 x0.2.1 x0.2.2) D.l.length (flatE D.l)) ∧ Hid (MacOwn n wx (w.heap.size + 3) ⟨⟨l1, .slice x1.1 x1.2.1 x1.2.2, .slice x2.1 x2.2.1 x2.2.2, .slice x3.1 x3.2.1 x3.2.2, .slice x4.1 x4.2.1 x4.2.2⟩, .slice x5.1 x5.2.1 x5.2.2⟩ D.T1 D.d1))
  case first =>
   as_aux_lemma =>
    have c0 := fun j => cell_of_cells (j := j) G.out.2.2.1
    go_wp2_with fail
    refine (L2.out _ G.out.1).mono ?_
    rintro e w2 ⟨z, rfl, oz, bz⟩
    obtain ⟨l1, x1, x2, x3, x4, x5, hz⟩ := oz.at.sl
    subst hz
    have Oz := hid9 (oz.low (base' := w.heap.size + 3) G.out.2.1)
    replace G := hid9 (G.out.step bz)
    replace O1 := hid9 (owns_below O1.out bz)
    clear oz bz c0
    have ff1 : ∀ j, w2.frozen? ⟨w.heap.size + 1 + 1, j, none⟩ = false := fun j => frozen_of_cells G.out.2.2.2.2
    have dd0 : ∀ j, w2.cell? ⟨w.heap.size + 1 + 1, j, none⟩ = (#[.int .i64 id, .int .i64 te, .int .i64 vo, .int .i64 lb, .int .i64 lt, .slice x0.1 x0.2.1 x0.2.2, .bool false, .slice none 0 0, .slice none 0 0, .slice none 0 0, .slice none 0 0, .slice none 0 0, .int .i64 0, .slice none 0 0, .slice none 0 0, .slice none 0 0, .int .i64 0, .bool false, .slice none 0 0, .slice none 0 0, .slice none 0 0, .slice none 0 0, .slice none 0 0] : Array Value)[j]? := fun j => cell_of_cells G.out.2.2.2.2
    have GC := hid9 (((((((Chg.refl (fun g => g = w.heap.size + 1 + 1) w2).setAt (w.heap.size + 1 + 1) 6 rfl (.bool l1)).setAt (w.heap.size + 1 + 1) 7 rfl (.slice x1.1 x1.2.1 x1.2.2)).setAt (w.heap.size + 1 + 1) 8 rfl (.slice x2.1 x2.2.1 x2.2.2)).setAt (w.heap.size + 1 + 1) 9 rfl (.slice x3.1 x3.2.1 x3.2.2)).setAt (w.heap.size + 1 + 1) 10 rfl (.slice x4.1 x4.2.1 x4.2.2)).setAt (w.heap.size + 1 + 1) 11 rfl (.slice x5.1 x5.2.1 x5.2.2))
    have n2 : ((((((w2.setCell ⟨w.heap.size + 1 + 1, 6, none⟩ (.bool l1)).setCell ⟨w.heap.size + 1 + 1, 7, none⟩ (.slice x1.1 x1.2.1 x1.2.2)).setCell ⟨w.heap.size + 1 + 1, 8, none⟩ (.slice x2.1 x2.2.1 x2.2.2)).setCell ⟨w.heap.size + 1 + 1, 9, none⟩ (.slice x3.1 x3.2.1 x3.2.2)).setCell ⟨w.heap.size + 1 + 1, 10, none⟩ (.slice x4.1 x4.2.1 x4.2.2)).setCell ⟨w.heap.size + 1 + 1, 11, none⟩ (.slice x5.1 x5.2.1 x5.2.2)).heap[w.heap.size + 1 + 1]? = some (.cells #[.int .i64 id, .int .i64 te, .int .i64 vo, .int .i64 lb, .int .i64 lt, .slice x0.1 x0.2.1 x0.2.2, .bool l1, .slice x1.1 x1.2.1 x1.2.2, .slice x2.1 x2.2.1 x2.2.2, .slice x3.1 x3.2.1 x3.2.2, .slice x4.1 x4.2.1 x4.2.2, .slice x5.1 x5.2.1 x5.2.2, .int .i64 0, .slice none 0 0, .slice none 0 0, .slice none 0 0, .int .i64 0, .bool false, .slice none 0 0, .slice none 0 0, .slice none 0 0, .slice none 0 0, .slice none 0 0] 94 (0, 0)) := by simpa using (set_at 11 (.slice x5.1 x5.2.1 x5.2.2) (set_at 10 (.slice x4.1 x4.2.1 x4.2.2) (set_at 9 (.slice x3.1 x3.2.1 x3.2.2) (set_at 8 (.slice x2.1 x2.2.1 x2.2.2) (set_at 7 (.slice x1.1 x1.2.1 x1.2.2) (set_at 6 (.bool l1) G.out.2.2.2.2))))))
    have G2 := hid9 (G.out.sets GC.out n2)
    clear n2
    go_wp2_with fail
    go_meet
    exact ⟨l1, x1, x2, x3, x4, x5, G2.out, owns_but O1.out GC.out (by omega), Oz.out.but GC.out (by omega)⟩
  case rest =>
   clear G O1
   obtain ⟨l1, x1, x2, x3, x4, x5, G, O1, O2⟩ := hcut
   go_upto_region 7 with fail
   go_cut [] (fun wx => Hid (TN w #[.int .i64 id, .int .i64 te, .int .i64 vo, .int .i64 lb, .int .i64 lt, lv, .bool sl, sp, sc, sk, sb, sv, .int .i64 ro, vv, nv, mv, .int .i64 cm, .bool ol, op, oc, ok, ob, ov] #[.int .i64 id, .int .i64 te, .int .i64 vo, .int .i64 lb, .int .i64 lt, .slice x0.1 x0.2.1 x0.2.2, .bool l1, .slice x1.1 x1.2.1 x1.2.2, .slice x2.1 x2.2.1 x2.2.2, .slice x3.1 x3.2.1 x3.2.2, .slice x4.1 x4.2.1 x4.2.2, .slice x5.1 x5.2.1 x5.2.2, .int .i64 ro, .slice none 0 0, .slice none 0 0, .slice none 0 0, .int .i64 0, .bool false, .slice none 0 0, .slice none 0 0, .slice none 0 0, .slice none 0 0, .slice none 0 0] wx) ∧ Hid (wx.ownsRow (w.heap.size + 3) 136 6 (.slice x0.1 x0.2.1 x0.2.2) D.l.length (flatE D.l)) ∧ Hid (MacOwn n wx (w.heap.size + 3) ⟨⟨l1, .slice x1.1 x1.2.1 x1.2.2, .slice x2.1 x2.2.1 x2.2.2, .slice x3.1 x3.2.1 x3.2.2, .slice x4.1 x4.2.1 x4.2.2⟩, .slice x5.1 x5.2.1 x5.2.2⟩ D.T1 D.d1))
   case first =>
    as_aux_lemma =>
     have c0 := fun j => cell_of_cells (j := j) G.out.2.2.1
     have ff1 : ∀ j, wc.frozen? ⟨w.heap.size + 1 + 1, j, none⟩ = false := fun j => frozen_of_cells G.out.2.2.2.2
     have dd0 : ∀ j, wc.cell? ⟨w.heap.size + 1 + 1, j, none⟩ = (#[.int .i64 id, .int .i64 te, .int .i64 vo, .int .i64 lb, .int .i64 lt, .slice x0.1 x0.2.1 x0.2.2, .bool l1, .slice x1.1 x1.2.1 x1.2.2, .slice x2.1 x2.2.1 x2.2.2, .slice x3.1 x3.2.1 x3.2.2, .slice x4.1 x4.2.1 x4.2.2, .slice x5.1 x5.2.1 x5.2.2, .int .i64 0, .slice none 0 0, .slice none 0 0, .slice none 0 0, .int .i64 0, .bool false, .slice none 0 0, .slice none 0 0, .slice none 0 0, .slice none 0 0, .slice none 0 0] : Array Value)[j]? := fun j => cell_of_cells G.out.2.2.2.2
     have GC := hid9 ((Chg.refl (fun g => g = w.heap.size + 1 + 1) wc).setAt (w.heap.size + 1 + 1) 12 rfl (.int .i64 ro))
     have n2 : (wc.setCell ⟨w.heap.size + 1 + 1, 12, none⟩ (.int .i64 ro)).heap[w.heap.size + 1 + 1]? = some (.cells #[.int .i64 id, .int .i64 te, .int .i64 vo, .int .i64 lb, .int .i64 lt, .slice x0.1 x0.2.1 x0.2.2, .bool l1, .slice x1.1 x1.2.1 x1.2.2, .slice x2.1 x2.2.1 x2.2.2, .slice x3.1 x3.2.1 x3.2.2, .slice x4.1 x4.2.1 x4.2.2, .slice x5.1 x5.2.1 x5.2.2, .int .i64 ro, .slice none 0 0, .slice none 0 0, .slice none 0 0, .int .i64 0, .bool false, .slice none 0 0, .slice none 0 0, .slice none 0 0, .slice none 0 0, .slice none 0 0] 94 (0, 0)) := by simpa using (set_at 12 (.int .i64 ro) G.out.2.2.2.2)
     have G2 := hid9 (G.out.sets GC.out n2)
     clear n2
     go_wp2_with fail
     go_meet
     exact ⟨G2.out, owns_but O1.out GC.out (by omega), O2.out.but GC.out (by omega)⟩
   case rest =>
    clear G O1 O2
    obtain ⟨G, O1, O2⟩ := hcut
    go_upto_region 8 with fail
    go_cut [] (fun wx => ∃ x6 : Option Addr × Nat × Nat, Hid (TN w #[.int .i64 id, .int .i64 te, .int .i64 vo, .int .i64 lb, .int .i64 lt, lv, .bool sl, sp, sc, sk, sb, sv, .int .i64 ro, vv, nv, mv, .int .i64 cm, .bool ol, op, oc, ok, ob, ov] #[.int .i64 id, .int .i64 te, .int .i64 vo, .int .i64 lb, .int .i64 lt, .slice x0.1 x0.2.1 x0.2.2, .bool l1, .slice x1.1 x1.2.1 x1.2.2, .slice x2.1 x2.2.1 x2.2.2, .slice x3.1 x3.2.1 x3.2.2, .slice x4.1 x4.2.1 x4.2.2, .slice x5.1 x5.2.1 x5.2.2, .int .i64 ro, .slice x6.1 x6.2.1 x6.2.2, .slice none 0 0, .slice none 0 0, .int .i64 0, .bool false, .slice none 0 0, .slice none 0 0, .slice none 0 0, .slice none 0 0, .slice none 0 0] wx) ∧ Hid (wx.ownsRow (w.heap.size + 3) 136 6 (.slice x0.1 x0.2.1 x0.2.2) D.l.length (flatE D.l)) ∧ Hid (MacOwn n wx (w.heap.size + 3) ⟨⟨l1, .slice x1.1 x1.2.1 x1.2.2, .slice x2.1 x2.2.1 x2.2.2, .slice x3.1 x3.2.1 x3.2.2, .slice x4.1 x4.2.1 x4.2.2⟩, .slice x5.1 x5.2.1 x5.2.2⟩ D.T1 D.d1) ∧ Hid (wx.ownsRow (w.heap.size + 3) 4 1 (.slice x6.1 x6.2.1 x6.2.2) D.vs.length (flatL D.vs)))
    case first =>
     as_aux_lemma =>
      have c0 := fun j => cell_of_cells (j := j) G.out.2.2.1
      go_wp2_with fail
      refine (L3.out _ G.out.1).mono ?_
      rintro e w4 ⟨z, rfl, oz, bz⟩
      obtain ⟨x6, hz⟩ := (Row.of_owns oz).sl
      subst hz
      have Oz := hid9 (owns_mono (base' := w.heap.size + 3) oz G.out.2.1)
      replace G := hid9 (G.out.step bz)
      replace O1 := hid9 (owns_below O1.out bz)
      replace O2 := hid9 (O2.out.below bz)
      clear oz bz c0
      have ff1 : ∀ j, w4.frozen? ⟨w.heap.size + 1 + 1, j, none⟩ = false := fun j => frozen_of_cells G.out.2.2.2.2
      have dd0 : ∀ j, w4.cell? ⟨w.heap.size + 1 + 1, j, none⟩ = (#[.int .i64 id, .int .i64 te, .int .i64 vo, .int .i64 lb, .int .i64 lt, .slice x0.1 x0.2.1 x0.2.2, .bool l1, .slice x1.1 x1.2.1 x1.2.2, .slice x2.1 x2.2.1 x2.2.2, .slice x3.1 x3.2.1 x3.2.2, .slice x4.1 x4.2.1 x4.2.2, .slice x5.1 x5.2.1 x5.2.2, .int .i64 ro, .slice none 0 0, .slice none 0 0, .slice none 0 0, .int .i64 0, .bool false, .slice none 0 0, .slice none 0 0, .slice none 0 0, .slice none 0 0, .slice none 0 0] : Array Value)[j]? := fun j => cell_of_cells G.out.2.2.2.2
      have GC := hid9 ((Chg.refl (fun g => g = w.heap.size + 1 + 1) w4).setAt (w.heap.size + 1 + 1) 13 rfl (.slice x6.1 x6.2.1 x6.2.2))
      have n2 : (w4.setCell ⟨w.heap.size + 1 + 1, 13, none⟩ (.slice x6.1 x6.2.1 x6.2.2)).heap[w.heap.size + 1 + 1]? = some (.cells #[.int .i64 id, .int .i64 te, .int .i64 vo, .int .i64 lb, .int .i64 lt, .slice x0.1 x0.2.1 x0.2.2, .bool l1, .slice x1.1 x1.2.1 x1.2.2, .slice x2.1 x2.2.1 x2.2.2, .slice x3.1 x3.2.1 x3.2.2, .slice x4.1 x4.2.1 x4.2.2, .slice x5.1 x5.2.1 x5.2.2, .int .i64 ro, .slice x6.1 x6.2.1 x6.2.2, .slice none 0 0, .slice none 0 0, .int .i64 0, .bool false, .slice none 0 0, .slice none 0 0, .slice none 0 0, .slice none 0 0, .slice none 0 0] 94 (0, 0)) := by simpa using (set_at 13 (.slice x6.1 x6.2.1 x6.2.2) G.out.2.2.2.2)
      have G2 := hid9 (G.out.sets GC.out n2)
      clear n2
      go_wp2_with fail
      go_meet
      exact ⟨x6, G2.out, owns_but O1.out GC.out (by omega), O2.out.but GC.out (by omega), owns_but Oz.out GC.out (by omega)⟩
    case rest =>
     clear G O1 O2
     obtain ⟨x6, G, O1, O2, O4⟩ := hcut
     go_upto_region 9 with fail
     go_cut [] (fun wx => ∃ x7 : Option Addr × Nat × Nat, Hid (TN w #[.int .i64 id, .int .i64 te, .int .i64 vo, .int .i64 lb, .int .i64 lt, lv, .bool sl, sp, sc, sk, sb, sv, .int .i64 ro, vv, nv, mv, .int .i64 cm, .bool ol, op, oc, ok, ob, ov] #[.int .i64 id, .int .i64 te, .int .i64 vo, .int .i64 lb, .int .i64 lt, .slice x0.1 x0.2.1 x0.2.2, .bool l1, .slice x1.1 x1.2.1 x1.2.2, .slice x2.1 x2.2.1 x2.2.2, .slice x3.1 x3.2.1 x3.2.2, .slice x4.1 x4.2.1 x4.2.2, .slice x5.1 x5.2.1 x5.2.2, .int .i64 ro, .slice x6.1 x6.2.1 x6.2.2, .slice x7.1 x7.2.1 x7.2.2, .slice none 0 0, .int .i64 0, .bool false, .slice none 0 0, .slice none 0 0, .slice none 0 0, .slice none 0 0, .slice none 0 0] wx) ∧ Hid (wx.ownsRow (w.heap.size + 3) 136 6 (.slice x0.1 x0.2.1 x0.2.2) D.l.length (flatE D.l)) ∧ Hid (MacOwn n wx (w.heap.size + 3) ⟨⟨l1, .slice x1.1 x1.2.1 x1.2.2, .slice x2.1 x2.2.1 x2.2.2, .slice x3.1 x3.2.1 x3.2.2, .slice x4.1 x4.2.1 x4.2.2⟩, .slice x5.1 x5.2.1 x5.2.2⟩ D.T1 D.d1) ∧ Hid (wx.ownsRow (w.heap.size + 3) 4 1 (.slice x6.1 x6.2.1 x6.2.2) D.vs.length (flatL D.vs)) ∧ Hid (wx.ownsRow (w.heap.size + 3) 3 1 (.slice x7.1 x7.2.1 x7.2.2) D.nx.length (flatI D.nx)))
     case first =>
      as_aux_lemma =>
       have c0 := fun j => cell_of_cells (j := j) G.out.2.2.1
       go_wp2_with fail
       refine (L4.out _ G.out.1).mono ?_
       rintro e w5 ⟨z, rfl, oz, bz⟩
       obtain ⟨x7, hz⟩ := (Row.of_owns oz).sl
       subst hz
       have Oz := hid9 (owns_mono (base' := w.heap.size + 3) oz G.out.2.1)
       replace G := hid9 (G.out.step bz)
       replace O1 := hid9 (owns_below O1.out bz)
       replace O2 := hid9 (O2.out.below bz)
       replace O4 := hid9 (owns_below O4.out bz)
       clear oz bz c0
       have ff1 : ∀ j, w5.frozen? ⟨w.heap.size + 1 + 1, j, none⟩ = false := fun j => frozen_of_cells G.out.2.2.2.2
       have dd0 : ∀ j, w5.cell? ⟨w.heap.size + 1 + 1, j, none⟩ = (#[.int .i64 id, .int .i64 te, .int .i64 vo, .int .i64 lb, .int .i64 lt, .slice x0.1 x0.2.1 x0.2.2, .bool l1, .slice x1.1 x1.2.1 x1.2.2, .slice x2.1 x2.2.1 x2.2.2, .slice x3.1 x3.2.1 x3.2.2, .slice x4.1 x4.2.1 x4.2.2, .slice x5.1 x5.2.1 x5.2.2, .int .i64 ro, .slice x6.1 x6.2.1 x6.2.2, .slice none 0 0, .slice none 0 0, .int .i64 0, .bool false, .slice none 0 0, .slice none 0 0, .slice none 0 0, .slice none 0 0, .slice none 0 0] : Array Value)[j]? := fun j => cell_of_cells G.out.2.2.2.2
       have GC := hid9 ((Chg.refl (fun g => g = w.heap.size + 1 + 1) w5).setAt (w.heap.size + 1 + 1) 14 rfl (.slice x7.1 x7.2.1 x7.2.2))
       have n2 : (w5.setCell ⟨w.heap.size + 1 + 1, 14, none⟩ (.slice x7.1 x7.2.1 x7.2.2)).heap[w.heap.size + 1 + 1]? = some (.cells #[.int .i64 id, .int .i64 te, .int .i64 vo, .int .i64 lb, .int .i64 lt, .slice x0.1 x0.2.1 x0.2.2, .bool l1, .slice x1.1 x1.2.1 x1.2.2, .slice x2.1 x2.2.1 x2.2.2, .slice x3.1 x3.2.1 x3.2.2, .slice x4.1 x4.2.1 x4.2.2, .slice x5.1 x5.2.1 x5.2.2, .int .i64 ro, .slice x6.1 x6.2.1 x6.2.2, .slice x7.1 x7.2.1 x7.2.2, .slice none 0 0, .int .i64 0, .bool false, .slice none 0 0, .slice none 0 0, .slice none 0 0, .slice none 0 0, .slice none 0 0] 94 (0, 0)) := by simpa using (set_at 14 (.slice x7.1 x7.2.1 x7.2.2) G.out.2.2.2.2)
       have G2 := hid9 (G.out.sets GC.out n2)
       clear n2
       go_wp2_with fail
       go_meet
       exact ⟨x7, G2.out, owns_but O1.out GC.out (by omega), O2.out.but GC.out (by omega), owns_but O4.out GC.out (by omega), owns_but Oz.out GC.out (by omega)⟩
     case rest =>
      clear G O1 O2 O4
      obtain ⟨x7, G, O1, O2, O4, O5⟩ := hcut
      go_upto_region 10 with fail
      go_cut [] (fun wx => ∃ x8 : Option Addr × Nat × Nat, Hid (TN w #[.int .i64 id, .int .i64 te, .int .i64 vo, .int .i64 lb, .int .i64 lt, lv, .bool sl, sp, sc, sk, sb, sv, .int .i64 ro, vv, nv, mv, .int .i64 cm, .bool ol, op, oc, ok, ob, ov] #[.int .i64 id, .int .i64 te, .int .i64 vo, .int .i64 lb, .int .i64 lt, .slice x0.1 x0.2.1 x0.2.2, .bool l1, .slice x1.1 x1.2.1 x1.2.2, .slice x2.1 x2.2.1 x2.2.2, .slice x3.1 x3.2.1 x3.2.2, .slice x4.1 x4.2.1 x4.2.2, .slice x5.1 x5.2.1 x5.2.2, .int .i64 ro, .slice x6.1 x6.2.1 x6.2.2, .slice x7.1 x7.2.1 x7.2.2, .slice x8.1 x8.2.1 x8.2.2, .int .i64 0, .bool false, .slice none 0 0, .slice none 0 0, .slice none 0 0, .slice none 0 0, .slice none 0 0] wx) ∧ Hid (wx.ownsRow (w.heap.size + 3) 136 6 (.slice x0.1 x0.2.1 x0.2.2) D.l.length (flatE D.l)) ∧ Hid (MacOwn n wx (w.heap.size + 3) ⟨⟨l1, .slice x1.1 x1.2.1 x1.2.2, .slice x2.1 x2.2.1 x2.2.2, .slice x3.1 x3.2.1 x3.2.2, .slice x4.1 x4.2.1 x4.2.2⟩, .slice x5.1 x5.2.1 x5.2.2⟩ D.T1 D.d1) ∧ Hid (wx.ownsRow (w.heap.size + 3) 4 1 (.slice x6.1 x6.2.1 x6.2.2) D.vs.length (flatL D.vs)) ∧ Hid (wx.ownsRow (w.heap.size + 3) 3 1 (.slice x7.1 x7.2.1 x7.2.2) D.nx.length (flatI D.nx)) ∧ Hid (wx.ownsRow (w.heap.size + 3) 3 1 (.slice x8.1 x8.2.1 x8.2.2) D.mt.length (flatI D.mt)))
      case first =>
       as_aux_lemma =>
        have c0 := fun j => cell_of_cells (j := j) G.out.2.2.1
        go_wp2_with fail
        refine (L5.out _ G.out.1).mono ?_
        rintro e w6 ⟨z, rfl, oz, bz⟩
        obtain ⟨x8, hz⟩ := (Row.of_owns oz).sl
        subst hz
        have Oz := hid9 (owns_mono (base' := w.heap.size + 3) oz G.out.2.1)
        replace G := hid9 (G.out.step bz)
        replace O1 := hid9 (owns_below O1.out bz)
        replace O2 := hid9 (O2.out.below bz)
        replace O4 := hid9 (owns_below O4.out bz)
        replace O5 := hid9 (owns_below O5.out bz)
        clear oz bz c0
        have ff1 : ∀ j, w6.frozen? ⟨w.heap.size + 1 + 1, j, none⟩ = false := fun j => frozen_of_cells G.out.2.2.2.2
        have dd0 : ∀ j, w6.cell? ⟨w.heap.size + 1 + 1, j, none⟩ = (#[.int .i64 id, .int .i64 te, .int .i64 vo, .int .i64 lb, .int .i64 lt, .slice x0.1 x0.2.1 x0.2.2, .bool l1, .slice x1.1 x1.2.1 x1.2.2, .slice x2.1 x2.2.1 x2.2.2, .slice x3.1 x3.2.1 x3.2.2, .slice x4.1 x4.2.1 x4.2.2, .slice x5.1 x5.2.1 x5.2.2, .int .i64 ro, .slice x6.1 x6.2.1 x6.2.2, .slice x7.1 x7.2.1 x7.2.2, .slice none 0 0, .int .i64 0, .bool false, .slice none 0 0, .slice none 0 0, .slice none 0 0, .slice none 0 0, .slice none 0 0] : Array Value)[j]? := fun j => cell_of_cells G.out.2.2.2.2
        have GC := hid9 ((Chg.refl (fun g => g = w.heap.size + 1 + 1) w6).setAt (w.heap.size + 1 + 1) 15 rfl (.slice x8.1 x8.2.1 x8.2.2))
        have n2 : (w6.setCell ⟨w.heap.size + 1 + 1, 15, none⟩ (.slice x8.1 x8.2.1 x8.2.2)).heap[w.heap.size + 1 + 1]? = some (.cells #[.int .i64 id, .int .i64 te, .int .i64 vo, .int .i64 lb, .int .i64 lt, .slice x0.1 x0.2.1 x0.2.2, .bool l1, .slice x1.1 x1.2.1 x1.2.2, .slice x2.1 x2.2.1 x2.2.2, .slice x3.1 x3.2.1 x3.2.2, .slice x4.1 x4.2.1 x4.2.2, .slice x5.1 x5.2.1 x5.2.2, .int .i64 ro, .slice x6.1 x6.2.1 x6.2.2, .slice x7.1 x7.2.1 x7.2.2, .slice x8.1 x8.2.1 x8.2.2, .int .i64 0, .bool false, .slice none 0 0, .slice none 0 0, .slice none 0 0, .slice none 0 0, .slice none 0 0] 94 (0, 0)) := by simpa using (set_at 15 (.slice x8.1 x8.2.1 x8.2.2) G.out.2.2.2.2)
        have G2 := hid9 (G.out.sets GC.out n2)
        clear n2
        go_wp2_with fail
        go_meet
        exact ⟨x8, G2.out, owns_but O1.out GC.out (by omega), O2.out.but GC.out (by omega), owns_but O4.out GC.out (by omega), owns_but O5.out GC.out (by omega), owns_but Oz.out GC.out (by omega)⟩
      case rest =>
       clear G O1 O2 O4 O5
       obtain ⟨x8, G, O1, O2, O4, O5, O6⟩ := hcut
       go_upto_region 11 with fail
       go_cut [] (fun wx => Hid (TN w #[.int .i64 id, .int .i64 te, .int .i64 vo, .int .i64 lb, .int .i64 lt, lv, .bool sl, sp, sc, sk, sb, sv, .int .i64 ro, vv, nv, mv, .int .i64 cm, .bool ol, op, oc, ok, ob, ov] #[.int .i64 id, .int .i64 te, .int .i64 vo, .int .i64 lb, .int .i64 lt, .slice x0.1 x0.2.1 x0.2.2, .bool l1, .slice x1.1 x1.2.1 x1.2.2, .slice x2.1 x2.2.1 x2.2.2, .slice x3.1 x3.2.1 x3.2.2, .slice x4.1 x4.2.1 x4.2.2, .slice x5.1 x5.2.1 x5.2.2, .int .i64 ro, .slice x6.1 x6.2.1 x6.2.2, .slice x7.1 x7.2.1 x7.2.2, .slice x8.1 x8.2.1 x8.2.2, .int .i64 cm, .bool false, .slice none 0 0, .slice none 0 0, .slice none 0 0, .slice none 0 0, .slice none 0 0] wx) ∧ Hid (wx.ownsRow (w.heap.size + 3) 136 6 (.slice x0.1 x0.2.1 x0.2.2) D.l.length (flatE D.l)) ∧ Hid (MacOwn n wx (w.heap.size + 3) ⟨⟨l1, .slice x1.1 x1.2.1 x1.2.2, .slice x2.1 x2.2.1 x2.2.2, .slice x3.1 x3.2.1 x3.2.2, .slice x4.1 x4.2.1 x4.2.2⟩, .slice x5.1 x5.2.1 x5.2.2⟩ D.T1 D.d1) ∧ Hid (wx.ownsRow (w.heap.size + 3) 4 1 (.slice x6.1 x6.2.1 x6.2.2) D.vs.length (flatL D.vs)) ∧ Hid (wx.ownsRow (w.heap.size + 3) 3 1 (.slice x7.1 x7.2.1 x7.2.2) D.nx.length (flatI D.nx)) ∧ Hid (wx.ownsRow (w.heap.size + 3) 3 1 (.slice x8.1 x8.2.1 x8.2.2) D.mt.length (flatI D.mt)))
       case first =>
        as_aux_lemma =>
         have c0 := fun j => cell_of_cells (j := j) G.out.2.2.1
         have ff1 : ∀ j, wc.frozen? ⟨w.heap.size + 1 + 1, j, none⟩ = false := fun j => frozen_of_cells G.out.2.2.2.2
         have dd0 : ∀ j, wc.cell? ⟨w.heap.size + 1 + 1, j, none⟩ = (#[.int .i64 id, .int .i64 te, .int .i64 vo, .int .i64 lb, .int .i64 lt, .slice x0.1 x0.2.1 x0.2.2, .bool l1, .slice x1.1 x1.2.1 x1.2.2, .slice x2.1 x2.2.1 x2.2.2, .slice x3.1 x3.2.1 x3.2.2, .slice x4.1 x4.2.1 x4.2.2, .slice x5.1 x5.2.1 x5.2.2, .int .i64 ro, .slice x6.1 x6.2.1 x6.2.2, .slice x7.1 x7.2.1 x7.2.2, .slice x8.1 x8.2.1 x8.2.2, .int .i64 0, .bool false, .slice none 0 0, .slice none 0 0, .slice none 0 0, .slice none 0 0, .slice none 0 0] : Array Value)[j]? := fun j => cell_of_cells G.out.2.2.2.2
         have GC := hid9 ((Chg.refl (fun g => g = w.heap.size + 1 + 1) wc).setAt (w.heap.size + 1 + 1) 16 rfl (.int .i64 cm))
         have n2 : (wc.setCell ⟨w.heap.size + 1 + 1, 16, none⟩ (.int .i64 cm)).heap[w.heap.size + 1 + 1]? = some (.cells #[.int .i64 id, .int .i64 te, .int .i64 vo, .int .i64 lb, .int .i64 lt, .slice x0.1 x0.2.1 x0.2.2, .bool l1, .slice x1.1 x1.2.1 x1.2.2, .slice x2.1 x2.2.1 x2.2.2, .slice x3.1 x3.2.1 x3.2.2, .slice x4.1 x4.2.1 x4.2.2, .slice x5.1 x5.2.1 x5.2.2, .int .i64 ro, .slice x6.1 x6.2.1 x6.2.2, .slice x7.1 x7.2.1 x7.2.2, .slice x8.1 x8.2.1 x8.2.2, .int .i64 cm, .bool false, .slice none 0 0, .slice none 0 0, .slice none 0 0, .slice none 0 0, .slice none 0 0] 94 (0, 0)) := by simpa using (set_at 16 (.int .i64 cm) G.out.2.2.2.2)
         have G2 := hid9 (G.out.sets GC.out n2)
         clear n2
         go_wp2_with fail
         go_meet
         exact ⟨G2.out, owns_but O1.out GC.out (by omega), O2.out.but GC.out (by omega), owns_but O4.out GC.out (by omega), owns_but O5.out GC.out (by omega), owns_but O6.out GC.out (by omega)⟩
       case rest =>
        clear G O1 O2 O4 O5 O6
        obtain ⟨G, O1, O2, O4, O5, O6⟩ := hcut
        go_upto_region 12 with fail
        go_cut [] (fun wx => ∃ (l2 : Bool) (x9 x10 x11 x12 x13 : Option Addr × Nat × Nat), Hid (TN w #[.int .i64 id, .int .i64 te, .int .i64 vo, .int .i64 lb, .int .i64 lt, lv, .bool sl, sp, sc, sk, sb, sv, .int .i64 ro, vv, nv, mv, .int .i64 cm, .bool ol, op, oc, ok, ob, ov] #[.int .i64 id, .int .i64 te, .int .i64 vo, .int .i64 lb, .int .i64 lt, .slice x0.1 x0.2.1 x0.2.2, .bool l1, .slice x1.1 x1.2.1 x1.2.2, .slice x2.1 x2.2.1 x2.2.2, .slice x3.1 x3.2.1 x3.2.2, .slice x4.1 x4.2.1 x4.2.2, .slice x5.1 x5.2.1 x5.2.2, .int .i64 ro, .slice x6.1 x6.2.1 x6.2.2, .slice x7.1 x7.2.1 x7.2.2, .slice x8.1 x8.2.1 x8.2.2, .int .i64 cm, .bool l2, .slice x9.1 x9.2.1 x9.2.2, .slice x10.1 x10.2.1 x10.2.2, .slice x11.1 x11.2.1 x11.2.2, .slice x12.1 x12.2.1 x12.2.2, .slice x13.1 x13.2.1 x13.2.2] wx) ∧ Hid (wx.ownsRow (w.heap.size + 3) 136 6 (.slice x0.1 x0.2.1 x0.2.2) D.l.length (flatE D.l)) ∧ Hid (MacOwn n wx (w.heap.size + 3) ⟨⟨l1, .slice x1.1 x1.2.1 x1.2.2, .slice x2.1 x2.2.1 x2.2.2, .slice x3.1 x3.2.1 x3.2.2, .slice x4.1 x4.2.1 x4.2.2⟩, .slice x5.1 x5.2.1 x5.2.2⟩ D.T1 D.d1) ∧ Hid (wx.ownsRow (w.heap.size + 3) 4 1 (.slice x6.1 x6.2.1 x6.2.2) D.vs.length (flatL D.vs)) ∧ Hid (wx.ownsRow (w.heap.size + 3) 3 1 (.slice x7.1 x7.2.1 x7.2.2) D.nx.length (flatI D.nx)) ∧ Hid (wx.ownsRow (w.heap.size + 3) 3 1 (.slice x8.1 x8.2.1 x8.2.2) D.mt.length (flatI D.mt)) ∧ Hid (MacOwn n wx (w.heap.size + 3) ⟨⟨l2, .slice x9.1 x9.2.1 x9.2.2, .slice x10.1 x10.2.1 x10.2.2, .slice x11.1 x11.2.1 x11.2.2, .slice x12.1 x12.2.1 x12.2.2⟩, .slice x13.1 x13.2.1 x13.2.2⟩ D.T2 D.d2))
        case first =>
         as_aux_lemma =>
          have c0 := fun j => cell_of_cells (j := j) G.out.2.2.1
          go_wp2_with fail
          refine (L6.out _ G.out.1).mono ?_
          rintro e w8 ⟨z, rfl, oz, bz⟩
          obtain ⟨l2, x9, x10, x11, x12, x13, hz⟩ := oz.at.sl
          subst hz
          have Oz := hid9 (oz.low (base' := w.heap.size + 3) G.out.2.1)
          replace G := hid9 (G.out.step bz)
          replace O1 := hid9 (owns_below O1.out bz)
          replace O2 := hid9 (O2.out.below bz)
          replace O4 := hid9 (owns_below O4.out bz)
          replace O5 := hid9 (owns_below O5.out bz)
          replace O6 := hid9 (owns_below O6.out bz)
          clear oz bz c0
          have ff1 : ∀ j, w8.frozen? ⟨w.heap.size + 1 + 1, j, none⟩ = false := fun j => frozen_of_cells G.out.2.2.2.2
          have dd0 : ∀ j, w8.cell? ⟨w.heap.size + 1 + 1, j, none⟩ = (#[.int .i64 id, .int .i64 te, .int .i64 vo, .int .i64 lb, .int .i64 lt, .slice x0.1 x0.2.1 x0.2.2, .bool l1, .slice x1.1 x1.2.1 x1.2.2, .slice x2.1 x2.2.1 x2.2.2, .slice x3.1 x3.2.1 x3.2.2, .slice x4.1 x4.2.1 x4.2.2, .slice x5.1 x5.2.1 x5.2.2, .int .i64 ro, .slice x6.1 x6.2.1 x6.2.2, .slice x7.1 x7.2.1 x7.2.2, .slice x8.1 x8.2.1 x8.2.2, .int .i64 cm, .bool false, .slice none 0 0, .slice none 0 0, .slice none 0 0, .slice none 0 0, .slice none 0 0] : Array Value)[j]? := fun j => cell_of_cells G.out.2.2.2.2
          have GC := hid9 (((((((Chg.refl (fun g => g = w.heap.size + 1 + 1) w8).setAt (w.heap.size + 1 + 1) 17 rfl (.bool l2)).setAt (w.heap.size + 1 + 1) 18 rfl (.slice x9.1 x9.2.1 x9.2.2)).setAt (w.heap.size + 1 + 1) 19 rfl (.slice x10.1 x10.2.1 x10.2.2)).setAt (w.heap.size + 1 + 1) 20 rfl (.slice x11.1 x11.2.1 x11.2.2)).setAt (w.heap.size + 1 + 1) 21 rfl (.slice x12.1 x12.2.1 x12.2.2)).setAt (w.heap.size + 1 + 1) 22 rfl (.slice x13.1 x13.2.1 x13.2.2))
          have n2 : ((((((w8.setCell ⟨w.heap.size + 1 + 1, 17, none⟩ (.bool l2)).setCell ⟨w.heap.size + 1 + 1, 18, none⟩ (.slice x9.1 x9.2.1 x9.2.2)).setCell ⟨w.heap.size + 1 + 1, 19, none⟩ (.slice x10.1 x10.2.1 x10.2.2)).setCell ⟨w.heap.size + 1 + 1, 20, none⟩ (.slice x11.1 x11.2.1 x11.2.2)).setCell ⟨w.heap.size + 1 + 1, 21, none⟩ (.slice x12.1 x12.2.1 x12.2.2)).setCell ⟨w.heap.size + 1 + 1, 22, none⟩ (.slice x13.1 x13.2.1 x13.2.2)).heap[w.heap.size + 1 + 1]? = some (.cells #[.int .i64 id, .int .i64 te, .int .i64 vo, .int .i64 lb, .int .i64 lt, .slice x0.1 x0.2.1 x0.2.2, .bool l1, .slice x1.1 x1.2.1 x1.2.2, .slice x2.1 x2.2.1 x2.2.2, .slice x3.1 x3.2.1 x3.2.2, .slice x4.1 x4.2.1 x4.2.2, .slice x5.1 x5.2.1 x5.2.2, .int .i64 ro, .slice x6.1 x6.2.1 x6.2.2, .slice x7.1 x7.2.1 x7.2.2, .slice x8.1 x8.2.1 x8.2.2, .int .i64 cm, .bool l2, .slice x9.1 x9.2.1 x9.2.2, .slice x10.1 x10.2.1 x10.2.2, .slice x11.1 x11.2.1 x11.2.2, .slice x12.1 x12.2.1 x12.2.2, .slice x13.1 x13.2.1 x13.2.2] 94 (0, 0)) := by simpa using (set_at 22 (.slice x13.1 x13.2.1 x13.2.2) (set_at 21 (.slice x12.1 x12.2.1 x12.2.2) (set_at 20 (.slice x11.1 x11.2.1 x11.2.2) (set_at 19 (.slice x10.1 x10.2.1 x10.2.2) (set_at 18 (.slice x9.1 x9.2.1 x9.2.2) (set_at 17 (.bool l2) G.out.2.2.2.2))))))
          have G2 := hid9 (G.out.sets GC.out n2)
          clear n2
          go_wp2_with fail
          go_meet
          exact ⟨l2, x9, x10, x11, x12, x13, G2.out, owns_but O1.out GC.out (by omega), O2.out.but GC.out (by omega), owns_but O4.out GC.out (by omega), owns_but O5.out GC.out (by omega), owns_but O6.out GC.out (by omega), Oz.out.but GC.out (by omega)⟩
        case rest =>
         clear G O1 O2 O4 O5 O6
         obtain ⟨l2, x9, x10, x11, x12, x13, G, O1, O2, O4, O5, O6, O8⟩ := hcut
         have RG : Hid (wc.rangeAt (w.heap.size + 1 + 1) 0 ([.int .i64 id, .int .i64 te, .int .i64 vo, .int .i64 lb, .int .i64 lt, .slice x0.1 x0.2.1 x0.2.2, .bool l1, .slice x1.1 x1.2.1 x1.2.2, .slice x2.1 x2.2.1 x2.2.2, .slice x3.1 x3.2.1 x3.2.2, .slice x4.1 x4.2.1 x4.2.2, .slice x5.1 x5.2.1 x5.2.2, .int .i64 ro, .slice x6.1 x6.2.1 x6.2.2, .slice x7.1 x7.2.1 x7.2.2, .slice x8.1 x8.2.1 x8.2.2, .int .i64 cm, .bool l2, .slice x9.1 x9.2.1 x9.2.2, .slice x10.1 x10.2.1 x10.2.2, .slice x11.1 x11.2.1 x11.2.2, .slice x12.1 x12.2.1 x12.2.2, .slice x13.1 x13.2.1 x13.2.2] : List Value)) := range_of G.out.2.2.2.2
         have TH : Hid (wc.there (w.heap.size + 1) 0 (List.toArray ([.int .i64 id, .int .i64 te, .int .i64 vo, .int .i64 lb, .int .i64 lt, .slice x0.1 x0.2.1 x0.2.2, .bool l1, .slice x1.1 x1.2.1 x1.2.2, .slice x2.1 x2.2.1 x2.2.2, .slice x3.1 x3.2.1 x3.2.2, .slice x4.1 x4.2.1 x4.2.2, .slice x5.1 x5.2.1 x5.2.2, .int .i64 ro, .slice x6.1 x6.2.1 x6.2.2, .slice x7.1 x7.2.1 x7.2.2, .slice x8.1 x8.2.1 x8.2.2, .int .i64 cm, .bool l2, .slice x9.1 x9.2.1 x9.2.2, .slice x10.1 x10.2.1 x10.2.2, .slice x11.1 x11.2.1 x11.2.2, .slice x12.1 x12.2.1 x12.2.2, .slice x13.1 x13.2.1 x13.2.2] : List Value)).size) := there_of G.out.2.2.2.1 rfl
         have HI : Hid ((Try.prog.info? 94).map (·.size) = some (List.length ([.int .i64 id, .int .i64 te, .int .i64 vo, .int .i64 lb, .int .i64 lt, .slice x0.1 x0.2.1 x0.2.2, .bool l1, .slice x1.1 x1.2.1 x1.2.2, .slice x2.1 x2.2.1 x2.2.2, .slice x3.1 x3.2.1 x3.2.2, .slice x4.1 x4.2.1 x4.2.2, .slice x5.1 x5.2.1 x5.2.2, .int .i64 ro, .slice x6.1 x6.2.1 x6.2.2, .slice x7.1 x7.2.1 x7.2.2, .slice x8.1 x8.2.1 x8.2.2, .int .i64 cm, .bool l2, .slice x9.1 x9.2.1 x9.2.2, .slice x10.1 x10.2.1 x10.2.2, .slice x11.1 x11.2.1 x11.2.2, .slice x12.1 x12.2.1 x12.2.2, .slice x13.1 x13.2.1 x13.2.2] : List Value))) := (show (Try.prog.info? 94).map (·.size) = some 23 by kernel_rfl)
         have HJ : Hid ((Try.prog.info? 94).map (·.size) = some (List.toArray ([.int .i64 id, .int .i64 te, .int .i64 vo, .int .i64 lb, .int .i64 lt, .slice x0.1 x0.2.1 x0.2.2, .bool l1, .slice x1.1 x1.2.1 x1.2.2, .slice x2.1 x2.2.1 x2.2.2, .slice x3.1 x3.2.1 x3.2.2, .slice x4.1 x4.2.1 x4.2.2, .slice x5.1 x5.2.1 x5.2.2, .int .i64 ro, .slice x6.1 x6.2.1 x6.2.2, .slice x7.1 x7.2.1 x7.2.2, .slice x8.1 x8.2.1 x8.2.2, .int .i64 cm, .bool l2, .slice x9.1 x9.2.1 x9.2.2, .slice x10.1 x10.2.1 x10.2.2, .slice x11.1 x11.2.1 x11.2.2, .slice x12.1 x12.2.1 x12.2.2, .slice x13.1 x13.2.1 x13.2.2] : List Value)).size) := (show (Try.prog.info? 94).map (·.size) = some 23 by kernel_rfl)
         have ONE : Hid ((List.toArray ([.int .i64 id, .int .i64 te, .int .i64 vo, .int .i64 lb, .int .i64 lt, .slice x0.1 x0.2.1 x0.2.2, .bool l1, .slice x1.1 x1.2.1 x1.2.2, .slice x2.1 x2.2.1 x2.2.2, .slice x3.1 x3.2.1 x3.2.2, .slice x4.1 x4.2.1 x4.2.2, .slice x5.1 x5.2.1 x5.2.2, .int .i64 ro, .slice x6.1 x6.2.1 x6.2.2, .slice x7.1 x7.2.1 x7.2.2, .slice x8.1 x8.2.1 x8.2.2, .int .i64 cm, .bool l2, .slice x9.1 x9.2.1 x9.2.2, .slice x10.1 x10.2.1 x10.2.2, .slice x11.1 x11.2.1 x11.2.2, .slice x12.1 x12.2.1 x12.2.2, .slice x13.1 x13.2.1 x13.2.2] : List Value)).all (·.oneCell') = true) := by show _ = _; simp [Value.oneCell']
         have GC : Hid (Chg (fun g => g = w.heap.size + 1) wc (wc.setCells (w.heap.size + 1) 0 ([.int .i64 id, .int .i64 te, .int .i64 vo, .int .i64 lb, .int .i64 lt, .slice x0.1 x0.2.1 x0.2.2, .bool l1, .slice x1.1 x1.2.1 x1.2.2, .slice x2.1 x2.2.1 x2.2.2, .slice x3.1 x3.2.1 x3.2.2, .slice x4.1 x4.2.1 x4.2.2, .slice x5.1 x5.2.1 x5.2.2, .int .i64 ro, .slice x6.1 x6.2.1 x6.2.2, .slice x7.1 x7.2.1 x7.2.2, .slice x8.1 x8.2.1 x8.2.2, .int .i64 cm, .bool l2, .slice x9.1 x9.2.1 x9.2.2, .slice x10.1 x10.2.1 x10.2.2, .slice x11.1 x11.2.1 x11.2.2, .slice x12.1 x12.2.1 x12.2.2, .slice x13.1 x13.2.1 x13.2.2] : List Value))) := Chg.setCells (F := fun g => g = w.heap.size + 1) (g := w.heap.size + 1) (fun _ => rfl) ([.int .i64 id, .int .i64 te, .int .i64 vo, .int .i64 lb, .int .i64 lt, .slice x0.1 x0.2.1 x0.2.2, .bool l1, .slice x1.1 x1.2.1 x1.2.2, .slice x2.1 x2.2.1 x2.2.2, .slice x3.1 x3.2.1 x3.2.2, .slice x4.1 x4.2.1 x4.2.2, .slice x5.1 x5.2.1 x5.2.2, .int .i64 ro, .slice x6.1 x6.2.1 x6.2.2, .slice x7.1 x7.2.1 x7.2.2, .slice x8.1 x8.2.1 x8.2.2, .int .i64 cm, .bool l2, .slice x9.1 x9.2.1 x9.2.2, .slice x10.1 x10.2.1 x10.2.2, .slice x11.1 x11.2.1 x11.2.2, .slice x12.1 x12.2.1 x12.2.2, .slice x13.1 x13.2.1 x13.2.2] : List Value) 0 wc (Chg.refl _ _)
         have X1 : Hid ((wc.setCells (w.heap.size + 1) 0 ([.int .i64 id, .int .i64 te, .int .i64 vo, .int .i64 lb, .int .i64 lt, .slice x0.1 x0.2.1 x0.2.2, .bool l1, .slice x1.1 x1.2.1 x1.2.2, .slice x2.1 x2.2.1 x2.2.2, .slice x3.1 x3.2.1 x3.2.2, .slice x4.1 x4.2.1 x4.2.2, .slice x5.1 x5.2.1 x5.2.2, .int .i64 ro, .slice x6.1 x6.2.1 x6.2.2, .slice x7.1 x7.2.1 x7.2.2, .slice x8.1 x8.2.1 x8.2.2, .int .i64 cm, .bool l2, .slice x9.1 x9.2.1 x9.2.2, .slice x10.1 x10.2.1 x10.2.2, .slice x11.1 x11.2.1 x11.2.2, .slice x12.1 x12.2.1 x12.2.2, .slice x13.1 x13.2.1 x13.2.2] : List Value)).heap[w.heap.size + 1]? = some (.cells (List.toArray ([.int .i64 id, .int .i64 te, .int .i64 vo, .int .i64 lb, .int .i64 lt, .slice x0.1 x0.2.1 x0.2.2, .bool l1, .slice x1.1 x1.2.1 x1.2.2, .slice x2.1 x2.2.1 x2.2.2, .slice x3.1 x3.2.1 x3.2.2, .slice x4.1 x4.2.1 x4.2.2, .slice x5.1 x5.2.1 x5.2.2, .int .i64 ro, .slice x6.1 x6.2.1 x6.2.2, .slice x7.1 x7.2.1 x7.2.2, .slice x8.1 x8.2.1 x8.2.2, .int .i64 cm, .bool l2, .slice x9.1 x9.2.1 x9.2.2, .slice x10.1 x10.2.1 x10.2.2, .slice x11.1 x11.2.1 x11.2.2, .slice x12.1 x12.2.1 x12.2.2, .slice x13.1 x13.2.1 x13.2.2] : List Value)) 94 (0, 0))) := setAll_at G.out.2.2.2.1 ([.int .i64 id, .int .i64 te, .int .i64 vo, .int .i64 lb, .int .i64 lt, .slice x0.1 x0.2.1 x0.2.2, .bool l1, .slice x1.1 x1.2.1 x1.2.2, .slice x2.1 x2.2.1 x2.2.2, .slice x3.1 x3.2.1 x3.2.2, .slice x4.1 x4.2.1 x4.2.2, .slice x5.1 x5.2.1 x5.2.2, .int .i64 ro, .slice x6.1 x6.2.1 x6.2.2, .slice x7.1 x7.2.1 x7.2.2, .slice x8.1 x8.2.1 x8.2.2, .int .i64 cm, .bool l2, .slice x9.1 x9.2.1 x9.2.2, .slice x10.1 x10.2.1 x10.2.2, .slice x11.1 x11.2.1 x11.2.2, .slice x12.1 x12.2.1 x12.2.2, .slice x13.1 x13.2.1 x13.2.2] : List Value) rfl
         have B2 := hid9 (G.out.1.trans (GC.out.below (fun g _ hg => by omega) G.out.1.size))
         have MV : Hid (Value.agg (List.toArray ([.int .i64 id, .int .i64 te, .int .i64 vo, .int .i64 lb, .int .i64 lt, .slice x0.1 x0.2.1 x0.2.2, .bool l1, .slice x1.1 x1.2.1 x1.2.2, .slice x2.1 x2.2.1 x2.2.2, .slice x3.1 x3.2.1 x3.2.2, .slice x4.1 x4.2.1 x4.2.2, .slice x5.1 x5.2.1 x5.2.2, .int .i64 ro, .slice x6.1 x6.2.1 x6.2.2, .slice x7.1 x7.2.1 x7.2.2, .slice x8.1 x8.2.1 x8.2.2, .int .i64 cm, .bool l2, .slice x9.1 x9.2.1 x9.2.2, .slice x10.1 x10.2.1 x10.2.2, .slice x11.1 x11.2.1 x11.2.2, .slice x12.1 x12.2.1 x12.2.2, .slice x13.1 x13.2.1 x13.2.2] : List Value)) = NodV.val ⟨id, te, vo, lb, lt, .slice x0.1 x0.2.1 x0.2.2, ⟨⟨l1, .slice x1.1 x1.2.1 x1.2.2, .slice x2.1 x2.2.1 x2.2.2, .slice x3.1 x3.2.1 x3.2.2, .slice x4.1 x4.2.1 x4.2.2⟩, .slice x5.1 x5.2.1 x5.2.2⟩, ro, .slice x6.1 x6.2.1 x6.2.2, .slice x7.1 x7.2.1 x7.2.2, .slice x8.1 x8.2.1 x8.2.2, cm, ⟨⟨l2, .slice x9.1 x9.2.1 x9.2.2, .slice x10.1 x10.2.1 x10.2.2, .slice x11.1 x11.2.1 x11.2.2, .slice x12.1 x12.2.1 x12.2.2⟩, .slice x13.1 x13.2.1 x13.2.2⟩⟩) := by show _ = _; rfl
         replace O1 := hid9 (owns_mono (base' := w.heap.size) (owns_but O1.out GC.out (by omega)) (by omega))
         replace O2 := hid9 ((O2.out.but GC.out (by omega)).low (base' := w.heap.size) (by omega))
         replace O4 := hid9 (owns_mono (base' := w.heap.size) (owns_but O4.out GC.out (by omega)) (by omega))
         replace O5 := hid9 (owns_mono (base' := w.heap.size) (owns_but O5.out GC.out (by omega)) (by omega))
         replace O6 := hid9 (owns_mono (base' := w.heap.size) (owns_but O6.out GC.out (by omega)) (by omega))
         replace O8 := hid9 ((O8.out.but GC.out (by omega)).low (base' := w.heap.size) (by omega))
         have FIN : Hid (∃ M : NodV, Value.agg (List.toArray ([.int .i64 id, .int .i64 te, .int .i64 vo, .int .i64 lb, .int .i64 lt, .slice x0.1 x0.2.1 x0.2.2, .bool l1, .slice x1.1 x1.2.1 x1.2.2, .slice x2.1 x2.2.1 x2.2.2, .slice x3.1 x3.2.1 x3.2.2, .slice x4.1 x4.2.1 x4.2.2, .slice x5.1 x5.2.1 x5.2.2, .int .i64 ro, .slice x6.1 x6.2.1 x6.2.2, .slice x7.1 x7.2.1 x7.2.2, .slice x8.1 x8.2.1 x8.2.2, .int .i64 cm, .bool l2, .slice x9.1 x9.2.1 x9.2.2, .slice x10.1 x10.2.1 x10.2.2, .slice x11.1 x11.2.1 x11.2.2, .slice x12.1 x12.2.1 x12.2.2, .slice x13.1 x13.2.1 x13.2.2] : List Value)) = M.val ∧ NodV.like ⟨id, te, vo, lb, lt, lv, ⟨⟨sl, sp, sc, sk, sb⟩, sv⟩, ro, vv, nv, mv, cm, ⟨⟨ol, op, oc, ok, ob⟩, ov⟩⟩ M ∧ NodOwn n (wc.setCells (w.heap.size + 1) 0 ([.int .i64 id, .int .i64 te, .int .i64 vo, .int .i64 lb, .int .i64 lt, .slice x0.1 x0.2.1 x0.2.2, .bool l1, .slice x1.1 x1.2.1 x1.2.2, .slice x2.1 x2.2.1 x2.2.2, .slice x3.1 x3.2.1 x3.2.2, .slice x4.1 x4.2.1 x4.2.2, .slice x5.1 x5.2.1 x5.2.2, .int .i64 ro, .slice x6.1 x6.2.1 x6.2.2, .slice x7.1 x7.2.1 x7.2.2, .slice x8.1 x8.2.1 x8.2.2, .int .i64 cm, .bool l2, .slice x9.1 x9.2.1 x9.2.2, .slice x10.1 x10.2.1 x10.2.2, .slice x11.1 x11.2.1 x11.2.2, .slice x12.1 x12.2.1 x12.2.2, .slice x13.1 x13.2.1 x13.2.2] : List Value)) w.heap.size M D ∧ Below w.heap.size w (wc.setCells (w.heap.size + 1) 0 ([.int .i64 id, .int .i64 te, .int .i64 vo, .int .i64 lb, .int .i64 lt, .slice x0.1 x0.2.1 x0.2.2, .bool l1, .slice x1.1 x1.2.1 x1.2.2, .slice x2.1 x2.2.1 x2.2.2, .slice x3.1 x3.2.1 x3.2.2, .slice x4.1 x4.2.1 x4.2.2, .slice x5.1 x5.2.1 x5.2.2, .int .i64 ro, .slice x6.1 x6.2.1 x6.2.2, .slice x7.1 x7.2.1 x7.2.2, .slice x8.1 x8.2.1 x8.2.2, .int .i64 cm, .bool l2, .slice x9.1 x9.2.1 x9.2.2, .slice x10.1 x10.2.1 x10.2.2, .slice x11.1 x11.2.1 x11.2.2, .slice x12.1 x12.2.1 x12.2.2, .slice x13.1 x13.2.1 x13.2.2] : List Value))) := ⟨_, MV.out, ⟨rfl, rfl, rfl, rfl, rfl, rfl, rfl⟩, ⟨O1.out, O2.out, O4.out, O5.out, O6.out, O8.out⟩, B2.out⟩
         clear GC G B2 MV O1 O2 O4 O5 O6 O8
         generalize ([.int .i64 id, .int .i64 te, .int .i64 vo, .int .i64 lb, .int .i64 lt, .slice x0.1 x0.2.1 x0.2.2, .bool l1, .slice x1.1 x1.2.1 x1.2.2, .slice x2.1 x2.2.1 x2.2.2, .slice x3.1 x3.2.1 x3.2.2, .slice x4.1 x4.2.1 x4.2.2, .slice x5.1 x5.2.1 x5.2.2, .int .i64 ro, .slice x6.1 x6.2.1 x6.2.2, .slice x7.1 x7.2.1 x7.2.2, .slice x8.1 x8.2.1 x8.2.2, .int .i64 cm, .bool l2, .slice x9.1 x9.2.1 x9.2.2, .slice x10.1 x10.2.1 x10.2.2, .slice x11.1 x11.2.1 x11.2.2, .slice x12.1 x12.2.1 x12.2.2, .slice x13.1 x13.2.1 x13.2.2] : List Value) = cs at *
         go_wp2_with (first | (refine wpList_load_mid rfl 94 _ rfl (w.heap.size + 1 + 1) 0 rfl cs _ RG.out Try.underlying94 rfl HI.out ?_) | (refine wpList_store_mid rfl 94 _ _ rfl (w.heap.size + 1) 0 cs.toArray rfl rfl TH.out HJ.out ONE.out ?_))
         generalize wc.setCells (w.heap.size + 1) 0 cs = WF at *
         exact ⟨rfl, _, results_cell_row Try.results29 _ WF (w.heap.size + 1) 94 cs.toArray (0, 0) _ rfl X1.out Try.underlying94 rfl HJ.out, (by obtain ⟨M, e, r⟩ := FIN.out; exact ⟨M, by rw [e], r⟩)⟩
end
end Go.Proofs.Ythfmifdpldmbaaa
