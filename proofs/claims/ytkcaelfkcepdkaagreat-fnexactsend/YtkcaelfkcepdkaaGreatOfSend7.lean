/-
  toMachine: a machine copied out of the law's own kind.
  toMachine: a machine copied out of the law's own kind owns its memory.
  toNode: a node copied out of the law's own kind owns its memory.
  toRpc: what is told, copied out of the law's own kind, owns its memory.
  Lists of structs that hold lists of their own: the elements of a world.
  Lists of structs: the laws' measures.
  A lead, a command: copied, compared; what a struct's cells are.
  What chapter 2 says of trees, as plain functions.
  Contracts of MapOk, the model's and the program's.
  Contracts of the model's chapter 2: l2Leaf.
  The contract of the model's l2Depth.
  Contracts of the model's chapter 2: TreeDepth, TreeOk, l2Count, TreeCount, l2Kid, KidOf.
  Contracts of the model's chapter 2: TreeCount, l2Kid, KidOf; of the program's countAll, kidAt.
  Contracts of the program's chapter 2: kindOf, tooDeep, has, splits, rootOf, kid.
  Contracts of the program's chapter 2: rootOf, kid.
  The contract of the program's kid.
  Contracts of the program's chapter 2: pairsOk, cutsOk, bufOk.
  Contracts of the program's chapter 2: bufOk.
  Contracts of the program's chapter 2: depthByKids, depth.
  Contracts of the program's chapter 2: TreeDepth, TreeOk, countAll, TreeCount, kidAt, KidOf.
  Contracts of the program's chapter 2: kidAt, KidOf.
-/
import Derived.Test.YtkcaelfkcepdkaaGreatOfSend4
import Derived.Test.YtkcaelfkcepdkaaGreatOfSend1
import Derived.Test.YtkcaelfkcepdkaaGreatOfSend6
import Derived.Deep.DeepCutAuto
import Derived.Deep.MidRow
import Derived.Laws.Rows
import Derived.Test.YtkcaelfkcepdkaaGreatOfSend3
namespace Go.Proofs.YtkcaelfkcepdkaaGreat
set_option maxRecDepth 100000
set_option maxHeartbeats 8000000
section
open Go.RowKit

theorem six_at {W : World} {R : Nat} {t : TypeId} {x0 x1 x2 x3 x4 x5 : Value} (a b c d e f : Value) (h : W.heap[R]? = some (.cells #[x0, x1, x2, x3, x4, x5] t (0, 0))) : ((((((W.setCell ⟨R, 0, none⟩ a).setCell ⟨R, 1, none⟩ b).setCell ⟨R, 2, none⟩ c).setCell ⟨R, 3, none⟩ d).setCell ⟨R, 4, none⟩ e).setCell ⟨R, 5, none⟩ f).heap[R]? = some (.cells #[a, b, c, d, e, f] t (0, 0)) := by
 have h0 := heap_setCell_same W R 0 _ _ a h
 have h1 := heap_setCell_same _ R 1 _ _ b h0
 have h2 := heap_setCell_same _ R 2 _ _ c h1
 have h3 := heap_setCell_same _ R 3 _ _ d h2
 have h4 := heap_setCell_same _ R 4 _ _ e h3
 have h5 := heap_setCell_same _ R 5 _ _ f h4
 simpa using h5
theorem six_chg (W : World) (R : Nat) (a b c d e f : Value) : Chg (fun g => g = R) W ((((((W.setCell ⟨R, 0, none⟩ a).setCell ⟨R, 1, none⟩ b).setCell ⟨R, 2, none⟩ c).setCell ⟨R, 3, none⟩ d).setCell ⟨R, 4, none⟩ e).setCell ⟨R, 5, none⟩ f) :=
 ((((((Chg.refl (fun g => g = R) W).setAt R 0 rfl a).setAt R 1 rfl b).setAt R 2 rfl c).setAt R 3 rfl d).setAt R 4 rfl e).setAt R 5 rfl f
theorem fst_at {W : World} {R : Nat} {t : TypeId} {x0 x1 x2 x3 x4 x5 : Value} (a b c d e : Value) (h : W.heap[R]? = some (.cells #[x0, x1, x2, x3, x4, x5] t (0, 0))) : (((((W.setCell ⟨R, 0, none⟩ a).setCell ⟨R, 1, none⟩ b).setCell ⟨R, 2, none⟩ c).setCell ⟨R, 3, none⟩ d).setCell ⟨R, 4, none⟩ e).heap[R]? = some (.cells #[a, b, c, d, e, x5] t (0, 0)) := by
 have h0 := heap_setCell_same W R 0 _ _ a h
 have h1 := heap_setCell_same _ R 1 _ _ b h0
 have h2 := heap_setCell_same _ R 2 _ _ c h1
 have h3 := heap_setCell_same _ R 3 _ _ d h2
 have h4 := heap_setCell_same _ R 4 _ _ e h3
 simpa using h4
theorem fst_chg (W : World) (R : Nat) (a b c d e : Value) : Chg (fun g => g = R) W (((((W.setCell ⟨R, 0, none⟩ a).setCell ⟨R, 1, none⟩ b).setCell ⟨R, 2, none⟩ c).setCell ⟨R, 3, none⟩ d).setCell ⟨R, 4, none⟩ e) :=
 (((((Chg.refl (fun g => g = R) W).setAt R 0 rfl a).setAt R 1 rfl b).setAt R 2 rfl c).setAt R 3 rfl d).setAt R 4 rfl e
theorem lst_at {W : World} {R : Nat} {t : TypeId} {x0 x1 x2 x3 x4 x5 : Value} (f : Value) (h : W.heap[R]? = some (.cells #[x0, x1, x2, x3, x4, x5] t (0, 0))) : (W.setCell ⟨R, 5, none⟩ f).heap[R]? = some (.cells #[x0, x1, x2, x3, x4, f] t (0, 0)) := by
 have h5 := heap_setCell_same _ R 5 _ _ f h
 simpa using h5
end
section
open Go.RowKit

theorem hid9 {p : Prop} (h : p) : Hid p := h
def MacOwn (n : Nat) (w : World) (base : Nat) (m : MacV) (T : Tr) (l : DL) : Prop := TreeOwn n w base m.x T ∧ w.ownsRow base 141 4 m.v l.length (flatD l)
theorem owns_but {w w' : World} {base e size k R : Nat} {v : Value} {xs : List Value} (h : w.ownsRow base e size v k xs) (hc : Chg (fun g => g = R) w w') (hR : R < base) : w'.ownsRow base e size v k xs := owns_chg h hc (fun g hg e => by have := (h.lt g hg).1; omega)
end
section
open Go.RowKit

def NodOwn (n : Nat) (w : World) (base : Nat) (N : NodV) (D : Nd) : Prop :=
 w.ownsRow base 119 6 N.lv D.l.length (flatE D.l) ∧ MacOwn n w base N.s D.T1 D.d1 ∧ w.ownsRow base 4 1 N.vv D.vs.length (flatL D.vs) ∧ w.ownsRow base 3 1 N.nv D.nx.length (flatI D.nx) ∧ w.ownsRow base 3 1 N.mv D.mt.length (flatI D.mt) ∧ MacOwn n w base N.o D.T2 D.d2
theorem range_of {w : World} {b : Nat} {A : Array Value} {t : TypeId} (h : w.heap[b]? = some (.cells A t (0, 0))) : w.rangeAt b 0 A.toList := fun j v hv => by
 rw [Nat.zero_add, cell_of_row _ _ j _ t (0, 0) h]
 simpa using hv
theorem there_of {w : World} {b : Nat} {A : Array Value} {t : TypeId} (h : w.heap[b]? = some (.cells A t (0, 0))) {k : Nat} (hk : A.size = k) : w.there b 0 k := fun j hj => by
 subst hk
 rw [Nat.zero_add, cell_of_row _ _ j _ t (0, 0) h]
 exact ⟨by simp [hj], frozen_of_row w b j A t h⟩
theorem spl_all {cur : Array Value} {vs : List Value} (h : cur.size = vs.length) : spl cur 0 vs = vs.toArray := by
 have := spl_toList vs cur 0 (by omega)
 simp only [List.take_zero, List.nil_append, Nat.zero_add] at this
 rw [List.drop_eq_nil_of_le (by simp; omega), List.append_nil] at this
 apply Array.ext'
 simpa using this
theorem setAll_at {W : World} {R : Nat} {t : TypeId} {A : Array Value} (h : W.heap[R]? = some (.cells A t (0, 0))) (vs : List Value) (hn : A.size = vs.length) : (W.setCells R 0 vs).heap[R]? = some (.cells vs.toArray t (0, 0)) := by
 have := heap_setCells_same R t vs 0 W A h
 rw [spl_all hn] at this
 exact this
theorem step_at {w w' : World} {B : Nat} {o : Obj} (h : w.heap[B]? = some o) (hb : Below w.heap.size w w') : w'.heap[B]? = some o := (hb.block B (Array.getElem?_eq_some_iff.1 h).1).trans h
theorem set_at {W : World} {R : Nat} {t : TypeId} {A : Array Value} (i : Nat) (u : Value) (h : W.heap[R]? = some (.cells A t (0, 0))) : (W.setCell ⟨R, i, none⟩ u).heap[R]? = some (.cells (A.setIfInBounds i u) t (0, 0)) := heap_setCell_same W R i _ _ u h
theorem Row.sl {w : World} {v : Value} {k : Nat} {xs : List Value} (h : Row w v k xs) : ∃ x : Option Addr × Nat × Nat, v = .slice x.1 x.2.1 x.2.2 := by
 obtain ⟨a, _, _, cap, h1, _⟩ := h
 exact ⟨(a, k, cap), h1⟩
theorem MacAt.sl {n : Nat} {w : World} {m : MacV} {T : Tr} {l : DL} (h : MacAt n w m T l) : ∃ (b : Bool) (x1 x2 x3 x4 x5 : Option Addr × Nat × Nat), m = ⟨⟨b, .slice x1.1 x1.2.1 x1.2.2, .slice x2.1 x2.2.1 x2.2.2, .slice x3.1 x3.2.1 x3.2.2, .slice x4.1 x4.2.1 x4.2.2⟩, .slice x5.1 x5.2.1 x5.2.2⟩ := by
 obtain ⟨⟨lf, p, c, k, b⟩, v⟩ := m
 obtain ⟨t, r⟩ := h
 obtain ⟨x5, e5⟩ := r.sl
 obtain ⟨a1, a2, a3, a4, b1, b2, b3, b4, hy⟩ := t.shape
 simp only [TV.mk.injEq] at hy e5
 obtain ⟨_, f1, f2, f3, f4⟩ := hy
 subst e5 f1 f2 f3 f4
 exact ⟨lf, (a1, _, b1), (a2, _, b2), (a3, _, b3), (a4, _, b4), x5, rfl⟩
def TN (w : World) (A C : Array Value) (u : World) : Prop := Below w.heap.size w u ∧ w.heap.size + 3 ≤ u.heap.size ∧ u.heap[w.heap.size]? = some (.cells A 59 (0, 0)) ∧ u.heap[w.heap.size + 1]? = some (.cells #[.int .i64 0, .int .i64 0, .int .i64 0, .int .i64 0, .int .i64 0, .slice none 0 0, .bool false, .slice none 0 0, .slice none 0 0, .slice none 0 0, .slice none 0 0, .slice none 0 0, .int .i64 0, .slice none 0 0, .slice none 0 0, .slice none 0 0, .int .i64 0, .bool false, .slice none 0 0, .slice none 0 0, .slice none 0 0, .slice none 0 0, .slice none 0 0] 73 (0, 0)) ∧ u.heap[w.heap.size + 1 + 1]? = some (.cells C 73 (0, 0))
theorem TN.step {w u u' : World} {A C : Array Value} (h : TN w A C u) (hb : Below u.heap.size u u') : TN w A C u' := ⟨Below.and h.1 hb, Nat.le_trans h.2.1 hb.size, step_at h.2.2.1 hb, step_at h.2.2.2.1 hb, step_at h.2.2.2.2 hb⟩
theorem TN.sets {w u u' : World} {A C C' : Array Value} (h : TN w A C u) (hc : Chg (fun g => g = w.heap.size + 1 + 1) u u') (h2 : u'.heap[w.heap.size + 1 + 1]? = some (.cells C' 73 (0, 0))) : TN w A C' u' :=
 ⟨h.1.trans (hc.below (fun g _ hg => by omega) h.1.size), Nat.le_trans h.2.1 hc.size, row_chg h.2.2.1 hc (by omega), row_chg h.2.2.2.1 hc (by omega), h2⟩
end
section
open Go.RowKit

def RpcOwn (n : Nat) (w : World) (base : Nat) (R : RpcV) (D : Rd) : Prop :=
 w.ownsRow base 119 6 R.ev D.l.length (flatE D.l) ∧ MacOwn n w base R.s D.T D.d
def TR (w : World) (A C : Array Value) (u : World) : Prop := Below w.heap.size w u ∧ w.heap.size + 3 ≤ u.heap.size ∧ u.heap[w.heap.size]? = some (.cells A 84 (0, 0)) ∧ u.heap[w.heap.size + 1]? = some (.cells #[.int .i64 0, .int .i64 0, .int .i64 0, .int .i64 0, .int .i64 0, .int .i64 0, .int .i64 0, .bool false, .slice none 0 0, .bool false, .slice none 0 0, .slice none 0 0, .slice none 0 0, .slice none 0 0, .slice none 0 0] 87 (0, 0)) ∧ u.heap[w.heap.size + 1 + 1]? = some (.cells C 87 (0, 0))
theorem TR.step {w u u' : World} {A C : Array Value} (h : TR w A C u) (hb : Below u.heap.size u u') : TR w A C u' := ⟨Below.and h.1 hb, Nat.le_trans h.2.1 hb.size, step_at h.2.2.1 hb, step_at h.2.2.2.1 hb, step_at h.2.2.2.2 hb⟩
theorem TR.sets {w u u' : World} {A C C' : Array Value} (h : TR w A C u) (hc : Chg (fun g => g = w.heap.size + 1 + 1) u u') (h2 : u'.heap[w.heap.size + 1 + 1]? = some (.cells C' 87 (0, 0))) : TR w A C' u' :=
 ⟨h.1.trans (hc.below (fun g _ hg => by omega) h.1.size), Nat.le_trans h.2.1 hc.size, row_chg h.2.2.1 hc (by omega), row_chg h.2.2.2.1 hc (by omega), h2⟩
end
section
open Go.RowKit

def LsAt {ε : Type} (cs : ε → List Value) (At : World → ε → Prop) (w : World) (v : Value) (es : List ε) : Prop := Row w v es.length (es.map cs).flatten ∧ ∀ e ∈ es, At w e
theorem allK_map {ε : Type} {cs : ε → List Value} {K : Nat} (hK : ∀ e, (cs e).length = K) (es : List ε) : AllK K (es.map cs) := fun l hl => by
 obtain ⟨e, _, rfl⟩ := List.mem_map.1 hl
 exact hK e
theorem LsAt.parts {ε : Type} {cs : ε → List Value} {At : World → ε → Prop} {w : World} {v : Value} {es : List ε} {K : Nat} (hK : ∀ e, (cs e).length = K) (h : LsAt cs At w v es) :
  ∃ (a : Option Addr) (b off cap : Nat), v = .slice a es.length cap ∧ es.length ≤ cap ∧ cap ≤ maxLen ∧ (0 < es.length → a = some ⟨b, off, none⟩) ∧ ∀ u, Below w.heap.size w u → ∀ (i : Nat) (hi : i < es.length), u.rangeAt b (off + i * K) (cs es[i]) := by
 have h1 := h.1
 rw [show es.length = (es.map cs).length by simp] at h1
 obtain ⟨a, b, off, cap, q1, q2, q3, q4, q5⟩ := Row.rangeL (allK_map hK es) h1
 rw [List.length_map] at q1 q2 q4
 refine ⟨a, b, off, cap, q1, q2, q3, q4, fun u hu i hi => ?_⟩
 have := q5 u hu i (by simpa using hi)
 rwa [List.getElem_map] at this
theorem LsAt.below {ε : Type} {cs : ε → List Value} {At : World → ε → Prop} (hAt : ∀ w u e, At w e → Below w.heap.size w u → At u e) {w u : World} {v : Value} {es : List ε} (h : LsAt cs At w v es) (hb : Below w.heap.size w u) : LsAt cs At u v es :=
 ⟨h.1.below hb, fun e he => hAt w u e (h.2 e he) hb⟩
def LsLk {ε : Type} (lk : ε → ε → Prop) (es fs : List ε) : Prop := es.length = fs.length ∧ ∀ i (h : i < es.length) (h' : i < fs.length), lk es[i] fs[i]
theorem LsLk.snoc {ε : Type} {lk : ε → ε → Prop} {es fs : List ε} {k : Nat} (hk : k < es.length) {y : ε} (h : LsLk lk (es.take k) fs) (hy : lk es[k] y) : LsLk lk (es.take (k + 1)) (fs ++ [y]) := by
 have hl : fs.length = k := by have := h.1; rw [List.length_take] at this; omega
 refine ⟨by simp [hl]; omega, fun i h1 h2 => ?_⟩
 rw [List.getElem_take]
 by_cases hi : i < k
 ·rw [List.getElem_append_left (by omega)]
  have := h.2 i (by rw [List.length_take]; omega) (by omega)
  rwa [List.getElem_take] at this
 ·rw [List.length_take] at h1
  have e : i = k := by omega
  subst e
  rw [List.getElem_append_right (by omega)]
  simp only [hl, Nat.sub_self, List.getElem_singleton]
  exact hy
def sumE {ε : Type} (f : ε → Nat) (es : List ε) (k : Nat) : Nat := ((es.take k).map f).sum
theorem sumE_succ {ε : Type} (f : ε → Nat) (es : List ε) (k : Nat) (h : k < es.length) : sumE f es (k + 1) = sumE f es k + f es[k] := by
 unfold sumE
 rw [List.take_succ_eq_append_getElem h, List.map_append, List.sum_append]
 simp
theorem le_sumL : ∀ {l : List Nat} {x : Nat}, x ∈ l → x ≤ l.sum
 | [], _, h => by cases h
 | a :: l, x, h => by
  rw [List.sum_cons]
  rcases List.mem_cons.1 h with rfl | h
  ·omega
  ·have := le_sumL h; omega
theorem sumE_ge {ε : Type} (f : ε → Nat) (es : List ε) : ∀ e ∈ es, f e ≤ sumE f es es.length := fun e he => by
 unfold sumE
 rw [List.take_length]
 exact le_sumL (List.mem_map.2 ⟨_, he, rfl⟩)
theorem made_flat (z : List Value) (K : Nat) (hz : z.length = K) (hK : 0 < K) (n : Nat) : (madeCells z.toArray (n * K)).toList = (List.replicate n z).flatten := by
 have ha : AllK K (List.replicate n z) := fun l hl => by rw [(List.mem_replicate.1 hl).2]; exact hz
 apply List.ext_getElem?
 intro j
 by_cases hj : j < n * K
 ·have hd : j / K < n := Nat.div_lt_of_lt_mul (by rw [Nat.mul_comm]; exact hj)
  have hm : j % K < K := Nat.mod_lt _ hK
  have := ha.at (j / K) (by simpa using hd) (j % K) hm
  have e : j / K * K + j % K = j := by rw [Nat.mul_comm]; exact Nat.div_add_mod j K
  rw [e] at this
  rw [this]
  have h3 : j % K < z.length := by omega
  simp [madeCells, hj, hz]
  rw [List.getElem?_eq_getElem h3]
  rfl
 ·rw [List.getElem?_eq_none (by simp [size_madeCells]; omega), List.getElem?_eq_none (by rw [ha.len]; simp; omega)]

/-! the kinds -/
abbrev NodE := NodV × Nd
def nodC (e : NodE) : List Value := [.int .i64 e.1.id, .int .i64 e.1.te, .int .i64 e.1.vo, .int .i64 e.1.lb, .int .i64 e.1.lt, e.1.lv, .bool e.1.s.x.lf, e.1.s.x.p, e.1.s.x.c, e.1.s.x.k, e.1.s.x.b, e.1.s.v, .int .i64 e.1.ro, e.1.vv, e.1.nv, e.1.mv, .int .i64 e.1.cm, .bool e.1.o.x.lf, e.1.o.x.p, e.1.o.x.c, e.1.o.x.k, e.1.o.x.b, e.1.o.v]
def nodAt (n : Nat) (w : World) (e : NodE) : Prop := NodAt n w e.1 e.2
def nodOwn (n : Nat) (base : Nat) (w : World) (e : NodE) : Prop := NodOwn n w base e.1 e.2
def nodLk (e f : NodE) : Prop := e.1.like f.1 ∧ e.2 = f.2
def nodN (n : Nat) (e : NodE) : Nat := Nd.all n e.2
def nodZ : List Value := [.int .i64 0, .int .i64 0, .int .i64 0, .int .i64 0, .int .i64 0, .slice none 0 0, .bool false, .slice none 0 0, .slice none 0 0, .slice none 0 0, .slice none 0 0, .slice none 0 0, .int .i64 0, .slice none 0 0, .slice none 0 0, .slice none 0 0, .int .i64 0, .bool false, .slice none 0 0, .slice none 0 0, .slice none 0 0, .slice none 0 0, .slice none 0 0]
abbrev RpcE := RpcV × Rd
def rpcC (e : RpcE) : List Value := [.int .i64 e.1.kd, .int .i64 e.1.fr, .int .i64 e.1.tt, .int .i64 e.1.te, .int .i64 e.1.ix, .int .i64 e.1.it, .int .i64 e.1.cm, .bool e.1.ok, e.1.ev, .bool e.1.s.x.lf, e.1.s.x.p, e.1.s.x.c, e.1.s.x.k, e.1.s.x.b, e.1.s.v]
def rpcAt (n : Nat) (w : World) (e : RpcE) : Prop := RpcAt n w e.1 e.2
def rpcOwn (n : Nat) (base : Nat) (w : World) (e : RpcE) : Prop := RpcOwn n w base e.1 e.2
def rpcLk (e f : RpcE) : Prop := e.1.like f.1 ∧ e.2 = f.2
def rpcN (n : Nat) (e : RpcE) : Nat := Rd.all n e.2
def rpcZ : List Value := [.int .i64 0, .int .i64 0, .int .i64 0, .int .i64 0, .int .i64 0, .int .i64 0, .int .i64 0, .bool false, .slice none 0 0, .bool false, .slice none 0 0, .slice none 0 0, .slice none 0 0, .slice none 0 0, .slice none 0 0]
abbrev CmdE := Int × Int × Int × Int × Int
def cmdC (e : CmdE) : List Value := [.int .i64 e.1, .int .i64 e.2.1, .int .i64 e.2.2.1, .int .i64 e.2.2.2.1, .int .i64 e.2.2.2.2]
def cmdZ : List Value := [.int .i64 0, .int .i64 0, .int .i64 0, .int .i64 0, .int .i64 0]
abbrev LedE := Int × Int
def ledC (e : LedE) : List Value := [.int .i64 e.1, .int .i64 e.2]
def ledZ : List Value := [.int .i64 0, .int .i64 0]
def noAt {ε : Type} (_ : World) (_ : ε) : Prop := True
end
section
open Go.RowKit

theorem szNodeS_t (n : Nat) (v : Value) (es : List NodE) (left : Int) (w : World) (h : LsAt nodC (nodAt n) w v es) (h0 : 0 ≤ left) (h1 : left ≤ 1048576) :
  Calls Tryz.prog 22 #[v, .int .i64 left] w fun e w' => ∃ r : Int, e = .returned (.int .i64 r) ∧ r ≤ 1048576 ∧ (¬ r < 0 → r + es.length + (sumE (nodN n) es es.length : Nat) ≤ left) ∧ Below w.heap.size w w' := by
 obtain ⟨a, b, off, cap, rfl, hcap, hmax, ha, rg⟩ := h.parts (K := 23) (fun _ => rfl)
 unfold maxLen at hmax
 have SZ := hq (fun u i (L : Int) (hi : i < es.length) (hu : Below w.heap.size w u) (h0 : 0 ≤ L) (h1 : L ≤ 1048576) => szNode_t n es[i].1 es[i].2 L u ((h.2 _ (List.getElem_mem hi)).below hu) h0 h1)
 have SS := hq (fun i (hi : i < es.length) => sumE_succ (nodN n) es i hi)
 have S0 : Hid (sumE (nodN n) es 0 = 0) := by show _ = _; simp [sumE]
 have RG := hq rg
 have HA := hq ha
 clear h rg ha
 by_cases hl : (es.length : Int) ≤ left
 ·go_enter Tryz.func22, Tryz.ntmps22
  go_wp2
  go_loopw [1, 5] (fun lf i wr => ∃ (k : Nat) (L : Int), k ≤ es.length ∧ lf = .int .i64 L ∧ i = .int .i64 k ∧ 0 ≤ L ∧ L ≤ 1048576 ∧ Hid (L + es.length + (sumE (nodN n) es k : Nat) ≤ left) ∧ Hid (Below w.heap.size w wr)) (fun _ i _ => es.length - (intOf i).toNat)
  case atStart => exact ⟨0, left - es.length, Nat.zero_le _, rfl, rfl, by omega, by omega, by show _ ≤ _; rw [S0.out]; omega, Below.refl _ _⟩
  case round =>
   obtain ⟨k, L, hk, rfl, rfl, hL0, hL1, SL, BW⟩ := hrel
   by_cases hlt : k < es.length
   ·have hal := HA.out (by omega)
    subst hal
    have hi : (k : Int) < (es.length : Int) := by omega
    have RU := hq (RG.out wr BW.out k hlt)
    have S1 := hq (SS.out k hlt)
    go_wp2_with (refine wpList_load_mid rfl 59 _ rfl b (off + k * 23) rfl (nodC es[k]) _ RU.out Tryz.underlying59 rfl (show (Tryz.prog.info? 59).map (·.size) = some 23 by kernel_rfl) ?_)
    refine (SZ.out wr k L hlt BW.out hL0 hL1).mono ?_
    rintro e w1 ⟨r, rfl, hr1, hr2, b1⟩
    have B1 := hq (Below.and BW.out b1)
    have R2 := hq hr2
    clear b1 hr2
    by_cases hr : r < 0
    ·go_wp2
     go_ret
     exact ⟨_, rfl, by omega, fun h => by omega, B1.out⟩
    ·go_wp2
     go_roundw
     case rel => exact ⟨k + 1, r, by omega, rfl, by go_num, by omega, by omega, (by show _ ≤ _; have e1 := R2.out hr; have e2 := SL.out; rw [S1.out]; unfold nodN at *; omega), B1.out⟩
     case measure => simp [intOf]; omega
   ·have hi : ¬ (k : Int) < (es.length : Int) := by omega
    have FIN : Hid (L + es.length + (sumE (nodN n) es es.length : Nat) ≤ left) := by have := SL.out; rw [show k = es.length by omega] at this; exact this
    go_wp2
    go_ret
    exact ⟨_, rfl, by omega, fun _ => FIN.out, BW.out⟩
 ·go_enter Tryz.func22, Tryz.ntmps22
  go_wp2
  go_ret
  exact ⟨_, rfl, by omega, fun h => by omega, Below.refl _ _⟩

theorem szRpcS_t (n : Nat) (v : Value) (es : List RpcE) (left : Int) (w : World) (h : LsAt rpcC (rpcAt n) w v es) (h0 : 0 ≤ left) (h1 : left ≤ 1048576) :
  Calls Tryz.prog 6 #[v, .int .i64 left] w fun e w' => ∃ r : Int, e = .returned (.int .i64 r) ∧ r ≤ 1048576 ∧ (¬ r < 0 → r + es.length + (sumE (rpcN n) es es.length : Nat) ≤ left) ∧ Below w.heap.size w w' := by
 obtain ⟨a, b, off, cap, rfl, hcap, hmax, ha, rg⟩ := h.parts (K := 15) (fun _ => rfl)
 unfold maxLen at hmax
 have SZ := hq (fun u i (L : Int) (hi : i < es.length) (hu : Below w.heap.size w u) (h0 : 0 ≤ L) (h1 : L ≤ 1048576) => szRpc_t n es[i].1 es[i].2 L u ((h.2 _ (List.getElem_mem hi)).below hu) h0 h1)
 have SS := hq (fun i (hi : i < es.length) => sumE_succ (rpcN n) es i hi)
 have S0 : Hid (sumE (rpcN n) es 0 = 0) := by show _ = _; simp [sumE]
 have RG := hq rg
 have HA := hq ha
 clear h rg ha
 by_cases hl : (es.length : Int) ≤ left
 ·go_enter Tryz.func6, Tryz.ntmps6
  go_wp2
  go_loopw [1, 5] (fun lf i wr => ∃ (k : Nat) (L : Int), k ≤ es.length ∧ lf = .int .i64 L ∧ i = .int .i64 k ∧ 0 ≤ L ∧ L ≤ 1048576 ∧ Hid (L + es.length + (sumE (rpcN n) es k : Nat) ≤ left) ∧ Hid (Below w.heap.size w wr)) (fun _ i _ => es.length - (intOf i).toNat)
  case atStart => exact ⟨0, left - es.length, Nat.zero_le _, rfl, rfl, by omega, by omega, by show _ ≤ _; rw [S0.out]; omega, Below.refl _ _⟩
  case round =>
   obtain ⟨k, L, hk, rfl, rfl, hL0, hL1, SL, BW⟩ := hrel
   by_cases hlt : k < es.length
   ·have hal := HA.out (by omega)
    subst hal
    have hi : (k : Int) < (es.length : Int) := by omega
    have RU := hq (RG.out wr BW.out k hlt)
    have S1 := hq (SS.out k hlt)
    go_wp2_with (refine wpList_load_mid rfl 84 _ rfl b (off + k * 15) rfl (rpcC es[k]) _ RU.out Tryz.underlying84 rfl (show (Tryz.prog.info? 84).map (·.size) = some 15 by kernel_rfl) ?_)
    refine (SZ.out wr k L hlt BW.out hL0 hL1).mono ?_
    rintro e w1 ⟨r, rfl, hr1, hr2, b1⟩
    have B1 := hq (Below.and BW.out b1)
    have R2 := hq hr2
    clear b1 hr2
    by_cases hr : r < 0
    ·go_wp2
     go_ret
     exact ⟨_, rfl, by omega, fun h => by omega, B1.out⟩
    ·go_wp2
     go_roundw
     case rel => exact ⟨k + 1, r, by omega, rfl, by go_num, by omega, by omega, (by show _ ≤ _; have e1 := R2.out hr; have e2 := SL.out; rw [S1.out]; unfold rpcN at *; omega), B1.out⟩
     case measure => simp [intOf]; omega
   ·have hi : ¬ (k : Int) < (es.length : Int) := by omega
    have FIN : Hid (L + es.length + (sumE (rpcN n) es es.length : Nat) ≤ left) := by have := SL.out; rw [show k = es.length by omega] at this; exact this
    go_wp2
    go_ret
    exact ⟨_, rfl, by omega, fun _ => FIN.out, BW.out⟩
 ·go_enter Tryz.func6, Tryz.ntmps6
  go_wp2
  go_ret
  exact ⟨_, rfl, by omega, fun h => by omega, Below.refl _ _⟩

theorem szCmdS_any (a : Option Addr) (n cap : Nat) (left : Int) (hn : n ≤ maxLen) (hl : 0 ≤ left) (hl2 : left ≤ 1048576) (w : World) :
  Calls Tryz.prog 23 #[.slice a n cap, .int .i64 left] w fun e w' => e = .returned (.int .i64 (if (n : Int) ≤ left then left - n else -1)) ∧ w' = w := by
 unfold maxLen at hn
 by_cases h : (n : Int) ≤ left
 ·go_enter Tryz.func23, Tryz.ntmps23
  go_wp2
  go_ret
  exact ⟨rfl, rfl⟩
 ·go_enter Tryz.func23, Tryz.ntmps23
  go_wp2
  go_ret
  exact ⟨rfl, rfl⟩

theorem szLeadS_any (a : Option Addr) (n cap : Nat) (left : Int) (hn : n ≤ maxLen) (hl : 0 ≤ left) (hl2 : left ≤ 1048576) (w : World) :
  Calls Tryz.prog 25 #[.slice a n cap, .int .i64 left] w fun e w' => e = .returned (.int .i64 (if (n : Int) ≤ left then left - n else -1)) ∧ w' = w := by
 unfold maxLen at hn
 by_cases h : (n : Int) ≤ left
 ·go_enter Tryz.func25, Tryz.ntmps25
  go_wp2
  go_ret
  exact ⟨rfl, rfl⟩
 ·go_enter Tryz.func25, Tryz.ntmps25
  go_wp2
  go_ret
  exact ⟨rfl, rfl⟩
end
section
open Go.RowKit

theorem toCmd_c (e : CmdE) (w : World) : Calls Tryz.prog 76 #[.agg (cmdC e).toArray] w fun r w' => r = .returned (.agg (cmdC e).toArray) ∧ Below w.heap.size w w' := toCmd_any _ _ _ _ _ w
theorem eqCmd_c (e : CmdE) (w : World) : Calls Tryz.prog 86 #[.agg (cmdC e).toArray, .agg (cmdC e).toArray] w fun r w' => r = .returned (.bool true) ∧ Below w.heap.size w w' :=
 (eqCmd_any _ _ _ _ _ _ _ _ _ _ w).mono fun r w' ⟨h1, h2⟩ => ⟨by rw [h1, decide_eq_true rfl], h2⟩
theorem toLead_any (a b : Int) (w : World) : Calls Tryz.prog 78 #[.agg #[.int .i64 a, .int .i64 b]] w fun r w' => r = .returned (.agg #[.int .i64 a, .int .i64 b]) ∧ Below w.heap.size w w' := by
 go_enter Tryz.func78, Tryz.ntmps78
 go_wp2
 refine bodyPost_ret (v := .agg #[.int .i64 a, .int .i64 b]) (by simp [results, Tryz.results78, go_sem]) rfl ⟨rfl, ?_⟩
 exact (((Below.refl _ _).alloc (Nat.le_refl _) _).alloc (by simp) _).alloc (by simp; omega) _
theorem toLead_c (e : LedE) (w : World) : Calls Tryz.prog 78 #[.agg (ledC e).toArray] w fun r w' => r = .returned (.agg (ledC e).toArray) ∧ Below w.heap.size w w' := toLead_any _ _ w
theorem eqLead_c (e : LedE) (w : World) : Calls Tryz.prog 88 #[.agg (ledC e).toArray, .agg (ledC e).toArray] w fun r w' => r = .returned (.bool true) ∧ Below w.heap.size w w' := by
 show Calls Tryz.prog 88 #[.agg #[.int .i64 e.1, .int .i64 e.2], .agg #[.int .i64 e.1, .int .i64 e.2]] w _
 have B2 : Hid (Below w.heap.size w ((w.alloc (.cells #[.int .i64 e.1, .int .i64 e.2] 121)).alloc (.cells #[.int .i64 e.1, .int .i64 e.2] 121))) := Below.and (bel_nw _ _) (bel_nw _ _)
 go_enter Tryz.func88, Tryz.ntmps88
 go_wp2
 go_ret
 exact ⟨rfl, B2.out⟩
theorem wp_not_by {P : Program} {o : Oper} {a : Act} {K : Act → World → Prop} {Q : Exit → Act → World → Prop} {w : World} (x : Operand) (ho : o.op = .unOp .not 4 x) (b : Bool) (hx : a.eval x = .bool b) (h : K (a.put o.dst (.bool (!b))) w) : o.wp P a w K Q := by
 unfold Oper.wp execOp
 simp only [ho, hx]
 go_simp
 exact h
theorem NodAt.ones {n : Nat} {w : World} {N : NodV} {D D' : Nd} (h : NodAt n w N D) : (nodC (N, D')).toArray.all (·.oneCell') = true := by
 obtain ⟨id, te, vo, lb, lt, lv, s, ro, vv, nv, mv, cm, o⟩ := N
 obtain ⟨h1, h2, h3, h4, h5, h6⟩ := h
 obtain ⟨x1, e1⟩ := h1.sl
 obtain ⟨x3, e3⟩ := h3.sl
 obtain ⟨x4, e4⟩ := h4.sl
 obtain ⟨x5, e5⟩ := h5.sl
 obtain ⟨_, _, _, _, _, _, e2⟩ := h2.sl
 obtain ⟨_, _, _, _, _, _, e6⟩ := h6.sl
 simp only at e1 e2 e3 e4 e5 e6
 subst e1 e2 e3 e4 e5 e6
 simp [nodC, Value.oneCell']
theorem RpcAt.ones {n : Nat} {w : World} {N : RpcV} {D D' : Rd} (h : RpcAt n w N D) : (rpcC (N, D')).toArray.all (·.oneCell') = true := by
 obtain ⟨kd, fr, tt, te, ix, it, cm, ok, ev, s⟩ := N
 obtain ⟨h1, h2⟩ := h
 obtain ⟨x1, e1⟩ := h1.sl
 obtain ⟨_, _, _, _, _, _, e2⟩ := h2.sl
 simp only at e1 e2
 subst e1 e2
 simp [rpcC, Value.oneCell']
end
section
def allB (n : Nat) (f : Nat → Bool) : Bool := (List.range n).all f
def pairAt (T : Tr) (lo hi : Int) (i : Nat) : Bool := inB (kOf T.pairs i) lo (hi - 1)
def pairsInB (T : Tr) (lo hi : Int) : Bool := allB T.pairs.length (pairAt T lo hi)
def leafOkB (T : Tr) (lo hi : Int) : Bool := mapOkB T.pairs && (decide (T.pairs.length ≤ 4) && (decide (T.cuts.length + T.kids.length + T.buf.length = 0) && pairsInB T lo hi))
def msgAt (T : Tr) (lo hi : Int) (i : Nat) : Bool := msgOkB (mO T.buf i) (mK T.buf i) (mV T.buf i) && (!(mO T.buf i == 4) && inB (mK T.buf i) lo (hi - 1))
def bufOkB (T : Tr) (lo hi : Int) : Bool := allB T.buf.length (msgAt T lo hi)
def fromT (T : Tr) (lo : Int) (i : Nat) : Int := if i = 0 then lo else iAt T.cuts (i - 1)
def toT (T : Tr) (hi : Int) (i : Nat) : Int := if i < T.cuts.length then iAt T.cuts i else hi
def cutAt (T : Tr) (lo hi : Int) (i : Nat) : Bool := inB (iAt T.cuts i) (fromT T lo i + 1) (hi - 1)
def cutsOkB (T : Tr) (lo hi : Int) : Bool := allB T.cuts.length (cutAt T lo hi)
def shapeB (T : Tr) : Bool := decide (T.pairs.length = 0) && (decide (2 ≤ T.kids.length ∧ T.kids.length ≤ 4) && (decide (T.cuts.length + 1 = T.kids.length) && decide (T.buf.length ≤ 6)))
def forkOkB (T : Tr) (lo hi : Int) : Bool := shapeB T && (bufOkB T lo hi && cutsOkB T lo hi)
def kidsD (d : Nat → Nat) (n : Nat) : Nat := if (!(d 0 == 0) && allB n fun i => d i == d 0) = true then d 0 + 1 else 0
def depthF : Nat → Tr → Int → Int → Nat
 | 0, _, _, _ => 0
 | m + 1, T, lo, hi => if T.leaf = true then (if leafOkB T lo hi = true then 1 else 0) else if forkOkB T lo hi = true then kidsD (fun i => depthF m (kidT T i) (fromT T lo i) (toT T hi i)) T.kids.length else 0
def kidF (m : Nat) (T : Tr) (lo hi : Int) (i : Nat) : Nat := depthF m (kidT T i) (fromT T lo i) (toT T hi i)

def pairsF : Nat → Tr → Nat
 | 0, _ => 0
 | n + 1, T => T.pairs.length + (T.kids.map (pairsF n)).sum
def msgsF : Nat → Tr → Nat
 | 0, _ => 0
 | n + 1, T => T.buf.length + (T.kids.map (msgsF n)).sum
def sumF (f : Tr → Nat) (ts : List Tr) (k : Nat) : Nat := ((ts.take k).map f).sum
def cutsTo (l : List Int) (k : Int) : Nat := (l.filter fun c => decide (c ≤ k)).length

def depthT (T : Tr) : Nat := depthF 7 T 0 1000
def okT (T : Tr) : Bool := decide (0 < depthT T)
end
section
open Go.RowKit
end
section
open Go.RowKit

def OneAt (u : World) (B : Nat) (A : Array Value) : Prop := u.heap[B]? = some (.cells A 69 (0, 0))
theorem OneAt.step {u w' : World} {B : Nat} {A : Array Value} (h : OneAt u B A) (hb : Below u.heap.size u w') : OneAt w' B A :=
 (hb.block _ (Array.getElem?_eq_some_iff.1 h).1).trans h
theorem OneAt.cells {u : World} {B : Nat} {A : Array Value} (h : OneAt u B A) : ∀ j, u.cell? ⟨B, j, none⟩ = A[j]? := fun j => cell_of_row u B j A 69 (0, 0) h
theorem OneAt.start (w : World) (A : Array Value) : OneAt (w.alloc (.cells A 69)) w.heap.size A := heap_alloc_new w _
def leafD (T : Tr) (lo hi : Int) : Int := if leafOkB T lo hi = true then 1 else 0
end
section
open Go.RowKit
end
section
open Go.RowKit

def CountIs (g : FuncId) (n : Nat) : Prop := ∀ (x : TV) (T : Tr) (w : World), TreeAt n w x T → sizeT n T ≤ 1099511627776 →
  Calls Tryz.prog g #[x.val] w fun e w' => e = .returned (.tuple #[.int .i64 (pairsF n T : Nat), .int .i64 (msgsF n T : Nat)]) ∧ Below w.heap.size w w'
end
section
open Go.RowKit

def prefK (l : List Int) (k : Int) : Nat := (l.takeWhile fun c => decide (c ≤ k)).length
def kidOfT (T : Tr) (k : Int) : Int := if T.leaf = true ∨ okT T = false then -1 else (prefK T.cuts k : Nat)
end
section
open Go.RowKit

def BoxAt (t : TypeId) (u : World) (B : Nat) (A : Array Value) : Prop := u.heap[B]? = some (.cells A t (0, 0))
def kindN (T : Tr) : Int := if T.leaf = true then (if T.cuts.length = 0 ∧ T.kids.length = 0 ∧ T.buf.length = 0 then 1 else 0) else (if T.pairs.length = 0 then 2 else 0)
abbrev placeV (kd lo hi ab : Int) : Value := .agg #[.int .i64 kd, .int .i64 lo, .int .i64 hi, .int .i64 ab]
abbrev placedV (kd lo hi ab : Int) (x : TV) : Value := .agg #[.int .i64 kd, .int .i64 lo, .int .i64 hi, .int .i64 ab, .bool x.lf, x.p, x.c, x.k, x.b]
end
section
open Go.RowKit
end
section
open Go.RowKit

theorem wp_gen {P : Program} {code : Code} {Q : Exit → Act → World → Prop} {a : Act} {w0 : World} (S : World → Prop) (h0 : S w0) (h : ∀ W, S W → Code.wp P code Q a W) : Code.wp P code Q a w0 := h _ h0
end
section
open Go.RowKit

def pairsOkB (T : Tr) (lo hi : Int) : Bool := decide (T.pairs.length ≤ 4) && (mapOkB T.pairs && pairsInB T lo hi)
def cutsOk2B (T : Tr) (lo hi : Int) : Bool := decide (2 ≤ T.kids.length ∧ T.kids.length ≤ 4) && (decide (T.cuts.length + 1 = T.kids.length) && cutsOkB T lo hi)
end
section
open Go.RowKit

def bufOk2B (T : Tr) (lo hi : Int) : Bool := decide (T.buf.length ≤ 6) && bufOkB T lo hi
end
section
open Go.RowKit
end
section
open Go.RowKit
end
section
open Go.RowKit

def cntK (l : List Int) (k : Int) : Nat → Nat
 | 0 => 0
 | n + 1 => cntK l k n + (if iAt l n ≤ k then 1 else 0)
end
end Go.Proofs.YtkcaelfkcepdkaaGreat
