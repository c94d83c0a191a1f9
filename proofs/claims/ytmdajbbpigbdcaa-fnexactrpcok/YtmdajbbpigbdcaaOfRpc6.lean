/-
  toEntry, toEntryS: entries copied out of the law's own kind.
  Logs in memory: the laws' own functions on them (szLog, toLog, eqLog).
  Lists of truths: the laws' functions on them.
  Nodes in memory: the laws' own functions that measure and compare them.
  What nodes tell each other, in memory: the laws' own functions that measure and compare it.
  What chapter 2 says of trees, as plain functions.
-/
import Derived.Test.YtmdajbbpigbdcaaOfRpc5
import Derived.Test.YtmdajbbpigbdcaaOfRpc4
import Derived.Test.YtmdajbbpigbdcaaOfRpc1
import Derived.Deep.QuietTactic
import Derived.BigQuiet
import Derived.Test.YtmdajbbpigbdcaaOfRpc3
namespace Go.Proofs.Ytmdajbbpigbdcaa
open Go.RowKit

theorem en_six {W : World} {R : Nat} {t : TypeId} {x0 x1 x2 x3 x4 x5 : Value} (a b c d e f : Value) (h : W.heap[R]? = some (.cells #[x0, x1, x2, x3, x4, x5] t (0, 0))) : ((((((W.setCell ⟨R, 0, none⟩ a).setCell ⟨R, 1, none⟩ b).setCell ⟨R, 2, none⟩ c).setCell ⟨R, 3, none⟩ d).setCell ⟨R, 4, none⟩ e).setCell ⟨R, 5, none⟩ f).heap[R]? = some (.cells #[a, b, c, d, e, f] t (0, 0)) := by
  have h0 := heap_setCell_same W R 0 _ _ a h
  have h1 := heap_setCell_same _ R 1 _ _ b h0
  have h2 := heap_setCell_same _ R 2 _ _ c h1
  have h3 := heap_setCell_same _ R 3 _ _ d h2
  have h4 := heap_setCell_same _ R 4 _ _ e h3
  have h5 := heap_setCell_same _ R 5 _ _ f h4
  simpa using h5
theorem en_late {W : World} {R : Nat} {t : TypeId} {x0 x1 x2 x3 x4 x5 : Value} (b c d e f : Value) (h : W.heap[R]? = some (.cells #[x0, x1, x2, x3, x4, x5] t (0, 0))) : (((((W.setCell ⟨R, 1, none⟩ b).setCell ⟨R, 2, none⟩ c).setCell ⟨R, 3, none⟩ d).setCell ⟨R, 4, none⟩ e).setCell ⟨R, 5, none⟩ f).heap[R]? = some (.cells #[x0, b, c, d, e, f] t (0, 0)) := by
  have h1 := heap_setCell_same _ R 1 _ _ b h
  have h2 := heap_setCell_same _ R 2 _ _ c h1
  have h3 := heap_setCell_same _ R 3 _ _ d h2
  have h4 := heap_setCell_same _ R 4 _ _ e h3
  have h5 := heap_setCell_same _ R 5 _ _ f h4
  simpa using h5
theorem en_six_chg (W : World) (R : Nat) (a b c d e f : Value) : Chg (fun g => g = R) W ((((((W.setCell ⟨R, 0, none⟩ a).setCell ⟨R, 1, none⟩ b).setCell ⟨R, 2, none⟩ c).setCell ⟨R, 3, none⟩ d).setCell ⟨R, 4, none⟩ e).setCell ⟨R, 5, none⟩ f) :=
  ((((((Chg.refl (fun g => g = R) W).setAt R 0 rfl a).setAt R 1 rfl b).setAt R 2 rfl c).setAt R 3 rfl d).setAt R 4 rfl e).setAt R 5 rfl f
theorem en_late_chg (W : World) (R : Nat) (b c d e f : Value) : Chg (fun g => g = R) W (((((W.setCell ⟨R, 1, none⟩ b).setCell ⟨R, 2, none⟩ c).setCell ⟨R, 3, none⟩ d).setCell ⟨R, 4, none⟩ e).setCell ⟨R, 5, none⟩ f) :=
  (((((Chg.refl (fun g => g = R) W).setAt R 1 rfl b).setAt R 2 rfl c).setAt R 3 rfl d).setAt R 4 rfl e).setAt R 5 rfl f

set_option maxHeartbeats 2000000 in
theorem toEntry_any (t c s o k v : Int) (w : World) :
    Calls Try.prog 64 #[enV t c s o k v] w fun e w' => e = .returned (enV t c s o k v) ∧ Below w.heap.size w w' := by
  have b0 : Below w.heap.size w (((w.alloc (.cells #[.int .i64 t, .int .i64 c, .int .i64 s, .int .i64 o, .int .i64 k, .int .i64 v] 116)).alloc (.cells #[.int .i64 0, .int .i64 0, .int .i64 0, .int .i64 0, .int .i64 0, .int .i64 0] 82)).alloc (.cells #[.int .i64 t, .int .i64 0, .int .i64 0, .int .i64 0, .int .i64 0, .int .i64 0] 82)) := (((Below.refl _ _).alloc (Nat.le_refl _) _).alloc (by simp) _).alloc (by simp; omega) _
  have n2 := heap_alloc_new ((w.alloc (.cells #[.int .i64 t, .int .i64 c, .int .i64 s, .int .i64 o, .int .i64 k, .int .i64 v] 116)).alloc (.cells #[.int .i64 0, .int .i64 0, .int .i64 0, .int .i64 0, .int .i64 0, .int .i64 0] 82)) (.cells #[.int .i64 t, .int .i64 0, .int .i64 0, .int .i64 0, .int .i64 0, .int .i64 0] 82)
  have n1 := row_chg (F := fun _ => False) (heap_alloc_new (w.alloc (.cells #[.int .i64 t, .int .i64 c, .int .i64 s, .int .i64 o, .int .i64 k, .int .i64 v] 116)) (.cells #[.int .i64 0, .int .i64 0, .int .i64 0, .int .i64 0, .int .i64 0, .int .i64 0] 82)) ((Chg.refl _ _).alloc (.cells #[.int .i64 t, .int .i64 0, .int .i64 0, .int .i64 0, .int .i64 0, .int .i64 0] 82)) id
  simp only [World.size_alloc] at n1 n2
  have H : Hid _ := And.intro b0 (And.intro n1 n2)
  clear b0 n1 n2
  go_enter Try.func64, Try.ntmps64
  go_wp2_with fail
  generalize (((w.alloc (.cells #[.int .i64 t, .int .i64 c, .int .i64 s, .int .i64 o, .int .i64 k, .int .i64 v] 116)).alloc (.cells #[.int .i64 0, .int .i64 0, .int .i64 0, .int .i64 0, .int .i64 0, .int .i64 0] 82)).alloc (.cells #[.int .i64 t, .int .i64 0, .int .i64 0, .int .i64 0, .int .i64 0, .int .i64 0] 82)) = W at *
  refine (toCmd_any _ _ _ _ _ _).mono ?_
  rintro e w1 ⟨rfl, hb⟩
  obtain ⟨b0, n1, n2⟩ := H.out
  have m1 := (hb.block _ (Array.getElem?_eq_some_iff.1 n1).1).trans n1
  have m2 := (hb.block _ (Array.getElem?_eq_some_iff.1 n2).1).trans n2
  have B1 := Below.and b0 hb
  have m3 := en_late (.int .i64 c) (.int .i64 s) (.int .i64 o) (.int .i64 k) (.int .i64 v) m2
  have g3 := en_late_chg w1 (w.heap.size + 1 + 1) (.int .i64 c) (.int .i64 s) (.int .i64 o) (.int .i64 k) (.int .i64 v)
  have m4 := row_chg m1 g3 (by omega)
  have m5 := en_six (.int .i64 t) (.int .i64 c) (.int .i64 s) (.int .i64 o) (.int .i64 k) (.int .i64 v) m4
  have g5 := en_six_chg (((((w1.setCell ⟨w.heap.size + 1 + 1, 1, none⟩ (.int .i64 c)).setCell ⟨w.heap.size + 1 + 1, 2, none⟩ (.int .i64 s)).setCell ⟨w.heap.size + 1 + 1, 3, none⟩ (.int .i64 o)).setCell ⟨w.heap.size + 1 + 1, 4, none⟩ (.int .i64 k)).setCell ⟨w.heap.size + 1 + 1, 5, none⟩ (.int .i64 v)) (w.heap.size + 1) (.int .i64 t) (.int .i64 c) (.int .i64 s) (.int .i64 o) (.int .i64 k) (.int .i64 v)
  have B2 := B1.trans (g3.below (fun g _ hg => by omega) B1.size)
  have B3 : Hid _ := B2.trans (g5.below (fun g _ hg => by omega) B2.size)
  have f1 : ∀ j, w1.frozen? ⟨w.heap.size + 1 + 1, j, none⟩ = false := fun j => frozen_of_cells m2
  have f2 : ∀ j, (((((w1.setCell ⟨w.heap.size + 1 + 1, 1, none⟩ (.int .i64 c)).setCell ⟨w.heap.size + 1 + 1, 2, none⟩ (.int .i64 s)).setCell ⟨w.heap.size + 1 + 1, 3, none⟩ (.int .i64 o)).setCell ⟨w.heap.size + 1 + 1, 4, none⟩ (.int .i64 k)).setCell ⟨w.heap.size + 1 + 1, 5, none⟩ (.int .i64 v)).frozen? ⟨w.heap.size + 1, j, none⟩ = false := fun j => frozen_of_cells m4
  have c2 : ∀ j, w1.cell? ⟨w.heap.size + 1 + 1, j, none⟩ = (#[.int .i64 t, .int .i64 0, .int .i64 0, .int .i64 0, .int .i64 0, .int .i64 0] : Array Value)[j]? := fun j => cell_of_cells m2
  have c3 : ∀ j, (((((w1.setCell ⟨w.heap.size + 1 + 1, 1, none⟩ (.int .i64 c)).setCell ⟨w.heap.size + 1 + 1, 2, none⟩ (.int .i64 s)).setCell ⟨w.heap.size + 1 + 1, 3, none⟩ (.int .i64 o)).setCell ⟨w.heap.size + 1 + 1, 4, none⟩ (.int .i64 k)).setCell ⟨w.heap.size + 1 + 1, 5, none⟩ (.int .i64 v)).cell? ⟨w.heap.size + 1 + 1, j, none⟩ = (#[.int .i64 t, .int .i64 c, .int .i64 s, .int .i64 o, .int .i64 k, .int .i64 v] : Array Value)[j]? := fun j => cell_of_cells m3
  have c4 : ∀ j, (((((w1.setCell ⟨w.heap.size + 1 + 1, 1, none⟩ (.int .i64 c)).setCell ⟨w.heap.size + 1 + 1, 2, none⟩ (.int .i64 s)).setCell ⟨w.heap.size + 1 + 1, 3, none⟩ (.int .i64 o)).setCell ⟨w.heap.size + 1 + 1, 4, none⟩ (.int .i64 k)).setCell ⟨w.heap.size + 1 + 1, 5, none⟩ (.int .i64 v)).cell? ⟨w.heap.size + 1, j, none⟩ = (#[.int .i64 0, .int .i64 0, .int .i64 0, .int .i64 0, .int .i64 0, .int .i64 0] : Array Value)[j]? := fun j => cell_of_cells m4
  have c5 : Hid _ := m5
  clear m1 m2 m3 m4 m5 g3 g5 B1 B2 n1 n2 b0 hb H
  go_wp2_with fail
  simp [bodyPost, results, Try.results64, go_sem, cell_of_cells c5.out]
  exact B3.out

set_option maxRecDepth 100000 in
set_option maxHeartbeats 2000000 in
theorem toEntryS_any (v : Value) (l : EL) (w : World) (hr : Row w v l.length (flatE l)) (hn : l.length ≤ 1048576) :
    Calls Try.prog 39 #[v] w fun e w' => ∃ v', e = .returned v' ∧ w'.ownsRow w.heap.size 82 6 v' l.length (flatE l) ∧ Below w.heap.size w w' := by
  obtain ⟨a, b, off, cap, rfl, hcap, hmax, ha, h10, h11, h12, h13, h14, h15⟩ := hr.ents
  obtain ⟨i0, hi, hz0, hz1, hz2⟩ := info_parts Try.info82
  unfold maxLen at hmax
  go_enter Try.func39, Try.ntmps39
  go_wp2_with (at_make; refine wpList_make_full _ rfl _ _ 22 rfl w.heap.size 82 i0 _ 6 Try.underlying22 hi hz0 hz1 .i64 .i64 _ _ l.length rfl rfl rfl rfl ?c1 ?c2 ?c3 ?_)
  case c1 => rw [hz2]; omega
  case c2 => unfold maxLen; omega
  case c3 => exact Nat.le_refl _
  intro w0 hown0 hgrow0
  have hb0 : Below w.heap.size w w0 := (Below.refl _ _).grown hgrow0 (Nat.le_refl _) (fun k hk => by cases hk)
  clear hgrow0
  go_wp2
  go_loopw [4] (fun i wr => ∃ k : Nat, k ≤ l.length ∧ i = .int .i64 k ∧ wr.ownsRow w.heap.size 82 6 (.slice (some ⟨w.heap.size, 0, none⟩) l.length l.length) l.length (flatE (filledE l k)) ∧ Below w.heap.size w wr)
    (fun i _ => l.length - (intOf i).toNat)
  case atStart => exact ⟨0, Nat.zero_le _, rfl, by rw [show (madeCells _ (l.length * 6)).toList = flatE (List.replicate l.length en0) from madeCells_ent l.length] at hown0; rw [show filledE l 0 = List.replicate l.length en0 by simp [filledE]]; exact hown0, hb0⟩
  case round =>
    obtain ⟨k, hkl, rfl, hown, hb⟩ := hrel
    clear hown0 hb0
    by_cases hlt : k < l.length
    · have hal := ha (by omega)
      subst hal
      have d0 := (hb.cell (by exact cell_lt (h10 k hlt))).trans (h10 k hlt)
      have d1 := (hb.cell (by exact cell_lt (h11 k hlt))).trans (h11 k hlt)
      have d2 := (hb.cell (by exact cell_lt (h12 k hlt))).trans (h12 k hlt)
      have d3 := (hb.cell (by exact cell_lt (h13 k hlt))).trans (h13 k hlt)
      have d4 := (hb.cell (by exact cell_lt (h14 k hlt))).trans (h14 k hlt)
      have d5 := (hb.cell (by exact cell_lt (h15 k hlt))).trans (h15 k hlt)
      clear h10 h11 h12 h13 h14 h15 ha
      go_wp2_with fail
      refine (toEntry_any _ _ _ _ _ _ _).mono ?_
      rintro e w1 ⟨rfl, hb1⟩
      have own1 := owns_below hown hb1
      have hfl : (filledE l k).length = l.length := filledE_length l k hkl
      have hat := flatE_at (filledE l k) k (by omega)
      have e0 := (own1.cellAt (k * 6) (by omega)).trans hat.1
      have f0 := own1.frozenAt (k * 6)
      have e1 := (own1.cellAt (k * 6 + 1) (by omega)).trans hat.2.1
      have f1 := own1.frozenAt (k * 6 + 1)
      have e2 := (own1.cellAt (k * 6 + 2) (by omega)).trans hat.2.2.1
      have f2 := own1.frozenAt (k * 6 + 2)
      have e3 := (own1.cellAt (k * 6 + 3) (by omega)).trans hat.2.2.2.1
      have f3 := own1.frozenAt (k * 6 + 3)
      have e4 := (own1.cellAt (k * 6 + 4) (by omega)).trans hat.2.2.2.2.1
      have f4 := own1.frozenAt (k * 6 + 4)
      have e5 := (own1.cellAt (k * 6 + 5) (by omega)).trans hat.2.2.2.2.2
      have f5 := own1.frozenAt (k * 6 + 5)
      have st0 := (own1.stored (k * 6) (.int .i64 (eT l k))).1
      have st1 := (st0.stored (k * 6 + 1) (.int .i64 (eC l k))).1
      have st2 := (st1.stored (k * 6 + 2) (.int .i64 (eS l k))).1
      have st3 := (st2.stored (k * 6 + 3) (.int .i64 (eO l k))).1
      have st4 := (st3.stored (k * 6 + 4) (.int .i64 (eK l k))).1
      have st5 := (st4.stored (k * 6 + 5) (.int .i64 (eV l k))).1
      rw [flatE_set _ _ _ _ _ _ _ k (by omega), filledE_step l k hlt] at st5
      have hb2 : Below w.heap.size w w1 := hb.trans (hb1.mono hb.size)
      generalize eT (filledE l k) k = x0 at *
      generalize eC (filledE l k) k = x1 at *
      generalize eS (filledE l k) k = x2 at *
      generalize eO (filledE l k) k = x3 at *
      generalize eK (filledE l k) k = x4 at *
      generalize eV (filledE l k) k = x5 at *
      have ST : Hid _ := st5
      clear st0 st1 st2 st3 st4 st5 hown hb1 d0 d1 d2 d3 d4 d5 own1 hat hfl hr
      go_wp2
      go_roundw
      case rel => exact ⟨k + 1, by omega, by go_num, ST.out, ((((((hb2.setCell (Nat.le_refl _) _).setCell (Nat.le_refl _) _).setCell (Nat.le_refl _) _).setCell (Nat.le_refl _) _).setCell (Nat.le_refl _) _).setCell (Nat.le_refl _) _)⟩
      case measure => simp [intOf]; omega
    · go_wp2
      go_ret
      have hkk : k = l.length := by omega
      subst hkk
      rw [filledE_full] at hown
      exact ⟨_, rfl, hown, hb⟩

end Go.Proofs.Ytmdajbbpigbdcaa

namespace Go.Proofs.Ytmdajbbpigbdcaa
open Go.RowKit

/-- the value of a log -/
abbrev lgV (b t : Int) (v : Value) : Value := .agg #[.int .i64 b, .int .i64 t, v]

end Go.Proofs.Ytmdajbbpigbdcaa

namespace Go.Proofs.Ytmdajbbpigbdcaa
open Go.RowKit

/-- the cells of a list of truths -/
def flatL (l : List Bool) : List Value := l.map Value.bool
def bOf (l : List Bool) (i : Nat) : Bool := l.getD i false
def filledL (l : List Bool) (k : Nat) : List Value := flatL (l.take k) ++ List.replicate (l.length - k) (.bool false)
end Go.Proofs.Ytmdajbbpigbdcaa

namespace Go.Proofs.Ytmdajbbpigbdcaa
open Go.RowKit

/-- THE CELLS OF A NODE. -/
structure NodV where
  id : Int
  te : Int
  vo : Int
  lb : Int
  lt : Int
  lv : Value
  s : MacV
  ro : Int
  vv : Value
  nv : Value
  mv : Value
  cm : Int
  o : MacV
abbrev NodV.val (N : NodV) : Value := .agg #[.int .i64 N.id, .int .i64 N.te, .int .i64 N.vo, .int .i64 N.lb, .int .i64 N.lt, N.lv, .bool N.s.x.lf, N.s.x.p, N.s.x.c, N.s.x.k, N.s.x.b, N.s.v, .int .i64 N.ro, N.vv, N.nv, N.mv, .int .i64 N.cm, .bool N.o.x.lf, N.o.x.p, N.o.x.c, N.o.x.k, N.o.x.b, N.o.v]
/-- WHAT ITS LISTS HOLD. -/
structure Nd where
  l : EL
  T1 : Tr
  d1 : DL
  vs : List Bool
  nx : List Int
  mt : List Int
  T2 : Tr
  d2 : DL
/-- this node lies there -/
def NodAt (n : Nat) (w : World) (N : NodV) (D : Nd) : Prop :=
  Row w N.lv D.l.length (flatE D.l) ∧ MacAt n w N.s D.T1 D.d1 ∧ Row w N.vv D.vs.length (flatL D.vs) ∧ Row w N.nv D.nx.length (flatI D.nx) ∧ Row w N.mv D.mt.length (flatI D.mt) ∧ MacAt n w N.o D.T2 D.d2
/-- all of it is small -/
def Nd.small (n : Nat) (D : Nd) : Prop := D.l.length ≤ 1048576 ∧ sizeT n D.T1 ≤ 1048576 ∧ D.d1.length ≤ 1048576 ∧ D.vs.length ≤ 1048576 ∧ D.nx.length ≤ 1048576 ∧ D.mt.length ≤ 1048576 ∧ sizeT n D.T2 ≤ 1048576 ∧ D.d2.length ≤ 1048576

/-- what a measure leaves: less than nothing, or what it took away -/
def Took (m : Nat) (left r : Int) : Prop := r = -1 ∨ (0 ≤ r ∧ r ≤ left ∧ (m : Int) ≤ left)
theorem took_if {m : Nat} {left : Int} (_h : 0 ≤ left) : Took m left (if (m : Int) ≤ left then left - m else -1) := by
  unfold Took
  split
  · right; omega
  · left; rfl
theorem took_leftOf {m : Nat} {left : Int} (h : 0 ≤ left) : Took m left (leftOf left m) := took_if h

/-- two nodes that hold the same numbers -/
def NodV.like (N M : NodV) : Prop := N.id = M.id ∧ N.te = M.te ∧ N.vo = M.vo ∧ N.lb = M.lb ∧ N.lt = M.lt ∧ N.ro = M.ro ∧ N.cm = M.cm
end Go.Proofs.Ytmdajbbpigbdcaa

namespace Go.Proofs.Ytmdajbbpigbdcaa
open Go.RowKit

/-- THE CELLS OF WHAT IS TOLD. -/
structure RpcV where
  kd : Int
  fr : Int
  tt : Int
  te : Int
  ix : Int
  it : Int
  cm : Int
  ok : Bool
  ev : Value
  s : MacV
abbrev RpcV.val (R : RpcV) : Value := .agg #[.int .i64 R.kd, .int .i64 R.fr, .int .i64 R.tt, .int .i64 R.te, .int .i64 R.ix, .int .i64 R.it, .int .i64 R.cm, .bool R.ok, R.ev, .bool R.s.x.lf, R.s.x.p, R.s.x.c, R.s.x.k, R.s.x.b, R.s.v]
/-- WHAT ITS LISTS HOLD. -/
structure Rd where
  l : EL
  T : Tr
  d : DL
/-- this lies there -/
def RpcAt (n : Nat) (w : World) (R : RpcV) (D : Rd) : Prop := Row w R.ev D.l.length (flatE D.l) ∧ MacAt n w R.s D.T D.d
theorem RpcAt.below {n : Nat} {w w' : World} {R : RpcV} {D : Rd} (h : RpcAt n w R D) (hb : Below w.heap.size w w') : RpcAt n w' R D := ⟨h.1.below hb, h.2.below hb⟩
/-- all of it is small -/
def Rd.small (n : Nat) (D : Rd) : Prop := D.l.length ≤ 1048576 ∧ sizeT n D.T ≤ 1048576 ∧ D.d.length ≤ 1048576

set_option maxRecDepth 100000 in
set_option maxHeartbeats 2000000 in
theorem szRpc_any (n : Nat) (R : RpcV) (D : Rd) (left : Int) (w : World) (h : RpcAt n w R D) (h0 : 0 ≤ left) (h1 : left ≤ 1048576) :
    Calls Try.prog 10 #[R.val, .int .i64 left] w fun e w' => ∃ r : Int, e = .returned (.int .i64 r) ∧ (¬ r < 0 → D.small n) ∧ Below w.heap.size w w' := by
  obtain ⟨kd, fr, tt, te, ix, it, cm, ok, ev, ⟨⟨sl, sp, sc, sk, sb⟩, sv⟩⟩ := R
  obtain ⟨q1, q2⟩ := h
  obtain ⟨av, cv, hvv, hlv⟩ := q1.len
  simp only at hvv
  subst hvv
  have S1 : Hid (∀ u (L : Int), 0 ≤ L → L ≤ 1048576 → Calls Try.prog 35 #[.slice av D.l.length cv, .int .i64 L] u fun e w' => ∃ r : Int, e = .returned (.int .i64 r) ∧ Took D.l.length L r ∧ w' = u) := fun u L a b => (szEntryS_any av _ cv L hlv a b u).mono (fun e w' ⟨he, hb⟩ => ⟨_, he, took_if a, hb⟩)
  have S2 : Hid (∀ u (L : Int), Below w.heap.size w u → 0 ≤ L → L ≤ 1048576 → Calls Try.prog 36 #[.agg #[.bool sl, sp, sc, sk, sb, sv], .int .i64 L] u fun e w' => ∃ r : Int, e = .returned (.int .i64 r) ∧ Took (sizeT n D.T + D.d.length) L r ∧ Below u.heap.size u w') := fun u L hu a b => (szMachine_any n ⟨⟨sl, sp, sc, sk, sb⟩, sv⟩ D.T D.d L u (q2.below hu) a b).mono (fun e w' ⟨he, hb⟩ => ⟨_, he, took_leftOf a, hb⟩)
  have FIN : Hid (∀ r1 r2 : Int, Took D.l.length left r1 → 0 ≤ r1 → Took (sizeT n D.T + D.d.length) r1 r2 → 0 ≤ r2 → D.small n) := fun r1 r2 t1 k1 t2 k2 => by
    unfold Took at t1 t2
    exact ⟨by omega, by omega, by omega⟩
  generalize D.small n = SM at *
  generalize D.l.length = nE at *
  generalize sizeT n D.T + D.d.length = n2 at *
  clear q1 q2 hlv
  have N1 : Hid (MBox 52 (w.alloc (.cells #[.int .i64 kd, .int .i64 fr, .int .i64 tt, .int .i64 te, .int .i64 ix, .int .i64 it, .int .i64 cm, .bool ok, .slice av nE cv, .bool sl, sp, sc, sk, sb, sv] 52)) w.heap.size #[.int .i64 kd, .int .i64 fr, .int .i64 tt, .int .i64 te, .int .i64 ix, .int .i64 it, .int .i64 cm, .bool ok, .slice av nE cv, .bool sl, sp, sc, sk, sb, sv]) := MBox.start _ w _
  have B1 : Hid (Below w.heap.size w (w.alloc (.cells #[.int .i64 kd, .int .i64 fr, .int .i64 tt, .int .i64 te, .int .i64 ix, .int .i64 it, .int .i64 cm, .bool ok, .slice av nE cv, .bool sl, sp, sc, sk, sb, sv] 52))) := bel_nw _ _
  have c1 := N1.out.cells
  show Calls Try.prog 10 #[.agg #[.int .i64 kd, .int .i64 fr, .int .i64 tt, .int .i64 te, .int .i64 ix, .int .i64 it, .int .i64 cm, .bool ok, .slice av nE cv, .bool sl, sp, sc, sk, sb, sv], .int .i64 left] w _
  go_enter Try.func10, Try.ntmps10
  go_wp2_with fail
  generalize w.alloc (.cells #[.int .i64 kd, .int .i64 fr, .int .i64 tt, .int .i64 te, .int .i64 ix, .int .i64 it, .int .i64 cm, .bool ok, .slice av nE cv, .bool sl, sp, sc, sk, sb, sv] 52) = W at *
  refine (S1.out _ left (by omega) (by omega)).mono ?_
  rintro e w1 ⟨r1, rfl, t1, b1⟩
  subst b1
  have T1 : Hid _ := t1
  have u1 : r1 ≤ 1048576 := by unfold Took at t1; omega
  clear t1
  by_cases p1 : r1 < 0
  · go_wp2
    go_ret
    exact ⟨_, rfl, fun h => by omega, B1.out⟩
  go_wp2_with fail
  refine (S2.out _ r1 B1.out (by omega) (by omega)).mono ?_
  rintro e w2 ⟨r2, rfl, t2, b2⟩
  replace B1 : Hid (Below w.heap.size w w2) := Below.and B1.out b2
  clear b2 c1
  have T2 : Hid _ := t2
  have u2 : r2 ≤ 1048576 := by unfold Took at t2; omega
  clear t2
  by_cases p2 : r2 < 0
  · go_wp2
    go_ret
    exact ⟨_, rfl, fun h => by omega, B1.out⟩
  go_wp2
  go_ret
  exact ⟨_, rfl, fun _ => FIN.out r1 r2 T1.out (by omega) T2.out (by omega), B1.out⟩

/-- two that tell the same -/
def RpcV.like (R S : RpcV) : Prop := R.kd = S.kd ∧ R.fr = S.fr ∧ R.tt = S.tt ∧ R.te = S.te ∧ R.ix = S.ix ∧ R.it = S.it ∧ R.cm = S.cm ∧ R.ok = S.ok
set_option maxRecDepth 100000 in
set_option maxHeartbeats 2000000 in
theorem eqRpc_any (n : Nat) (R S : RpcV) (D : Rd) (w : World) (hl : R.like S) (h : RpcAt n w R D) (h2 : RpcAt n w S D) :
    Calls Try.prog 14 #[R.val, S.val] w fun e w' => e = .returned (.bool true) ∧ Below w.heap.size w w' := by
  obtain ⟨kd1, fr1, tt1, te1, ix1, it1, cm1, ok1, ev1, ⟨⟨sl1, sp1, sc1, sk1, sb1⟩, sv1⟩⟩ := R
  obtain ⟨kd2, fr2, tt2, te2, ix2, it2, cm2, ok2, ev2, ⟨⟨sl2, sp2, sc2, sk2, sb2⟩, sv2⟩⟩ := S
  obtain ⟨e1, e2, e3, e4, e5, e6, e7, e8⟩ := hl
  simp only at e1 e2 e3 e4 e5 e6 e7 e8
  subst e1 e2 e3 e4 e5 e6 e7 e8
  have H : Hid _ := And.intro h h2
  have K1 : Hid (∀ u, Below w.heap.size w u → Calls Try.prog 45 #[ev1, ev2] u fun e w' => e = .returned (.bool true) ∧ Below u.heap.size u w') := fun u hu => (eqEntryS_any ev1 ev2 D.l D.l u (H.out.1.below hu).1 (H.out.2.below hu).1).mono (fun e w' ⟨he, hb⟩ => ⟨by rw [he]; simp, hb⟩)
  have K2 : Hid (∀ u, Below w.heap.size w u → Calls Try.prog 24 #[.agg #[.bool sl1, sp1, sc1, sk1, sb1, sv1], .agg #[.bool sl2, sp2, sc2, sk2, sb2, sv2]] u fun e w' => e = .returned (.bool true) ∧ Below u.heap.size u w') := fun u hu => eqMachine_any n ⟨⟨sl1, sp1, sc1, sk1, sb1⟩, sv1⟩ ⟨⟨sl2, sp2, sc2, sk2, sb2⟩, sv2⟩ D.T D.d u (H.out.1.below hu).2 (H.out.2.below hu).2
  have B1 : Hid (Below w.heap.size w ((w.alloc (.cells #[.int .i64 kd1, .int .i64 fr1, .int .i64 tt1, .int .i64 te1, .int .i64 ix1, .int .i64 it1, .int .i64 cm1, .bool ok1, ev1, .bool sl1, sp1, sc1, sk1, sb1, sv1] 56)).alloc (.cells #[.int .i64 kd1, .int .i64 fr1, .int .i64 tt1, .int .i64 te1, .int .i64 ix1, .int .i64 it1, .int .i64 cm1, .bool ok1, ev2, .bool sl2, sp2, sc2, sk2, sb2, sv2] 56))) := Below.and (bel_nw _ _) (bel_nw _ _)
  have N1 : Hid (MBox 56 ((w.alloc (.cells #[.int .i64 kd1, .int .i64 fr1, .int .i64 tt1, .int .i64 te1, .int .i64 ix1, .int .i64 it1, .int .i64 cm1, .bool ok1, ev1, .bool sl1, sp1, sc1, sk1, sb1, sv1] 56)).alloc (.cells #[.int .i64 kd1, .int .i64 fr1, .int .i64 tt1, .int .i64 te1, .int .i64 ix1, .int .i64 it1, .int .i64 cm1, .bool ok1, ev2, .bool sl2, sp2, sc2, sk2, sb2, sv2] 56)) w.heap.size #[.int .i64 kd1, .int .i64 fr1, .int .i64 tt1, .int .i64 te1, .int .i64 ix1, .int .i64 it1, .int .i64 cm1, .bool ok1, ev1, .bool sl1, sp1, sc1, sk1, sb1, sv1]) := (MBox.start _ w _).step (bel_nw _ _)
  have N2 : Hid (MBox 56 ((w.alloc (.cells #[.int .i64 kd1, .int .i64 fr1, .int .i64 tt1, .int .i64 te1, .int .i64 ix1, .int .i64 it1, .int .i64 cm1, .bool ok1, ev1, .bool sl1, sp1, sc1, sk1, sb1, sv1] 56)).alloc (.cells #[.int .i64 kd1, .int .i64 fr1, .int .i64 tt1, .int .i64 te1, .int .i64 ix1, .int .i64 it1, .int .i64 cm1, .bool ok1, ev2, .bool sl2, sp2, sc2, sk2, sb2, sv2] 56)) (w.heap.size + 1) #[.int .i64 kd1, .int .i64 fr1, .int .i64 tt1, .int .i64 te1, .int .i64 ix1, .int .i64 it1, .int .i64 cm1, .bool ok1, ev2, .bool sl2, sp2, sc2, sk2, sb2, sv2]) := by
    have := MBox.start 56 (w.alloc (.cells #[.int .i64 kd1, .int .i64 fr1, .int .i64 tt1, .int .i64 te1, .int .i64 ix1, .int .i64 it1, .int .i64 cm1, .bool ok1, ev1, .bool sl1, sp1, sc1, sk1, sb1, sv1] 56)) #[.int .i64 kd1, .int .i64 fr1, .int .i64 tt1, .int .i64 te1, .int .i64 ix1, .int .i64 it1, .int .i64 cm1, .bool ok1, ev2, .bool sl2, sp2, sc2, sk2, sb2, sv2]
    rw [World.size_alloc] at this
    exact this
  have c1 := N1.out.cells
  have d1 := N2.out.cells
  clear h h2 H
  have ho : (ok1 != ok1) = false := by cases ok1 <;> rfl
  show Calls Try.prog 14 #[.agg #[.int .i64 kd1, .int .i64 fr1, .int .i64 tt1, .int .i64 te1, .int .i64 ix1, .int .i64 it1, .int .i64 cm1, .bool ok1, ev1, .bool sl1, sp1, sc1, sk1, sb1, sv1], .agg #[.int .i64 kd1, .int .i64 fr1, .int .i64 tt1, .int .i64 te1, .int .i64 ix1, .int .i64 it1, .int .i64 cm1, .bool ok1, ev2, .bool sl2, sp2, sc2, sk2, sb2, sv2]] w _
  go_enter Try.func14, Try.ntmps14
  go_wp2_with fail
  generalize ((w.alloc (.cells #[.int .i64 kd1, .int .i64 fr1, .int .i64 tt1, .int .i64 te1, .int .i64 ix1, .int .i64 it1, .int .i64 cm1, .bool ok1, ev1, .bool sl1, sp1, sc1, sk1, sb1, sv1] 56)).alloc (.cells #[.int .i64 kd1, .int .i64 fr1, .int .i64 tt1, .int .i64 te1, .int .i64 ix1, .int .i64 it1, .int .i64 cm1, .bool ok1, ev2, .bool sl2, sp2, sc2, sk2, sb2, sv2] 56)) = W at *
  refine (K1.out _ B1.out).mono ?_
  rintro e w1 ⟨rfl, b1⟩
  replace B1 : Hid (Below w.heap.size w w1) := Below.and B1.out b1
  replace N1 : Hid (MBox 56 w1 w.heap.size #[.int .i64 kd1, .int .i64 fr1, .int .i64 tt1, .int .i64 te1, .int .i64 ix1, .int .i64 it1, .int .i64 cm1, .bool ok1, ev1, .bool sl1, sp1, sc1, sk1, sb1, sv1]) := N1.out.step b1
  replace N2 : Hid (MBox 56 w1 (w.heap.size + 1) #[.int .i64 kd1, .int .i64 fr1, .int .i64 tt1, .int .i64 te1, .int .i64 ix1, .int .i64 it1, .int .i64 cm1, .bool ok1, ev2, .bool sl2, sp2, sc2, sk2, sb2, sv2]) := N2.out.step b1
  clear b1 c1 d1
  have c1 := N1.out.cells
  have d1 := N2.out.cells
  go_wp2_with fail
  refine (K2.out _ B1.out).mono ?_
  rintro e w2 ⟨rfl, b2⟩
  replace B1 : Hid (Below w.heap.size w w2) := Below.and B1.out b2
  clear b2 c1 d1
  go_wp2
  go_ret
  exact ⟨rfl, B1.out⟩

end Go.Proofs.Ytmdajbbpigbdcaa

namespace Go.Proofs.Ytmdajbbpigbdcaa

/-- all below a number -/
def allB (n : Nat) (f : Nat → Bool) : Bool := (List.range n).all f
theorem allB_true {n : Nat} {f : Nat → Bool} (h : ∀ i, i < n → f i = true) : allB n f = true := by
  simp only [allB, List.all_eq_true, List.mem_range]; exact h
theorem allB_false {n : Nat} {f : Nat → Bool} {i : Nat} (hi : i < n) (h : f i = false) : allB n f = false := by
  rw [Bool.eq_false_iff]
  intro hc
  simp only [allB, List.all_eq_true, List.mem_range] at hc
  rw [hc i hi] at h
  cases h
theorem allB_at {n : Nat} {f : Nat → Bool} (h : allB n f = true) {i : Nat} (hi : i < n) : f i = true := by
  simp only [allB, List.all_eq_true, List.mem_range] at h
  exact h i hi

def pairAt (T : Tr) (lo hi : Int) (i : Nat) : Bool := inB (kOf T.pairs i) lo (hi - 1)
def pairsInB (T : Tr) (lo hi : Int) : Bool := allB T.pairs.length (pairAt T lo hi)
def leafOkB (T : Tr) (lo hi : Int) : Bool := mapOkB T.pairs && (decide (T.pairs.length ≤ 4) && (decide (T.cuts.length + T.kids.length + T.buf.length = 0) && pairsInB T lo hi))
def msgAt (T : Tr) (lo hi : Int) (i : Nat) : Bool := msgOkB (mO T.buf i) (mK T.buf i) (mV T.buf i) && (!(mO T.buf i == 4) && inB (mK T.buf i) lo (hi - 1))
def bufOkB (T : Tr) (lo hi : Int) : Bool := allB T.buf.length (msgAt T lo hi)
/-- from where on, and below what, the keys of the i-th kid lie -/
def fromT (T : Tr) (lo : Int) (i : Nat) : Int := if i = 0 then lo else iAt T.cuts (i - 1)
def toT (T : Tr) (hi : Int) (i : Nat) : Int := if i < T.cuts.length then iAt T.cuts i else hi
def cutAt (T : Tr) (lo hi : Int) (i : Nat) : Bool := inB (iAt T.cuts i) (fromT T lo i + 1) (hi - 1)
def cutsOkB (T : Tr) (lo hi : Int) : Bool := allB T.cuts.length (cutAt T lo hi)
def shapeB (T : Tr) : Bool := decide (T.pairs.length = 0) && (decide (2 ≤ T.kids.length ∧ T.kids.length ≤ 4) && (decide (T.cuts.length + 1 = T.kids.length) && decide (T.buf.length ≤ 6)))
def forkOkB (T : Tr) (lo hi : Int) : Bool := shapeB T && (bufOkB T lo hi && cutsOkB T lo hi)
/-- one more than the depth of all kids, where it is one -/
def kidsD (d : Nat → Nat) (n : Nat) : Nat := if (!(d 0 == 0) && allB n fun i => d i == d 0) = true then d 0 + 1 else 0
/-- the depth of a tree whose keys lie from lo on and below hi, of at most m; 0: it is not right -/
def depthF : Nat → Tr → Int → Int → Nat
  | 0, _, _, _ => 0
  | m + 1, T, lo, hi => if T.leaf = true then (if leafOkB T lo hi = true then 1 else 0) else if forkOkB T lo hi = true then kidsD (fun i => depthF m (kidT T i) (fromT T lo i) (toT T hi i)) T.kids.length else 0
def kidF (m : Nat) (T : Tr) (lo hi : Int) (i : Nat) : Nat := depthF m (kidT T i) (fromT T lo i) (toT T hi i)

theorem depthF_leaf {m : Nat} {T : Tr} {lo hi : Int} (h : T.leaf = true) : depthF (m + 1) T lo hi = if leafOkB T lo hi = true then 1 else 0 := by rw [depthF, if_pos h]
theorem depthF_no {m : Nat} {T : Tr} {lo hi : Int} (h : T.leaf = false) (hf : forkOkB T lo hi = false) : depthF (m + 1) T lo hi = 0 := by
  rw [depthF, if_neg (by rw [h]; decide), if_neg (by rw [hf]; decide)]
theorem depthF_fork {m : Nat} {T : Tr} {lo hi : Int} (h : T.leaf = false) (hf : forkOkB T lo hi = true) : depthF (m + 1) T lo hi = kidsD (kidF m T lo hi) T.kids.length := by
  rw [depthF, if_neg (by rw [h]; decide), if_pos hf]; rfl
theorem kidsD_zero {d : Nat → Nat} {n i : Nat} (hi : i < n) (h : d i = 0) : kidsD d n = 0 := by
  rw [kidsD, if_neg]
  intro hc
  simp only [Bool.and_eq_true] at hc
  have := allB_at hc.2 hi
  simp only [beq_iff_eq] at this
  rw [h] at this
  rw [← this] at hc
  simp at hc
theorem kidsD_ne {d : Nat → Nat} {n i : Nat} (hi : i < n) (h : d i ≠ d 0) : kidsD d n = 0 := by
  rw [kidsD, if_neg]
  intro hc
  simp only [Bool.and_eq_true] at hc
  have := allB_at hc.2 hi
  simp only [beq_iff_eq] at this
  exact h this
theorem kidsD_yes {d : Nat → Nat} {n : Nat} (h0 : d 0 ≠ 0) (h : ∀ i, i < n → d i = d 0) : kidsD d n = d 0 + 1 := by
  rw [kidsD, if_pos]
  simp only [Bool.and_eq_true]
  refine ⟨by simpa using h0, allB_true fun i hi => by simpa using h i hi⟩
theorem kidsD_le {d : Nat → Nat} {n m : Nat} (h : ∀ i, d i ≤ m) : kidsD d n ≤ m + 1 := by
  unfold kidsD
  split
  · have := h 0; omega
  · omega
theorem depthF_le : ∀ (m : Nat) (T : Tr) (lo hi : Int), depthF m T lo hi ≤ m
  | 0, _, _, _ => by simp [depthF]
  | m + 1, T, lo, hi => by
    rw [depthF]
    split
    · split <;> omega
    · split
      · exact kidsD_le fun i => depthF_le m _ _ _
      · omega

/-- how many pairs, messages a tree has -/
def pairsF : Nat → Tr → Nat
  | 0, _ => 0
  | n + 1, T => T.pairs.length + (T.kids.map (pairsF n)).sum
def msgsF : Nat → Tr → Nat
  | 0, _ => 0
  | n + 1, T => T.buf.length + (T.kids.map (msgsF n)).sum
def sumF (f : Tr → Nat) (ts : List Tr) (k : Nat) : Nat := ((ts.take k).map f).sum
/-- how many of the first cuts are at most k -/
def cutsTo (l : List Int) (k : Int) : Nat := (l.filter fun c => decide (c ≤ k)).length

/-- the answers of chapter 2 -/
def depthT (T : Tr) : Nat := depthF 7 T 0 1000
def okT (T : Tr) : Bool := decide (0 < depthT T)

end Go.Proofs.Ytmdajbbpigbdcaa
