/-
  Lists of truths: the laws' functions on them.
  Nodes in memory: the laws' own functions that measure and compare them.
-/
import Derived.Test.YtmdajbbpigbdcaaGreatOfFeed3
import Derived.Test.YtmdajbbpigbdcaaGreatOfFeed2
import Derived.Deep.QuietTactic
import Derived.BigQuiet
import Derived.Test.YtmdajbbpigbdcaaGreatOfFeed4
import Derived.Test.YtmdajbbpigbdcaaGreatOfFeed5
namespace Go.Proofs.YtmdajbbpigbdcaaGreat
set_option maxRecDepth 100000
set_option maxHeartbeats 8000000
section
open Go.RowKit

def flatL (l : List Bool) : List Value := l.map Value.bool
def bOf (l : List Bool) (i : Nat) : Bool := l.getD i false
theorem flatL_length (l : List Bool) : (flatL l).length = l.length := by simp [flatL]
theorem flatL_at (l : List Bool) (i : Nat) (h : i < l.length) : (flatL l)[i]? = some (.bool (bOf l i)) := by simp [flatL, bOf, List.getD, h]
theorem flatL_append (l m : List Bool) : flatL (l ++ m) = flatL l ++ flatL m := by simp [flatL]
theorem flatL_set (l : List Bool) (s : Bool) (i : Nat) : (flatL l).set i (.bool s) = flatL (l.set i s) := by simp [flatL, List.map_set]
theorem takeL_succ (l : List Bool) (k : Nat) (hk : k < l.length) : l.take (k + 1) = l.take k ++ [bOf l k] := by
 rw [List.take_succ_eq_append_getElem hk]; simp [bOf, List.getD, hk]
theorem Row.bools {w : World} {v : Value} {l : List Bool} (h : Row w v l.length (flatL l)) :
  ∃ (a : Option Addr) (b off cap : Nat), v = .slice a l.length cap ∧ l.length ≤ cap ∧ cap ≤ maxLen ∧ (0 < l.length → a = some ⟨b, off, none⟩) ∧
   (∀ i, i < l.length → w.cell? ⟨b, off + i, none⟩ = some (.bool (bOf l i))) := by
 obtain ⟨a, b, off, cap, h1, h2, h3, h4, h5, _⟩ := h
 exact ⟨a, b, off, cap, h1, h2, h3, h4, fun i hi => h5 _ _ (flatL_at l i hi)⟩
theorem extL {l1 l2 : List Bool} (hl : l1.length = l2.length) (h : ∀ i, i < l1.length → bOf l1 i = bOf l2 i) : l1 = l2 := by
 apply List.ext_getElem hl
 intro i h1 h2
 have := h i h1
 simpa [bOf, List.getD, h1, h2] using this

theorem Tryz.info4 : (Tryz.prog.info? 4).map (fun i => (i.zero, i.size, i.bytes)) = some (some (.bool false), 1, 1) := by kernel_rfl

def filledL (l : List Bool) (k : Nat) : List Value := flatL (l.take k) ++ List.replicate (l.length - k) (.bool false)
theorem filledL_full (l : List Bool) : filledL l l.length = flatL l := by simp [filledL]
theorem filledL_zero (l : List Bool) (k : Nat) (hk : k < l.length) : (filledL l k)[k]? = some (.bool false) := by
 have hl : (flatL (l.take k)).length = k := by rw [flatL_length]; simp; omega
 rw [filledL, List.getElem?_append_right (by omega), List.getElem?_replicate_of_lt (by omega)]
theorem filledL_step (l : List Bool) (k : Nat) (hk : k < l.length) : (filledL l k).set k (.bool (bOf l k)) = filledL l (k + 1) := by
 have hl : (flatL (l.take k)).length = k := by rw [flatL_length]; simp; omega
 obtain ⟨m, hm⟩ : ∃ m, l.length - k = m + 1 := ⟨l.length - k - 1, by omega⟩
 have hm2 : l.length - (k + 1) = m := by omega
 rw [filledL, filledL, takeL_succ l k hk, flatL_append, hm, hm2, List.replicate_succ]
 rw [List.set_append_right _ _ (by omega), hl, Nat.sub_self, List.set_cons_zero]
 simp [flatL]

theorem toBoolS_any (v : Value) (l : List Bool) (w : World) (hr : Row w v l.length (flatL l)) (hn : l.length ≤ 1048576) :
  Calls Tryz.prog 27 #[v] w fun e w' => ∃ v', e = .returned v' ∧ w'.ownsRow w.heap.size 4 1 v' l.length (flatL l) ∧ Below w.heap.size w w' := by
 obtain ⟨a, b, off, cap, rfl, hcap, hmax, ha, hk⟩ := hr.bools
 obtain ⟨i0, hi, hz0, hz1, hz2⟩ := info_parts Tryz.info4
 unfold maxLen at hmax
 go_enter Tryz.func27, Tryz.ntmps27
 go_wp2_with (at_make; refine wpList_make_full _ rfl _ _ 34 rfl w.heap.size 4 i0 _ 1 Tryz.underlying34 hi hz0 hz1 .i64 .i64 _ _ l.length rfl rfl rfl rfl ?c1 ?c2 ?c3 ?_)
 case c1 => rw [hz2]; omega
 case c2 => unfold maxLen; omega
 case c3 => exact Nat.le_refl _
 intro w0 hown0 hgrow0
 have hb0 : Below w.heap.size w w0 := (Below.refl _ _).grown hgrow0 (Nat.le_refl _) (fun k hk => by cases hk)
 clear hgrow0
 go_wp2
 go_loopw [4] (fun i wr => ∃ k : Nat, k ≤ l.length ∧ i = .int .i64 k ∧ wr.ownsRow w.heap.size 4 1 (.slice (some ⟨w.heap.size, 0, none⟩) l.length l.length) l.length (filledL l k) ∧ Below w.heap.size w wr)
  (fun i _ => l.length - (intOf i).toNat)
 case atStart => exact ⟨0, Nat.zero_le _, rfl, by rw [madeCells_all _ (.bool false) (by decide) (fun i hi => by match i, hi with | 0, _ => rfl)] at hown0; simpa [filledL, flatL] using hown0, hb0⟩
 case round =>
  obtain ⟨k, hkl, rfl, hown, hb⟩ := hrel
  clear hown0 hb0
  by_cases hlt : k < l.length
  ·have hal := ha (by omega)
   subst hal
   have c0 := hk k hlt
   have d0 : wr.cell? ⟨b, off + k, none⟩ = some (.bool (bOf l k)) := (hb.cell (by exact cell_lt c0)).trans c0
   have e0 := (hown.cellAt k (by omega)).trans (filledL_zero l k hlt)
   have f0 := hown.frozenAt k
   have st := (hown.stored k (.bool (bOf l k))).1
   rw [filledL_step l k hlt] at st
   have ST : Hid ((wr.setCell ⟨w.heap.size, k, none⟩ (.bool (bOf l k))).ownsRow w.heap.size 4 1 (.slice (some ⟨w.heap.size, 0, none⟩) l.length l.length) l.length (filledL l (k + 1))) := st
   have HB : Hid _ := hb
   clear hk c0 ha st hown hb
   go_wp2
   go_roundw
   case rel => exact ⟨k + 1, by omega, by go_num, ST.out, HB.out.setCell (Nat.le_refl _) _⟩
   case measure => simp [intOf]; omega
  ·go_wp2
   go_ret
   have hkk : k = l.length := by omega
   subst hkk
   rw [filledL_full] at hown
   exact ⟨_, rfl, hown, hb⟩

theorem eqBoolS_any (v1 v2 : Value) (l1 l2 : List Bool) (w : World) (h1 : Row w v1 l1.length (flatL l1)) (h2 : Row w v2 l2.length (flatL l2)) :
  Calls Tryz.prog 34 #[v1, v2] w fun e w' => e = .returned (.bool (decide (l1 = l2))) ∧ Below w.heap.size w w' := by
 obtain ⟨a, b, off, cap, rfl, hcap, hmax, ha, hk⟩ := h1.bools
 obtain ⟨a2, b2, off2, cap2, rfl, hcap2, hmax2, ha2, hk2⟩ := h2.bools
 unfold maxLen at hmax hmax2
 by_cases hl : l1.length = l2.length
 ·have hne : ((l1.length : Int) != (l2.length : Int)) = false := by rw [bne_eq_false_iff_eq]; omega
  have HL : Hid (l1.length = l2.length) := hl
  have hl2 : l1.length ≤ l2.length := by omega
  clear hl
  go_enter Tryz.func34, Tryz.ntmps34
  go_wp2
  go_loopw [5] (fun i wr => ∃ k : Nat, k ≤ l1.length ∧ i = .int .i64 k ∧ Hid (∀ i, i < k → bOf l1 i = bOf l2 i) ∧ Below w.heap.size w wr)
   (fun i _ => l1.length - (intOf i).toNat)
  case atStart => exact ⟨0, Nat.zero_le _, rfl, fun i hi => absurd hi (Nat.not_lt_zero _), Below.refl _ _⟩
  case round =>
   obtain ⟨k, hkl, rfl, ALL, hb⟩ := hrel
   by_cases hlt : k < l1.length
   ·have hal := ha (by omega)
    subst hal
    have hal2 := ha2 (by omega)
    subst hal2
    have hlt2 : k < l2.length := by omega
    have d0 := (hb.cell (by exact cell_lt (hk k hlt))).trans (hk k hlt)
    have d1 := (hb.cell (by exact cell_lt (hk2 k hlt2))).trans (hk2 k hlt2)
    clear hk ha hk2 ha2
    by_cases hq : bOf l1 k = bOf l2 k
    ·have hq' : (bOf l1 k == bOf l2 k) = true := by rw [beq_iff_eq]; exact hq
     have EQ : Hid (bOf l1 k = bOf l2 k) := hq
     clear hq
     go_wp2_with fail
     go_quiet (fail)
     go_wp2
     go_roundw
     case rel => exact ⟨k + 1, by omega, by go_num, fun i hi => if h : i < k then ALL.out i h else by rw [show i = k by omega]; exact EQ.out, below_drewN hb _⟩
     case measure => simp [intOf]; omega
    ·have hq' : (bOf l1 k == bOf l2 k) = false := by rw [beq_eq_false_iff_ne]; exact hq
     have NE : Hid (decide (l1 = l2) = false) := decide_eq_false (fun e => hq (by rw [e]))
     clear hq
     go_wp2_with fail
     go_quiet (fail)
     go_wp2
     go_ret
     exact ⟨ret_bool NE.out.symm, below_drewN hb _⟩
   ·go_wp2
    go_ret
    refine ⟨ret_bool ?_, hb⟩
    symm
    rw [decide_eq_true_iff]
    exact extL HL.out (fun i hi => ALL.out i (by omega))
 ·have hne : ((l1.length : Int) != (l2.length : Int)) = true := by rw [bne_iff_ne]; omega
  go_enter Tryz.func34, Tryz.ntmps34
  go_wp2
  go_ret
  refine ⟨ret_bool ?_, Below.refl _ _⟩
  symm
  rw [decide_eq_false_iff_not]
  intro h; exact hl (by rw [h])
end
section
open Go.RowKit

structure NodV where
 id : Int
 te : Int
 vo : Int
 lb : Int
 lt : Int
 lv : Value
 s : MacV
 ro : Int
 vv : Value
 nv : Value
 mv : Value
 cm : Int
 o : MacV
abbrev NodV.val (N : NodV) : Value := .agg #[.int .i64 N.id, .int .i64 N.te, .int .i64 N.vo, .int .i64 N.lb, .int .i64 N.lt, N.lv, .bool N.s.x.lf, N.s.x.p, N.s.x.c, N.s.x.k, N.s.x.b, N.s.v, .int .i64 N.ro, N.vv, N.nv, N.mv, .int .i64 N.cm, .bool N.o.x.lf, N.o.x.p, N.o.x.c, N.o.x.k, N.o.x.b, N.o.v]
structure Nd where
 l : EL
 T1 : Tr
 d1 : DL
 vs : List Bool
 nx : List Int
 mt : List Int
 T2 : Tr
 d2 : DL
def NodAt (n : Nat) (w : World) (N : NodV) (D : Nd) : Prop :=
 Row w N.lv D.l.length (flatE D.l) ∧ MacAt n w N.s D.T1 D.d1 ∧ Row w N.vv D.vs.length (flatL D.vs) ∧ Row w N.nv D.nx.length (flatI D.nx) ∧ Row w N.mv D.mt.length (flatI D.mt) ∧ MacAt n w N.o D.T2 D.d2
theorem NodAt.below {n : Nat} {w w' : World} {N : NodV} {D : Nd} (h : NodAt n w N D) (hb : Below w.heap.size w w') : NodAt n w' N D := ⟨h.1.below hb, h.2.1.below hb, h.2.2.1.below hb, h.2.2.2.1.below hb, h.2.2.2.2.1.below hb, h.2.2.2.2.2.below hb⟩
def Nd.small (n : Nat) (D : Nd) : Prop := D.l.length ≤ 1048576 ∧ sizeT n D.T1 ≤ 1048576 ∧ D.d1.length ≤ 1048576 ∧ D.vs.length ≤ 1048576 ∧ D.nx.length ≤ 1048576 ∧ D.mt.length ≤ 1048576 ∧ sizeT n D.T2 ≤ 1048576 ∧ D.d2.length ≤ 1048576

theorem szBoolS_any (a : Option Addr) (n cap : Nat) (left : Int) (hn : n ≤ maxLen) (hl : 0 ≤ left) (hl2 : left ≤ 1048576) (w : World) :
  Calls Tryz.prog 19 #[.slice a n cap, .int .i64 left] w fun e w' => e = .returned (.int .i64 (if (n : Int) ≤ left then left - n else -1)) ∧ w' = w := by
 unfold maxLen at hn
 by_cases h : (n : Int) ≤ left
 ·go_enter Tryz.func19, Tryz.ntmps19
  go_wp2
  go_ret
  exact ⟨rfl, rfl⟩
 ·go_enter Tryz.func19, Tryz.ntmps19
  go_wp2
  go_ret
  exact ⟨rfl, rfl⟩
def Took (m : Nat) (left r : Int) : Prop := r = -1 ∨ (0 ≤ r ∧ r ≤ left ∧ (m : Int) ≤ left)
theorem took_if {m : Nat} {left : Int} (_h : 0 ≤ left) : Took m left (if (m : Int) ≤ left then left - m else -1) := by
 unfold Took
 split
 ·right; omega
 ·left; rfl
theorem took_leftOf {m : Nat} {left : Int} (h : 0 ≤ left) : Took m left (leftOf left m) := took_if h

theorem szNode_any (n : Nat) (N : NodV) (D : Nd) (left : Int) (w : World) (h : NodAt n w N D) (h0 : 0 ≤ left) (h1 : left ≤ 1048576) :
  Calls Tryz.prog 5 #[N.val, .int .i64 left] w fun e w' => ∃ r : Int, e = .returned (.int .i64 r) ∧ (¬ r < 0 → D.small n) ∧ Below w.heap.size w w' := by
 obtain ⟨id, te, vo, lb, lt, lv, ⟨⟨sl, sp, sc, sk, sb⟩, sv⟩, ro, vv, nv, mv, cm, ⟨⟨ol, op, oc, ok, ob⟩, ov⟩⟩ := N
 obtain ⟨q1, q2, q3, q4, q5, q6⟩ := h
 obtain ⟨av, cv, hvv, hlv⟩ := q3.len
 obtain ⟨an, cn, hnv, hln⟩ := q4.len
 obtain ⟨am, cq, hmv, hlm⟩ := q5.len
 simp only at hvv hnv hmv
 subst hvv hnv hmv
 have S1 : Hid (∀ u (L : Int), Below w.heap.size w u → 0 ≤ L → L ≤ 1048576 → Calls Tryz.prog 17 #[lgV lb lt lv, .int .i64 L] u fun e w' => ∃ r : Int, e = .returned (.int .i64 r) ∧ Took D.l.length L r ∧ Below u.heap.size u w') := fun u L hu a b => (szLog_any lb lt lv D.l L u (q1.below hu) a b).mono (fun e w' ⟨he, hb⟩ => ⟨_, he, took_if a, hb⟩)
 have S2 : Hid (∀ u (L : Int), Below w.heap.size w u → 0 ≤ L → L ≤ 1048576 → Calls Tryz.prog 18 #[.agg #[.bool sl, sp, sc, sk, sb, sv], .int .i64 L] u fun e w' => ∃ r : Int, e = .returned (.int .i64 r) ∧ Took (sizeT n D.T1 + D.d1.length) L r ∧ Below u.heap.size u w') := fun u L hu a b => (szMachine_any n ⟨⟨sl, sp, sc, sk, sb⟩, sv⟩ D.T1 D.d1 L u (q2.below hu) a b).mono (fun e w' ⟨he, hb⟩ => ⟨_, he, took_leftOf a, hb⟩)
 have S3 : Hid (∀ u (L : Int), 0 ≤ L → L ≤ 1048576 → Calls Tryz.prog 19 #[.slice av D.vs.length cv, .int .i64 L] u fun e w' => ∃ r : Int, e = .returned (.int .i64 r) ∧ Took D.vs.length L r ∧ w' = u) := fun u L a b => (szBoolS_any av _ cv L hlv a b u).mono (fun e w' ⟨he, hb⟩ => ⟨_, he, took_if a, hb⟩)
 have S4 : Hid (∀ u (L : Int), 0 ≤ L → L ≤ 1048576 → Calls Tryz.prog 20 #[.slice an D.nx.length cn, .int .i64 L] u fun e w' => ∃ r : Int, e = .returned (.int .i64 r) ∧ Took D.nx.length L r ∧ w' = u) := fun u L a b => (szIntS_any an _ cn L hln a b u).mono (fun e w' ⟨he, hb⟩ => ⟨_, he, took_if a, hb⟩)
 have S5 : Hid (∀ u (L : Int), 0 ≤ L → L ≤ 1048576 → Calls Tryz.prog 20 #[.slice am D.mt.length cq, .int .i64 L] u fun e w' => ∃ r : Int, e = .returned (.int .i64 r) ∧ Took D.mt.length L r ∧ w' = u) := fun u L a b => (szIntS_any am _ cq L hlm a b u).mono (fun e w' ⟨he, hb⟩ => ⟨_, he, took_if a, hb⟩)
 have S6 : Hid (∀ u (L : Int), Below w.heap.size w u → 0 ≤ L → L ≤ 1048576 → Calls Tryz.prog 18 #[.agg #[.bool ol, op, oc, ok, ob, ov], .int .i64 L] u fun e w' => ∃ r : Int, e = .returned (.int .i64 r) ∧ Took (sizeT n D.T2 + D.d2.length) L r ∧ Below u.heap.size u w') := fun u L hu a b => (szMachine_any n ⟨⟨ol, op, oc, ok, ob⟩, ov⟩ D.T2 D.d2 L u (q6.below hu) a b).mono (fun e w' ⟨he, hb⟩ => ⟨_, he, took_leftOf a, hb⟩)
 have FIN : Hid (∀ r1 r2 r3 r4 r5 r6 : Int, Took D.l.length left r1 → 0 ≤ r1 → Took (sizeT n D.T1 + D.d1.length) r1 r2 → 0 ≤ r2 → Took D.vs.length r2 r3 → 0 ≤ r3 → Took D.nx.length r3 r4 → 0 ≤ r4 → Took D.mt.length r4 r5 → 0 ≤ r5 → Took (sizeT n D.T2 + D.d2.length) r5 r6 → 0 ≤ r6 → D.small n) := fun r1 r2 r3 r4 r5 r6 t1 k1 t2 k2 t3 k3 t4 k4 t5 k5 t6 k6 => by
  unfold Took at t1 t2 t3 t4 t5 t6
  exact ⟨by omega, by omega, by omega, by omega, by omega, by omega, by omega, by omega⟩
 generalize D.small n = SM at *
 generalize D.l.length = n1 at *
 generalize sizeT n D.T1 + D.d1.length = n2 at *
 generalize D.vs.length = nB at *
 generalize D.nx.length = nN at *
 generalize D.mt.length = nM at *
 generalize sizeT n D.T2 + D.d2.length = n6 at *
 clear q1 q2 q3 q4 q5 q6 hlv hln hlm
 have N1 : Hid (MBox 36 (w.alloc (.cells #[.int .i64 id, .int .i64 te, .int .i64 vo, .int .i64 lb, .int .i64 lt, lv, .bool sl, sp, sc, sk, sb, sv, .int .i64 ro, .slice av nB cv, .slice an nN cn, .slice am nM cq, .int .i64 cm, .bool ol, op, oc, ok, ob, ov] 36)) w.heap.size #[.int .i64 id, .int .i64 te, .int .i64 vo, .int .i64 lb, .int .i64 lt, lv, .bool sl, sp, sc, sk, sb, sv, .int .i64 ro, .slice av nB cv, .slice an nN cn, .slice am nM cq, .int .i64 cm, .bool ol, op, oc, ok, ob, ov]) := MBox.start _ w _
 have B1 : Hid (Below w.heap.size w (w.alloc (.cells #[.int .i64 id, .int .i64 te, .int .i64 vo, .int .i64 lb, .int .i64 lt, lv, .bool sl, sp, sc, sk, sb, sv, .int .i64 ro, .slice av nB cv, .slice an nN cn, .slice am nM cq, .int .i64 cm, .bool ol, op, oc, ok, ob, ov] 36))) := bel_nw _ _
 have c1 := N1.out.cells
 show Calls Tryz.prog 5 #[.agg #[.int .i64 id, .int .i64 te, .int .i64 vo, .int .i64 lb, .int .i64 lt, lv, .bool sl, sp, sc, sk, sb, sv, .int .i64 ro, .slice av nB cv, .slice an nN cn, .slice am nM cq, .int .i64 cm, .bool ol, op, oc, ok, ob, ov], .int .i64 left] w _
 go_enter Tryz.func5, Tryz.ntmps5
 go_wp2_with fail
 generalize w.alloc (.cells #[.int .i64 id, .int .i64 te, .int .i64 vo, .int .i64 lb, .int .i64 lt, lv, .bool sl, sp, sc, sk, sb, sv, .int .i64 ro, .slice av nB cv, .slice an nN cn, .slice am nM cq, .int .i64 cm, .bool ol, op, oc, ok, ob, ov] 36) = W at *
 refine (S1.out _ left B1.out (by omega) (by omega)).mono ?_
 rintro e w1 ⟨r1, rfl, t1, b1⟩
 replace B1 : Hid (Below w.heap.size w w1) := Below.and B1.out b1
 replace N1 : Hid (MBox 36 w1 w.heap.size #[.int .i64 id, .int .i64 te, .int .i64 vo, .int .i64 lb, .int .i64 lt, lv, .bool sl, sp, sc, sk, sb, sv, .int .i64 ro, .slice av nB cv, .slice an nN cn, .slice am nM cq, .int .i64 cm, .bool ol, op, oc, ok, ob, ov]) := N1.out.step b1
 clear b1 c1
 have c1 := N1.out.cells
 have T1 : Hid _ := t1
 have u1 : r1 ≤ 1048576 := by unfold Took at t1; omega
 clear t1
 by_cases p1 : r1 < 0
 ·go_wp2
  go_ret
  exact ⟨_, rfl, fun h => by omega, B1.out⟩
 go_wp2_with fail
 refine (S2.out _ r1 B1.out (by omega) (by omega)).mono ?_
 rintro e w2 ⟨r2, rfl, t2, b2⟩
 replace B1 : Hid (Below w.heap.size w w2) := Below.and B1.out b2
 replace N1 : Hid (MBox 36 w2 w.heap.size #[.int .i64 id, .int .i64 te, .int .i64 vo, .int .i64 lb, .int .i64 lt, lv, .bool sl, sp, sc, sk, sb, sv, .int .i64 ro, .slice av nB cv, .slice an nN cn, .slice am nM cq, .int .i64 cm, .bool ol, op, oc, ok, ob, ov]) := N1.out.step b2
 clear b2 c1
 have c1 := N1.out.cells
 have T2 : Hid _ := t2
 have u2 : r2 ≤ 1048576 := by unfold Took at t2; omega
 clear t2
 by_cases p2 : r2 < 0
 ·go_wp2
  go_ret
  exact ⟨_, rfl, fun h => by omega, B1.out⟩
 go_wp2_with fail
 refine (S3.out _ r2 (by omega) (by omega)).mono ?_
 rintro e w3 ⟨r3, rfl, t3, b3⟩
 subst b3
 have T3 : Hid _ := t3
 have u3 : r3 ≤ 1048576 := by unfold Took at t3; omega
 clear t3
 by_cases p3 : r3 < 0
 ·go_wp2
  go_ret
  exact ⟨_, rfl, fun h => by omega, B1.out⟩
 go_wp2_with fail
 refine (S4.out _ r3 (by omega) (by omega)).mono ?_
 rintro e w4 ⟨r4, rfl, t4, b4⟩
 subst b4
 have T4 : Hid _ := t4
 have u4 : r4 ≤ 1048576 := by unfold Took at t4; omega
 clear t4
 by_cases p4 : r4 < 0
 ·go_wp2
  go_ret
  exact ⟨_, rfl, fun h => by omega, B1.out⟩
 go_wp2_with fail
 refine (S5.out _ r4 (by omega) (by omega)).mono ?_
 rintro e w5 ⟨r5, rfl, t5, b5⟩
 subst b5
 have T5 : Hid _ := t5
 have u5 : r5 ≤ 1048576 := by unfold Took at t5; omega
 clear t5
 by_cases p5 : r5 < 0
 ·go_wp2
  go_ret
  exact ⟨_, rfl, fun h => by omega, B1.out⟩
 go_wp2_with fail
 refine (S6.out _ r5 B1.out (by omega) (by omega)).mono ?_
 rintro e w6 ⟨r6, rfl, t6, b6⟩
 replace B1 : Hid (Below w.heap.size w w6) := Below.and B1.out b6
 replace N1 : Hid (MBox 36 w6 w.heap.size #[.int .i64 id, .int .i64 te, .int .i64 vo, .int .i64 lb, .int .i64 lt, lv, .bool sl, sp, sc, sk, sb, sv, .int .i64 ro, .slice av nB cv, .slice an nN cn, .slice am nM cq, .int .i64 cm, .bool ol, op, oc, ok, ob, ov]) := N1.out.step b6
 clear b6 c1
 have c1 := N1.out.cells
 have T6 : Hid _ := t6
 have u6 : r6 ≤ 1048576 := by unfold Took at t6; omega
 clear t6
 by_cases p6 : r6 < 0
 ·go_wp2
  go_ret
  exact ⟨_, rfl, fun h => by omega, B1.out⟩
 go_wp2
 go_ret
 exact ⟨_, rfl, fun _ => FIN.out r1 r2 r3 r4 r5 r6 T1.out (by omega) T2.out (by omega) T3.out (by omega) T4.out (by omega) T5.out (by omega) T6.out (by omega), B1.out⟩

def NodV.like (N M : NodV) : Prop := N.id = M.id ∧ N.te = M.te ∧ N.vo = M.vo ∧ N.lb = M.lb ∧ N.lt = M.lt ∧ N.ro = M.ro ∧ N.cm = M.cm
theorem eqNode_any (n : Nat) (N M : NodV) (D : Nd) (w : World) (hl : N.like M) (h : NodAt n w N D) (h2 : NodAt n w M D) :
  Calls Tryz.prog 9 #[N.val, M.val] w fun e w' => e = .returned (.bool true) ∧ Below w.heap.size w w' := by
 obtain ⟨id1, te1, vo1, lb1, lt1, lv1, ⟨⟨sl1, sp1, sc1, sk1, sb1⟩, sv1⟩, ro1, vv1, nv1, mv1, cm1, ⟨⟨ol1, op1, oc1, ok1, ob1⟩, ov1⟩⟩ := N
 obtain ⟨id2, te2, vo2, lb2, lt2, lv2, ⟨⟨sl2, sp2, sc2, sk2, sb2⟩, sv2⟩, ro2, vv2, nv2, mv2, cm2, ⟨⟨ol2, op2, oc2, ok2, ob2⟩, ov2⟩⟩ := M
 obtain ⟨e1, e2, e3, e4, e5, e6, e7⟩ := hl
 simp only at e1 e2 e3 e4 e5 e6 e7
 subst e1 e2 e3 e4 e5 e6 e7
 have H : Hid _ := And.intro h h2
 have K1 : Hid (∀ u, Below w.heap.size w u → Calls Tryz.prog 32 #[lgV lb1 lt1 lv1, lgV lb1 lt1 lv2] u fun e w' => e = .returned (.bool true) ∧ Below u.heap.size u w') := fun u hu => (eqLog_any lb1 lt1 lb1 lt1 lv1 lv2 D.l D.l u (H.out.1.below hu).1 (H.out.2.below hu).1).mono (fun e w' ⟨he, hb⟩ => ⟨by rw [he]; simp, hb⟩)
 have K2 : Hid (∀ u, Below w.heap.size w u → Calls Tryz.prog 33 #[.agg #[.bool sl1, sp1, sc1, sk1, sb1, sv1], .agg #[.bool sl2, sp2, sc2, sk2, sb2, sv2]] u fun e w' => e = .returned (.bool true) ∧ Below u.heap.size u w') := fun u hu => eqMachine_any n ⟨⟨sl1, sp1, sc1, sk1, sb1⟩, sv1⟩ ⟨⟨sl2, sp2, sc2, sk2, sb2⟩, sv2⟩ D.T1 D.d1 u (H.out.1.below hu).2.1 (H.out.2.below hu).2.1
 have K3 : Hid (∀ u, Below w.heap.size w u → Calls Tryz.prog 34 #[vv1, vv2] u fun e w' => e = .returned (.bool true) ∧ Below u.heap.size u w') := fun u hu => (eqBoolS_any vv1 vv2 D.vs D.vs u (H.out.1.below hu).2.2.1 (H.out.2.below hu).2.2.1).mono (fun e w' ⟨he, hb⟩ => ⟨by rw [he]; simp, hb⟩)
 have K4 : Hid (∀ u, Below w.heap.size w u → Calls Tryz.prog 35 #[nv1, nv2] u fun e w' => e = .returned (.bool true) ∧ Below u.heap.size u w') := fun u hu => (eqIntS_any nv1 nv2 D.nx D.nx u (H.out.1.below hu).2.2.2.1 (H.out.2.below hu).2.2.2.1).mono (fun e w' ⟨he, hb⟩ => ⟨by rw [he]; simp, hb⟩)
 have K5 : Hid (∀ u, Below w.heap.size w u → Calls Tryz.prog 35 #[mv1, mv2] u fun e w' => e = .returned (.bool true) ∧ Below u.heap.size u w') := fun u hu => (eqIntS_any mv1 mv2 D.mt D.mt u (H.out.1.below hu).2.2.2.2.1 (H.out.2.below hu).2.2.2.2.1).mono (fun e w' ⟨he, hb⟩ => ⟨by rw [he]; simp, hb⟩)
 have K6 : Hid (∀ u, Below w.heap.size w u → Calls Tryz.prog 33 #[.agg #[.bool ol1, op1, oc1, ok1, ob1, ov1], .agg #[.bool ol2, op2, oc2, ok2, ob2, ov2]] u fun e w' => e = .returned (.bool true) ∧ Below u.heap.size u w') := fun u hu => eqMachine_any n ⟨⟨ol1, op1, oc1, ok1, ob1⟩, ov1⟩ ⟨⟨ol2, op2, oc2, ok2, ob2⟩, ov2⟩ D.T2 D.d2 u (H.out.1.below hu).2.2.2.2.2 (H.out.2.below hu).2.2.2.2.2
 have B1 : Hid (Below w.heap.size w ((w.alloc (.cells #[.int .i64 id1, .int .i64 te1, .int .i64 vo1, .int .i64 lb1, .int .i64 lt1, lv1, .bool sl1, sp1, sc1, sk1, sb1, sv1, .int .i64 ro1, vv1, nv1, mv1, .int .i64 cm1, .bool ol1, op1, oc1, ok1, ob1, ov1] 50)).alloc (.cells #[.int .i64 id1, .int .i64 te1, .int .i64 vo1, .int .i64 lb1, .int .i64 lt1, lv2, .bool sl2, sp2, sc2, sk2, sb2, sv2, .int .i64 ro1, vv2, nv2, mv2, .int .i64 cm1, .bool ol2, op2, oc2, ok2, ob2, ov2] 50))) := Below.and (bel_nw _ _) (bel_nw _ _)
 have N1 : Hid (MBox 50 ((w.alloc (.cells #[.int .i64 id1, .int .i64 te1, .int .i64 vo1, .int .i64 lb1, .int .i64 lt1, lv1, .bool sl1, sp1, sc1, sk1, sb1, sv1, .int .i64 ro1, vv1, nv1, mv1, .int .i64 cm1, .bool ol1, op1, oc1, ok1, ob1, ov1] 50)).alloc (.cells #[.int .i64 id1, .int .i64 te1, .int .i64 vo1, .int .i64 lb1, .int .i64 lt1, lv2, .bool sl2, sp2, sc2, sk2, sb2, sv2, .int .i64 ro1, vv2, nv2, mv2, .int .i64 cm1, .bool ol2, op2, oc2, ok2, ob2, ov2] 50)) w.heap.size #[.int .i64 id1, .int .i64 te1, .int .i64 vo1, .int .i64 lb1, .int .i64 lt1, lv1, .bool sl1, sp1, sc1, sk1, sb1, sv1, .int .i64 ro1, vv1, nv1, mv1, .int .i64 cm1, .bool ol1, op1, oc1, ok1, ob1, ov1]) := (MBox.start _ w _).step (bel_nw _ _)
 have N2 : Hid (MBox 50 ((w.alloc (.cells #[.int .i64 id1, .int .i64 te1, .int .i64 vo1, .int .i64 lb1, .int .i64 lt1, lv1, .bool sl1, sp1, sc1, sk1, sb1, sv1, .int .i64 ro1, vv1, nv1, mv1, .int .i64 cm1, .bool ol1, op1, oc1, ok1, ob1, ov1] 50)).alloc (.cells #[.int .i64 id1, .int .i64 te1, .int .i64 vo1, .int .i64 lb1, .int .i64 lt1, lv2, .bool sl2, sp2, sc2, sk2, sb2, sv2, .int .i64 ro1, vv2, nv2, mv2, .int .i64 cm1, .bool ol2, op2, oc2, ok2, ob2, ov2] 50)) (w.heap.size + 1) #[.int .i64 id1, .int .i64 te1, .int .i64 vo1, .int .i64 lb1, .int .i64 lt1, lv2, .bool sl2, sp2, sc2, sk2, sb2, sv2, .int .i64 ro1, vv2, nv2, mv2, .int .i64 cm1, .bool ol2, op2, oc2, ok2, ob2, ov2]) := by
  have := MBox.start 50 (w.alloc (.cells #[.int .i64 id1, .int .i64 te1, .int .i64 vo1, .int .i64 lb1, .int .i64 lt1, lv1, .bool sl1, sp1, sc1, sk1, sb1, sv1, .int .i64 ro1, vv1, nv1, mv1, .int .i64 cm1, .bool ol1, op1, oc1, ok1, ob1, ov1] 50)) #[.int .i64 id1, .int .i64 te1, .int .i64 vo1, .int .i64 lb1, .int .i64 lt1, lv2, .bool sl2, sp2, sc2, sk2, sb2, sv2, .int .i64 ro1, vv2, nv2, mv2, .int .i64 cm1, .bool ol2, op2, oc2, ok2, ob2, ov2]
  rw [World.size_alloc] at this
  exact this
 have c1 := N1.out.cells
 have d1 := N2.out.cells
 clear h h2 H
 show Calls Tryz.prog 9 #[.agg #[.int .i64 id1, .int .i64 te1, .int .i64 vo1, .int .i64 lb1, .int .i64 lt1, lv1, .bool sl1, sp1, sc1, sk1, sb1, sv1, .int .i64 ro1, vv1, nv1, mv1, .int .i64 cm1, .bool ol1, op1, oc1, ok1, ob1, ov1], .agg #[.int .i64 id1, .int .i64 te1, .int .i64 vo1, .int .i64 lb1, .int .i64 lt1, lv2, .bool sl2, sp2, sc2, sk2, sb2, sv2, .int .i64 ro1, vv2, nv2, mv2, .int .i64 cm1, .bool ol2, op2, oc2, ok2, ob2, ov2]] w _
 go_enter Tryz.func9, Tryz.ntmps9
 go_wp2_with fail
 generalize ((w.alloc (.cells #[.int .i64 id1, .int .i64 te1, .int .i64 vo1, .int .i64 lb1, .int .i64 lt1, lv1, .bool sl1, sp1, sc1, sk1, sb1, sv1, .int .i64 ro1, vv1, nv1, mv1, .int .i64 cm1, .bool ol1, op1, oc1, ok1, ob1, ov1] 50)).alloc (.cells #[.int .i64 id1, .int .i64 te1, .int .i64 vo1, .int .i64 lb1, .int .i64 lt1, lv2, .bool sl2, sp2, sc2, sk2, sb2, sv2, .int .i64 ro1, vv2, nv2, mv2, .int .i64 cm1, .bool ol2, op2, oc2, ok2, ob2, ov2] 50)) = W at *
 refine (K1.out _ B1.out).mono ?_
 rintro e w1 ⟨rfl, b1⟩
 replace B1 : Hid (Below w.heap.size w w1) := Below.and B1.out b1
 replace N1 : Hid (MBox 50 w1 w.heap.size #[.int .i64 id1, .int .i64 te1, .int .i64 vo1, .int .i64 lb1, .int .i64 lt1, lv1, .bool sl1, sp1, sc1, sk1, sb1, sv1, .int .i64 ro1, vv1, nv1, mv1, .int .i64 cm1, .bool ol1, op1, oc1, ok1, ob1, ov1]) := N1.out.step b1
 replace N2 : Hid (MBox 50 w1 (w.heap.size + 1) #[.int .i64 id1, .int .i64 te1, .int .i64 vo1, .int .i64 lb1, .int .i64 lt1, lv2, .bool sl2, sp2, sc2, sk2, sb2, sv2, .int .i64 ro1, vv2, nv2, mv2, .int .i64 cm1, .bool ol2, op2, oc2, ok2, ob2, ov2]) := N2.out.step b1
 clear b1 c1 d1
 have c1 := N1.out.cells
 have d1 := N2.out.cells
 go_wp2_with fail
 refine (K2.out _ B1.out).mono ?_
 rintro e w2 ⟨rfl, b2⟩
 replace B1 : Hid (Below w.heap.size w w2) := Below.and B1.out b2
 replace N1 : Hid (MBox 50 w2 w.heap.size #[.int .i64 id1, .int .i64 te1, .int .i64 vo1, .int .i64 lb1, .int .i64 lt1, lv1, .bool sl1, sp1, sc1, sk1, sb1, sv1, .int .i64 ro1, vv1, nv1, mv1, .int .i64 cm1, .bool ol1, op1, oc1, ok1, ob1, ov1]) := N1.out.step b2
 replace N2 : Hid (MBox 50 w2 (w.heap.size + 1) #[.int .i64 id1, .int .i64 te1, .int .i64 vo1, .int .i64 lb1, .int .i64 lt1, lv2, .bool sl2, sp2, sc2, sk2, sb2, sv2, .int .i64 ro1, vv2, nv2, mv2, .int .i64 cm1, .bool ol2, op2, oc2, ok2, ob2, ov2]) := N2.out.step b2
 clear b2 c1 d1
 have c1 := N1.out.cells
 have d1 := N2.out.cells
 go_wp2_with fail
 refine (K3.out _ B1.out).mono ?_
 rintro e w3 ⟨rfl, b3⟩
 replace B1 : Hid (Below w.heap.size w w3) := Below.and B1.out b3
 replace N1 : Hid (MBox 50 w3 w.heap.size #[.int .i64 id1, .int .i64 te1, .int .i64 vo1, .int .i64 lb1, .int .i64 lt1, lv1, .bool sl1, sp1, sc1, sk1, sb1, sv1, .int .i64 ro1, vv1, nv1, mv1, .int .i64 cm1, .bool ol1, op1, oc1, ok1, ob1, ov1]) := N1.out.step b3
 replace N2 : Hid (MBox 50 w3 (w.heap.size + 1) #[.int .i64 id1, .int .i64 te1, .int .i64 vo1, .int .i64 lb1, .int .i64 lt1, lv2, .bool sl2, sp2, sc2, sk2, sb2, sv2, .int .i64 ro1, vv2, nv2, mv2, .int .i64 cm1, .bool ol2, op2, oc2, ok2, ob2, ov2]) := N2.out.step b3
 clear b3 c1 d1
 have c1 := N1.out.cells
 have d1 := N2.out.cells
 go_wp2_with fail
 refine (K4.out _ B1.out).mono ?_
 rintro e w4 ⟨rfl, b4⟩
 replace B1 : Hid (Below w.heap.size w w4) := Below.and B1.out b4
 replace N1 : Hid (MBox 50 w4 w.heap.size #[.int .i64 id1, .int .i64 te1, .int .i64 vo1, .int .i64 lb1, .int .i64 lt1, lv1, .bool sl1, sp1, sc1, sk1, sb1, sv1, .int .i64 ro1, vv1, nv1, mv1, .int .i64 cm1, .bool ol1, op1, oc1, ok1, ob1, ov1]) := N1.out.step b4
 replace N2 : Hid (MBox 50 w4 (w.heap.size + 1) #[.int .i64 id1, .int .i64 te1, .int .i64 vo1, .int .i64 lb1, .int .i64 lt1, lv2, .bool sl2, sp2, sc2, sk2, sb2, sv2, .int .i64 ro1, vv2, nv2, mv2, .int .i64 cm1, .bool ol2, op2, oc2, ok2, ob2, ov2]) := N2.out.step b4
 clear b4 c1 d1
 have c1 := N1.out.cells
 have d1 := N2.out.cells
 go_wp2_with fail
 refine (K5.out _ B1.out).mono ?_
 rintro e w5 ⟨rfl, b5⟩
 replace B1 : Hid (Below w.heap.size w w5) := Below.and B1.out b5
 replace N1 : Hid (MBox 50 w5 w.heap.size #[.int .i64 id1, .int .i64 te1, .int .i64 vo1, .int .i64 lb1, .int .i64 lt1, lv1, .bool sl1, sp1, sc1, sk1, sb1, sv1, .int .i64 ro1, vv1, nv1, mv1, .int .i64 cm1, .bool ol1, op1, oc1, ok1, ob1, ov1]) := N1.out.step b5
 replace N2 : Hid (MBox 50 w5 (w.heap.size + 1) #[.int .i64 id1, .int .i64 te1, .int .i64 vo1, .int .i64 lb1, .int .i64 lt1, lv2, .bool sl2, sp2, sc2, sk2, sb2, sv2, .int .i64 ro1, vv2, nv2, mv2, .int .i64 cm1, .bool ol2, op2, oc2, ok2, ob2, ov2]) := N2.out.step b5
 clear b5 c1 d1
 have c1 := N1.out.cells
 have d1 := N2.out.cells
 go_wp2_with fail
 refine (K6.out _ B1.out).mono ?_
 rintro e w6 ⟨rfl, b6⟩
 replace B1 : Hid (Below w.heap.size w w6) := Below.and B1.out b6
 replace N1 : Hid (MBox 50 w6 w.heap.size #[.int .i64 id1, .int .i64 te1, .int .i64 vo1, .int .i64 lb1, .int .i64 lt1, lv1, .bool sl1, sp1, sc1, sk1, sb1, sv1, .int .i64 ro1, vv1, nv1, mv1, .int .i64 cm1, .bool ol1, op1, oc1, ok1, ob1, ov1]) := N1.out.step b6
 replace N2 : Hid (MBox 50 w6 (w.heap.size + 1) #[.int .i64 id1, .int .i64 te1, .int .i64 vo1, .int .i64 lb1, .int .i64 lt1, lv2, .bool sl2, sp2, sc2, sk2, sb2, sv2, .int .i64 ro1, vv2, nv2, mv2, .int .i64 cm1, .bool ol2, op2, oc2, ok2, ob2, ov2]) := N2.out.step b6
 clear b6 c1 d1
 have c1 := N1.out.cells
 have d1 := N2.out.cells
 go_wp2
 go_ret
 exact ⟨rfl, B1.out⟩
end
end Go.Proofs.YtmdajbbpigbdcaaGreat
