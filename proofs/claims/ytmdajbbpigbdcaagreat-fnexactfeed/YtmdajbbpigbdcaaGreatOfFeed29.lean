/-
  The program's NodeOk, whole.
  The walk of the law FnExactNodeOk, over the program's contract.
  What Feed tells, as plain data; what is told, in memory of its own.
  copy between slices whose elements have any number of cells: a law for the walk.
-/
import Derived.Test.YtmdajbbpigbdcaaGreatOfFeed28
import Derived.Test.YtmdajbbpigbdcaaGreatOfFeed27
import Derived.Test.YtmdajbbpigbdcaaGreatOfFeed7
import Derived.Test.YtmdajbbpigbdcaaGreatOfFeed20
import Derived.Deep.RegionHeld3
import Derived.Test.YtmdajbbpigbdcaaGreatOfFeed26
import Derived.Test.YtmdajbbpigbdcaaGreatOfFeed25
import Derived.Test.YtmdajbbpigbdcaaGreatOfFeed1
import Derived.Laws.CopyOwn
namespace Go.Proofs.YtmdajbbpigbdcaaGreat
set_option maxRecDepth 100000
set_option maxHeartbeats 8000000
section
open Go.RowKit

theorem wpList_load_g {P : Program} {ops : Array Oper} {rest : List Oper} {op : Oper} {a : Act} {w : World} {Q : Exit → Act → World → Prop} (hw : Region.wanted op (yielded ops a.tmps) = true) (ty : TypeId) (x : Operand) (ho : op.op = .load ty x)
  (b o : Nat) (hx : a.eval x = .pointer (some ⟨b, o, none⟩)) (cs : List Value) (d : TypeDesc) (hc : w.rangeAt b o cs)
  (hu : P.underlying ty = some d) (hd : d.isRow = true) (hi : (P.info? ty).map (·.size) = some cs.length)
  (h : wpList P ops Q rest (a.put op.dst (.agg cs.toArray)) w) : wpList P ops Q (op :: rest) a w :=
 wpList_step fun _ hK => by rw [if_pos hw]; exact wp_load_mid ty x ho b o hx cs d hc hu hd hi (hK _ _ h)

theorem termsOk_any (N : NodV) (l : EL) (w : World) (h : Row w N.lv l.length (flatE l)) (hl : l.length ≤ 1048576) :
  Calls Tryz.prog 70 #[N.val] w fun e w' => e = .returned (.bool (inB N.te 0 100000 && (logOkB N.lb N.lt l && decide (prevT N.lt l l.length ≤ N.te)))) ∧ Below w.heap.size w w' := by
 obtain ⟨id, te, vo, lb, lt, lv, ⟨⟨sl, sp, sc, sk, sb⟩, sv⟩, ro, vv, nv, mv, cm, ⟨⟨ol, op, oc, ok, ob⟩, ov⟩⟩ := N
 have S1 : Hid (∀ u, Below w.heap.size w u → Calls Tryz.prog 98 #[lgV lb lt lv] u fun e w' => e = .returned (.bool (logOkB lb lt l)) ∧ Below u.heap.size u w') := fun u hu => implLogOk_any lb lt lv l u (h.below hu) (by omega)
 have S2 : Hid (∀ u, Below w.heap.size w u → Calls Tryz.prog 99 #[lgV lb lt lv] u fun e w' => e = .returned (.tuple #[.int .i64 (lastN lb l), .int .i64 (prevT lt l l.length)]) ∧ Below u.heap.size u w') := fun u hu => implLastOf_any lb lt lv l u (h.below hu)
 clear h hl
 simp only
 generalize logOkB lb lt l = lo at *
 generalize lastN lb l = la at *
 generalize prevT lt l l.length = pt at *
 have N1 := hid9 (MBox.start 50 w #[.int .i64 id, .int .i64 te, .int .i64 vo, .int .i64 lb, .int .i64 lt, lv, .bool sl, sp, sc, sk, sb, sv, .int .i64 ro, vv, nv, mv, .int .i64 cm, .bool ol, op, oc, ok, ob, ov])
 have B1 : Hid (Below w.heap.size w (w.alloc (.cells #[.int .i64 id, .int .i64 te, .int .i64 vo, .int .i64 lb, .int .i64 lt, lv, .bool sl, sp, sc, sk, sb, sv, .int .i64 ro, vv, nv, mv, .int .i64 cm, .bool ol, op, oc, ok, ob, ov] 50))) := bel_nw _ _
 have c1 := N1.out.cells
 show Calls Tryz.prog 70 #[.agg #[.int .i64 id, .int .i64 te, .int .i64 vo, .int .i64 lb, .int .i64 lt, lv, .bool sl, sp, sc, sk, sb, sv, .int .i64 ro, vv, nv, mv, .int .i64 cm, .bool ol, op, oc, ok, ob, ov]] w _
 go_enter Tryz.func70, Tryz.ntmps70
 go_wp2_with fail
 generalize w.alloc (.cells #[.int .i64 id, .int .i64 te, .int .i64 vo, .int .i64 lb, .int .i64 lt, lv, .bool sl, sp, sc, sk, sb, sv, .int .i64 ro, vv, nv, mv, .int .i64 cm, .bool ol, op, oc, ok, ob, ov] 50) = W at *
 refine (indexOk_any _ _).mono ?_
 rintro e w1 ⟨rfl, hw1⟩
 subst hw1
 cases h1 : inB te 0 100000
 ·go_wp2
  go_ret
  exact ⟨ret_bool (by simp [h1]), B1.out⟩
 go_wp2_with fail
 refine (S1.out _ B1.out).mono ?_
 rintro e w2 ⟨rfl, b2⟩
 replace B1 := hid9 (Below.and B1.out b2)
 replace N1 := hid9 (N1.out.step b2)
 clear b2 c1
 have c1 := N1.out.cells
 cases h2 : lo
 ·go_wp2
  go_ret
  exact ⟨ret_bool (by simp [h2]), B1.out⟩
 go_wp2_with fail
 refine (S2.out _ B1.out).mono ?_
 rintro e w3 ⟨rfl, b3⟩
 replace B1 := hid9 (Below.and B1.out b3)
 replace N1 := hid9 (N1.out.step b3)
 clear b3 c1
 have c1 := N1.out.cells
 go_wp2
 go_ret
 exact ⟨ret_bool (by simp [h1, h2]), B1.out⟩

theorem listsOk_any (N : NodV) (l : EL) (vs : List Bool) (nx mt : List Int) (size : Int) (w : World) (h : Row w N.lv l.length (flatE l)) (h3 : Row w N.vv vs.length (flatL vs)) (h4 : Row w N.nv nx.length (flatI nx)) (h5 : Row w N.mv mt.length (flatI mt)) (hla : 0 ≤ lastN N.lb l ∧ lastN N.lb l ≤ 100000) :
  Calls Tryz.prog 73 #[N.val, .int .i64 size] w fun e w' => e = .returned (.bool (decide ((vs.length : Int) = size) && (decide ((nx.length : Int) = size) && (decide ((mt.length : Int) = size) && (allIn nx 1 (lastN N.lb l + 1) && (allIn mt 0 (lastN N.lb l) && inB N.cm N.lb (lastN N.lb l))))))) ∧ Below w.heap.size w w' := by
 obtain ⟨id, te, vo, lb, lt, lv, ⟨⟨sl, sp, sc, sk, sb⟩, sv⟩, ro, vv, nv, mv, cm, ⟨⟨ol, op, oc, ok, ob⟩, ov⟩⟩ := N
 simp only at h h3 h4 h5 hla
 obtain ⟨av, cv, hvv, hlv⟩ := h3.len
 obtain ⟨an, cn, hnv, hln⟩ := h4.len
 obtain ⟨am, cq, hmv, hlm⟩ := h5.len
 subst hvv hnv hmv
 have S2 : Hid (∀ u, Below w.heap.size w u → Calls Tryz.prog 99 #[lgV lb lt lv] u fun e w' => e = .returned (.tuple #[.int .i64 (lastN lb l), .int .i64 (prevT lt l l.length)]) ∧ Below u.heap.size u w') := fun u hu => implLastOf_any lb lt lv l u (h.below hu)
 have S4 : Hid (∀ u, Below w.heap.size w u → Calls Tryz.prog 102 #[.slice an nx.length cn, .int .i64 1, .int .i64 (lastN lb l + 1)] u fun e w' => e = .returned (.bool (allIn nx 1 (lastN lb l + 1))) ∧ w' = u) := fun u hu => allWithin_any _ nx _ _ u (h4.below hu)
 have S5 : Hid (∀ u, Below w.heap.size w u → Calls Tryz.prog 102 #[.slice am mt.length cq, .int .i64 0, .int .i64 (lastN lb l)] u fun e w' => e = .returned (.bool (allIn mt 0 (lastN lb l))) ∧ w' = u) := fun u hu => allWithin_any _ mt _ _ u (h5.below hu)
 have IB : Hid (∀ x : Int, inB cm lb x = (decide (lb ≤ cm) && decide (cm ≤ x))) := fun x => by unfold inB; by_cases a : lb ≤ cm <;> by_cases b : cm ≤ x <;> simp [a, b]
 unfold maxLen at hlv hln hlm
 clear h h3 h4 h5
 simp only
 generalize lastN lb l = la at *
 generalize prevT lt l l.length = pt at *
 generalize allIn nx 1 (la + 1) = ax at *
 generalize allIn mt 0 la = ay at *
 rw [IB.out la]
 generalize vs.length = nB at *
 generalize nx.length = nN at *
 generalize mt.length = nM at *
 have hwl : IntKind.i64.wrap (la + 1) = la + 1 := by rw [IntKind.wrap_i64]; omega
 by_cases g2 : (nB : Int) = size
 rotate_left
 ·have g2b : ((nB : Int) != size) = true := by simpa using g2
  have N1 := hid9 (MBox.start 50 w #[.int .i64 id, .int .i64 te, .int .i64 vo, .int .i64 lb, .int .i64 lt, lv, .bool sl, sp, sc, sk, sb, sv, .int .i64 ro, .slice av nB cv, .slice an nN cn, .slice am nM cq, .int .i64 cm, .bool ol, op, oc, ok, ob, ov])
  have B1 : Hid (Below w.heap.size w (w.alloc (.cells #[.int .i64 id, .int .i64 te, .int .i64 vo, .int .i64 lb, .int .i64 lt, lv, .bool sl, sp, sc, sk, sb, sv, .int .i64 ro, .slice av nB cv, .slice an nN cn, .slice am nM cq, .int .i64 cm, .bool ol, op, oc, ok, ob, ov] 50))) := bel_nw _ _
  have c1 := N1.out.cells
  show Calls Tryz.prog 73 #[.agg #[.int .i64 id, .int .i64 te, .int .i64 vo, .int .i64 lb, .int .i64 lt, lv, .bool sl, sp, sc, sk, sb, sv, .int .i64 ro, .slice av nB cv, .slice an nN cn, .slice am nM cq, .int .i64 cm, .bool ol, op, oc, ok, ob, ov], .int .i64 size] w _
  go_enter Tryz.func73, Tryz.ntmps73
  go_wp2
  go_ret
  exact ⟨ret_bool (by simp [g2]), B1.out⟩
 subst g2
 by_cases g3 : nN = nB
 rotate_left
 ·have g3b : ((nN : Int) != (nB : Int)) = true := by simp; omega
  have g3c : ¬ ((nN : Int) = (nB : Int)) := by omega
  have N1 := hid9 (MBox.start 50 w #[.int .i64 id, .int .i64 te, .int .i64 vo, .int .i64 lb, .int .i64 lt, lv, .bool sl, sp, sc, sk, sb, sv, .int .i64 ro, .slice av nB cv, .slice an nN cn, .slice am nM cq, .int .i64 cm, .bool ol, op, oc, ok, ob, ov])
  have B1 : Hid (Below w.heap.size w (w.alloc (.cells #[.int .i64 id, .int .i64 te, .int .i64 vo, .int .i64 lb, .int .i64 lt, lv, .bool sl, sp, sc, sk, sb, sv, .int .i64 ro, .slice av nB cv, .slice an nN cn, .slice am nM cq, .int .i64 cm, .bool ol, op, oc, ok, ob, ov] 50))) := bel_nw _ _
  have c1 := N1.out.cells
  show Calls Tryz.prog 73 #[.agg #[.int .i64 id, .int .i64 te, .int .i64 vo, .int .i64 lb, .int .i64 lt, lv, .bool sl, sp, sc, sk, sb, sv, .int .i64 ro, .slice av nB cv, .slice an nN cn, .slice am nM cq, .int .i64 cm, .bool ol, op, oc, ok, ob, ov], .int .i64 (nB : Int)] w _
  go_enter Tryz.func73, Tryz.ntmps73
  go_wp2
  go_ret
  exact ⟨ret_bool (by simp [g3c]), B1.out⟩
 subst g3
 by_cases g4 : nM = nN
 rotate_left
 ·have g4b : ((nM : Int) != (nN : Int)) = true := by simp; omega
  have g4c : ¬ ((nM : Int) = (nN : Int)) := by omega
  have N1 := hid9 (MBox.start 50 w #[.int .i64 id, .int .i64 te, .int .i64 vo, .int .i64 lb, .int .i64 lt, lv, .bool sl, sp, sc, sk, sb, sv, .int .i64 ro, .slice av nN cv, .slice an nN cn, .slice am nM cq, .int .i64 cm, .bool ol, op, oc, ok, ob, ov])
  have B1 : Hid (Below w.heap.size w (w.alloc (.cells #[.int .i64 id, .int .i64 te, .int .i64 vo, .int .i64 lb, .int .i64 lt, lv, .bool sl, sp, sc, sk, sb, sv, .int .i64 ro, .slice av nN cv, .slice an nN cn, .slice am nM cq, .int .i64 cm, .bool ol, op, oc, ok, ob, ov] 50))) := bel_nw _ _
  have c1 := N1.out.cells
  show Calls Tryz.prog 73 #[.agg #[.int .i64 id, .int .i64 te, .int .i64 vo, .int .i64 lb, .int .i64 lt, lv, .bool sl, sp, sc, sk, sb, sv, .int .i64 ro, .slice av nN cv, .slice an nN cn, .slice am nM cq, .int .i64 cm, .bool ol, op, oc, ok, ob, ov], .int .i64 (nN : Int)] w _
  go_enter Tryz.func73, Tryz.ntmps73
  go_wp2
  go_ret
  exact ⟨ret_bool (by simp [g4c]), B1.out⟩
 subst g4
 have N1 := hid9 (MBox.start 50 w #[.int .i64 id, .int .i64 te, .int .i64 vo, .int .i64 lb, .int .i64 lt, lv, .bool sl, sp, sc, sk, sb, sv, .int .i64 ro, .slice av nM cv, .slice an nM cn, .slice am nM cq, .int .i64 cm, .bool ol, op, oc, ok, ob, ov])
 have B1 : Hid (Below w.heap.size w (w.alloc (.cells #[.int .i64 id, .int .i64 te, .int .i64 vo, .int .i64 lb, .int .i64 lt, lv, .bool sl, sp, sc, sk, sb, sv, .int .i64 ro, .slice av nM cv, .slice an nM cn, .slice am nM cq, .int .i64 cm, .bool ol, op, oc, ok, ob, ov] 50))) := bel_nw _ _
 have c1 := N1.out.cells
 show Calls Tryz.prog 73 #[.agg #[.int .i64 id, .int .i64 te, .int .i64 vo, .int .i64 lb, .int .i64 lt, lv, .bool sl, sp, sc, sk, sb, sv, .int .i64 ro, .slice av nM cv, .slice an nM cn, .slice am nM cq, .int .i64 cm, .bool ol, op, oc, ok, ob, ov], .int .i64 (nM : Int)] w _
 go_enter Tryz.func73, Tryz.ntmps73
 go_wp2_with fail
 generalize w.alloc (.cells #[.int .i64 id, .int .i64 te, .int .i64 vo, .int .i64 lb, .int .i64 lt, lv, .bool sl, sp, sc, sk, sb, sv, .int .i64 ro, .slice av nM cv, .slice an nM cn, .slice am nM cq, .int .i64 cm, .bool ol, op, oc, ok, ob, ov] 50) = W at *
 refine (S2.out _ B1.out).mono ?_
 rintro e w3 ⟨rfl, b3⟩
 replace B1 := hid9 (Below.and B1.out b3)
 replace N1 := hid9 (N1.out.step b3)
 clear b3 c1
 have c1 := N1.out.cells
 go_wp2_with fail
 refine (S4.out _ B1.out).mono ?_
 rintro e w4 ⟨rfl, hw4⟩
 subst hw4
 cases h4 : ax
 ·go_wp2
  go_ret
  exact ⟨ret_bool (by simp [h4]), B1.out⟩
 go_wp2_with fail
 refine (S5.out _ B1.out).mono ?_
 rintro e w5 ⟨rfl, hw5⟩
 subst hw5
 cases h5 : ay
 ·go_wp2
  go_ret
  exact ⟨ret_bool (by simp [h5]), B1.out⟩
 by_cases k1 : lb ≤ cm
 ·go_wp2
  go_ret
  exact ⟨ret_bool (by simp [h4, h5, k1]), B1.out⟩
 ·go_wp2
  go_ret
  exact ⟨ret_bool (by simp; intro h; omega), B1.out⟩

theorem implNodeOk_any (n : Nat) (N : NodV) (D : Nd) (size : Int) (w : World) (h : NodAt n w N D) (hs : D.small n) :
  Calls Tryz.prog 30 #[N.val, .int .i64 size] w fun e w' => e = .returned (.bool (nodeOkB N D size)) ∧ Below w.heap.size w w' := by
 have T1 : Hid (∀ u, Below w.heap.size w u → Calls Tryz.prog 70 #[N.val] u fun e w' => e = .returned (.bool (inB N.te 0 100000 && (logOkB N.lb N.lt D.l && decide (prevT N.lt D.l D.l.length ≤ N.te)))) ∧ Below u.heap.size u w') := fun u hu => termsOk_any N D.l u (h.1.below hu) hs.1
 have T2 : Hid (∀ u, Calls Tryz.prog 72 #[N.val] u fun e w' => e = .returned (.bool (inB N.ro 0 2)) ∧ Below u.heap.size u w') := fun u => roleOk_any N u
 have T3 : Hid (∀ u, Below w.heap.size w u → logOkB N.lb N.lt D.l = true → Calls Tryz.prog 73 #[N.val, .int .i64 size] u fun e w' => e = .returned (.bool (decide ((D.vs.length : Int) = size) && (decide ((D.nx.length : Int) = size) && (decide ((D.mt.length : Int) = size) && (allIn D.nx 1 (lastN N.lb D.l + 1) && (allIn D.mt 0 (lastN N.lb D.l) && inB N.cm N.lb (lastN N.lb D.l))))))) ∧ Below u.heap.size u w') := fun u hu hl => listsOk_any N D.l D.vs D.nx D.mt size u (h.1.below hu) (h.2.2.1.below hu) (h.2.2.2.1.below hu) (h.2.2.2.2.1.below hu) (lastN_small hl)
 have M1 : Hid (∀ u, Below w.heap.size w u → Calls Tryz.prog 74 #[N.s.val] u fun e w' => e = .returned (.bool (machOk D.T1 D.d1)) ∧ Below u.heap.size u w') := fun u hu => implMachineOk_any n N.s D.T1 D.d1 u (h.2.1.below hu)
 have M2 : Hid (∀ u, Below w.heap.size w u → Calls Tryz.prog 74 #[N.o.val] u fun e w' => e = .returned (.bool (machOk D.T2 D.d2)) ∧ Below u.heap.size u w') := fun u hu => implMachineOk_any n N.o D.T2 D.d2 u (h.2.2.2.2.2.below hu)
 clear h hs
 unfold nodeOkB
 generalize hlo : logOkB N.lb N.lt D.l = lo at *
 clear hlo
 generalize machOk D.T1 D.d1 = m1 at *
 generalize machOk D.T2 D.d2 = m2 at *
 generalize allIn D.nx 1 (lastN N.lb D.l + 1) = ax at *
 generalize allIn D.mt 0 (lastN N.lb D.l) = ay at *
 generalize prevT N.lt D.l D.l.length = pt at *
 generalize lastN N.lb D.l = la at *
 generalize D.vs.length = nB at *
 generalize D.nx.length = nN at *
 generalize D.mt.length = nM at *
 obtain ⟨id, te, vo, lb, lt, lv, ⟨⟨sl, sp, sc, sk, sb⟩, sv⟩, ro, vv, nv, mv, cm, ⟨⟨ol, op, oc, ok, ob⟩, ov⟩⟩ := N
 simp only [NodV.val, MacV.val] at T1 T2 T3 M1 M2
 simp only
 generalize hq1 : (lo && decide (pt ≤ te)) = p1 at *
 generalize hq2 : (decide ((nB : Int) = size) && (decide ((nN : Int) = size) && (decide ((nM : Int) = size) && (ax && (ay && inB cm lb la))))) = p2 at *
 have HQ1 := hid9 hq1
 have HQ2 := hid9 hq2
 clear hq1 hq2
 have PP : Hid (nodeP id te vo ro cm lb size lo m1 m2 pt la nB nN nM ax ay = (inB size 1 5 && (inB id 0 (size - 1) && ((inB te 0 100000 && p1) && (inB vo (-1) (size - 1) && (inB ro 0 2 && (p2 && (m1 && m2)))))))) := by
  show _ = _
  rw [← HQ1.out, ← HQ2.out]
  unfold nodeP
  generalize inB size 1 5 = a1
  generalize inB id 0 (size - 1) = a2
  generalize inB te 0 100000 = a3
  generalize inB vo (-1) (size - 1) = a4
  generalize inB ro 0 2 = a5
  generalize decide (pt ≤ te) = a6
  generalize decide ((nB : Int) = size) = a7
  generalize decide ((nN : Int) = size) = a8
  generalize decide ((nM : Int) = size) = a9
  generalize inB cm lb la = a10
  cases a1 <;> cases a2 <;> cases a3 <;> cases a4 <;> cases a5 <;> cases a6 <;> simp only [Bool.false_and, Bool.and_false, Bool.true_and, Bool.and_true]
  cases lo <;> cases m1 <;> cases m2 <;> cases ax <;> cases ay <;> cases a7 <;> cases a8 <;> cases a9 <;> cases a10 <;> rfl
 generalize hnp : nodeP id te vo ro cm lb size lo m1 m2 pt la nB nN nM ax ay = np at *
 clear hnp
 have LO : Hid (p1 = true → lo = true) := fun h => by have := HQ1.out; rw [h] at this; cases lo <;> simp at this ⊢
 clear HQ1 HQ2
 have HI : Hid ((Tryz.prog.info? 50).map (·.size) = some (List.length ([.int .i64 id, .int .i64 te, .int .i64 vo, .int .i64 lb, .int .i64 lt, lv, .bool sl, sp, sc, sk, sb, sv, .int .i64 ro, vv, nv, mv, .int .i64 cm, .bool ol, op, oc, ok, ob, ov] : List Value))) := (show (Tryz.prog.info? 50).map (·.size) = some 23 by kernel_rfl)
 have B1 : Hid (Below w.heap.size w (w.alloc (.cells #[.int .i64 id, .int .i64 te, .int .i64 vo, .int .i64 lb, .int .i64 lt, lv, .bool sl, sp, sc, sk, sb, sv, .int .i64 ro, vv, nv, mv, .int .i64 cm, .bool ol, op, oc, ok, ob, ov] 50))) := bel_nw _ _
 have KE : Hid (∀ u, Below (w.alloc (.cells #[.int .i64 id, .int .i64 te, .int .i64 vo, .int .i64 lb, .int .i64 lt, lv, .bool sl, sp, sc, sk, sb, sv, .int .i64 ro, vv, nv, mv, .int .i64 cm, .bool ol, op, oc, ok, ob, ov] 50)).heap.size (w.alloc (.cells #[.int .i64 id, .int .i64 te, .int .i64 vo, .int .i64 lb, .int .i64 lt, lv, .bool sl, sp, sc, sk, sb, sv, .int .i64 ro, vv, nv, mv, .int .i64 cm, .bool ol, op, oc, ok, ob, ov] 50)) u → (fun u => World.rangeAt u w.heap.size 0 ([.int .i64 id, .int .i64 te, .int .i64 vo, .int .i64 lb, .int .i64 lt, lv, .bool sl, sp, sc, sk, sb, sv, .int .i64 ro, vv, nv, mv, .int .i64 cm, .bool ol, op, oc, ok, ob, ov] : List Value) ∧ u.cell? ⟨w.heap.size, 0, none⟩ = some (.int .i64 id) ∧ u.cell? ⟨w.heap.size, 2, none⟩ = some (.int .i64 vo) ∧ u.cell? ⟨w.heap.size, 6, none⟩ = some (.bool sl) ∧ u.cell? ⟨w.heap.size, 7, none⟩ = some (sp) ∧ u.cell? ⟨w.heap.size, 8, none⟩ = some (sc) ∧ u.cell? ⟨w.heap.size, 9, none⟩ = some (sk) ∧ u.cell? ⟨w.heap.size, 10, none⟩ = some (sb) ∧ u.cell? ⟨w.heap.size, 11, none⟩ = some (sv) ∧ u.cell? ⟨w.heap.size, 17, none⟩ = some (.bool ol) ∧ u.cell? ⟨w.heap.size, 18, none⟩ = some (op) ∧ u.cell? ⟨w.heap.size, 19, none⟩ = some (oc) ∧ u.cell? ⟨w.heap.size, 20, none⟩ = some (ok) ∧ u.cell? ⟨w.heap.size, 21, none⟩ = some (ob) ∧ u.cell? ⟨w.heap.size, 22, none⟩ = some (ov)) u) := fun u hu => by
  have N1 := (MBox.start 50 w #[.int .i64 id, .int .i64 te, .int .i64 vo, .int .i64 lb, .int .i64 lt, lv, .bool sl, sp, sc, sk, sb, sv, .int .i64 ro, vv, nv, mv, .int .i64 cm, .bool ol, op, oc, ok, ob, ov]).step hu
  have c := N1.cells
  exact ⟨range_of N1, c 0, c 2, c 6, c 7, c 8, c 9, c 10, c 11, c 17, c 18, c 19, c 20, c 21, c 22⟩
 show Calls Tryz.prog 30 #[.agg #[.int .i64 id, .int .i64 te, .int .i64 vo, .int .i64 lb, .int .i64 lt, lv, .bool sl, sp, sc, sk, sb, sv, .int .i64 ro, vv, nv, mv, .int .i64 cm, .bool ol, op, oc, ok, ob, ov], .int .i64 size] w _
 go_enter Tryz.func30, Tryz.ntmps30
 go_upto_region 1 with fail
 generalize w.alloc (.cells #[.int .i64 id, .int .i64 te, .int .i64 vo, .int .i64 lb, .int .i64 lt, lv, .bool sl, sp, sc, sk, sb, sv, .int .i64 ro, vv, nv, mv, .int .i64 cm, .bool ol, op, oc, ok, ob, ov] 50) = W at *
 generalize ([.int .i64 id, .int .i64 te, .int .i64 vo, .int .i64 lb, .int .i64 lt, lv, .bool sl, sp, sc, sk, sb, sv, .int .i64 ro, vv, nv, mv, .int .i64 cm, .bool ol, op, oc, ok, ob, ov] : List Value) = cs at *
 have SL : Hid (Below W.heap.size W W) := Below.refl _ _
 obtain ⟨rg, k0, k2, k6, k7, k8, k9, k10, k11, k17, k18, k19, k20, k21, k22⟩ := KE.out _ SL.out
 go_wp2_with (refine wpList_load_g (by rfl) 50 _ rfl w.heap.size 0 rfl cs _ rg Tryz.underlying50 rfl HI.out ?_)
 refine (sizeOk_any _ _).mono ?_
 rintro e w1 ⟨rfl, hw1⟩
 subst hw1
 cases h1 : inB size 1 5
 ·go_wp2
  go_ret
  exact ⟨ret_bool (by rw [PP.out, h1]; rfl), B1.out⟩
 have hz := inB_iff.1 h1
 go_wp2_with (refine wpList_load_g (by rfl) 50 _ rfl w.heap.size 0 rfl cs _ rg Tryz.underlying50 rfl HI.out ?_)
 refine (isOneOf_any _ _ _).mono ?_
 rintro e w2 ⟨rfl, hw2⟩
 subst hw2
 cases h2 : inB id 0 (size - 1)
 ·go_wp2
  go_ret
  exact ⟨ret_bool (by rw [PP.out, h1, h2]; rfl), B1.out⟩
 go_wp2_with (refine wpList_load_g (by rfl) 50 _ rfl w.heap.size 0 rfl cs _ rg Tryz.underlying50 rfl HI.out ?_)
 refine (T1.out _ B1.out).mono ?_
 rintro e w3 ⟨rfl, b3⟩
 replace B1 := hid9 (Below.and B1.out b3)
 replace SL := hid9 (Below.and SL.out b3)
 clear b3 rg k0 k2 k6 k7 k8 k9 k10 k11 k17 k18 k19 k20 k21 k22
 obtain ⟨rg, k0, k2, k6, k7, k8, k9, k10, k11, k17, k18, k19, k20, k21, k22⟩ := KE.out _ SL.out
 cases h3 : (inB te 0 100000 && p1)
 ·go_wp2
  go_ret
  exact ⟨ret_bool (by rw [PP.out, h1, h2, h3]; rfl), B1.out⟩
 have hlo := LO.out (by rw [Bool.and_eq_true] at h3; exact h3.2)
 have T4 := hid9 (T3.out w3 B1.out hlo)
 go_wp2_with (refine wpList_load_g (by rfl) 50 _ rfl w.heap.size 0 rfl cs _ rg Tryz.underlying50 rfl HI.out ?_)
 refine (voteOk_any _ _ _ hz.1).mono ?_
 rintro e w4 ⟨rfl, hw4⟩
 subst hw4
 cases h4 : inB vo (-1) (size - 1)
 ·go_wp2
  go_ret
  exact ⟨ret_bool (by rw [PP.out, h1, h2, h3, h4]; rfl), B1.out⟩
 go_wp2_with (refine wpList_load_g (by rfl) 50 _ rfl w.heap.size 0 rfl cs _ rg Tryz.underlying50 rfl HI.out ?_)
 refine (T2.out _).mono ?_
 rintro e w5 ⟨rfl, b5⟩
 replace B1 := hid9 (Below.and B1.out b5)
 replace SL := hid9 (Below.and SL.out b5)
 clear b5 rg k0 k2 k6 k7 k8 k9 k10 k11 k17 k18 k19 k20 k21 k22
 obtain ⟨rg, k0, k2, k6, k7, k8, k9, k10, k11, k17, k18, k19, k20, k21, k22⟩ := KE.out _ SL.out
 cases h5 : inB ro 0 2
 ·go_wp2
  go_ret
  exact ⟨ret_bool (by rw [PP.out, h1, h2, h3, h4, h5]; rfl), B1.out⟩
 go_wp2_with (refine wpList_load_g (by rfl) 50 _ rfl w.heap.size 0 rfl cs _ rg Tryz.underlying50 rfl HI.out ?_)
 refine (T3.out _ B1.out hlo).mono ?_
 rintro e w6 ⟨rfl, b6⟩
 replace B1 := hid9 (Below.and B1.out b6)
 replace SL := hid9 (Below.and SL.out b6)
 clear b6 rg k0 k2 k6 k7 k8 k9 k10 k11 k17 k18 k19 k20 k21 k22
 obtain ⟨rg, k0, k2, k6, k7, k8, k9, k10, k11, k17, k18, k19, k20, k21, k22⟩ := KE.out _ SL.out
 cases h6 : p2
 ·go_wp2
  go_ret
  exact ⟨ret_bool (by rw [PP.out, h1, h2, h3, h4, h5, h6]; rfl), B1.out⟩
 go_wp2_with (refine wpList_load_g (by rfl) 50 _ rfl w.heap.size 0 rfl cs _ rg Tryz.underlying50 rfl HI.out ?_)
 refine (M1.out _ B1.out).mono ?_
 rintro e w7 ⟨rfl, b7⟩
 replace B1 := hid9 (Below.and B1.out b7)
 replace SL := hid9 (Below.and SL.out b7)
 clear b7 rg k0 k2 k6 k7 k8 k9 k10 k11 k17 k18 k19 k20 k21 k22
 obtain ⟨rg, k0, k2, k6, k7, k8, k9, k10, k11, k17, k18, k19, k20, k21, k22⟩ := KE.out _ SL.out
 cases h7 : m1
 ·go_wp2
  go_ret
  exact ⟨ret_bool (by rw [PP.out, h1, h2, h3, h4, h5, h6, h7]; rfl), B1.out⟩
 go_wp2_with (refine wpList_load_g (by rfl) 50 _ rfl w.heap.size 0 rfl cs _ rg Tryz.underlying50 rfl HI.out ?_)
 refine (M2.out _ B1.out).mono ?_
 rintro e w8 ⟨rfl, b8⟩
 replace B1 := hid9 (Below.and B1.out b8)
 replace SL := hid9 (Below.and SL.out b8)
 clear b8 rg k0 k2 k6 k7 k8 k9 k10 k11 k17 k18 k19 k20 k21 k22
 obtain ⟨rg, k0, k2, k6, k7, k8, k9, k10, k11, k17, k18, k19, k20, k21, k22⟩ := KE.out _ SL.out
 go_wp2
 go_ret
 exact ⟨ret_bool (by rw [PP.out, h1, h2, h3, h4, h5, h6, h7]; simp), B1.out⟩
end
section
open Go.RowKit

theorem NodAt.cells {n : Nat} {w : World} {M : NodV} {D : Nd} (h : NodAt n w M D) : ∃ ms : List Value, M.val = .agg ms.toArray ∧ ms.length = 23 ∧ ms.toArray.all (·.oneCell') = true := by
 obtain ⟨id, te, vo, lb, lt, lv, ⟨⟨sl, sp, sc, sk, sb⟩, sv⟩, ro, vv, nv, mv, cm, ⟨⟨ol, op, oc, ok, ob⟩, ov⟩⟩ := M
 obtain ⟨q1, q2, q3, q4, q5, q6⟩ := h
 obtain ⟨x0, e0⟩ := q1.sl
 obtain ⟨x6, e6⟩ := q3.sl
 obtain ⟨x7, e7⟩ := q4.sl
 obtain ⟨x8, e8⟩ := q5.sl
 obtain ⟨b1, y1, y2, y3, y4, y5, e1⟩ := q2.sl
 obtain ⟨b2, z1, z2, z3, z4, z5, e2⟩ := q6.sl
 simp only [MacV.mk.injEq, TV.mk.injEq] at e0 e1 e2 e6 e7 e8
 obtain ⟨⟨f0, f1, f2, f3, f4⟩, f5⟩ := e1
 obtain ⟨⟨g0, g1, g2, g3, g4⟩, g5⟩ := e2
 subst e0 e6 e7 e8 f0 f1 f2 f3 f4 f5 g0 g1 g2 g3 g4 g5
 exact ⟨_, rfl, rfl, by simp [Value.oneCell']⟩
theorem nodeOkB_like {N M : NodV} (D : Nd) (size : Int) (h : N.like M) : nodeOkB M D size = nodeOkB N D size := by
 obtain ⟨e1, e2, e3, e4, e5, e6, e7⟩ := h
 unfold nodeOkB
 rw [e1, e2, e3, e4, e5, e6, e7]
theorem NodV.like.both {N M M' : NodV} (h : N.like M) (h' : N.like M') : M.like M' := by
 obtain ⟨a1, a2, a3, a4, a5, a6, a7⟩ := h
 obtain ⟨b1, b2, b3, b4, b5, b6, b7⟩ := h'
 exact ⟨a1.symm.trans b1, a2.symm.trans b2, a3.symm.trans b3, a4.symm.trans b4, a5.symm.trans b5, a6.symm.trans b6, a7.symm.trans b7⟩
theorem newAll {w : World} {t : TypeId} {A : Array Value} {vs : List Value} (hn : A.size = vs.length) : Below w.heap.size w ((w.alloc (.cells A t)).setCells w.heap.size 0 vs) ∧ ((w.alloc (.cells A t)).setCells w.heap.size 0 vs).heap[w.heap.size]? = some (.cells vs.toArray t (0, 0)) :=
 ⟨(bel_nw w (.cells A t)).trans ((Chg.setCells (F := fun g => g = w.heap.size) (g := w.heap.size) (fun _ => rfl) vs 0 _ (Chg.refl _ _)).below (fun g _ hg => by omega) (by simp)), setAll_at (heap_alloc_new w _) vs hn⟩

theorem run_toN (args : Array Value) (w : World) : (callFunc 7 args).run Tryz.prog w = .ok (.enter 7 args) w := by go_simp
theorem run_eqN (args : Array Value) (w : World) : (callFunc 9 args).run Tryz.prog w = .ok (.enter 9 args) w := by go_simp
end
section
open Go.RowKit

def zT : Tr := ⟨false, [], [], [], []⟩
def zM : MacV := ⟨⟨false, .slice none 0 0, .slice none 0 0, .slice none 0 0, .slice none 0 0⟩, .slice none 0 0⟩
theorem wrB_none {g n c : Nat} (h : wrB (.slice none n c) g) : False := by
 obtain ⟨k, c, e, _⟩ := h
 cases e
theorem zM_own (n : Nat) (w : World) (F : Nat → Prop) : MacD (n + 1) w F zM zT [] := by
 refine ⟨⟨rfl, OwnE.nil _ _ _ _, OwnE.nil _ _ _ _, OwnE.nil _ _ _ _, fun g hg => ?_, [], fun _ _ => False, rfl, OwnE.nil _ _ _ _, fun i hi => ?_, fun i g hi => ?_, fun i j g _ hj => ?_⟩, OwnE.nil _ _ _ _, fun g hg => (wrB_none hg).elim⟩
 ·rcases hg with hg | hg | hg | hg <;> exact (wrB_none hg).elim
 ·simp at hi
 ·simp at hi
 ·simp at hj

def feedB (N : NodV) (D : Nd) (size ti : Int) : Bool := nodeOkB N D size && (decide (N.ro = 2) && (decide (¬ ti = N.id) && inB ti 0 (size - 1)))
def feedX (D : Nd) (ti : Int) : Int := iAt D.nx ti.toNat
def rpSn (N : NodV) (ti : Int) (ev : Value) (m : MacV) : RpcV := ⟨5, N.id, ti, N.te, N.lb, N.lt, 0, false, ev, m⟩
def rpPu (N : NodV) (D : Nd) (ti : Int) (ev : Value) (m : MacV) : RpcV := ⟨3, N.id, ti, N.te, feedX D ti - 1, termB N.lb N.lt D.l (feedX D ti - 1), N.cm, false, ev, m⟩
def rpNo : RpcV := ⟨0, 0, 0, 0, 0, 0, 0, false, .slice none 0 0, zM⟩
def feedV (N : NodV) (D : Nd) (size ti : Int) : RpcV := if feedB N D size ti = true then (if feedX D ti ≤ N.lb then rpSn N ti (.slice none 0 0) zM else rpPu N D ti (.slice none 0 0) zM) else rpNo
def feedD (N : NodV) (D : Nd) (size ti : Int) : Rd := if feedB N D size ti = true then (if feedX D ti ≤ N.lb then ⟨[], D.T1, D.d1⟩ else ⟨entsB N.lb D.l (feedX D ti), zT, []⟩) else ⟨[], zT, []⟩
theorem feedB_like {N M : NodV} (D : Nd) (size ti : Int) (h : N.like M) : feedB M D size ti = feedB N D size ti := by
 unfold feedB
 rw [nodeOkB_like D size h, h.1, h.2.2.2.2.2.1]
theorem feedV_like {N M : NodV} (D : Nd) (size ti : Int) (h : N.like M) : feedV M D size ti = feedV N D size ti := by
 unfold feedV
 rw [feedB_like D size ti h]
 obtain ⟨h1, h2, h3, h4, h5, h6, h7⟩ := h
 unfold rpSn rpPu
 rw [h1, h2, h4, h5, h7]
theorem feedD_like {N M : NodV} (D : Nd) (size ti : Int) (h : N.like M) : feedD M D size ti = feedD N D size ti := by
 unfold feedD
 rw [feedB_like D size ti h]
 obtain ⟨h1, h2, h3, h4, h5, h6, h7⟩ := h
 rw [h4]
theorem RpcV.like.both {A R S : RpcV} (h : A.like R) (k : A.like S) : R.like S := by
 obtain ⟨a1, a2, a3, a4, a5, a6, a7, a8⟩ := h
 obtain ⟨b1, b2, b3, b4, b5, b6, b7, b8⟩ := k
 exact ⟨a1.symm.trans b1, a2.symm.trans b2, a3.symm.trans b3, a4.symm.trans b4, a5.symm.trans b5, a6.symm.trans b6, a7.symm.trans b7, a8.symm.trans b8⟩

def RpcDh (n : Nat) (w : World) (lo hi : Nat) (R : RpcV) (D : Rd) : Prop :=
 ∃ c1 c2 : Nat, lo ≤ c1 ∧ c1 ≤ c2 ∧ c2 ≤ hi ∧ hi ≤ w.heap.size ∧ OwnI w lo c1 113 6 R.ev D.l.length (flatE D.l) ∧ MacI n w c1 c2 R.s D.T D.d
theorem RpcDh.at {n : Nat} {w : World} {lo hi : Nat} {R : RpcV} {D : Rd} (h : RpcDh n w lo hi R D) : RpcAt n w R D := by
 obtain ⟨c1, c2, h1, h2, h3, h4, o1, o2⟩ := h
 exact ⟨o1.row, MacD.at o2⟩
theorem RpcDh.chg {n : Nat} {w w' : World} {P : Nat → Prop} {lo hi : Nat} {R : RpcV} {D : Rd} (h : RpcDh n w lo hi R D) (hc : Chg P w w') (hP : ∀ g, lo ≤ g → g < hi → ¬ P g) : RpcDh n w' lo hi R D := by
 obtain ⟨c1, c2, h1, h2, h3, h4, o1, o2⟩ := h
 exact ⟨c1, c2, h1, h2, h3, Nat.le_trans h4 hc.size, o1.chg hc (fun g a b => hP g (by omega) (by omega)), o2.chg hc (fun g a b => hP g (by omega) (by omega))⟩
theorem RpcDh.below {n : Nat} {w w' : World} {lo hi : Nat} {R : RpcV} {D : Rd} (h : RpcDh n w lo hi R D) (hb : Below w.heap.size w w') : RpcDh n w' lo hi R D := h.chg (Chg.of_below (F := fun _ => False) hb) (fun _ _ _ e => e)
theorem RpcDh.up {n : Nat} {w : World} {lo lo' hi hi' : Nat} {R : RpcV} {D : Rd} (h : RpcDh n w lo hi R D) (h1 : lo' ≤ lo) (h2 : hi ≤ hi') (h3 : hi' ≤ w.heap.size) : RpcDh n w lo' hi' R D := by
 obtain ⟨c1, c2, k1, k2, k3, k4, o1, o2⟩ := h
 exact ⟨c1, c2, by omega, k2, by omega, h3, ⟨o1.1.mono h1, o1.2⟩, o2⟩
abbrev rpcArr (R : RpcV) : Array Value := #[.int .i64 R.kd, .int .i64 R.fr, .int .i64 R.tt, .int .i64 R.te, .int .i64 R.ix, .int .i64 R.it, .int .i64 R.cm, .bool R.ok, R.ev, .bool R.s.x.lf, R.s.x.p, R.s.x.c, R.s.x.k, R.s.x.b, R.s.v]
theorem RpcAt.cells {n : Nat} {w : World} {R : RpcV} {D : Rd} (h : RpcAt n w R D) : ∃ cs : List Value, R.val = .agg cs.toArray ∧ cs.length = 15 ∧ cs.toArray.all (·.oneCell') = true := by
 obtain ⟨kd, fr, tt, te, ix, it, cm, ok, ev, ⟨⟨sl, sp, sc, sk, sb⟩, sv⟩⟩ := R
 obtain ⟨h1, h2⟩ := h
 obtain ⟨a, c, hv, _⟩ := h1.len
 obtain ⟨a1, a2, a3, a4, a5, c1, c2, c3, c4, c5, hm⟩ := h2.shape
 simp only at hv hm
 subst hv
 injection hm with e1 e2
 injection e1 with q1 q2 q3 q4 q5
 subst q1 q2 q3 q4 q5 e2
 exact ⟨[_, _, _, _, _, _, _, _, _, _, _, _, _, _, _], rfl, rfl, by simp [Value.oneCell']⟩
end
section
open Go.RowKit

theorem run_copy_rowN {P : Program} (w : World) (dT sT ty elem : TypeId) (g o dLen dCap : Nat) (a : Addr) (sLen sCap : Nat) (cur : Array Value) (t : TypeId) (cs : List Value) (size m : Nat)
  (hu : P.underlying dT = some (.slice elem)) (hs : (P.info? elem).map (·.size) = some size)
  (hg : w.heap[g]? = some (.cells cur t (0, 0))) (hm : Nat.min sLen dLen = m) (hn : cs.length = m * size)
  (hsrc : ∀ j v, cs[j]? = some v → w.cell? (a.add j) = some v) (hfit : o + cs.length ≤ cur.size) (h1 : ∀ v ∈ cs, v.oneCell' = true) :
  (Builtin.copy_ #[dT, sT] ty #[.slice (some ⟨g, o, none⟩) dLen dCap, .slice (some a) sLen sCap]).run P w =
   .ok (goInt m) (w.setRow g (cur.toList.take o ++ cs ++ cur.toList.drop (o + cs.length)).toArray) := by
 have hl := run_loadCells_list (P := P) w a cs hsrc
 have hst := run_storeCells_at P g o t cs 0 cur w hg (by simpa using hfit) h1
 cases hq : P.info? elem with
 | none => simp [hq] at hs
 | some i =>
  have hi : i.size = size := by simpa [hq] using hs
  simp [Builtin.copy_, run_underlying hu, Builtin.lenOf, Builtin.firstCells, sizeOf, typeInfo, hq, hi, hm, ← hn, hl, hst]

theorem run_copy_noneN {P : Program} (w : World) (dT sT ty elem : TypeId) (d a : Option Addr) (dLen dCap sLen sCap : Nat) (hu : P.underlying dT = some (.slice elem)) (hs : ((P.info? elem).map (·.size)).isSome = true) (hn : Nat.min sLen dLen = 0) :
  (Builtin.copy_ #[dT, sT] ty #[.slice d dLen dCap, .slice a sLen sCap]).run P w = .ok (goInt 0) w := by
 cases hq : P.info? elem with
 | none => simp [hq] at hs
 | some i =>
  have hl : ∀ (x : Addr), (loadCells x 0).run P w = .ok #[] w := fun x => by simpa using run_loadCells_list (P := P) w x [] (by simp)
  cases d <;> cases a <;> simp [Builtin.copy_, run_underlying hu, Builtin.lenOf, Builtin.firstCells, sizeOf, typeInfo, hq, hn, storeCells, hl]

theorem wpList_copy_N {P : Program} {w : World} {ops : Array Oper} {rest : List Oper} {o : Oper} {a : Act} {Q : Exit → Act → World → Prop} (hgd : o.guard = none) (d s : Operand) (dT sT : TypeId)
  (ho : o.op = .call { callee := .builtin .copy, args := #[d, s], argTypes := #[dT, sT] }) (elem : TypeId) (size m : Nat) (hu : P.underlying dT = some (.slice elem)) (hsz : (P.info? elem).map (·.size) = some size)
  (dp sp : Option Addr) (dLen dCap sLen sCap : Nat) (hd : a.eval d = .slice dp dLen dCap) (hs : a.eval s = .slice sp sLen sCap)
  (g off : Nat) (cur : List Value) (t : TypeId) (hg : w.heap[g]? = some (.cells cur.toArray t (0, 0))) (cs : List Value) (hm : Nat.min sLen dLen = m) (hn : cs.length = m * size)
  (hpos : 0 < m → dp = some ⟨g, off, none⟩ ∧ ∃ ad, sp = some ad ∧ ∀ j v, cs[j]? = some v → w.cell? (ad.add j) = some v)
  (hfit : off + cs.length ≤ cur.length) (h1 : ∀ v ∈ cs, v.oneCell' = true) (B : Nat) (w0 : World) (hb : Below B w0 w) (hBg : B ≤ g)
  (h : ∀ w', Hid (w'.heap[g]? = some (.cells (splice cur off cs).toArray t (0, 0))) → Below B w0 w' → wpList P ops Q rest (a.put o.dst (goInt m)) w') :
  wpList P ops Q (o :: rest) a w := by
 refine wpList_plain hgd fun K hK => ?_
 by_cases h0 : m = 0
 ·subst h0
  obtain rfl : cs = [] := List.eq_nil_of_length_eq_zero (by omega)
  have hrun := run_copy_noneN (P := P) w dT sT o.type elem dp sp dLen dCap sLen sCap hu (by rw [hsz]; rfl) hm
  unfold Oper.wp
  simp [execOp, ho, resolve, invoke, builtin, hd, hs, hrun, Result.andThen]
  exact hK _ _ (h w (show _ = _ by simpa [splice] using hg) hb)
 ·obtain ⟨rfl, ad, rfl, hsrc⟩ := hpos (by omega)
  have hrun := run_copy_rowN (P := P) w dT sT o.type elem g off dLen dCap ad sLen sCap cur.toArray t cs size m hu hsz hg hm hn hsrc (by simpa using hfit) h1
  unfold Oper.wp
  simp [execOp, ho, resolve, invoke, builtin, hd, hs, hrun, Result.andThen]
  exact hK _ _ (h _ (show _ = _ by simpa [splice] using setRow_heap w g _ _ t _ hg) (below_setRow hb hBg _))
end
end Go.Proofs.YtmdajbbpigbdcaaGreat
