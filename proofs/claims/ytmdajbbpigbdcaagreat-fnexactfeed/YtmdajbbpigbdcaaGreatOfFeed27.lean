/-
  What NodeOk tells, as a plain function; the model's NodeOk.
  MachineOk of the program.
  LogOk of the program.
-/
import Derived.Test.YtmdajbbpigbdcaaGreatOfFeed6
import Derived.Test.YtmdajbbpigbdcaaGreatOfFeed26
import Derived.Test.YtmdajbbpigbdcaaGreatOfFeed25
import Derived.Test.YtmdajbbpigbdcaaGreatOfFeed5
import Derived.Test.YtmdajbbpigbdcaaGreatOfFeed11
namespace Go.Proofs.YtmdajbbpigbdcaaGreat
set_option maxRecDepth 100000
set_option maxHeartbeats 8000000
section
open Go.RowKit

def allIn (l : List Int) (lo hi : Int) : Bool := (List.range l.length).all fun i => inB (iAt l i) lo hi
theorem allIn_true {l : List Int} {lo hi : Int} (h : ∀ i, i < l.length → inB (iAt l i) lo hi = true) : allIn l lo hi = true := by
 simp only [allIn, List.all_eq_true, List.mem_range]
 exact h
theorem allIn_false {l : List Int} {lo hi : Int} {i : Nat} (hi0 : i < l.length) (h : inB (iAt l i) lo hi = false) : allIn l lo hi = false := by
 rw [Bool.eq_false_iff]
 intro k
 simp only [allIn, List.all_eq_true, List.mem_range] at k
 rw [k i hi0] at h
 cases h
def nodeP (id te vo ro cm lb size : Int) (lo m1 m2 : Bool) (pt la : Int) (nB nN nM : Nat) (ax am : Bool) : Bool :=
 inB size 1 5 && (inB id 0 (size - 1) && (inB te 0 100000 && (inB vo (-1) (size - 1) && (lo && (m1 && (m2 && (inB ro 0 2 && (decide (pt ≤ te) && (decide ((nB : Int) = size) && (decide ((nN : Int) = size) && (decide ((nM : Int) = size) && (inB cm lb la && (ax && am)))))))))))))
def nodeOkB (N : NodV) (D : Nd) (size : Int) : Bool :=
 nodeP N.id N.te N.vo N.ro N.cm N.lb size (logOkB N.lb N.lt D.l) (machOk D.T1 D.d1) (machOk D.T2 D.d2) (prevT N.lt D.l D.l.length) (lastN N.lb D.l) D.vs.length D.nx.length D.mt.length (allIn D.nx 1 (lastN N.lb D.l + 1)) (allIn D.mt 0 (lastN N.lb D.l))
theorem lastN_small {b bt : Int} {l : EL} (h : logOkB b bt l = true) : 0 ≤ lastN b l ∧ lastN b l ≤ 100000 := by
 simp only [logOkB, Bool.and_eq_true, decide_eq_true_eq] at h
 have h1 := inB_iff.1 h.1
 unfold lastN
 split
 ·exact ⟨h1.1, h1.2⟩
 ·have := h.2.2.1
  unfold wrap64
  omega

theorem specNodeOk_any (n : Nat) (N : NodV) (D : Nd) (size : Int) (w : World) (h : NodAt n w N D) (hs : D.small n) :
  Calls Tryz.prog 22 #[N.val, .int .i64 size] w fun e w' => e = .returned (.bool (nodeOkB N D size)) ∧ Below w.heap.size w w' := by
 obtain ⟨id, te, vo, lb, lt, lv, ⟨⟨sl, sp, sc, sk, sb⟩, sv⟩, ro, vv, nv, mv, cm, ⟨⟨ol, op, oc, ok, ob⟩, ov⟩⟩ := N
 obtain ⟨q1, q2, q3, q4, q5, q6⟩ := h
 obtain ⟨av, cv, hvv, hlv⟩ := q3.len
 simp only at hvv
 obtain ⟨an, bN, oN, cn, hnv, hcn, hmn, han, hxn⟩ := q4.ints
 obtain ⟨am, bM, oM, cq, hmv, hcm, hmm, ham, hxm⟩ := q5.ints
 simp only at hnv hmv
 subst hvv hnv hmv
 unfold maxLen at hmn hmm
 obtain ⟨hs1, hs2, hs3, hs4, hs5, hs6, hs7, hs8⟩ := hs
 have S1 : Hid (∀ u, Below w.heap.size w u → Calls Tryz.prog 57 #[lgV lb lt lv] u fun e w' => e = .returned (.bool (logOkB lb lt D.l)) ∧ Below u.heap.size u w') := fun u hu => specLogOk_any lb lt lv D.l u (q1.below hu) (by omega)
 have S2 : Hid (∀ u, Below w.heap.size w u → Calls Tryz.prog 58 #[.agg #[.bool sl, sp, sc, sk, sb, sv]] u fun e w' => e = .returned (.bool (machOk D.T1 D.d1)) ∧ Below u.heap.size u w') := fun u hu => specMachineOk_any n ⟨⟨sl, sp, sc, sk, sb⟩, sv⟩ D.T1 D.d1 u (q2.below hu) (by omega)
 have S3 : Hid (∀ u, Below w.heap.size w u → Calls Tryz.prog 58 #[.agg #[.bool ol, op, oc, ok, ob, ov]] u fun e w' => e = .returned (.bool (machOk D.T2 D.d2)) ∧ Below u.heap.size u w') := fun u hu => specMachineOk_any n ⟨⟨ol, op, oc, ok, ob⟩, ov⟩ D.T2 D.d2 u (q6.below hu) (by omega)
 have S4 : Hid (∀ u, Below w.heap.size w u → Calls Tryz.prog 59 #[lgV lb lt lv] u fun e w' => e = .returned (.tuple #[.int .i64 (lastN lb D.l), .int .i64 (prevT lt D.l D.l.length)]) ∧ Below u.heap.size u w') := fun u hu => specLastOf_any lb lt lv D.l u (q1.below hu)
 have LS : Hid (logOkB lb lt D.l = true → 0 ≤ lastN lb D.l ∧ lastN lb D.l ≤ 100000) := lastN_small
 have RN : Hid (∀ i u, Below w.heap.size w u → i < D.nx.length → u.cell? ⟨bN, oN + i, none⟩ = some (.int .i64 (iAt D.nx i))) := fun i u hu hi => (hu.cell (cell_lt (hxn i hi))).trans (hxn i hi)
 have RM : Hid (∀ i u, Below w.heap.size w u → i < D.mt.length → u.cell? ⟨bM, oM + i, none⟩ = some (.int .i64 (iAt D.mt i))) := fun i u hu hi => (hu.cell (cell_lt (hxm i hi))).trans (hxm i hi)
 have AN : Hid (0 < D.nx.length → an = some ⟨bN, oN, none⟩) := han
 have AM : Hid (0 < D.mt.length → am = some ⟨bM, oM, none⟩) := ham
 have AX1 : Hid (∀ i, i < D.nx.length → inB (iAt D.nx i) 1 (lastN lb D.l + 1) = false → allIn D.nx 1 (lastN lb D.l + 1) = false) := fun i hi h => allIn_false hi h
 have AX2 : Hid ((∀ i, i < D.nx.length → inB (iAt D.nx i) 1 (lastN lb D.l + 1) = true) → allIn D.nx 1 (lastN lb D.l + 1) = true) := fun h => allIn_true h
 have AM1 : Hid (∀ i, i < D.mt.length → inB (iAt D.mt i) 0 (lastN lb D.l) = false → allIn D.mt 0 (lastN lb D.l) = false) := fun i hi h => allIn_false hi h
 have AM2 : Hid ((∀ i, i < D.mt.length → inB (iAt D.mt i) 0 (lastN lb D.l) = true) → allIn D.mt 0 (lastN lb D.l) = true) := fun h => allIn_true h
 clear q1 q2 q3 q4 q5 q6 hxn hxm han ham hs1 hs2 hs3 hs7 hs8
 unfold nodeOkB
 simp only
 generalize logOkB lb lt D.l = lo at *
 generalize machOk D.T1 D.d1 = m1 at *
 generalize machOk D.T2 D.d2 = m2 at *
 generalize prevT lt D.l D.l.length = pt at *
 generalize lastN lb D.l = la at *
 generalize allIn D.nx 1 (la + 1) = ax at *
 generalize allIn D.mt 0 la = ay at *
 generalize iAt D.nx = fN at *
 generalize iAt D.mt = fM at *
 generalize D.vs.length = nB at *
 generalize D.nx.length = nN at *
 generalize D.mt.length = nM at *
 have N1 : Hid (MBox 50 (w.alloc (.cells #[.int .i64 id, .int .i64 te, .int .i64 vo, .int .i64 lb, .int .i64 lt, lv, .bool sl, sp, sc, sk, sb, sv, .int .i64 ro, .slice av nB cv, .slice an nN cn, .slice am nM cq, .int .i64 cm, .bool ol, op, oc, ok, ob, ov] 50)) w.heap.size #[.int .i64 id, .int .i64 te, .int .i64 vo, .int .i64 lb, .int .i64 lt, lv, .bool sl, sp, sc, sk, sb, sv, .int .i64 ro, .slice av nB cv, .slice an nN cn, .slice am nM cq, .int .i64 cm, .bool ol, op, oc, ok, ob, ov]) := MBox.start _ w _
 have B1 : Hid (Below w.heap.size w (w.alloc (.cells #[.int .i64 id, .int .i64 te, .int .i64 vo, .int .i64 lb, .int .i64 lt, lv, .bool sl, sp, sc, sk, sb, sv, .int .i64 ro, .slice av nB cv, .slice an nN cn, .slice am nM cq, .int .i64 cm, .bool ol, op, oc, ok, ob, ov] 50))) := bel_nw _ _
 have c1 := N1.out.cells
 show Calls Tryz.prog 22 #[.agg #[.int .i64 id, .int .i64 te, .int .i64 vo, .int .i64 lb, .int .i64 lt, lv, .bool sl, sp, sc, sk, sb, sv, .int .i64 ro, .slice av nB cv, .slice an nN cn, .slice am nM cq, .int .i64 cm, .bool ol, op, oc, ok, ob, ov], .int .i64 size] w _
 go_enter Tryz.func22, Tryz.ntmps22
 go_wp2_with fail
 generalize w.alloc (.cells #[.int .i64 id, .int .i64 te, .int .i64 vo, .int .i64 lb, .int .i64 lt, lv, .bool sl, sp, sc, sk, sb, sv, .int .i64 ro, .slice av nB cv, .slice an nN cn, .slice am nM cq, .int .i64 cm, .bool ol, op, oc, ok, ob, ov] 50) = W at *
 refine (l1In_any _ _ _ _).mono ?_
 rintro e w1 ⟨rfl, hw1⟩
 subst hw1
 cases h1 : inB size 1 5
 ·go_wp2
  go_ret
  exact ⟨ret_bool (by simp [nodeP, h1]), B1.out⟩
 have hz := inB_iff.1 h1
 have hws : IntKind.i64.wrap (size - 1) = size - 1 := by rw [IntKind.wrap_i64]; omega
 go_wp2_with fail
 refine (l1In_any _ _ _ _).mono ?_
 rintro e w2 ⟨rfl, hw2⟩
 subst hw2
 cases h2 : inB id 0 (size - 1)
 ·go_wp2
  go_ret
  exact ⟨ret_bool (by simp [nodeP, h2]), B1.out⟩
 go_wp2_with fail
 refine (l1In_any _ _ _ _).mono ?_
 rintro e w3 ⟨rfl, hw3⟩
 subst hw3
 cases h3 : inB te 0 100000
 ·go_wp2
  go_ret
  exact ⟨ret_bool (by simp [nodeP, h3]), B1.out⟩
 go_wp2_with fail
 refine (l1In_any _ _ _ _).mono ?_
 rintro e w4 ⟨rfl, hw4⟩
 subst hw4
 cases h4 : inB vo (-1) (size - 1)
 ·go_wp2
  go_ret
  exact ⟨ret_bool (by simp [nodeP, h4]), B1.out⟩
 go_wp2_with fail
 refine (S1.out _ B1.out).mono ?_
 rintro e w5 ⟨rfl, b5⟩
 replace B1 : Hid (Below w.heap.size w w5) := Below.and B1.out b5
 replace N1 : Hid (MBox 50 w5 w.heap.size #[.int .i64 id, .int .i64 te, .int .i64 vo, .int .i64 lb, .int .i64 lt, lv, .bool sl, sp, sc, sk, sb, sv, .int .i64 ro, .slice av nB cv, .slice an nN cn, .slice am nM cq, .int .i64 cm, .bool ol, op, oc, ok, ob, ov]) := N1.out.step b5
 clear b5 c1
 have c1 := N1.out.cells
 cases h5 : lo
 ·go_wp2
  go_ret
  exact ⟨ret_bool (by simp [nodeP, h5]), B1.out⟩
 have hla := LS.out h5
 go_wp2_with fail
 refine (S2.out _ B1.out).mono ?_
 rintro e w6 ⟨rfl, b6⟩
 replace B1 : Hid (Below w.heap.size w w6) := Below.and B1.out b6
 replace N1 : Hid (MBox 50 w6 w.heap.size #[.int .i64 id, .int .i64 te, .int .i64 vo, .int .i64 lb, .int .i64 lt, lv, .bool sl, sp, sc, sk, sb, sv, .int .i64 ro, .slice av nB cv, .slice an nN cn, .slice am nM cq, .int .i64 cm, .bool ol, op, oc, ok, ob, ov]) := N1.out.step b6
 clear b6 c1
 have c1 := N1.out.cells
 cases h6 : m1
 ·go_wp2
  go_ret
  exact ⟨ret_bool (by simp [nodeP, h6]), B1.out⟩
 go_wp2_with fail
 refine (S3.out _ B1.out).mono ?_
 rintro e w7 ⟨rfl, b7⟩
 replace B1 : Hid (Below w.heap.size w w7) := Below.and B1.out b7
 replace N1 : Hid (MBox 50 w7 w.heap.size #[.int .i64 id, .int .i64 te, .int .i64 vo, .int .i64 lb, .int .i64 lt, lv, .bool sl, sp, sc, sk, sb, sv, .int .i64 ro, .slice av nB cv, .slice an nN cn, .slice am nM cq, .int .i64 cm, .bool ol, op, oc, ok, ob, ov]) := N1.out.step b7
 clear b7 c1
 have c1 := N1.out.cells
 cases h7 : m2
 ·go_wp2
  go_ret
  exact ⟨ret_bool (by simp [nodeP, h7]), B1.out⟩
 go_wp2_with fail
 refine (l1In_any _ _ _ _).mono ?_
 rintro e w8 ⟨rfl, hw8⟩
 subst hw8
 cases h8 : inB ro 0 2
 ·go_wp2
  go_ret
  exact ⟨ret_bool (by simp [nodeP, h8]), B1.out⟩
 go_wp2_with fail
 refine (S4.out _ B1.out).mono ?_
 rintro e w9 ⟨rfl, b9⟩
 replace B1 : Hid (Below w.heap.size w w9) := Below.and B1.out b9
 replace N1 : Hid (MBox 50 w9 w.heap.size #[.int .i64 id, .int .i64 te, .int .i64 vo, .int .i64 lb, .int .i64 lt, lv, .bool sl, sp, sc, sk, sb, sv, .int .i64 ro, .slice av nB cv, .slice an nN cn, .slice am nM cq, .int .i64 cm, .bool ol, op, oc, ok, ob, ov]) := N1.out.step b9
 clear b9 c1
 have c1 := N1.out.cells
 by_cases g1 : te < pt
 ·go_wp2
  go_ret
  exact ⟨ret_bool (by simp [nodeP] <;> intros <;> omega), B1.out⟩
 by_cases g2 : (nB : Int) = size
 rotate_left
 ·have g2b : ((nB : Int) != size) = true := by simpa using g2
  go_wp2
  go_ret
  exact ⟨ret_bool (by simp [nodeP, g2]), B1.out⟩
 subst g2
 by_cases g3 : nN = nB
 rotate_left
 ·have g3b : ((nN : Int) != (nB : Int)) = true := by simp; omega
  have g3c : ¬ ((nN : Int) = (nB : Int)) := by omega
  go_wp2
  go_ret
  exact ⟨ret_bool (by simp [nodeP, g3c] <;> intros <;> omega), B1.out⟩
 subst g3
 by_cases g4 : nM = nN
 rotate_left
 ·have g4b : ((nM : Int) != (nN : Int)) = true := by simp; omega
  go_wp2
  go_ret
  exact ⟨ret_bool (by simp [nodeP] <;> intros <;> omega), B1.out⟩
 subst g4
 go_wp2_with fail
 refine (l1In_any _ _ _ _).mono ?_
 rintro e w10 ⟨rfl, hw10⟩
 subst hw10
 cases h10 : inB cm lb la
 ·go_wp2
  go_ret
  exact ⟨ret_bool (by simp [nodeP, h10]), B1.out⟩
 have hal := AN.out (by omega)
 have haa := AM.out (by omega)
 subst hal haa
 have OK0 : Hid (nodeP id te vo ro cm lb (nM : Int) lo m1 m2 pt la nM nM nM ax ay = (ax && ay)) := by
  show _ = _
  unfold nodeP
  rw [h1, h2, h3, h4, h5, h6, h7, h8, h10, decide_eq_true (by omega : pt ≤ te)]
  simp
 have hwl : IntKind.i64.wrap (la + 1) = la + 1 := by rw [IntKind.wrap_i64]; omega
 clear h1 h2 h3 h4 h5 h6 h7 h8 h10 S1 S2 S3 S4 LS hws
 go_wp2
 go_loopw [7] (fun i wr => ∃ k : Nat, k ≤ nM ∧ i = .int .i64 k ∧ wr = w10 ∧ Hid (∀ j, j < k → inB (fN j) 1 (la + 1) = true ∧ inB (fM j) 0 la = true))
  (fun i _ => nM - (intOf i).toNat)
 case atStart => exact ⟨0, Nat.zero_le _, rfl, rfl, fun j hj => absurd hj (Nat.not_lt_zero _)⟩
 case round =>
  obtain ⟨k, hk, rfl, hwr, ALL⟩ := hrel
  subst hwr
  by_cases hlt : k < nM
  ·have d1 := RN.out k _ B1.out hlt
   have d2 := RM.out k _ B1.out hlt
   have hk0 : (0 : Int) ≤ (k : Int) := by omega
   have hk1 : (k : Int) < (nM : Int) := by omega
   cases x1 : inB (fN k) 1 (la + 1)
   ·have E1 : Hid (nodeP id te vo ro cm lb (nM : Int) lo m1 m2 pt la nM nM nM ax ay = false) := by show _ = _; rw [OK0.out, AX1.out k hlt x1]; rfl
    go_wp2_with fail
    refine (l1In_any _ _ _ _).mono ?_
    rintro e w1 ⟨rfl, hw1⟩
    subst hw1
    rw [x1]
    go_wp2
    go_ret
    exact ⟨ret_bool E1.out.symm, B1.out⟩
   ·go_wp2_with fail
    refine (l1In_any _ _ _ _).mono ?_
    rintro e w1 ⟨rfl, hw1⟩
    subst hw1
    rw [x1]
    go_wp2_with fail
    refine (l1In_any _ _ _ _).mono ?_
    rintro e w1 ⟨rfl, hw1⟩
    subst hw1
    cases x2 : inB (fM k) 0 la
    ·have E1 : Hid (nodeP id te vo ro cm lb (nM : Int) lo m1 m2 pt la nM nM nM ax ay = false) := by show _ = _; rw [OK0.out, AM1.out k hlt x2, Bool.and_false]
     go_wp2
     go_ret
     exact ⟨ret_bool E1.out.symm, B1.out⟩
    ·have A2 : Hid (∀ j, j < k + 1 → inB (fN j) 1 (la + 1) = true ∧ inB (fM j) 0 la = true) := fun j hj => by
      by_cases hjk : j < k
      ·exact ALL.out j hjk
      ·have : j = k := by omega
       subst this
       exact ⟨x1, x2⟩
     go_wp2
     go_roundw
     case rel => exact ⟨k + 1, by omega, by go_num, (by first | rfl | trivial), A2⟩
     case measure => simp [intOf]; omega
  ·have E1 : Hid (nodeP id te vo ro cm lb (nM : Int) lo m1 m2 pt la nM nM nM ax ay = true) := by
    show _ = _
    rw [OK0.out, AX2.out (fun i hi => (ALL.out i (by omega)).1), AM2.out (fun i hi => (ALL.out i (by omega)).2)]
    rfl
   go_wp2
   go_ret
   exact ⟨ret_bool E1.out.symm, B1.out⟩
end
section
open Go.RowKit

def dokB (l : DL) (k : Nat) : Bool := inB (dC l k) 1 9 && (inB (dS l k) 1 100000 && inB (dV l k) (-1000000000) 1000000000)
theorem doneAt_ok {l : DL} {k : Nat} (h : dokB l k = false) : doneAt l k = false := by
 unfold dokB at h; unfold doneAt
 cases h1 : inB (dC l k) 1 9 <;> cases h2 : inB (dS l k) 1 100000 <;> cases h3 : inB (dV l k) (-1000000000) 1000000000 <;> simp_all
theorem dok_parts {l : DL} {k : Nat} (h : dokB l k = true) : inB (dC l k) 1 9 = true ∧ inB (dS l k) 1 100000 = true ∧ inB (dV l k) (-1000000000) 1000000000 = true := by
 unfold dokB at h; simp only [Bool.and_eq_true] at h; exact ⟨h.1, h.2.1, h.2.2⟩

theorem doneOk_any (c s v : Int) (h : Bool) (w : World) :
  Calls Tryz.prog 104 #[.agg #[.int .i64 c, .int .i64 s, .int .i64 v, .bool h]] w fun e w' => e = .returned (.bool (inB c 1 9 && (inB s 1 100000 && inB v (-1000000000) 1000000000))) ∧ Below w.heap.size w w' := by
 go_enter Tryz.func104, Tryz.ntmps104
 go_wp2_with (first | (go_at_call 131; refine (clientOk_any _ _).mono ?_; rintro e w' ⟨rfl, rfl⟩) | (go_at_call 132; refine (seqOk_any _ _).mono ?_; rintro e w' ⟨rfl, rfl⟩) | (go_at_call 133; refine (valueOk_any _ _).mono ?_; rintro e w' ⟨rfl, rfl⟩))
 all_goals (go_ret; refine ⟨ret_bool ?_, (Below.refl _ _).alloc (Nat.le_refl _) _⟩)
 all_goals simp_all

theorem implMachineOk_any (n : Nat) (m : MacV) (T : Tr) (l : DL) (w : World) (h : MacAt n w m T l) :
  Calls Tryz.prog 74 #[m.val] w fun e w' => e = .returned (.bool (machOk T l)) ∧ Below w.heap.size w w' := by
 obtain ⟨a, b, off, cap, hv, hcap, hmax, ha, hx0, hx1, hx2, hx3⟩ := h.2.dones
 obtain ⟨⟨lf, p, c, k, bf⟩, v⟩ := m
 simp only at hv
 subst hv
 unfold maxLen at hmax
 have TT : Hid (TreeAt n w ⟨lf, p, c, k, bf⟩ T) := h.1
 have N1 : Hid (MBox 48 (w.alloc (.cells #[.bool lf, p, c, k, bf, .slice a l.length cap] 48)) w.heap.size #[.bool lf, p, c, k, bf, .slice a l.length cap]) := MBox.start _ w _
 have B1 : Hid (Below w.heap.size w (w.alloc (.cells #[.bool lf, p, c, k, bf, .slice a l.length cap] 48))) := bel_nw _ _
 have c1 := N1.out.cells
 clear h
 show Calls Tryz.prog 74 #[.agg #[.bool lf, p, c, k, bf, .slice a l.length cap]] w _
 go_enter Tryz.func74, Tryz.ntmps74
 go_upto_region 1 with fail
 generalize w.alloc (.cells #[.bool lf, p, c, k, bf, .slice a l.length cap] 48) = W0 at *
 go_wp2_with fail
 refine (implTreeOk_any n ⟨lf, p, c, k, bf⟩ T W0 (TT.out.below B1.out)).mono ?_
 rintro e W ⟨rfl, b0⟩
 replace N1 : Hid (MBox 48 W w.heap.size #[.bool lf, p, c, k, bf, .slice a l.length cap]) := N1.out.step b0
 replace B1 : Hid (Below w.heap.size w W) := Below.and B1.out b0
 clear c1 b0
 have c1 := N1.out.cells
 cases hok : okT T with
 | false =>
  have HO : Hid (okT T = false) := hok
  clear hok
  go_wp2
  go_ret
  exact ⟨ret_bool (by unfold machOk; rw [HO.out]; rfl), B1.out⟩
 | true =>
  have HO : Hid (okT T = true) := hok
  clear hok
  go_wp2_with fail
  go_loopw [12] (fun i wr => ∃ j : Nat, j ≤ l.length ∧ i = .int .i64 j ∧ Hid (∀ i, i < j → doneAt l i = true) ∧ Hid (Below W.heap.size W wr))
   (fun i _ => l.length - (intOf i).toNat)
  case atStart => exact ⟨0, Nat.zero_le _, rfl, fun i hi => absurd hi (Nat.not_lt_zero _), Below.refl _ _⟩
  case round =>
   obtain ⟨j, hjl, rfl, ALL, hbW⟩ := hrel
   have hb : Hid (Below w.heap.size w wr) := Below.and B1.out hbW.out
   by_cases hlt : j < l.length
   ·have hal := ha (by omega)
    subst hal
    have d0 : wr.cell? ⟨b, off + j * 4, none⟩ = some (.int .i64 (dC l j)) := (hb.out.cell (by exact cell_lt (hx0 j hlt))).trans (hx0 j hlt)
    have d1 : wr.cell? ⟨b, off + j * 4 + 1, none⟩ = some (.int .i64 (dS l j)) := (hb.out.cell (by exact cell_lt (hx1 j hlt))).trans (hx1 j hlt)
    have d2 : wr.cell? ⟨b, off + j * 4 + 2, none⟩ = some (.int .i64 (dV l j)) := (hb.out.cell (by exact cell_lt (hx2 j hlt))).trans (hx2 j hlt)
    have d3 : wr.cell? ⟨b, off + j * 4 + 3, none⟩ = some (.bool (dH l j)) := (hb.out.cell (by exact cell_lt (hx3 j hlt))).trans (hx3 j hlt)
    have NB : Hid (Below wr.heap.size wr (wr.alloc (.cells #[.int .i64 (dC l j), .int .i64 (dS l j), .int .i64 (dV l j), .bool (dH l j)] 126))) := bel_nw _ _
    have NX : Hid (MBox 126 (wr.alloc (.cells #[.int .i64 (dC l j), .int .i64 (dS l j), .int .i64 (dV l j), .bool (dH l j)] 126)) wr.heap.size #[.int .i64 (dC l j), .int .i64 (dS l j), .int .i64 (dV l j), .bool (dH l j)]) := MBox.start _ wr _
    clear c1
    go_upto_region 6 with fail
    generalize wr.alloc (.cells #[.int .i64 (dC l j), .int .i64 (dS l j), .int .i64 (dV l j), .bool (dH l j)] 126) = V at *
    generalize hbx : wr.heap.size = bx at *
    have e0 := NX.out.cells
    have FV : Hid (Below W.heap.size W V) := hbW.out.trans (NB.out.mono (by rw [← hbx]; exact hbW.out.size))
    have c2 := (N1.out.step FV.out).cells
    have FB : Hid (Below w.heap.size w V) := Below.and B1.out FV.out
    clear d0 d1 d2 d3
    go_wp2_with fail
    refine (doneOk_any (dC l j) (dS l j) (dV l j) (dH l j) V).mono ?_
    rintro e V2 ⟨rfl, b2⟩
    have E0 : Hid (MBox 126 V2 bx #[.int .i64 (dC l j), .int .i64 (dS l j), .int .i64 (dV l j), .bool (dH l j)]) := NX.out.step b2
    replace FV : Hid (Below W.heap.size W V2) := Below.and FV.out b2
    replace FB : Hid (Below w.heap.size w V2) := Below.and FB.out b2
    clear b2 e0 c2 NX NB
    have e0 := E0.out.cells
    have c2 := (N1.out.step FV.out).cells
    change Hid _ at hbx
    generalize hK : (inB (dC l j) 1 9 && (inB (dS l j) 1 100000 && inB (dV l j) (-1000000000) 1000000000)) = B
    cases B with
    | false =>
     have NE : Hid (donesOk l = false) := donesOk_false hlt (doneAt_ok hK)
     clear hx0 hx1 hx2 hx3 hK
     go_wp2
     go_ret
     exact ⟨ret_bool (by unfold machOk; rw [HO.out, NE.out]; rfl), FB.out⟩
    | true =>
     have DP : Hid _ := dok_parts hK
     clear hK
     cases j with
     | zero =>
      have OK : Hid (doneAt l 0 = true) := doneAt_zero DP.out.1 DP.out.2.1 DP.out.2.2
      clear hx0 hx1 hx2 hx3
      go_wp2_with fail
      go_quiet (fail)
      go_wp2
      go_roundw
      case rel => exact ⟨1, by omega, by go_num, fun i hi => by rw [show i = 0 by omega]; exact OK.out, below_drewN FV.out _⟩
      case measure => simp [intOf]; omega
     | succ j =>
      have hpos : (0 : Int) < ((j + 1 : Nat) : Int) := by omega
      have g2 : V2.cell? ⟨b, off + j * 4, none⟩ = some (.int .i64 (dC l j)) := (FB.out.cell (by exact cell_lt (hx0 j (by omega)))).trans (hx0 j (by omega))
      clear hx0 hx1 hx2 hx3
      by_cases hord : dC l j < dC l (j + 1)
      ·have OK : Hid (doneAt l (j + 1) = true) := doneAt_succ DP.out.1 DP.out.2.1 DP.out.2.2 hord
       have hle : ¬ dC l (j + 1) ≤ dC l j := by omega
       have hle' : decide (dC l (j + 1) ≤ dC l j) = false := decide_eq_false hle
       go_wp2_with fail
       go_quiet (fail)
       go_wp2
       go_roundw
       case rel => exact ⟨j + 1 + 1, by omega, by go_num, fun i hi => if h : i < j + 1 then ALL.out i h else by rw [show i = j + 1 by omega]; exact OK.out, below_drewN FV.out _⟩
       case measure => simp [intOf]; omega
      ·have NE : Hid (donesOk l = false) := donesOk_false hlt (doneAt_lt hord)
       have hle : dC l (j + 1) ≤ dC l j := by omega
       go_wp2_with fail
       go_quiet (fail)
       go_wp2
       go_ret
       exact ⟨ret_bool (by unfold machOk; rw [HO.out, NE.out]; rfl), below_drewN FB.out _⟩
   ·have OK : Hid (donesOk l = true) := donesOk_true (fun i hi => ALL.out i (by omega))
    clear hx0 hx1 hx2 hx3
    go_wp2
    go_ret
    exact ⟨ret_bool (by unfold machOk; rw [HO.out, OK.out]; rfl), hb.out⟩
end
section
open Go.RowKit

theorem indexOk_any (x : Int) (w : World) :
  Calls Tryz.prog 97 #[.int .i64 x] w fun e w' => e = .returned (.bool (inB x 0 100000)) ∧ w' = w := by
 by_cases h1 : 0 ≤ x
 ·by_cases h2 : x ≤ 100000
  ·have E : Hid (inB x 0 100000 = true) := inB_true h1 h2
   go_enter Tryz.func97, Tryz.ntmps97
   go_wp2
   go_ret
   exact ⟨ret_bool E.out.symm, rfl⟩
  ·have E : Hid (inB x 0 100000 = false) := inB_false2 h2
   go_enter Tryz.func97, Tryz.ntmps97
   go_wp2
   go_ret
   exact ⟨ret_bool E.out.symm, rfl⟩
 ·have E : Hid (inB x 0 100000 = false) := inB_false1 h1
  go_enter Tryz.func97, Tryz.ntmps97
  go_wp2
  go_ret
  exact ⟨ret_bool E.out.symm, rfl⟩

theorem implLogOk_any (b bt : Int) (v : Value) (l : EL) (w : World) (h : Row w v l.length (flatE l)) (hn : l.length ≤ 1099511627776) :
  Calls Tryz.prog 98 #[lgV b bt v] w fun e w' => e = .returned (.bool (logOkB b bt l)) ∧ Below w.heap.size w w' := by
 obtain ⟨a, bb, off, cap, rfl, hcap, hmax, ha, hx0, hx1, hx2, hx3, hx4, hx5⟩ := h.ents
 unfold maxLen at hmax
 have N1 : Hid (MBox 40 (w.alloc (.cells #[.int .i64 b, .int .i64 bt, .slice a l.length cap] 40)) w.heap.size #[.int .i64 b, .int .i64 bt, .slice a l.length cap]) := MBox.start _ w _
 have B1 : Hid (Below w.heap.size w (w.alloc (.cells #[.int .i64 b, .int .i64 bt, .slice a l.length cap] 40))) := bel_nw _ _
 have c1 := N1.out.cells
 clear h
 cases h1 : inB b 0 100000 with
 | false =>
  have E : Hid (logOkB b bt l = false) := logOk_1 h1
  clear hx0 hx1 hx2 hx3 hx4 hx5 ha
  go_enter Tryz.func98, Tryz.ntmps98
  go_wp2_with (go_at_call 97; refine (indexOk_any _ _).mono ?_; rintro e w' ⟨rfl, rfl⟩)
  go_ret
  exact ⟨ret_bool E.out.symm, B1.out⟩
 | true =>
 cases h2 : inB bt 0 100000 with
 | false =>
  have E : Hid (logOkB b bt l = false) := logOk_2 h2
  clear hx0 hx1 hx2 hx3 hx4 hx5 ha
  go_enter Tryz.func98, Tryz.ntmps98
  go_wp2_with (go_at_call 97; refine (indexOk_any _ _).mono ?_; rintro e w' ⟨rfl, rfl⟩)
  go_ret
  exact ⟨ret_bool E.out.symm, B1.out⟩
 | true =>
 have hb0 := (inB_iff.1 h1).1
 have hb1 := (inB_iff.1 h1).2
 by_cases h3 : b + l.length ≤ 100000
 ·have HH : Hid _ := And.intro h1 (And.intro h2 h3)
  have h3' : inB (b + (l.length : Int)) 0 100000 = true := inB_true (by omega) h3
  go_enter Tryz.func98, Tryz.ntmps98
  go_wp2_with (go_at_call 97; refine (indexOk_any _ _).mono ?_; rintro e w' ⟨rfl, rfl⟩)
  clear h1 h2 c1 h3'
  generalize w.alloc (.cells #[.int .i64 b, .int .i64 bt, .slice a l.length cap] 40) = W at *
  go_loopw [3, 31] (fun t i wr => ∃ j : Nat, j ≤ l.length ∧ i = .int .i64 j ∧ t = .int .i64 (prevT bt l j) ∧ Hid (∀ i, i < j → entAt bt l i = true) ∧ Hid (Below W.heap.size W wr))
   (fun _ i _ => l.length - (intOf i).toNat)
  case atStart => exact ⟨0, Nat.zero_le _, rfl, rfl, fun i hi => absurd hi (Nat.not_lt_zero _), Below.refl _ _⟩
  case round =>
   obtain ⟨j, hjl, rfl, rfl, ALL, hbW⟩ := hrel
   have hb : Hid (Below w.heap.size w wr) := Below.and B1.out hbW.out
   by_cases hlt : j < l.length
   ·have hal := ha (by omega)
    subst hal
    have d0 : wr.cell? ⟨bb, off + j * 6, none⟩ = some (.int .i64 (eT l j)) := (hb.out.cell (by exact cell_lt (hx0 j hlt))).trans (hx0 j hlt)
    have d1 : wr.cell? ⟨bb, off + j * 6 + 1, none⟩ = some (.int .i64 (eC l j)) := (hb.out.cell (by exact cell_lt (hx1 j hlt))).trans (hx1 j hlt)
    have d2 : wr.cell? ⟨bb, off + j * 6 + 2, none⟩ = some (.int .i64 (eS l j)) := (hb.out.cell (by exact cell_lt (hx2 j hlt))).trans (hx2 j hlt)
    have d3 : wr.cell? ⟨bb, off + j * 6 + 3, none⟩ = some (.int .i64 (eO l j)) := (hb.out.cell (by exact cell_lt (hx3 j hlt))).trans (hx3 j hlt)
    have d4 : wr.cell? ⟨bb, off + j * 6 + 4, none⟩ = some (.int .i64 (eK l j)) := (hb.out.cell (by exact cell_lt (hx4 j hlt))).trans (hx4 j hlt)
    have d5 : wr.cell? ⟨bb, off + j * 6 + 5, none⟩ = some (.int .i64 (eV l j)) := (hb.out.cell (by exact cell_lt (hx5 j hlt))).trans (hx5 j hlt)
    clear hx0 hx1 hx2 hx3 hx4 hx5
    have NB : Hid (Below wr.heap.size wr (wr.alloc (.cells #[.int .i64 (eT l j), .int .i64 (eC l j), .int .i64 (eS l j), .int .i64 (eO l j), .int .i64 (eK l j), .int .i64 (eV l j)] 113))) := bel_nw _ _
    have NX : Hid (MBox 113 (wr.alloc (.cells #[.int .i64 (eT l j), .int .i64 (eC l j), .int .i64 (eS l j), .int .i64 (eO l j), .int .i64 (eK l j), .int .i64 (eV l j)] 113)) wr.heap.size #[.int .i64 (eT l j), .int .i64 (eC l j), .int .i64 (eS l j), .int .i64 (eO l j), .int .i64 (eK l j), .int .i64 (eV l j)]) := MBox.start _ wr _
    generalize hpt : prevT bt l j = pt at *
    have HPT : Hid _ := hpt
    clear hpt
    go_upto_region 7 with fail
    generalize wr.alloc (.cells #[.int .i64 (eT l j), .int .i64 (eC l j), .int .i64 (eS l j), .int .i64 (eO l j), .int .i64 (eK l j), .int .i64 (eV l j)] 113) = V at *
    have FV : Hid (Below W.heap.size W V) := Below.and hbW.out NB.out
    have FB : Hid (Below w.heap.size w V) := Below.and B1.out FV.out
    generalize wr.heap.size = bx at *
    have e0 := NX.out.cells
    clear d0 d1 d2 d3 d4 d5 NB hb hbW
    by_cases t1 : eT l j < pt
    ·have E : Hid (logOkB b bt l = false) := logOk_4 (entsOk_false hlt (entAt_t (by rw [HPT.out]; exact inB_false1 (by omega))))
     go_wp2_with fail
     go_ret
     exact ⟨ret_bool E.out.symm, FB.out⟩
    ·by_cases t2 : eT l j ≤ 100000
     ·have HT : Hid (inB (eT l j) (prevT bt l j) 100000 = true) := by show _ = _; rw [HPT.out]; exact inB_true (by omega) t2
      have t2' : ¬ (100000 : Int) < eT l j := by omega
      go_wp2_with fail
      refine (implCmdOk_any _ _ _ _ _ _).mono ?_
      rintro e w2 ⟨rfl, b2⟩
      have FW : Hid (Below W.heap.size W w2) := Below.and FV.out b2
      have FB2 : Hid (Below w.heap.size w w2) := Below.and FB.out b2
      have NX2 := NX.out.step b2
      clear b2 e0
      have e0 := NX2.cells
      clear NX2
      generalize hC : cmdOkB (eC l j) (eS l j) (eO l j) (eK l j) (eV l j) = q
      cases q with
      | false =>
       have E : Hid (logOkB b bt l = false) := logOk_4 (entsOk_false hlt (entAt_c hC))
       clear hC
       go_wp2
       go_ret
       exact ⟨ret_bool E.out.symm, FB2.out⟩
      | true =>
       have OK : Hid (entAt bt l j = true) := entAt_y HT.out hC
       clear hC
       go_wp2
       go_roundw
       case rel => exact ⟨j + 1, by omega, by go_num, by rw [prevT_succ], fun i hi => if h : i < j then ALL.out i h else by rw [show i = j by omega]; exact OK.out, FW.out⟩
       case measure => simp [intOf]; omega
     ·have E : Hid (logOkB b bt l = false) := logOk_4 (entsOk_false hlt (entAt_t (inB_false2 t2)))
      have t2' : (100000 : Int) < eT l j := by omega
      go_wp2_with fail
      go_ret
      exact ⟨ret_bool E.out.symm, FB.out⟩
   ·have E : Hid (logOkB b bt l = true) := logOk_5 HH.out.1 HH.out.2.1 HH.out.2.2 (entsOk_true (fun i hi => ALL.out i (by omega)))
    clear hx0 hx1 hx2 hx3 hx4 hx5
    go_wp2
    go_ret
    exact ⟨ret_bool E.out.symm, hb.out⟩
 ·have E : Hid (logOkB b bt l = false) := logOk_3 h3
  have h3' : inB (b + (l.length : Int)) 0 100000 = false := inB_false2 h3
  clear hx0 hx1 hx2 hx3 hx4 hx5 ha h3
  go_enter Tryz.func98, Tryz.ntmps98
  go_wp2_with (go_at_call 97; refine (indexOk_any _ _).mono ?_; rintro e w' ⟨rfl, rfl⟩)
  go_ret
  exact ⟨ret_bool E.out.symm, B1.out⟩
end
end Go.Proofs.YtmdajbbpigbdcaaGreat
