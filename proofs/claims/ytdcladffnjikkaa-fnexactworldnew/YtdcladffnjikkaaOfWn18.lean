/-
  What NodeOk tells, as a plain function; the model's NodeOk.
  What Rise makes of a node; a list that is cleared.
  The program's empty: a node in memory of its own, emptied through a pointer to it.
-/
import Derived.Test.YtdcladffnjikkaaOfWn4
import Derived.Test.YtdcladffnjikkaaOfWn17
import Derived.Test.YtdcladffnjikkaaOfWn16
import Derived.Test.YtdcladffnjikkaaOfWn15
import Derived.Lib.SliceRun
import Derived.Test.YtdcladffnjikkaaOfWn12
namespace Go.Proofs.Ytdcladffnjikkaa
set_option maxRecDepth 100000
set_option maxHeartbeats 8000000
section
open Go.RowKit

def allIn (l : List Int) (lo hi : Int) : Bool := (List.range l.length).all fun i => inB (iAt l i) lo hi
theorem allIn_true {l : List Int} {lo hi : Int} (h : ∀ i, i < l.length → inB (iAt l i) lo hi = true) : allIn l lo hi = true := by
 simp only [allIn, List.all_eq_true, List.mem_range]
 exact h
theorem allIn_false {l : List Int} {lo hi : Int} {i : Nat} (hi0 : i < l.length) (h : inB (iAt l i) lo hi = false) : allIn l lo hi = false := by
 rw [Bool.eq_false_iff]
 intro k
 simp only [allIn, List.all_eq_true, List.mem_range] at k
 rw [k i hi0] at h
 cases h
def nodeP (id te vo ro cm lb size : Int) (lo m1 m2 : Bool) (pt la : Int) (nB nN nM : Nat) (ax am : Bool) : Bool :=
 inB size 1 5 && (inB id 0 (size - 1) && (inB te 0 100000 && (inB vo (-1) (size - 1) && (lo && (m1 && (m2 && (inB ro 0 2 && (decide (pt ≤ te) && (decide ((nB : Int) = size) && (decide ((nN : Int) = size) && (decide ((nM : Int) = size) && (inB cm lb la && (ax && am)))))))))))))
def nodeOkB (N : NodV) (D : Nd) (size : Int) : Bool :=
 nodeP N.id N.te N.vo N.ro N.cm N.lb size (logOkB N.lb N.lt D.l) (machOk D.T1 D.d1) (machOk D.T2 D.d2) (prevT N.lt D.l D.l.length) (lastN N.lb D.l) D.vs.length D.nx.length D.mt.length (allIn D.nx 1 (lastN N.lb D.l + 1)) (allIn D.mt 0 (lastN N.lb D.l))
theorem lastN_small {b bt : Int} {l : EL} (h : logOkB b bt l = true) : 0 ≤ lastN b l ∧ lastN b l ≤ 100000 := by
 simp only [logOkB, Bool.and_eq_true, decide_eq_true_eq] at h
 have h1 := inB_iff.1 h.1
 unfold lastN
 split
 ·exact ⟨h1.1, h1.2⟩
 ·have := h.2.2.1
  unfold wrap64
  omega

theorem specNodeOk_any (n : Nat) (N : NodV) (D : Nd) (size : Int) (w : World) (h : NodAt n w N D) (hs : D.small n) :
  Calls Try.prog 30 #[N.val, .int .i64 size] w fun e w' => e = .returned (.bool (nodeOkB N D size)) ∧ Below w.heap.size w w' := by
 obtain ⟨id, te, vo, lb, lt, lv, ⟨⟨sl, sp, sc, sk, sb⟩, sv⟩, ro, vv, nv, mv, cm, ⟨⟨ol, op, oc, ok, ob⟩, ov⟩⟩ := N
 obtain ⟨q1, q2, q3, q4, q5, q6⟩ := h
 obtain ⟨av, cv, hvv, hlv⟩ := q3.len
 simp only at hvv
 obtain ⟨an, bN, oN, cn, hnv, hcn, hmn, han, hxn⟩ := q4.ints
 obtain ⟨am, bM, oM, cq, hmv, hcm, hmm, ham, hxm⟩ := q5.ints
 simp only at hnv hmv
 subst hvv hnv hmv
 unfold maxLen at hmn hmm
 obtain ⟨hs1, hs2, hs3, hs4, hs5, hs6, hs7, hs8⟩ := hs
 have S1 : Hid (∀ u, Below w.heap.size w u → Calls Try.prog 52 #[lgV lb lt lv] u fun e w' => e = .returned (.bool (logOkB lb lt D.l)) ∧ Below u.heap.size u w') := fun u hu => specLogOk_any lb lt lv D.l u (q1.below hu) (by omega)
 have S2 : Hid (∀ u, Below w.heap.size w u → Calls Try.prog 53 #[.agg #[.bool sl, sp, sc, sk, sb, sv]] u fun e w' => e = .returned (.bool (machOk D.T1 D.d1)) ∧ Below u.heap.size u w') := fun u hu => specMachineOk_any n ⟨⟨sl, sp, sc, sk, sb⟩, sv⟩ D.T1 D.d1 u (q2.below hu) (by omega)
 have S3 : Hid (∀ u, Below w.heap.size w u → Calls Try.prog 53 #[.agg #[.bool ol, op, oc, ok, ob, ov]] u fun e w' => e = .returned (.bool (machOk D.T2 D.d2)) ∧ Below u.heap.size u w') := fun u hu => specMachineOk_any n ⟨⟨ol, op, oc, ok, ob⟩, ov⟩ D.T2 D.d2 u (q6.below hu) (by omega)
 have S4 : Hid (∀ u, Below w.heap.size w u → Calls Try.prog 54 #[lgV lb lt lv] u fun e w' => e = .returned (.tuple #[.int .i64 (lastN lb D.l), .int .i64 (prevT lt D.l D.l.length)]) ∧ Below u.heap.size u w') := fun u hu => specLastOf_any lb lt lv D.l u (q1.below hu)
 have LS : Hid (logOkB lb lt D.l = true → 0 ≤ lastN lb D.l ∧ lastN lb D.l ≤ 100000) := lastN_small
 have RN : Hid (∀ i u, Below w.heap.size w u → i < D.nx.length → u.cell? ⟨bN, oN + i, none⟩ = some (.int .i64 (iAt D.nx i))) := fun i u hu hi => (hu.cell (cell_lt (hxn i hi))).trans (hxn i hi)
 have RM : Hid (∀ i u, Below w.heap.size w u → i < D.mt.length → u.cell? ⟨bM, oM + i, none⟩ = some (.int .i64 (iAt D.mt i))) := fun i u hu hi => (hu.cell (cell_lt (hxm i hi))).trans (hxm i hi)
 have AN : Hid (0 < D.nx.length → an = some ⟨bN, oN, none⟩) := han
 have AM : Hid (0 < D.mt.length → am = some ⟨bM, oM, none⟩) := ham
 have AX1 : Hid (∀ i, i < D.nx.length → inB (iAt D.nx i) 1 (lastN lb D.l + 1) = false → allIn D.nx 1 (lastN lb D.l + 1) = false) := fun i hi h => allIn_false hi h
 have AX2 : Hid ((∀ i, i < D.nx.length → inB (iAt D.nx i) 1 (lastN lb D.l + 1) = true) → allIn D.nx 1 (lastN lb D.l + 1) = true) := fun h => allIn_true h
 have AM1 : Hid (∀ i, i < D.mt.length → inB (iAt D.mt i) 0 (lastN lb D.l) = false → allIn D.mt 0 (lastN lb D.l) = false) := fun i hi h => allIn_false hi h
 have AM2 : Hid ((∀ i, i < D.mt.length → inB (iAt D.mt i) 0 (lastN lb D.l) = true) → allIn D.mt 0 (lastN lb D.l) = true) := fun h => allIn_true h
 clear q1 q2 q3 q4 q5 q6 hxn hxm han ham hs1 hs2 hs3 hs7 hs8
 unfold nodeOkB
 simp only
 generalize logOkB lb lt D.l = lo at *
 generalize machOk D.T1 D.d1 = m1 at *
 generalize machOk D.T2 D.d2 = m2 at *
 generalize prevT lt D.l D.l.length = pt at *
 generalize lastN lb D.l = la at *
 generalize allIn D.nx 1 (la + 1) = ax at *
 generalize allIn D.mt 0 la = ay at *
 generalize iAt D.nx = fN at *
 generalize iAt D.mt = fM at *
 generalize D.vs.length = nB at *
 generalize D.nx.length = nN at *
 generalize D.mt.length = nM at *
 have N1 : Hid (MBox 48 (w.alloc (.cells #[.int .i64 id, .int .i64 te, .int .i64 vo, .int .i64 lb, .int .i64 lt, lv, .bool sl, sp, sc, sk, sb, sv, .int .i64 ro, .slice av nB cv, .slice an nN cn, .slice am nM cq, .int .i64 cm, .bool ol, op, oc, ok, ob, ov] 48)) w.heap.size #[.int .i64 id, .int .i64 te, .int .i64 vo, .int .i64 lb, .int .i64 lt, lv, .bool sl, sp, sc, sk, sb, sv, .int .i64 ro, .slice av nB cv, .slice an nN cn, .slice am nM cq, .int .i64 cm, .bool ol, op, oc, ok, ob, ov]) := MBox.start _ w _
 have B1 : Hid (Below w.heap.size w (w.alloc (.cells #[.int .i64 id, .int .i64 te, .int .i64 vo, .int .i64 lb, .int .i64 lt, lv, .bool sl, sp, sc, sk, sb, sv, .int .i64 ro, .slice av nB cv, .slice an nN cn, .slice am nM cq, .int .i64 cm, .bool ol, op, oc, ok, ob, ov] 48))) := bel_nw _ _
 have c1 := N1.out.cells
 show Calls Try.prog 30 #[.agg #[.int .i64 id, .int .i64 te, .int .i64 vo, .int .i64 lb, .int .i64 lt, lv, .bool sl, sp, sc, sk, sb, sv, .int .i64 ro, .slice av nB cv, .slice an nN cn, .slice am nM cq, .int .i64 cm, .bool ol, op, oc, ok, ob, ov], .int .i64 size] w _
 go_enter Try.func30, Try.ntmps30
 go_wp2_with fail
 generalize w.alloc (.cells #[.int .i64 id, .int .i64 te, .int .i64 vo, .int .i64 lb, .int .i64 lt, lv, .bool sl, sp, sc, sk, sb, sv, .int .i64 ro, .slice av nB cv, .slice an nN cn, .slice am nM cq, .int .i64 cm, .bool ol, op, oc, ok, ob, ov] 48) = W at *
 refine (l1In_any _ _ _ _).mono ?_
 rintro e w1 ⟨rfl, hw1⟩
 subst hw1
 cases h1 : inB size 1 5
 ·go_wp2
  go_ret
  exact ⟨ret_bool (by simp [nodeP, h1]), B1.out⟩
 have hz := inB_iff.1 h1
 have hws : IntKind.i64.wrap (size - 1) = size - 1 := by rw [IntKind.wrap_i64]; omega
 go_wp2_with fail
 refine (l1In_any _ _ _ _).mono ?_
 rintro e w2 ⟨rfl, hw2⟩
 subst hw2
 cases h2 : inB id 0 (size - 1)
 ·go_wp2
  go_ret
  exact ⟨ret_bool (by simp [nodeP, h2]), B1.out⟩
 go_wp2_with fail
 refine (l1In_any _ _ _ _).mono ?_
 rintro e w3 ⟨rfl, hw3⟩
 subst hw3
 cases h3 : inB te 0 100000
 ·go_wp2
  go_ret
  exact ⟨ret_bool (by simp [nodeP, h3]), B1.out⟩
 go_wp2_with fail
 refine (l1In_any _ _ _ _).mono ?_
 rintro e w4 ⟨rfl, hw4⟩
 subst hw4
 cases h4 : inB vo (-1) (size - 1)
 ·go_wp2
  go_ret
  exact ⟨ret_bool (by simp [nodeP, h4]), B1.out⟩
 go_wp2_with fail
 refine (S1.out _ B1.out).mono ?_
 rintro e w5 ⟨rfl, b5⟩
 replace B1 : Hid (Below w.heap.size w w5) := Below.and B1.out b5
 replace N1 : Hid (MBox 48 w5 w.heap.size #[.int .i64 id, .int .i64 te, .int .i64 vo, .int .i64 lb, .int .i64 lt, lv, .bool sl, sp, sc, sk, sb, sv, .int .i64 ro, .slice av nB cv, .slice an nN cn, .slice am nM cq, .int .i64 cm, .bool ol, op, oc, ok, ob, ov]) := N1.out.step b5
 clear b5 c1
 have c1 := N1.out.cells
 cases h5 : lo
 ·go_wp2
  go_ret
  exact ⟨ret_bool (by simp [nodeP, h5]), B1.out⟩
 have hla := LS.out h5
 go_wp2_with fail
 refine (S2.out _ B1.out).mono ?_
 rintro e w6 ⟨rfl, b6⟩
 replace B1 : Hid (Below w.heap.size w w6) := Below.and B1.out b6
 replace N1 : Hid (MBox 48 w6 w.heap.size #[.int .i64 id, .int .i64 te, .int .i64 vo, .int .i64 lb, .int .i64 lt, lv, .bool sl, sp, sc, sk, sb, sv, .int .i64 ro, .slice av nB cv, .slice an nN cn, .slice am nM cq, .int .i64 cm, .bool ol, op, oc, ok, ob, ov]) := N1.out.step b6
 clear b6 c1
 have c1 := N1.out.cells
 cases h6 : m1
 ·go_wp2
  go_ret
  exact ⟨ret_bool (by simp [nodeP, h6]), B1.out⟩
 go_wp2_with fail
 refine (S3.out _ B1.out).mono ?_
 rintro e w7 ⟨rfl, b7⟩
 replace B1 : Hid (Below w.heap.size w w7) := Below.and B1.out b7
 replace N1 : Hid (MBox 48 w7 w.heap.size #[.int .i64 id, .int .i64 te, .int .i64 vo, .int .i64 lb, .int .i64 lt, lv, .bool sl, sp, sc, sk, sb, sv, .int .i64 ro, .slice av nB cv, .slice an nN cn, .slice am nM cq, .int .i64 cm, .bool ol, op, oc, ok, ob, ov]) := N1.out.step b7
 clear b7 c1
 have c1 := N1.out.cells
 cases h7 : m2
 ·go_wp2
  go_ret
  exact ⟨ret_bool (by simp [nodeP, h7]), B1.out⟩
 go_wp2_with fail
 refine (l1In_any _ _ _ _).mono ?_
 rintro e w8 ⟨rfl, hw8⟩
 subst hw8
 cases h8 : inB ro 0 2
 ·go_wp2
  go_ret
  exact ⟨ret_bool (by simp [nodeP, h8]), B1.out⟩
 go_wp2_with fail
 refine (S4.out _ B1.out).mono ?_
 rintro e w9 ⟨rfl, b9⟩
 replace B1 : Hid (Below w.heap.size w w9) := Below.and B1.out b9
 replace N1 : Hid (MBox 48 w9 w.heap.size #[.int .i64 id, .int .i64 te, .int .i64 vo, .int .i64 lb, .int .i64 lt, lv, .bool sl, sp, sc, sk, sb, sv, .int .i64 ro, .slice av nB cv, .slice an nN cn, .slice am nM cq, .int .i64 cm, .bool ol, op, oc, ok, ob, ov]) := N1.out.step b9
 clear b9 c1
 have c1 := N1.out.cells
 by_cases g1 : te < pt
 ·go_wp2
  go_ret
  exact ⟨ret_bool (by simp [nodeP] <;> intros <;> omega), B1.out⟩
 by_cases g2 : (nB : Int) = size
 rotate_left
 ·have g2b : ((nB : Int) != size) = true := by simpa using g2
  go_wp2
  go_ret
  exact ⟨ret_bool (by simp [nodeP, g2]), B1.out⟩
 subst g2
 by_cases g3 : nN = nB
 rotate_left
 ·have g3b : ((nN : Int) != (nB : Int)) = true := by simp; omega
  have g3c : ¬ ((nN : Int) = (nB : Int)) := by omega
  go_wp2
  go_ret
  exact ⟨ret_bool (by simp [nodeP, g3c] <;> intros <;> omega), B1.out⟩
 subst g3
 by_cases g4 : nM = nN
 rotate_left
 ·have g4b : ((nM : Int) != (nN : Int)) = true := by simp; omega
  go_wp2
  go_ret
  exact ⟨ret_bool (by simp [nodeP] <;> intros <;> omega), B1.out⟩
 subst g4
 go_wp2_with fail
 refine (l1In_any _ _ _ _).mono ?_
 rintro e w10 ⟨rfl, hw10⟩
 subst hw10
 cases h10 : inB cm lb la
 ·go_wp2
  go_ret
  exact ⟨ret_bool (by simp [nodeP, h10]), B1.out⟩
 have hal := AN.out (by omega)
 have haa := AM.out (by omega)
 subst hal haa
 have OK0 : Hid (nodeP id te vo ro cm lb (nM : Int) lo m1 m2 pt la nM nM nM ax ay = (ax && ay)) := by
  show _ = _
  unfold nodeP
  rw [h1, h2, h3, h4, h5, h6, h7, h8, h10, decide_eq_true (by omega : pt ≤ te)]
  simp
 have hwl : IntKind.i64.wrap (la + 1) = la + 1 := by rw [IntKind.wrap_i64]; omega
 clear h1 h2 h3 h4 h5 h6 h7 h8 h10 S1 S2 S3 S4 LS hws
 go_wp2
 go_loopw [7] (fun i wr => ∃ k : Nat, k ≤ nM ∧ i = .int .i64 k ∧ wr = w10 ∧ Hid (∀ j, j < k → inB (fN j) 1 (la + 1) = true ∧ inB (fM j) 0 la = true))
  (fun i _ => nM - (intOf i).toNat)
 case atStart => exact ⟨0, Nat.zero_le _, rfl, rfl, fun j hj => absurd hj (Nat.not_lt_zero _)⟩
 case round =>
  obtain ⟨k, hk, rfl, hwr, ALL⟩ := hrel
  subst hwr
  by_cases hlt : k < nM
  ·have d1 := RN.out k _ B1.out hlt
   have d2 := RM.out k _ B1.out hlt
   have hk0 : (0 : Int) ≤ (k : Int) := by omega
   have hk1 : (k : Int) < (nM : Int) := by omega
   cases x1 : inB (fN k) 1 (la + 1)
   ·have E1 : Hid (nodeP id te vo ro cm lb (nM : Int) lo m1 m2 pt la nM nM nM ax ay = false) := by show _ = _; rw [OK0.out, AX1.out k hlt x1]; rfl
    go_wp2_with fail
    refine (l1In_any _ _ _ _).mono ?_
    rintro e w1 ⟨rfl, hw1⟩
    subst hw1
    rw [x1]
    go_wp2
    go_ret
    exact ⟨ret_bool E1.out.symm, B1.out⟩
   ·go_wp2_with fail
    refine (l1In_any _ _ _ _).mono ?_
    rintro e w1 ⟨rfl, hw1⟩
    subst hw1
    rw [x1]
    go_wp2_with fail
    refine (l1In_any _ _ _ _).mono ?_
    rintro e w1 ⟨rfl, hw1⟩
    subst hw1
    cases x2 : inB (fM k) 0 la
    ·have E1 : Hid (nodeP id te vo ro cm lb (nM : Int) lo m1 m2 pt la nM nM nM ax ay = false) := by show _ = _; rw [OK0.out, AM1.out k hlt x2, Bool.and_false]
     go_wp2
     go_ret
     exact ⟨ret_bool E1.out.symm, B1.out⟩
    ·have A2 : Hid (∀ j, j < k + 1 → inB (fN j) 1 (la + 1) = true ∧ inB (fM j) 0 la = true) := fun j hj => by
      by_cases hjk : j < k
      ·exact ALL.out j hjk
      ·have : j = k := by omega
       subst this
       exact ⟨x1, x2⟩
     go_wp2
     go_roundw
     case rel => exact ⟨k + 1, by omega, by go_num, (by first | rfl | trivial), A2⟩
     case measure => simp [intOf]; omega
  ·have E1 : Hid (nodeP id te vo ro cm lb (nM : Int) lo m1 m2 pt la nM nM nM ax ay = true) := by
    show _ = _
    rw [OK0.out, AX2.out (fun i hi => (ALL.out i (by omega)).1), AM2.out (fun i hi => (ALL.out i (by omega)).2)]
    rfl
   go_wp2
   go_ret
   exact ⟨ret_bool E1.out.symm, B1.out⟩
end
section
open Go.RowKit

def riseD (b : Bool) (D : Nd) : Nd := if b then ⟨D.l, D.T1, D.d1, List.replicate D.vs.length false, List.replicate D.nx.length 1, List.replicate D.mt.length 0, D.T1, D.d1⟩ else D
def riseL (b : Bool) (N M : NodV) : Prop := N.id = M.id ∧ N.te = M.te ∧ N.vo = M.vo ∧ N.lb = M.lb ∧ N.lt = M.lt ∧ (if b then 0 else N.ro) = M.ro ∧ (if b then N.lb else N.cm) = M.cm
def Nd.tot (n : Nat) (D : Nd) : Nat := D.l.length + (sizeT n D.T1 + D.d1.length) + D.vs.length + D.nx.length + D.mt.length + (sizeT n D.T2 + D.d2.length)

def setAllF (z : Value) : Nat → Nat → List Value → List Value
 | 0, _, xs => xs
 | m + 1, i, xs => setAllF z m (i + 1) (xs.set i z)
theorem setAllF_full (z : Value) : ∀ (m i : Nat) (xs : List Value), i + m = xs.length → setAllF z m i xs = xs.take i ++ List.replicate m z
 | 0, i, xs, h => by simp [setAllF, List.take_of_length_le (show xs.length ≤ i by omega)]
 | m + 1, i, xs, h => by
  have hi : i < xs.length := by omega
  rw [setAllF, setAllF_full z m (i + 1) (xs.set i z) (by simp; omega), List.take_succ_eq_append_getElem (by simp; omega), List.replicate_succ]
  have : (xs.set i z).take i = xs.take i := by
   apply List.ext_getElem?
   intro j
   by_cases hj : j < i
   ·simp [hj, show i ≠ j by omega]
   ·simp [List.getElem?_take, hj]
  simp [this]
theorem owns_fill {base e g cap n : Nat} (z : Value) : ∀ (m i : Nat) (w : World) (xs : List Value), w.ownsRow base e 1 (.slice (some ⟨g, 0, none⟩) n cap) n xs → (w.setCells g i (List.replicate m z)).ownsRow base e 1 (.slice (some ⟨g, 0, none⟩) n cap) n (setAllF z m i xs)
 | 0, _, _, _, h => h
 | m + 1, i, w, xs, h => by
  rw [List.replicate_succ, World.setCells, setAllF]
  exact owns_fill z m (i + 1) _ _ (h.stored i z).1
theorem run_clear_none {P : Program} (w : World) (t e ty : TypeId) (ht : P.underlying t = some (.slice e)) (a : Option Addr) (c : Nat) : (Builtin.clear_ #[t] ty #[.slice a 0 c]).run P w = .ok (.tuple #[]) w := by
 cases a <;> simp [Builtin.clear_, run_underlying ht]
theorem clear_own {P : Program} (t e : TypeId) (z : Value) (ht : P.underlying t = some (.slice e)) (hv : ∀ w, (zeroValue e).run P w = .ok z w) (hz : z.cells = #[z]) (h1 : z.oneCell' = true) {lo hi n : Nat} {v : Value} {xs : List Value} (w : World) (h : OwnI w lo hi e 1 v n xs) :
  ∃ w', (∀ ty, (Builtin.clear_ #[t] ty #[v]).run P w = .ok (.tuple #[]) w') ∧ OwnI w' lo hi e 1 v n (List.replicate n z) ∧ Chg (fun g => lo ≤ g ∧ g < hi) w w' := by
 obtain ⟨h0, hb⟩ := h
 by_cases hn : n = 0
 ·subst hn
  obtain ⟨a, cap, rfl⟩ := h0.slice
  refine ⟨w, fun ty => run_clear_none w t e ty ht a cap, ⟨?_, hb⟩, Chg.refl _ _⟩
  rcases h0 with k | k
  ·have : xs = [] := by have := k.1; simpa using this
   subst this
   exact .inl k
  ·exact .inr ⟨rfl, rfl, k.2.2⟩
 ·rcases h0 with k | k
  ·have hk := k
   obtain ⟨hl, ⟨e1, e2⟩ | ⟨g, cap, cur, rfl, hg, hc, hm, hm2, hcs, ht2⟩⟩ := k
   ·omega
   ·have hr := hb g ⟨n, cap, rfl, by omega⟩
    refine ⟨w.setCells g 0 (List.replicate n z), fun ty => Lib.run_clear_slice w t e ty z ht hv hz h1 g 0 n cap (by omega) (fun j hj => ?_) (fun j hj => ?_), ⟨.inl ?_, hb⟩, Chg.setCells (fun _ => ⟨hg, hr⟩) _ _ _ (Chg.refl _ _)⟩
    ·rw [Nat.zero_add, hk.cellAt j (by omega)]
     simp
     omega
    ·rw [Nat.zero_add]
     exact hk.frozenAt j
    ·have := owns_fill z n 0 w xs hk
     rw [setAllF_full z n 0 xs (by omega)] at this
     simpa using this
  ·omega
end
section
open Go.RowKit

abbrev nodArr (N : NodV) : Array Value := #[.int .i64 N.id, .int .i64 N.te, .int .i64 N.vo, .int .i64 N.lb, .int .i64 N.lt, N.lv, .bool N.s.x.lf, N.s.x.p, N.s.x.c, N.s.x.k, N.s.x.b, N.s.v, .int .i64 N.ro, N.vv, N.nv, N.mv, .int .i64 N.cm, .bool N.o.x.lf, N.o.x.p, N.o.x.c, N.o.x.k, N.o.x.b, N.o.v]
def ones (j : Nat) (l : List Int) : List Int := List.replicate j 1 ++ l.drop j
theorem ones_zero (l : List Int) : ones 0 l = l := by simp [ones]
theorem ones_length (j : Nat) (l : List Int) (h : j ≤ l.length) : (ones j l).length = l.length := by simp [ones]; omega
theorem ones_full (l : List Int) : ones l.length l = List.replicate l.length 1 := by simp [ones]
theorem ones_step (j : Nat) (l : List Int) (h : j < l.length) : (ones j l).set j 1 = ones (j + 1) l := by
 rw [ones, ones, List.replicate_succ', List.drop_eq_getElem_cons h, List.set_append_right _ _ (by simp), List.length_replicate, Nat.sub_self, List.set_cons_zero]
 simp
theorem flatI_set1 (l : List Int) (j : Nat) : (flatI l).set j (.int .i64 1) = flatI (l.set j 1) := by simp [flatI]
theorem OwnI.own {w : World} {lo hi e size k : Nat} {v : Value} {xs : List Value} (h : OwnI w lo hi e size v k xs) (hk : 0 < k) : ∃ g cap, v = .slice (some ⟨g, 0, none⟩) k cap ∧ lo ≤ g ∧ g < hi ∧ w.ownsRow lo e size (.slice (some ⟨g, 0, none⟩) k cap) k xs := by
 obtain ⟨h0, h1⟩ := h
 rcases h0 with h0 | ⟨h0, _⟩
 ·have hh := h0
  obtain ⟨_, ⟨_, e2⟩ | ⟨g, cap, cur, e3, e4, e5, e6, _⟩⟩ := h0
  ·omega
  ·subst e3
   exact ⟨g, cap, rfl, e4, h1 g ⟨k, cap, rfl, by omega⟩, hh⟩
 ·omega
end
end Go.Proofs.Ytdcladffnjikkaa
