/-
  What NodeOk tells, as a plain function; the model's NodeOk.
  toMachine: a machine copied out of the law's own kind.
  toMachine: a machine copied out of the law's own kind owns its memory.
-/
import Derived.Test.YtnlgcolbcnhnbaaOfNodeOk7
import Derived.Test.YtnlgcolbcnhnbaaOfNodeOk10
import Derived.Test.YtnlgcolbcnhnbaaOfNodeOk4
import Derived.Test.YtnlgcolbcnhnbaaOfNodeOk1
namespace Go.Proofs.Ytnlgcolbcnhnbaa
open Go.RowKit

def allIn (l : List Int) (lo hi : Int) : Bool := (List.range l.length).all fun i => inB (iAt l i) lo hi
theorem allIn_true {l : List Int} {lo hi : Int} (h : ∀ i, i < l.length → inB (iAt l i) lo hi = true) : allIn l lo hi = true := by
  simp only [allIn, List.all_eq_true, List.mem_range]
  exact h
theorem allIn_false {l : List Int} {lo hi : Int} {i : Nat} (hi0 : i < l.length) (h : inB (iAt l i) lo hi = false) : allIn l lo hi = false := by
  rw [Bool.eq_false_iff]
  intro k
  simp only [allIn, List.all_eq_true, List.mem_range] at k
  rw [k i hi0] at h
  cases h
/-- what NodeOk tells by what its parts tell -/
def nodeP (id te vo ro cm lb size : Int) (lo m1 m2 : Bool) (pt la : Int) (nB nN nM : Nat) (ax am : Bool) : Bool :=
  inB size 1 5 && (inB id 0 (size - 1) && (inB te 0 100000 && (inB vo (-1) (size - 1) && (lo && (m1 && (m2 && (inB ro 0 2 && (decide (pt ≤ te) && (decide ((nB : Int) = size) && (decide ((nN : Int) = size) && (decide ((nM : Int) = size) && (inB cm lb la && (ax && am)))))))))))))
def nodeOkB (N : NodV) (D : Nd) (size : Int) : Bool :=
  nodeP N.id N.te N.vo N.ro N.cm N.lb size (logOkB N.lb N.lt D.l) (machOk D.T1 D.d1) (machOk D.T2 D.d2) (prevT N.lt D.l D.l.length) (lastN N.lb D.l) D.vs.length D.nx.length D.mt.length (allIn D.nx 1 (lastN N.lb D.l + 1)) (allIn D.mt 0 (lastN N.lb D.l))
theorem lastN_small {b bt : Int} {l : EL} (h : logOkB b bt l = true) : 0 ≤ lastN b l ∧ lastN b l ≤ 100000 := by
  simp only [logOkB, Bool.and_eq_true, decide_eq_true_eq] at h
  have h1 := inB_iff.1 h.1
  unfold lastN
  split
  · exact ⟨h1.1, h1.2⟩
  · have := h.2.2.1
    unfold wrap64
    omega

set_option maxRecDepth 100000 in
set_option maxHeartbeats 4000000 in
theorem specNodeOk_any (n : Nat) (N : NodV) (D : Nd) (size : Int) (w : World) (h : NodAt n w N D) (hs : D.small n) :
    Calls Try.prog 6 #[N.val, .int .i64 size] w fun e w' => e = .returned (.bool (nodeOkB N D size)) ∧ Below w.heap.size w w' := by
  obtain ⟨id, te, vo, lb, lt, lv, ⟨⟨sl, sp, sc, sk, sb⟩, sv⟩, ro, vv, nv, mv, cm, ⟨⟨ol, op, oc, ok, ob⟩, ov⟩⟩ := N
  obtain ⟨q1, q2, q3, q4, q5, q6⟩ := h
  obtain ⟨av, cv, hvv, hlv⟩ := q3.len
  simp only at hvv
  obtain ⟨an, bN, oN, cn, hnv, hcn, hmn, han, hxn⟩ := q4.ints
  obtain ⟨am, bM, oM, cq, hmv, hcm, hmm, ham, hxm⟩ := q5.ints
  simp only at hnv hmv
  subst hvv hnv hmv
  unfold maxLen at hmn hmm
  obtain ⟨hs1, hs2, hs3, hs4, hs5, hs6, hs7, hs8⟩ := hs
  have S1 : Hid (∀ u, Below w.heap.size w u → Calls Try.prog 19 #[lgV lb lt lv] u fun e w' => e = .returned (.bool (logOkB lb lt D.l)) ∧ Below u.heap.size u w') := fun u hu => specLogOk_any lb lt lv D.l u (q1.below hu) (by omega)
  have S2 : Hid (∀ u, Below w.heap.size w u → Calls Try.prog 20 #[.agg #[.bool sl, sp, sc, sk, sb, sv]] u fun e w' => e = .returned (.bool (machOk D.T1 D.d1)) ∧ Below u.heap.size u w') := fun u hu => specMachineOk_any n ⟨⟨sl, sp, sc, sk, sb⟩, sv⟩ D.T1 D.d1 u (q2.below hu) (by omega)
  have S3 : Hid (∀ u, Below w.heap.size w u → Calls Try.prog 20 #[.agg #[.bool ol, op, oc, ok, ob, ov]] u fun e w' => e = .returned (.bool (machOk D.T2 D.d2)) ∧ Below u.heap.size u w') := fun u hu => specMachineOk_any n ⟨⟨ol, op, oc, ok, ob⟩, ov⟩ D.T2 D.d2 u (q6.below hu) (by omega)
  have S4 : Hid (∀ u, Below w.heap.size w u → Calls Try.prog 21 #[lgV lb lt lv] u fun e w' => e = .returned (.tuple #[.int .i64 (lastN lb D.l), .int .i64 (prevT lt D.l D.l.length)]) ∧ Below u.heap.size u w') := fun u hu => specLastOf_any lb lt lv D.l u (q1.below hu)
  have LS : Hid (logOkB lb lt D.l = true → 0 ≤ lastN lb D.l ∧ lastN lb D.l ≤ 100000) := lastN_small
  have RN : Hid (∀ i u, Below w.heap.size w u → i < D.nx.length → u.cell? ⟨bN, oN + i, none⟩ = some (.int .i64 (iAt D.nx i))) := fun i u hu hi => (hu.cell (cell_lt (hxn i hi))).trans (hxn i hi)
  have RM : Hid (∀ i u, Below w.heap.size w u → i < D.mt.length → u.cell? ⟨bM, oM + i, none⟩ = some (.int .i64 (iAt D.mt i))) := fun i u hu hi => (hu.cell (cell_lt (hxm i hi))).trans (hxm i hi)
  have AN : Hid (0 < D.nx.length → an = some ⟨bN, oN, none⟩) := han
  have AM : Hid (0 < D.mt.length → am = some ⟨bM, oM, none⟩) := ham
  have AX1 : Hid (∀ i, i < D.nx.length → inB (iAt D.nx i) 1 (lastN lb D.l + 1) = false → allIn D.nx 1 (lastN lb D.l + 1) = false) := fun i hi h => allIn_false hi h
  have AX2 : Hid ((∀ i, i < D.nx.length → inB (iAt D.nx i) 1 (lastN lb D.l + 1) = true) → allIn D.nx 1 (lastN lb D.l + 1) = true) := fun h => allIn_true h
  have AM1 : Hid (∀ i, i < D.mt.length → inB (iAt D.mt i) 0 (lastN lb D.l) = false → allIn D.mt 0 (lastN lb D.l) = false) := fun i hi h => allIn_false hi h
  have AM2 : Hid ((∀ i, i < D.mt.length → inB (iAt D.mt i) 0 (lastN lb D.l) = true) → allIn D.mt 0 (lastN lb D.l) = true) := fun h => allIn_true h
  clear q1 q2 q3 q4 q5 q6 hxn hxm han ham hs1 hs2 hs3 hs7 hs8
  unfold nodeOkB
  simp only
  generalize logOkB lb lt D.l = lo at *
  generalize machOk D.T1 D.d1 = m1 at *
  generalize machOk D.T2 D.d2 = m2 at *
  generalize prevT lt D.l D.l.length = pt at *
  generalize lastN lb D.l = la at *
  generalize allIn D.nx 1 (la + 1) = ax at *
  generalize allIn D.mt 0 la = ay at *
  generalize iAt D.nx = fN at *
  generalize iAt D.mt = fM at *
  generalize D.vs.length = nB at *
  generalize D.nx.length = nN at *
  generalize D.mt.length = nM at *
  have N1 : Hid (MBox 51 (w.alloc (.cells #[.int .i64 id, .int .i64 te, .int .i64 vo, .int .i64 lb, .int .i64 lt, lv, .bool sl, sp, sc, sk, sb, sv, .int .i64 ro, .slice av nB cv, .slice an nN cn, .slice am nM cq, .int .i64 cm, .bool ol, op, oc, ok, ob, ov] 51)) w.heap.size #[.int .i64 id, .int .i64 te, .int .i64 vo, .int .i64 lb, .int .i64 lt, lv, .bool sl, sp, sc, sk, sb, sv, .int .i64 ro, .slice av nB cv, .slice an nN cn, .slice am nM cq, .int .i64 cm, .bool ol, op, oc, ok, ob, ov]) := MBox.start _ w _
  have B1 : Hid (Below w.heap.size w (w.alloc (.cells #[.int .i64 id, .int .i64 te, .int .i64 vo, .int .i64 lb, .int .i64 lt, lv, .bool sl, sp, sc, sk, sb, sv, .int .i64 ro, .slice av nB cv, .slice an nN cn, .slice am nM cq, .int .i64 cm, .bool ol, op, oc, ok, ob, ov] 51))) := bel_nw _ _
  have c1 := N1.out.cells
  show Calls Try.prog 6 #[.agg #[.int .i64 id, .int .i64 te, .int .i64 vo, .int .i64 lb, .int .i64 lt, lv, .bool sl, sp, sc, sk, sb, sv, .int .i64 ro, .slice av nB cv, .slice an nN cn, .slice am nM cq, .int .i64 cm, .bool ol, op, oc, ok, ob, ov], .int .i64 size] w _
  go_enter Try.func6, Try.ntmps6
  go_wp2_with fail
  generalize w.alloc (.cells #[.int .i64 id, .int .i64 te, .int .i64 vo, .int .i64 lb, .int .i64 lt, lv, .bool sl, sp, sc, sk, sb, sv, .int .i64 ro, .slice av nB cv, .slice an nN cn, .slice am nM cq, .int .i64 cm, .bool ol, op, oc, ok, ob, ov] 51) = W at *
  refine (l1In_any _ _ _ _).mono ?_
  rintro e w1 ⟨rfl, hw1⟩
  subst hw1
  cases h1 : inB size 1 5
  · go_wp2
    go_ret
    exact ⟨ret_bool (by simp [nodeP, h1]), B1.out⟩
  have hz := inB_iff.1 h1
  have hws : IntKind.i64.wrap (size - 1) = size - 1 := by rw [IntKind.wrap_i64]; omega
  go_wp2_with fail
  refine (l1In_any _ _ _ _).mono ?_
  rintro e w2 ⟨rfl, hw2⟩
  subst hw2
  cases h2 : inB id 0 (size - 1)
  · go_wp2
    go_ret
    exact ⟨ret_bool (by simp [nodeP, h2]), B1.out⟩
  go_wp2_with fail
  refine (l1In_any _ _ _ _).mono ?_
  rintro e w3 ⟨rfl, hw3⟩
  subst hw3
  cases h3 : inB te 0 100000
  · go_wp2
    go_ret
    exact ⟨ret_bool (by simp [nodeP, h3]), B1.out⟩
  go_wp2_with fail
  refine (l1In_any _ _ _ _).mono ?_
  rintro e w4 ⟨rfl, hw4⟩
  subst hw4
  cases h4 : inB vo (-1) (size - 1)
  · go_wp2
    go_ret
    exact ⟨ret_bool (by simp [nodeP, h4]), B1.out⟩
  go_wp2_with fail
  refine (S1.out _ B1.out).mono ?_
  rintro e w5 ⟨rfl, b5⟩
  replace B1 : Hid (Below w.heap.size w w5) := Below.and B1.out b5
  replace N1 : Hid (MBox 51 w5 w.heap.size #[.int .i64 id, .int .i64 te, .int .i64 vo, .int .i64 lb, .int .i64 lt, lv, .bool sl, sp, sc, sk, sb, sv, .int .i64 ro, .slice av nB cv, .slice an nN cn, .slice am nM cq, .int .i64 cm, .bool ol, op, oc, ok, ob, ov]) := N1.out.step b5
  clear b5 c1
  have c1 := N1.out.cells
  cases h5 : lo
  · go_wp2
    go_ret
    exact ⟨ret_bool (by simp [nodeP, h5]), B1.out⟩
  have hla := LS.out h5
  go_wp2_with fail
  refine (S2.out _ B1.out).mono ?_
  rintro e w6 ⟨rfl, b6⟩
  replace B1 : Hid (Below w.heap.size w w6) := Below.and B1.out b6
  replace N1 : Hid (MBox 51 w6 w.heap.size #[.int .i64 id, .int .i64 te, .int .i64 vo, .int .i64 lb, .int .i64 lt, lv, .bool sl, sp, sc, sk, sb, sv, .int .i64 ro, .slice av nB cv, .slice an nN cn, .slice am nM cq, .int .i64 cm, .bool ol, op, oc, ok, ob, ov]) := N1.out.step b6
  clear b6 c1
  have c1 := N1.out.cells
  cases h6 : m1
  · go_wp2
    go_ret
    exact ⟨ret_bool (by simp [nodeP, h6]), B1.out⟩
  go_wp2_with fail
  refine (S3.out _ B1.out).mono ?_
  rintro e w7 ⟨rfl, b7⟩
  replace B1 : Hid (Below w.heap.size w w7) := Below.and B1.out b7
  replace N1 : Hid (MBox 51 w7 w.heap.size #[.int .i64 id, .int .i64 te, .int .i64 vo, .int .i64 lb, .int .i64 lt, lv, .bool sl, sp, sc, sk, sb, sv, .int .i64 ro, .slice av nB cv, .slice an nN cn, .slice am nM cq, .int .i64 cm, .bool ol, op, oc, ok, ob, ov]) := N1.out.step b7
  clear b7 c1
  have c1 := N1.out.cells
  cases h7 : m2
  · go_wp2
    go_ret
    exact ⟨ret_bool (by simp [nodeP, h7]), B1.out⟩
  go_wp2_with fail
  refine (l1In_any _ _ _ _).mono ?_
  rintro e w8 ⟨rfl, hw8⟩
  subst hw8
  cases h8 : inB ro 0 2
  · go_wp2
    go_ret
    exact ⟨ret_bool (by simp [nodeP, h8]), B1.out⟩
  go_wp2_with fail
  refine (S4.out _ B1.out).mono ?_
  rintro e w9 ⟨rfl, b9⟩
  replace B1 : Hid (Below w.heap.size w w9) := Below.and B1.out b9
  replace N1 : Hid (MBox 51 w9 w.heap.size #[.int .i64 id, .int .i64 te, .int .i64 vo, .int .i64 lb, .int .i64 lt, lv, .bool sl, sp, sc, sk, sb, sv, .int .i64 ro, .slice av nB cv, .slice an nN cn, .slice am nM cq, .int .i64 cm, .bool ol, op, oc, ok, ob, ov]) := N1.out.step b9
  clear b9 c1
  have c1 := N1.out.cells
  by_cases g1 : te < pt
  · go_wp2
    go_ret
    exact ⟨ret_bool (by simp [nodeP] <;> intros <;> omega), B1.out⟩
  by_cases g2 : (nB : Int) = size
  rotate_left
  · have g2b : ((nB : Int) != size) = true := by simpa using g2
    go_wp2
    go_ret
    exact ⟨ret_bool (by simp [nodeP, g2]), B1.out⟩
  subst g2
  by_cases g3 : nN = nB
  rotate_left
  · have g3b : ((nN : Int) != (nB : Int)) = true := by simp; omega
    have g3c : ¬ ((nN : Int) = (nB : Int)) := by omega
    go_wp2
    go_ret
    exact ⟨ret_bool (by simp [nodeP, g3c] <;> intros <;> omega), B1.out⟩
  subst g3
  by_cases g4 : nM = nN
  rotate_left
  · have g4b : ((nM : Int) != (nN : Int)) = true := by simp; omega
    go_wp2
    go_ret
    exact ⟨ret_bool (by simp [nodeP] <;> intros <;> omega), B1.out⟩
  subst g4
  go_wp2_with fail
  refine (l1In_any _ _ _ _).mono ?_
  rintro e w10 ⟨rfl, hw10⟩
  subst hw10
  cases h10 : inB cm lb la
  · go_wp2
    go_ret
    exact ⟨ret_bool (by simp [nodeP, h10]), B1.out⟩
  have hal := AN.out (by omega)
  have haa := AM.out (by omega)
  subst hal haa
  have OK0 : Hid (nodeP id te vo ro cm lb (nM : Int) lo m1 m2 pt la nM nM nM ax ay = (ax && ay)) := by
    show _ = _
    unfold nodeP
    rw [h1, h2, h3, h4, h5, h6, h7, h8, h10, decide_eq_true (by omega : pt ≤ te)]
    simp
  have hwl : IntKind.i64.wrap (la + 1) = la + 1 := by rw [IntKind.wrap_i64]; omega
  clear h1 h2 h3 h4 h5 h6 h7 h8 h10 S1 S2 S3 S4 LS hws
  go_wp2
  go_loopw [7] (fun i wr => ∃ k : Nat, k ≤ nM ∧ i = .int .i64 k ∧ wr = w10 ∧ Hid (∀ j, j < k → inB (fN j) 1 (la + 1) = true ∧ inB (fM j) 0 la = true))
    (fun i _ => nM - (intOf i).toNat)
  case atStart => exact ⟨0, Nat.zero_le _, rfl, rfl, fun j hj => absurd hj (Nat.not_lt_zero _)⟩
  case round =>
    obtain ⟨k, hk, rfl, hwr, ALL⟩ := hrel
    subst hwr
    by_cases hlt : k < nM
    · have d1 := RN.out k _ B1.out hlt
      have d2 := RM.out k _ B1.out hlt
      have hk0 : (0 : Int) ≤ (k : Int) := by omega
      have hk1 : (k : Int) < (nM : Int) := by omega
      cases x1 : inB (fN k) 1 (la + 1)
      · have E1 : Hid (nodeP id te vo ro cm lb (nM : Int) lo m1 m2 pt la nM nM nM ax ay = false) := by show _ = _; rw [OK0.out, AX1.out k hlt x1]; rfl
        go_wp2_with fail
        refine (l1In_any _ _ _ _).mono ?_
        rintro e w1 ⟨rfl, hw1⟩
        subst hw1
        rw [x1]
        go_wp2
        go_ret
        exact ⟨ret_bool E1.out.symm, B1.out⟩
      · go_wp2_with fail
        refine (l1In_any _ _ _ _).mono ?_
        rintro e w1 ⟨rfl, hw1⟩
        subst hw1
        rw [x1]
        go_wp2_with fail
        refine (l1In_any _ _ _ _).mono ?_
        rintro e w1 ⟨rfl, hw1⟩
        subst hw1
        cases x2 : inB (fM k) 0 la
        · have E1 : Hid (nodeP id te vo ro cm lb (nM : Int) lo m1 m2 pt la nM nM nM ax ay = false) := by show _ = _; rw [OK0.out, AM1.out k hlt x2, Bool.and_false]
          go_wp2
          go_ret
          exact ⟨ret_bool E1.out.symm, B1.out⟩
        · have A2 : Hid (∀ j, j < k + 1 → inB (fN j) 1 (la + 1) = true ∧ inB (fM j) 0 la = true) := fun j hj => by
            by_cases hjk : j < k
            · exact ALL.out j hjk
            · have : j = k := by omega
              subst this
              exact ⟨x1, x2⟩
          go_wp2
          go_roundw
          case rel => exact ⟨k + 1, by omega, by go_num, (by first | rfl | trivial), A2⟩
          case measure => simp [intOf]; omega
    · have E1 : Hid (nodeP id te vo ro cm lb (nM : Int) lo m1 m2 pt la nM nM nM ax ay = true) := by
        show _ = _
        rw [OK0.out, AX2.out (fun i hi => (ALL.out i (by omega)).1), AM2.out (fun i hi => (ALL.out i (by omega)).2)]
        rfl
      go_wp2
      go_ret
      exact ⟨ret_bool E1.out.symm, B1.out⟩

end Go.Proofs.Ytnlgcolbcnhnbaa

namespace Go.Proofs.Ytnlgcolbcnhnbaa
open Go.RowKit

theorem six_at {W : World} {R : Nat} {t : TypeId} {x0 x1 x2 x3 x4 x5 : Value} (a b c d e f : Value) (h : W.heap[R]? = some (.cells #[x0, x1, x2, x3, x4, x5] t (0, 0))) : ((((((W.setCell ⟨R, 0, none⟩ a).setCell ⟨R, 1, none⟩ b).setCell ⟨R, 2, none⟩ c).setCell ⟨R, 3, none⟩ d).setCell ⟨R, 4, none⟩ e).setCell ⟨R, 5, none⟩ f).heap[R]? = some (.cells #[a, b, c, d, e, f] t (0, 0)) := by
  have h0 := heap_setCell_same W R 0 _ _ a h
  have h1 := heap_setCell_same _ R 1 _ _ b h0
  have h2 := heap_setCell_same _ R 2 _ _ c h1
  have h3 := heap_setCell_same _ R 3 _ _ d h2
  have h4 := heap_setCell_same _ R 4 _ _ e h3
  have h5 := heap_setCell_same _ R 5 _ _ f h4
  simpa using h5
theorem six_chg (W : World) (R : Nat) (a b c d e f : Value) : Chg (fun g => g = R) W ((((((W.setCell ⟨R, 0, none⟩ a).setCell ⟨R, 1, none⟩ b).setCell ⟨R, 2, none⟩ c).setCell ⟨R, 3, none⟩ d).setCell ⟨R, 4, none⟩ e).setCell ⟨R, 5, none⟩ f) :=
  ((((((Chg.refl (fun g => g = R) W).setAt R 0 rfl a).setAt R 1 rfl b).setAt R 2 rfl c).setAt R 3 rfl d).setAt R 4 rfl e).setAt R 5 rfl f
theorem fst_at {W : World} {R : Nat} {t : TypeId} {x0 x1 x2 x3 x4 x5 : Value} (a b c d e : Value) (h : W.heap[R]? = some (.cells #[x0, x1, x2, x3, x4, x5] t (0, 0))) : (((((W.setCell ⟨R, 0, none⟩ a).setCell ⟨R, 1, none⟩ b).setCell ⟨R, 2, none⟩ c).setCell ⟨R, 3, none⟩ d).setCell ⟨R, 4, none⟩ e).heap[R]? = some (.cells #[a, b, c, d, e, x5] t (0, 0)) := by
  have h0 := heap_setCell_same W R 0 _ _ a h
  have h1 := heap_setCell_same _ R 1 _ _ b h0
  have h2 := heap_setCell_same _ R 2 _ _ c h1
  have h3 := heap_setCell_same _ R 3 _ _ d h2
  have h4 := heap_setCell_same _ R 4 _ _ e h3
  simpa using h4
theorem fst_chg (W : World) (R : Nat) (a b c d e : Value) : Chg (fun g => g = R) W (((((W.setCell ⟨R, 0, none⟩ a).setCell ⟨R, 1, none⟩ b).setCell ⟨R, 2, none⟩ c).setCell ⟨R, 3, none⟩ d).setCell ⟨R, 4, none⟩ e) :=
  (((((Chg.refl (fun g => g = R) W).setAt R 0 rfl a).setAt R 1 rfl b).setAt R 2 rfl c).setAt R 3 rfl d).setAt R 4 rfl e
theorem lst_at {W : World} {R : Nat} {t : TypeId} {x0 x1 x2 x3 x4 x5 : Value} (f : Value) (h : W.heap[R]? = some (.cells #[x0, x1, x2, x3, x4, x5] t (0, 0))) : (W.setCell ⟨R, 5, none⟩ f).heap[R]? = some (.cells #[x0, x1, x2, x3, x4, f] t (0, 0)) := by
  have h5 := heap_setCell_same _ R 5 _ _ f h
  simpa using h5
theorem own_fst {n : Nat} {w : World} {base R : Nat} {x : TV} {T : Tr} (h : TreeOwn n w base x T) (hR : R < base) (a b c d e : Value) : TreeOwn n (((((w.setCell ⟨R, 0, none⟩ a).setCell ⟨R, 1, none⟩ b).setCell ⟨R, 2, none⟩ c).setCell ⟨R, 3, none⟩ d).setCell ⟨R, 4, none⟩ e) base x T :=
  ((((h.setCell hR a).setCell hR b).setCell hR c).setCell hR d).setCell hR e
theorem own_six {n : Nat} {w : World} {base R : Nat} {x : TV} {T : Tr} (h : TreeOwn n w base x T) (hR : R < base) (a b c d e f : Value) : TreeOwn n ((((((w.setCell ⟨R, 0, none⟩ a).setCell ⟨R, 1, none⟩ b).setCell ⟨R, 2, none⟩ c).setCell ⟨R, 3, none⟩ d).setCell ⟨R, 4, none⟩ e).setCell ⟨R, 5, none⟩ f) base x T :=
  (own_fst h hR a b c d e).setCell hR f

end Go.Proofs.Ytnlgcolbcnhnbaa

namespace Go.Proofs.Ytnlgcolbcnhnbaa
open Go.RowKit

theorem hid9 {p : Prop} (h : p) : Hid p := h
/-- a machine whose lists lie in memory from base on -/
def MacOwn (n : Nat) (w : World) (base : Nat) (m : MacV) (T : Tr) (l : DL) : Prop := TreeOwn n w base m.x T ∧ w.ownsRow base 95 4 m.v l.length (flatD l)
theorem MacOwn.at {n : Nat} {w : World} {base : Nat} {m : MacV} {T : Tr} {l : DL} (h : MacOwn n w base m T l) : MacAt n w m T l := ⟨h.1.treeAt, Row.of_owns h.2⟩
theorem MacOwn.below {n : Nat} {w w' : World} {base : Nat} {m : MacV} {T : Tr} {l : DL} (h : MacOwn n w base m T l) (hb : Below w.heap.size w w') : MacOwn n w' base m T l := ⟨h.1.below hb, owns_below h.2 hb⟩
theorem MacOwn.low {n : Nat} {w : World} {base base' : Nat} {m : MacV} {T : Tr} {l : DL} (h : MacOwn n w base m T l) (hb : base' ≤ base) : MacOwn n w base' m T l := ⟨h.1.low hb, owns_mono h.2 hb⟩
theorem owns_but {w w' : World} {base e size k R : Nat} {v : Value} {xs : List Value} (h : w.ownsRow base e size v k xs) (hc : Chg (fun g => g = R) w w') (hR : R < base) : w'.ownsRow base e size v k xs := owns_chg h hc (fun g hg e => by have := (h.lt g hg).1; omega)
theorem MacOwn.but {n : Nat} {w w' : World} {base R : Nat} {m : MacV} {T : Tr} {l : DL} (h : MacOwn n w base m T l) (hc : Chg (fun g => g = R) w w') (hR : R < base) : MacOwn n w' base m T l := ⟨h.1.same (fun g hg hl => hc.block g hl (by omega)), owns_but h.2 hc hR⟩

set_option maxHeartbeats 2000000 in
theorem toMachine_own (n : Nat) (m : MacV) (T : Tr) (l : DL) (w : World) (h : MacAt n w m T l) (hs : sizeT n T ≤ 1048576) (hl : l.length ≤ 1048576) :
    Calls Try.prog 23 #[m.val] w fun e w' => ∃ m' : MacV, e = .returned m'.val ∧ MacOwn n w' w.heap.size m' T l ∧ Below w.heap.size w w' := by
  obtain ⟨⟨lf, p, c, k, b⟩, v⟩ := m
  have b0 : Below w.heap.size w (((w.alloc (.cells #[.bool lf, p, c, k, b, v] 33)).alloc (.cells #[.bool false, .slice none 0 0, .slice none 0 0, .slice none 0 0, .slice none 0 0, .slice none 0 0] 49)).alloc (.cells #[.bool false, .slice none 0 0, .slice none 0 0, .slice none 0 0, .slice none 0 0, .slice none 0 0] 49)) := (((Below.refl _ _).alloc (Nat.le_refl _) _).alloc (by simp) _).alloc (by simp; omega) _
  have n0 := MBox.step (MBox.step (MBox.start 33 w #[.bool lf, p, c, k, b, v]) (bel_nw _ (.cells #[.bool false, .slice none 0 0, .slice none 0 0, .slice none 0 0, .slice none 0 0, .slice none 0 0] 49))) (bel_nw _ (.cells #[.bool false, .slice none 0 0, .slice none 0 0, .slice none 0 0, .slice none 0 0, .slice none 0 0] 49))
  have n1 := MBox.step (MBox.start 49 (w.alloc (.cells #[.bool lf, p, c, k, b, v] 33)) #[.bool false, .slice none 0 0, .slice none 0 0, .slice none 0 0, .slice none 0 0, .slice none 0 0]) (bel_nw _ (.cells #[.bool false, .slice none 0 0, .slice none 0 0, .slice none 0 0, .slice none 0 0, .slice none 0 0] 49))
  have n2 := MBox.start 49 ((w.alloc (.cells #[.bool lf, p, c, k, b, v] 33)).alloc (.cells #[.bool false, .slice none 0 0, .slice none 0 0, .slice none 0 0, .slice none 0 0, .slice none 0 0] 49)) #[.bool false, .slice none 0 0, .slice none 0 0, .slice none 0 0, .slice none 0 0, .slice none 0 0]
  simp only [World.size_alloc] at n1 n2
  have zz : (((w.alloc (.cells #[.bool lf, p, c, k, b, v] 33)).alloc (.cells #[.bool false, .slice none 0 0, .slice none 0 0, .slice none 0 0, .slice none 0 0, .slice none 0 0] 49)).alloc (.cells #[.bool false, .slice none 0 0, .slice none 0 0, .slice none 0 0, .slice none 0 0, .slice none 0 0] 49)).heap.size = w.heap.size + 3 := by simp
  have c0 := n0.cells
  have H : Hid _ := And.intro h (And.intro b0 (And.intro n0 (And.intro n1 (And.intro n2 zz))))
  clear h b0 n0 n1 n2 zz
  show Calls Try.prog 23 #[.agg #[.bool lf, p, c, k, b, v]] w _
  go_enter Try.func23, Try.ntmps23
  go_wp2_with fail
  generalize (((w.alloc (.cells #[.bool lf, p, c, k, b, v] 33)).alloc (.cells #[.bool false, .slice none 0 0, .slice none 0 0, .slice none 0 0, .slice none 0 0, .slice none 0 0] 49)).alloc (.cells #[.bool false, .slice none 0 0, .slice none 0 0, .slice none 0 0, .slice none 0 0, .slice none 0 0] 49)) = W at *
  refine (toTree_any n ⟨lf, p, c, k, b⟩ T W (H.out.1.1.below H.out.2.1) hs).mono ?_
  rintro e w1 ⟨y, rfl, t1, b1⟩
  obtain ⟨h, b0, n0, n1, n2, zz⟩ := H.out
  obtain ⟨a1, a2, a3, a4, q1, q2, q3, q4, hy⟩ := t1.treeAt.shape
  generalize T.leaf = m0, T.pairs.length = m1, T.cuts.length = m2, T.kids.length = m3, T.buf.length = m4 at hy
  subst hy
  have p0 := n0.step b1
  have p1 := n1.step b1
  have p2 := n2.step b1
  have r2 := fst_at (.bool m0) (.slice a1 m1 q1) (.slice a2 m2 q2) (.slice a3 m3 q3) (.slice a4 m4 q4) p2
  have g2 := fst_chg w1 (w.heap.size + 1 + 1) (.bool m0) (.slice a1 m1 q1) (.slice a2 m2 q2) (.slice a3 m3 q3) (.slice a4 m4 q4)
  have r0 := row_chg p0 g2 (by omega)
  have r1 := row_chg p1 g2 (by omega)
  have t2 := own_fst (R := w.heap.size + 1 + 1) t1 (by omega) (.bool m0) (.slice a1 m1 q1) (.slice a2 m2 q2) (.slice a3 m3 q3) (.slice a4 m4 q4)
  have B1 := Below.and b0 b1
  have B2 := B1.trans (g2.below (fun g _ hg => by omega) B1.size)
  have f1 : ∀ j, w1.frozen? ⟨w.heap.size + 1 + 1, j, none⟩ = false := fun j => frozen_of_cells p2
  have d0 : ∀ j, w1.cell? ⟨w.heap.size + 1 + 1, j, none⟩ = (#[.bool false, .slice none 0 0, .slice none 0 0, .slice none 0 0, .slice none 0 0, .slice none 0 0] : Array Value)[j]? := fun j => cell_of_cells p2
  have d1 : ∀ j, (((((w1.setCell ⟨w.heap.size + 1 + 1, 0, none⟩ (.bool m0)).setCell ⟨w.heap.size + 1 + 1, 1, none⟩ (.slice a1 m1 q1)).setCell ⟨w.heap.size + 1 + 1, 2, none⟩ (.slice a2 m2 q2)).setCell ⟨w.heap.size + 1 + 1, 3, none⟩ (.slice a3 m3 q3)).setCell ⟨w.heap.size + 1 + 1, 4, none⟩ (.slice a4 m4 q4)).cell? ⟨w.heap.size, j, none⟩ = (#[.bool lf, p, c, k, b, v] : Array Value)[j]? := fun j => cell_of_cells r0
  have hz1 : w.heap.size + 3 ≤ w1.heap.size := by have := b1.size; omega
  have G : Hid _ := And.intro h.2 (And.intro t2 (And.intro r1 (And.intro r2 (And.intro B2 (And.intro zz hz1)))))
  clear h b0 n0 n1 n2 zz p0 p1 p2 r0 r1 r2 g2 t2 B1 B2 H t1 b1 c0
  go_wp2_with fail
  generalize hW2 : (((((w1.setCell ⟨w.heap.size + 1 + 1, 0, none⟩ (.bool m0)).setCell ⟨w.heap.size + 1 + 1, 1, none⟩ (.slice a1 m1 q1)).setCell ⟨w.heap.size + 1 + 1, 2, none⟩ (.slice a2 m2 q2)).setCell ⟨w.heap.size + 1 + 1, 3, none⟩ (.slice a3 m3 q3)).setCell ⟨w.heap.size + 1 + 1, 4, none⟩ (.slice a4 m4 q4)) = W2 at *
  obtain ⟨hv, t2, r1, r2, B2, zz, hz1⟩ := G.out
  have hz2 : W2.heap.size = w1.heap.size := by rw [← hW2]; simp
  clear d0 f1 hW2 G
  refine (toDoneS_any v l W2 (hv.below B2) hl).mono ?_
  rintro e w3 ⟨v3, rfl, o3, b3⟩
  obtain ⟨a5, q5, hv3⟩ := owns_val o3
  subst hv3
  generalize hm5 : l.length = m5 at *
  have s1 := (b3.block _ (Array.getElem?_eq_some_iff.1 r1).1).trans r1
  have s2 := (b3.block _ (Array.getElem?_eq_some_iff.1 r2).1).trans r2
  have t3 := t2.below b3
  have B3 := Below.and B2 b3
  have u2 := lst_at (.slice a5 m5 q5) s2
  have g3 : Chg (fun g => g = w.heap.size + 1 + 1) w3 (w3.setCell ⟨w.heap.size + 1 + 1, 5, none⟩ (.slice a5 m5 q5)) := (Chg.refl (fun g => g = w.heap.size + 1 + 1) w3).setAt (w.heap.size + 1 + 1) 5 rfl (.slice a5 m5 q5)
  have u1 := row_chg s1 g3 (by omega)
  have t4 := t3.setCell (a := ⟨w.heap.size + 1 + 1, 5, none⟩) (by simp only; omega) (.slice a5 m5 q5)
  have o4 := owns_chg o3 g3 (fun g hg e => by have := (o3.lt g hg).1; omega)
  have B4 := B3.trans (g3.below (fun g _ hg => by omega) B3.size)
  have x1 := six_at (.bool m0) (.slice a1 m1 q1) (.slice a2 m2 q2) (.slice a3 m3 q3) (.slice a4 m4 q4) (.slice a5 m5 q5) u1
  have g5 := six_chg (w3.setCell ⟨w.heap.size + 1 + 1, 5, none⟩ (.slice a5 m5 q5)) (w.heap.size + 1) (.bool m0) (.slice a1 m1 q1) (.slice a2 m2 q2) (.slice a3 m3 q3) (.slice a4 m4 q4) (.slice a5 m5 q5)
  have t5 := own_six (R := w.heap.size + 1) t4 (by omega) (.bool m0) (.slice a1 m1 q1) (.slice a2 m2 q2) (.slice a3 m3 q3) (.slice a4 m4 q4) (.slice a5 m5 q5)
  have o5 := owns_chg o4 g5 (fun g hg e => by have := (o4.lt g hg).1; omega)
  have B5 := B4.trans (g5.below (fun g _ hg => by omega) B4.size)
  have f2 : ∀ j, w3.frozen? ⟨w.heap.size + 1 + 1, j, none⟩ = false := fun j => frozen_of_cells s2
  have f3 : ∀ j, (w3.setCell ⟨w.heap.size + 1 + 1, 5, none⟩ (.slice a5 m5 q5)).frozen? ⟨w.heap.size + 1, j, none⟩ = false := fun j => frozen_of_cells u1
  have c2 : ∀ j, w3.cell? ⟨w.heap.size + 1 + 1, j, none⟩ = (#[.bool m0, .slice a1 m1 q1, .slice a2 m2 q2, .slice a3 m3 q3, .slice a4 m4 q4, .slice none 0 0] : Array Value)[j]? := fun j => cell_of_cells s2
  have c3 : ∀ j, (w3.setCell ⟨w.heap.size + 1 + 1, 5, none⟩ (.slice a5 m5 q5)).cell? ⟨w.heap.size + 1 + 1, j, none⟩ = (#[.bool m0, .slice a1 m1 q1, .slice a2 m2 q2, .slice a3 m3 q3, .slice a4 m4 q4, .slice a5 m5 q5] : Array Value)[j]? := fun j => cell_of_cells u2
  have c4 : ∀ j, (w3.setCell ⟨w.heap.size + 1 + 1, 5, none⟩ (.slice a5 m5 q5)).cell? ⟨w.heap.size + 1, j, none⟩ = (#[.bool false, .slice none 0 0, .slice none 0 0, .slice none 0 0, .slice none 0 0, .slice none 0 0] : Array Value)[j]? := fun j => cell_of_cells u1
  have X1 : Hid _ := x1
  have K : Hid _ := And.intro (t5.low (by omega : w.heap.size ≤ _)) (And.intro (owns_mono (base' := w.heap.size) o5 (by omega)) B5)
  clear s1 s2 t3 B3 u2 g3 u1 t4 o4 B4 x1 g5 t5 o5 B5 o3 b3 r1 r2 t2 B2 hv zz hz1 hz2 d1
  go_wp2_with fail
  simp [bodyPost, results, Try.results23, go_sem, cell_of_cells X1.out]
  refine ⟨⟨⟨m0, .slice a1 m1 q1, .slice a2 m2 q2, .slice a3 m3 q3, .slice a4 m4 q4⟩, .slice a5 m5 q5⟩, by simp, ⟨K.out.1, ?_⟩, K.out.2.2⟩
  have := K.out.2.1
  rw [hm5]
  exact this

end Go.Proofs.Ytnlgcolbcnhnbaa
