/-
  MachineOk of the model.
  LogOk of both sides.
  A call in a region by the callee's contract, without a walk.
  What RpcOk tells, as a plain function; the model's RpcOk.
-/
import Derived.Test.YtmdajbbpigbdcaaOfRpc4
import Derived.Test.YtmdajbbpigbdcaaOfRpc8
import Derived.BigQuiet
import Derived.Deep.DeepCutAuto
import Derived.Deep.CutBlock
import Derived.Deep.QuietTactic
import Derived.Test.YtmdajbbpigbdcaaOfRpc6
import Derived.Test.YtmdajbbpigbdcaaOfRpc1
import Derived.WalkKit
import Derived.Deep.RegionHeld3
namespace Go.Proofs.Ytmdajbbpigbdcaa
open Go.RowKit

/-- what was done last is as told, and behind the one ahead of it -/
def doneAt (l : DL) (k : Nat) : Bool := inB (dC l k) 1 9 && inB (dS l k) 1 100000 && inB (dV l k) (-1000000000) 1000000000 && (k == 0 || decide (dC l (k - 1) < dC l k))
def donesOk (l : DL) : Bool := (List.range l.length).all (doneAt l)
theorem donesOk_true {l : DL} (h : ∀ k, k < l.length → doneAt l k = true) : donesOk l = true := by
  unfold donesOk; rw [List.all_eq_true]; intro k hk; exact h k (List.mem_range.1 hk)
theorem donesOk_false {l : DL} {k : Nat} (hk : k < l.length) (h : doneAt l k = false) : donesOk l = false := by
  unfold donesOk; rw [List.all_eq_false]; exact ⟨k, List.mem_range.2 hk, by simp [h]⟩
theorem doneAt_c {l : DL} {k : Nat} (h : inB (dC l k) 1 9 = false) : doneAt l k = false := by simp [doneAt, h]
theorem doneAt_s {l : DL} {k : Nat} (h : inB (dS l k) 1 100000 = false) : doneAt l k = false := by simp [doneAt, h]
theorem doneAt_v {l : DL} {k : Nat} (h : inB (dV l k) (-1000000000) 1000000000 = false) : doneAt l k = false := by simp [doneAt, h]
theorem doneAt_zero {l : DL} (h1 : inB (dC l 0) 1 9 = true) (h2 : inB (dS l 0) 1 100000 = true) (h3 : inB (dV l 0) (-1000000000) 1000000000 = true) : doneAt l 0 = true := by simp [doneAt, h1, h2, h3]
theorem doneAt_succ {l : DL} {k : Nat} (h1 : inB (dC l (k + 1)) 1 9 = true) (h2 : inB (dS l (k + 1)) 1 100000 = true) (h3 : inB (dV l (k + 1)) (-1000000000) 1000000000 = true) (h : dC l k < dC l (k + 1)) : doneAt l (k + 1) = true := by simp [doneAt, h1, h2, h3, h]
theorem doneAt_lt {l : DL} {k : Nat} (h : ¬ dC l k < dC l (k + 1)) : doneAt l (k + 1) = false := by simp [doneAt]; intros; omega
/-- the machine is right -/
def machOk (T : Tr) (l : DL) : Bool := okT T && donesOk l

set_option maxRecDepth 100000 in
set_option maxHeartbeats 4000000 in
theorem specMachineOk_any (n : Nat) (m : MacV) (T : Tr) (l : DL) (w : World) (h : MacAt n w m T l) (hsz : sizeT n T ≤ 1099511627776) :
    Calls Try.prog 38 #[m.val] w fun e w' => e = .returned (.bool (machOk T l)) ∧ Below w.heap.size w w' := by
  obtain ⟨a, b, off, cap, hv, hcap, hmax, ha, hx0, hx1, hx2, hx3⟩ := h.2.dones
  obtain ⟨⟨lf, p, c, k, bf⟩, v⟩ := m
  simp only at hv
  subst hv
  unfold maxLen at hmax
  have TT : Hid (TreeAt n w ⟨lf, p, c, k, bf⟩ T) := h.1
  have N1 : Hid (MBox 33 (w.alloc (.cells #[.bool lf, p, c, k, bf, .slice a l.length cap] 33)) w.heap.size #[.bool lf, p, c, k, bf, .slice a l.length cap]) := MBox.start _ w _
  have B1 : Hid (Below w.heap.size w (w.alloc (.cells #[.bool lf, p, c, k, bf, .slice a l.length cap] 33))) := bel_nw _ _
  clear h
  show Calls Try.prog 38 #[.agg #[.bool lf, p, c, k, bf, .slice a l.length cap]] w _
  go_enter Try.func38, Try.ntmps38
  go_upto_region 1 with fail
  generalize w.alloc (.cells #[.bool lf, p, c, k, bf, .slice a l.length cap] 33) = W at *
  go_wp2
  go_loopw [3] (fun i wr => ∃ j : Nat, j ≤ l.length ∧ i = .int .i64 j ∧ Hid (∀ i, i < j → doneAt l i = true) ∧ Hid (Below W.heap.size W wr))
    (fun i _ => l.length - (intOf i).toNat)
  case atStart => exact ⟨0, Nat.zero_le _, rfl, fun i hi => absurd hi (Nat.not_lt_zero _), Below.refl _ _⟩
  case round =>
    obtain ⟨j, hjl, rfl, ALL, hbW⟩ := hrel
    have c1 := (N1.out.step hbW.out).cells
    have hb : Hid (Below w.heap.size w wr) := Below.and B1.out hbW.out
    by_cases hlt : j < l.length
    · have hal := ha (by omega)
      subst hal
      have d0 : wr.cell? ⟨b, off + j * 4, none⟩ = some (.int .i64 (dC l j)) := (hb.out.cell (by exact cell_lt (hx0 j hlt))).trans (hx0 j hlt)
      have d1 : wr.cell? ⟨b, off + j * 4 + 1, none⟩ = some (.int .i64 (dS l j)) := (hb.out.cell (by exact cell_lt (hx1 j hlt))).trans (hx1 j hlt)
      have d2 : wr.cell? ⟨b, off + j * 4 + 2, none⟩ = some (.int .i64 (dV l j)) := (hb.out.cell (by exact cell_lt (hx2 j hlt))).trans (hx2 j hlt)
      have d3 : wr.cell? ⟨b, off + j * 4 + 3, none⟩ = some (.bool (dH l j)) := (hb.out.cell (by exact cell_lt (hx3 j hlt))).trans (hx3 j hlt)
      have NB : Hid (Below wr.heap.size wr (wr.alloc (.cells #[.int .i64 (dC l j), .int .i64 (dS l j), .int .i64 (dV l j), .bool (dH l j)] 109))) := bel_nw _ _
      have NX : Hid (MBox 109 (wr.alloc (.cells #[.int .i64 (dC l j), .int .i64 (dS l j), .int .i64 (dV l j), .bool (dH l j)] 109)) wr.heap.size #[.int .i64 (dC l j), .int .i64 (dS l j), .int .i64 (dV l j), .bool (dH l j)]) := MBox.start _ wr _
      go_upto_region 5 with fail
      generalize wr.alloc (.cells #[.int .i64 (dC l j), .int .i64 (dS l j), .int .i64 (dV l j), .bool (dH l j)] 109) = V at *
      generalize hbx : wr.heap.size = bx at *
      have e0 := NX.out.cells
      have c2 := (N1.out.step (hbW.out.trans (NB.out.mono (by rw [← hbx]; exact hbW.out.size)))).cells
      have FV : Hid (Below W.heap.size W V) := hbW.out.trans (NB.out.mono (by rw [← hbx]; exact hbW.out.size))
      have FB : Hid (Below w.heap.size w V) := Below.and B1.out FV.out
      clear c1 d0 d1 d2 d3
      cases hK : inB (dC l j) 1 9
      · have NE : Hid (machOk T l = false) := by show _ = _; rw [machOk, donesOk_false hlt (doneAt_c hK), Bool.and_false]
        clear hx0 hx1 hx2 hx3
        go_wp2_with fail
        go_quiet (first | (go_at_call 15; exact Calls.quiet_of_same (l1In_any _ _ _ _)) | (go_at_call 62; exact Calls.quiet_of_same (l1Value_any _ _)))
        go_wp2
        go_ret
        exact ⟨ret_bool NE.out.symm, below_drewN FB.out _⟩
      · cases hS : inB (dS l j) 1 100000
        · have NE : Hid (machOk T l = false) := by show _ = _; rw [machOk, donesOk_false hlt (doneAt_s hS), Bool.and_false]
          clear hx0 hx1 hx2 hx3
          go_wp2_with fail
          go_quiet (first | (go_at_call 15; exact Calls.quiet_of_same (l1In_any _ _ _ _)) | (go_at_call 62; exact Calls.quiet_of_same (l1Value_any _ _)))
          go_wp2
          go_ret
          exact ⟨ret_bool NE.out.symm, below_drewN FB.out _⟩
        · cases hV : inB (dV l j) (-1000000000) 1000000000
          · have NE : Hid (machOk T l = false) := by show _ = _; rw [machOk, donesOk_false hlt (doneAt_v hV), Bool.and_false]
            clear hx0 hx1 hx2 hx3
            go_wp2_with fail
            go_quiet (first | (go_at_call 15; exact Calls.quiet_of_same (l1In_any _ _ _ _)) | (go_at_call 62; exact Calls.quiet_of_same (l1Value_any _ _)))
            go_wp2
            go_ret
            exact ⟨ret_bool NE.out.symm, below_drewN FB.out _⟩
          · cases j with
            | zero =>
              have OK : Hid (doneAt l 0 = true) := doneAt_zero hK hS hV
              clear hx0 hx1 hx2 hx3
              go_wp2_with fail
              go_quiet (first | (go_at_call 15; exact Calls.quiet_of_same (l1In_any _ _ _ _)) | (go_at_call 62; exact Calls.quiet_of_same (l1Value_any _ _)))
              go_wp2
              go_roundw
              case rel => exact ⟨1, by omega, by go_num, fun i hi => by rw [show i = 0 by omega]; exact OK.out, below_drewN FV.out _⟩
              case measure => simp [intOf]; omega
            | succ j =>
              have hpos : (0 : Int) < ((j + 1 : Nat) : Int) := by omega
              have g2 : V.cell? ⟨b, off + j * 4, none⟩ = some (.int .i64 (dC l j)) := (FB.out.cell (by exact cell_lt (hx0 j (by omega)))).trans (hx0 j (by omega))
              clear hx0 hx1 hx2 hx3
              by_cases hord : dC l j < dC l (j + 1)
              · have OK : Hid (doneAt l (j + 1) = true) := doneAt_succ hK hS hV hord
                go_wp2_with fail
                go_quiet (first | (go_at_call 15; exact Calls.quiet_of_same (l1In_any _ _ _ _)) | (go_at_call 62; exact Calls.quiet_of_same (l1Value_any _ _)))
                go_wp2
                go_roundw
                case rel => exact ⟨j + 1 + 1, by omega, by go_num, fun i hi => if h : i < j + 1 then ALL.out i h else by rw [show i = j + 1 by omega]; exact OK.out, below_drewN FV.out _⟩
                case measure => simp [intOf]; omega
              · have NE : Hid (machOk T l = false) := by show _ = _; rw [machOk, donesOk_false hlt (doneAt_lt hord), Bool.and_false]
                go_wp2_with fail
                go_quiet (first | (go_at_call 15; exact Calls.quiet_of_same (l1In_any _ _ _ _)) | (go_at_call 62; exact Calls.quiet_of_same (l1Value_any _ _)))
                go_wp2
                go_ret
                exact ⟨ret_bool NE.out.symm, below_drewN FB.out _⟩
    · have OK : Hid (machOk T l = okT T) := by show _ = _; rw [machOk, donesOk_true (fun i hi => ALL.out i (by omega)), Bool.and_true]
      clear hx0 hx1 hx2 hx3
      go_wp2_with fail
      refine (specTreeOk_any n ⟨lf, p, c, k, bf⟩ T wr (TT.out.below hb.out) hsz).mono ?_
      rintro e w5 ⟨rfl, b5⟩
      go_wp2
      go_ret
      exact ⟨ret_bool OK.out.symm, Below.and hb.out b5⟩

end Go.Proofs.Ytmdajbbpigbdcaa

namespace Go.Proofs.Ytmdajbbpigbdcaa
open Go.RowKit

/-- the Term ahead of the entry k -/
def prevT (bt : Int) (l : EL) (k : Nat) : Int := if k = 0 then bt else eT l (k - 1)
/-- the entry k is right behind the one ahead of it -/
def entAt (bt : Int) (l : EL) (k : Nat) : Bool := inB (eT l k) (prevT bt l k) 100000 && cmdOkB (eC l k) (eS l k) (eO l k) (eK l k) (eV l k)
def entsOk (bt : Int) (l : EL) : Bool := (List.range l.length).all (entAt bt l)
/-- the log is right -/
def logOkB (b bt : Int) (l : EL) : Bool := inB b 0 100000 && (inB bt 0 100000 && (decide (b + l.length ≤ 100000) && entsOk bt l))
end Go.Proofs.Ytmdajbbpigbdcaa

namespace Go.Proofs.Ytmdajbbpigbdcaa
open Go.RowKit

theorem call_by {P : Program} {o : Oper} {a : Act} {K : Act → World → Prop} {Q : Exit → Act → World → Prop} {w : World} {R : Ending → World → Prop} (f : FuncId) (xs : List Operand) (ats : Array TypeId)
    (ho : o.op = .call { callee := .value (.func f), args := xs.toArray, argTypes := ats }) (hrun : ∀ args w, (callFunc f args).run P w = .ok (.enter f args) w) (args : List Value) (he : xs.map a.eval = args)
    (h : Calls P f args.toArray w R) (hk : ∀ e w', R e w' → ∃ v, e = .returned v ∧ K (a.put o.dst v) w') : o.wp P a w K Q := by
  have ef : a.eval (.func f) = .func (.func f) #[] #[] := rfl
  have hx : execOp a.eval o = callFunc f args.toArray := by
    unfold execOp
    simp [ho, resolve, Deferred.ofValue, invoke, ef, he]
  unfold Oper.wp
  rw [hx, hrun, Oper.upon_enter]
  refine Calls.mono h ?_
  intro e w' hr
  obtain ⟨v, rfl, hk⟩ := hk e w' hr
  exact hk

end Go.Proofs.Ytmdajbbpigbdcaa

namespace Go.Proofs.Ytmdajbbpigbdcaa
open Go.RowKit

theorem hidS {p : Prop} (h : p) : Hid p := h
theorem run_l1In (args : Array Value) (w : World) : (callFunc 15 args).run Try.prog w = .ok (.enter 15 args) w := by go_simp
theorem run_sCmdOk (args : Array Value) (w : World) : (callFunc 37 args).run Try.prog w = .ok (.enter 37 args) w := by go_simp
/-- the entry k is right below a Term -/
def rentAt (te : Int) (l : EL) (k : Nat) : Bool := inB (eT l k) 0 te && cmdOkB (eC l k) (eS l k) (eO l k) (eK l k) (eV l k)
def rentsOk (te : Int) (l : EL) : Bool := (List.range l.length).all (rentAt te l)
theorem rentsOk_true {te : Int} {l : EL} (h : ∀ k, k < l.length → rentAt te l k = true) : rentsOk te l = true := by
  unfold rentsOk; rw [List.all_eq_true]; intro k hk; exact h k (List.mem_range.1 hk)
theorem rentsOk_false {te : Int} {l : EL} {k : Nat} (hk : k < l.length) (h : rentAt te l k = false) : rentsOk te l = false := by
  unfold rentsOk; rw [List.all_eq_false]; exact ⟨k, List.mem_range.2 hk, by simp [h]⟩
theorem rentAt_t {te : Int} {l : EL} {k : Nat} (h : inB (eT l k) 0 te = false) : rentAt te l k = false := by simp [rentAt, h]
theorem rentAt_c {te : Int} {l : EL} {k : Nat} (h : cmdOkB (eC l k) (eS l k) (eO l k) (eK l k) (eV l k) = false) : rentAt te l k = false := by simp [rentAt, h]
theorem rentAt_y {te : Int} {l : EL} {k : Nat} (h1 : inB (eT l k) 0 te = true) (h : cmdOkB (eC l k) (eS l k) (eO l k) (eK l k) (eV l k) = true) : rentAt te l k = true := by simp [rentAt, h1, h]
/-- what RpcOk tells by what its parts tell -/
def rpcP (kd fr tt te ix it cm size : Int) (eo mo : Bool) : Bool := inB kd 1 5 && (inB size 1 5 && (inB fr 0 (size - 1) && (inB tt 0 (size - 1) && (decide (fr ≠ tt) && (inB te 0 100000 && (inB ix 0 100000 && (inB it 0 100000 && (inB cm 0 100000 && (eo && ((!(kd == 5)) || mo))))))))))
def rpcOkB (R : RpcV) (D : Rd) (size : Int) : Bool := rpcP R.kd R.fr R.tt R.te R.ix R.it R.cm size (rentsOk R.te D.l) (machOk D.T D.d)

set_option maxRecDepth 100000 in
set_option maxHeartbeats 4000000 in
theorem specRpcOk_any (n : Nat) (R : RpcV) (D : Rd) (size : Int) (w : World) (h : RpcAt n w R D) (hs : D.small n) :
    Calls Try.prog 11 #[R.val, .int .i64 size] w fun e w' => e = .returned (.bool (rpcOkB R D size)) ∧ Below w.heap.size w w' := by
  obtain ⟨kd, fr, tt, te, ix, it, cm, ok, ev, ⟨⟨sl, sp, sc, sk, sb⟩, sv⟩⟩ := R
  obtain ⟨q1, q2⟩ := h
  obtain ⟨hs1, hs2, hs3⟩ := hs
  obtain ⟨a, bb, off, cap, he, hcap, hmax, ha, hx0, hx1, hx2, hx3, hx4, hx5⟩ := q1.ents
  simp only at he
  subst he
  unfold maxLen at hmax
  have S2 : Hid (∀ u, Below w.heap.size w u → Calls Try.prog 38 #[.agg #[.bool sl, sp, sc, sk, sb, sv]] u fun e w' => e = .returned (.bool (machOk D.T D.d)) ∧ Below u.heap.size u w') := fun u hu => specMachineOk_any n ⟨⟨sl, sp, sc, sk, sb⟩, sv⟩ D.T D.d u (q2.below hu) (by omega)
  have X0 : Hid (∀ j u, Below w.heap.size w u → j < D.l.length → u.cell? ⟨bb, off + j * 6, none⟩ = some (.int .i64 (eT D.l j))) := fun j u hu hj => (hu.cell (by exact cell_lt (hx0 j hj))).trans (hx0 j hj)
  have X1 : Hid (∀ j u, Below w.heap.size w u → j < D.l.length → u.cell? ⟨bb, off + j * 6 + 1, none⟩ = some (.int .i64 (eC D.l j))) := fun j u hu hj => (hu.cell (by exact cell_lt (hx1 j hj))).trans (hx1 j hj)
  have X2 : Hid (∀ j u, Below w.heap.size w u → j < D.l.length → u.cell? ⟨bb, off + j * 6 + 2, none⟩ = some (.int .i64 (eS D.l j))) := fun j u hu hj => (hu.cell (by exact cell_lt (hx2 j hj))).trans (hx2 j hj)
  have X3 : Hid (∀ j u, Below w.heap.size w u → j < D.l.length → u.cell? ⟨bb, off + j * 6 + 3, none⟩ = some (.int .i64 (eO D.l j))) := fun j u hu hj => (hu.cell (by exact cell_lt (hx3 j hj))).trans (hx3 j hj)
  have X4 : Hid (∀ j u, Below w.heap.size w u → j < D.l.length → u.cell? ⟨bb, off + j * 6 + 4, none⟩ = some (.int .i64 (eK D.l j))) := fun j u hu hj => (hu.cell (by exact cell_lt (hx4 j hj))).trans (hx4 j hj)
  have X5 : Hid (∀ j u, Below w.heap.size w u → j < D.l.length → u.cell? ⟨bb, off + j * 6 + 5, none⟩ = some (.int .i64 (eV D.l j))) := fun j u hu hj => (hu.cell (by exact cell_lt (hx5 j hj))).trans (hx5 j hj)
  have AL : Hid (0 < D.l.length → a = some ⟨bb, off, none⟩) := ha
  have F0 : Hid (∀ k, k < D.l.length → inB (eT D.l k) 0 te = false → rentsOk te D.l = false) := fun k hk h => rentsOk_false hk (rentAt_t h)
  have F1 : Hid (∀ k, k < D.l.length → cmdOkB (eC D.l k) (eS D.l k) (eO D.l k) (eK D.l k) (eV D.l k) = false → rentsOk te D.l = false) := fun k hk h => rentsOk_false hk (rentAt_c h)
  have F2 : Hid ((∀ k, k < D.l.length → inB (eT D.l k) 0 te = true ∧ cmdOkB (eC D.l k) (eS D.l k) (eO D.l k) (eK D.l k) (eV D.l k) = true) → rentsOk te D.l = true) := fun h => rentsOk_true (fun k hk => rentAt_y (h k hk).1 (h k hk).2)
  clear q1 q2 hx0 hx1 hx2 hx3 hx4 hx5 ha hs1 hs2 hs3
  unfold rpcOkB
  simp only
  generalize machOk D.T D.d = mo at *
  generalize rentsOk te D.l = eo at *
  generalize eT D.l = gT at *
  generalize eC D.l = gC at *
  generalize eS D.l = gS at *
  generalize eO D.l = gO at *
  generalize eK D.l = gK at *
  generalize eV D.l = gV at *
  generalize D.l.length = nE at *
  have N1 : Hid (MBox 56 (w.alloc (.cells #[.int .i64 kd, .int .i64 fr, .int .i64 tt, .int .i64 te, .int .i64 ix, .int .i64 it, .int .i64 cm, .bool ok, .slice a nE cap, .bool sl, sp, sc, sk, sb, sv] 56)) w.heap.size #[.int .i64 kd, .int .i64 fr, .int .i64 tt, .int .i64 te, .int .i64 ix, .int .i64 it, .int .i64 cm, .bool ok, .slice a nE cap, .bool sl, sp, sc, sk, sb, sv]) := MBox.start _ w _
  have B1 : Hid (Below w.heap.size w (w.alloc (.cells #[.int .i64 kd, .int .i64 fr, .int .i64 tt, .int .i64 te, .int .i64 ix, .int .i64 it, .int .i64 cm, .bool ok, .slice a nE cap, .bool sl, sp, sc, sk, sb, sv] 56))) := bel_nw _ _
  have c1 := N1.out.cells
  show Calls Try.prog 11 #[.agg #[.int .i64 kd, .int .i64 fr, .int .i64 tt, .int .i64 te, .int .i64 ix, .int .i64 it, .int .i64 cm, .bool ok, .slice a nE cap, .bool sl, sp, sc, sk, sb, sv], .int .i64 size] w _
  go_enter Try.func11, Try.ntmps11
  go_wp2_with fail
  generalize w.alloc (.cells #[.int .i64 kd, .int .i64 fr, .int .i64 tt, .int .i64 te, .int .i64 ix, .int .i64 it, .int .i64 cm, .bool ok, .slice a nE cap, .bool sl, sp, sc, sk, sb, sv] 56) = W at *
  refine (l1In_any _ _ _ _).mono ?_
  rintro e w1 ⟨rfl, hw1⟩
  subst hw1
  cases h1 : inB kd 1 5
  · go_wp2
    go_ret
    exact ⟨ret_bool (by simp [rpcP, h1]), B1.out⟩
  go_wp2_with fail
  refine (l1In_any _ _ _ _).mono ?_
  rintro e w2 ⟨rfl, hw2⟩
  subst hw2
  cases h2 : inB size 1 5
  · go_wp2
    go_ret
    exact ⟨ret_bool (by simp [rpcP, h2]), B1.out⟩
  have hz := inB_iff.1 h2
  have hws : IntKind.i64.wrap (size - 1) = size - 1 := by rw [IntKind.wrap_i64]; omega
  go_wp2_with fail
  refine (l1In_any _ _ _ _).mono ?_
  rintro e w3 ⟨rfl, hw3⟩
  subst hw3
  cases h3 : inB fr 0 (size - 1)
  · go_wp2
    go_ret
    exact ⟨ret_bool (by simp [rpcP, h3]), B1.out⟩
  go_wp2_with fail
  refine (l1In_any _ _ _ _).mono ?_
  rintro e w4 ⟨rfl, hw4⟩
  subst hw4
  cases h4 : inB tt 0 (size - 1)
  · go_wp2
    go_ret
    exact ⟨ret_bool (by simp [rpcP, h4]), B1.out⟩
  by_cases h5 : fr = tt
  · have h5b : (fr == tt) = true := by simp [h5]
    go_wp2
    go_ret
    exact ⟨ret_bool (by simp [rpcP, h5]), B1.out⟩
  have h5b : (fr == tt) = false := by simp [h5]
  go_wp2_with fail
  refine (l1In_any _ _ _ _).mono ?_
  rintro e w6 ⟨rfl, hw6⟩
  subst hw6
  cases h6 : inB te 0 100000
  · go_wp2
    go_ret
    exact ⟨ret_bool (by simp [rpcP, h6]), B1.out⟩
  go_wp2_with fail
  refine (l1In_any _ _ _ _).mono ?_
  rintro e w7 ⟨rfl, hw7⟩
  subst hw7
  cases h7 : inB ix 0 100000
  · go_wp2
    go_ret
    exact ⟨ret_bool (by simp [rpcP, h7]), B1.out⟩
  go_wp2_with fail
  refine (l1In_any _ _ _ _).mono ?_
  rintro e w8 ⟨rfl, hw8⟩
  subst hw8
  cases h8 : inB it 0 100000
  · go_wp2
    go_ret
    exact ⟨ret_bool (by simp [rpcP, h8]), B1.out⟩
  go_wp2_with fail
  refine (l1In_any _ _ _ _).mono ?_
  rintro e w9 ⟨rfl, hw9⟩
  subst hw9
  cases h9 : inB cm 0 100000
  · go_wp2
    go_ret
    exact ⟨ret_bool (by simp [rpcP, h9]), B1.out⟩
  have OK0 : Hid (rpcP kd fr tt te ix it cm size eo mo = (eo && ((!(kd == 5)) || mo))) := by
    show _ = _
    unfold rpcP
    rw [h1, h2, h3, h4, h6, h7, h8, h9, decide_eq_true h5]
    simp
  clear h1 h2 h3 h4 h6 h7 h8 h9 hws hz
  go_wp2
  go_loopw [5] (fun i wr => ∃ k : Nat, k ≤ nE ∧ i = .int .i64 k ∧ Hid (Below w9.heap.size w9 wr) ∧ Hid (∀ j, j < k → inB (gT j) 0 te = true ∧ cmdOkB (gC j) (gS j) (gO j) (gK j) (gV j) = true))
    (fun i _ => nE - (intOf i).toNat)
  case atStart => exact ⟨0, Nat.zero_le _, rfl, Below.refl _ _, fun j hj => absurd hj (Nat.not_lt_zero _)⟩
  case round =>
    obtain ⟨k, hk, rfl, BW, ALL⟩ := hrel
    have c2 := (N1.out.step BW.out).cells
    clear c1
    have B2 : Hid (Below w.heap.size w wr) := Below.and B1.out BW.out
    by_cases hlt : k < nE
    · have hal := AL.out (by omega)
      subst hal
      have d0 := X0.out k _ B2.out hlt
      have d1 := X1.out k _ B2.out hlt
      have d2 := X2.out k _ B2.out hlt
      have d3 := X3.out k _ B2.out hlt
      have d4 := X4.out k _ B2.out hlt
      have d5 := X5.out k _ B2.out hlt
      have hk0 : (0 : Int) ≤ (k : Int) := by omega
      have hk1 : (k : Int) < (nE : Int) := by omega
      have c23 := c2 3
      have c28 := c2 8
      cases x1 : inB (gT k) 0 te
      · have E1 : Hid (rpcP kd fr tt te ix it cm size eo mo = false) := by show _ = _; rw [OK0.out, F0.out k hlt x1]; rfl
        go_wp2_with fail
        go_quiet (first | (go_at_call 15; exact Calls.quiet_of_same (l1In_any _ _ _ _)))
        go_wp2
        go_ret
        exact ⟨ret_bool E1.out.symm, below_drewN B2.out _⟩
      · have KE : Hid (∀ u, Below wr.heap.size wr u → (fun u : World => u.cell? ⟨w.heap.size, 3, none⟩ = some (.int .i64 te) ∧ u.cell? ⟨w.heap.size, 8, none⟩ = some (.slice (some ⟨bb, off, none⟩) nE cap) ∧ u.cell? ⟨bb, off + k * 6, none⟩ = some (.int .i64 (gT k)) ∧ u.cell? ⟨bb, off + k * 6 + 1, none⟩ = some (.int .i64 (gC k)) ∧ u.cell? ⟨bb, off + k * 6 + 2, none⟩ = some (.int .i64 (gS k)) ∧ u.cell? ⟨bb, off + k * 6 + 3, none⟩ = some (.int .i64 (gO k)) ∧ u.cell? ⟨bb, off + k * 6 + 4, none⟩ = some (.int .i64 (gK k)) ∧ u.cell? ⟨bb, off + k * 6 + 5, none⟩ = some (.int .i64 (gV k))) u) := fun u hu => by
          have c3 := ((N1.out.step BW.out).step hu).cells
          have B4 := Below.and B2.out hu
          exact ⟨c3 3, c3 8, X0.out k u B4 hlt, X1.out k u B4 hlt, X2.out k u B4 hlt, X3.out k u B4 hlt, X4.out k u B4 hlt, X5.out k u B4 hlt⟩
        have RL : Hid (Below wr.heap.size wr wr.drew) := (Below.refl _ _).drew
        go_wp2_with fail
        refine wp_region_held_drew (S := (fun u : World => u.cell? ⟨w.heap.size, 3, none⟩ = some (.int .i64 te) ∧ u.cell? ⟨w.heap.size, 8, none⟩ = some (.slice (some ⟨bb, off, none⟩) nE cap) ∧ u.cell? ⟨bb, off + k * 6, none⟩ = some (.int .i64 (gT k)) ∧ u.cell? ⟨bb, off + k * 6 + 1, none⟩ = some (.int .i64 (gC k)) ∧ u.cell? ⟨bb, off + k * 6 + 2, none⟩ = some (.int .i64 (gS k)) ∧ u.cell? ⟨bb, off + k * 6 + 3, none⟩ = some (.int .i64 (gO k)) ∧ u.cell? ⟨bb, off + k * 6 + 4, none⟩ = some (.int .i64 (gK k)) ∧ u.cell? ⟨bb, off + k * 6 + 5, none⟩ = some (.int .i64 (gV k)))) (by kernel_rfl) (KE.out _ RL.out) (fun hH => ?_)
        refine wpAnyH_take (i := 0) (oi := ⟨_, _, _, _, _, _⟩) (v := ?_) rfl (by kernel_rfl) (by kernel_rfl) (by kernel_rfl) (fun _ _ _ h => h) (Or.inl ⟨by rfl, ?_⟩) (by assumption) ?_
        rotate_left
        · ((intro w hSw; (try dsimp only at hSw); go_simp); (try with_reducible rfl))
        try simp only [Act.put, List.setIfInBounds_toArray, List.set_cons_zero, List.set_cons_succ]
        refine wpAnyH_take (i := 1) (oi := ⟨_, _, _, _, _, _⟩) (v := ?_) rfl (by kernel_rfl) (by kernel_rfl) (by kernel_rfl) (fun _ _ _ h => h) (Or.inl ⟨by rfl, ?_⟩) (by assumption) ?_
        rotate_left
        · ((intro w hSw; (try dsimp only at hSw); go_simp); (try with_reducible rfl))
        try simp only [Act.put, List.setIfInBounds_toArray, List.set_cons_zero, List.set_cons_succ]
        refine wpAnyH_take (i := 2) (oi := ⟨_, _, _, _, _, _⟩) (v := ?_) rfl (by kernel_rfl) (by kernel_rfl) (by kernel_rfl) (fun _ _ _ h => h) (Or.inl ⟨by rfl, ?_⟩) (by assumption) ?_
        rotate_left
        · ((intro w hSw; (try dsimp only at hSw); go_simp); (try with_reducible rfl))
        try simp only [Act.put, List.setIfInBounds_toArray, List.set_cons_zero, List.set_cons_succ]
        refine wpAnyH_take (i := 3) (oi := ⟨_, _, _, _, _, _⟩) (v := ?_) rfl (by kernel_rfl) (by kernel_rfl) (by kernel_rfl) (fun _ _ _ h => h) (Or.inl ⟨by rfl, ?_⟩) (by assumption) ?_
        rotate_left
        · ((intro w hSw; (try dsimp only at hSw); go_simp); (try with_reducible rfl))
        try simp only [Act.put, List.setIfInBounds_toArray, List.set_cons_zero, List.set_cons_succ]
        refine wpAnyH_take (i := 4) (oi := ⟨_, _, _, _, _, _⟩) (v := ?_) rfl (by kernel_rfl) (by kernel_rfl) (by kernel_rfl) (fun _ _ _ h => h) (Or.inl ⟨by rfl, ?_⟩) (by assumption) ?_
        rotate_left
        · ((intro w hSw; (try dsimp only at hSw); go_simp); (try with_reducible rfl))
        try simp only [Act.put, List.setIfInBounds_toArray, List.set_cons_zero, List.set_cons_succ]
        refine wpAnyH_take (i := 5) (oi := ⟨_, _, _, _, _, _⟩) (v := ?_) rfl (by kernel_rfl) (by kernel_rfl) (by kernel_rfl) (fun _ _ _ h => h) (Or.inl ⟨by rfl, ?_⟩) (by assumption) ?_
        rotate_left
        · ((intro w hSw; (try dsimp only at hSw); go_simp); (try with_reducible rfl))
        try simp only [Act.put, List.setIfInBounds_toArray, List.set_cons_zero, List.set_cons_succ]
        refine wpAnyH_take (i := 6) (oi := ⟨_, _, _, _, _, _⟩) (v := ?_) rfl (by kernel_rfl) (by kernel_rfl) (by kernel_rfl) (fun _ _ _ h => h) (Or.inl ⟨by rfl, ?_⟩) (by assumption) ?_
        rotate_left
        · ((intro w hSw; (try dsimp only at hSw); go_simp); (try with_reducible rfl))
        try simp only [Act.put, List.setIfInBounds_toArray, List.set_cons_zero, List.set_cons_succ]
        refine wpAnyH_take (i := 7) (oi := ⟨_, _, _, _, _, _⟩) (v := ?_) rfl (by kernel_rfl) (by kernel_rfl) (by kernel_rfl) (fun _ _ _ h => h) (Or.inl ⟨by rfl, ?_⟩) (by assumption) ?_
        rotate_left
        · ((intro w hSw; (try dsimp only at hSw); go_simp); (try with_reducible rfl))
        try simp only [Act.put, List.setIfInBounds_toArray, List.set_cons_zero, List.set_cons_succ]
        refine wpAnyH_ready (rs := [8]) (by kernel_rfl) (by simp) ?_
        refine AllReadyH.cons (o := ⟨_, _, _, _, _, _⟩) rfl (fun K hK => ?_) AllReadyH.nil
        refine (if_pos (show Region.wanted _ _ = true by kernel_rfl)).mpr ?_
        refine call_by 15 [.tmp 72, .const (.int .i64 0), .tmp 74] #[3, 3, 3] rfl run_l1In _ rfl (l1In_any _ _ _ _) ?_
        rintro e u1 ⟨rfl, hu1⟩
        subst hu1
        refine ⟨_, rfl, ?_⟩
        refine hK.out _ _ (KE.out _ RL.out) (fun hH2 => ?_)
        clear hK K hH
        have hH := hH2
        clear hH2
        try simp only [Act.put, List.setIfInBounds_toArray, List.set_cons_zero, List.set_cons_succ]
        rw [x1]
        refine wpAnyH_take (i := 9) (oi := ⟨_, _, _, _, _, _⟩) (v := ?_) rfl (by kernel_rfl) (by kernel_rfl) (by kernel_rfl) (fun _ _ _ h => h) (Or.inl ⟨by rfl, ?_⟩) (by assumption) ?_
        rotate_left
        · ((intro w hSw; (try dsimp only at hSw); go_simp); (try with_reducible rfl))
        try simp only [Act.put, List.setIfInBounds_toArray, List.set_cons_zero, List.set_cons_succ]
        refine wpAnyH_take (i := 10) (oi := ⟨_, _, _, _, _, _⟩) (v := ?_) rfl (by kernel_rfl) (by kernel_rfl) (by kernel_rfl) (fun _ _ _ h => h) (Or.inl ⟨by rfl, ?_⟩) (by assumption) ?_
        rotate_left
        · ((intro w hSw; (try dsimp only at hSw); go_simp); (try with_reducible rfl))
        try simp only [Act.put, List.setIfInBounds_toArray, List.set_cons_zero, List.set_cons_succ]
        refine wpAnyH_take (i := 11) (oi := ⟨_, _, _, _, _, _⟩) (v := ?_) rfl (by kernel_rfl) (by kernel_rfl) (by kernel_rfl) (fun _ _ _ h => h) (Or.inl ⟨by rfl, ?_⟩) (by assumption) ?_
        rotate_left
        · ((intro w hSw; (try dsimp only at hSw); go_simp); (try with_reducible rfl))
        try simp only [Act.put, List.setIfInBounds_toArray, List.set_cons_zero, List.set_cons_succ]
        refine wpAnyH_take (i := 12) (oi := ⟨_, _, _, _, _, _⟩) (v := ?_) rfl (by kernel_rfl) (by kernel_rfl) (by kernel_rfl) (fun _ _ _ h => h) (Or.inl ⟨by rfl, ?_⟩) (by assumption) ?_
        rotate_left
        · ((intro w hSw; (try dsimp only at hSw); go_simp); (try with_reducible rfl))
        try simp only [Act.put, List.setIfInBounds_toArray, List.set_cons_zero, List.set_cons_succ]
        refine wpAnyH_take (i := 13) (oi := ⟨_, _, _, _, _, _⟩) (v := ?_) rfl (by kernel_rfl) (by kernel_rfl) (by kernel_rfl) (fun _ _ _ h => h) (Or.inl ⟨by rfl, ?_⟩) (by assumption) ?_
        rotate_left
        · ((intro w hSw; (try dsimp only at hSw); go_simp); (try with_reducible rfl))
        try simp only [Act.put, List.setIfInBounds_toArray, List.set_cons_zero, List.set_cons_succ]
        refine wpAnyH_take (i := 14) (oi := ⟨_, _, _, _, _, _⟩) (v := ?_) rfl (by kernel_rfl) (by kernel_rfl) (by kernel_rfl) (fun _ _ _ h => h) (Or.inl ⟨by rfl, ?_⟩) (by assumption) ?_
        rotate_left
        · ((intro w hSw; (try dsimp only at hSw); go_simp); (try with_reducible rfl))
        try simp only [Act.put, List.setIfInBounds_toArray, List.set_cons_zero, List.set_cons_succ]
        refine wpAnyH_take (i := 15) (oi := ⟨_, _, _, _, _, _⟩) (v := ?_) rfl (by kernel_rfl) (by kernel_rfl) (by kernel_rfl) (fun _ _ _ h => h) (Or.inl ⟨by rfl, ?_⟩) (by assumption) ?_
        rotate_left
        · ((intro w hSw; (try dsimp only at hSw); go_simp); (try with_reducible rfl))
        try simp only [Act.put, List.setIfInBounds_toArray, List.set_cons_zero, List.set_cons_succ]
        refine wpAnyH_take (i := 16) (oi := ⟨_, _, _, _, _, _⟩) (v := ?_) rfl (by kernel_rfl) (by kernel_rfl) (by kernel_rfl) (fun _ _ _ h => h) (Or.inl ⟨by rfl, ?_⟩) (by assumption) ?_
        rotate_left
        · ((intro w hSw; (try dsimp only at hSw); go_simp); (try with_reducible rfl))
        try simp only [Act.put, List.setIfInBounds_toArray, List.set_cons_zero, List.set_cons_succ]
        refine wpAnyH_ready (rs := [17]) (by kernel_rfl) (by simp) ?_
        refine AllReadyH.cons (o := ⟨_, _, _, _, _, _⟩) rfl (fun K hK => ?_) AllReadyH.nil
        refine (if_pos (show Region.wanted _ _ = true by kernel_rfl)).mpr ?_
        refine call_by 37 [.tmp 83] #[80] rfl run_sCmdOk _ rfl (specCmdOk_any _ _ _ _ _ _) ?_
        rintro e w2 ⟨rfl, b2⟩
        replace RL := hidS (Below.and RL.out b2)
        refine ⟨_, rfl, ?_⟩
        refine hK.out _ _ (KE.out _ RL.out) (fun hH2 => ?_)
        clear hK K hH
        have hH := hH2
        clear hH2
        try simp only [Act.put, List.setIfInBounds_toArray, List.set_cons_zero, List.set_cons_succ]
        refine wpAnyH_take (i := 18) (oi := ⟨_, _, _, _, _, _⟩) (v := ?_) rfl (by kernel_rfl) (by kernel_rfl) (by kernel_rfl) (fun _ _ _ h => h) (Or.inl ⟨by rfl, ?_⟩) (by assumption) ?_
        rotate_left
        · ((intro w hSw; (try dsimp only at hSw); go_simp); (try with_reducible rfl))
        try simp only [Act.put, List.setIfInBounds_toArray, List.set_cons_zero, List.set_cons_succ]
        refine wpAnyH_take (i := 19) (oi := ⟨_, _, _, _, _, _⟩) (v := ?_) rfl (by kernel_rfl) (by kernel_rfl) (by kernel_rfl) (fun _ _ _ h => h) (Or.inl ⟨by rfl, ?_⟩) (by assumption) ?_
        rotate_left
        · ((intro w hSw; (try dsimp only at hSw); go_simp); (try with_reducible rfl))
        try simp only [Act.put, List.setIfInBounds_toArray, List.set_cons_zero, List.set_cons_succ]
        refine wpAnyH_done (by kernel_rfl) ?_ _
        have B3 : Hid (Below w.heap.size w w2) := Below.and B2.out RL.out
        have BX : Hid (Below w9.heap.size w9 w2) := Below.and BW.out RL.out
        clear c2 d0 d1 d2 d3 d4 d5 b2 KE hH
        have c2 := (N1.out.step BX.out).cells
        cases x2 : cmdOkB (gC k) (gS k) (gO k) (gK k) (gV k)
        · have E1 : Hid (rpcP kd fr tt te ix it cm size eo mo = false) := by show _ = _; rw [OK0.out, F1.out k hlt x2]; rfl
          go_wp2
          go_ret
          exact ⟨ret_bool E1.out.symm, B3.out⟩
        · have A2 : Hid (∀ j, j < k + 1 → inB (gT j) 0 te = true ∧ cmdOkB (gC j) (gS j) (gO j) (gK j) (gV j) = true) := fun j hj => by
            by_cases hjk : j < k
            · exact ALL.out j hjk
            · have : j = k := by omega
              subst this
              exact ⟨x1, x2⟩
          clear x1 x2
          go_wp2
          go_roundw
          case rel => exact ⟨k + 1, by omega, by go_num, BX.out, A2⟩
          case measure => simp [intOf]; omega
    · have E1 : Hid (rpcP kd fr tt te ix it cm size eo mo = ((!(kd == 5)) || mo)) := by
        show _ = _
        rw [OK0.out, F2.out (fun j hj => ALL.out j (by omega))]
        rfl
      by_cases h5k : kd = 5
      · have h5k2 : (kd != 5) = false := by simp [h5k]
        have E2 : Hid (rpcP kd fr tt te ix it cm size eo mo = mo) := by show _ = _; rw [E1.out]; simp [h5k]
        clear E1
        go_wp2_with fail
        refine (S2.out _ B2.out).mono ?_
        rintro e w2 ⟨rfl, b2⟩
        have B3 : Hid (Below w.heap.size w w2) := Below.and B2.out b2
        go_wp2
        go_ret
        exact ⟨ret_bool E2.out.symm, B3.out⟩
      · have h5k2 : (kd != 5) = true := by simp [h5k]
        have E2 : Hid (rpcP kd fr tt te ix it cm size eo mo = true) := by show _ = _; rw [E1.out]; simp [h5k]
        go_wp2
        go_ret
        exact ⟨ret_bool E2.out.symm, B2.out⟩

end Go.Proofs.Ytmdajbbpigbdcaa
