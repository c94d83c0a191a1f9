/-
  MachineOk of the model.
-/
import Derived.Test.YtmoaccohnmkleaaMach
import Derived.Test.YtmoaccohnmkleaaTreeSpecB
import Derived.BigQuiet
import Derived.Deep.DeepCutAuto
import Derived.Deep.CutBlock
import Derived.Deep.QuietTactic
namespace Go.Proofs.Ytmoaccohnmkleaa
open Go.RowKit

/-- what was done last is as told, and behind the one ahead of it -/
def doneAt (l : DL) (k : Nat) : Bool := inB (dC l k) 1 9 && inB (dS l k) 1 100000 && inB (dV l k) (-1000000000) 1000000000 && (k == 0 || decide (dC l (k - 1) < dC l k))
def donesOk (l : DL) : Bool := (List.range l.length).all (doneAt l)
theorem donesOk_true {l : DL} (h : ∀ k, k < l.length → doneAt l k = true) : donesOk l = true := by
  unfold donesOk; rw [List.all_eq_true]; intro k hk; exact h k (List.mem_range.1 hk)
theorem donesOk_false {l : DL} {k : Nat} (hk : k < l.length) (h : doneAt l k = false) : donesOk l = false := by
  unfold donesOk; rw [List.all_eq_false]; exact ⟨k, List.mem_range.2 hk, by simp [h]⟩
theorem doneAt_c {l : DL} {k : Nat} (h : inB (dC l k) 1 9 = false) : doneAt l k = false := by simp [doneAt, h]
theorem doneAt_s {l : DL} {k : Nat} (h : inB (dS l k) 1 100000 = false) : doneAt l k = false := by simp [doneAt, h]
theorem doneAt_v {l : DL} {k : Nat} (h : inB (dV l k) (-1000000000) 1000000000 = false) : doneAt l k = false := by simp [doneAt, h]
theorem doneAt_zero {l : DL} (h1 : inB (dC l 0) 1 9 = true) (h2 : inB (dS l 0) 1 100000 = true) (h3 : inB (dV l 0) (-1000000000) 1000000000 = true) : doneAt l 0 = true := by simp [doneAt, h1, h2, h3]
theorem doneAt_succ {l : DL} {k : Nat} (h1 : inB (dC l (k + 1)) 1 9 = true) (h2 : inB (dS l (k + 1)) 1 100000 = true) (h3 : inB (dV l (k + 1)) (-1000000000) 1000000000 = true) (h : dC l k < dC l (k + 1)) : doneAt l (k + 1) = true := by simp [doneAt, h1, h2, h3, h]
theorem doneAt_lt {l : DL} {k : Nat} (h : ¬ dC l k < dC l (k + 1)) : doneAt l (k + 1) = false := by simp [doneAt]; intros; omega
/-- the machine is right -/
def machOk (T : Tr) (l : DL) : Bool := okT T && donesOk l

set_option maxRecDepth 100000 in
set_option maxHeartbeats 4000000 in
theorem specMachineOk_any (n : Nat) (m : MacV) (T : Tr) (l : DL) (w : World) (h : MacAt n w m T l) (hsz : sizeT n T ≤ 1099511627776) :
    Calls Try.prog 5 #[m.val] w fun e w' => e = .returned (.bool (machOk T l)) ∧ Below w.heap.size w w' := by
  obtain ⟨a, b, off, cap, hv, hcap, hmax, ha, hx0, hx1, hx2, hx3⟩ := h.2.dones
  obtain ⟨⟨lf, p, c, k, bf⟩, v⟩ := m
  simp only at hv
  subst hv
  unfold maxLen at hmax
  have TT : Hid (TreeAt n w ⟨lf, p, c, k, bf⟩ T) := h.1
  have N1 : Hid (MBox 40 (w.alloc (.cells #[.bool lf, p, c, k, bf, .slice a l.length cap] 40)) w.heap.size #[.bool lf, p, c, k, bf, .slice a l.length cap]) := MBox.start _ w _
  have B1 : Hid (Below w.heap.size w (w.alloc (.cells #[.bool lf, p, c, k, bf, .slice a l.length cap] 40))) := bel_nw _ _
  clear h
  show Calls Try.prog 5 #[.agg #[.bool lf, p, c, k, bf, .slice a l.length cap]] w _
  go_enter Try.func5, Try.ntmps5
  go_upto_region 1 with fail
  generalize w.alloc (.cells #[.bool lf, p, c, k, bf, .slice a l.length cap] 40) = W at *
  go_wp2
  go_loopw [3] (fun i wr => ∃ j : Nat, j ≤ l.length ∧ i = .int .i64 j ∧ Hid (∀ i, i < j → doneAt l i = true) ∧ Hid (Below W.heap.size W wr))
    (fun i _ => l.length - (intOf i).toNat)
  case atStart => exact ⟨0, Nat.zero_le _, rfl, fun i hi => absurd hi (Nat.not_lt_zero _), Below.refl _ _⟩
  case round =>
    obtain ⟨j, hjl, rfl, ALL, hbW⟩ := hrel
    have c1 := (N1.out.step hbW.out).cells
    have hb : Hid (Below w.heap.size w wr) := Below.and B1.out hbW.out
    by_cases hlt : j < l.length
    · have hal := ha (by omega)
      subst hal
      have d0 : wr.cell? ⟨b, off + j * 4, none⟩ = some (.int .i64 (dC l j)) := (hb.out.cell (by exact cell_lt (hx0 j hlt))).trans (hx0 j hlt)
      have d1 : wr.cell? ⟨b, off + j * 4 + 1, none⟩ = some (.int .i64 (dS l j)) := (hb.out.cell (by exact cell_lt (hx1 j hlt))).trans (hx1 j hlt)
      have d2 : wr.cell? ⟨b, off + j * 4 + 2, none⟩ = some (.int .i64 (dV l j)) := (hb.out.cell (by exact cell_lt (hx2 j hlt))).trans (hx2 j hlt)
      have d3 : wr.cell? ⟨b, off + j * 4 + 3, none⟩ = some (.bool (dH l j)) := (hb.out.cell (by exact cell_lt (hx3 j hlt))).trans (hx3 j hlt)
      have NB : Hid (Below wr.heap.size wr (wr.alloc (.cells #[.int .i64 (dC l j), .int .i64 (dS l j), .int .i64 (dV l j), .bool (dH l j)] 47))) := bel_nw _ _
      have NX : Hid (MBox 47 (wr.alloc (.cells #[.int .i64 (dC l j), .int .i64 (dS l j), .int .i64 (dV l j), .bool (dH l j)] 47)) wr.heap.size #[.int .i64 (dC l j), .int .i64 (dS l j), .int .i64 (dV l j), .bool (dH l j)]) := MBox.start _ wr _
      go_upto_region 5 with fail
      generalize wr.alloc (.cells #[.int .i64 (dC l j), .int .i64 (dS l j), .int .i64 (dV l j), .bool (dH l j)] 47) = V at *
      generalize hbx : wr.heap.size = bx at *
      have e0 := NX.out.cells
      have c2 := (N1.out.step (hbW.out.trans (NB.out.mono (by rw [← hbx]; exact hbW.out.size)))).cells
      have FV : Hid (Below W.heap.size W V) := hbW.out.trans (NB.out.mono (by rw [← hbx]; exact hbW.out.size))
      have FB : Hid (Below w.heap.size w V) := Below.and B1.out FV.out
      clear c1 d0 d1 d2 d3
      cases hK : inB (dC l j) 1 9
      · have NE : Hid (machOk T l = false) := by show _ = _; rw [machOk, donesOk_false hlt (doneAt_c hK), Bool.and_false]
        clear hx0 hx1 hx2 hx3
        go_wp2_with fail
        go_quiet (first | (go_at_call 11; exact Calls.quiet_of_same (l1In_any _ _ _ _)) | (go_at_call 12; exact Calls.quiet_of_same (l1Value_any _ _)))
        go_wp2
        go_ret
        exact ⟨ret_bool NE.out.symm, below_drewN FB.out _⟩
      · cases hS : inB (dS l j) 1 100000
        · have NE : Hid (machOk T l = false) := by show _ = _; rw [machOk, donesOk_false hlt (doneAt_s hS), Bool.and_false]
          clear hx0 hx1 hx2 hx3
          go_wp2_with fail
          go_quiet (first | (go_at_call 11; exact Calls.quiet_of_same (l1In_any _ _ _ _)) | (go_at_call 12; exact Calls.quiet_of_same (l1Value_any _ _)))
          go_wp2
          go_ret
          exact ⟨ret_bool NE.out.symm, below_drewN FB.out _⟩
        · cases hV : inB (dV l j) (-1000000000) 1000000000
          · have NE : Hid (machOk T l = false) := by show _ = _; rw [machOk, donesOk_false hlt (doneAt_v hV), Bool.and_false]
            clear hx0 hx1 hx2 hx3
            go_wp2_with fail
            go_quiet (first | (go_at_call 11; exact Calls.quiet_of_same (l1In_any _ _ _ _)) | (go_at_call 12; exact Calls.quiet_of_same (l1Value_any _ _)))
            go_wp2
            go_ret
            exact ⟨ret_bool NE.out.symm, below_drewN FB.out _⟩
          · cases j with
            | zero =>
              have OK : Hid (doneAt l 0 = true) := doneAt_zero hK hS hV
              clear hx0 hx1 hx2 hx3
              go_wp2_with fail
              go_quiet (first | (go_at_call 11; exact Calls.quiet_of_same (l1In_any _ _ _ _)) | (go_at_call 12; exact Calls.quiet_of_same (l1Value_any _ _)))
              go_wp2
              go_roundw
              case rel => exact ⟨1, by omega, by go_num, fun i hi => by rw [show i = 0 by omega]; exact OK.out, below_drewN FV.out _⟩
              case measure => simp [intOf]; omega
            | succ j =>
              have hpos : (0 : Int) < ((j + 1 : Nat) : Int) := by omega
              have g2 : V.cell? ⟨b, off + j * 4, none⟩ = some (.int .i64 (dC l j)) := (FB.out.cell (by exact cell_lt (hx0 j (by omega)))).trans (hx0 j (by omega))
              clear hx0 hx1 hx2 hx3
              by_cases hord : dC l j < dC l (j + 1)
              · have OK : Hid (doneAt l (j + 1) = true) := doneAt_succ hK hS hV hord
                go_wp2_with fail
                go_quiet (first | (go_at_call 11; exact Calls.quiet_of_same (l1In_any _ _ _ _)) | (go_at_call 12; exact Calls.quiet_of_same (l1Value_any _ _)))
                go_wp2
                go_roundw
                case rel => exact ⟨j + 1 + 1, by omega, by go_num, fun i hi => if h : i < j + 1 then ALL.out i h else by rw [show i = j + 1 by omega]; exact OK.out, below_drewN FV.out _⟩
                case measure => simp [intOf]; omega
              · have NE : Hid (machOk T l = false) := by show _ = _; rw [machOk, donesOk_false hlt (doneAt_lt hord), Bool.and_false]
                go_wp2_with fail
                go_quiet (first | (go_at_call 11; exact Calls.quiet_of_same (l1In_any _ _ _ _)) | (go_at_call 12; exact Calls.quiet_of_same (l1Value_any _ _)))
                go_wp2
                go_ret
                exact ⟨ret_bool NE.out.symm, below_drewN FB.out _⟩
    · have OK : Hid (machOk T l = okT T) := by show _ = _; rw [machOk, donesOk_true (fun i hi => ALL.out i (by omega)), Bool.and_true]
      clear hx0 hx1 hx2 hx3
      go_wp2_with fail
      refine (specTreeOk_any n ⟨lf, p, c, k, bf⟩ T wr (TT.out.below hb.out) hsz).mono ?_
      rintro e w5 ⟨rfl, b5⟩
      go_wp2
      go_ret
      exact ⟨ret_bool OK.out.symm, Below.and hb.out b5⟩

end Go.Proofs.Ytmoaccohnmkleaa
