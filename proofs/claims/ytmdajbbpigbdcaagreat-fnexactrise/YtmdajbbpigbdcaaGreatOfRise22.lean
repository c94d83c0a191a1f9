/-
  MachineOk of the model.
  LogOk of both sides.
  LastOf and Newer of both sides.
-/
import Derived.Test.YtmdajbbpigbdcaaGreatOfRise17
import Derived.Test.YtmdajbbpigbdcaaGreatOfRise4
import Derived.BigQuiet
import Derived.Deep.DeepCutAuto
import Derived.Deep.CutBlock
import Derived.Deep.QuietTactic
import Derived.Test.YtmdajbbpigbdcaaGreatOfRise20
namespace Go.Proofs.YtmdajbbpigbdcaaGreat
set_option maxRecDepth 100000
set_option maxHeartbeats 8000000
section
open Go.RowKit

def doneAt (l : DL) (k : Nat) : Bool := inB (dC l k) 1 9 && inB (dS l k) 1 100000 && inB (dV l k) (-1000000000) 1000000000 && (k == 0 || decide (dC l (k - 1) < dC l k))
def donesOk (l : DL) : Bool := (List.range l.length).all (doneAt l)
theorem donesOk_true {l : DL} (h : ∀ k, k < l.length → doneAt l k = true) : donesOk l = true := by
 unfold donesOk; rw [List.all_eq_true]; intro k hk; exact h k (List.mem_range.1 hk)
theorem donesOk_false {l : DL} {k : Nat} (hk : k < l.length) (h : doneAt l k = false) : donesOk l = false := by
 unfold donesOk; rw [List.all_eq_false]; exact ⟨k, List.mem_range.2 hk, by simp [h]⟩
theorem doneAt_c {l : DL} {k : Nat} (h : inB (dC l k) 1 9 = false) : doneAt l k = false := by simp [doneAt, h]
theorem doneAt_s {l : DL} {k : Nat} (h : inB (dS l k) 1 100000 = false) : doneAt l k = false := by simp [doneAt, h]
theorem doneAt_v {l : DL} {k : Nat} (h : inB (dV l k) (-1000000000) 1000000000 = false) : doneAt l k = false := by simp [doneAt, h]
theorem doneAt_zero {l : DL} (h1 : inB (dC l 0) 1 9 = true) (h2 : inB (dS l 0) 1 100000 = true) (h3 : inB (dV l 0) (-1000000000) 1000000000 = true) : doneAt l 0 = true := by simp [doneAt, h1, h2, h3]
theorem doneAt_succ {l : DL} {k : Nat} (h1 : inB (dC l (k + 1)) 1 9 = true) (h2 : inB (dS l (k + 1)) 1 100000 = true) (h3 : inB (dV l (k + 1)) (-1000000000) 1000000000 = true) (h : dC l k < dC l (k + 1)) : doneAt l (k + 1) = true := by simp [doneAt, h1, h2, h3, h]
theorem doneAt_lt {l : DL} {k : Nat} (h : ¬ dC l k < dC l (k + 1)) : doneAt l (k + 1) = false := by simp [doneAt]; intros; omega
def machOk (T : Tr) (l : DL) : Bool := okT T && donesOk l

theorem specMachineOk_any (n : Nat) (m : MacV) (T : Tr) (l : DL) (w : World) (h : MacAt n w m T l) (hsz : sizeT n T ≤ 1099511627776) :
  Calls Tryz.prog 58 #[m.val] w fun e w' => e = .returned (.bool (machOk T l)) ∧ Below w.heap.size w w' := by
 obtain ⟨a, b, off, cap, hv, hcap, hmax, ha, hx0, hx1, hx2, hx3⟩ := h.2.dones
 obtain ⟨⟨lf, p, c, k, bf⟩, v⟩ := m
 simp only at hv
 subst hv
 unfold maxLen at hmax
 have TT : Hid (TreeAt n w ⟨lf, p, c, k, bf⟩ T) := h.1
 have N1 : Hid (MBox 48 (w.alloc (.cells #[.bool lf, p, c, k, bf, .slice a l.length cap] 48)) w.heap.size #[.bool lf, p, c, k, bf, .slice a l.length cap]) := MBox.start _ w _
 have B1 : Hid (Below w.heap.size w (w.alloc (.cells #[.bool lf, p, c, k, bf, .slice a l.length cap] 48))) := bel_nw _ _
 clear h
 show Calls Tryz.prog 58 #[.agg #[.bool lf, p, c, k, bf, .slice a l.length cap]] w _
 go_enter Tryz.func58, Tryz.ntmps58
 go_upto_region 1 with fail
 generalize w.alloc (.cells #[.bool lf, p, c, k, bf, .slice a l.length cap] 48) = W at *
 go_wp2
 go_loopw [3] (fun i wr => ∃ j : Nat, j ≤ l.length ∧ i = .int .i64 j ∧ Hid (∀ i, i < j → doneAt l i = true) ∧ Hid (Below W.heap.size W wr))
  (fun i _ => l.length - (intOf i).toNat)
 case atStart => exact ⟨0, Nat.zero_le _, rfl, fun i hi => absurd hi (Nat.not_lt_zero _), Below.refl _ _⟩
 case round =>
  obtain ⟨j, hjl, rfl, ALL, hbW⟩ := hrel
  have c1 := (N1.out.step hbW.out).cells
  have hb : Hid (Below w.heap.size w wr) := Below.and B1.out hbW.out
  by_cases hlt : j < l.length
  ·have hal := ha (by omega)
   subst hal
   have d0 : wr.cell? ⟨b, off + j * 4, none⟩ = some (.int .i64 (dC l j)) := (hb.out.cell (by exact cell_lt (hx0 j hlt))).trans (hx0 j hlt)
   have d1 : wr.cell? ⟨b, off + j * 4 + 1, none⟩ = some (.int .i64 (dS l j)) := (hb.out.cell (by exact cell_lt (hx1 j hlt))).trans (hx1 j hlt)
   have d2 : wr.cell? ⟨b, off + j * 4 + 2, none⟩ = some (.int .i64 (dV l j)) := (hb.out.cell (by exact cell_lt (hx2 j hlt))).trans (hx2 j hlt)
   have d3 : wr.cell? ⟨b, off + j * 4 + 3, none⟩ = some (.bool (dH l j)) := (hb.out.cell (by exact cell_lt (hx3 j hlt))).trans (hx3 j hlt)
   have NB : Hid (Below wr.heap.size wr (wr.alloc (.cells #[.int .i64 (dC l j), .int .i64 (dS l j), .int .i64 (dV l j), .bool (dH l j)] 126))) := bel_nw _ _
   have NX : Hid (MBox 126 (wr.alloc (.cells #[.int .i64 (dC l j), .int .i64 (dS l j), .int .i64 (dV l j), .bool (dH l j)] 126)) wr.heap.size #[.int .i64 (dC l j), .int .i64 (dS l j), .int .i64 (dV l j), .bool (dH l j)]) := MBox.start _ wr _
   go_upto_region 5 with fail
   generalize wr.alloc (.cells #[.int .i64 (dC l j), .int .i64 (dS l j), .int .i64 (dV l j), .bool (dH l j)] 126) = V at *
   generalize hbx : wr.heap.size = bx at *
   have e0 := NX.out.cells
   have c2 := (N1.out.step (hbW.out.trans (NB.out.mono (by rw [← hbx]; exact hbW.out.size)))).cells
   have FV : Hid (Below W.heap.size W V) := hbW.out.trans (NB.out.mono (by rw [← hbx]; exact hbW.out.size))
   have FB : Hid (Below w.heap.size w V) := Below.and B1.out FV.out
   clear c1 d0 d1 d2 d3
   cases hK : inB (dC l j) 1 9
   ·have NE : Hid (machOk T l = false) := by show _ = _; rw [machOk, donesOk_false hlt (doneAt_c hK), Bool.and_false]
    clear hx0 hx1 hx2 hx3
    go_wp2_with fail
    go_quiet (first | (go_at_call 44; exact Calls.quiet_of_same (l1In_any _ _ _ _)) | (go_at_call 87; exact Calls.quiet_of_same (l1Value_any _ _)))
    go_wp2
    go_ret
    exact ⟨ret_bool NE.out.symm, below_drewN FB.out _⟩
   ·cases hS : inB (dS l j) 1 100000
    ·have NE : Hid (machOk T l = false) := by show _ = _; rw [machOk, donesOk_false hlt (doneAt_s hS), Bool.and_false]
     clear hx0 hx1 hx2 hx3
     go_wp2_with fail
     go_quiet (first | (go_at_call 44; exact Calls.quiet_of_same (l1In_any _ _ _ _)) | (go_at_call 87; exact Calls.quiet_of_same (l1Value_any _ _)))
     go_wp2
     go_ret
     exact ⟨ret_bool NE.out.symm, below_drewN FB.out _⟩
    ·cases hV : inB (dV l j) (-1000000000) 1000000000
     ·have NE : Hid (machOk T l = false) := by show _ = _; rw [machOk, donesOk_false hlt (doneAt_v hV), Bool.and_false]
      clear hx0 hx1 hx2 hx3
      go_wp2_with fail
      go_quiet (first | (go_at_call 44; exact Calls.quiet_of_same (l1In_any _ _ _ _)) | (go_at_call 87; exact Calls.quiet_of_same (l1Value_any _ _)))
      go_wp2
      go_ret
      exact ⟨ret_bool NE.out.symm, below_drewN FB.out _⟩
     ·cases j with
      | zero =>
       have OK : Hid (doneAt l 0 = true) := doneAt_zero hK hS hV
       clear hx0 hx1 hx2 hx3
       go_wp2_with fail
       go_quiet (first | (go_at_call 44; exact Calls.quiet_of_same (l1In_any _ _ _ _)) | (go_at_call 87; exact Calls.quiet_of_same (l1Value_any _ _)))
       go_wp2
       go_roundw
       case rel => exact ⟨1, by omega, by go_num, fun i hi => by rw [show i = 0 by omega]; exact OK.out, below_drewN FV.out _⟩
       case measure => simp [intOf]; omega
      | succ j =>
       have hpos : (0 : Int) < ((j + 1 : Nat) : Int) := by omega
       have g2 : V.cell? ⟨b, off + j * 4, none⟩ = some (.int .i64 (dC l j)) := (FB.out.cell (by exact cell_lt (hx0 j (by omega)))).trans (hx0 j (by omega))
       clear hx0 hx1 hx2 hx3
       by_cases hord : dC l j < dC l (j + 1)
       ·have OK : Hid (doneAt l (j + 1) = true) := doneAt_succ hK hS hV hord
        go_wp2_with fail
        go_quiet (first | (go_at_call 44; exact Calls.quiet_of_same (l1In_any _ _ _ _)) | (go_at_call 87; exact Calls.quiet_of_same (l1Value_any _ _)))
        go_wp2
        go_roundw
        case rel => exact ⟨j + 1 + 1, by omega, by go_num, fun i hi => if h : i < j + 1 then ALL.out i h else by rw [show i = j + 1 by omega]; exact OK.out, below_drewN FV.out _⟩
        case measure => simp [intOf]; omega
       ·have NE : Hid (machOk T l = false) := by show _ = _; rw [machOk, donesOk_false hlt (doneAt_lt hord), Bool.and_false]
        go_wp2_with fail
        go_quiet (first | (go_at_call 44; exact Calls.quiet_of_same (l1In_any _ _ _ _)) | (go_at_call 87; exact Calls.quiet_of_same (l1Value_any _ _)))
        go_wp2
        go_ret
        exact ⟨ret_bool NE.out.symm, below_drewN FB.out _⟩
  ·have OK : Hid (machOk T l = okT T) := by show _ = _; rw [machOk, donesOk_true (fun i hi => ALL.out i (by omega)), Bool.and_true]
   clear hx0 hx1 hx2 hx3
   go_wp2_with fail
   refine (specTreeOk_any n ⟨lf, p, c, k, bf⟩ T wr (TT.out.below hb.out) hsz).mono ?_
   rintro e w5 ⟨rfl, b5⟩
   go_wp2
   go_ret
   exact ⟨ret_bool OK.out.symm, Below.and hb.out b5⟩
end
section
open Go.RowKit

def prevT (bt : Int) (l : EL) (k : Nat) : Int := if k = 0 then bt else eT l (k - 1)
theorem prevT_succ (bt : Int) (l : EL) (k : Nat) : prevT bt l (k + 1) = eT l k := by simp [prevT]
def entAt (bt : Int) (l : EL) (k : Nat) : Bool := inB (eT l k) (prevT bt l k) 100000 && cmdOkB (eC l k) (eS l k) (eO l k) (eK l k) (eV l k)
def entsOk (bt : Int) (l : EL) : Bool := (List.range l.length).all (entAt bt l)
theorem entsOk_true {bt : Int} {l : EL} (h : ∀ k, k < l.length → entAt bt l k = true) : entsOk bt l = true := by
 unfold entsOk; rw [List.all_eq_true]; intro k hk; exact h k (List.mem_range.1 hk)
theorem entsOk_false {bt : Int} {l : EL} {k : Nat} (hk : k < l.length) (h : entAt bt l k = false) : entsOk bt l = false := by
 unfold entsOk; rw [List.all_eq_false]; exact ⟨k, List.mem_range.2 hk, by simp [h]⟩
theorem entAt_t {bt : Int} {l : EL} {k : Nat} (h : inB (eT l k) (prevT bt l k) 100000 = false) : entAt bt l k = false := by simp [entAt, h]
theorem entAt_c {bt : Int} {l : EL} {k : Nat} (h : cmdOkB (eC l k) (eS l k) (eO l k) (eK l k) (eV l k) = false) : entAt bt l k = false := by simp [entAt, h]
theorem entAt_y {bt : Int} {l : EL} {k : Nat} (h1 : inB (eT l k) (prevT bt l k) 100000 = true) (h : cmdOkB (eC l k) (eS l k) (eO l k) (eK l k) (eV l k) = true) : entAt bt l k = true := by simp [entAt, h1, h]
def logOkB (b bt : Int) (l : EL) : Bool := inB b 0 100000 && (inB bt 0 100000 && (decide (b + l.length ≤ 100000) && entsOk bt l))
theorem logOk_1 {b bt : Int} {l : EL} (h : inB b 0 100000 = false) : logOkB b bt l = false := by simp [logOkB, h]
theorem logOk_2 {b bt : Int} {l : EL} (h : inB bt 0 100000 = false) : logOkB b bt l = false := by simp [logOkB, h]
theorem logOk_3 {b bt : Int} {l : EL} (h : ¬ b + l.length ≤ 100000) : logOkB b bt l = false := by simp [logOkB, h]
theorem logOk_4 {b bt : Int} {l : EL} (h : entsOk bt l = false) : logOkB b bt l = false := by simp [logOkB, h]
theorem logOk_5 {b bt : Int} {l : EL} (h1 : inB b 0 100000 = true) (h2 : inB bt 0 100000 = true) (h3 : b + l.length ≤ 100000) (h : entsOk bt l = true) : logOkB b bt l = true := by simp [logOkB, h1, h2, h3, h]

theorem specLogOk_any (b bt : Int) (v : Value) (l : EL) (w : World) (h : Row w v l.length (flatE l)) (hn : l.length ≤ 1099511627776) :
  Calls Tryz.prog 57 #[lgV b bt v] w fun e w' => e = .returned (.bool (logOkB b bt l)) ∧ Below w.heap.size w w' := by
 obtain ⟨a, bb, off, cap, rfl, hcap, hmax, ha, hx0, hx1, hx2, hx3, hx4, hx5⟩ := h.ents
 unfold maxLen at hmax
 have N1 : Hid (MBox 40 (w.alloc (.cells #[.int .i64 b, .int .i64 bt, .slice a l.length cap] 40)) w.heap.size #[.int .i64 b, .int .i64 bt, .slice a l.length cap]) := MBox.start _ w _
 have B1 : Hid (Below w.heap.size w (w.alloc (.cells #[.int .i64 b, .int .i64 bt, .slice a l.length cap] 40))) := bel_nw _ _
 have c1 := N1.out.cells
 clear h
 cases h1 : inB b 0 100000 with
 | false =>
  have E : Hid (logOkB b bt l = false) := logOk_1 h1
  clear hx0 hx1 hx2 hx3 hx4 hx5 ha
  go_enter Tryz.func57, Tryz.ntmps57
  go_wp2_with (go_at_call 44; refine (l1In_any _ _ _ _).mono ?_; rintro e w' ⟨rfl, rfl⟩)
  go_ret
  exact ⟨ret_bool E.out.symm, B1.out⟩
 | true =>
 cases h2 : inB bt 0 100000 with
 | false =>
  have E : Hid (logOkB b bt l = false) := logOk_2 h2
  clear hx0 hx1 hx2 hx3 hx4 hx5 ha
  go_enter Tryz.func57, Tryz.ntmps57
  go_wp2_with (go_at_call 44; refine (l1In_any _ _ _ _).mono ?_; rintro e w' ⟨rfl, rfl⟩)
  go_ret
  exact ⟨ret_bool E.out.symm, B1.out⟩
 | true =>
 have hb0 := (inB_iff.1 h1).1
 have hb1 := (inB_iff.1 h1).2
 by_cases h3 : b + l.length ≤ 100000
 ·have HH : Hid _ := And.intro h1 (And.intro h2 h3)
  have hgt : ¬ (100000 : Int) < b + l.length := by omega
  go_enter Tryz.func57, Tryz.ntmps57
  go_wp2_with (go_at_call 44; refine (l1In_any _ _ _ _).mono ?_; rintro e w' ⟨rfl, rfl⟩)
  clear h1 h2 c1
  generalize w.alloc (.cells #[.int .i64 b, .int .i64 bt, .slice a l.length cap] 40) = W at *
  go_loopw [3, 4] (fun t i wr => ∃ j : Nat, j ≤ l.length ∧ i = .int .i64 j ∧ t = .int .i64 (prevT bt l j) ∧ Hid (∀ i, i < j → entAt bt l i = true) ∧ Hid (Below W.heap.size W wr))
   (fun _ i _ => l.length - (intOf i).toNat)
  case atStart => exact ⟨0, Nat.zero_le _, rfl, rfl, fun i hi => absurd hi (Nat.not_lt_zero _), Below.refl _ _⟩
  case round =>
   obtain ⟨j, hjl, rfl, rfl, ALL, hbW⟩ := hrel
   have c1 := (N1.out.step hbW.out).cells
   have hb : Hid (Below w.heap.size w wr) := Below.and B1.out hbW.out
   by_cases hlt : j < l.length
   ·have hal := ha (by omega)
    subst hal
    have d0 : wr.cell? ⟨bb, off + j * 6, none⟩ = some (.int .i64 (eT l j)) := (hb.out.cell (by exact cell_lt (hx0 j hlt))).trans (hx0 j hlt)
    have d1 : wr.cell? ⟨bb, off + j * 6 + 1, none⟩ = some (.int .i64 (eC l j)) := (hb.out.cell (by exact cell_lt (hx1 j hlt))).trans (hx1 j hlt)
    have d2 : wr.cell? ⟨bb, off + j * 6 + 2, none⟩ = some (.int .i64 (eS l j)) := (hb.out.cell (by exact cell_lt (hx2 j hlt))).trans (hx2 j hlt)
    have d3 : wr.cell? ⟨bb, off + j * 6 + 3, none⟩ = some (.int .i64 (eO l j)) := (hb.out.cell (by exact cell_lt (hx3 j hlt))).trans (hx3 j hlt)
    have d4 : wr.cell? ⟨bb, off + j * 6 + 4, none⟩ = some (.int .i64 (eK l j)) := (hb.out.cell (by exact cell_lt (hx4 j hlt))).trans (hx4 j hlt)
    have d5 : wr.cell? ⟨bb, off + j * 6 + 5, none⟩ = some (.int .i64 (eV l j)) := (hb.out.cell (by exact cell_lt (hx5 j hlt))).trans (hx5 j hlt)
    clear hx1 hx2 hx3 hx4 hx5
    cases hT : inB (eT l j) (prevT bt l j) 100000 with
    | false =>
     have E : Hid (logOkB b bt l = false) := logOk_4 (entsOk_false hlt (entAt_t hT))
     clear hx0
     generalize prevT bt l j = pt at *
     go_wp2_with (go_at_call 44; refine (l1In_any _ _ _ _).mono ?_; rintro e w' ⟨rfl, rfl⟩)
     go_ret
     exact ⟨ret_bool E.out.symm, hb.out⟩
    | true =>
     generalize hpt : prevT bt l j = pt at *
     have HT : Hid (inB (eT l j) pt 100000 = true) := hT
     change Hid _ at hpt
     go_wp2_with (go_at_call 44; refine (l1In_any _ _ _ _).mono ?_; rintro e w' ⟨rfl, rfl⟩)
     refine (specCmdOk_any _ _ _ _ _ _).mono ?_
     rintro e w2 ⟨rfl, b2⟩
     have FW : Hid (Below W.heap.size W w2) := Below.and hbW.out b2
     have FB : Hid (Below w.heap.size w w2) := Below.and hb.out b2
     clear b2 d0 d1 d2 d3 d4 d5 c1 hT
     have c1 := (N1.out.step FW.out).cells
     have d0 : w2.cell? ⟨bb, off + j * 6, none⟩ = some (.int .i64 (eT l j)) := (FB.out.cell (by exact cell_lt (hx0 j hlt))).trans (hx0 j hlt)
     clear hx0
     generalize hC : cmdOkB (eC l j) (eS l j) (eO l j) (eK l j) (eV l j) = q
     cases q with
     | false =>
      have E : Hid (logOkB b bt l = false) := logOk_4 (entsOk_false hlt (entAt_c hC))
      clear hC
      go_wp2
      go_ret
      exact ⟨ret_bool E.out.symm, FB.out⟩
     | true =>
      have OK : Hid (entAt bt l j = true) := by
       have := HT.out
       rw [← hpt.out] at this
       exact entAt_y this hC
      clear hC
      go_wp2
      go_roundw
      case rel => exact ⟨j + 1, by omega, by go_num, by rw [prevT_succ], fun i hi => if h : i < j then ALL.out i h else by rw [show i = j by omega]; exact OK.out, FW.out⟩
      case measure => simp [intOf]; omega
   ·have E : Hid (logOkB b bt l = true) := logOk_5 HH.out.1 HH.out.2.1 HH.out.2.2 (entsOk_true (fun i hi => ALL.out i (by omega)))
    clear hx0 hx1 hx2 hx3 hx4 hx5
    go_wp2
    go_ret
    exact ⟨ret_bool E.out.symm, hb.out⟩
 ·have E : Hid (logOkB b bt l = false) := logOk_3 h3
  have hgt : (100000 : Int) < b + l.length := by omega
  clear hx0 hx1 hx2 hx3 hx4 hx5 ha h3
  go_enter Tryz.func57, Tryz.ntmps57
  go_wp2_with (go_at_call 44; refine (l1In_any _ _ _ _).mono ?_; rintro e w' ⟨rfl, rfl⟩)
  go_ret
  exact ⟨ret_bool E.out.symm, B1.out⟩
end
section
open Go.RowKit

def lastN (b : Int) (l : EL) : Int := if l.length = 0 then b else wrap64 (b + l.length)
abbrev lastV (b bt : Int) (l : EL) : Value := .tuple #[.int .i64 (lastN b l), .int .i64 (prevT bt l l.length)]
def newerB (b bt : Int) (l : EL) (la lt : Int) : Bool := decide (lt > prevT bt l l.length ∨ (lt = prevT bt l l.length ∧ la ≥ lastN b l))

theorem specLastOf_any (b bt : Int) (v : Value) (l : EL) (w : World) (h : Row w v l.length (flatE l)) :
  Calls Tryz.prog 59 #[lgV b bt v] w fun e w' => e = .returned (lastV b bt l) ∧ Below w.heap.size w w' := by
 obtain ⟨a, bb, off, cap, rfl, hcap, hmax, ha, hx0, hx1, hx2, hx3, hx4, hx5⟩ := h.ents
 unfold maxLen at hmax
 clear hx1 hx2 hx3 hx4 hx5
 have N1 : Hid (MBox 40 (w.alloc (.cells #[.int .i64 b, .int .i64 bt, .slice a l.length cap] 40)) w.heap.size #[.int .i64 b, .int .i64 bt, .slice a l.length cap]) := MBox.start _ w _
 have B1 : Hid (Below w.heap.size w (w.alloc (.cells #[.int .i64 b, .int .i64 bt, .slice a l.length cap] 40))) := bel_nw _ _
 have c1 := N1.out.cells
 clear h
 by_cases hz : l.length = 0
 ·have E1 : Hid (lastN b l = b) := if_pos hz
  have E2 : Hid (prevT bt l l.length = bt) := by show _ = _; rw [hz]; rfl
  have HZ : Hid _ := hz
  rw [hz] at c1 B1 ⊢
  rw [hz] at hcap
  clear hx0 ha hz
  go_enter Tryz.func59, Tryz.ntmps59
  go_wp2_with fail
  go_quiet (fail)
  go_wp2
  refine bodyPost_ret (v := .tuple #[.int .i64 b, .int .i64 bt]) (by simp [results, Tryz.results59, go_sem]) rfl ⟨?_, below_drewN B1.out _⟩
  show _ = Ending.returned (.tuple #[.int .i64 (lastN b l), .int .i64 (prevT bt l l.length)])
  rw [E1.out, E2.out]
 ·obtain ⟨n, hn⟩ : ∃ n, l.length = n + 1 := ⟨l.length - 1, by omega⟩
  have E1 : Hid (lastN b l = wrap64 (b + ((n + 1 : Nat) : Int))) := by show _ = _; unfold lastN; rw [if_neg hz, hn]
  have E2 : Hid (prevT bt l l.length = eT l n) := by show _ = _; rw [hn, prevT_succ]
  have hal := ha (by omega)
  subst hal
  have d0 : (w.alloc (.cells #[.int .i64 b, .int .i64 bt, .slice (some ⟨bb, off, none⟩) l.length cap] 40)).cell? ⟨bb, off + n * 6, none⟩ = some (.int .i64 (eT l n)) := (B1.out.cell (by exact cell_lt (hx0 n (by omega)))).trans (hx0 n (by omega))
  rw [hn] at c1 B1 d0 hcap ⊢
  clear hx0 ha hz N1
  have HN : Hid _ := hn
  clear hn
  go_enter Tryz.func59, Tryz.ntmps59
  go_wp2_with fail
  go_quiet (fail)
  go_wp2
  refine bodyPost_ret (v := .tuple #[.int .i64 (wrap64 (b + ((n + 1 : Nat) : Int))), .int .i64 (eT l n)]) (by simp [results, Tryz.results59, go_sem]) rfl ⟨?_, below_drewN B1.out _⟩
  show _ = Ending.returned (.tuple #[.int .i64 (lastN b l), .int .i64 (prevT bt l l.length)])
  rw [E1.out, E2.out]

theorem implLastOf_any (b bt : Int) (v : Value) (l : EL) (w : World) (h : Row w v l.length (flatE l)) :
  Calls Tryz.prog 99 #[lgV b bt v] w fun e w' => e = .returned (lastV b bt l) ∧ Below w.heap.size w w' := by
 obtain ⟨a, bb, off, cap, rfl, hcap, hmax, ha, hx0, hx1, hx2, hx3, hx4, hx5⟩ := h.ents
 unfold maxLen at hmax
 clear hx1 hx2 hx3 hx4 hx5
 have N1 : Hid (MBox 40 (w.alloc (.cells #[.int .i64 b, .int .i64 bt, .slice a l.length cap] 40)) w.heap.size #[.int .i64 b, .int .i64 bt, .slice a l.length cap]) := MBox.start _ w _
 have B1 : Hid (Below w.heap.size w (w.alloc (.cells #[.int .i64 b, .int .i64 bt, .slice a l.length cap] 40))) := bel_nw _ _
 have c1 := N1.out.cells
 clear h
 by_cases hz : l.length = 0
 ·have E1 : Hid (lastN b l = b) := if_pos hz
  have E2 : Hid (prevT bt l l.length = bt) := by show _ = _; rw [hz]; rfl
  have HZ : Hid _ := hz
  rw [hz] at c1 B1 ⊢
  rw [hz] at hcap
  clear hx0 ha hz
  go_enter Tryz.func99, Tryz.ntmps99
  go_wp2_with fail
  go_quiet (fail)
  go_wp2
  refine bodyPost_ret (v := .tuple #[.int .i64 b, .int .i64 bt]) (by simp [results, Tryz.results99, go_sem]) rfl ⟨?_, below_drewN B1.out _⟩
  show _ = Ending.returned (.tuple #[.int .i64 (lastN b l), .int .i64 (prevT bt l l.length)])
  rw [E1.out, E2.out]
 ·obtain ⟨n, hn⟩ : ∃ n, l.length = n + 1 := ⟨l.length - 1, by omega⟩
  have E1 : Hid (lastN b l = wrap64 (b + ((n + 1 : Nat) : Int))) := by show _ = _; unfold lastN; rw [if_neg hz, hn]
  have E2 : Hid (prevT bt l l.length = eT l n) := by show _ = _; rw [hn, prevT_succ]
  have hal := ha (by omega)
  subst hal
  have d0 : (w.alloc (.cells #[.int .i64 b, .int .i64 bt, .slice (some ⟨bb, off, none⟩) l.length cap] 40)).cell? ⟨bb, off + n * 6, none⟩ = some (.int .i64 (eT l n)) := (B1.out.cell (by exact cell_lt (hx0 n (by omega)))).trans (hx0 n (by omega))
  rw [hn] at c1 B1 d0 hcap ⊢
  clear hx0 ha hz N1
  have HN : Hid _ := hn
  clear hn
  go_enter Tryz.func99, Tryz.ntmps99
  go_wp2_with fail
  go_quiet (fail)
  go_wp2
  refine bodyPost_ret (v := .tuple #[.int .i64 (wrap64 (b + ((n + 1 : Nat) : Int))), .int .i64 (eT l n)]) (by simp [results, Tryz.results99, go_sem]) rfl ⟨?_, below_drewN B1.out _⟩
  show _ = Ending.returned (.tuple #[.int .i64 (lastN b l), .int .i64 (prevT bt l l.length)])
  rw [E1.out, E2.out]
end
end Go.Proofs.YtmdajbbpigbdcaaGreat
