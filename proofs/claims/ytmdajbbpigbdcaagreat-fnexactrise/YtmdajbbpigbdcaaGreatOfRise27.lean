/-
  MachineOk of the program.
  LogOk of the program.
  The program's NodeOk.
  The program's NodeOk: the role.
-/
import Derived.Test.YtmdajbbpigbdcaaGreatOfRise22
import Derived.Test.YtmdajbbpigbdcaaGreatOfRise20
import Derived.Test.YtmdajbbpigbdcaaGreatOfRise7
import Derived.Test.YtmdajbbpigbdcaaGreatOfRise23
import Derived.Laws.EntriesVeiled
import Derived.Deep.MidRow
namespace Go.Proofs.YtmdajbbpigbdcaaGreat
set_option maxRecDepth 100000
set_option maxHeartbeats 8000000
section
open Go.RowKit

def dokB (l : DL) (k : Nat) : Bool := inB (dC l k) 1 9 && (inB (dS l k) 1 100000 && inB (dV l k) (-1000000000) 1000000000)
theorem doneAt_ok {l : DL} {k : Nat} (h : dokB l k = false) : doneAt l k = false := by
 unfold dokB at h; unfold doneAt
 cases h1 : inB (dC l k) 1 9 <;> cases h2 : inB (dS l k) 1 100000 <;> cases h3 : inB (dV l k) (-1000000000) 1000000000 <;> simp_all
theorem dok_parts {l : DL} {k : Nat} (h : dokB l k = true) : inB (dC l k) 1 9 = true ∧ inB (dS l k) 1 100000 = true ∧ inB (dV l k) (-1000000000) 1000000000 = true := by
 unfold dokB at h; simp only [Bool.and_eq_true] at h; exact ⟨h.1, h.2.1, h.2.2⟩

theorem doneOk_any (c s v : Int) (h : Bool) (w : World) :
  Calls Tryz.prog 104 #[.agg #[.int .i64 c, .int .i64 s, .int .i64 v, .bool h]] w fun e w' => e = .returned (.bool (inB c 1 9 && (inB s 1 100000 && inB v (-1000000000) 1000000000))) ∧ Below w.heap.size w w' := by
 go_enter Tryz.func104, Tryz.ntmps104
 go_wp2_with (first | (go_at_call 131; refine (clientOk_any _ _).mono ?_; rintro e w' ⟨rfl, rfl⟩) | (go_at_call 132; refine (seqOk_any _ _).mono ?_; rintro e w' ⟨rfl, rfl⟩) | (go_at_call 133; refine (valueOk_any _ _).mono ?_; rintro e w' ⟨rfl, rfl⟩))
 all_goals (go_ret; refine ⟨ret_bool ?_, (Below.refl _ _).alloc (Nat.le_refl _) _⟩)
 all_goals simp_all

theorem implMachineOk_any (n : Nat) (m : MacV) (T : Tr) (l : DL) (w : World) (h : MacAt n w m T l) :
  Calls Tryz.prog 74 #[m.val] w fun e w' => e = .returned (.bool (machOk T l)) ∧ Below w.heap.size w w' := by
 obtain ⟨a, b, off, cap, hv, hcap, hmax, ha, hx0, hx1, hx2, hx3⟩ := h.2.dones
 obtain ⟨⟨lf, p, c, k, bf⟩, v⟩ := m
 simp only at hv
 subst hv
 unfold maxLen at hmax
 have TT : Hid (TreeAt n w ⟨lf, p, c, k, bf⟩ T) := h.1
 have N1 : Hid (MBox 48 (w.alloc (.cells #[.bool lf, p, c, k, bf, .slice a l.length cap] 48)) w.heap.size #[.bool lf, p, c, k, bf, .slice a l.length cap]) := MBox.start _ w _
 have B1 : Hid (Below w.heap.size w (w.alloc (.cells #[.bool lf, p, c, k, bf, .slice a l.length cap] 48))) := bel_nw _ _
 have c1 := N1.out.cells
 clear h
 show Calls Tryz.prog 74 #[.agg #[.bool lf, p, c, k, bf, .slice a l.length cap]] w _
 go_enter Tryz.func74, Tryz.ntmps74
 go_upto_region 1 with fail
 generalize w.alloc (.cells #[.bool lf, p, c, k, bf, .slice a l.length cap] 48) = W0 at *
 go_wp2_with fail
 refine (implTreeOk_any n ⟨lf, p, c, k, bf⟩ T W0 (TT.out.below B1.out)).mono ?_
 rintro e W ⟨rfl, b0⟩
 replace N1 : Hid (MBox 48 W w.heap.size #[.bool lf, p, c, k, bf, .slice a l.length cap]) := N1.out.step b0
 replace B1 : Hid (Below w.heap.size w W) := Below.and B1.out b0
 clear c1 b0
 have c1 := N1.out.cells
 cases hok : okT T with
 | false =>
  have HO : Hid (okT T = false) := hok
  clear hok
  go_wp2
  go_ret
  exact ⟨ret_bool (by unfold machOk; rw [HO.out]; rfl), B1.out⟩
 | true =>
  have HO : Hid (okT T = true) := hok
  clear hok
  go_wp2_with fail
  go_loopw [12] (fun i wr => ∃ j : Nat, j ≤ l.length ∧ i = .int .i64 j ∧ Hid (∀ i, i < j → doneAt l i = true) ∧ Hid (Below W.heap.size W wr))
   (fun i _ => l.length - (intOf i).toNat)
  case atStart => exact ⟨0, Nat.zero_le _, rfl, fun i hi => absurd hi (Nat.not_lt_zero _), Below.refl _ _⟩
  case round =>
   obtain ⟨j, hjl, rfl, ALL, hbW⟩ := hrel
   have hb : Hid (Below w.heap.size w wr) := Below.and B1.out hbW.out
   by_cases hlt : j < l.length
   ·have hal := ha (by omega)
    subst hal
    have d0 : wr.cell? ⟨b, off + j * 4, none⟩ = some (.int .i64 (dC l j)) := (hb.out.cell (by exact cell_lt (hx0 j hlt))).trans (hx0 j hlt)
    have d1 : wr.cell? ⟨b, off + j * 4 + 1, none⟩ = some (.int .i64 (dS l j)) := (hb.out.cell (by exact cell_lt (hx1 j hlt))).trans (hx1 j hlt)
    have d2 : wr.cell? ⟨b, off + j * 4 + 2, none⟩ = some (.int .i64 (dV l j)) := (hb.out.cell (by exact cell_lt (hx2 j hlt))).trans (hx2 j hlt)
    have d3 : wr.cell? ⟨b, off + j * 4 + 3, none⟩ = some (.bool (dH l j)) := (hb.out.cell (by exact cell_lt (hx3 j hlt))).trans (hx3 j hlt)
    have NB : Hid (Below wr.heap.size wr (wr.alloc (.cells #[.int .i64 (dC l j), .int .i64 (dS l j), .int .i64 (dV l j), .bool (dH l j)] 126))) := bel_nw _ _
    have NX : Hid (MBox 126 (wr.alloc (.cells #[.int .i64 (dC l j), .int .i64 (dS l j), .int .i64 (dV l j), .bool (dH l j)] 126)) wr.heap.size #[.int .i64 (dC l j), .int .i64 (dS l j), .int .i64 (dV l j), .bool (dH l j)]) := MBox.start _ wr _
    clear c1
    go_upto_region 6 with fail
    generalize wr.alloc (.cells #[.int .i64 (dC l j), .int .i64 (dS l j), .int .i64 (dV l j), .bool (dH l j)] 126) = V at *
    generalize hbx : wr.heap.size = bx at *
    have e0 := NX.out.cells
    have FV : Hid (Below W.heap.size W V) := hbW.out.trans (NB.out.mono (by rw [← hbx]; exact hbW.out.size))
    have c2 := (N1.out.step FV.out).cells
    have FB : Hid (Below w.heap.size w V) := Below.and B1.out FV.out
    clear d0 d1 d2 d3
    go_wp2_with fail
    refine (doneOk_any (dC l j) (dS l j) (dV l j) (dH l j) V).mono ?_
    rintro e V2 ⟨rfl, b2⟩
    have E0 : Hid (MBox 126 V2 bx #[.int .i64 (dC l j), .int .i64 (dS l j), .int .i64 (dV l j), .bool (dH l j)]) := NX.out.step b2
    replace FV : Hid (Below W.heap.size W V2) := Below.and FV.out b2
    replace FB : Hid (Below w.heap.size w V2) := Below.and FB.out b2
    clear b2 e0 c2 NX NB
    have e0 := E0.out.cells
    have c2 := (N1.out.step FV.out).cells
    change Hid _ at hbx
    generalize hK : (inB (dC l j) 1 9 && (inB (dS l j) 1 100000 && inB (dV l j) (-1000000000) 1000000000)) = B
    cases B with
    | false =>
     have NE : Hid (donesOk l = false) := donesOk_false hlt (doneAt_ok hK)
     clear hx0 hx1 hx2 hx3 hK
     go_wp2
     go_ret
     exact ⟨ret_bool (by unfold machOk; rw [HO.out, NE.out]; rfl), FB.out⟩
    | true =>
     have DP : Hid _ := dok_parts hK
     clear hK
     cases j with
     | zero =>
      have OK : Hid (doneAt l 0 = true) := doneAt_zero DP.out.1 DP.out.2.1 DP.out.2.2
      clear hx0 hx1 hx2 hx3
      go_wp2_with fail
      go_quiet (fail)
      go_wp2
      go_roundw
      case rel => exact ⟨1, by omega, by go_num, fun i hi => by rw [show i = 0 by omega]; exact OK.out, below_drewN FV.out _⟩
      case measure => simp [intOf]; omega
     | succ j =>
      have hpos : (0 : Int) < ((j + 1 : Nat) : Int) := by omega
      have g2 : V2.cell? ⟨b, off + j * 4, none⟩ = some (.int .i64 (dC l j)) := (FB.out.cell (by exact cell_lt (hx0 j (by omega)))).trans (hx0 j (by omega))
      clear hx0 hx1 hx2 hx3
      by_cases hord : dC l j < dC l (j + 1)
      ·have OK : Hid (doneAt l (j + 1) = true) := doneAt_succ DP.out.1 DP.out.2.1 DP.out.2.2 hord
       have hle : ¬ dC l (j + 1) ≤ dC l j := by omega
       have hle' : decide (dC l (j + 1) ≤ dC l j) = false := decide_eq_false hle
       go_wp2_with fail
       go_quiet (fail)
       go_wp2
       go_roundw
       case rel => exact ⟨j + 1 + 1, by omega, by go_num, fun i hi => if h : i < j + 1 then ALL.out i h else by rw [show i = j + 1 by omega]; exact OK.out, below_drewN FV.out _⟩
       case measure => simp [intOf]; omega
      ·have NE : Hid (donesOk l = false) := donesOk_false hlt (doneAt_lt hord)
       have hle : dC l (j + 1) ≤ dC l j := by omega
       go_wp2_with fail
       go_quiet (fail)
       go_wp2
       go_ret
       exact ⟨ret_bool (by unfold machOk; rw [HO.out, NE.out]; rfl), below_drewN FB.out _⟩
   ·have OK : Hid (donesOk l = true) := donesOk_true (fun i hi => ALL.out i (by omega))
    clear hx0 hx1 hx2 hx3
    go_wp2
    go_ret
    exact ⟨ret_bool (by unfold machOk; rw [HO.out, OK.out]; rfl), hb.out⟩
end
section
open Go.RowKit

theorem indexOk_any (x : Int) (w : World) :
  Calls Tryz.prog 97 #[.int .i64 x] w fun e w' => e = .returned (.bool (inB x 0 100000)) ∧ w' = w := by
 by_cases h1 : 0 ≤ x
 ·by_cases h2 : x ≤ 100000
  ·have E : Hid (inB x 0 100000 = true) := inB_true h1 h2
   go_enter Tryz.func97, Tryz.ntmps97
   go_wp2
   go_ret
   exact ⟨ret_bool E.out.symm, rfl⟩
  ·have E : Hid (inB x 0 100000 = false) := inB_false2 h2
   go_enter Tryz.func97, Tryz.ntmps97
   go_wp2
   go_ret
   exact ⟨ret_bool E.out.symm, rfl⟩
 ·have E : Hid (inB x 0 100000 = false) := inB_false1 h1
  go_enter Tryz.func97, Tryz.ntmps97
  go_wp2
  go_ret
  exact ⟨ret_bool E.out.symm, rfl⟩

theorem implLogOk_any (b bt : Int) (v : Value) (l : EL) (w : World) (h : Row w v l.length (flatE l)) (hn : l.length ≤ 1099511627776) :
  Calls Tryz.prog 98 #[lgV b bt v] w fun e w' => e = .returned (.bool (logOkB b bt l)) ∧ Below w.heap.size w w' := by
 obtain ⟨a, bb, off, cap, rfl, hcap, hmax, ha, hx0, hx1, hx2, hx3, hx4, hx5⟩ := h.ents
 unfold maxLen at hmax
 have N1 : Hid (MBox 40 (w.alloc (.cells #[.int .i64 b, .int .i64 bt, .slice a l.length cap] 40)) w.heap.size #[.int .i64 b, .int .i64 bt, .slice a l.length cap]) := MBox.start _ w _
 have B1 : Hid (Below w.heap.size w (w.alloc (.cells #[.int .i64 b, .int .i64 bt, .slice a l.length cap] 40))) := bel_nw _ _
 have c1 := N1.out.cells
 clear h
 cases h1 : inB b 0 100000 with
 | false =>
  have E : Hid (logOkB b bt l = false) := logOk_1 h1
  clear hx0 hx1 hx2 hx3 hx4 hx5 ha
  go_enter Tryz.func98, Tryz.ntmps98
  go_wp2_with (go_at_call 97; refine (indexOk_any _ _).mono ?_; rintro e w' ⟨rfl, rfl⟩)
  go_ret
  exact ⟨ret_bool E.out.symm, B1.out⟩
 | true =>
 cases h2 : inB bt 0 100000 with
 | false =>
  have E : Hid (logOkB b bt l = false) := logOk_2 h2
  clear hx0 hx1 hx2 hx3 hx4 hx5 ha
  go_enter Tryz.func98, Tryz.ntmps98
  go_wp2_with (go_at_call 97; refine (indexOk_any _ _).mono ?_; rintro e w' ⟨rfl, rfl⟩)
  go_ret
  exact ⟨ret_bool E.out.symm, B1.out⟩
 | true =>
 have hb0 := (inB_iff.1 h1).1
 have hb1 := (inB_iff.1 h1).2
 by_cases h3 : b + l.length ≤ 100000
 ·have HH : Hid _ := And.intro h1 (And.intro h2 h3)
  have h3' : inB (b + (l.length : Int)) 0 100000 = true := inB_true (by omega) h3
  go_enter Tryz.func98, Tryz.ntmps98
  go_wp2_with (go_at_call 97; refine (indexOk_any _ _).mono ?_; rintro e w' ⟨rfl, rfl⟩)
  clear h1 h2 c1 h3'
  generalize w.alloc (.cells #[.int .i64 b, .int .i64 bt, .slice a l.length cap] 40) = W at *
  go_loopw [3, 31] (fun t i wr => ∃ j : Nat, j ≤ l.length ∧ i = .int .i64 j ∧ t = .int .i64 (prevT bt l j) ∧ Hid (∀ i, i < j → entAt bt l i = true) ∧ Hid (Below W.heap.size W wr))
   (fun _ i _ => l.length - (intOf i).toNat)
  case atStart => exact ⟨0, Nat.zero_le _, rfl, rfl, fun i hi => absurd hi (Nat.not_lt_zero _), Below.refl _ _⟩
  case round =>
   obtain ⟨j, hjl, rfl, rfl, ALL, hbW⟩ := hrel
   have hb : Hid (Below w.heap.size w wr) := Below.and B1.out hbW.out
   by_cases hlt : j < l.length
   ·have hal := ha (by omega)
    subst hal
    have d0 : wr.cell? ⟨bb, off + j * 6, none⟩ = some (.int .i64 (eT l j)) := (hb.out.cell (by exact cell_lt (hx0 j hlt))).trans (hx0 j hlt)
    have d1 : wr.cell? ⟨bb, off + j * 6 + 1, none⟩ = some (.int .i64 (eC l j)) := (hb.out.cell (by exact cell_lt (hx1 j hlt))).trans (hx1 j hlt)
    have d2 : wr.cell? ⟨bb, off + j * 6 + 2, none⟩ = some (.int .i64 (eS l j)) := (hb.out.cell (by exact cell_lt (hx2 j hlt))).trans (hx2 j hlt)
    have d3 : wr.cell? ⟨bb, off + j * 6 + 3, none⟩ = some (.int .i64 (eO l j)) := (hb.out.cell (by exact cell_lt (hx3 j hlt))).trans (hx3 j hlt)
    have d4 : wr.cell? ⟨bb, off + j * 6 + 4, none⟩ = some (.int .i64 (eK l j)) := (hb.out.cell (by exact cell_lt (hx4 j hlt))).trans (hx4 j hlt)
    have d5 : wr.cell? ⟨bb, off + j * 6 + 5, none⟩ = some (.int .i64 (eV l j)) := (hb.out.cell (by exact cell_lt (hx5 j hlt))).trans (hx5 j hlt)
    clear hx0 hx1 hx2 hx3 hx4 hx5
    have NB : Hid (Below wr.heap.size wr (wr.alloc (.cells #[.int .i64 (eT l j), .int .i64 (eC l j), .int .i64 (eS l j), .int .i64 (eO l j), .int .i64 (eK l j), .int .i64 (eV l j)] 113))) := bel_nw _ _
    have NX : Hid (MBox 113 (wr.alloc (.cells #[.int .i64 (eT l j), .int .i64 (eC l j), .int .i64 (eS l j), .int .i64 (eO l j), .int .i64 (eK l j), .int .i64 (eV l j)] 113)) wr.heap.size #[.int .i64 (eT l j), .int .i64 (eC l j), .int .i64 (eS l j), .int .i64 (eO l j), .int .i64 (eK l j), .int .i64 (eV l j)]) := MBox.start _ wr _
    generalize hpt : prevT bt l j = pt at *
    have HPT : Hid _ := hpt
    clear hpt
    go_upto_region 7 with fail
    generalize wr.alloc (.cells #[.int .i64 (eT l j), .int .i64 (eC l j), .int .i64 (eS l j), .int .i64 (eO l j), .int .i64 (eK l j), .int .i64 (eV l j)] 113) = V at *
    have FV : Hid (Below W.heap.size W V) := Below.and hbW.out NB.out
    have FB : Hid (Below w.heap.size w V) := Below.and B1.out FV.out
    generalize wr.heap.size = bx at *
    have e0 := NX.out.cells
    clear d0 d1 d2 d3 d4 d5 NB hb hbW
    by_cases t1 : eT l j < pt
    ·have E : Hid (logOkB b bt l = false) := logOk_4 (entsOk_false hlt (entAt_t (by rw [HPT.out]; exact inB_false1 (by omega))))
     go_wp2_with fail
     go_ret
     exact ⟨ret_bool E.out.symm, FB.out⟩
    ·by_cases t2 : eT l j ≤ 100000
     ·have HT : Hid (inB (eT l j) (prevT bt l j) 100000 = true) := by show _ = _; rw [HPT.out]; exact inB_true (by omega) t2
      have t2' : ¬ (100000 : Int) < eT l j := by omega
      go_wp2_with fail
      refine (implCmdOk_any _ _ _ _ _ _).mono ?_
      rintro e w2 ⟨rfl, b2⟩
      have FW : Hid (Below W.heap.size W w2) := Below.and FV.out b2
      have FB2 : Hid (Below w.heap.size w w2) := Below.and FB.out b2
      have NX2 := NX.out.step b2
      clear b2 e0
      have e0 := NX2.cells
      clear NX2
      generalize hC : cmdOkB (eC l j) (eS l j) (eO l j) (eK l j) (eV l j) = q
      cases q with
      | false =>
       have E : Hid (logOkB b bt l = false) := logOk_4 (entsOk_false hlt (entAt_c hC))
       clear hC
       go_wp2
       go_ret
       exact ⟨ret_bool E.out.symm, FB2.out⟩
      | true =>
       have OK : Hid (entAt bt l j = true) := entAt_y HT.out hC
       clear hC
       go_wp2
       go_roundw
       case rel => exact ⟨j + 1, by omega, by go_num, by rw [prevT_succ], fun i hi => if h : i < j then ALL.out i h else by rw [show i = j by omega]; exact OK.out, FW.out⟩
       case measure => simp [intOf]; omega
     ·have E : Hid (logOkB b bt l = false) := logOk_4 (entsOk_false hlt (entAt_t (inB_false2 t2)))
      have t2' : (100000 : Int) < eT l j := by omega
      go_wp2_with fail
      go_ret
      exact ⟨ret_bool E.out.symm, FB.out⟩
   ·have E : Hid (logOkB b bt l = true) := logOk_5 HH.out.1 HH.out.2.1 HH.out.2.2 (entsOk_true (fun i hi => ALL.out i (by omega)))
    clear hx0 hx1 hx2 hx3 hx4 hx5
    go_wp2
    go_ret
    exact ⟨ret_bool E.out.symm, hb.out⟩
 ·have E : Hid (logOkB b bt l = false) := logOk_3 h3
  have h3' : inB (b + (l.length : Int)) 0 100000 = false := inB_false2 h3
  clear hx0 hx1 hx2 hx3 hx4 hx5 ha h3
  go_enter Tryz.func98, Tryz.ntmps98
  go_wp2_with (go_at_call 97; refine (indexOk_any _ _).mono ?_; rintro e w' ⟨rfl, rfl⟩)
  go_ret
  exact ⟨ret_bool E.out.symm, B1.out⟩
end
section
open Go.RowKit

theorem sizeOk_any (x : Int) (w : World) : Calls Tryz.prog 68 #[.int .i64 x] w fun e w' => e = .returned (.bool (inB x 1 5)) ∧ w' = w := by
 by_cases h1 : 1 ≤ x
 ·by_cases h2 : x ≤ 5
  ·have E : Hid (inB x 1 5 = true) := inB_true h1 h2
   go_enter Tryz.func68, Tryz.ntmps68
   go_wp2
   go_ret
   exact ⟨ret_bool E.out.symm, rfl⟩
  ·have E : Hid (inB x 1 5 = false) := inB_false2 h2
   go_enter Tryz.func68, Tryz.ntmps68
   go_wp2
   go_ret
   exact ⟨ret_bool E.out.symm, rfl⟩
 ·have E : Hid (inB x 1 5 = false) := inB_false1 h1
  go_enter Tryz.func68, Tryz.ntmps68
  go_wp2
  go_ret
  exact ⟨ret_bool E.out.symm, rfl⟩
theorem isOneOf_any (x y : Int) (w : World) : Calls Tryz.prog 69 #[.int .i64 x, .int .i64 y] w fun e w' => e = .returned (.bool (inB x 0 (y - 1))) ∧ w' = w := by
 by_cases h1 : 0 ≤ x
 ·by_cases h2 : x < y
  ·have E : Hid (inB x 0 (y - 1) = true) := inB_true h1 (by omega)
   go_enter Tryz.func69, Tryz.ntmps69
   go_wp2
   go_ret
   exact ⟨ret_bool E.out.symm, rfl⟩
  ·have E : Hid (inB x 0 (y - 1) = false) := inB_false2 (by omega)
   go_enter Tryz.func69, Tryz.ntmps69
   go_wp2
   go_ret
   exact ⟨ret_bool E.out.symm, rfl⟩
 ·have E : Hid (inB x 0 (y - 1) = false) := inB_false1 h1
  go_enter Tryz.func69, Tryz.ntmps69
  go_wp2
  go_ret
  exact ⟨ret_bool E.out.symm, rfl⟩
theorem voteOk_any (x y : Int) (w : World) (hy : 1 ≤ y) : Calls Tryz.prog 71 #[.int .i64 x, .int .i64 y] w fun e w' => e = .returned (.bool (inB x (-1) (y - 1))) ∧ w' = w := by
 by_cases h1 : x = -1
 ·have E : Hid (inB x (-1) (y - 1) = true) := inB_true (by omega) (by omega)
  have h1b : (x == -1) = true := by simp [h1]
  clear h1
  go_enter Tryz.func71, Tryz.ntmps71
  go_wp2
  go_ret
  exact ⟨ret_bool E.out.symm, rfl⟩
 ·have E : Hid (inB x (-1) (y - 1) = inB x 0 (y - 1)) := by
   show _ = _
   unfold inB
   congr 1
   simp only [eq_iff_iff]
   omega
  have h1b : (x == -1) = false := by simp [h1]
  clear h1
  go_enter Tryz.func71, Tryz.ntmps71
  go_wp2_with fail
  refine (isOneOf_any _ _ _).mono ?_
  rintro e w1 ⟨rfl, hw1⟩
  subst hw1
  go_wp2
  go_ret
  exact ⟨ret_bool E.out.symm, rfl⟩

theorem allWithin_any (v : Value) (l : List Int) (lo hi : Int) (w : World) (h : Row w v l.length (flatI l)) : Calls Tryz.prog 102 #[v, .int .i64 lo, .int .i64 hi] w fun e w' => e = .returned (.bool (allIn l lo hi)) ∧ w' = w := by
 obtain ⟨a, b, off, cap, rfl, hcap, hmax, ha, hx⟩ := h.ints
 unfold maxLen at hmax
 clear h
 go_enter Tryz.func102, Tryz.ntmps102
 go_wp2
 go_loopw [11] (fun i wr => ∃ k : Nat, k ≤ l.length ∧ i = .int .i64 k ∧ wr = w ∧ Hid (∀ j, j < k → inB (iAt l j) lo hi = true))
  (fun i _ => l.length - (intOf i).toNat)
 case atStart => exact ⟨0, Nat.zero_le _, rfl, rfl, fun j hj => absurd hj (Nat.not_lt_zero _)⟩
 case round =>
  obtain ⟨k, hk, rfl, hwr, ALL⟩ := hrel
  subst hwr
  by_cases hlt : k < l.length
  ·have hal := ha (by omega)
   subst hal
   have d1 := hx k hlt
   have F1 : Hid (inB (iAt l k) lo hi = false → allIn l lo hi = false) := fun h => allIn_false hlt h
   generalize hxx : iAt l k = x at *
   have HX : Hid _ := hxx
   clear hxx hx ha
   by_cases h1 : x < lo
   ·have E : Hid (allIn l lo hi = false) := F1.out (inB_false1 (by omega))
    go_wp2
    go_ret
    exact ⟨ret_bool E.out.symm, rfl⟩
   ·by_cases h2 : hi < x
    ·have E : Hid (allIn l lo hi = false) := F1.out (inB_false2 (by omega))
     go_wp2
     go_ret
     exact ⟨ret_bool E.out.symm, rfl⟩
    ·have A2 : Hid (∀ j, j < k + 1 → inB (iAt l j) lo hi = true) := fun j hj => by
      by_cases hjk : j < k
      ·exact ALL.out j hjk
      ·have : j = k := by omega
       subst this
       rw [HX.out]
       exact inB_true (by omega) (by omega)
     go_wp2
     go_roundw
     case rel => exact ⟨k + 1, by omega, by go_num, (by first | rfl | trivial), A2⟩
     case measure => simp [intOf]; omega
  ·have E : Hid (allIn l lo hi = true) := allIn_true (fun i hi => ALL.out i (by omega))
   clear hx ha
   go_wp2
   go_ret
   exact ⟨ret_bool E.out.symm, rfl⟩

theorem follows_any (N : NodV) (w : World) : Calls Tryz.prog 100 #[N.val] w fun e w' => e = .returned (.bool (N.ro == 0)) ∧ Below w.heap.size w w' := by
 obtain ⟨id, te, vo, lb, lt, lv, ⟨⟨sl, sp, sc, sk, sb⟩, sv⟩, ro, vv, nv, mv, cm, ⟨⟨ol, op, oc, ok, ob⟩, ov⟩⟩ := N
 have N1 : Hid (MBox 50 (w.alloc (.cells #[.int .i64 id, .int .i64 te, .int .i64 vo, .int .i64 lb, .int .i64 lt, lv, .bool sl, sp, sc, sk, sb, sv, .int .i64 ro, vv, nv, mv, .int .i64 cm, .bool ol, op, oc, ok, ob, ov] 50)) w.heap.size #[.int .i64 id, .int .i64 te, .int .i64 vo, .int .i64 lb, .int .i64 lt, lv, .bool sl, sp, sc, sk, sb, sv, .int .i64 ro, vv, nv, mv, .int .i64 cm, .bool ol, op, oc, ok, ob, ov]) := MBox.start _ w _
 have B1 : Hid (Below w.heap.size w (w.alloc (.cells #[.int .i64 id, .int .i64 te, .int .i64 vo, .int .i64 lb, .int .i64 lt, lv, .bool sl, sp, sc, sk, sb, sv, .int .i64 ro, vv, nv, mv, .int .i64 cm, .bool ol, op, oc, ok, ob, ov] 50))) := bel_nw _ _
 have c1 := N1.out.cells
 show Calls Tryz.prog 100 #[.agg #[.int .i64 id, .int .i64 te, .int .i64 vo, .int .i64 lb, .int .i64 lt, lv, .bool sl, sp, sc, sk, sb, sv, .int .i64 ro, vv, nv, mv, .int .i64 cm, .bool ol, op, oc, ok, ob, ov]] w _
 go_enter Tryz.func100, Tryz.ntmps100
 go_wp2
 go_ret
 exact ⟨rfl, B1.out⟩
theorem stands_any (N : NodV) (w : World) : Calls Tryz.prog 101 #[N.val] w fun e w' => e = .returned (.bool (N.ro == 1)) ∧ Below w.heap.size w w' := by
 obtain ⟨id, te, vo, lb, lt, lv, ⟨⟨sl, sp, sc, sk, sb⟩, sv⟩, ro, vv, nv, mv, cm, ⟨⟨ol, op, oc, ok, ob⟩, ov⟩⟩ := N
 have N1 : Hid (MBox 50 (w.alloc (.cells #[.int .i64 id, .int .i64 te, .int .i64 vo, .int .i64 lb, .int .i64 lt, lv, .bool sl, sp, sc, sk, sb, sv, .int .i64 ro, vv, nv, mv, .int .i64 cm, .bool ol, op, oc, ok, ob, ov] 50)) w.heap.size #[.int .i64 id, .int .i64 te, .int .i64 vo, .int .i64 lb, .int .i64 lt, lv, .bool sl, sp, sc, sk, sb, sv, .int .i64 ro, vv, nv, mv, .int .i64 cm, .bool ol, op, oc, ok, ob, ov]) := MBox.start _ w _
 have B1 : Hid (Below w.heap.size w (w.alloc (.cells #[.int .i64 id, .int .i64 te, .int .i64 vo, .int .i64 lb, .int .i64 lt, lv, .bool sl, sp, sc, sk, sb, sv, .int .i64 ro, vv, nv, mv, .int .i64 cm, .bool ol, op, oc, ok, ob, ov] 50))) := bel_nw _ _
 have c1 := N1.out.cells
 show Calls Tryz.prog 101 #[.agg #[.int .i64 id, .int .i64 te, .int .i64 vo, .int .i64 lb, .int .i64 lt, lv, .bool sl, sp, sc, sk, sb, sv, .int .i64 ro, vv, nv, mv, .int .i64 cm, .bool ol, op, oc, ok, ob, ov]] w _
 go_enter Tryz.func101, Tryz.ntmps101
 go_wp2
 go_ret
 exact ⟨rfl, B1.out⟩
theorem leads_any (N : NodV) (w : World) : Calls Tryz.prog 47 #[N.val] w fun e w' => e = .returned (.bool (N.ro == 2)) ∧ Below w.heap.size w w' := by
 obtain ⟨id, te, vo, lb, lt, lv, ⟨⟨sl, sp, sc, sk, sb⟩, sv⟩, ro, vv, nv, mv, cm, ⟨⟨ol, op, oc, ok, ob⟩, ov⟩⟩ := N
 have N1 : Hid (MBox 50 (w.alloc (.cells #[.int .i64 id, .int .i64 te, .int .i64 vo, .int .i64 lb, .int .i64 lt, lv, .bool sl, sp, sc, sk, sb, sv, .int .i64 ro, vv, nv, mv, .int .i64 cm, .bool ol, op, oc, ok, ob, ov] 50)) w.heap.size #[.int .i64 id, .int .i64 te, .int .i64 vo, .int .i64 lb, .int .i64 lt, lv, .bool sl, sp, sc, sk, sb, sv, .int .i64 ro, vv, nv, mv, .int .i64 cm, .bool ol, op, oc, ok, ob, ov]) := MBox.start _ w _
 have B1 : Hid (Below w.heap.size w (w.alloc (.cells #[.int .i64 id, .int .i64 te, .int .i64 vo, .int .i64 lb, .int .i64 lt, lv, .bool sl, sp, sc, sk, sb, sv, .int .i64 ro, vv, nv, mv, .int .i64 cm, .bool ol, op, oc, ok, ob, ov] 50))) := bel_nw _ _
 have c1 := N1.out.cells
 show Calls Tryz.prog 47 #[.agg #[.int .i64 id, .int .i64 te, .int .i64 vo, .int .i64 lb, .int .i64 lt, lv, .bool sl, sp, sc, sk, sb, sv, .int .i64 ro, vv, nv, mv, .int .i64 cm, .bool ol, op, oc, ok, ob, ov]] w _
 go_enter Tryz.func47, Tryz.ntmps47
 go_wp2
 go_ret
 exact ⟨rfl, B1.out⟩
end
section
open Go.RowKit

theorem Tryz.uF3 : Tryz.prog.underlying 141 = some (.array 3 85) := by kernel_rfl
theorem index_fn (f0 f1 f2 : Value) (k : Nat) (f : Value) (hk : (#[f0, f1, f2] : Array Value)[k]? = some f) (u : World) : (Instr.index 141 (.agg #[f0, f1, f2]) (.int .i64 k)).run Tryz.prog u = .ok f u := by
 have hlt : k < 3 := by have := (Array.getElem?_eq_some_iff.1 hk).1; simpa using this
 have ha : (isAgg 85).run Tryz.prog u = .ok false u := by
  unfold isAgg
  rw [Sem.run_bind, run_underlying Tryz.underlying85 u]
  simp
 have hp : (part 85 #[f0, f1, f2] k).run Tryz.prog u = .ok f u := by
  unfold part
  rw [Sem.run_bind, ha]
  simp only [Result.andThen_ok, Bool.false_eq_true, if_false, hk]
  simp
 unfold Instr.index
 rw [Sem.run_bind]
 simp [asIntOf, run_underlying Tryz.uF3, hp]
 intro h
 omega

theorem roleOk_any (N : NodV) (w : World) : Calls Tryz.prog 72 #[N.val] w fun e w' => e = .returned (.bool (inB N.ro 0 2)) ∧ Below w.heap.size w w' := by
 have E : Hid (inB N.ro 0 2 = ((N.ro == 0) || ((N.ro == 1) || (N.ro == 2)))) := by
  show _ = _
  unfold inB
  by_cases h0 : N.ro = 0
  ·simp [h0]
  ·by_cases h1 : N.ro = 1
   ·simp [h1]
   ·by_cases h2 : N.ro = 2
    ·simp [h2]
    ·rw [beq_eq_false_iff_ne.2 h0, beq_eq_false_iff_ne.2 h1, beq_eq_false_iff_ne.2 h2]
     simp only [Bool.or_false, decide_eq_false_iff_not]
     omega
 have K0 : Hid (∀ u, Calls Tryz.prog 100 #[N.val] u fun e w' => e = .returned (.bool (N.ro == 0)) ∧ Below u.heap.size u w') := fun u => follows_any N u
 have K1 : Hid (∀ u, Calls Tryz.prog 101 #[N.val] u fun e w' => e = .returned (.bool (N.ro == 1)) ∧ Below u.heap.size u w') := fun u => stands_any N u
 have K2 : Hid (∀ u, Calls Tryz.prog 47 #[N.val] u fun e w' => e = .returned (.bool (N.ro == 2)) ∧ Below u.heap.size u w') := fun u => leads_any N u
 generalize inB N.ro 0 2 = bb at *
 generalize (N.ro == 0) = b0 at *
 generalize (N.ro == 1) = b1 at *
 generalize (N.ro == 2) = b2 at *
 obtain ⟨id, te, vo, lb, lt, lv, ⟨⟨sl, sp, sc, sk, sb⟩, sv⟩, ro, vv, nv, mv, cm, ⟨⟨ol, op, oc, ok, ob⟩, ov⟩⟩ := N
 simp only [NodV.val] at K0 K1 K2
 have RG : Hid (World.rangeAt (w.alloc (.cells #[.int .i64 id, .int .i64 te, .int .i64 vo, .int .i64 lb, .int .i64 lt, lv, .bool sl, sp, sc, sk, sb, sv, .int .i64 ro, vv, nv, mv, .int .i64 cm, .bool ol, op, oc, ok, ob, ov] 50)) w.heap.size 0 [.int .i64 id, .int .i64 te, .int .i64 vo, .int .i64 lb, .int .i64 lt, lv, .bool sl, sp, sc, sk, sb, sv, .int .i64 ro, vv, nv, mv, .int .i64 cm, .bool ol, op, oc, ok, ob, ov]) := range_of (MBox.start 50 w #[.int .i64 id, .int .i64 te, .int .i64 vo, .int .i64 lb, .int .i64 lt, lv, .bool sl, sp, sc, sk, sb, sv, .int .i64 ro, vv, nv, mv, .int .i64 cm, .bool ol, op, oc, ok, ob, ov])
 have HI : Hid ((Tryz.prog.info? 50).map (·.size) = some (List.length [.int .i64 id, .int .i64 te, .int .i64 vo, .int .i64 lb, .int .i64 lt, lv, .bool sl, sp, sc, sk, sb, sv, .int .i64 ro, vv, nv, mv, .int .i64 cm, .bool ol, op, oc, ok, ob, ov])) := (show (Tryz.prog.info? 50).map (·.size) = some 23 by kernel_rfl)
 have B1 : Hid (Below w.heap.size w (w.alloc (.cells #[.int .i64 id, .int .i64 te, .int .i64 vo, .int .i64 lb, .int .i64 lt, lv, .bool sl, sp, sc, sk, sb, sv, .int .i64 ro, vv, nv, mv, .int .i64 cm, .bool ol, op, oc, ok, ob, ov] 50))) := bel_nw _ _
 show Calls Tryz.prog 72 #[.agg #[.int .i64 id, .int .i64 te, .int .i64 vo, .int .i64 lb, .int .i64 lt, lv, .bool sl, sp, sc, sk, sb, sv, .int .i64 ro, vv, nv, mv, .int .i64 cm, .bool ol, op, oc, ok, ob, ov]] w _
 go_enter Tryz.func72, Tryz.ntmps72
 go_upto_region 1 with fail
 generalize w.alloc (.cells #[.int .i64 id, .int .i64 te, .int .i64 vo, .int .i64 lb, .int .i64 lt, lv, .bool sl, sp, sc, sk, sb, sv, .int .i64 ro, vv, nv, mv, .int .i64 cm, .bool ol, op, oc, ok, ob, ov] 50) = W at *
 generalize ([.int .i64 id, .int .i64 te, .int .i64 vo, .int .i64 lb, .int .i64 lt, lv, .bool sl, sp, sc, sk, sb, sv, .int .i64 ro, vv, nv, mv, .int .i64 cm, .bool ol, op, oc, ok, ob, ov] : List Value) = cs at *
 go_wp2_with (refine wpList_load_mid rfl 50 _ rfl w.heap.size 0 rfl cs _ RG.out Tryz.underlying50 rfl HI.out ?_)
 clear RG HI
 generalize Value.agg cs.toArray = NV at *
 have B2 : Hid (Below w.heap.size w (W.alloc (.cells #[.func (.func 100) #[NV] #[], .func (.func 101) #[NV] #[], .func (.func 47) #[NV] #[]] 141))) := Below.and B1.out (bel_nw _ _)
 generalize W.alloc (.cells #[.func (.func 100) #[NV] #[], .func (.func 101) #[NV] #[], .func (.func 47) #[NV] #[]] 141) = W2 at *
 go_loopw [14] (fun i wr => ∃ k : Nat, k ≤ 3 ∧ i = .int .i64 k ∧ Hid (Below w.heap.size w wr) ∧ Hid ((k = 0 → bb = (b0 || (b1 || b2))) ∧ (k = 1 → bb = (b1 || b2)) ∧ (k = 2 → bb = b2) ∧ (k = 3 → bb = false)))
  (fun i _ => 3 - (intOf i).toNat)
 case atStart => exact ⟨0, by omega, rfl, B2.out, fun _ => E.out, fun h => by omega, fun h => by omega, fun h => by omega⟩
 case round =>
  obtain ⟨k, hk, rfl, BW, RE⟩ := hrel
  rcases (show k = 0 ∨ k = 1 ∨ k = 2 ∨ k = 3 by omega) with h | h | h | h
  ·subst h
   have R0 : Hid (bb = (b0 || (b1 || b2))) := RE.out.1 rfl
   clear RE hk
   have ix : (Instr.index 141 (.agg #[.func (.func 100) #[NV] #[], .func (.func 101) #[NV] #[], .func (.func 47) #[NV] #[]]) (.int .i64 0)).run Tryz.prog wr = .ok (.func (.func 100) #[NV] #[]) wr := index_fn _ _ _ 0 _ rfl wr
   go_wp2_with fail
   refine (K0.out _).mono ?_
   rintro e w1 ⟨rfl, h1⟩
   replace BW : Hid (Below w.heap.size w w1) := Below.and BW.out h1
   clear h1
   cases hb : b0
   ·have R2 : Hid (bb = (b1 || b2)) := by show _ = _; have := R0.out; rw [hb] at this; simpa using this
    go_wp2
    go_roundw
    case rel => exact ⟨0 + 1, by omega, by go_num, BW.out, ⟨fun h => by omega, fun _ => R2.out, fun h => by omega, fun h => by omega⟩⟩
    case measure => simp [intOf]
   ·have R2 : Hid (bb = true) := by show _ = _; have := R0.out; rw [hb] at this; simpa using this
    go_wp2
    go_ret
    exact ⟨ret_bool R2.out.symm, BW.out⟩
  ·subst h
   have R0 : Hid (bb = (b1 || b2)) := RE.out.2.1 rfl
   clear RE hk
   have ix : (Instr.index 141 (.agg #[.func (.func 100) #[NV] #[], .func (.func 101) #[NV] #[], .func (.func 47) #[NV] #[]]) (.int .i64 1)).run Tryz.prog wr = .ok (.func (.func 101) #[NV] #[]) wr := index_fn _ _ _ 1 _ rfl wr
   go_wp2_with fail
   refine (K1.out _).mono ?_
   rintro e w1 ⟨rfl, h1⟩
   replace BW : Hid (Below w.heap.size w w1) := Below.and BW.out h1
   clear h1
   cases hb : b1
   ·have R2 : Hid (bb = b2) := by show _ = _; have := R0.out; rw [hb] at this; simpa using this
    go_wp2
    go_roundw
    case rel => exact ⟨1 + 1, by omega, by go_num, BW.out, ⟨fun h => by omega, fun h => by omega, fun _ => R2.out, fun h => by omega⟩⟩
    case measure => simp [intOf]
   ·have R2 : Hid (bb = true) := by show _ = _; have := R0.out; rw [hb] at this; simpa using this
    go_wp2
    go_ret
    exact ⟨ret_bool R2.out.symm, BW.out⟩
  ·subst h
   have R0 : Hid (bb = b2) := RE.out.2.2.1 rfl
   clear RE hk
   have ix : (Instr.index 141 (.agg #[.func (.func 100) #[NV] #[], .func (.func 101) #[NV] #[], .func (.func 47) #[NV] #[]]) (.int .i64 2)).run Tryz.prog wr = .ok (.func (.func 47) #[NV] #[]) wr := index_fn _ _ _ 2 _ rfl wr
   go_wp2_with fail
   refine (K2.out _).mono ?_
   rintro e w1 ⟨rfl, h1⟩
   replace BW : Hid (Below w.heap.size w w1) := Below.and BW.out h1
   clear h1
   cases hb : b2
   ·have R2 : Hid (bb = false) := by show _ = _; have := R0.out; rw [hb] at this; simpa using this
    go_wp2
    go_roundw
    case rel => exact ⟨2 + 1, by omega, by go_num, BW.out, ⟨fun h => by omega, fun h => by omega, fun h => by omega, fun _ => R2.out⟩⟩
    case measure => simp [intOf]
   ·have R2 : Hid (bb = true) := by show _ = _; have := R0.out; rw [hb] at this; simpa using this
    go_wp2
    go_ret
    exact ⟨ret_bool R2.out.symm, BW.out⟩
  ·subst h
   have R2 : Hid (bb = false) := RE.out.2.2.2 rfl
   go_wp2
   go_ret
   exact ⟨ret_bool R2.out.symm, BW.out⟩
end
end Go.Proofs.YtmdajbbpigbdcaaGreat
