/-
  MachineOk of the program.
-/
import Derived.Test.YtmoaccohnmkleaaMOkS
import Derived.Test.YtmoaccohnmkleaaCmd
import Derived.Test.YtmoaccohnmkleaaTreeImplG
namespace Go.Proofs.Ytmoaccohnmkleaa
open Go.RowKit

/-- what was done is within its limits -/
def dokB (l : DL) (k : Nat) : Bool := inB (dC l k) 1 9 && (inB (dS l k) 1 100000 && inB (dV l k) (-1000000000) 1000000000)
theorem doneAt_ok {l : DL} {k : Nat} (h : dokB l k = false) : doneAt l k = false := by
  unfold dokB at h; unfold doneAt
  cases h1 : inB (dC l k) 1 9 <;> cases h2 : inB (dS l k) 1 100000 <;> cases h3 : inB (dV l k) (-1000000000) 1000000000 <;> simp_all
theorem dok_parts {l : DL} {k : Nat} (h : dokB l k = true) : inB (dC l k) 1 9 = true ∧ inB (dS l k) 1 100000 = true ∧ inB (dV l k) (-1000000000) 1000000000 = true := by
  unfold dokB at h; simp only [Bool.and_eq_true] at h; exact ⟨h.1, h.2.1, h.2.2⟩

set_option maxHeartbeats 1000000 in
theorem doneOk_any (c s v : Int) (h : Bool) (w : World) :
    Calls Try.prog 17 #[.agg #[.int .i64 c, .int .i64 s, .int .i64 v, .bool h]] w fun e w' => e = .returned (.bool (inB c 1 9 && (inB s 1 100000 && inB v (-1000000000) 1000000000))) ∧ Below w.heap.size w w' := by
  go_enter Try.func17, Try.ntmps17
  go_wp2_with (first | (go_at_call 31; refine (clientOk_any _ _).mono ?_; rintro e w' ⟨rfl, rfl⟩) | (go_at_call 32; refine (seqOk_any _ _).mono ?_; rintro e w' ⟨rfl, rfl⟩) | (go_at_call 33; refine (valueOk_any _ _).mono ?_; rintro e w' ⟨rfl, rfl⟩))
  all_goals (go_ret; refine ⟨ret_bool ?_, (Below.refl _ _).alloc (Nat.le_refl _) _⟩)
  all_goals simp_all

set_option maxRecDepth 100000 in
set_option maxHeartbeats 4000000 in
theorem implMachineOk_any (n : Nat) (m : MacV) (T : Tr) (l : DL) (w : World) (h : MacAt n w m T l) :
    Calls Try.prog 7 #[m.val] w fun e w' => e = .returned (.bool (machOk T l)) ∧ Below w.heap.size w w' := by
  obtain ⟨a, b, off, cap, hv, hcap, hmax, ha, hx0, hx1, hx2, hx3⟩ := h.2.dones
  obtain ⟨⟨lf, p, c, k, bf⟩, v⟩ := m
  simp only at hv
  subst hv
  unfold maxLen at hmax
  have TT : Hid (TreeAt n w ⟨lf, p, c, k, bf⟩ T) := h.1
  have N1 : Hid (MBox 40 (w.alloc (.cells #[.bool lf, p, c, k, bf, .slice a l.length cap] 40)) w.heap.size #[.bool lf, p, c, k, bf, .slice a l.length cap]) := MBox.start _ w _
  have B1 : Hid (Below w.heap.size w (w.alloc (.cells #[.bool lf, p, c, k, bf, .slice a l.length cap] 40))) := bel_nw _ _
  have c1 := N1.out.cells
  clear h
  show Calls Try.prog 7 #[.agg #[.bool lf, p, c, k, bf, .slice a l.length cap]] w _
  go_enter Try.func7, Try.ntmps7
  go_upto_region 1 with fail
  generalize w.alloc (.cells #[.bool lf, p, c, k, bf, .slice a l.length cap] 40) = W0 at *
  go_wp2_with fail
  refine (implTreeOk_any n ⟨lf, p, c, k, bf⟩ T W0 (TT.out.below B1.out)).mono ?_
  rintro e W ⟨rfl, b0⟩
  replace N1 : Hid (MBox 40 W w.heap.size #[.bool lf, p, c, k, bf, .slice a l.length cap]) := N1.out.step b0
  replace B1 : Hid (Below w.heap.size w W) := Below.and B1.out b0
  clear c1 b0
  have c1 := N1.out.cells
  cases hok : okT T with
  | false =>
    have HO : Hid (okT T = false) := hok
    clear hok
    go_wp2
    go_ret
    exact ⟨ret_bool (by unfold machOk; rw [HO.out]; rfl), B1.out⟩
  | true =>
    have HO : Hid (okT T = true) := hok
    clear hok
    go_wp2_with fail
    go_loopw [12] (fun i wr => ∃ j : Nat, j ≤ l.length ∧ i = .int .i64 j ∧ Hid (∀ i, i < j → doneAt l i = true) ∧ Hid (Below W.heap.size W wr))
      (fun i _ => l.length - (intOf i).toNat)
    case atStart => exact ⟨0, Nat.zero_le _, rfl, fun i hi => absurd hi (Nat.not_lt_zero _), Below.refl _ _⟩
    case round =>
      obtain ⟨j, hjl, rfl, ALL, hbW⟩ := hrel
      have hb : Hid (Below w.heap.size w wr) := Below.and B1.out hbW.out
      by_cases hlt : j < l.length
      · have hal := ha (by omega)
        subst hal
        have d0 : wr.cell? ⟨b, off + j * 4, none⟩ = some (.int .i64 (dC l j)) := (hb.out.cell (by exact cell_lt (hx0 j hlt))).trans (hx0 j hlt)
        have d1 : wr.cell? ⟨b, off + j * 4 + 1, none⟩ = some (.int .i64 (dS l j)) := (hb.out.cell (by exact cell_lt (hx1 j hlt))).trans (hx1 j hlt)
        have d2 : wr.cell? ⟨b, off + j * 4 + 2, none⟩ = some (.int .i64 (dV l j)) := (hb.out.cell (by exact cell_lt (hx2 j hlt))).trans (hx2 j hlt)
        have d3 : wr.cell? ⟨b, off + j * 4 + 3, none⟩ = some (.bool (dH l j)) := (hb.out.cell (by exact cell_lt (hx3 j hlt))).trans (hx3 j hlt)
        have NB : Hid (Below wr.heap.size wr (wr.alloc (.cells #[.int .i64 (dC l j), .int .i64 (dS l j), .int .i64 (dV l j), .bool (dH l j)] 47))) := bel_nw _ _
        have NX : Hid (MBox 47 (wr.alloc (.cells #[.int .i64 (dC l j), .int .i64 (dS l j), .int .i64 (dV l j), .bool (dH l j)] 47)) wr.heap.size #[.int .i64 (dC l j), .int .i64 (dS l j), .int .i64 (dV l j), .bool (dH l j)]) := MBox.start _ wr _
        clear c1
        go_upto_region 6 with fail
        generalize wr.alloc (.cells #[.int .i64 (dC l j), .int .i64 (dS l j), .int .i64 (dV l j), .bool (dH l j)] 47) = V at *
        generalize hbx : wr.heap.size = bx at *
        have e0 := NX.out.cells
        have FV : Hid (Below W.heap.size W V) := hbW.out.trans (NB.out.mono (by rw [← hbx]; exact hbW.out.size))
        have c2 := (N1.out.step FV.out).cells
        have FB : Hid (Below w.heap.size w V) := Below.and B1.out FV.out
        clear d0 d1 d2 d3
        go_wp2_with fail
        refine (doneOk_any (dC l j) (dS l j) (dV l j) (dH l j) V).mono ?_
        rintro e V2 ⟨rfl, b2⟩
        have E0 : Hid (MBox 47 V2 bx #[.int .i64 (dC l j), .int .i64 (dS l j), .int .i64 (dV l j), .bool (dH l j)]) := NX.out.step b2
        replace FV : Hid (Below W.heap.size W V2) := Below.and FV.out b2
        replace FB : Hid (Below w.heap.size w V2) := Below.and FB.out b2
        clear b2 e0 c2 NX NB
        have e0 := E0.out.cells
        have c2 := (N1.out.step FV.out).cells
        change Hid _ at hbx
        generalize hK : (inB (dC l j) 1 9 && (inB (dS l j) 1 100000 && inB (dV l j) (-1000000000) 1000000000)) = B
        cases B with
        | false =>
          have NE : Hid (donesOk l = false) := donesOk_false hlt (doneAt_ok hK)
          clear hx0 hx1 hx2 hx3 hK
          go_wp2
          go_ret
          exact ⟨ret_bool (by unfold machOk; rw [HO.out, NE.out]; rfl), FB.out⟩
        | true =>
          have DP : Hid _ := dok_parts hK
          clear hK
          cases j with
          | zero =>
            have OK : Hid (doneAt l 0 = true) := doneAt_zero DP.out.1 DP.out.2.1 DP.out.2.2
            clear hx0 hx1 hx2 hx3
            go_wp2_with fail
            go_quiet (fail)
            go_wp2
            go_roundw
            case rel => exact ⟨1, by omega, by go_num, fun i hi => by rw [show i = 0 by omega]; exact OK.out, below_drewN FV.out _⟩
            case measure => simp [intOf]; omega
          | succ j =>
            have hpos : (0 : Int) < ((j + 1 : Nat) : Int) := by omega
            have g2 : V2.cell? ⟨b, off + j * 4, none⟩ = some (.int .i64 (dC l j)) := (FB.out.cell (by exact cell_lt (hx0 j (by omega)))).trans (hx0 j (by omega))
            clear hx0 hx1 hx2 hx3
            by_cases hord : dC l j < dC l (j + 1)
            · have OK : Hid (doneAt l (j + 1) = true) := doneAt_succ DP.out.1 DP.out.2.1 DP.out.2.2 hord
              have hle : ¬ dC l (j + 1) ≤ dC l j := by omega
              have hle' : decide (dC l (j + 1) ≤ dC l j) = false := decide_eq_false hle
              go_wp2_with fail
              go_quiet (fail)
              go_wp2
              go_roundw
              case rel => exact ⟨j + 1 + 1, by omega, by go_num, fun i hi => if h : i < j + 1 then ALL.out i h else by rw [show i = j + 1 by omega]; exact OK.out, below_drewN FV.out _⟩
              case measure => simp [intOf]; omega
            · have NE : Hid (donesOk l = false) := donesOk_false hlt (doneAt_lt hord)
              have hle : dC l (j + 1) ≤ dC l j := by omega
              go_wp2_with fail
              go_quiet (fail)
              go_wp2
              go_ret
              exact ⟨ret_bool (by unfold machOk; rw [HO.out, NE.out]; rfl), below_drewN FB.out _⟩
      · have OK : Hid (donesOk l = true) := donesOk_true (fun i hi => ALL.out i (by omega))
        clear hx0 hx1 hx2 hx3
        go_wp2
        go_ret
        exact ⟨ret_bool (by unfold machOk; rw [HO.out, OK.out]; rfl), hb.out⟩

end Go.Proofs.Ytmoaccohnmkleaa
