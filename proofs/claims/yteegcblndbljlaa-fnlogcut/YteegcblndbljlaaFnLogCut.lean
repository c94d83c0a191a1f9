/-
  The walk of the law FnLogCut.
-/
import Derived.Test.YteegcblndbljlaaDrawLj
import Derived.Test.YteegcblndbljlaaLogOkM
import Derived.Test.YteegcblndbljlaaLogCutS
import Derived.Test.YteegcblndbljlaaSameEn
import Derived.Test.YteegcblndbljlaaBig
import Derived.Deep.RegionHeld3
namespace Go.Proofs.Yteegcblndbljlaa
open Go.RowKit

theorem last_small {b : Int} {l : EL} (h0 : -1 ≤ b) (h1 : b ≤ 200000) (hn : l.length ≤ 100) : lastN b l = b + l.length := by
  unfold lastN
  split
  · rename_i hz; rw [hz]; simp
  · exact IntWalk.wrap64_in _ ⟨by omega, by omega⟩
theorem lc_last {b bt : Int} {l : EL} {i : Int} (h0 : -1 ≤ b) (h1 : b ≤ 100001) (hn : l.length ≤ 8) :
    lastN (lcB b l i) (lcL b l i) = lastN b l ∧ prevT (lcT b bt l i) (lcL b l i) (lcL b l i).length = prevT bt l l.length ∧ -1 ≤ lcB b l i ∧ lcB b l i ≤ 100010 ∧ (lcB b l i = b ∨ lcB b l i = i) := by
  cases hp : placeB b l i with
  | none => obtain ⟨e1, e2, e3⟩ := cut_none (bt := bt) hp; rw [e1, e2, e3]; exact ⟨rfl, rfl, h0, by omega, .inl rfl⟩
  | some k =>
    obtain ⟨e1, e2, e3⟩ := cut_some (bt := bt) hp
    have hk := placeB_some hp
    rw [e1, e2, e3]
    refine ⟨?_, ?_, by omega, by omega, .inr rfl⟩
    · rw [last_small h0 (by omega) (by omega), last_small (by omega) (by omega) (by rw [List.length_drop]; omega), List.length_drop]; omega
    · rw [List.length_drop]
      by_cases hz : l.length - (k + 1) = 0
      · rw [hz, prevT_zero, show l.length = k + 1 by omega, prevT_succ]
      · obtain ⟨m, hm⟩ : ∃ m, l.length - (k + 1) = m + 1 := ⟨l.length - (k + 1) - 1, by omega⟩
        rw [hm, prevT_succ, show l.length = (k + 1 + m) + 1 by omega, prevT_succ]
        simp [eT, List.getD]
theorem newer_self (b bt : Int) (l : EL) : newerB b bt l (lastN b l) (prevT bt l l.length) = true := by simp [newerB]
theorem ents_all (b : Int) (l : EL) : (entsB b l (b + 1)).length = l.length := by rw [entsB_to (n := 0) (by omega) (Nat.zero_le _)]; simp
theorem run_slogcut (args : Array Value) (w : World) : (callFunc 23 args).run Try.prog w = .ok (.enter 23 args) w := by go_simp
theorem run_sameLog (args : Array Value) (w : World) : (callFunc 17 args).run Try.prog w = .ok (.enter 17 args) w := by go_simp
theorem run_iEnts (args : Array Value) (w : World) : (callFunc 26 args).run Try.prog w = .ok (.enter 26 args) w := by go_simp
theorem run_sEnts (args : Array Value) (w : World) : (callFunc 27 args).run Try.prog w = .ok (.enter 27 args) w := by go_simp
theorem run_iTerm (args : Array Value) (w : World) : (callFunc 20 args).run Try.prog w = .ok (.enter 20 args) w := by go_simp
theorem run_sTerm (args : Array Value) (w : World) : (callFunc 28 args).run Try.prog w = .ok (.enter 28 args) w := by go_simp
theorem run_iNewer (args : Array Value) (w : World) : (callFunc 31 args).run Try.prog w = .ok (.enter 31 args) w := by go_simp
theorem run_sNewer (args : Array Value) (w : World) : (callFunc 32 args).run Try.prog w = .ok (.enter 32 args) w := by go_simp

set_option maxRecDepth 100000 in
set_option maxHeartbeats 8000000 in
theorem fnLogCut_any (v : Value) (bs : List Int) (w : World) (hc : Code8 w v bs) :
    Calls Try.prog 4 #[v] w fun e w' => e = .returned (.bool true) ∧ Below w.heap.size w w' := by
  obtain ⟨a0, b0, off0, cap0, hv, hcap0, hmax0, -⟩ := id hc.1
  have hn0 : bs.length ≤ maxLen := by omega
  have HC : Hid (Code8 w v bs) := hc
  subst hv
  clear hc
  by_cases hbig : bs.length > 1048576
  · have hd : decide (bs.length > 1048576) = true := decide_eq_true hbig
    go_enter Try.func4, Try.ntmps4
    go_wp2_with fail
    refine (big_any a0 bs.length cap0 hn0 w).mono ?_
    rintro e w1 ⟨rfl, rfl⟩
    rw [hd]
    go_wp2
    go_ret
    exact ⟨rfl, Below.refl _ _⟩
  · have hd : decide (bs.length > 1048576) = false := decide_eq_false hbig
    have hbs : bs.length ≤ 1048576 := by omega
    go_enter Try.func4, Try.ntmps4
    go_wp2_with fail
    refine (big_any a0 bs.length cap0 hn0 w).mono ?_
    rintro e w1 ⟨rfl, hw1⟩
    subst hw1
    rw [hd]
    clear hd hbig
    have SB : Hid (Below w1.heap.size w1 w1) := Below.refl _ _
    have C8 : Hid (Code8 w1 (.slice a0 bs.length cap0) bs) := HC.out
    clear HC
    go_wp2_with fail
    refine (DrawLogCut_any _ bs _ C8.out hbs).mono ?_
    rintro e d1 ⟨b1, t1, a1, n1, q1, l1, i1, rfl, hb1, hc1, _, _, hl1, hn1, hi1, o1, bb⟩
    have HL1 : Hid (l1.length = n1) := hl1
    have HI1 : Hid (I64 b1 ∧ I64 i1) := ⟨⟨by omega, by omega⟩, hi1⟩
    replace SB : Hid (Below w1.heap.size w1 d1) := Below.and SB.out bb
    replace C8 : Hid (Code8 d1 (.slice a0 bs.length cap0) bs) := C8.out.below bb
    have R1 : Hid (Row d1 (.slice a1 n1 q1) n1 (flatE l1)) := OwnE.rowE o1
    clear bb o1 hl1 hi1
    have bn := bel_nw d1 (.cells #[.int .i64 b1, .int .i64 t1, .slice a1 n1 q1] 26)
    replace SB : Hid (Below w1.heap.size w1 (d1.alloc (.cells #[.int .i64 b1, .int .i64 t1, .slice a1 n1 q1] 26))) := Below.and SB.out bn
    replace C8 : Hid (Code8 (d1.alloc (.cells #[.int .i64 b1, .int .i64 t1, .slice a1 n1 q1] 26)) (.slice a0 bs.length cap0) bs) := C8.out.below bn
    replace R1 : Hid (Row (d1.alloc (.cells #[.int .i64 b1, .int .i64 t1, .slice a1 n1 q1] 26)) (.slice a1 n1 q1) n1 (flatE l1)) := Row.below R1.out bn
    have N1 : Hid (MBox 26 (d1.alloc (.cells #[.int .i64 b1, .int .i64 t1, .slice a1 n1 q1] 26)) d1.heap.size #[.int .i64 b1, .int .i64 t1, .slice a1 n1 q1]) := MBox.start _ _ _
    clear bn
    have cN1 := N1.out.cells
    go_wp2_with fail
    clear cN1
    generalize d1.heap.size = X1 at *
    generalize d1.alloc (.cells #[.int .i64 b1, .int .i64 t1, .slice a1 n1 q1] 26) = D1 at *
    have hlc := lc_last (bt := t1) (i := i1) hb1 hc1 (by rw [HL1.out]; exact hn1)
    have hlen8 : (lcL b1 l1 i1).length ≤ 8 := by have := lcL_len b1 l1 i1; rw [HL1.out] at this; omega
    have CCI : Hid (∀ u, Row u (.slice a1 n1 q1) n1 (flatE l1) → Calls Try.prog 22 #[lgV b1 t1 (.slice a1 n1 q1), .int .i64 i1] u fun e w' => ∃ v', e = .returned (lgV (lcB b1 l1 i1) (lcT b1 t1 l1 i1) v') ∧ w'.ownsRow u.heap.size 39 6 v' (lcL b1 l1 i1).length (flatE (lcL b1 l1 i1)) ∧ Below u.heap.size u w') := fun u hu => implLogCut_any b1 t1 _ l1 i1 u (by rw [HL1.out]; exact hu) HI1.out.1 HI1.out.2 (by rw [HL1.out]; omega)
    have CCS : Hid (∀ u, Row u (.slice a1 n1 q1) n1 (flatE l1) → Calls Try.prog 23 #[lgV b1 t1 (.slice a1 n1 q1), .int .i64 i1] u fun e w' => ∃ v', e = .returned (lgV (lcB b1 l1 i1) (lcT b1 t1 l1 i1) v') ∧ OwnE w' u.heap.size 39 6 v' (lcL b1 l1 i1).length (flatE (lcL b1 l1 i1)) ∧ Below u.heap.size u w') := fun u hu => specLogCut_any b1 t1 _ l1 i1 u (by rw [HL1.out]; exact hu) HI1.out.1 HI1.out.2 (by rw [HL1.out]; omega)
    have CL1 : Hid (∀ u, Row u (.slice a1 n1 q1) n1 (flatE l1) → Calls Try.prog 24 #[lgV b1 t1 (.slice a1 n1 q1)] u fun e w' => e = .returned (.tuple #[.int .i64 (lastN b1 l1), .int .i64 (prevT t1 l1 l1.length)]) ∧ Below u.heap.size u w') := fun u hu => implLastOf_any b1 t1 _ l1 u (by rw [HL1.out]; exact hu)
    generalize lcB b1 l1 i1 = mb at *
    generalize lcT b1 t1 l1 i1 = mt at *
    generalize lcL b1 l1 i1 = M at *
    have CL2 : Hid (∀ u V, Row u V M.length (flatE M) → Calls Try.prog 24 #[lgV mb mt V] u fun e w' => e = .returned (.tuple #[.int .i64 (lastN b1 l1), .int .i64 (prevT t1 l1 l1.length)]) ∧ Below u.heap.size u w') := fun u V hu => by have := implLastOf_any mb mt V M u hu; unfold lastV at this; rw [hlc.1, hlc.2.1] at this; exact this
    have CE2 : Hid (∀ u V, Row u V M.length (flatE M) → Calls Try.prog 26 #[lgV mb mt V, .int .i64 (mb + 1)] u fun e w' => ∃ v', e = .returned v' ∧ w'.ownsRow u.heap.size 39 6 v' M.length (flatE (entsB mb M (mb + 1))) ∧ Below u.heap.size u w') := fun u V hu => by have := implEntriesFrom_any mb mt V M (mb + 1) u hu ⟨by omega, by omega⟩ ⟨by omega, by omega⟩ (by omega); rw [ents_all] at this; exact this
    have CSM : Hid (∀ u V V2, Row u V M.length (flatE M) → Row u V2 M.length (flatE M) → Calls Try.prog 17 #[lgV mb mt V, lgV mb mt V2] u fun e w' => e = .returned (.bool true) ∧ Below u.heap.size u w') := fun u V V2 h1 h2 => (sameLog_any mb mt mb mt V V2 M M u h1 h2).mono (fun e w' ⟨he, hb⟩ => ⟨by rw [he]; simp, hb⟩)
    have hmb : -1 ≤ mb ∧ mb ≤ 100010 := ⟨hlc.2.2.1, hlc.2.2.2.1⟩
    have HMB : Hid _ := hlc.2.2.2.2
    clear hlc
    generalize lastN b1 l1 = la at *
    generalize prevT t1 l1 l1.length = lt at *
    generalize hml : M.length = mn at *
    have HML : Hid _ := hml
    clear hml
    refine (CCI.out _ R1.out).mono ?_
    rintro e e1 ⟨vm, rfl, om, bb⟩
    obtain ⟨am, qm, hvm⟩ := owns_val om
    subst hvm
    replace SB : Hid (Below w1.heap.size w1 e1) := Below.and SB.out bb
    replace C8 : Hid (Code8 e1 (.slice a0 bs.length cap0) bs) := C8.out.below bb
    replace R1 : Hid (Row e1 (.slice a1 n1 q1) n1 (flatE l1)) := Row.below R1.out bb
    replace N1 : Hid (MBox 26 e1 X1 #[.int .i64 b1, .int .i64 t1, .slice a1 n1 q1]) := N1.out.step bb
    have RM : Hid (Row e1 (.slice am mn qm) mn (flatE M)) := Row.of_owns om
    clear bb om
    have bn := bel_nw e1 (.cells #[.int .i64 mb, .int .i64 mt, .slice am mn qm] 26)
    replace SB : Hid (Below w1.heap.size w1 (e1.alloc (.cells #[.int .i64 mb, .int .i64 mt, .slice am mn qm] 26))) := Below.and SB.out bn
    replace C8 : Hid (Code8 (e1.alloc (.cells #[.int .i64 mb, .int .i64 mt, .slice am mn qm] 26)) (.slice a0 bs.length cap0) bs) := C8.out.below bn
    replace R1 : Hid (Row (e1.alloc (.cells #[.int .i64 mb, .int .i64 mt, .slice am mn qm] 26)) (.slice a1 n1 q1) n1 (flatE l1)) := Row.below R1.out bn
    replace N1 : Hid (MBox 26 (e1.alloc (.cells #[.int .i64 mb, .int .i64 mt, .slice am mn qm] 26)) X1 #[.int .i64 b1, .int .i64 t1, .slice a1 n1 q1]) := N1.out.step bn
    replace RM : Hid (Row (e1.alloc (.cells #[.int .i64 mb, .int .i64 mt, .slice am mn qm] 26)) (.slice am mn qm) mn (flatE M)) := Row.below RM.out bn
    have NM : Hid (MBox 26 (e1.alloc (.cells #[.int .i64 mb, .int .i64 mt, .slice am mn qm] 26)) e1.heap.size #[.int .i64 mb, .int .i64 mt, .slice am mn qm]) := MBox.start _ _ _
    clear bn
    have cN1 := N1.out.cells
    have cNM := NM.out.cells
    go_wp2_with fail
    clear cN1 cNM
    generalize e1.heap.size = XM at *
    generalize e1.alloc (.cells #[.int .i64 mb, .int .i64 mt, .slice am mn qm] 26) = E1 at *
    have bd : Below E1.heap.size E1 E1.drew := (Below.refl _ _).drew
    replace SB : Hid (Below w1.heap.size w1 E1.drew) := Below.and SB.out bd
    replace C8 : Hid (Code8 E1.drew (.slice a0 bs.length cap0) bs) := C8.out.below bd
    replace R1 : Hid (Row E1.drew (.slice a1 n1 q1) n1 (flatE l1)) := Row.below R1.out bd
    replace N1 : Hid (MBox 26 E1.drew X1 #[.int .i64 b1, .int .i64 t1, .slice a1 n1 q1]) := N1.out.step bd
    replace RM : Hid (Row E1.drew (.slice am mn qm) mn (flatE M)) := Row.below RM.out bd
    replace NM : Hid (MBox 26 E1.drew XM #[.int .i64 mb, .int .i64 mt, .slice am mn qm]) := NM.out.step bd
    clear bd
    refine wp_region_held_drew (S := (fun u => u.cell? ⟨X1, 0, none⟩ = some (.int .i64 b1) ∧ u.cell? ⟨X1, 1, none⟩ = some (.int .i64 t1) ∧ u.cell? ⟨X1, 2, none⟩ = some (.slice a1 n1 q1) ∧ u.cell? ⟨XM, 0, none⟩ = some (.int .i64 mb) ∧ u.cell? ⟨XM, 1, none⟩ = some (.int .i64 mt) ∧ u.cell? ⟨XM, 2, none⟩ = some (.slice am mn qm))) (by kernel_rfl) (⟨N1.out.cells 0, N1.out.cells 1, N1.out.cells 2, NM.out.cells 0, NM.out.cells 1, NM.out.cells 2⟩) (fun hH => ?_)
    refine wpAnyH_take (i := 0) (oi := ⟨_, _, _, _, _, _⟩) (v := ?_) rfl (by kernel_rfl) (by kernel_rfl) (by kernel_rfl) (fun _ _ _ h => h) (Or.inl ⟨by rfl, ?_⟩) (by assumption) ?_
    rotate_left
    · ((intro w hSw; (try dsimp only at hSw); go_simp); (try with_reducible rfl))
    try simp only [Act.put, List.setIfInBounds_toArray, List.set_cons_zero, List.set_cons_succ]
    refine wpAnyH_take (i := 1) (oi := ⟨_, _, _, _, _, _⟩) (v := ?_) rfl (by kernel_rfl) (by kernel_rfl) (by kernel_rfl) (fun _ _ _ h => h) (Or.inl ⟨by rfl, ?_⟩) (by assumption) ?_
    rotate_left
    · ((intro w hSw; (try dsimp only at hSw); go_simp); (try with_reducible rfl))
    try simp only [Act.put, List.setIfInBounds_toArray, List.set_cons_zero, List.set_cons_succ]
    refine wpAnyH_take (i := 2) (oi := ⟨_, _, _, _, _, _⟩) (v := ?_) rfl (by kernel_rfl) (by kernel_rfl) (by kernel_rfl) (fun _ _ _ h => h) (Or.inl ⟨by rfl, ?_⟩) (by assumption) ?_
    rotate_left
    · ((intro w hSw; (try dsimp only at hSw); go_simp); (try with_reducible rfl))
    try simp only [Act.put, List.setIfInBounds_toArray, List.set_cons_zero, List.set_cons_succ]
    refine wpAnyH_ready (rs := [3]) (by kernel_rfl) (by simp) ?_
    refine AllReadyH.cons (o := ⟨_, _, _, _, _, _⟩) rfl (fun K hK => ?_) AllReadyH.nil
    refine (if_pos (show Region.wanted _ _ = true by kernel_rfl)).mpr ?_
    refine call_by 23 [.tmp 28, .tmp 29] #[26, 3] rfl run_slogcut _ rfl (CCS.out _ R1.out) ?_
    rintro e u5 ⟨v5, rfl, o5, bb⟩
    have R5 : Hid (Row u5 v5 mn (flatE M)) := OwnE.rowE o5
    clear o5
    replace SB : Hid (Below w1.heap.size w1 u5) := Below.and SB.out bb
    replace C8 : Hid (Code8 u5 (.slice a0 bs.length cap0) bs) := C8.out.below bb
    replace R1 : Hid (Row u5 (.slice a1 n1 q1) n1 (flatE l1)) := Row.below R1.out bb
    replace N1 : Hid (MBox 26 u5 X1 #[.int .i64 b1, .int .i64 t1, .slice a1 n1 q1]) := N1.out.step bb
    replace RM : Hid (Row u5 (.slice am mn qm) mn (flatE M)) := Row.below RM.out bb
    replace NM : Hid (MBox 26 u5 XM #[.int .i64 mb, .int .i64 mt, .slice am mn qm]) := NM.out.step bb
    clear bb
    refine ⟨_, rfl, ?_⟩
    refine hK.out _ _ (⟨N1.out.cells 0, N1.out.cells 1, N1.out.cells 2, NM.out.cells 0, NM.out.cells 1, NM.out.cells 2⟩) (fun hH2 => ?_)
    clear hK K hH
    have hH := hH2
    clear hH2
    try simp only [Act.put, List.setIfInBounds_toArray, List.set_cons_zero, List.set_cons_succ]
    refine wpAnyH_ready (rs := [4]) (by kernel_rfl) (by simp) ?_
    refine AllReadyH.cons (o := ⟨_, _, _, _, _, _⟩) rfl (fun K hK => ?_) AllReadyH.nil
    refine (if_pos (show Region.wanted _ _ = true by kernel_rfl)).mpr ?_
    refine call_by 17 [.tmp 27, .tmp 30] #[26, 26] rfl run_sameLog _ rfl (CSM.out _ _ _ RM.out R5.out) ?_
    rintro e u6 ⟨rfl, bb⟩
    replace SB : Hid (Below w1.heap.size w1 u6) := Below.and SB.out bb
    replace C8 : Hid (Code8 u6 (.slice a0 bs.length cap0) bs) := C8.out.below bb
    replace R1 : Hid (Row u6 (.slice a1 n1 q1) n1 (flatE l1)) := Row.below R1.out bb
    replace N1 : Hid (MBox 26 u6 X1 #[.int .i64 b1, .int .i64 t1, .slice a1 n1 q1]) := N1.out.step bb
    replace RM : Hid (Row u6 (.slice am mn qm) mn (flatE M)) := Row.below RM.out bb
    replace NM : Hid (MBox 26 u6 XM #[.int .i64 mb, .int .i64 mt, .slice am mn qm]) := NM.out.step bb
    clear bb
    refine ⟨_, rfl, ?_⟩
    refine hK.out _ _ (⟨N1.out.cells 0, N1.out.cells 1, N1.out.cells 2, NM.out.cells 0, NM.out.cells 1, NM.out.cells 2⟩) (fun hH2 => ?_)
    clear hK K hH
    have hH := hH2
    clear hH2
    try simp only [Act.put, List.setIfInBounds_toArray, List.set_cons_zero, List.set_cons_succ]
    refine wpAnyH_take (i := 5) (oi := ⟨_, _, _, _, _, _⟩) (v := ?_) rfl (by kernel_rfl) (by kernel_rfl) (by kernel_rfl) (fun _ _ _ h => h) (Or.inl ⟨by rfl, ?_⟩) (by assumption) ?_
    rotate_left
    · ((intro w hSw; (try dsimp only at hSw); go_simp); (try with_reducible rfl))
    try simp only [Act.put, List.setIfInBounds_toArray, List.set_cons_zero, List.set_cons_succ]
    refine wpAnyH_done (by kernel_rfl) ?_ _
    clear hH R5
    have cN1 := N1.out.cells
    have cNM := NM.out.cells
    go_wp2_with fail
    refine (CL1.out _ R1.out).mono ?_
    rintro e u7 ⟨rfl, bb⟩
    clear cN1 cNM
    replace SB : Hid (Below w1.heap.size w1 u7) := Below.and SB.out bb
    replace C8 : Hid (Code8 u7 (.slice a0 bs.length cap0) bs) := C8.out.below bb
    replace R1 : Hid (Row u7 (.slice a1 n1 q1) n1 (flatE l1)) := Row.below R1.out bb
    replace N1 : Hid (MBox 26 u7 X1 #[.int .i64 b1, .int .i64 t1, .slice a1 n1 q1]) := N1.out.step bb
    replace RM : Hid (Row u7 (.slice am mn qm) mn (flatE M)) := Row.below RM.out bb
    replace NM : Hid (MBox 26 u7 XM #[.int .i64 mb, .int .i64 mt, .slice am mn qm]) := NM.out.step bb
    clear bb
    have cN1 := N1.out.cells
    have cNM := NM.out.cells
    go_wp2_with fail
    refine (CL2.out _ _ RM.out).mono ?_
    rintro e u8 ⟨rfl, bb⟩
    clear cN1 cNM
    replace SB : Hid (Below w1.heap.size w1 u8) := Below.and SB.out bb
    replace C8 : Hid (Code8 u8 (.slice a0 bs.length cap0) bs) := C8.out.below bb
    replace R1 : Hid (Row u8 (.slice a1 n1 q1) n1 (flatE l1)) := Row.below R1.out bb
    replace N1 : Hid (MBox 26 u8 X1 #[.int .i64 b1, .int .i64 t1, .slice a1 n1 q1]) := N1.out.step bb
    replace RM : Hid (Row u8 (.slice am mn qm) mn (flatE M)) := Row.below RM.out bb
    replace NM : Hid (MBox 26 u8 XM #[.int .i64 mb, .int .i64 mt, .slice am mn qm]) := NM.out.step bb
    clear bb
    have cN1 := N1.out.cells
    have cNM := NM.out.cells
    have hne : (mb != b1) = false ∨ ((mb != b1) = true ∧ (mb != i1) = false) := by
      rcases HMB.out with h | h
      · left; rw [h]; simp
      · by_cases hq : mb = b1
        · left; simp [hq]
        · right; exact ⟨by simpa using hq, by rw [h]; simp⟩
    have T8 : ∃ (f : Bool), (mb != b1) = f ∧ (f = true → (mb != i1) = false) := by
      rcases hne with h | ⟨h, h2⟩
      · exact ⟨false, h, fun h => by cases h⟩
      · exact ⟨true, h, fun _ => h2⟩
    clear hne
    obtain ⟨f8, hf8, hf9⟩ := T8
    have GO : ∀ (P : Prop), ((mb != b1) = false → P) → ((mb != b1) = true → (mb != i1) = false → P) → P := fun P h1 h2 => by cases f8 with | false => exact h1 hf8 | true => exact h2 hf8 (hf9 rfl)
    clear hf8 hf9 f8
    refine GO _ (fun hg1 => ?_) (fun hg1 hg2 => ?_)
    all_goals
      clear GO
      go_wp2_with fail
      refine (DrawEntriesFrom_any _ bs _ C8.out hbs).mono ?_
      rintro e d2 ⟨b2, t2, a2, n2, q2, l2, i2, rfl, hb2, hc2, _, _, hl2, hn2, hi2, o2, bb⟩
      clear cN1 cNM
      have HL2 : Hid (l2.length = n2) := hl2
      have HI2 : Hid (I64 b2 ∧ I64 i2) := ⟨⟨by omega, by omega⟩, hi2⟩
      replace SB : Hid (Below w1.heap.size w1 d2) := Below.and SB.out bb
      replace C8 : Hid (Code8 d2 (.slice a0 bs.length cap0) bs) := C8.out.below bb
      replace R1 : Hid (Row d2 (.slice a1 n1 q1) n1 (flatE l1)) := Row.below R1.out bb
      replace N1 : Hid (MBox 26 d2 X1 #[.int .i64 b1, .int .i64 t1, .slice a1 n1 q1]) := N1.out.step bb
      replace RM : Hid (Row d2 (.slice am mn qm) mn (flatE M)) := Row.below RM.out bb
      replace NM : Hid (MBox 26 d2 XM #[.int .i64 mb, .int .i64 mt, .slice am mn qm]) := NM.out.step bb
      have R2 : Hid (Row d2 (.slice a2 n2 q2) n2 (flatE l2)) := OwnE.rowE o2
      clear bb o2 hl2 hi2
      have bn := bel_nw d2 (.cells #[.int .i64 b2, .int .i64 t2, .slice a2 n2 q2] 26)
      replace SB : Hid (Below w1.heap.size w1 (d2.alloc (.cells #[.int .i64 b2, .int .i64 t2, .slice a2 n2 q2] 26))) := Below.and SB.out bn
      replace C8 : Hid (Code8 (d2.alloc (.cells #[.int .i64 b2, .int .i64 t2, .slice a2 n2 q2] 26)) (.slice a0 bs.length cap0) bs) := C8.out.below bn
      replace R1 : Hid (Row (d2.alloc (.cells #[.int .i64 b2, .int .i64 t2, .slice a2 n2 q2] 26)) (.slice a1 n1 q1) n1 (flatE l1)) := Row.below R1.out bn
      replace N1 : Hid (MBox 26 (d2.alloc (.cells #[.int .i64 b2, .int .i64 t2, .slice a2 n2 q2] 26)) X1 #[.int .i64 b1, .int .i64 t1, .slice a1 n1 q1]) := N1.out.step bn
      replace RM : Hid (Row (d2.alloc (.cells #[.int .i64 b2, .int .i64 t2, .slice a2 n2 q2] 26)) (.slice am mn qm) mn (flatE M)) := Row.below RM.out bn
      replace NM : Hid (MBox 26 (d2.alloc (.cells #[.int .i64 b2, .int .i64 t2, .slice a2 n2 q2] 26)) XM #[.int .i64 mb, .int .i64 mt, .slice am mn qm]) := NM.out.step bn
      replace R2 : Hid (Row (d2.alloc (.cells #[.int .i64 b2, .int .i64 t2, .slice a2 n2 q2] 26)) (.slice a2 n2 q2) n2 (flatE l2)) := Row.below R2.out bn
      have N2 : Hid (MBox 26 (d2.alloc (.cells #[.int .i64 b2, .int .i64 t2, .slice a2 n2 q2] 26)) d2.heap.size #[.int .i64 b2, .int .i64 t2, .slice a2 n2 q2]) := MBox.start _ _ _
      clear bn
      have cN1 := N1.out.cells
      have cNM := NM.out.cells
      have cN2 := N2.out.cells
      go_wp2_with fail
      clear cN1 cNM cN2
      generalize d2.heap.size = X2 at *
      generalize d2.alloc (.cells #[.int .i64 b2, .int .i64 t2, .slice a2 n2 q2] 26) = D2 at *
      have cN1 := N1.out.cells
      have cNM := NM.out.cells
      have cN2 := N2.out.cells
      have EI : Hid (∀ u, Row u (.slice a2 n2 q2) n2 (flatE l2) → Calls Try.prog 26 #[lgV b2 t2 (.slice a2 n2 q2), .int .i64 i2] u fun e w' => ∃ v', e = .returned v' ∧ w'.ownsRow u.heap.size 39 6 v' (entsB b2 l2 i2).length (flatE (entsB b2 l2 i2)) ∧ Below u.heap.size u w') := fun u hu => implEntriesFrom_any b2 t2 _ l2 i2 u (by rw [HL2.out]; exact hu) HI2.out.1 HI2.out.2 (by rw [HL2.out]; omega)
      have ES : Hid (∀ u, Row u (.slice a2 n2 q2) n2 (flatE l2) → Calls Try.prog 27 #[lgV b2 t2 (.slice a2 n2 q2), .int .i64 i2] u fun e w' => ∃ v', e = .returned v' ∧ OwnE w' u.heap.size 39 6 v' (entsB b2 l2 i2).length (flatE (entsB b2 l2 i2)) ∧ Below u.heap.size u w') := fun u hu => specEntriesFrom_any b2 t2 _ l2 i2 u (by rw [HL2.out]; exact hu) HI2.out.1 HI2.out.2 (by rw [HL2.out]; omega)
      have TI : Hid (∀ u, Row u (.slice a2 n2 q2) n2 (flatE l2) → Calls Try.prog 20 #[lgV b2 t2 (.slice a2 n2 q2), .int .i64 i2] u fun e w' => e = .returned (.int .i64 (termB b2 t2 l2 i2)) ∧ Below u.heap.size u w') := fun u hu => implTermAt_any b2 t2 _ l2 i2 u (by rw [HL2.out]; exact hu) HI2.out.1 HI2.out.2
      have TS : Hid (∀ u, Row u (.slice a2 n2 q2) n2 (flatE l2) → Calls Try.prog 28 #[lgV b2 t2 (.slice a2 n2 q2), .int .i64 i2] u fun e w' => e = .returned (.int .i64 (termB b2 t2 l2 i2)) ∧ Below u.heap.size u w') := fun u hu => specTermAt_any b2 t2 _ l2 i2 u (by rw [HL2.out]; exact hu) HI2.out.1 HI2.out.2
      generalize termB b2 t2 l2 i2 = te at *
      generalize (entsB b2 l2 i2).length = en at *
      clear cN1 cNM cN2
      have bd : Below D2.heap.size D2 D2.drew := (Below.refl _ _).drew
      replace SB : Hid (Below w1.heap.size w1 D2.drew) := Below.and SB.out bd
      replace C8 : Hid (Code8 D2.drew (.slice a0 bs.length cap0) bs) := C8.out.below bd
      replace R1 : Hid (Row D2.drew (.slice a1 n1 q1) n1 (flatE l1)) := Row.below R1.out bd
      replace N1 : Hid (MBox 26 D2.drew X1 #[.int .i64 b1, .int .i64 t1, .slice a1 n1 q1]) := N1.out.step bd
      replace RM : Hid (Row D2.drew (.slice am mn qm) mn (flatE M)) := Row.below RM.out bd
      replace NM : Hid (MBox 26 D2.drew XM #[.int .i64 mb, .int .i64 mt, .slice am mn qm]) := NM.out.step bd
      replace R2 : Hid (Row D2.drew (.slice a2 n2 q2) n2 (flatE l2)) := Row.below R2.out bd
      replace N2 : Hid (MBox 26 D2.drew X2 #[.int .i64 b2, .int .i64 t2, .slice a2 n2 q2]) := N2.out.step bd
      clear bd
      refine wp_region_held_drew (S := (fun u => u.cell? ⟨X2, 0, none⟩ = some (.int .i64 b2) ∧ u.cell? ⟨X2, 1, none⟩ = some (.int .i64 t2) ∧ u.cell? ⟨X2, 2, none⟩ = some (.slice a2 n2 q2))) (by kernel_rfl) (⟨N2.out.cells 0, N2.out.cells 1, N2.out.cells 2⟩) (fun hH => ?_)
      refine wpAnyH_take (i := 0) (oi := ⟨_, _, _, _, _, _⟩) (v := ?_) rfl (by kernel_rfl) (by kernel_rfl) (by kernel_rfl) (fun _ _ _ h => h) (Or.inl ⟨by rfl, ?_⟩) (by assumption) ?_
      rotate_left
      · ((intro w hSw; (try dsimp only at hSw); go_simp); (try with_reducible rfl))
      try simp only [Act.put, List.setIfInBounds_toArray, List.set_cons_zero, List.set_cons_succ]
      refine wpAnyH_take (i := 1) (oi := ⟨_, _, _, _, _, _⟩) (v := ?_) rfl (by kernel_rfl) (by kernel_rfl) (by kernel_rfl) (fun _ _ _ h => h) (Or.inl ⟨by rfl, ?_⟩) (by assumption) ?_
      rotate_left
      · ((intro w hSw; (try dsimp only at hSw); go_simp); (try with_reducible rfl))
      try simp only [Act.put, List.setIfInBounds_toArray, List.set_cons_zero, List.set_cons_succ]
      refine wpAnyH_take (i := 4) (oi := ⟨_, _, _, _, _, _⟩) (v := ?_) rfl (by kernel_rfl) (by kernel_rfl) (by kernel_rfl) (fun _ _ _ h => h) (Or.inl ⟨by rfl, ?_⟩) (by assumption) ?_
      rotate_left
      · ((intro w hSw; (try dsimp only at hSw); go_simp); (try with_reducible rfl))
      try simp only [Act.put, List.setIfInBounds_toArray, List.set_cons_zero, List.set_cons_succ]
      refine wpAnyH_take (i := 5) (oi := ⟨_, _, _, _, _, _⟩) (v := ?_) rfl (by kernel_rfl) (by kernel_rfl) (by kernel_rfl) (fun _ _ _ h => h) (Or.inl ⟨by rfl, ?_⟩) (by assumption) ?_
      rotate_left
      · ((intro w hSw; (try dsimp only at hSw); go_simp); (try with_reducible rfl))
      try simp only [Act.put, List.setIfInBounds_toArray, List.set_cons_zero, List.set_cons_succ]
      refine wpAnyH_ready (rs := [2]) (by kernel_rfl) (by simp) ?_
      refine AllReadyH.cons (o := ⟨_, _, _, _, _, _⟩) rfl (fun K hK => ?_) AllReadyH.nil
      refine (if_pos (show Region.wanted _ _ = true by kernel_rfl)).mpr ?_
      refine call_by 26 [.tmp 69, .tmp 70] #[26, 3] rfl run_iEnts _ rfl (EI.out _ R2.out) ?_
      rintro e x1 ⟨vi, rfl, oi, bb⟩
      obtain ⟨ai, qi, hvi⟩ := owns_val oi
      subst hvi
      clear oi
      replace SB : Hid (Below w1.heap.size w1 x1) := Below.and SB.out bb
      replace C8 : Hid (Code8 x1 (.slice a0 bs.length cap0) bs) := C8.out.below bb
      replace R1 : Hid (Row x1 (.slice a1 n1 q1) n1 (flatE l1)) := Row.below R1.out bb
      replace N1 : Hid (MBox 26 x1 X1 #[.int .i64 b1, .int .i64 t1, .slice a1 n1 q1]) := N1.out.step bb
      replace RM : Hid (Row x1 (.slice am mn qm) mn (flatE M)) := Row.below RM.out bb
      replace NM : Hid (MBox 26 x1 XM #[.int .i64 mb, .int .i64 mt, .slice am mn qm]) := NM.out.step bb
      replace R2 : Hid (Row x1 (.slice a2 n2 q2) n2 (flatE l2)) := Row.below R2.out bb
      replace N2 : Hid (MBox 26 x1 X2 #[.int .i64 b2, .int .i64 t2, .slice a2 n2 q2]) := N2.out.step bb
      clear bb
      refine ⟨_, rfl, ?_⟩
      refine hK.out _ _ (⟨N2.out.cells 0, N2.out.cells 1, N2.out.cells 2⟩) (fun hH2 => ?_)
      clear hK K hH
      have hH := hH2
      clear hH2
      try simp only [Act.put, List.setIfInBounds_toArray, List.set_cons_zero, List.set_cons_succ]
      refine wpAnyH_take (i := 3) (oi := ⟨_, _, _, _, _, _⟩) (v := ?_) rfl (by kernel_rfl) (by kernel_rfl) (by kernel_rfl) (fun _ _ _ h => h) (Or.inl ⟨by rfl, ?_⟩) (by assumption) ?_
      rotate_left
      · ((intro w hSw; (try dsimp only at hSw); go_simp); (try with_reducible rfl))
      try simp only [Act.put, List.setIfInBounds_toArray, List.set_cons_zero, List.set_cons_succ]
      refine wpAnyH_ready (rs := [6]) (by kernel_rfl) (by simp) ?_
      refine AllReadyH.cons (o := ⟨_, _, _, _, _, _⟩) rfl (fun K hK => ?_) AllReadyH.nil
      refine (if_pos (show Region.wanted _ _ = true by kernel_rfl)).mpr ?_
      refine call_by 27 [.tmp 73, .tmp 74] #[26, 3] rfl run_sEnts _ rfl (ES.out _ R2.out) ?_
      rintro e x2 ⟨vs, rfl, os, bb⟩
      obtain ⟨asv, qs, hvs⟩ := OwnE.slice os
      subst hvs
      clear os
      replace SB : Hid (Below w1.heap.size w1 x2) := Below.and SB.out bb
      replace C8 : Hid (Code8 x2 (.slice a0 bs.length cap0) bs) := C8.out.below bb
      replace R1 : Hid (Row x2 (.slice a1 n1 q1) n1 (flatE l1)) := Row.below R1.out bb
      replace N1 : Hid (MBox 26 x2 X1 #[.int .i64 b1, .int .i64 t1, .slice a1 n1 q1]) := N1.out.step bb
      replace RM : Hid (Row x2 (.slice am mn qm) mn (flatE M)) := Row.below RM.out bb
      replace NM : Hid (MBox 26 x2 XM #[.int .i64 mb, .int .i64 mt, .slice am mn qm]) := NM.out.step bb
      replace R2 : Hid (Row x2 (.slice a2 n2 q2) n2 (flatE l2)) := Row.below R2.out bb
      replace N2 : Hid (MBox 26 x2 X2 #[.int .i64 b2, .int .i64 t2, .slice a2 n2 q2]) := N2.out.step bb
      clear bb
      refine ⟨_, rfl, ?_⟩
      refine hK.out _ _ (⟨N2.out.cells 0, N2.out.cells 1, N2.out.cells 2⟩) (fun hH2 => ?_)
      clear hK K hH
      have hH := hH2
      clear hH2
      try simp only [Act.put, List.setIfInBounds_toArray, List.set_cons_zero, List.set_cons_succ]
      refine wpAnyH_take (i := 7) (oi := ⟨_, _, _, _, _, _⟩) (v := ?_) rfl (by kernel_rfl) (by kernel_rfl) (by kernel_rfl) (fun _ _ _ h => h) (Or.inl ⟨by rfl, ?_⟩) (by assumption) ?_
      rotate_left
      · ((intro w hSw; (try dsimp only at hSw); go_simp); (try with_reducible rfl))
      try simp only [Act.put, List.setIfInBounds_toArray, List.set_cons_zero, List.set_cons_succ]
      refine wpAnyH_take (i := 8) (oi := ⟨_, _, _, _, _, _⟩) (v := ?_) rfl (by kernel_rfl) (by kernel_rfl) (by kernel_rfl) (fun _ _ _ h => h) (Or.inl ⟨by rfl, ?_⟩) (by assumption) ?_
      rotate_left
      · ((intro w hSw; (try dsimp only at hSw); go_simp); (try with_reducible rfl))
      try simp only [Act.put, List.setIfInBounds_toArray, List.set_cons_zero, List.set_cons_succ]
      refine wpAnyH_take (i := 9) (oi := ⟨_, _, _, _, _, _⟩) (v := ?_) rfl (by kernel_rfl) (by kernel_rfl) (by kernel_rfl) (fun _ _ _ h => h) (Or.inl ⟨by rfl, ?_⟩) (by assumption) ?_
      rotate_left
      · ((intro w hSw; (try dsimp only at hSw); go_simp); (try with_reducible rfl))
      try simp only [Act.put, List.setIfInBounds_toArray, List.set_cons_zero, List.set_cons_succ]
      refine wpAnyH_take (i := 10) (oi := ⟨_, _, _, _, _, _⟩) (v := ?_) rfl (by kernel_rfl) (by kernel_rfl) (by kernel_rfl) (fun _ _ _ h => h) (Or.inl ⟨by rfl, ?_⟩) (by assumption) ?_
      rotate_left
      · ((intro w hSw; (try dsimp only at hSw); go_simp); (try with_reducible rfl))
      try simp only [Act.put, List.setIfInBounds_toArray, List.set_cons_zero, List.set_cons_succ]
      refine wpAnyH_take (i := 11) (oi := ⟨_, _, _, _, _, _⟩) (v := ?_) rfl (by kernel_rfl) (by kernel_rfl) (by kernel_rfl) (fun _ _ _ h => h) (Or.inl ⟨by rfl, ?_⟩) (by assumption) ?_
      rotate_left
      · ((intro w hSw; (try dsimp only at hSw); go_simp); (try with_reducible rfl))
      try simp only [Act.put, List.setIfInBounds_toArray, List.set_cons_zero, List.set_cons_succ]
      refine wpAnyH_take (i := 13) (oi := ⟨_, _, _, _, _, _⟩) (v := ?_) rfl (by kernel_rfl) (by kernel_rfl) (by kernel_rfl) (fun _ _ _ h => h) (Or.inl ⟨by rfl, ?_⟩) (by assumption) ?_
      rotate_left
      · ((intro w hSw; (try dsimp only at hSw); go_simp); (try with_reducible rfl))
      try simp only [Act.put, List.setIfInBounds_toArray, List.set_cons_zero, List.set_cons_succ]
      refine wpAnyH_take (i := 14) (oi := ⟨_, _, _, _, _, _⟩) (v := ?_) rfl (by kernel_rfl) (by kernel_rfl) (by kernel_rfl) (fun _ _ _ h => h) (Or.inl ⟨by rfl, ?_⟩) (by assumption) ?_
      rotate_left
      · ((intro w hSw; (try dsimp only at hSw); go_simp); (try with_reducible rfl))
      try simp only [Act.put, List.setIfInBounds_toArray, List.set_cons_zero, List.set_cons_succ]
      refine wpAnyH_ready (rs := [12]) (by kernel_rfl) (by simp) ?_
      refine AllReadyH.cons (o := ⟨_, _, _, _, _, _⟩) rfl (fun K hK => ?_) AllReadyH.nil
      refine (if_pos (show Region.wanted _ _ = true by kernel_rfl)).mpr ?_
      refine call_by 20 [.tmp 79, .tmp 80] #[26, 3] rfl run_iTerm _ rfl (TI.out _ R2.out) ?_
      rintro e x3 ⟨rfl, bb⟩
      replace SB : Hid (Below w1.heap.size w1 x3) := Below.and SB.out bb
      replace C8 : Hid (Code8 x3 (.slice a0 bs.length cap0) bs) := C8.out.below bb
      replace R1 : Hid (Row x3 (.slice a1 n1 q1) n1 (flatE l1)) := Row.below R1.out bb
      replace N1 : Hid (MBox 26 x3 X1 #[.int .i64 b1, .int .i64 t1, .slice a1 n1 q1]) := N1.out.step bb
      replace RM : Hid (Row x3 (.slice am mn qm) mn (flatE M)) := Row.below RM.out bb
      replace NM : Hid (MBox 26 x3 XM #[.int .i64 mb, .int .i64 mt, .slice am mn qm]) := NM.out.step bb
      replace R2 : Hid (Row x3 (.slice a2 n2 q2) n2 (flatE l2)) := Row.below R2.out bb
      replace N2 : Hid (MBox 26 x3 X2 #[.int .i64 b2, .int .i64 t2, .slice a2 n2 q2]) := N2.out.step bb
      clear bb
      refine ⟨_, rfl, ?_⟩
      refine hK.out _ _ (⟨N2.out.cells 0, N2.out.cells 1, N2.out.cells 2⟩) (fun hH2 => ?_)
      clear hK K hH
      have hH := hH2
      clear hH2
      try simp only [Act.put, List.setIfInBounds_toArray, List.set_cons_zero, List.set_cons_succ]
      refine wpAnyH_ready (rs := [15]) (by kernel_rfl) (by simp) ?_
      refine AllReadyH.cons (o := ⟨_, _, _, _, _, _⟩) rfl (fun K hK => ?_) AllReadyH.nil
      refine (if_pos (show Region.wanted _ _ = true by kernel_rfl)).mpr ?_
      refine call_by 28 [.tmp 82, .tmp 83] #[26, 3] rfl run_sTerm _ rfl (TS.out _ R2.out) ?_
      rintro e x4 ⟨rfl, bb⟩
      replace SB : Hid (Below w1.heap.size w1 x4) := Below.and SB.out bb
      replace C8 : Hid (Code8 x4 (.slice a0 bs.length cap0) bs) := C8.out.below bb
      replace R1 : Hid (Row x4 (.slice a1 n1 q1) n1 (flatE l1)) := Row.below R1.out bb
      replace N1 : Hid (MBox 26 x4 X1 #[.int .i64 b1, .int .i64 t1, .slice a1 n1 q1]) := N1.out.step bb
      replace RM : Hid (Row x4 (.slice am mn qm) mn (flatE M)) := Row.below RM.out bb
      replace NM : Hid (MBox 26 x4 XM #[.int .i64 mb, .int .i64 mt, .slice am mn qm]) := NM.out.step bb
      replace R2 : Hid (Row x4 (.slice a2 n2 q2) n2 (flatE l2)) := Row.below R2.out bb
      replace N2 : Hid (MBox 26 x4 X2 #[.int .i64 b2, .int .i64 t2, .slice a2 n2 q2]) := N2.out.step bb
      clear bb
      refine ⟨_, rfl, ?_⟩
      refine hK.out _ _ (⟨N2.out.cells 0, N2.out.cells 1, N2.out.cells 2⟩) (fun hH2 => ?_)
      clear hK K hH
      have hH := hH2
      clear hH2
      try simp only [Act.put, List.setIfInBounds_toArray, List.set_cons_zero, List.set_cons_succ]
      refine wpAnyH_take (i := 16) (oi := ⟨_, _, _, _, _, _⟩) (v := ?_) rfl (by kernel_rfl) (by kernel_rfl) (by kernel_rfl) (fun _ _ _ h => h) (Or.inl ⟨by rfl, ?_⟩) (by assumption) ?_
      rotate_left
      · ((intro w hSw; (try dsimp only at hSw); go_simp); (try with_reducible rfl))
      try simp only [Act.put, List.setIfInBounds_toArray, List.set_cons_zero, List.set_cons_succ]
      refine wpAnyH_take (i := 17) (oi := ⟨_, _, _, _, _, _⟩) (v := ?_) rfl (by kernel_rfl) (by kernel_rfl) (by kernel_rfl) (fun _ _ _ h => h) (Or.inl ⟨by rfl, ?_⟩) (by assumption) ?_
      rotate_left
      · ((intro w hSw; (try dsimp only at hSw); go_simp); (try with_reducible rfl))
      try simp only [Act.put, List.setIfInBounds_toArray, List.set_cons_zero, List.set_cons_succ]
      refine wpAnyH_done (by kernel_rfl) ?_ _
      clear hH EI ES TI TS
      go_wp2_with fail
      refine (DrawNewer_any _ bs _ C8.out hbs).mono ?_
      rintro e d3 ⟨b3, t3, a3, n3, q3, l3, i3, s3, rfl, hb3, hc3, _, _, hl3, hn3, hi3, o3, bb⟩
      have HL3 : Hid (l3.length = n3) := hl3
      have HI3 : Hid (I64 b3 ∧ I64 i3) := ⟨⟨by omega, by omega⟩, hi3⟩
      replace SB : Hid (Below w1.heap.size w1 d3) := Below.and SB.out bb
      replace C8 : Hid (Code8 d3 (.slice a0 bs.length cap0) bs) := C8.out.below bb
      replace R1 : Hid (Row d3 (.slice a1 n1 q1) n1 (flatE l1)) := Row.below R1.out bb
      replace N1 : Hid (MBox 26 d3 X1 #[.int .i64 b1, .int .i64 t1, .slice a1 n1 q1]) := N1.out.step bb
      replace RM : Hid (Row d3 (.slice am mn qm) mn (flatE M)) := Row.below RM.out bb
      replace NM : Hid (MBox 26 d3 XM #[.int .i64 mb, .int .i64 mt, .slice am mn qm]) := NM.out.step bb
      replace R2 : Hid (Row d3 (.slice a2 n2 q2) n2 (flatE l2)) := Row.below R2.out bb
      replace N2 : Hid (MBox 26 d3 X2 #[.int .i64 b2, .int .i64 t2, .slice a2 n2 q2]) := N2.out.step bb
      have R3 : Hid (Row d3 (.slice a3 n3 q3) n3 (flatE l3)) := OwnE.rowE o3
      clear bb o3 hl3 hi3
      have bn := bel_nw d3 (.cells #[.int .i64 b3, .int .i64 t3, .slice a3 n3 q3] 26)
      replace SB : Hid (Below w1.heap.size w1 (d3.alloc (.cells #[.int .i64 b3, .int .i64 t3, .slice a3 n3 q3] 26))) := Below.and SB.out bn
      replace C8 : Hid (Code8 (d3.alloc (.cells #[.int .i64 b3, .int .i64 t3, .slice a3 n3 q3] 26)) (.slice a0 bs.length cap0) bs) := C8.out.below bn
      replace R1 : Hid (Row (d3.alloc (.cells #[.int .i64 b3, .int .i64 t3, .slice a3 n3 q3] 26)) (.slice a1 n1 q1) n1 (flatE l1)) := Row.below R1.out bn
      replace N1 : Hid (MBox 26 (d3.alloc (.cells #[.int .i64 b3, .int .i64 t3, .slice a3 n3 q3] 26)) X1 #[.int .i64 b1, .int .i64 t1, .slice a1 n1 q1]) := N1.out.step bn
      replace RM : Hid (Row (d3.alloc (.cells #[.int .i64 b3, .int .i64 t3, .slice a3 n3 q3] 26)) (.slice am mn qm) mn (flatE M)) := Row.below RM.out bn
      replace NM : Hid (MBox 26 (d3.alloc (.cells #[.int .i64 b3, .int .i64 t3, .slice a3 n3 q3] 26)) XM #[.int .i64 mb, .int .i64 mt, .slice am mn qm]) := NM.out.step bn
      replace R2 : Hid (Row (d3.alloc (.cells #[.int .i64 b3, .int .i64 t3, .slice a3 n3 q3] 26)) (.slice a2 n2 q2) n2 (flatE l2)) := Row.below R2.out bn
      replace N2 : Hid (MBox 26 (d3.alloc (.cells #[.int .i64 b3, .int .i64 t3, .slice a3 n3 q3] 26)) X2 #[.int .i64 b2, .int .i64 t2, .slice a2 n2 q2]) := N2.out.step bn
      replace R3 : Hid (Row (d3.alloc (.cells #[.int .i64 b3, .int .i64 t3, .slice a3 n3 q3] 26)) (.slice a3 n3 q3) n3 (flatE l3)) := Row.below R3.out bn
      have N3 : Hid (MBox 26 (d3.alloc (.cells #[.int .i64 b3, .int .i64 t3, .slice a3 n3 q3] 26)) d3.heap.size #[.int .i64 b3, .int .i64 t3, .slice a3 n3 q3]) := MBox.start _ _ _
      clear bn
      have cN1 := N1.out.cells
      have cNM := NM.out.cells
      have cN2 := N2.out.cells
      have cN3 := N3.out.cells
      go_wp2_with fail
      clear cN1 cNM cN2 cN3
      generalize d3.heap.size = X3 at *
      generalize d3.alloc (.cells #[.int .i64 b3, .int .i64 t3, .slice a3 n3 q3] 26) = D3 at *
      have LS : Hid (∀ u, Row u (.slice a3 n3 q3) n3 (flatE l3) → Calls Try.prog 30 #[lgV b3 t3 (.slice a3 n3 q3)] u fun e w' => e = .returned (.tuple #[.int .i64 (lastN b3 l3), .int .i64 (prevT t3 l3 l3.length)]) ∧ Below u.heap.size u w') := fun u hu => specLastOf_any b3 t3 _ l3 u (by rw [HL3.out]; exact hu)
      have NI : Hid (∀ u, Row u (.slice a3 n3 q3) n3 (flatE l3) → Calls Try.prog 31 #[lgV b3 t3 (.slice a3 n3 q3), .int .i64 i3, .int .i64 s3] u fun e w' => e = .returned (.bool (newerB b3 t3 l3 i3 s3)) ∧ Below u.heap.size u w') := fun u hu => implNewer_any b3 t3 _ l3 i3 s3 u (by rw [HL3.out]; exact hu)
      have NS : Hid (∀ u, Row u (.slice a3 n3 q3) n3 (flatE l3) → Calls Try.prog 32 #[lgV b3 t3 (.slice a3 n3 q3), .int .i64 i3, .int .i64 s3] u fun e w' => e = .returned (.bool (newerB b3 t3 l3 i3 s3)) ∧ Below u.heap.size u w') := fun u hu => specNewer_any b3 t3 _ l3 i3 s3 u (by rw [HL3.out]; exact hu)
      have NL : Hid (∀ u, Row u (.slice a3 n3 q3) n3 (flatE l3) → Calls Try.prog 31 #[lgV b3 t3 (.slice a3 n3 q3), .int .i64 (lastN b3 l3), .int .i64 (prevT t3 l3 l3.length)] u fun e w' => e = .returned (.bool true) ∧ Below u.heap.size u w') := fun u hu => by have := implNewer_any b3 t3 _ l3 (lastN b3 l3) (prevT t3 l3 l3.length) u (by rw [HL3.out]; exact hu); rw [newer_self] at this; exact this
      generalize lastN b3 l3 = lc at *
      generalize prevT t3 l3 l3.length = ld at *
      generalize newerB b3 t3 l3 i3 s3 = nw at *
      refine (LS.out _ R3.out).mono ?_
      rintro e y0 ⟨rfl, bb⟩
      replace SB : Hid (Below w1.heap.size w1 y0) := Below.and SB.out bb
      replace C8 : Hid (Code8 y0 (.slice a0 bs.length cap0) bs) := C8.out.below bb
      replace R1 : Hid (Row y0 (.slice a1 n1 q1) n1 (flatE l1)) := Row.below R1.out bb
      replace N1 : Hid (MBox 26 y0 X1 #[.int .i64 b1, .int .i64 t1, .slice a1 n1 q1]) := N1.out.step bb
      replace RM : Hid (Row y0 (.slice am mn qm) mn (flatE M)) := Row.below RM.out bb
      replace NM : Hid (MBox 26 y0 XM #[.int .i64 mb, .int .i64 mt, .slice am mn qm]) := NM.out.step bb
      replace R2 : Hid (Row y0 (.slice a2 n2 q2) n2 (flatE l2)) := Row.below R2.out bb
      replace N2 : Hid (MBox 26 y0 X2 #[.int .i64 b2, .int .i64 t2, .slice a2 n2 q2]) := N2.out.step bb
      replace R3 : Hid (Row y0 (.slice a3 n3 q3) n3 (flatE l3)) := Row.below R3.out bb
      replace N3 : Hid (MBox 26 y0 X3 #[.int .i64 b3, .int .i64 t3, .slice a3 n3 q3]) := N3.out.step bb
      clear bb
      have cN1 := N1.out.cells
      have cNM := NM.out.cells
      have cN2 := N2.out.cells
      have cN3 := N3.out.cells
      have hnw : (nw == nw) = true := by simp
      have hwm : IntKind.i64.wrap (mb + 1) = mb + 1 := by rw [IntKind.wrap_i64]; omega
      go_wp2_with fail
      have bd : Below y0.heap.size y0 y0.drew := (Below.refl _ _).drew
      clear cN1 cNM cN2 cN3
      replace SB : Hid (Below w1.heap.size w1 y0.drew) := Below.and SB.out bd
      replace C8 : Hid (Code8 y0.drew (.slice a0 bs.length cap0) bs) := C8.out.below bd
      replace R1 : Hid (Row y0.drew (.slice a1 n1 q1) n1 (flatE l1)) := Row.below R1.out bd
      replace N1 : Hid (MBox 26 y0.drew X1 #[.int .i64 b1, .int .i64 t1, .slice a1 n1 q1]) := N1.out.step bd
      replace RM : Hid (Row y0.drew (.slice am mn qm) mn (flatE M)) := Row.below RM.out bd
      replace NM : Hid (MBox 26 y0.drew XM #[.int .i64 mb, .int .i64 mt, .slice am mn qm]) := NM.out.step bd
      replace R2 : Hid (Row y0.drew (.slice a2 n2 q2) n2 (flatE l2)) := Row.below R2.out bd
      replace N2 : Hid (MBox 26 y0.drew X2 #[.int .i64 b2, .int .i64 t2, .slice a2 n2 q2]) := N2.out.step bd
      replace R3 : Hid (Row y0.drew (.slice a3 n3 q3) n3 (flatE l3)) := Row.below R3.out bd
      replace N3 : Hid (MBox 26 y0.drew X3 #[.int .i64 b3, .int .i64 t3, .slice a3 n3 q3]) := N3.out.step bd
      clear bd
      refine wp_region_held_drew (S := (fun u => u.cell? ⟨X3, 0, none⟩ = some (.int .i64 b3) ∧ u.cell? ⟨X3, 1, none⟩ = some (.int .i64 t3) ∧ u.cell? ⟨X3, 2, none⟩ = some (.slice a3 n3 q3) ∧ u.cell? ⟨XM, 0, none⟩ = some (.int .i64 mb) ∧ u.cell? ⟨XM, 1, none⟩ = some (.int .i64 mt) ∧ u.cell? ⟨XM, 2, none⟩ = some (.slice am mn qm))) (by kernel_rfl) (⟨N3.out.cells 0, N3.out.cells 1, N3.out.cells 2, NM.out.cells 0, NM.out.cells 1, NM.out.cells 2⟩) (fun hH => ?_)
      refine wpAnyH_take (i := 0) (oi := ⟨_, _, _, _, _, _⟩) (v := ?_) rfl (by kernel_rfl) (by kernel_rfl) (by kernel_rfl) (fun _ _ _ h => h) (Or.inl ⟨by rfl, ?_⟩) (by assumption) ?_
      rotate_left
      · ((intro w hSw; (try dsimp only at hSw); go_simp); (try with_reducible rfl))
      try simp only [Act.put, List.setIfInBounds_toArray, List.set_cons_zero, List.set_cons_succ]
      refine wpAnyH_take (i := 1) (oi := ⟨_, _, _, _, _, _⟩) (v := ?_) rfl (by kernel_rfl) (by kernel_rfl) (by kernel_rfl) (fun _ _ _ h => h) (Or.inl ⟨by rfl, ?_⟩) (by assumption) ?_
      rotate_left
      · ((intro w hSw; (try dsimp only at hSw); go_simp); (try with_reducible rfl))
      try simp only [Act.put, List.setIfInBounds_toArray, List.set_cons_zero, List.set_cons_succ]
      refine wpAnyH_take (i := 2) (oi := ⟨_, _, _, _, _, _⟩) (v := ?_) rfl (by kernel_rfl) (by kernel_rfl) (by kernel_rfl) (fun _ _ _ h => h) (Or.inl ⟨by rfl, ?_⟩) (by assumption) ?_
      rotate_left
      · ((intro w hSw; (try dsimp only at hSw); go_simp); (try with_reducible rfl))
      try simp only [Act.put, List.setIfInBounds_toArray, List.set_cons_zero, List.set_cons_succ]
      refine wpAnyH_take (i := 4) (oi := ⟨_, _, _, _, _, _⟩) (v := ?_) rfl (by kernel_rfl) (by kernel_rfl) (by kernel_rfl) (fun _ _ _ h => h) (Or.inl ⟨by rfl, ?_⟩) (by assumption) ?_
      rotate_left
      · ((intro w hSw; (try dsimp only at hSw); go_simp); (try with_reducible rfl))
      try simp only [Act.put, List.setIfInBounds_toArray, List.set_cons_zero, List.set_cons_succ]
      refine wpAnyH_take (i := 5) (oi := ⟨_, _, _, _, _, _⟩) (v := ?_) rfl (by kernel_rfl) (by kernel_rfl) (by kernel_rfl) (fun _ _ _ h => h) (Or.inl ⟨by rfl, ?_⟩) (by assumption) ?_
      rotate_left
      · ((intro w hSw; (try dsimp only at hSw); go_simp); (try with_reducible rfl))
      try simp only [Act.put, List.setIfInBounds_toArray, List.set_cons_zero, List.set_cons_succ]
      refine wpAnyH_take (i := 6) (oi := ⟨_, _, _, _, _, _⟩) (v := ?_) rfl (by kernel_rfl) (by kernel_rfl) (by kernel_rfl) (fun _ _ _ h => h) (Or.inl ⟨by rfl, ?_⟩) (by assumption) ?_
      rotate_left
      · ((intro w hSw; (try dsimp only at hSw); go_simp); (try with_reducible rfl))
      try simp only [Act.put, List.setIfInBounds_toArray, List.set_cons_zero, List.set_cons_succ]
      refine wpAnyH_ready (rs := [3]) (by kernel_rfl) (by simp) ?_
      refine AllReadyH.cons (o := ⟨_, _, _, _, _, _⟩) rfl (fun K hK => ?_) AllReadyH.nil
      refine (if_pos (show Region.wanted _ _ = true by kernel_rfl)).mpr ?_
      refine call_by 31 [.tmp 98, .tmp 99, .tmp 100] #[26, 3, 3] rfl run_iNewer _ rfl (NI.out _ R3.out) ?_
      rintro e y1 ⟨rfl, bb⟩
      replace SB : Hid (Below w1.heap.size w1 y1) := Below.and SB.out bb
      replace C8 : Hid (Code8 y1 (.slice a0 bs.length cap0) bs) := C8.out.below bb
      replace R1 : Hid (Row y1 (.slice a1 n1 q1) n1 (flatE l1)) := Row.below R1.out bb
      replace N1 : Hid (MBox 26 y1 X1 #[.int .i64 b1, .int .i64 t1, .slice a1 n1 q1]) := N1.out.step bb
      replace RM : Hid (Row y1 (.slice am mn qm) mn (flatE M)) := Row.below RM.out bb
      replace NM : Hid (MBox 26 y1 XM #[.int .i64 mb, .int .i64 mt, .slice am mn qm]) := NM.out.step bb
      replace R2 : Hid (Row y1 (.slice a2 n2 q2) n2 (flatE l2)) := Row.below R2.out bb
      replace N2 : Hid (MBox 26 y1 X2 #[.int .i64 b2, .int .i64 t2, .slice a2 n2 q2]) := N2.out.step bb
      replace R3 : Hid (Row y1 (.slice a3 n3 q3) n3 (flatE l3)) := Row.below R3.out bb
      replace N3 : Hid (MBox 26 y1 X3 #[.int .i64 b3, .int .i64 t3, .slice a3 n3 q3]) := N3.out.step bb
      clear bb
      refine ⟨_, rfl, ?_⟩
      refine hK.out _ _ (⟨N3.out.cells 0, N3.out.cells 1, N3.out.cells 2, NM.out.cells 0, NM.out.cells 1, NM.out.cells 2⟩) (fun hH2 => ?_)
      clear hK K hH
      have hH := hH2
      clear hH2
      try simp only [Act.put, List.setIfInBounds_toArray, List.set_cons_zero, List.set_cons_succ]
      refine wpAnyH_ready (rs := [7]) (by kernel_rfl) (by simp) ?_
      refine AllReadyH.cons (o := ⟨_, _, _, _, _, _⟩) rfl (fun K hK => ?_) AllReadyH.nil
      refine (if_pos (show Region.wanted _ _ = true by kernel_rfl)).mpr ?_
      refine call_by 32 [.tmp 102, .tmp 103, .tmp 104] #[26, 3, 3] rfl run_sNewer _ rfl (NS.out _ R3.out) ?_
      rintro e y2 ⟨rfl, bb⟩
      replace SB : Hid (Below w1.heap.size w1 y2) := Below.and SB.out bb
      replace C8 : Hid (Code8 y2 (.slice a0 bs.length cap0) bs) := C8.out.below bb
      replace R1 : Hid (Row y2 (.slice a1 n1 q1) n1 (flatE l1)) := Row.below R1.out bb
      replace N1 : Hid (MBox 26 y2 X1 #[.int .i64 b1, .int .i64 t1, .slice a1 n1 q1]) := N1.out.step bb
      replace RM : Hid (Row y2 (.slice am mn qm) mn (flatE M)) := Row.below RM.out bb
      replace NM : Hid (MBox 26 y2 XM #[.int .i64 mb, .int .i64 mt, .slice am mn qm]) := NM.out.step bb
      replace R2 : Hid (Row y2 (.slice a2 n2 q2) n2 (flatE l2)) := Row.below R2.out bb
      replace N2 : Hid (MBox 26 y2 X2 #[.int .i64 b2, .int .i64 t2, .slice a2 n2 q2]) := N2.out.step bb
      replace R3 : Hid (Row y2 (.slice a3 n3 q3) n3 (flatE l3)) := Row.below R3.out bb
      replace N3 : Hid (MBox 26 y2 X3 #[.int .i64 b3, .int .i64 t3, .slice a3 n3 q3]) := N3.out.step bb
      clear bb
      refine ⟨_, rfl, ?_⟩
      refine hK.out _ _ (⟨N3.out.cells 0, N3.out.cells 1, N3.out.cells 2, NM.out.cells 0, NM.out.cells 1, NM.out.cells 2⟩) (fun hH2 => ?_)
      clear hK K hH
      have hH := hH2
      clear hH2
      try simp only [Act.put, List.setIfInBounds_toArray, List.set_cons_zero, List.set_cons_succ]
      refine wpAnyH_take (i := 8) (oi := ⟨_, _, _, _, _, _⟩) (v := ?_) rfl (by kernel_rfl) (by kernel_rfl) (by kernel_rfl) (fun _ _ _ h => h) (Or.inl ⟨by rfl, ?_⟩) (by assumption) ?_
      rotate_left
      · ((intro w hSw; (try dsimp only at hSw); go_simp); (try with_reducible rfl))
      try simp only [Act.put, List.setIfInBounds_toArray, List.set_cons_zero, List.set_cons_succ]
      refine wpAnyH_take (i := 9) (oi := ⟨_, _, _, _, _, _⟩) (v := ?_) rfl (by kernel_rfl) (by kernel_rfl) (by kernel_rfl) (fun _ _ _ h => h) (Or.inl ⟨by rfl, ?_⟩) (by assumption) ?_
      rotate_left
      · ((intro w hSw; (try dsimp only at hSw); go_simp); (try with_reducible rfl))
      try simp only [Act.put, List.setIfInBounds_toArray, List.set_cons_zero, List.set_cons_succ]
      refine wpAnyH_take (i := 10) (oi := ⟨_, _, _, _, _, _⟩) (v := ?_) rfl (by kernel_rfl) (by kernel_rfl) (by kernel_rfl) (fun _ _ _ h => h) (Or.inl ⟨by rfl, ?_⟩) (by assumption) ?_
      rotate_left
      · ((intro w hSw; (try dsimp only at hSw); go_simp); (try with_reducible rfl))
      try simp only [Act.put, List.setIfInBounds_toArray, List.set_cons_zero, List.set_cons_succ]
      refine wpAnyH_take (i := 11) (oi := ⟨_, _, _, _, _, _⟩) (v := ?_) rfl (by kernel_rfl) (by kernel_rfl) (by kernel_rfl) (fun _ _ _ h => h) (Or.inl ⟨by rfl, ?_⟩) (by assumption) ?_
      rotate_left
      · ((intro w hSw; (try dsimp only at hSw); go_simp); (try with_reducible rfl))
      try simp only [Act.put, List.setIfInBounds_toArray, List.set_cons_zero, List.set_cons_succ]
      refine wpAnyH_take (i := 12) (oi := ⟨_, _, _, _, _, _⟩) (v := ?_) rfl (by kernel_rfl) (by kernel_rfl) (by kernel_rfl) (fun _ _ _ h => h) (Or.inl ⟨by rfl, ?_⟩) (by assumption) ?_
      rotate_left
      · ((intro w hSw; (try dsimp only at hSw); go_simp); (try with_reducible rfl))
      try simp only [Act.put, List.setIfInBounds_toArray, List.set_cons_zero, List.set_cons_succ]
      refine wpAnyH_ready (rs := [13]) (by kernel_rfl) (by simp) ?_
      refine AllReadyH.cons (o := ⟨_, _, _, _, _, _⟩) rfl (fun K hK => ?_) AllReadyH.nil
      refine (if_pos (show Region.wanted _ _ = true by kernel_rfl)).mpr ?_
      refine call_by 31 [.tmp 108, .tmp 109, .tmp 110] #[26, 3, 3] rfl run_iNewer _ rfl (NL.out _ R3.out) ?_
      rintro e y3 ⟨rfl, bb⟩
      replace SB : Hid (Below w1.heap.size w1 y3) := Below.and SB.out bb
      replace C8 : Hid (Code8 y3 (.slice a0 bs.length cap0) bs) := C8.out.below bb
      replace R1 : Hid (Row y3 (.slice a1 n1 q1) n1 (flatE l1)) := Row.below R1.out bb
      replace N1 : Hid (MBox 26 y3 X1 #[.int .i64 b1, .int .i64 t1, .slice a1 n1 q1]) := N1.out.step bb
      replace RM : Hid (Row y3 (.slice am mn qm) mn (flatE M)) := Row.below RM.out bb
      replace NM : Hid (MBox 26 y3 XM #[.int .i64 mb, .int .i64 mt, .slice am mn qm]) := NM.out.step bb
      replace R2 : Hid (Row y3 (.slice a2 n2 q2) n2 (flatE l2)) := Row.below R2.out bb
      replace N2 : Hid (MBox 26 y3 X2 #[.int .i64 b2, .int .i64 t2, .slice a2 n2 q2]) := N2.out.step bb
      replace R3 : Hid (Row y3 (.slice a3 n3 q3) n3 (flatE l3)) := Row.below R3.out bb
      replace N3 : Hid (MBox 26 y3 X3 #[.int .i64 b3, .int .i64 t3, .slice a3 n3 q3]) := N3.out.step bb
      clear bb
      refine ⟨_, rfl, ?_⟩
      refine hK.out _ _ (⟨N3.out.cells 0, N3.out.cells 1, N3.out.cells 2, NM.out.cells 0, NM.out.cells 1, NM.out.cells 2⟩) (fun hH2 => ?_)
      clear hK K hH
      have hH := hH2
      clear hH2
      try simp only [Act.put, List.setIfInBounds_toArray, List.set_cons_zero, List.set_cons_succ]
      refine wpAnyH_take (i := 14) (oi := ⟨_, _, _, _, _, _⟩) (v := ?_) rfl (by kernel_rfl) (by kernel_rfl) (by kernel_rfl) (fun _ _ _ h => h) (Or.inl ⟨by rfl, ?_⟩) (by assumption) ?_
      rotate_left
      · ((intro w hSw; (try dsimp only at hSw); go_simp); (try with_reducible rfl))
      try simp only [Act.put, List.setIfInBounds_toArray, List.set_cons_zero, List.set_cons_succ]
      refine wpAnyH_take (i := 15) (oi := ⟨_, _, _, _, _, _⟩) (v := ?_) rfl (by kernel_rfl) (by kernel_rfl) (by kernel_rfl) (fun _ _ _ h => h) (Or.inl ⟨by rfl, ?_⟩) (by assumption) ?_
      rotate_left
      · ((intro w hSw; (try dsimp only at hSw); go_simp); (try with_reducible rfl))
      try simp only [Act.put, List.setIfInBounds_toArray, List.set_cons_zero, List.set_cons_succ]
      refine wpAnyH_take (i := 16) (oi := ⟨_, _, _, _, _, _⟩) (v := ?_) rfl (by kernel_rfl) (by kernel_rfl) (by kernel_rfl) (fun _ _ _ h => h) (Or.inl ⟨by rfl, ?_⟩) (by assumption) ?_
      rotate_left
      · ((intro w hSw; (try dsimp only at hSw); go_simp); (try with_reducible rfl))
      try simp only [Act.put, List.setIfInBounds_toArray, List.set_cons_zero, List.set_cons_succ]
      refine wpAnyH_take (i := 17) (oi := ⟨_, _, _, _, _, _⟩) (v := ?_) rfl (by kernel_rfl) (by kernel_rfl) (by kernel_rfl) (fun _ _ _ h => h) (Or.inl ⟨by rfl, ?_⟩) (by assumption) ?_
      rotate_left
      · ((intro w hSw; (try dsimp only at hSw); go_simp); (try with_reducible rfl))
      try simp only [Act.put, List.setIfInBounds_toArray, List.set_cons_zero, List.set_cons_succ]
      refine wpAnyH_take (i := 18) (oi := ⟨_, _, _, _, _, _⟩) (v := ?_) rfl (by kernel_rfl) (by kernel_rfl) (by kernel_rfl) (fun _ _ _ h => h) (Or.inl ⟨by rfl, ?_⟩) (by assumption) ?_
      rotate_left
      · ((intro w hSw; (try dsimp only at hSw); go_simp); (try with_reducible rfl))
      try simp only [Act.put, List.setIfInBounds_toArray, List.set_cons_zero, List.set_cons_succ]
      refine wpAnyH_take (i := 19) (oi := ⟨_, _, _, _, _, _⟩) (v := ?_) rfl (by kernel_rfl) (by kernel_rfl) (by kernel_rfl) (fun _ _ _ h => h) (Or.inl ⟨by rfl, ?_⟩) (by assumption) ?_
      rotate_left
      · ((intro w hSw; (try dsimp only at hSw); go_simp); (try with_reducible rfl))
      try simp only [Act.put, List.setIfInBounds_toArray, List.set_cons_zero, List.set_cons_succ]
      refine wpAnyH_take (i := 22) (oi := ⟨_, _, _, _, _, _⟩) (v := ?_) rfl (by kernel_rfl) (by kernel_rfl) (by kernel_rfl) (fun _ _ _ h => h) (Or.inl ⟨by rfl, ?_⟩) (by assumption) ?_
      rotate_left
      · ((intro w hSw; (try dsimp only at hSw); go_simp); (try with_reducible rfl))
      try simp only [Act.put, List.setIfInBounds_toArray, List.set_cons_zero, List.set_cons_succ]
      refine wpAnyH_take (i := 23) (oi := ⟨_, _, _, _, _, _⟩) (v := ?_) rfl (by kernel_rfl) (by kernel_rfl) (by kernel_rfl) (fun _ _ _ h => h) (Or.inl ⟨by rfl, ?_⟩) (by assumption) ?_
      rotate_left
      · ((intro w hSw; (try dsimp only at hSw); go_simp); (try with_reducible rfl))
      try simp only [Act.put, List.setIfInBounds_toArray, List.set_cons_zero, List.set_cons_succ]
      refine wpAnyH_take (i := 24) (oi := ⟨_, _, _, _, _, _⟩) (v := ?_) rfl (by kernel_rfl) (by kernel_rfl) (by kernel_rfl) (fun _ _ _ h => h) (Or.inl ⟨by rfl, ?_⟩) (by assumption) ?_
      rotate_left
      · ((intro w hSw; (try dsimp only at hSw); go_simp); (try with_reducible rfl))
      try simp only [Act.put, List.setIfInBounds_toArray, List.set_cons_zero, List.set_cons_succ]
      refine wpAnyH_ready (rs := [20]) (by kernel_rfl) (by simp) ?_
      refine AllReadyH.cons (o := ⟨_, _, _, _, _, _⟩) rfl (fun K hK => ?_) AllReadyH.nil
      refine (if_pos (show Region.wanted _ _ = true by kernel_rfl)).mpr ?_
      refine call_by 26 [.tmp 114, .tmp 117] #[26, 3] rfl run_iEnts _ rfl (CE2.out _ _ RM.out) ?_
      rintro e y4 ⟨ve, rfl, oe, bb⟩
      obtain ⟨ae, qe, hve⟩ := owns_val oe
      subst hve
      clear oe
      replace SB : Hid (Below w1.heap.size w1 y4) := Below.and SB.out bb
      replace C8 : Hid (Code8 y4 (.slice a0 bs.length cap0) bs) := C8.out.below bb
      replace R1 : Hid (Row y4 (.slice a1 n1 q1) n1 (flatE l1)) := Row.below R1.out bb
      replace N1 : Hid (MBox 26 y4 X1 #[.int .i64 b1, .int .i64 t1, .slice a1 n1 q1]) := N1.out.step bb
      replace RM : Hid (Row y4 (.slice am mn qm) mn (flatE M)) := Row.below RM.out bb
      replace NM : Hid (MBox 26 y4 XM #[.int .i64 mb, .int .i64 mt, .slice am mn qm]) := NM.out.step bb
      replace R2 : Hid (Row y4 (.slice a2 n2 q2) n2 (flatE l2)) := Row.below R2.out bb
      replace N2 : Hid (MBox 26 y4 X2 #[.int .i64 b2, .int .i64 t2, .slice a2 n2 q2]) := N2.out.step bb
      replace R3 : Hid (Row y4 (.slice a3 n3 q3) n3 (flatE l3)) := Row.below R3.out bb
      replace N3 : Hid (MBox 26 y4 X3 #[.int .i64 b3, .int .i64 t3, .slice a3 n3 q3]) := N3.out.step bb
      clear bb
      refine ⟨_, rfl, ?_⟩
      refine hK.out _ _ (⟨N3.out.cells 0, N3.out.cells 1, N3.out.cells 2, NM.out.cells 0, NM.out.cells 1, NM.out.cells 2⟩) (fun hH2 => ?_)
      clear hK K hH
      have hH := hH2
      clear hH2
      try simp only [Act.put, List.setIfInBounds_toArray, List.set_cons_zero, List.set_cons_succ]
      refine wpAnyH_take (i := 21) (oi := ⟨_, _, _, _, _, _⟩) (v := ?_) rfl (by kernel_rfl) (by kernel_rfl) (by kernel_rfl) (fun _ _ _ h => h) (Or.inl ⟨by rfl, ?_⟩) (by assumption) ?_
      rotate_left
      · ((intro w hSw; (try dsimp only at hSw); go_simp); (try with_reducible rfl))
      try simp only [Act.put, List.setIfInBounds_toArray, List.set_cons_zero, List.set_cons_succ]
      refine wpAnyH_take (i := 25) (oi := ⟨_, _, _, _, _, _⟩) (v := ?_) rfl (by kernel_rfl) (by kernel_rfl) (by kernel_rfl) (fun _ _ _ h => h) (Or.inl ⟨by rfl, ?_⟩) (by assumption) ?_
      rotate_left
      · ((intro w hSw; (try dsimp only at hSw); go_simp); (try with_reducible rfl))
      try simp only [Act.put, List.setIfInBounds_toArray, List.set_cons_zero, List.set_cons_succ]
      refine wpAnyH_take (i := 26) (oi := ⟨_, _, _, _, _, _⟩) (v := ?_) rfl (by kernel_rfl) (by kernel_rfl) (by kernel_rfl) (fun _ _ _ h => h) (Or.inl ⟨by rfl, ?_⟩) (by assumption) ?_
      rotate_left
      · ((intro w hSw; (try dsimp only at hSw); go_simp); (try with_reducible rfl))
      try simp only [Act.put, List.setIfInBounds_toArray, List.set_cons_zero, List.set_cons_succ]
      refine wpAnyH_take (i := 27) (oi := ⟨_, _, _, _, _, _⟩) (v := ?_) rfl (by kernel_rfl) (by kernel_rfl) (by kernel_rfl) (fun _ _ _ h => h) (Or.inl ⟨by rfl, ?_⟩) (by assumption) ?_
      rotate_left
      · ((intro w hSw; (try dsimp only at hSw); go_simp); (try with_reducible rfl))
      try simp only [Act.put, List.setIfInBounds_toArray, List.set_cons_zero, List.set_cons_succ]
      refine wpAnyH_done (by kernel_rfl) ?_ _
      clear hH
      go_wp2
      go_ret
      exact ⟨rfl, SB.out⟩

end Go.Proofs.Yteegcblndbljlaa
