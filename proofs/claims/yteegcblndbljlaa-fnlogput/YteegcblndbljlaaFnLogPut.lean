/-
  The walk of the law FnLogPut.
-/
import Derived.Test.YteegcblndbljlaaDrawLk
import Derived.Test.YteegcblndbljlaaLogPutN
import Derived.Test.YteegcblndbljlaaLogPutS
import Derived.Test.YteegcblndbljlaaSameEn
import Derived.Test.YteegcblndbljlaaBig
import Derived.Deep.RegionHeld3
namespace Go.Proofs.Yteegcblndbljlaa
open Go.RowKit

theorem run_sameLogP (args : Array Value) (w : World) : (callFunc 17 args).run Try.prog w = .ok (.enter 17 args) w := by go_simp
theorem run_iOkP (args : Array Value) (w : World) : (callFunc 18 args).run Try.prog w = .ok (.enter 18 args) w := by go_simp
theorem run_sOkP (args : Array Value) (w : World) : (callFunc 19 args).run Try.prog w = .ok (.enter 19 args) w := by go_simp
theorem run_iTermP (args : Array Value) (w : World) : (callFunc 20 args).run Try.prog w = .ok (.enter 20 args) w := by go_simp

set_option maxRecDepth 100000 in
set_option maxHeartbeats 8000000 in
theorem fnLogPut_any (v : Value) (bs : List Int) (w : World) (hc : Code8 w v bs) :
    Calls Try.prog 3 #[v] w fun e w' => e = .returned (.bool true) ∧ Below w.heap.size w w' := by
  obtain ⟨a0, b0, off0, cap0, hv, hcap0, hmax0, -⟩ := id hc.1
  have hn0 : bs.length ≤ maxLen := by omega
  have HC : Hid (Code8 w v bs) := hc
  subst hv
  clear hc
  by_cases hbig : bs.length > 1048576
  · have hd : decide (bs.length > 1048576) = true := decide_eq_true hbig
    go_enter Try.func3, Try.ntmps3
    go_wp2_with fail
    refine (big_any a0 bs.length cap0 hn0 w).mono ?_
    rintro e w1 ⟨rfl, rfl⟩
    rw [hd]
    go_wp2
    go_ret
    exact ⟨rfl, Below.refl _ _⟩
  · have hd : decide (bs.length > 1048576) = false := decide_eq_false hbig
    have hbs : bs.length ≤ 1048576 := by omega
    go_enter Try.func3, Try.ntmps3
    go_wp2_with fail
    refine (big_any a0 bs.length cap0 hn0 w).mono ?_
    rintro e w1 ⟨rfl, hw1⟩
    subst hw1
    rw [hd]
    clear hd hbig
    have SB : Hid (Below w1.heap.size w1 w1) := Below.refl _ _
    go_wp2_with fail
    refine (DrawLogPut_any _ bs _ HC.out hbs).mono ?_
    rintro e d1 ⟨b, bt, ax, n, qx, l, pr, pt, a3, n3, q3, l3, rfl, hb0, hb1, hl, hn8, hi, hl3, hn3, r1, r3, bb⟩
    have HL : Hid (l.length = n) := hl
    have HL3 : Hid (l3.length = n3) := hl3
    have HI : Hid (I64 b ∧ I64 pr) := ⟨⟨by omega, by omega⟩, hi⟩
    replace SB : Hid (Below w1.heap.size w1 d1) := Below.and SB.out bb
    have R1 : Hid (Row d1 (.slice ax n qx) n (flatE l)) := r1
    have R3 : Hid (Row d1 (.slice a3 n3 q3) n3 (flatE l3)) := r3
    clear bb r1 r3 hl hl3 hi HC
    have bn := bel_nw d1 (.cells #[.int .i64 b, .int .i64 bt, .slice ax n qx] 26)
    replace SB : Hid (Below w1.heap.size w1 (d1.alloc (.cells #[.int .i64 b, .int .i64 bt, .slice ax n qx] 26))) := Below.and SB.out bn
    replace R1 : Hid (Row (d1.alloc (.cells #[.int .i64 b, .int .i64 bt, .slice ax n qx] 26)) (.slice ax n qx) n (flatE l)) := Row.below R1.out bn
    replace R3 : Hid (Row (d1.alloc (.cells #[.int .i64 b, .int .i64 bt, .slice ax n qx] 26)) (.slice a3 n3 q3) n3 (flatE l3)) := Row.below R3.out bn
    have N1 : Hid (MBox 26 (d1.alloc (.cells #[.int .i64 b, .int .i64 bt, .slice ax n qx] 26)) d1.heap.size #[.int .i64 b, .int .i64 bt, .slice ax n qx]) := MBox.start _ _ _
    clear bn
    have cN1 := N1.out.cells
    go_wp2_with fail
    clear cN1
    generalize d1.heap.size = X1 at *
    generalize d1.alloc (.cells #[.int .i64 b, .int .i64 bt, .slice ax n qx] 26) = D1 at *
    have CPI : Hid (∀ u, Row u (.slice ax n qx) n (flatE l) → Row u (.slice a3 n3 q3) n3 (flatE l3) → Calls Try.prog 15 #[lgV b bt (.slice ax n qx), .int .i64 pr, .int .i64 pt, .slice a3 n3 q3] u fun e w' => ∃ v', e = .returned (.tuple #[lgV (putB b bt l) (putT b bt l) v', .bool (putK b bt l pr pt l3)]) ∧ w'.ownsRow u.heap.size 39 6 v' (putL b bt l pr pt l3).length (flatE (putL b bt l pr pt l3)) ∧ Below u.heap.size u w') := fun u h1 h3 => implLogPut_any b bt _ l pr pt _ l3 u (by rw [HL.out]; exact h1) (by rw [HL3.out]; exact h3) HI.out.1 HI.out.2 (by rw [HL.out, HL3.out]; omega)
    have CPS : Hid (∀ u, Row u (.slice ax n qx) n (flatE l) → Row u (.slice a3 n3 q3) n3 (flatE l3) → Calls Try.prog 16 #[lgV b bt (.slice ax n qx), .int .i64 pr, .int .i64 pt, .slice a3 n3 q3] u fun e w' => ∃ v', e = .returned (.tuple #[lgV (putB b bt l) (putT b bt l) v', .bool (putK b bt l pr pt l3)]) ∧ OwnE w' u.heap.size 39 6 v' (putL b bt l pr pt l3).length (flatE (putL b bt l pr pt l3)) ∧ Below u.heap.size u w') := fun u h1 h3 => specLogPut_any b bt _ l pr pt _ l3 u (by rw [HL.out]; exact h1) (by rw [HL3.out]; exact h3) HI.out.1 HI.out.2 (by rw [HL.out, HL3.out]; omega)
    have COI : Hid (∀ u, Row u (.slice ax n qx) n (flatE l) → Calls Try.prog 18 #[lgV b bt (.slice ax n qx)] u fun e w' => e = .returned (.bool (logOkB b bt l)) ∧ Below u.heap.size u w') := fun u h1 => implLogOk_any b bt _ l u (by rw [HL.out]; exact h1) (by rw [HL.out]; omega)
    have COS : Hid (∀ u, Row u (.slice ax n qx) n (flatE l) → Calls Try.prog 19 #[lgV b bt (.slice ax n qx)] u fun e w' => e = .returned (.bool (logOkB b bt l)) ∧ Below u.heap.size u w') := fun u h1 => specLogOk_any b bt _ l u (by rw [HL.out]; exact h1) (by rw [HL.out]; omega)
    have CTL : Hid (∀ (u : World) (x : Int), I64 x → Row u (.slice ax n qx) n (flatE l) → Calls Try.prog 20 #[lgV b bt (.slice ax n qx), .int .i64 x] u fun e w' => e = .returned (.int .i64 (termB b bt l x)) ∧ Below u.heap.size u w') := fun u x hx h1 => implTermAt_any b bt _ l x u (by rw [HL.out]; exact h1) HI.out.1 hx
    have FY : Hid (putK b bt l pr pt l3 = true → _) := fun h => put_facts h
    have FN : Hid (putK b bt l pr pt l3 = false → _) := fun h => put_fails h
    have hpl : (putL b bt l pr pt l3).length ≤ 28 := by have := putL_len b bt l pr pt l3; rw [HL.out, HL3.out] at this; omega
    generalize hM : putL b bt l pr pt l3 = M at *
    generalize hmb : putB b bt l = mb at *
    generalize hmt : putT b bt l = mt at *
    generalize hmk : putK b bt l pr pt l3 = mk at *
    have HMM : Hid _ := And.intro hM (And.intro hmb (And.intro hmt hmk))
    clear hM hmb hmt hmk
    have CSM : Hid (∀ u V V2, Row u V M.length (flatE M) → Row u V2 M.length (flatE M) → Calls Try.prog 17 #[lgV mb mt V, lgV mb mt V2] u fun e w' => e = .returned (.bool true) ∧ Below u.heap.size u w') := fun u V V2 h1 h2 => (sameLog_any mb mt mb mt V V2 M M u h1 h2).mono (fun e w' ⟨he, hb⟩ => ⟨by rw [he]; simp, hb⟩)
    have CSL : Hid (∀ u V, Row u (.slice ax n qx) n (flatE l) → Row u V M.length (flatE M) → Calls Try.prog 17 #[lgV b bt (.slice ax n qx), lgV mb mt V] u fun e w' => e = .returned (.bool (decide (b = mb ∧ bt = mt ∧ l = M))) ∧ Below u.heap.size u w') := fun u V h1 h2 => sameLog_any b bt mb mt _ V l M u (by rw [HL.out]; exact h1) h2
    generalize hml : M.length = mn at *
    have HML : Hid _ := hml
    clear hml
    generalize hok1 : logOkB b bt l = ok1 at *
    clear hok1
    refine (CPI.out _ R1.out R3.out).mono ?_
    rintro e e1 ⟨vm, rfl, om, bb⟩
    obtain ⟨am, qm, hvm⟩ := owns_val om
    subst hvm
    replace SB : Hid (Below w1.heap.size w1 e1) := Below.and SB.out bb
    replace R1 : Hid (Row e1 (.slice ax n qx) n (flatE l)) := Row.below R1.out bb
    replace R3 : Hid (Row e1 (.slice a3 n3 q3) n3 (flatE l3)) := Row.below R3.out bb
    replace N1 : Hid (MBox 26 e1 X1 #[.int .i64 b, .int .i64 bt, .slice ax n qx]) := N1.out.step bb
    have RM : Hid (Row e1 (.slice am mn qm) mn (flatE M)) := Row.of_owns om
    clear bb om
    have bn := bel_nw e1 (.cells #[.int .i64 mb, .int .i64 mt, .slice am mn qm] 26)
    replace SB : Hid (Below w1.heap.size w1 (e1.alloc (.cells #[.int .i64 mb, .int .i64 mt, .slice am mn qm] 26))) := Below.and SB.out bn
    replace R1 : Hid (Row (e1.alloc (.cells #[.int .i64 mb, .int .i64 mt, .slice am mn qm] 26)) (.slice ax n qx) n (flatE l)) := Row.below R1.out bn
    replace R3 : Hid (Row (e1.alloc (.cells #[.int .i64 mb, .int .i64 mt, .slice am mn qm] 26)) (.slice a3 n3 q3) n3 (flatE l3)) := Row.below R3.out bn
    replace N1 : Hid (MBox 26 (e1.alloc (.cells #[.int .i64 mb, .int .i64 mt, .slice am mn qm] 26)) X1 #[.int .i64 b, .int .i64 bt, .slice ax n qx]) := N1.out.step bn
    replace RM : Hid (Row (e1.alloc (.cells #[.int .i64 mb, .int .i64 mt, .slice am mn qm] 26)) (.slice am mn qm) mn (flatE M)) := Row.below RM.out bn
    have NM : Hid (MBox 26 (e1.alloc (.cells #[.int .i64 mb, .int .i64 mt, .slice am mn qm] 26)) e1.heap.size #[.int .i64 mb, .int .i64 mt, .slice am mn qm]) := MBox.start _ _ _
    clear bn
    have cN1 := N1.out.cells
    have cNM := NM.out.cells
    go_wp2_with fail
    clear cN1 cNM
    generalize e1.heap.size = XM at *
    generalize e1.alloc (.cells #[.int .i64 mb, .int .i64 mt, .slice am mn qm] 26) = E1 at *
    refine (CPS.out _ R1.out R3.out).mono ?_
    rintro e e2 ⟨vs, rfl, os, bb⟩
    obtain ⟨as_, qs, hvs⟩ := OwnE.slice os
    subst hvs
    replace SB : Hid (Below w1.heap.size w1 e2) := Below.and SB.out bb
    replace R1 : Hid (Row e2 (.slice ax n qx) n (flatE l)) := Row.below R1.out bb
    replace R3 : Hid (Row e2 (.slice a3 n3 q3) n3 (flatE l3)) := Row.below R3.out bb
    replace N1 : Hid (MBox 26 e2 X1 #[.int .i64 b, .int .i64 bt, .slice ax n qx]) := N1.out.step bb
    replace RM : Hid (Row e2 (.slice am mn qm) mn (flatE M)) := Row.below RM.out bb
    replace NM : Hid (MBox 26 e2 XM #[.int .i64 mb, .int .i64 mt, .slice am mn qm]) := NM.out.step bb
    have RS : Hid (Row e2 (.slice as_ mn qs) mn (flatE M)) := OwnE.rowE os
    clear bb os
    have hkk : (mk != mk) = false := by cases mk <;> rfl
    have hoo : (ok1 != ok1) = false := by cases ok1 <;> rfl
    have bn := bel_nw e2 (.cells #[.int .i64 mb, .int .i64 mt, .slice as_ mn qs] 26)
    replace SB : Hid (Below w1.heap.size w1 (e2.alloc (.cells #[.int .i64 mb, .int .i64 mt, .slice as_ mn qs] 26))) := Below.and SB.out bn
    replace R1 : Hid (Row (e2.alloc (.cells #[.int .i64 mb, .int .i64 mt, .slice as_ mn qs] 26)) (.slice ax n qx) n (flatE l)) := Row.below R1.out bn
    replace R3 : Hid (Row (e2.alloc (.cells #[.int .i64 mb, .int .i64 mt, .slice as_ mn qs] 26)) (.slice a3 n3 q3) n3 (flatE l3)) := Row.below R3.out bn
    replace N1 : Hid (MBox 26 (e2.alloc (.cells #[.int .i64 mb, .int .i64 mt, .slice as_ mn qs] 26)) X1 #[.int .i64 b, .int .i64 bt, .slice ax n qx]) := N1.out.step bn
    replace RM : Hid (Row (e2.alloc (.cells #[.int .i64 mb, .int .i64 mt, .slice as_ mn qs] 26)) (.slice am mn qm) mn (flatE M)) := Row.below RM.out bn
    replace NM : Hid (MBox 26 (e2.alloc (.cells #[.int .i64 mb, .int .i64 mt, .slice as_ mn qs] 26)) XM #[.int .i64 mb, .int .i64 mt, .slice am mn qm]) := NM.out.step bn
    replace RS : Hid (Row (e2.alloc (.cells #[.int .i64 mb, .int .i64 mt, .slice as_ mn qs] 26)) (.slice as_ mn qs) mn (flatE M)) := Row.below RS.out bn
    have NS : Hid (MBox 26 (e2.alloc (.cells #[.int .i64 mb, .int .i64 mt, .slice as_ mn qs] 26)) e2.heap.size #[.int .i64 mb, .int .i64 mt, .slice as_ mn qs]) := MBox.start _ _ _
    clear bn
    have cN1 := N1.out.cells
    have cNM := NM.out.cells
    have cNS := NS.out.cells
    go_wp2_with fail
    clear cN1 cNM cNS
    generalize e2.heap.size = XS at *
    generalize e2.alloc (.cells #[.int .i64 mb, .int .i64 mt, .slice as_ mn qs] 26) = E2 at *
    have bd : Below E2.heap.size E2 E2.drew := (Below.refl _ _).drew
    replace SB : Hid (Below w1.heap.size w1 E2.drew) := Below.and SB.out bd
    replace R1 : Hid (Row E2.drew (.slice ax n qx) n (flatE l)) := Row.below R1.out bd
    replace R3 : Hid (Row E2.drew (.slice a3 n3 q3) n3 (flatE l3)) := Row.below R3.out bd
    replace N1 : Hid (MBox 26 E2.drew X1 #[.int .i64 b, .int .i64 bt, .slice ax n qx]) := N1.out.step bd
    replace RM : Hid (Row E2.drew (.slice am mn qm) mn (flatE M)) := Row.below RM.out bd
    replace NM : Hid (MBox 26 E2.drew XM #[.int .i64 mb, .int .i64 mt, .slice am mn qm]) := NM.out.step bd
    replace RS : Hid (Row E2.drew (.slice as_ mn qs) mn (flatE M)) := Row.below RS.out bd
    replace NS : Hid (MBox 26 E2.drew XS #[.int .i64 mb, .int .i64 mt, .slice as_ mn qs]) := NS.out.step bd
    clear bd
    refine wp_region_held_drew (S := (fun u => u.cell? ⟨X1, 0, none⟩ = some (.int .i64 b) ∧ u.cell? ⟨X1, 1, none⟩ = some (.int .i64 bt) ∧ u.cell? ⟨X1, 2, none⟩ = some (.slice ax n qx) ∧ u.cell? ⟨XM, 0, none⟩ = some (.int .i64 mb) ∧ u.cell? ⟨XM, 1, none⟩ = some (.int .i64 mt) ∧ u.cell? ⟨XM, 2, none⟩ = some (.slice am mn qm) ∧ u.cell? ⟨XS, 0, none⟩ = some (.int .i64 mb) ∧ u.cell? ⟨XS, 1, none⟩ = some (.int .i64 mt) ∧ u.cell? ⟨XS, 2, none⟩ = some (.slice as_ mn qs))) (by kernel_rfl) (⟨N1.out.cells 0, N1.out.cells 1, N1.out.cells 2, NM.out.cells 0, NM.out.cells 1, NM.out.cells 2, NS.out.cells 0, NS.out.cells 1, NS.out.cells 2⟩) (fun hH => ?_)
    refine wpAnyH_take (i := 0) (oi := ⟨_, _, _, _, _, _⟩) (v := ?_) rfl (by kernel_rfl) (by kernel_rfl) (by kernel_rfl) (fun _ _ _ h => h) (Or.inl ⟨by rfl, ?_⟩) (by assumption) ?_
    rotate_left
    · ((intro w hSw; (try dsimp only at hSw); go_simp); (try with_reducible rfl))
    try simp only [Act.put, List.setIfInBounds_toArray, List.set_cons_zero, List.set_cons_succ]
    refine wpAnyH_take (i := 1) (oi := ⟨_, _, _, _, _, _⟩) (v := ?_) rfl (by kernel_rfl) (by kernel_rfl) (by kernel_rfl) (fun _ _ _ h => h) (Or.inl ⟨by rfl, ?_⟩) (by assumption) ?_
    rotate_left
    · ((intro w hSw; (try dsimp only at hSw); go_simp); (try with_reducible rfl))
    try simp only [Act.put, List.setIfInBounds_toArray, List.set_cons_zero, List.set_cons_succ]
    refine wpAnyH_take (i := 2) (oi := ⟨_, _, _, _, _, _⟩) (v := ?_) rfl (by kernel_rfl) (by kernel_rfl) (by kernel_rfl) (fun _ _ _ h => h) (Or.inl ⟨by rfl, ?_⟩) (by assumption) ?_
    rotate_left
    · ((intro w hSw; (try dsimp only at hSw); go_simp); (try with_reducible rfl))
    try simp only [Act.put, List.setIfInBounds_toArray, List.set_cons_zero, List.set_cons_succ]
    refine wpAnyH_take (i := 3) (oi := ⟨_, _, _, _, _, _⟩) (v := ?_) rfl (by kernel_rfl) (by kernel_rfl) (by kernel_rfl) (fun _ _ _ h => h) (Or.inl ⟨by rfl, ?_⟩) (by assumption) ?_
    rotate_left
    · ((intro w hSw; (try dsimp only at hSw); go_simp); (try with_reducible rfl))
    try simp only [Act.put, List.setIfInBounds_toArray, List.set_cons_zero, List.set_cons_succ]
    refine wpAnyH_take (i := 4) (oi := ⟨_, _, _, _, _, _⟩) (v := ?_) rfl (by kernel_rfl) (by kernel_rfl) (by kernel_rfl) (fun _ _ _ h => h) (Or.inl ⟨by rfl, ?_⟩) (by assumption) ?_
    rotate_left
    · ((intro w hSw; (try dsimp only at hSw); go_simp); (try with_reducible rfl))
    try simp only [Act.put, List.setIfInBounds_toArray, List.set_cons_zero, List.set_cons_succ]
    refine wpAnyH_take (i := 5) (oi := ⟨_, _, _, _, _, _⟩) (v := ?_) rfl (by kernel_rfl) (by kernel_rfl) (by kernel_rfl) (fun _ _ _ h => h) (Or.inl ⟨by rfl, ?_⟩) (by assumption) ?_
    rotate_left
    · ((intro w hSw; (try dsimp only at hSw); go_simp); (try with_reducible rfl))
    try simp only [Act.put, List.setIfInBounds_toArray, List.set_cons_zero, List.set_cons_succ]
    refine wpAnyH_ready (rs := [6]) (by kernel_rfl) (by simp) ?_
    refine AllReadyH.cons (o := ⟨_, _, _, _, _, _⟩) rfl (fun K hK => ?_) AllReadyH.nil
    refine (if_pos (show Region.wanted _ _ = true by kernel_rfl)).mpr ?_
    refine call_by 17 [.tmp 44, .tmp 45] #[26, 26] rfl run_sameLogP _ rfl (CSM.out _ _ _ RM.out RS.out) ?_
    rintro e u1 ⟨rfl, bb⟩
    replace SB : Hid (Below w1.heap.size w1 u1) := Below.and SB.out bb
    replace R1 : Hid (Row u1 (.slice ax n qx) n (flatE l)) := Row.below R1.out bb
    replace R3 : Hid (Row u1 (.slice a3 n3 q3) n3 (flatE l3)) := Row.below R3.out bb
    replace N1 : Hid (MBox 26 u1 X1 #[.int .i64 b, .int .i64 bt, .slice ax n qx]) := N1.out.step bb
    replace RM : Hid (Row u1 (.slice am mn qm) mn (flatE M)) := Row.below RM.out bb
    replace NM : Hid (MBox 26 u1 XM #[.int .i64 mb, .int .i64 mt, .slice am mn qm]) := NM.out.step bb
    replace RS : Hid (Row u1 (.slice as_ mn qs) mn (flatE M)) := Row.below RS.out bb
    replace NS : Hid (MBox 26 u1 XS #[.int .i64 mb, .int .i64 mt, .slice as_ mn qs]) := NS.out.step bb
    clear bb
    refine ⟨_, rfl, ?_⟩
    refine hK.out _ _ (⟨N1.out.cells 0, N1.out.cells 1, N1.out.cells 2, NM.out.cells 0, NM.out.cells 1, NM.out.cells 2, NS.out.cells 0, NS.out.cells 1, NS.out.cells 2⟩) (fun hH2 => ?_)
    clear hK K hH
    have hH := hH2
    clear hH2
    try simp only [Act.put, List.setIfInBounds_toArray, List.set_cons_zero, List.set_cons_succ]
    refine wpAnyH_take (i := 7) (oi := ⟨_, _, _, _, _, _⟩) (v := ?_) rfl (by kernel_rfl) (by kernel_rfl) (by kernel_rfl) (fun _ _ _ h => h) (Or.inl ⟨by rfl, ?_⟩) (by assumption) ?_
    rotate_left
    · ((intro w hSw; (try dsimp only at hSw); go_simp); (try with_reducible rfl))
    try simp only [Act.put, List.setIfInBounds_toArray, List.set_cons_zero, List.set_cons_succ]
    refine wpAnyH_take (i := 8) (oi := ⟨_, _, _, _, _, _⟩) (v := ?_) rfl (by kernel_rfl) (by kernel_rfl) (by kernel_rfl) (fun _ _ _ h => h) (Or.inl ⟨by rfl, ?_⟩) (by assumption) ?_
    rotate_left
    · ((intro w hSw; (try dsimp only at hSw); go_simp); (try with_reducible rfl))
    try simp only [Act.put, List.setIfInBounds_toArray, List.set_cons_zero, List.set_cons_succ]
    refine wpAnyH_take (i := 9) (oi := ⟨_, _, _, _, _, _⟩) (v := ?_) rfl (by kernel_rfl) (by kernel_rfl) (by kernel_rfl) (fun _ _ _ h => h) (Or.inl ⟨by rfl, ?_⟩) (by assumption) ?_
    rotate_left
    · ((intro w hSw; (try dsimp only at hSw); go_simp); (try with_reducible rfl))
    try simp only [Act.put, List.setIfInBounds_toArray, List.set_cons_zero, List.set_cons_succ]
    refine wpAnyH_take (i := 10) (oi := ⟨_, _, _, _, _, _⟩) (v := ?_) rfl (by kernel_rfl) (by kernel_rfl) (by kernel_rfl) (fun _ _ _ h => h) (Or.inl ⟨by rfl, ?_⟩) (by assumption) ?_
    rotate_left
    · ((intro w hSw; (try dsimp only at hSw); go_simp); (try with_reducible rfl))
    try simp only [Act.put, List.setIfInBounds_toArray, List.set_cons_zero, List.set_cons_succ]
    refine wpAnyH_take (i := 12) (oi := ⟨_, _, _, _, _, _⟩) (v := ?_) rfl (by kernel_rfl) (by kernel_rfl) (by kernel_rfl) (fun _ _ _ h => h) (Or.inl ⟨by rfl, ?_⟩) (by assumption) ?_
    rotate_left
    · ((intro w hSw; (try dsimp only at hSw); go_simp); (try with_reducible rfl))
    try simp only [Act.put, List.setIfInBounds_toArray, List.set_cons_zero, List.set_cons_succ]
    refine wpAnyH_ready (rs := [11]) (by kernel_rfl) (by simp) ?_
    refine AllReadyH.cons (o := ⟨_, _, _, _, _, _⟩) rfl (fun K hK => ?_) AllReadyH.nil
    refine (if_pos (show Region.wanted _ _ = true by kernel_rfl)).mpr ?_
    refine call_by 18 [.tmp 50] #[26] rfl run_iOkP _ rfl (COI.out _ R1.out) ?_
    rintro e u2 ⟨rfl, bb⟩
    replace SB : Hid (Below w1.heap.size w1 u2) := Below.and SB.out bb
    replace R1 : Hid (Row u2 (.slice ax n qx) n (flatE l)) := Row.below R1.out bb
    replace R3 : Hid (Row u2 (.slice a3 n3 q3) n3 (flatE l3)) := Row.below R3.out bb
    replace N1 : Hid (MBox 26 u2 X1 #[.int .i64 b, .int .i64 bt, .slice ax n qx]) := N1.out.step bb
    replace RM : Hid (Row u2 (.slice am mn qm) mn (flatE M)) := Row.below RM.out bb
    replace NM : Hid (MBox 26 u2 XM #[.int .i64 mb, .int .i64 mt, .slice am mn qm]) := NM.out.step bb
    replace RS : Hid (Row u2 (.slice as_ mn qs) mn (flatE M)) := Row.below RS.out bb
    replace NS : Hid (MBox 26 u2 XS #[.int .i64 mb, .int .i64 mt, .slice as_ mn qs]) := NS.out.step bb
    clear bb
    refine ⟨_, rfl, ?_⟩
    refine hK.out _ _ (⟨N1.out.cells 0, N1.out.cells 1, N1.out.cells 2, NM.out.cells 0, NM.out.cells 1, NM.out.cells 2, NS.out.cells 0, NS.out.cells 1, NS.out.cells 2⟩) (fun hH2 => ?_)
    clear hK K hH
    have hH := hH2
    clear hH2
    try simp only [Act.put, List.setIfInBounds_toArray, List.set_cons_zero, List.set_cons_succ]
    refine wpAnyH_ready (rs := [13]) (by kernel_rfl) (by simp) ?_
    refine AllReadyH.cons (o := ⟨_, _, _, _, _, _⟩) rfl (fun K hK => ?_) AllReadyH.nil
    refine (if_pos (show Region.wanted _ _ = true by kernel_rfl)).mpr ?_
    refine call_by 19 [.tmp 52] #[26] rfl run_sOkP _ rfl (COS.out _ R1.out) ?_
    rintro e u3 ⟨rfl, bb⟩
    replace SB : Hid (Below w1.heap.size w1 u3) := Below.and SB.out bb
    replace R1 : Hid (Row u3 (.slice ax n qx) n (flatE l)) := Row.below R1.out bb
    replace R3 : Hid (Row u3 (.slice a3 n3 q3) n3 (flatE l3)) := Row.below R3.out bb
    replace N1 : Hid (MBox 26 u3 X1 #[.int .i64 b, .int .i64 bt, .slice ax n qx]) := N1.out.step bb
    replace RM : Hid (Row u3 (.slice am mn qm) mn (flatE M)) := Row.below RM.out bb
    replace NM : Hid (MBox 26 u3 XM #[.int .i64 mb, .int .i64 mt, .slice am mn qm]) := NM.out.step bb
    replace RS : Hid (Row u3 (.slice as_ mn qs) mn (flatE M)) := Row.below RS.out bb
    replace NS : Hid (MBox 26 u3 XS #[.int .i64 mb, .int .i64 mt, .slice as_ mn qs]) := NS.out.step bb
    clear bb
    refine ⟨_, rfl, ?_⟩
    refine hK.out _ _ (⟨N1.out.cells 0, N1.out.cells 1, N1.out.cells 2, NM.out.cells 0, NM.out.cells 1, NM.out.cells 2, NS.out.cells 0, NS.out.cells 1, NS.out.cells 2⟩) (fun hH2 => ?_)
    clear hK K hH
    have hH := hH2
    clear hH2
    try simp only [Act.put, List.setIfInBounds_toArray, List.set_cons_zero, List.set_cons_succ]
    refine wpAnyH_take (i := 14) (oi := ⟨_, _, _, _, _, _⟩) (v := ?_) rfl (by kernel_rfl) (by kernel_rfl) (by kernel_rfl) (fun _ _ _ h => h) (Or.inl ⟨by rfl, ?_⟩) (by assumption) ?_
    rotate_left
    · ((intro w hSw; (try dsimp only at hSw); go_simp); (try with_reducible rfl))
    try simp only [Act.put, List.setIfInBounds_toArray, List.set_cons_zero, List.set_cons_succ]
    refine wpAnyH_take (i := 15) (oi := ⟨_, _, _, _, _, _⟩) (v := ?_) rfl (by kernel_rfl) (by kernel_rfl) (by kernel_rfl) (fun _ _ _ h => h) (Or.inl ⟨by rfl, ?_⟩) (by assumption) ?_
    rotate_left
    · ((intro w hSw; (try dsimp only at hSw); go_simp); (try with_reducible rfl))
    try simp only [Act.put, List.setIfInBounds_toArray, List.set_cons_zero, List.set_cons_succ]
    refine wpAnyH_done (by kernel_rfl) ?_ _
    clear hH COI COS CPS hkk hoo
    have cN1 := N1.out.cells
    have cNM := NM.out.cells
    have cNS := NS.out.cells
    cases mk with
    | false =>
      have HF : Hid _ := FN.out rfl
      clear FY FN
      go_wp2_with fail
      refine (CSL.out _ _ R1.out RM.out).mono ?_
      rintro e u4 ⟨rfl, bb⟩
      clear cN1 cNM cNS
      replace SB : Hid (Below w1.heap.size w1 u4) := Below.and SB.out bb
      replace R1 : Hid (Row u4 (.slice ax n qx) n (flatE l)) := Row.below R1.out bb
      replace R3 : Hid (Row u4 (.slice a3 n3 q3) n3 (flatE l3)) := Row.below R3.out bb
      replace N1 : Hid (MBox 26 u4 X1 #[.int .i64 b, .int .i64 bt, .slice ax n qx]) := N1.out.step bb
      replace RM : Hid (Row u4 (.slice am mn qm) mn (flatE M)) := Row.below RM.out bb
      replace NM : Hid (MBox 26 u4 XM #[.int .i64 mb, .int .i64 mt, .slice am mn qm]) := NM.out.step bb
      replace RS : Hid (Row u4 (.slice as_ mn qs) mn (flatE M)) := Row.below RS.out bb
      replace NS : Hid (MBox 26 u4 XS #[.int .i64 mb, .int .i64 mt, .slice as_ mn qs]) := NS.out.step bb
      clear bb
      have cN1 := N1.out.cells
      have cNM := NM.out.cells
      have cNS := NS.out.cells
      cases hq : decide (b = mb ∧ bt = mt ∧ l = M) with
      | true =>
        clear hq
        go_wp2
        go_ret
        exact ⟨rfl, SB.out⟩
      | false =>
        have hz : mn = 0 := by
          rcases HF.out with h | h
          · simp at hq; exact absurd h.2.2 (hq h.1 h.2.1)
          · first | exact h | (rw [← HML.out]; exact h)
        have hz2 : ((mn : Int) == 0) = true := by rw [hz]; rfl
        clear hz hq HF
        go_wp2
        go_ret
        exact ⟨rfl, SB.out⟩
    | true =>
      have HF : Hid _ := FY.out rfl
      clear FY FN CSL
      obtain ⟨hp0, hp1, hp2, hp3, hpM, hpB, hpT, hpO, hpX, hpt1, hpt2, hpL2, hpB2, hpT2, hpK2⟩ := HF.out
      rw [← hpM] at hpX hpt1 hpt2 hpL2 hpB2 hpT2 hpK2
      subst hpB hpT
      rw [HL3.out] at hp2 hpt1
      rw [HL.out] at hp3
      have PT1 : Hid _ := hpt1
      have PT2 : Hid _ := hpt2
      have CTM : Hid (∀ (u : World) (x : Int), I64 x → Row u (.slice am mn qm) mn (flatE M) → Calls Try.prog 20 #[lgV mb mt (.slice am mn qm), .int .i64 x] u fun e w' => e = .returned (.int .i64 (termB mb mt M x)) ∧ Below u.heap.size u w') := fun u x hx h1 => implTermAt_any mb mt _ M x u (by rw [HML.out]; exact h1) ⟨by omega, by omega⟩ hx
      have COM : Hid (∀ u, Row u (.slice am mn qm) mn (flatE M) → Calls Try.prog 18 #[lgV mb mt (.slice am mn qm)] u fun e w' => e = .returned (.bool true) ∧ Below u.heap.size u w') := fun u h1 => by have := implLogOk_any mb mt (.slice am mn qm) M u (by rw [HML.out]; exact h1) (by rw [HML.out]; omega); rw [hpX] at this; exact this
      have CPA : Hid (∀ u, Row u (.slice am mn qm) mn (flatE M) → Row u (.slice a3 n3 q3) n3 (flatE l3) → Calls Try.prog 15 #[lgV mb mt (.slice am mn qm), .int .i64 pr, .int .i64 pt, .slice a3 n3 q3] u fun e w' => ∃ v', e = .returned (.tuple #[lgV mb mt v', .bool true]) ∧ w'.ownsRow u.heap.size 39 6 v' mn (flatE M) ∧ Below u.heap.size u w') := fun u h1 h3 => by have := implLogPut_any mb mt (.slice am mn qm) M pr pt _ l3 u (by rw [HML.out]; exact h1) (by rw [HL3.out]; exact h3) ⟨by omega, by omega⟩ HI.out.2 (by rw [HML.out, HL3.out]; omega); rw [hpL2, hpB2, hpT2, hpK2, HML.out] at this; exact this
      clear hpt1 hpt2 hpL2 hpB2 hpT2 hpK2 hpX hpO hpM CPI HF HMM hpl
      go_wp2_with fail
      clear cN1 cNM cNS
      go_loopw [11] (fun c wr => ∃ j : Nat, j ≤ n3 ∧ c = .int .i64 j ∧ Hid (Below w1.heap.size w1 wr) ∧ Hid (Row wr (.slice ax n qx) n (flatE l)) ∧ Hid (Row wr (.slice a3 n3 q3) n3 (flatE l3)) ∧ Hid (MBox 26 wr X1 #[.int .i64 mb, .int .i64 mt, .slice ax n qx]) ∧ Hid (Row wr (.slice am mn qm) mn (flatE M)) ∧ Hid (MBox 26 wr XM #[.int .i64 mb, .int .i64 mt, .slice am mn qm]) ∧ Hid (Row wr (.slice as_ mn qs) mn (flatE M)) ∧ Hid (MBox 26 wr XS #[.int .i64 mb, .int .i64 mt, .slice as_ mn qs])) (fun c _ => n3 - (intOf c).toNat)
      case atStart => exact ⟨0, Nat.zero_le _, rfl, SB.out, R1.out, R3.out, N1.out, RM.out, NM.out, RS.out, NS.out⟩
      case round =>
        clear SB R1 R3 N1 RM NM RS NS
        obtain ⟨j, hjn, rfl, SB, R1, R3, N1, RM, NM, RS, NS⟩ := hrel
        by_cases hlt : j < n3
        · have R3x : Row wr (.slice a3 n3 q3) l3.length (flatE l3) := by rw [HL3.out]; exact R3.out
          obtain ⟨a3x, b3x, o3x, c3x, hv3x, hc3x, hm3x, ha3x, hy0, -⟩ := R3x.ents
          have hal := ha3x (by rw [HL3.out]; omega)
          have hy := hy0 j (by rw [HL3.out]; exact hlt)
          simp at hv3x
          obtain ⟨rfl, _, rfl⟩ := hv3x
          subst hal
          rw [HL3.out] at hc3x
          unfold maxLen at hm3x
          clear R3x ha3x hy0
          have hte : termB mb mt M (pr + 1 + j) = eT l3 j := PT1.out j hlt
          have hwa : IntKind.i64.wrap (pr + 1) = pr + 1 := by rw [IntKind.wrap_i64]; omega
          have hwb : IntKind.i64.wrap (pr + 1 + (j : Int)) = pr + 1 + (j : Int) := by rw [IntKind.wrap_i64]; omega
          have CTj : Hid (∀ (u : World), Row u (.slice am mn qm) mn (flatE M) → Calls Try.prog 20 #[lgV mb mt (.slice am mn qm), .int .i64 (pr + 1 + (j : Int))] u fun e w' => e = .returned (.int .i64 (eT l3 j)) ∧ Below u.heap.size u w') := fun u h1 => by have := CTM.out u (pr + 1 + j) ⟨by omega, by omega⟩ h1; rw [hte] at this; exact this
          clear hte
          generalize eT l3 j = tj at *
          go_wp2_with fail
          have HY : Hid (wr.cell? ⟨b3x, o3x + j * 6, none⟩ = some (.int .i64 tj)) := hy
          have RL : Hid (Below wr.heap.size wr wr) := Below.refl _ _
          have bd : Below wr.heap.size wr wr.drew := (Below.refl _ _).drew
          replace SB : Hid (Below w1.heap.size w1 wr.drew) := Below.and SB.out bd
          replace R1 : Hid (Row wr.drew (.slice ax n qx) n (flatE l)) := Row.below R1.out bd
          replace R3 : Hid (Row wr.drew (.slice (some ⟨b3x, o3x, none⟩) n3 q3) n3 (flatE l3)) := Row.below R3.out bd
          replace N1 : Hid (MBox 26 wr.drew X1 #[.int .i64 mb, .int .i64 mt, .slice ax n qx]) := N1.out.step bd
          replace RM : Hid (Row wr.drew (.slice am mn qm) mn (flatE M)) := Row.below RM.out bd
          replace NM : Hid (MBox 26 wr.drew XM #[.int .i64 mb, .int .i64 mt, .slice am mn qm]) := NM.out.step bd
          replace RS : Hid (Row wr.drew (.slice as_ mn qs) mn (flatE M)) := Row.below RS.out bd
          replace NS : Hid (MBox 26 wr.drew XS #[.int .i64 mb, .int .i64 mt, .slice as_ mn qs]) := NS.out.step bd
          replace RL : Hid (Below wr.heap.size wr wr.drew) := Below.and RL.out bd
          clear bd
          refine wp_region_held_drew (S := (fun u => u.cell? ⟨XM, 0, none⟩ = some (.int .i64 mb) ∧ u.cell? ⟨XM, 1, none⟩ = some (.int .i64 mt) ∧ u.cell? ⟨XM, 2, none⟩ = some (.slice am mn qm) ∧ u.cell? ⟨b3x, o3x + j * 6, none⟩ = some (.int .i64 tj))) (by kernel_rfl) (⟨NM.out.cells 0, NM.out.cells 1, NM.out.cells 2, (RL.out.cell (by exact cell_lt HY.out)).trans HY.out⟩) (fun hH => ?_)
          refine wpAnyH_take (i := 0) (oi := ⟨_, _, _, _, _, _⟩) (v := ?_) rfl (by kernel_rfl) (by kernel_rfl) (by kernel_rfl) (fun _ _ _ h => h) (Or.inl ⟨by rfl, ?_⟩) (by assumption) ?_
          rotate_left
          · ((intro w hSw; (try dsimp only at hSw); go_simp); (try with_reducible rfl))
          try simp only [Act.put, List.setIfInBounds_toArray, List.set_cons_zero, List.set_cons_succ]
          refine wpAnyH_take (i := 1) (oi := ⟨_, _, _, _, _, _⟩) (v := ?_) rfl (by kernel_rfl) (by kernel_rfl) (by kernel_rfl) (fun _ _ _ h => h) (Or.inl ⟨by rfl, ?_⟩) (by assumption) ?_
          rotate_left
          · ((intro w hSw; (try dsimp only at hSw); go_simp); (try with_reducible rfl))
          try simp only [Act.put, List.setIfInBounds_toArray, List.set_cons_zero, List.set_cons_succ]
          refine wpAnyH_take (i := 2) (oi := ⟨_, _, _, _, _, _⟩) (v := ?_) rfl (by kernel_rfl) (by kernel_rfl) (by kernel_rfl) (fun _ _ _ h => h) (Or.inl ⟨by rfl, ?_⟩) (by assumption) ?_
          rotate_left
          · ((intro w hSw; (try dsimp only at hSw); go_simp); (try with_reducible rfl))
          try simp only [Act.put, List.setIfInBounds_toArray, List.set_cons_zero, List.set_cons_succ]
          refine wpAnyH_take (i := 3) (oi := ⟨_, _, _, _, _, _⟩) (v := ?_) rfl (by kernel_rfl) (by kernel_rfl) (by kernel_rfl) (fun _ _ _ h => h) (Or.inl ⟨by rfl, ?_⟩) (by assumption) ?_
          rotate_left
          · ((intro w hSw; (try dsimp only at hSw); go_simp); (try with_reducible rfl))
          try simp only [Act.put, List.setIfInBounds_toArray, List.set_cons_zero, List.set_cons_succ]
          refine wpAnyH_take (i := 4) (oi := ⟨_, _, _, _, _, _⟩) (v := ?_) rfl (by kernel_rfl) (by kernel_rfl) (by kernel_rfl) (fun _ _ _ h => h) (Or.inl ⟨by rfl, ?_⟩) (by assumption) ?_
          rotate_left
          · ((intro w hSw; (try dsimp only at hSw); go_simp); (try with_reducible rfl))
          try simp only [Act.put, List.setIfInBounds_toArray, List.set_cons_zero, List.set_cons_succ]
          refine wpAnyH_take (i := 6) (oi := ⟨_, _, _, _, _, _⟩) (v := ?_) rfl (by kernel_rfl) (by kernel_rfl) (by kernel_rfl) (fun _ _ _ h => h) (Or.inl ⟨by rfl, ?_⟩) (by assumption) ?_
          rotate_left
          · ((intro w hSw; (try dsimp only at hSw); go_simp); (try with_reducible rfl))
          try simp only [Act.put, List.setIfInBounds_toArray, List.set_cons_zero, List.set_cons_succ]
          refine wpAnyH_take (i := 7) (oi := ⟨_, _, _, _, _, _⟩) (v := ?_) rfl (by kernel_rfl) (by kernel_rfl) (by kernel_rfl) (fun _ _ _ h => h) (Or.inl ⟨by rfl, ?_⟩) (by assumption) ?_
          rotate_left
          · ((intro w hSw; (try dsimp only at hSw); go_simp); (try with_reducible rfl))
          try simp only [Act.put, List.setIfInBounds_toArray, List.set_cons_zero, List.set_cons_succ]
          refine wpAnyH_take (i := 8) (oi := ⟨_, _, _, _, _, _⟩) (v := ?_) rfl (by kernel_rfl) (by kernel_rfl) (by kernel_rfl) (fun _ _ _ h => h) (Or.inl ⟨by rfl, ?_⟩) (by assumption) ?_
          rotate_left
          · ((intro w hSw; (try dsimp only at hSw); go_simp); (try with_reducible rfl))
          try simp only [Act.put, List.setIfInBounds_toArray, List.set_cons_zero, List.set_cons_succ]
          refine wpAnyH_take (i := 9) (oi := ⟨_, _, _, _, _, _⟩) (v := ?_) rfl (by kernel_rfl) (by kernel_rfl) (by kernel_rfl) (fun _ _ _ h => h) (Or.inl ⟨by rfl, ?_⟩) (by assumption) ?_
          rotate_left
          · ((intro w hSw; (try dsimp only at hSw); go_simp); (try with_reducible rfl))
          try simp only [Act.put, List.setIfInBounds_toArray, List.set_cons_zero, List.set_cons_succ]
          refine wpAnyH_take (i := 10) (oi := ⟨_, _, _, _, _, _⟩) (v := ?_) rfl (by kernel_rfl) (by kernel_rfl) (by kernel_rfl) (fun _ _ _ h => h) (Or.inl ⟨by rfl, ?_⟩) (by assumption) ?_
          rotate_left
          · ((intro w hSw; (try dsimp only at hSw); go_simp); (try with_reducible rfl))
          try simp only [Act.put, List.setIfInBounds_toArray, List.set_cons_zero, List.set_cons_succ]
          refine wpAnyH_ready (rs := [5]) (by kernel_rfl) (by simp) ?_
          refine AllReadyH.cons (o := ⟨_, _, _, _, _, _⟩) rfl (fun K hK => ?_) AllReadyH.nil
          refine (if_pos (show Region.wanted _ _ = true by kernel_rfl)).mpr ?_
          refine call_by 20 [.tmp 73, .tmp 77] #[26, 3] rfl run_iTermP _ rfl (CTj.out _ RM.out) ?_
          rintro e z1 ⟨rfl, bb⟩
          replace SB : Hid (Below w1.heap.size w1 z1) := Below.and SB.out bb
          replace R1 : Hid (Row z1 (.slice ax n qx) n (flatE l)) := Row.below R1.out bb
          replace R3 : Hid (Row z1 (.slice (some ⟨b3x, o3x, none⟩) n3 q3) n3 (flatE l3)) := Row.below R3.out bb
          replace N1 : Hid (MBox 26 z1 X1 #[.int .i64 mb, .int .i64 mt, .slice ax n qx]) := N1.out.step bb
          replace RM : Hid (Row z1 (.slice am mn qm) mn (flatE M)) := Row.below RM.out bb
          replace NM : Hid (MBox 26 z1 XM #[.int .i64 mb, .int .i64 mt, .slice am mn qm]) := NM.out.step bb
          replace RS : Hid (Row z1 (.slice as_ mn qs) mn (flatE M)) := Row.below RS.out bb
          replace NS : Hid (MBox 26 z1 XS #[.int .i64 mb, .int .i64 mt, .slice as_ mn qs]) := NS.out.step bb
          replace RL : Hid (Below wr.heap.size wr z1) := Below.and RL.out bb
          clear bb
          refine ⟨_, rfl, ?_⟩
          refine hK.out _ _ (⟨NM.out.cells 0, NM.out.cells 1, NM.out.cells 2, (RL.out.cell (by exact cell_lt HY.out)).trans HY.out⟩) (fun hH2 => ?_)
          clear hK K hH
          have hH := hH2
          clear hH2
          try simp only [Act.put, List.setIfInBounds_toArray, List.set_cons_zero, List.set_cons_succ]
          refine wpAnyH_take (i := 11) (oi := ⟨_, _, _, _, _, _⟩) (v := ?_) rfl (by kernel_rfl) (by kernel_rfl) (by kernel_rfl) (fun _ _ _ h => h) (Or.inl ⟨by rfl, ?_⟩) (by assumption) ?_
          rotate_left
          · ((intro w hSw; (try dsimp only at hSw); go_simp); (try with_reducible rfl))
          try simp only [Act.put, List.setIfInBounds_toArray, List.set_cons_zero, List.set_cons_succ]
          refine wpAnyH_done (by kernel_rfl) ?_ _
          clear hH HY RL CTj hwa hwb hy
          go_wp2
          go_roundw
          case rel => exact ⟨j + 1, by omega, by go_num, SB.out, R1.out, R3.out, N1.out, RM.out, NM.out, RS.out, NS.out⟩
          case measure => simp [intOf]; omega
        · have cN1 := N1.out.cells
          have cNM := NM.out.cells
          have cNS := NS.out.cells
          obtain ⟨kq, hkq⟩ : ∃ kq : Nat, pr - mb = kq := ⟨(pr - mb).toNat, by omega⟩
          have HKQ : Hid _ := hkq
          have hkq2 : pr = mb + (kq : Int) := by omega
          have HKQ2 : Hid _ := hkq2
          have hkq3 : mb + (kq : Int) ≤ 100000 := by omega
          clear hkq hkq2
          go_wp2_with fail
          clear cN1 cNM cNS
          go_loopw [12] (fun c wq => ∃ q : Nat, q ≤ kq + 1 ∧ c = .int .i64 (mb + q) ∧ Hid (Below w1.heap.size w1 wq) ∧ Hid (Row wq (.slice ax n qx) n (flatE l)) ∧ Hid (Row wq (.slice a3 n3 q3) n3 (flatE l3)) ∧ Hid (MBox 26 wq X1 #[.int .i64 mb, .int .i64 mt, .slice ax n qx]) ∧ Hid (Row wq (.slice am mn qm) mn (flatE M)) ∧ Hid (MBox 26 wq XM #[.int .i64 mb, .int .i64 mt, .slice am mn qm]) ∧ Hid (Row wq (.slice as_ mn qs) mn (flatE M)) ∧ Hid (MBox 26 wq XS #[.int .i64 mb, .int .i64 mt, .slice as_ mn qs])) (fun c _ => kq + 1 - (intOf c - mb).toNat)
          case atStart => exact ⟨0, by omega, by simp, SB.out, R1.out, R3.out, N1.out, RM.out, NM.out, RS.out, NS.out⟩
          case round =>
            clear SB R1 R3 N1 RM NM RS NS
            obtain ⟨q, hqk, rfl, SB, R1, R3, N1, RM, NM, RS, NS⟩ := hrel
            by_cases hle : q ≤ kq
            · have hle2 : mb + (q : Int) ≤ pr := by have := HKQ2.out; omega
              have hte := PT2.out q hle2
              have CTa : Hid (∀ (u : World), Row u (.slice am mn qm) mn (flatE M) → Calls Try.prog 20 #[lgV mb mt (.slice am mn qm), .int .i64 (mb + (q : Int))] u fun e w' => e = .returned (.int .i64 (termB mb mt l (mb + q))) ∧ Below u.heap.size u w') := fun u h1 => by have := CTM.out u (mb + q) ⟨by omega, by omega⟩ h1; rw [hte] at this; exact this
              have CTb : Hid (∀ (u : World), Row u (.slice ax n qx) n (flatE l) → Calls Try.prog 20 #[lgV mb mt (.slice ax n qx), .int .i64 (mb + (q : Int))] u fun e w' => e = .returned (.int .i64 (termB mb mt l (mb + q))) ∧ Below u.heap.size u w') := fun u h1 => CTL.out u (mb + q) ⟨by omega, by omega⟩ h1
              clear hte
              generalize termB mb mt l (mb + q) = tq at *
              go_wp2_with fail
              have bd : Below wr.heap.size wr wr.drew := (Below.refl _ _).drew
              replace SB : Hid (Below w1.heap.size w1 wr.drew) := Below.and SB.out bd
              replace R1 : Hid (Row wr.drew (.slice ax n qx) n (flatE l)) := Row.below R1.out bd
              replace R3 : Hid (Row wr.drew (.slice a3 n3 q3) n3 (flatE l3)) := Row.below R3.out bd
              replace N1 : Hid (MBox 26 wr.drew X1 #[.int .i64 mb, .int .i64 mt, .slice ax n qx]) := N1.out.step bd
              replace RM : Hid (Row wr.drew (.slice am mn qm) mn (flatE M)) := Row.below RM.out bd
              replace NM : Hid (MBox 26 wr.drew XM #[.int .i64 mb, .int .i64 mt, .slice am mn qm]) := NM.out.step bd
              replace RS : Hid (Row wr.drew (.slice as_ mn qs) mn (flatE M)) := Row.below RS.out bd
              replace NS : Hid (MBox 26 wr.drew XS #[.int .i64 mb, .int .i64 mt, .slice as_ mn qs]) := NS.out.step bd
              clear bd
              refine wp_region_held_drew (S := (fun u => u.cell? ⟨XM, 0, none⟩ = some (.int .i64 mb) ∧ u.cell? ⟨XM, 1, none⟩ = some (.int .i64 mt) ∧ u.cell? ⟨XM, 2, none⟩ = some (.slice am mn qm) ∧ u.cell? ⟨X1, 0, none⟩ = some (.int .i64 mb) ∧ u.cell? ⟨X1, 1, none⟩ = some (.int .i64 mt) ∧ u.cell? ⟨X1, 2, none⟩ = some (.slice ax n qx))) (by kernel_rfl) (⟨NM.out.cells 0, NM.out.cells 1, NM.out.cells 2, N1.out.cells 0, N1.out.cells 1, N1.out.cells 2⟩) (fun hH => ?_)
              refine wpAnyH_take (i := 0) (oi := ⟨_, _, _, _, _, _⟩) (v := ?_) rfl (by kernel_rfl) (by kernel_rfl) (by kernel_rfl) (fun _ _ _ h => h) (Or.inl ⟨by rfl, ?_⟩) (by assumption) ?_
              rotate_left
              · ((intro w hSw; (try dsimp only at hSw); go_simp); (try with_reducible rfl))
              try simp only [Act.put, List.setIfInBounds_toArray, List.set_cons_zero, List.set_cons_succ]
              refine wpAnyH_take (i := 1) (oi := ⟨_, _, _, _, _, _⟩) (v := ?_) rfl (by kernel_rfl) (by kernel_rfl) (by kernel_rfl) (fun _ _ _ h => h) (Or.inl ⟨by rfl, ?_⟩) (by assumption) ?_
              rotate_left
              · ((intro w hSw; (try dsimp only at hSw); go_simp); (try with_reducible rfl))
              try simp only [Act.put, List.setIfInBounds_toArray, List.set_cons_zero, List.set_cons_succ]
              refine wpAnyH_take (i := 3) (oi := ⟨_, _, _, _, _, _⟩) (v := ?_) rfl (by kernel_rfl) (by kernel_rfl) (by kernel_rfl) (fun _ _ _ h => h) (Or.inl ⟨by rfl, ?_⟩) (by assumption) ?_
              rotate_left
              · ((intro w hSw; (try dsimp only at hSw); go_simp); (try with_reducible rfl))
              try simp only [Act.put, List.setIfInBounds_toArray, List.set_cons_zero, List.set_cons_succ]
              refine wpAnyH_take (i := 4) (oi := ⟨_, _, _, _, _, _⟩) (v := ?_) rfl (by kernel_rfl) (by kernel_rfl) (by kernel_rfl) (fun _ _ _ h => h) (Or.inl ⟨by rfl, ?_⟩) (by assumption) ?_
              rotate_left
              · ((intro w hSw; (try dsimp only at hSw); go_simp); (try with_reducible rfl))
              try simp only [Act.put, List.setIfInBounds_toArray, List.set_cons_zero, List.set_cons_succ]
              refine wpAnyH_ready (rs := [2]) (by kernel_rfl) (by simp) ?_
              refine AllReadyH.cons (o := ⟨_, _, _, _, _, _⟩) rfl (fun K hK => ?_) AllReadyH.nil
              refine (if_pos (show Region.wanted _ _ = true by kernel_rfl)).mpr ?_
              refine call_by 20 [.tmp 92, .tmp 93] #[26, 3] rfl run_iTermP _ rfl (CTa.out _ RM.out) ?_
              rintro e z2 ⟨rfl, bb⟩
              replace SB : Hid (Below w1.heap.size w1 z2) := Below.and SB.out bb
              replace R1 : Hid (Row z2 (.slice ax n qx) n (flatE l)) := Row.below R1.out bb
              replace R3 : Hid (Row z2 (.slice a3 n3 q3) n3 (flatE l3)) := Row.below R3.out bb
              replace N1 : Hid (MBox 26 z2 X1 #[.int .i64 mb, .int .i64 mt, .slice ax n qx]) := N1.out.step bb
              replace RM : Hid (Row z2 (.slice am mn qm) mn (flatE M)) := Row.below RM.out bb
              replace NM : Hid (MBox 26 z2 XM #[.int .i64 mb, .int .i64 mt, .slice am mn qm]) := NM.out.step bb
              replace RS : Hid (Row z2 (.slice as_ mn qs) mn (flatE M)) := Row.below RS.out bb
              replace NS : Hid (MBox 26 z2 XS #[.int .i64 mb, .int .i64 mt, .slice as_ mn qs]) := NS.out.step bb
              clear bb
              refine ⟨_, rfl, ?_⟩
              refine hK.out _ _ (⟨NM.out.cells 0, NM.out.cells 1, NM.out.cells 2, N1.out.cells 0, N1.out.cells 1, N1.out.cells 2⟩) (fun hH2 => ?_)
              clear hK K hH
              have hH := hH2
              clear hH2
              try simp only [Act.put, List.setIfInBounds_toArray, List.set_cons_zero, List.set_cons_succ]
              refine wpAnyH_ready (rs := [5]) (by kernel_rfl) (by simp) ?_
              refine AllReadyH.cons (o := ⟨_, _, _, _, _, _⟩) rfl (fun K hK => ?_) AllReadyH.nil
              refine (if_pos (show Region.wanted _ _ = true by kernel_rfl)).mpr ?_
              refine call_by 20 [.tmp 95, .tmp 96] #[26, 3] rfl run_iTermP _ rfl (CTb.out _ R1.out) ?_
              rintro e z3 ⟨rfl, bb⟩
              replace SB : Hid (Below w1.heap.size w1 z3) := Below.and SB.out bb
              replace R1 : Hid (Row z3 (.slice ax n qx) n (flatE l)) := Row.below R1.out bb
              replace R3 : Hid (Row z3 (.slice a3 n3 q3) n3 (flatE l3)) := Row.below R3.out bb
              replace N1 : Hid (MBox 26 z3 X1 #[.int .i64 mb, .int .i64 mt, .slice ax n qx]) := N1.out.step bb
              replace RM : Hid (Row z3 (.slice am mn qm) mn (flatE M)) := Row.below RM.out bb
              replace NM : Hid (MBox 26 z3 XM #[.int .i64 mb, .int .i64 mt, .slice am mn qm]) := NM.out.step bb
              replace RS : Hid (Row z3 (.slice as_ mn qs) mn (flatE M)) := Row.below RS.out bb
              replace NS : Hid (MBox 26 z3 XS #[.int .i64 mb, .int .i64 mt, .slice as_ mn qs]) := NS.out.step bb
              clear bb
              refine ⟨_, rfl, ?_⟩
              refine hK.out _ _ (⟨NM.out.cells 0, NM.out.cells 1, NM.out.cells 2, N1.out.cells 0, N1.out.cells 1, N1.out.cells 2⟩) (fun hH2 => ?_)
              clear hK K hH
              have hH := hH2
              clear hH2
              try simp only [Act.put, List.setIfInBounds_toArray, List.set_cons_zero, List.set_cons_succ]
              refine wpAnyH_take (i := 6) (oi := ⟨_, _, _, _, _, _⟩) (v := ?_) rfl (by kernel_rfl) (by kernel_rfl) (by kernel_rfl) (fun _ _ _ h => h) (Or.inl ⟨by rfl, ?_⟩) (by assumption) ?_
              rotate_left
              · ((intro w hSw; (try dsimp only at hSw); go_simp); (try with_reducible rfl))
              try simp only [Act.put, List.setIfInBounds_toArray, List.set_cons_zero, List.set_cons_succ]
              refine wpAnyH_done (by kernel_rfl) ?_ _
              clear hH CTa CTb
              go_wp2
              go_roundw
              case rel => exact ⟨q + 1, by omega, by go_num, SB.out, R1.out, R3.out, N1.out, RM.out, NM.out, RS.out, NS.out⟩
              case measure => simp [intOf]; omega
            · have hgt : ¬ mb + (q : Int) ≤ pr := by have := HKQ2.out; omega
              have cN1 := N1.out.cells
              have cNM := NM.out.cells
              have cNS := NS.out.cells
              go_wp2_with fail
              clear cN1 cNM cNS
              refine (CPA.out _ RM.out R3.out).mono ?_
              rintro e f1 ⟨va, rfl, oa, bb⟩
              obtain ⟨aa, qa, hva⟩ := owns_val oa
              subst hva
              replace SB : Hid (Below w1.heap.size w1 f1) := Below.and SB.out bb
              replace R1 : Hid (Row f1 (.slice ax n qx) n (flatE l)) := Row.below R1.out bb
              replace R3 : Hid (Row f1 (.slice a3 n3 q3) n3 (flatE l3)) := Row.below R3.out bb
              replace N1 : Hid (MBox 26 f1 X1 #[.int .i64 mb, .int .i64 mt, .slice ax n qx]) := N1.out.step bb
              replace RM : Hid (Row f1 (.slice am mn qm) mn (flatE M)) := Row.below RM.out bb
              replace NM : Hid (MBox 26 f1 XM #[.int .i64 mb, .int .i64 mt, .slice am mn qm]) := NM.out.step bb
              replace RS : Hid (Row f1 (.slice as_ mn qs) mn (flatE M)) := Row.below RS.out bb
              replace NS : Hid (MBox 26 f1 XS #[.int .i64 mb, .int .i64 mt, .slice as_ mn qs]) := NS.out.step bb
              have RA : Hid (Row f1 (.slice aa mn qa) mn (flatE M)) := Row.of_owns oa
              clear bb oa
              have bn := bel_nw f1 (.cells #[.int .i64 mb, .int .i64 mt, .slice aa mn qa] 26)
              replace SB : Hid (Below w1.heap.size w1 (f1.alloc (.cells #[.int .i64 mb, .int .i64 mt, .slice aa mn qa] 26))) := Below.and SB.out bn
              replace R1 : Hid (Row (f1.alloc (.cells #[.int .i64 mb, .int .i64 mt, .slice aa mn qa] 26)) (.slice ax n qx) n (flatE l)) := Row.below R1.out bn
              replace R3 : Hid (Row (f1.alloc (.cells #[.int .i64 mb, .int .i64 mt, .slice aa mn qa] 26)) (.slice a3 n3 q3) n3 (flatE l3)) := Row.below R3.out bn
              replace N1 : Hid (MBox 26 (f1.alloc (.cells #[.int .i64 mb, .int .i64 mt, .slice aa mn qa] 26)) X1 #[.int .i64 mb, .int .i64 mt, .slice ax n qx]) := N1.out.step bn
              replace RM : Hid (Row (f1.alloc (.cells #[.int .i64 mb, .int .i64 mt, .slice aa mn qa] 26)) (.slice am mn qm) mn (flatE M)) := Row.below RM.out bn
              replace NM : Hid (MBox 26 (f1.alloc (.cells #[.int .i64 mb, .int .i64 mt, .slice aa mn qa] 26)) XM #[.int .i64 mb, .int .i64 mt, .slice am mn qm]) := NM.out.step bn
              replace RS : Hid (Row (f1.alloc (.cells #[.int .i64 mb, .int .i64 mt, .slice aa mn qa] 26)) (.slice as_ mn qs) mn (flatE M)) := Row.below RS.out bn
              replace NS : Hid (MBox 26 (f1.alloc (.cells #[.int .i64 mb, .int .i64 mt, .slice aa mn qa] 26)) XS #[.int .i64 mb, .int .i64 mt, .slice as_ mn qs]) := NS.out.step bn
              replace RA : Hid (Row (f1.alloc (.cells #[.int .i64 mb, .int .i64 mt, .slice aa mn qa] 26)) (.slice aa mn qa) mn (flatE M)) := Row.below RA.out bn
              have NA : Hid (MBox 26 (f1.alloc (.cells #[.int .i64 mb, .int .i64 mt, .slice aa mn qa] 26)) f1.heap.size #[.int .i64 mb, .int .i64 mt, .slice aa mn qa]) := MBox.start _ _ _
              clear bn
              have cN1 := N1.out.cells
              have cNM := NM.out.cells
              have cNS := NS.out.cells
              have cNA := NA.out.cells
              go_wp2_with fail
              clear cN1 cNM cNS cNA
              generalize f1.heap.size = XA at *
              generalize f1.alloc (.cells #[.int .i64 mb, .int .i64 mt, .slice aa mn qa] 26) = F1 at *
              refine (CSM.out _ _ _ RA.out RM.out).mono ?_
              rintro e f2 ⟨rfl, bb⟩
              replace SB : Hid (Below w1.heap.size w1 f2) := Below.and SB.out bb
              replace R1 : Hid (Row f2 (.slice ax n qx) n (flatE l)) := Row.below R1.out bb
              replace R3 : Hid (Row f2 (.slice a3 n3 q3) n3 (flatE l3)) := Row.below R3.out bb
              replace N1 : Hid (MBox 26 f2 X1 #[.int .i64 mb, .int .i64 mt, .slice ax n qx]) := N1.out.step bb
              replace RM : Hid (Row f2 (.slice am mn qm) mn (flatE M)) := Row.below RM.out bb
              replace NM : Hid (MBox 26 f2 XM #[.int .i64 mb, .int .i64 mt, .slice am mn qm]) := NM.out.step bb
              replace RS : Hid (Row f2 (.slice as_ mn qs) mn (flatE M)) := Row.below RS.out bb
              replace NS : Hid (MBox 26 f2 XS #[.int .i64 mb, .int .i64 mt, .slice as_ mn qs]) := NS.out.step bb
              replace RA : Hid (Row f2 (.slice aa mn qa) mn (flatE M)) := Row.below RA.out bb
              replace NA : Hid (MBox 26 f2 XA #[.int .i64 mb, .int .i64 mt, .slice aa mn qa]) := NA.out.step bb
              clear bb
              have cN1 := N1.out.cells
              have cNM := NM.out.cells
              have cNS := NS.out.cells
              have cNA := NA.out.cells
              go_wp2_with fail
              refine (COM.out _ RM.out).mono ?_
              rintro e f3 ⟨rfl, bb⟩
              clear cN1 cNM cNS cNA
              replace SB : Hid (Below w1.heap.size w1 f3) := Below.and SB.out bb
              replace R1 : Hid (Row f3 (.slice ax n qx) n (flatE l)) := Row.below R1.out bb
              replace R3 : Hid (Row f3 (.slice a3 n3 q3) n3 (flatE l3)) := Row.below R3.out bb
              replace N1 : Hid (MBox 26 f3 X1 #[.int .i64 mb, .int .i64 mt, .slice ax n qx]) := N1.out.step bb
              replace RM : Hid (Row f3 (.slice am mn qm) mn (flatE M)) := Row.below RM.out bb
              replace NM : Hid (MBox 26 f3 XM #[.int .i64 mb, .int .i64 mt, .slice am mn qm]) := NM.out.step bb
              replace RS : Hid (Row f3 (.slice as_ mn qs) mn (flatE M)) := Row.below RS.out bb
              replace NS : Hid (MBox 26 f3 XS #[.int .i64 mb, .int .i64 mt, .slice as_ mn qs]) := NS.out.step bb
              replace RA : Hid (Row f3 (.slice aa mn qa) mn (flatE M)) := Row.below RA.out bb
              replace NA : Hid (MBox 26 f3 XA #[.int .i64 mb, .int .i64 mt, .slice aa mn qa]) := NA.out.step bb
              clear bb
              go_wp2
              go_ret
              exact ⟨rfl, SB.out⟩

end Go.Proofs.Yteegcblndbljlaa
