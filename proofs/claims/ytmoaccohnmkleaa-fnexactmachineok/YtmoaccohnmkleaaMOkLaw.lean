/-
  The walk of the law FnExactMachineOk, over the program's contract.
-/
import Derived.Test.YtmoaccohnmkleaaMOkS
import Derived.Test.YtmoaccohnmkleaaMachTo
import Derived.Test.YtmoaccohnmkleaaCallBy
import Derived.Deep.RegionHeld3
namespace Go.Proofs.Ytmoaccohnmkleaa
open Go.RowKit

theorem run_toM (args : Array Value) (w : World) : (callFunc 6 args).run Try.prog w = .ok (.enter 6 args) w := by go_simp
theorem run_eqM (args : Array Value) (w : World) : (callFunc 8 args).run Try.prog w = .ok (.enter 8 args) w := by go_simp

set_option maxRecDepth 100000 in
set_option maxHeartbeats 8000000 in
theorem fnExactMachineOk_of (n : Nat) (m : MacV) (T : Tr) (l1 : DL) (w : World) (h : MacAt n w m T l1)
    (HI : ∀ (m : MacV) (w : World), MacAt n w m T l1 → Calls Try.prog 7 #[m.val] w fun e w' => e = .returned (.bool (machOk T l1)) ∧ Below w.heap.size w w') :
    Calls Try.prog 3 #[m.val] w fun e w' => e = .returned (.bool true) ∧ Below w.heap.size w w' := by
  obtain ⟨⟨lf, p, c, k, b⟩, v⟩ := m
  have TT : Hid (MacAt n w ⟨⟨lf, p, c, k, b⟩, v⟩ T l1) := h
  have HJ : Hid (∀ (m : MacV) (w : World), MacAt n w m T l1 → Calls Try.prog 7 #[m.val] w fun e w' => e = .returned (.bool (machOk T l1)) ∧ Below w.heap.size w w') := HI
  have SZ1 : Hid (∀ u, Below w.heap.size w u → Calls Try.prog 4 #[.agg #[.bool lf, p, c, k, b, v], .int .i64 1048576] u fun e w' => e = .returned (.int .i64 (leftOf 1048576 (sizeT n T + l1.length))) ∧ Below u.heap.size u w') := fun u hu => szMachine_any n ⟨⟨lf, p, c, k, b⟩, v⟩ T l1 1048576 u (TT.out.below hu) (by omega) (by omega)
  have N1 : MBox 30 (w.alloc (.cells #[.bool lf, p, c, k, b, v] 30)) w.heap.size #[.bool lf, p, c, k, b, v] := MBox.start _ w _
  have B2 : Below w.heap.size w (w.alloc (.cells #[.bool lf, p, c, k, b, v] 30)) := bel_nw _ _
  have c1 := N1.cells
  have HB : Hid _ := And.intro B2 N1
  clear B2 N1 h HI
  show Calls Try.prog 3 #[.agg #[.bool lf, p, c, k, b, v]] w _
  by_cases hb1 : ((sizeT n T + l1.length : Nat) : Int) ≤ 1048576
  · rw [leftOf_yes hb1] at SZ1
    have TO1 : Hid (∀ u, Below w.heap.size w u → Calls Try.prog 6 #[.agg #[.bool lf, p, c, k, b, v]] u fun e w' => ∃ m' : MacV, e = .returned m'.val ∧ MacAt n w' m' T l1 ∧ Below u.heap.size u w') := fun u hu => toMachine_any n ⟨⟨lf, p, c, k, b⟩, v⟩ T l1 u (TT.out.below hu) (by omega) (by omega)
    have Z40 : Hid (sizeT n T ≤ 1099511627776) := by show _ ≤ _; omega
    have hs1 : ¬ (1048576 - ((sizeT n T + l1.length : Nat) : Int) < 0) := by omega
    generalize ((sizeT n T + l1.length : Nat) : Int) = sz1 at *
    generalize hbb : machOk T l1 = bb at *
    have HBB : Hid _ := hbb
    clear hbb
    go_enter Try.func3, Try.ntmps3
    go_wp2_with fail
    generalize (w.alloc (.cells #[.bool lf, p, c, k, b, v] 30)) = W at *
    refine (SZ1.out _ HB.out.1).mono ?_
    rintro e w1 ⟨rfl, b1⟩
    have SL : Hid (Below W.heap.size W w1) := b1
    have SB : Hid (Below w.heap.size w w1) := Below.and HB.out.1 b1
    clear b1 c1
    have c1 := (HB.out.2.step SL.out).cells
    go_wp2_with fail
    refine (TO1.out _ SB.out).mono ?_
    rintro e w2 ⟨y1, rfl, t1, b2⟩
    have T1 : Hid (MacAt n w2 y1 T l1) := t1
    replace SL : Hid (Below W.heap.size W w2) := Below.and SL.out b2
    replace SB : Hid (Below w.heap.size w w2) := Below.and SB.out b2
    clear b2 t1 c1
    go_wp2_with fail
    refine (specMachineOk_any n y1 T l1 _ T1.out Z40.out).mono ?_
    rintro e w3 ⟨rfl, b3⟩
    rw [HBB.out]
    replace SL : Hid (Below W.heap.size W w3) := Below.and SL.out b3
    replace SB : Hid (Below w.heap.size w w3) := Below.and SB.out b3
    clear b3 T1
    generalize y1.val = z1 at *
    clear y1
    have c1 := (HB.out.2.step SL.out).cells
    go_wp2_with fail
    refine (TO1.out _ SB.out).mono ?_
    rintro e w5 ⟨y1, rfl, t1, b5⟩
    obtain ⟨a1, a2, a3, a4, a5, q1, q2, q3, q4, q5, rfl⟩ := t1.shape
    have X5 : Hid (MBox 40 (w5.alloc (.cells #[.bool T.leaf, .slice a1 T.pairs.length q1, .slice a2 T.cuts.length q2, .slice a3 T.kids.length q3, .slice a4 T.buf.length q4, .slice a5 l1.length q5] 40)) w5.heap.size #[.bool T.leaf, .slice a1 T.pairs.length q1, .slice a2 T.cuts.length q2, .slice a3 T.kids.length q3, .slice a4 T.buf.length q4, .slice a5 l1.length q5]) := MBox.start _ w5 _
    have M5 : Hid (MacAt n (w5.alloc (.cells #[.bool T.leaf, .slice a1 T.pairs.length q1, .slice a2 T.cuts.length q2, .slice a3 T.kids.length q3, .slice a4 T.buf.length q4, .slice a5 l1.length q5] 40)) ⟨⟨T.leaf, .slice a1 T.pairs.length q1, .slice a2 T.cuts.length q2, .slice a3 T.kids.length q3, .slice a4 T.buf.length q4⟩, .slice a5 l1.length q5⟩ T l1) := t1.below (bel_nw _ _)
    replace SL : Hid (Below W.heap.size W (w5.alloc (.cells #[.bool T.leaf, .slice a1 T.pairs.length q1, .slice a2 T.cuts.length q2, .slice a3 T.kids.length q3, .slice a4 T.buf.length q4, .slice a5 l1.length q5] 40))) := Below.and (Below.and SL.out b5) (bel_nw _ _)
    replace SB : Hid (Below w.heap.size w (w5.alloc (.cells #[.bool T.leaf, .slice a1 T.pairs.length q1, .slice a2 T.cuts.length q2, .slice a3 T.kids.length q3, .slice a4 T.buf.length q4, .slice a5 l1.length q5] 40))) := Below.and (Below.and SB.out b5) (bel_nw _ _)
    clear c1 t1 b5
    have c1 := X5.out.cells
    go_wp2_with fail
    generalize w5.heap.size = bx at *
    generalize w5.alloc (.cells #[.bool T.leaf, .slice a1 T.pairs.length q1, .slice a2 T.cuts.length q2, .slice a3 T.kids.length q3, .slice a4 T.buf.length q4, .slice a5 l1.length q5] 40) = W5 at *
    refine (HJ.out ⟨⟨T.leaf, .slice a1 T.pairs.length q1, .slice a2 T.cuts.length q2, .slice a3 T.kids.length q3, .slice a4 T.buf.length q4⟩, .slice a5 l1.length q5⟩ _ M5.out).mono ?_
    rintro e w7 ⟨rfl, b7⟩
    replace X5 : Hid (MBox 40 w7 bx #[.bool T.leaf, .slice a1 T.pairs.length q1, .slice a2 T.cuts.length q2, .slice a3 T.kids.length q3, .slice a4 T.buf.length q4, .slice a5 l1.length q5]) := X5.out.step b7
    replace M5 : Hid (MacAt n w7 ⟨⟨T.leaf, .slice a1 T.pairs.length q1, .slice a2 T.cuts.length q2, .slice a3 T.kids.length q3, .slice a4 T.buf.length q4⟩, .slice a5 l1.length q5⟩ T l1) := M5.out.below b7
    replace SL : Hid (Below W.heap.size W w7) := Below.and SL.out b7
    replace SB : Hid (Below w.heap.size w w7) := Below.and SB.out b7
    clear b7 c1
    have hne : (bb != bb) = false := by cases bb <;> rfl
    go_wp2_with fail
    have KE14 : Hid (∀ u, Below w7.heap.size w7 u → (fun u => u.cell? ⟨w.heap.size, 0, none⟩ = some (.bool lf) ∧ u.cell? ⟨w.heap.size, 1, none⟩ = some (p) ∧ u.cell? ⟨w.heap.size, 2, none⟩ = some (c) ∧ u.cell? ⟨w.heap.size, 3, none⟩ = some (k) ∧ u.cell? ⟨w.heap.size, 4, none⟩ = some (b) ∧ u.cell? ⟨w.heap.size, 5, none⟩ = some (v) ∧ u.cell? ⟨bx, 0, none⟩ = some (.bool T.leaf) ∧ u.cell? ⟨bx, 1, none⟩ = some (.slice a1 T.pairs.length q1) ∧ u.cell? ⟨bx, 2, none⟩ = some (.slice a2 T.cuts.length q2) ∧ u.cell? ⟨bx, 3, none⟩ = some (.slice a3 T.kids.length q3) ∧ u.cell? ⟨bx, 4, none⟩ = some (.slice a4 T.buf.length q4) ∧ u.cell? ⟨bx, 5, none⟩ = some (.slice a5 l1.length q5) ∧ Hid (Below w.heap.size w u)) u) := fun u hu => by
      have k1 := (HB.out.2.step (Below.and SL.out hu)).cells
      have k2 := (X5.out.step hu).cells
      exact ⟨k1 0, k1 1, k1 2, k1 3, k1 4, k1 5, k2 0, k2 1, k2 2, k2 3, k2 4, k2 5, Below.and SB.out hu⟩
    have RL : Hid (Below w7.heap.size w7 w7.drew) := (Below.refl _ _).drew
    refine wp_region_held_drew (S := (fun u => u.cell? ⟨w.heap.size, 0, none⟩ = some (.bool lf) ∧ u.cell? ⟨w.heap.size, 1, none⟩ = some (p) ∧ u.cell? ⟨w.heap.size, 2, none⟩ = some (c) ∧ u.cell? ⟨w.heap.size, 3, none⟩ = some (k) ∧ u.cell? ⟨w.heap.size, 4, none⟩ = some (b) ∧ u.cell? ⟨w.heap.size, 5, none⟩ = some (v) ∧ u.cell? ⟨bx, 0, none⟩ = some (.bool T.leaf) ∧ u.cell? ⟨bx, 1, none⟩ = some (.slice a1 T.pairs.length q1) ∧ u.cell? ⟨bx, 2, none⟩ = some (.slice a2 T.cuts.length q2) ∧ u.cell? ⟨bx, 3, none⟩ = some (.slice a3 T.kids.length q3) ∧ u.cell? ⟨bx, 4, none⟩ = some (.slice a4 T.buf.length q4) ∧ u.cell? ⟨bx, 5, none⟩ = some (.slice a5 l1.length q5) ∧ Hid (Below w.heap.size w u))) (by kernel_rfl) (KE14.out _ RL.out) (fun hH => ?_)
    refine wpAnyH_take (i := 0) (oi := ⟨_, _, _, _, _, _⟩) (v := ?_) rfl (by kernel_rfl) (by kernel_rfl) (by kernel_rfl) (fun _ _ _ h => h) (Or.inl ⟨by rfl, ?_⟩) (by assumption) ?_
    rotate_left
    · ((intro w hSw; (try dsimp only at hSw); go_simp); (try with_reducible rfl))
    try simp only [Act.put, List.setIfInBounds_toArray, List.set_cons_zero, List.set_cons_succ]
    refine wpAnyH_take (i := 1) (oi := ⟨_, _, _, _, _, _⟩) (v := ?_) rfl (by kernel_rfl) (by kernel_rfl) (by kernel_rfl) (fun _ _ _ h => h) (Or.inl ⟨by rfl, ?_⟩) (by assumption) ?_
    rotate_left
    · ((intro w hSw; (try dsimp only at hSw); go_simp); (try with_reducible rfl))
    try simp only [Act.put, List.setIfInBounds_toArray, List.set_cons_zero, List.set_cons_succ]
    refine wpAnyH_ready (rs := [2]) (by kernel_rfl) (by simp) ?_
    refine AllReadyH.cons (o := ⟨_, _, _, _, _, _⟩) rfl (fun K hK => ?_) AllReadyH.nil
    refine (if_pos (show Region.wanted _ _ = true by kernel_rfl)).mpr ?_
    refine call_by 6 [.tmp 23] #[30] rfl run_toM _ rfl (TO1.out _ (Below.and SB.out RL.out)) ?_
    rintro e u2 ⟨y3, rfl, t3, b3⟩
    have T3 : Hid (MacAt n u2 y3 T l1) := t3
    replace RL : Hid (Below w7.heap.size w7 u2) := Below.and RL.out b3
    clear b3
    clear t3
    refine ⟨_, rfl, ?_⟩
    refine hK.out _ _ (KE14.out _ RL.out) (fun hH2 => ?_)
    clear hK K hH
    have hH := hH2
    clear hH2
    try simp only [Act.put, List.setIfInBounds_toArray, List.set_cons_zero, List.set_cons_succ]
    refine wpAnyH_ready (rs := [3]) (by kernel_rfl) (by simp) ?_
    refine AllReadyH.cons (o := ⟨_, _, _, _, _, _⟩) rfl (fun K hK => ?_) AllReadyH.nil
    refine (if_pos (show Region.wanted _ _ = true by kernel_rfl)).mpr ?_
    refine call_by 8 [.tmp 22, .tmp 24] #[40, 40] rfl run_eqM _ rfl (eqMachine_any n ⟨⟨T.leaf, .slice a1 T.pairs.length q1, .slice a2 T.cuts.length q2, .slice a3 T.kids.length q3, .slice a4 T.buf.length q4⟩, .slice a5 l1.length q5⟩ y3 T l1 _ (M5.out.below RL.out) T3.out) ?_
    rintro e u3 ⟨rfl, b4⟩
    replace RL : Hid (Below w7.heap.size w7 u3) := Below.and RL.out b4
    clear b4
    refine ⟨_, rfl, ?_⟩
    refine hK.out _ _ (KE14.out _ RL.out) (fun hH2 => ?_)
    clear hK K hH
    have hH := hH2
    clear hH2
    try simp only [Act.put, List.setIfInBounds_toArray, List.set_cons_zero, List.set_cons_succ]
    refine wpAnyH_take (i := 4) (oi := ⟨_, _, _, _, _, _⟩) (v := ?_) rfl (by kernel_rfl) (by kernel_rfl) (by kernel_rfl) (fun _ _ _ h => h) (Or.inl ⟨by rfl, ?_⟩) (by assumption) ?_
    rotate_left
    · ((intro w hSw; (try dsimp only at hSw); go_simp); (try with_reducible rfl))
    try simp only [Act.put, List.setIfInBounds_toArray, List.set_cons_zero, List.set_cons_succ]
    refine wpAnyH_done (by kernel_rfl) ?_ _
    go_wp2
    go_ret
    exact ⟨rfl, Below.and SB.out RL.out⟩
  · rw [leftOf_no hb1] at SZ1
    go_enter Try.func3, Try.ntmps3
    go_wp2_with fail
    generalize (w.alloc (.cells #[.bool lf, p, c, k, b, v] 30)) = W at *
    refine (SZ1.out _ HB.out.1).mono ?_
    rintro e w1 ⟨rfl, b1⟩
    go_wp2
    go_ret
    exact ⟨rfl, Below.and HB.out.1 b1⟩

end Go.Proofs.Ytmoaccohnmkleaa
