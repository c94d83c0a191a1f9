/-
  The walk of the law FnExactMachineSame.
-/
import Derived.Test.YtccdleafkhnfmaaGreatMSame
import Derived.Test.YtccdleafkhnfmaaGreatMachTo
namespace Go.Proofs.YtccdleafkhnfmaaGreat
open Go.RowKit

theorem run_toM (args : Array Value) (w : World) : (callFunc 6 args).run Tryz.prog w = .ok (.enter 6 args) w := by go_simp
theorem run_eqM (args : Array Value) (w : World) : (callFunc 8 args).run Tryz.prog w = .ok (.enter 8 args) w := by go_simp
theorem run_msS (args : Array Value) (w : World) : (callFunc 5 args).run Tryz.prog w = .ok (.enter 5 args) w := by go_simp

set_option maxRecDepth 100000 in
set_option maxHeartbeats 8000000 in
theorem fnExactMachineSame_any (n n2 : Nat) (m m2 : MacV) (T T2 : Tr) (l1 l2 : DL) (w : World) (h : MacAt n w m T l1) (h2 : MacAt n2 w m2 T2 l2) :
    Calls Tryz.prog 3 #[m.val, m2.val] w fun e w' => e = .returned (.bool true) ∧ Below w.heap.size w w' := by
  obtain ⟨⟨lf, p, c, k, b⟩, v⟩ := m
  obtain ⟨⟨xf, xp, xc, xk, xb⟩, xv⟩ := m2
  have TT : Hid _ := And.intro h h2
  have SZ1 : Hid (∀ u, Below w.heap.size w u → Calls Tryz.prog 4 #[.agg #[.bool lf, p, c, k, b, v], .int .i64 1048576] u fun e w' => e = .returned (.int .i64 (leftOf 1048576 (sizeT n T + l1.length))) ∧ Below u.heap.size u w') := fun u hu => szMachine_any n ⟨⟨lf, p, c, k, b⟩, v⟩ T l1 1048576 u (TT.out.1.below hu) (by omega) (by omega)
  have N1 : MBox 30 ((w.alloc (.cells #[.bool lf, p, c, k, b, v] 30)).alloc (.cells #[.bool xf, xp, xc, xk, xb, xv] 30)) w.heap.size #[.bool lf, p, c, k, b, v] := (MBox.start _ w _).step (bel_nw _ _)
  have N2 := MBox.start 30 (w.alloc (.cells #[.bool lf, p, c, k, b, v] 30)) #[.bool xf, xp, xc, xk, xb, xv]
  simp only [World.size_alloc] at N2
  have B2 : Below w.heap.size w ((w.alloc (.cells #[.bool lf, p, c, k, b, v] 30)).alloc (.cells #[.bool xf, xp, xc, xk, xb, xv] 30)) := Below.and (bel_nw _ _) (bel_nw _ _)
  have KEEP : Hid (∀ u, Below ((w.alloc (.cells #[.bool lf, p, c, k, b, v] 30)).alloc (.cells #[.bool xf, xp, xc, xk, xb, xv] 30)).heap.size ((w.alloc (.cells #[.bool lf, p, c, k, b, v] 30)).alloc (.cells #[.bool xf, xp, xc, xk, xb, xv] 30)) u → (fun u => u.cell? ⟨w.heap.size, 0, none⟩ = some (.bool lf) ∧ u.cell? ⟨w.heap.size, 1, none⟩ = some (p) ∧ u.cell? ⟨w.heap.size, 2, none⟩ = some (c) ∧ u.cell? ⟨w.heap.size, 3, none⟩ = some (k) ∧ u.cell? ⟨w.heap.size, 4, none⟩ = some (b) ∧ u.cell? ⟨w.heap.size, 5, none⟩ = some (v) ∧ u.cell? ⟨w.heap.size + 1, 0, none⟩ = some (.bool xf) ∧ u.cell? ⟨w.heap.size + 1, 1, none⟩ = some (xp) ∧ u.cell? ⟨w.heap.size + 1, 2, none⟩ = some (xc) ∧ u.cell? ⟨w.heap.size + 1, 3, none⟩ = some (xk) ∧ u.cell? ⟨w.heap.size + 1, 4, none⟩ = some (xb) ∧ u.cell? ⟨w.heap.size + 1, 5, none⟩ = some (xv) ∧ Hid (Below w.heap.size w u)) u) := fun u hu => by
    have k1 := (N1.step hu).cells
    have k2 := (N2.step hu).cells
    exact ⟨k1 0, k1 1, k1 2, k1 3, k1 4, k1 5, k2 0, k2 1, k2 2, k2 3, k2 4, k2 5, Below.and B2 hu⟩
  have c1 := N1.cells
  have d1 := N2.cells
  have HB : Hid _ := And.intro B2 (And.intro N1 N2)
  clear B2 N1 N2 h h2
  show Calls Tryz.prog 3 #[.agg #[.bool lf, p, c, k, b, v], .agg #[.bool xf, xp, xc, xk, xb, xv]] w _
  by_cases hb1 : ((sizeT n T + l1.length : Nat) : Int) ≤ 1048576
  · rw [leftOf_yes hb1] at SZ1
    have SZ2 : Hid (∀ u, Below w.heap.size w u → Calls Tryz.prog 4 #[.agg #[.bool xf, xp, xc, xk, xb, xv], .int .i64 (1048576 - ((sizeT n T + l1.length : Nat) : Int))] u fun e w' => e = .returned (.int .i64 (leftOf (1048576 - ((sizeT n T + l1.length : Nat) : Int)) (sizeT n2 T2 + l2.length))) ∧ Below u.heap.size u w') := fun u hu => szMachine_any n2 ⟨⟨xf, xp, xc, xk, xb⟩, xv⟩ T2 l2 _ u (TT.out.2.below hu) (by omega) (by omega)
    by_cases hb2 : ((sizeT n2 T2 + l2.length : Nat) : Int) ≤ 1048576 - ((sizeT n T + l1.length : Nat) : Int)
    · rw [leftOf_yes hb2] at SZ2
      have TO1 : Hid (∀ u, Below w.heap.size w u → Calls Tryz.prog 6 #[.agg #[.bool lf, p, c, k, b, v]] u fun e w' => ∃ m' : MacV, e = .returned m'.val ∧ MacAt n w' m' T l1 ∧ Below u.heap.size u w') := fun u hu => toMachine_any n ⟨⟨lf, p, c, k, b⟩, v⟩ T l1 u (TT.out.1.below hu) (by omega) (by omega)
      have TO2 : Hid (∀ u, Below w.heap.size w u → Calls Tryz.prog 6 #[.agg #[.bool xf, xp, xc, xk, xb, xv]] u fun e w' => ∃ m' : MacV, e = .returned m'.val ∧ MacAt n2 w' m' T2 l2 ∧ Below u.heap.size u w') := fun u hu => toMachine_any n2 ⟨⟨xf, xp, xc, xk, xb⟩, xv⟩ T2 l2 u (TT.out.2.below hu) (by omega) (by omega)
      have Z40 : Hid (sizeT n T ≤ 1099511627776 ∧ sizeT n2 T2 ≤ 1099511627776) := by constructor <;> omega
      have hs1 : ¬ (1048576 - ((sizeT n T + l1.length : Nat) : Int) < 0) := by omega
      have hs2 : ¬ (1048576 - ((sizeT n T + l1.length : Nat) : Int) - ((sizeT n2 T2 + l2.length : Nat) : Int) < 0) := by omega
      generalize ((sizeT n T + l1.length : Nat) : Int) = sz1 at *
      generalize ((sizeT n2 T2 + l2.length : Nat) : Int) = sz2 at *
      generalize hbb : (decide (l1 = l2) && decide (mapT T = mapT T2)) = bb
      have HBB : Hid _ := hbb
      clear hbb
      go_enter Tryz.func3, Tryz.ntmps3
      go_wp2_with fail
      generalize ((w.alloc (.cells #[.bool lf, p, c, k, b, v] 30)).alloc (.cells #[.bool xf, xp, xc, xk, xb, xv] 30)) = W at *
      refine (SZ1.out _ HB.out.1).mono ?_
      rintro e w1 ⟨rfl, b1⟩
      have SL : Hid (Below W.heap.size W w1) := b1
      have SB : Hid (Below w.heap.size w w1) := Below.and HB.out.1 b1
      clear b1 c1 d1
      have c1 := (HB.out.2.1.step SL.out).cells
      have d1 := (HB.out.2.2.step SL.out).cells
      go_wp2_with fail
      refine (SZ2.out _ SB.out).mono ?_
      rintro e w2 ⟨rfl, b2⟩
      replace SL : Hid (Below W.heap.size W w2) := Below.and SL.out b2
      replace SB : Hid (Below w.heap.size w w2) := Below.and SB.out b2
      clear b2
      clear c1 d1
      go_wp2_with fail
      replace SL : Hid (Below W.heap.size W w2.drew) := SL.out.drew
      replace SB : Hid (Below w.heap.size w w2.drew) := SB.out.drew
      refine wp_region_held_drew (S := (fun u => u.cell? ⟨w.heap.size, 0, none⟩ = some (.bool lf) ∧ u.cell? ⟨w.heap.size, 1, none⟩ = some (p) ∧ u.cell? ⟨w.heap.size, 2, none⟩ = some (c) ∧ u.cell? ⟨w.heap.size, 3, none⟩ = some (k) ∧ u.cell? ⟨w.heap.size, 4, none⟩ = some (b) ∧ u.cell? ⟨w.heap.size, 5, none⟩ = some (v) ∧ u.cell? ⟨w.heap.size + 1, 0, none⟩ = some (.bool xf) ∧ u.cell? ⟨w.heap.size + 1, 1, none⟩ = some (xp) ∧ u.cell? ⟨w.heap.size + 1, 2, none⟩ = some (xc) ∧ u.cell? ⟨w.heap.size + 1, 3, none⟩ = some (xk) ∧ u.cell? ⟨w.heap.size + 1, 4, none⟩ = some (xb) ∧ u.cell? ⟨w.heap.size + 1, 5, none⟩ = some (xv) ∧ Hid (Below w.heap.size w u))) (by kernel_rfl) (KEEP.out _ SL.out) (fun hH => ?_)
      refine wpAnyH_take (i := 0) (oi := ⟨_, _, _, _, _, _⟩) (v := ?_) rfl (by kernel_rfl) (by kernel_rfl) (by kernel_rfl) (fun _ _ _ h => h) (Or.inl ⟨by rfl, ?_⟩) (by assumption) ?_
      rotate_left
      · ((intro w hSw; (try dsimp only at hSw); go_simp); (try with_reducible rfl))
      try simp only [Act.put, List.setIfInBounds_toArray, List.set_cons_zero, List.set_cons_succ]
      refine wpAnyH_take (i := 2) (oi := ⟨_, _, _, _, _, _⟩) (v := ?_) rfl (by kernel_rfl) (by kernel_rfl) (by kernel_rfl) (fun _ _ _ h => h) (Or.inl ⟨by rfl, ?_⟩) (by assumption) ?_
      rotate_left
      · ((intro w hSw; (try dsimp only at hSw); go_simp); (try with_reducible rfl))
      try simp only [Act.put, List.setIfInBounds_toArray, List.set_cons_zero, List.set_cons_succ]
      refine wpAnyH_ready (rs := [1]) (by kernel_rfl) (by simp) ?_
      refine AllReadyH.cons (o := ⟨_, _, _, _, _, _⟩) rfl (fun K hK => ?_) AllReadyH.nil
      refine (if_pos (show Region.wanted _ _ = true by kernel_rfl)).mpr ?_
      refine call_by 6 [.tmp 20] #[30] rfl run_toM _ rfl (TO1.out _ SB.out) ?_
      rintro e w1' ⟨y1, rfl, t1, b1⟩
      have T1 : Hid (MacAt n w1' y1 T l1) := t1
      replace SL : Hid (Below W.heap.size W w1') := Below.and SL.out b1
      replace SB : Hid (Below w.heap.size w w1') := Below.and SB.out b1
      clear b1
      clear t1
      refine ⟨_, rfl, ?_⟩
      refine hK.out _ _ (KEEP.out _ SL.out) (fun hH2 => ?_)
      clear hK K hH
      have hH := hH2
      clear hH2
      try simp only [Act.put, List.setIfInBounds_toArray, List.set_cons_zero, List.set_cons_succ]
      refine wpAnyH_ready (rs := [3]) (by kernel_rfl) (by simp) ?_
      refine AllReadyH.cons (o := ⟨_, _, _, _, _, _⟩) rfl (fun K hK => ?_) AllReadyH.nil
      refine (if_pos (show Region.wanted _ _ = true by kernel_rfl)).mpr ?_
      refine call_by 6 [.tmp 22] #[30] rfl run_toM _ rfl (TO2.out _ SB.out) ?_
      rintro e w3' ⟨y2, rfl, t2, b2⟩
      have T2m : Hid (MacAt n2 w3' y2 T2 l2) := t2
      replace T1 : Hid (MacAt n w3' y1 T l1) := T1.out.below b2
      replace SL : Hid (Below W.heap.size W w3') := Below.and SL.out b2
      replace SB : Hid (Below w.heap.size w w3') := Below.and SB.out b2
      clear b2
      clear t2
      refine ⟨_, rfl, ?_⟩
      refine hK.out _ _ (KEEP.out _ SL.out) (fun hH2 => ?_)
      clear hK K hH
      have hH := hH2
      clear hH2
      try simp only [Act.put, List.setIfInBounds_toArray, List.set_cons_zero, List.set_cons_succ]
      refine wpAnyH_ready (rs := [4]) (by kernel_rfl) (by simp) ?_
      refine AllReadyH.cons (o := ⟨_, _, _, _, _, _⟩) rfl (fun K hK => ?_) AllReadyH.nil
      refine (if_pos (show Region.wanted _ _ = true by kernel_rfl)).mpr ?_
      refine call_by 5 [.tmp 21, .tmp 23] #[40, 40] rfl run_msS _ rfl (specMachineSame_any n n2 y1 y2 T T2 l1 l2 _ T1.out T2m.out Z40.out.1 Z40.out.2) ?_
      rintro e w4' ⟨rfl, b4⟩
      rw [HBB.out]
      replace SL : Hid (Below W.heap.size W w4') := Below.and SL.out b4
      replace SB : Hid (Below w.heap.size w w4') := Below.and SB.out b4
      clear b4
      refine ⟨_, rfl, ?_⟩
      refine hK.out _ _ (KEEP.out _ SL.out) (fun hH2 => ?_)
      clear hK K hH
      have hH := hH2
      clear hH2
      try simp only [Act.put, List.setIfInBounds_toArray, List.set_cons_zero, List.set_cons_succ]
      refine wpAnyH_take (i := 5) (oi := ⟨_, _, _, _, _, _⟩) (v := ?_) rfl (by kernel_rfl) (by kernel_rfl) (by kernel_rfl) (fun _ _ _ h => h) (Or.inl ⟨by rfl, ?_⟩) (by assumption) ?_
      rotate_left
      · ((intro w hSw; (try dsimp only at hSw); go_simp); (try with_reducible rfl))
      try simp only [Act.put, List.setIfInBounds_toArray, List.set_cons_zero, List.set_cons_succ]
      refine wpAnyH_done (by kernel_rfl) ?_ _
      clear hH T1 T2m
      generalize y1.val = z1 at *
      generalize y2.val = z2 at *
      clear y1 y2
      generalize w4' = U at *
      have c1 := (HB.out.2.1.step SL.out).cells
      have d1 := (HB.out.2.2.step SL.out).cells
      go_wp2_with fail
      refine (TO1.out _ SB.out).mono ?_
      rintro e w5 ⟨y1, rfl, t1, b5⟩
      obtain ⟨a1, a2, a3, a4, a5, q1, q2, q3, q4, q5, rfl⟩ := t1.shape
      have X5 : MBox 40 (w5.alloc (.cells #[.bool T.leaf, .slice a1 T.pairs.length q1, .slice a2 T.cuts.length q2, .slice a3 T.kids.length q3, .slice a4 T.buf.length q4, .slice a5 l1.length q5] 40)) w5.heap.size #[.bool T.leaf, .slice a1 T.pairs.length q1, .slice a2 T.cuts.length q2, .slice a3 T.kids.length q3, .slice a4 T.buf.length q4, .slice a5 l1.length q5] := MBox.start _ w5 _
      have M5 : Hid (MacAt n (w5.alloc (.cells #[.bool T.leaf, .slice a1 T.pairs.length q1, .slice a2 T.cuts.length q2, .slice a3 T.kids.length q3, .slice a4 T.buf.length q4, .slice a5 l1.length q5] 40)) ⟨⟨T.leaf, .slice a1 T.pairs.length q1, .slice a2 T.cuts.length q2, .slice a3 T.kids.length q3, .slice a4 T.buf.length q4⟩, .slice a5 l1.length q5⟩ T l1) := t1.below (bel_nw _ _)
      replace SL : Hid (Below W.heap.size W (w5.alloc (.cells #[.bool T.leaf, .slice a1 T.pairs.length q1, .slice a2 T.cuts.length q2, .slice a3 T.kids.length q3, .slice a4 T.buf.length q4, .slice a5 l1.length q5] 40))) := Below.and (Below.and SL.out b5) (bel_nw _ _)
      replace SB : Hid (Below w.heap.size w (w5.alloc (.cells #[.bool T.leaf, .slice a1 T.pairs.length q1, .slice a2 T.cuts.length q2, .slice a3 T.kids.length q3, .slice a4 T.buf.length q4, .slice a5 l1.length q5] 40))) := Below.and (Below.and SB.out b5) (bel_nw _ _)
      clear c1 d1 t1 b5
      have c1 := (HB.out.2.1.step SL.out).cells
      have d1 := (HB.out.2.2.step SL.out).cells
      have HX : Hid (MBox 40 (w5.alloc (.cells #[.bool T.leaf, .slice a1 T.pairs.length q1, .slice a2 T.cuts.length q2, .slice a3 T.kids.length q3, .slice a4 T.buf.length q4, .slice a5 l1.length q5] 40)) w5.heap.size #[.bool T.leaf, .slice a1 T.pairs.length q1, .slice a2 T.cuts.length q2, .slice a3 T.kids.length q3, .slice a4 T.buf.length q4, .slice a5 l1.length q5]) := X5
      clear X5
      go_wp2_with fail
      generalize hbx : w5.heap.size = bx at *
      generalize w5.alloc (.cells #[.bool T.leaf, .slice a1 T.pairs.length q1, .slice a2 T.cuts.length q2, .slice a3 T.kids.length q3, .slice a4 T.buf.length q4, .slice a5 l1.length q5] 40) = W5 at *
      refine (TO2.out _ SB.out).mono ?_
      rintro e w6 ⟨y2, rfl, t2, b6⟩
      obtain ⟨e1, e2, e3, e4, e5, r1, r2, r3, r4, r5, rfl⟩ := t2.shape
      have Y6 : MBox 40 (w6.alloc (.cells #[.bool T2.leaf, .slice e1 T2.pairs.length r1, .slice e2 T2.cuts.length r2, .slice e3 T2.kids.length r3, .slice e4 T2.buf.length r4, .slice e5 l2.length r5] 40)) w6.heap.size #[.bool T2.leaf, .slice e1 T2.pairs.length r1, .slice e2 T2.cuts.length r2, .slice e3 T2.kids.length r3, .slice e4 T2.buf.length r4, .slice e5 l2.length r5] := MBox.start _ w6 _
      have K6 : Hid (MacAt n2 (w6.alloc (.cells #[.bool T2.leaf, .slice e1 T2.pairs.length r1, .slice e2 T2.cuts.length r2, .slice e3 T2.kids.length r3, .slice e4 T2.buf.length r4, .slice e5 l2.length r5] 40)) ⟨⟨T2.leaf, .slice e1 T2.pairs.length r1, .slice e2 T2.cuts.length r2, .slice e3 T2.kids.length r3, .slice e4 T2.buf.length r4⟩, .slice e5 l2.length r5⟩ T2 l2) := t2.below (bel_nw _ _)
      have M6 : Hid (MacAt n (w6.alloc (.cells #[.bool T2.leaf, .slice e1 T2.pairs.length r1, .slice e2 T2.cuts.length r2, .slice e3 T2.kids.length r3, .slice e4 T2.buf.length r4, .slice e5 l2.length r5] 40)) ⟨⟨T.leaf, .slice a1 T.pairs.length q1, .slice a2 T.cuts.length q2, .slice a3 T.kids.length q3, .slice a4 T.buf.length q4⟩, .slice a5 l1.length q5⟩ T l1) := M5.out.below (Below.and b6 (bel_nw _ _))
      have X6 : Hid (MBox 40 (w6.alloc (.cells #[.bool T2.leaf, .slice e1 T2.pairs.length r1, .slice e2 T2.cuts.length r2, .slice e3 T2.kids.length r3, .slice e4 T2.buf.length r4, .slice e5 l2.length r5] 40)) bx #[.bool T.leaf, .slice a1 T.pairs.length q1, .slice a2 T.cuts.length q2, .slice a3 T.kids.length q3, .slice a4 T.buf.length q4, .slice a5 l1.length q5]) := HX.out.step (Below.and b6 (bel_nw _ _))
      replace SL : Hid (Below W.heap.size W (w6.alloc (.cells #[.bool T2.leaf, .slice e1 T2.pairs.length r1, .slice e2 T2.cuts.length r2, .slice e3 T2.kids.length r3, .slice e4 T2.buf.length r4, .slice e5 l2.length r5] 40))) := Below.and (Below.and SL.out b6) (bel_nw _ _)
      replace SB : Hid (Below w.heap.size w (w6.alloc (.cells #[.bool T2.leaf, .slice e1 T2.pairs.length r1, .slice e2 T2.cuts.length r2, .slice e3 T2.kids.length r3, .slice e4 T2.buf.length r4, .slice e5 l2.length r5] 40))) := Below.and (Below.and SB.out b6) (bel_nw _ _)
      clear c1 d1 t2 b6 M5 HX hbx
      have HY : Hid (MBox 40 (w6.alloc (.cells #[.bool T2.leaf, .slice e1 T2.pairs.length r1, .slice e2 T2.cuts.length r2, .slice e3 T2.kids.length r3, .slice e4 T2.buf.length r4, .slice e5 l2.length r5] 40)) w6.heap.size #[.bool T2.leaf, .slice e1 T2.pairs.length r1, .slice e2 T2.cuts.length r2, .slice e3 T2.kids.length r3, .slice e4 T2.buf.length r4, .slice e5 l2.length r5]) := Y6
      have c1 := X6.out.cells
      have d1 := Y6.cells
      clear Y6
      go_wp2_with fail
      generalize w6.heap.size = bz at *
      generalize w6.alloc (.cells #[.bool T2.leaf, .slice e1 T2.pairs.length r1, .slice e2 T2.cuts.length r2, .slice e3 T2.kids.length r3, .slice e4 T2.buf.length r4, .slice e5 l2.length r5] 40) = W6 at *
      refine (implMachineSame_any n n2 ⟨⟨T.leaf, .slice a1 T.pairs.length q1, .slice a2 T.cuts.length q2, .slice a3 T.kids.length q3, .slice a4 T.buf.length q4⟩, .slice a5 l1.length q5⟩ ⟨⟨T2.leaf, .slice e1 T2.pairs.length r1, .slice e2 T2.cuts.length r2, .slice e3 T2.kids.length r3, .slice e4 T2.buf.length r4⟩, .slice e5 l2.length r5⟩ T T2 l1 l2 _ M6.out K6.out).mono ?_
      rintro e w7 ⟨rfl, b7⟩
      rw [HBB.out]
      replace X6 : Hid (MBox 40 w7 bx #[.bool T.leaf, .slice a1 T.pairs.length q1, .slice a2 T.cuts.length q2, .slice a3 T.kids.length q3, .slice a4 T.buf.length q4, .slice a5 l1.length q5]) := X6.out.step b7
      replace HY : Hid (MBox 40 w7 bz #[.bool T2.leaf, .slice e1 T2.pairs.length r1, .slice e2 T2.cuts.length r2, .slice e3 T2.kids.length r3, .slice e4 T2.buf.length r4, .slice e5 l2.length r5]) := HY.out.step b7
      replace M6 : Hid (MacAt n w7 ⟨⟨T.leaf, .slice a1 T.pairs.length q1, .slice a2 T.cuts.length q2, .slice a3 T.kids.length q3, .slice a4 T.buf.length q4⟩, .slice a5 l1.length q5⟩ T l1) := M6.out.below b7
      replace K6 : Hid (MacAt n2 w7 ⟨⟨T2.leaf, .slice e1 T2.pairs.length r1, .slice e2 T2.cuts.length r2, .slice e3 T2.kids.length r3, .slice e4 T2.buf.length r4⟩, .slice e5 l2.length r5⟩ T2 l2) := K6.out.below b7
      replace SL : Hid (Below W.heap.size W w7) := Below.and SL.out b7
      replace SB : Hid (Below w.heap.size w w7) := Below.and SB.out b7
      clear b7
      clear c1 d1
      have hne : (bb != bb) = false := by cases bb <;> rfl
      go_wp2_with fail
      have KE14 : Hid (∀ u, Below w7.heap.size w7 u → (fun u => u.cell? ⟨w.heap.size, 0, none⟩ = some (.bool lf) ∧ u.cell? ⟨w.heap.size, 1, none⟩ = some (p) ∧ u.cell? ⟨w.heap.size, 2, none⟩ = some (c) ∧ u.cell? ⟨w.heap.size, 3, none⟩ = some (k) ∧ u.cell? ⟨w.heap.size, 4, none⟩ = some (b) ∧ u.cell? ⟨w.heap.size, 5, none⟩ = some (v) ∧ u.cell? ⟨bx, 0, none⟩ = some (.bool T.leaf) ∧ u.cell? ⟨bx, 1, none⟩ = some (.slice a1 T.pairs.length q1) ∧ u.cell? ⟨bx, 2, none⟩ = some (.slice a2 T.cuts.length q2) ∧ u.cell? ⟨bx, 3, none⟩ = some (.slice a3 T.kids.length q3) ∧ u.cell? ⟨bx, 4, none⟩ = some (.slice a4 T.buf.length q4) ∧ u.cell? ⟨bx, 5, none⟩ = some (.slice a5 l1.length q5) ∧ Hid (Below w.heap.size w u)) u) := fun u hu => by
        have k1 := (HB.out.2.1.step (Below.and SL.out hu)).cells
        have k2 := (X6.out.step hu).cells
        exact ⟨k1 0, k1 1, k1 2, k1 3, k1 4, k1 5, k2 0, k2 1, k2 2, k2 3, k2 4, k2 5, Below.and SB.out hu⟩
      have RL : Hid (Below w7.heap.size w7 w7.drew) := (Below.refl _ _).drew
      refine wp_region_held_drew (S := (fun u => u.cell? ⟨w.heap.size, 0, none⟩ = some (.bool lf) ∧ u.cell? ⟨w.heap.size, 1, none⟩ = some (p) ∧ u.cell? ⟨w.heap.size, 2, none⟩ = some (c) ∧ u.cell? ⟨w.heap.size, 3, none⟩ = some (k) ∧ u.cell? ⟨w.heap.size, 4, none⟩ = some (b) ∧ u.cell? ⟨w.heap.size, 5, none⟩ = some (v) ∧ u.cell? ⟨bx, 0, none⟩ = some (.bool T.leaf) ∧ u.cell? ⟨bx, 1, none⟩ = some (.slice a1 T.pairs.length q1) ∧ u.cell? ⟨bx, 2, none⟩ = some (.slice a2 T.cuts.length q2) ∧ u.cell? ⟨bx, 3, none⟩ = some (.slice a3 T.kids.length q3) ∧ u.cell? ⟨bx, 4, none⟩ = some (.slice a4 T.buf.length q4) ∧ u.cell? ⟨bx, 5, none⟩ = some (.slice a5 l1.length q5) ∧ Hid (Below w.heap.size w u))) (by kernel_rfl) (KE14.out _ RL.out) (fun hH => ?_)
      refine wpAnyH_take (i := 0) (oi := ⟨_, _, _, _, _, _⟩) (v := ?_) rfl (by kernel_rfl) (by kernel_rfl) (by kernel_rfl) (fun _ _ _ h => h) (Or.inl ⟨by rfl, ?_⟩) (by assumption) ?_
      rotate_left
      · ((intro w hSw; (try dsimp only at hSw); go_simp); (try with_reducible rfl))
      try simp only [Act.put, List.setIfInBounds_toArray, List.set_cons_zero, List.set_cons_succ]
      refine wpAnyH_take (i := 1) (oi := ⟨_, _, _, _, _, _⟩) (v := ?_) rfl (by kernel_rfl) (by kernel_rfl) (by kernel_rfl) (fun _ _ _ h => h) (Or.inl ⟨by rfl, ?_⟩) (by assumption) ?_
      rotate_left
      · ((intro w hSw; (try dsimp only at hSw); go_simp); (try with_reducible rfl))
      try simp only [Act.put, List.setIfInBounds_toArray, List.set_cons_zero, List.set_cons_succ]
      refine wpAnyH_ready (rs := [2]) (by kernel_rfl) (by simp) ?_
      refine AllReadyH.cons (o := ⟨_, _, _, _, _, _⟩) rfl (fun K hK => ?_) AllReadyH.nil
      refine (if_pos (show Region.wanted _ _ = true by kernel_rfl)).mpr ?_
      refine call_by 6 [.tmp 36] #[30] rfl run_toM _ rfl (TO1.out _ (Below.and SB.out RL.out)) ?_
      rintro e u2 ⟨y3, rfl, t3, b3⟩
      have T3 : Hid (MacAt n u2 y3 T l1) := t3
      replace RL : Hid (Below w7.heap.size w7 u2) := Below.and RL.out b3
      clear b3
      clear t3
      refine ⟨_, rfl, ?_⟩
      refine hK.out _ _ (KE14.out _ RL.out) (fun hH2 => ?_)
      clear hK K hH
      have hH := hH2
      clear hH2
      try simp only [Act.put, List.setIfInBounds_toArray, List.set_cons_zero, List.set_cons_succ]
      refine wpAnyH_ready (rs := [3]) (by kernel_rfl) (by simp) ?_
      refine AllReadyH.cons (o := ⟨_, _, _, _, _, _⟩) rfl (fun K hK => ?_) AllReadyH.nil
      refine (if_pos (show Region.wanted _ _ = true by kernel_rfl)).mpr ?_
      refine call_by 8 [.tmp 35, .tmp 37] #[40, 40] rfl run_eqM _ rfl (eqMachine_any n ⟨⟨T.leaf, .slice a1 T.pairs.length q1, .slice a2 T.cuts.length q2, .slice a3 T.kids.length q3, .slice a4 T.buf.length q4⟩, .slice a5 l1.length q5⟩ y3 T l1 _ (M6.out.below RL.out) T3.out) ?_
      rintro e u3 ⟨rfl, b4⟩
      replace RL : Hid (Below w7.heap.size w7 u3) := Below.and RL.out b4
      clear b4
      refine ⟨_, rfl, ?_⟩
      refine hK.out _ _ (KE14.out _ RL.out) (fun hH2 => ?_)
      clear hK K hH
      have hH := hH2
      clear hH2
      try simp only [Act.put, List.setIfInBounds_toArray, List.set_cons_zero, List.set_cons_succ]
      refine wpAnyH_take (i := 4) (oi := ⟨_, _, _, _, _, _⟩) (v := ?_) rfl (by kernel_rfl) (by kernel_rfl) (by kernel_rfl) (fun _ _ _ h => h) (Or.inl ⟨by rfl, ?_⟩) (by assumption) ?_
      rotate_left
      · ((intro w hSw; (try dsimp only at hSw); go_simp); (try with_reducible rfl))
      try simp only [Act.put, List.setIfInBounds_toArray, List.set_cons_zero, List.set_cons_succ]
      refine wpAnyH_done (by kernel_rfl) ?_ _
      clear hH T3 KE14
      generalize y3.val = z3 at *
      clear y3
      replace HY : Hid (MBox 40 u3 bz #[.bool T2.leaf, .slice e1 T2.pairs.length r1, .slice e2 T2.cuts.length r2, .slice e3 T2.kids.length r3, .slice e4 T2.buf.length r4, .slice e5 l2.length r5]) := HY.out.step RL.out
      replace K6 : Hid (MacAt n2 u3 ⟨⟨T2.leaf, .slice e1 T2.pairs.length r1, .slice e2 T2.cuts.length r2, .slice e3 T2.kids.length r3, .slice e4 T2.buf.length r4⟩, .slice e5 l2.length r5⟩ T2 l2) := K6.out.below RL.out
      replace SL : Hid (Below W.heap.size W u3) := Below.and SL.out RL.out
      replace SB : Hid (Below w.heap.size w u3) := Below.and SB.out RL.out
      clear RL X6 M6
      generalize u3 = w8 at *
      go_wp2_with fail
      have KE16 : Hid (∀ u, Below w8.heap.size w8 u → (fun u => u.cell? ⟨w.heap.size + 1, 0, none⟩ = some (.bool xf) ∧ u.cell? ⟨w.heap.size + 1, 1, none⟩ = some (xp) ∧ u.cell? ⟨w.heap.size + 1, 2, none⟩ = some (xc) ∧ u.cell? ⟨w.heap.size + 1, 3, none⟩ = some (xk) ∧ u.cell? ⟨w.heap.size + 1, 4, none⟩ = some (xb) ∧ u.cell? ⟨w.heap.size + 1, 5, none⟩ = some (xv) ∧ u.cell? ⟨bz, 0, none⟩ = some (.bool T2.leaf) ∧ u.cell? ⟨bz, 1, none⟩ = some (.slice e1 T2.pairs.length r1) ∧ u.cell? ⟨bz, 2, none⟩ = some (.slice e2 T2.cuts.length r2) ∧ u.cell? ⟨bz, 3, none⟩ = some (.slice e3 T2.kids.length r3) ∧ u.cell? ⟨bz, 4, none⟩ = some (.slice e4 T2.buf.length r4) ∧ u.cell? ⟨bz, 5, none⟩ = some (.slice e5 l2.length r5) ∧ Hid (Below w.heap.size w u)) u) := fun u hu => by
        have k1 := (HB.out.2.2.step (Below.and SL.out hu)).cells
        have k2 := (HY.out.step hu).cells
        exact ⟨k1 0, k1 1, k1 2, k1 3, k1 4, k1 5, k2 0, k2 1, k2 2, k2 3, k2 4, k2 5, Below.and SB.out hu⟩
      have RL : Hid (Below w8.heap.size w8 w8.drew) := (Below.refl _ _).drew
      refine wp_region_held_drew (S := (fun u => u.cell? ⟨w.heap.size + 1, 0, none⟩ = some (.bool xf) ∧ u.cell? ⟨w.heap.size + 1, 1, none⟩ = some (xp) ∧ u.cell? ⟨w.heap.size + 1, 2, none⟩ = some (xc) ∧ u.cell? ⟨w.heap.size + 1, 3, none⟩ = some (xk) ∧ u.cell? ⟨w.heap.size + 1, 4, none⟩ = some (xb) ∧ u.cell? ⟨w.heap.size + 1, 5, none⟩ = some (xv) ∧ u.cell? ⟨bz, 0, none⟩ = some (.bool T2.leaf) ∧ u.cell? ⟨bz, 1, none⟩ = some (.slice e1 T2.pairs.length r1) ∧ u.cell? ⟨bz, 2, none⟩ = some (.slice e2 T2.cuts.length r2) ∧ u.cell? ⟨bz, 3, none⟩ = some (.slice e3 T2.kids.length r3) ∧ u.cell? ⟨bz, 4, none⟩ = some (.slice e4 T2.buf.length r4) ∧ u.cell? ⟨bz, 5, none⟩ = some (.slice e5 l2.length r5) ∧ Hid (Below w.heap.size w u))) (by kernel_rfl) (KE16.out _ RL.out) (fun hH => ?_)
      refine wpAnyH_take (i := 0) (oi := ⟨_, _, _, _, _, _⟩) (v := ?_) rfl (by kernel_rfl) (by kernel_rfl) (by kernel_rfl) (fun _ _ _ h => h) (Or.inl ⟨by rfl, ?_⟩) (by assumption) ?_
      rotate_left
      · ((intro w hSw; (try dsimp only at hSw); go_simp); (try with_reducible rfl))
      try simp only [Act.put, List.setIfInBounds_toArray, List.set_cons_zero, List.set_cons_succ]
      refine wpAnyH_take (i := 1) (oi := ⟨_, _, _, _, _, _⟩) (v := ?_) rfl (by kernel_rfl) (by kernel_rfl) (by kernel_rfl) (fun _ _ _ h => h) (Or.inl ⟨by rfl, ?_⟩) (by assumption) ?_
      rotate_left
      · ((intro w hSw; (try dsimp only at hSw); go_simp); (try with_reducible rfl))
      try simp only [Act.put, List.setIfInBounds_toArray, List.set_cons_zero, List.set_cons_succ]
      refine wpAnyH_ready (rs := [2]) (by kernel_rfl) (by simp) ?_
      refine AllReadyH.cons (o := ⟨_, _, _, _, _, _⟩) rfl (fun K hK => ?_) AllReadyH.nil
      refine (if_pos (show Region.wanted _ _ = true by kernel_rfl)).mpr ?_
      refine call_by 6 [.tmp 41] #[30] rfl run_toM _ rfl (TO2.out _ (Below.and SB.out RL.out)) ?_
      rintro e s2 ⟨y4, rfl, t4, b3⟩
      have T4 : Hid (MacAt n2 s2 y4 T2 l2) := t4
      replace RL : Hid (Below w8.heap.size w8 s2) := Below.and RL.out b3
      clear b3
      clear t4
      refine ⟨_, rfl, ?_⟩
      refine hK.out _ _ (KE16.out _ RL.out) (fun hH2 => ?_)
      clear hK K hH
      have hH := hH2
      clear hH2
      try simp only [Act.put, List.setIfInBounds_toArray, List.set_cons_zero, List.set_cons_succ]
      refine wpAnyH_ready (rs := [3]) (by kernel_rfl) (by simp) ?_
      refine AllReadyH.cons (o := ⟨_, _, _, _, _, _⟩) rfl (fun K hK => ?_) AllReadyH.nil
      refine (if_pos (show Region.wanted _ _ = true by kernel_rfl)).mpr ?_
      refine call_by 8 [.tmp 40, .tmp 42] #[40, 40] rfl run_eqM _ rfl (eqMachine_any n2 ⟨⟨T2.leaf, .slice e1 T2.pairs.length r1, .slice e2 T2.cuts.length r2, .slice e3 T2.kids.length r3, .slice e4 T2.buf.length r4⟩, .slice e5 l2.length r5⟩ y4 T2 l2 _ (K6.out.below RL.out) T4.out) ?_
      rintro e s3 ⟨rfl, b4⟩
      replace RL : Hid (Below w8.heap.size w8 s3) := Below.and RL.out b4
      clear b4
      refine ⟨_, rfl, ?_⟩
      refine hK.out _ _ (KE16.out _ RL.out) (fun hH2 => ?_)
      clear hK K hH
      have hH := hH2
      clear hH2
      try simp only [Act.put, List.setIfInBounds_toArray, List.set_cons_zero, List.set_cons_succ]
      refine wpAnyH_take (i := 4) (oi := ⟨_, _, _, _, _, _⟩) (v := ?_) rfl (by kernel_rfl) (by kernel_rfl) (by kernel_rfl) (fun _ _ _ h => h) (Or.inl ⟨by rfl, ?_⟩) (by assumption) ?_
      rotate_left
      · ((intro w hSw; (try dsimp only at hSw); go_simp); (try with_reducible rfl))
      try simp only [Act.put, List.setIfInBounds_toArray, List.set_cons_zero, List.set_cons_succ]
      refine wpAnyH_done (by kernel_rfl) ?_ _
      go_wp2
      go_ret
      exact ⟨rfl, Below.and SB.out RL.out⟩
    · rw [leftOf_no hb2] at SZ2
      have hs1 : ¬ (1048576 - ((sizeT n T + l1.length : Nat) : Int) < 0) := by omega
      generalize ((sizeT n T + l1.length : Nat) : Int) = sz1 at *
      go_enter Tryz.func3, Tryz.ntmps3
      go_wp2_with fail
      generalize ((w.alloc (.cells #[.bool lf, p, c, k, b, v] 30)).alloc (.cells #[.bool xf, xp, xc, xk, xb, xv] 30)) = W at *
      refine (SZ1.out _ HB.out.1).mono ?_
      rintro e w1 ⟨rfl, b1⟩
      have SL : Hid (Below W.heap.size W w1) := b1
      have SB : Hid (Below w.heap.size w w1) := Below.and HB.out.1 b1
      clear b1 c1 d1
      have c1 := (HB.out.2.1.step SL.out).cells
      have d1 := (HB.out.2.2.step SL.out).cells
      go_wp2_with fail
      refine (SZ2.out _ SB.out).mono ?_
      rintro e w2 ⟨rfl, b2⟩
      go_wp2
      go_ret
      exact ⟨rfl, Below.and SB.out b2⟩
  · rw [leftOf_no hb1] at SZ1
    go_enter Tryz.func3, Tryz.ntmps3
    go_wp2_with fail
    generalize ((w.alloc (.cells #[.bool lf, p, c, k, b, v] 30)).alloc (.cells #[.bool xf, xp, xc, xk, xb, xv] 30)) = W at *
    refine (SZ1.out _ HB.out.1).mono ?_
    rintro e w1 ⟨rfl, b1⟩
    go_wp2
    go_ret
    exact ⟨rfl, Below.and HB.out.1 b1⟩

end Go.Proofs.YtccdleafkhnfmaaGreat
