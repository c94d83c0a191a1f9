/-
  MachineSame of both sides, over whatever tells the maps of the two trees: the maps, and what was done last, are alike.
-/
import Derived.Test.YtccdleafkhnfmaaGreatMach
import Derived.Test.YtccdleafkhnfmaaGreatSameMap
import Derived.Deep.RegionHeld3
namespace Go.Proofs.YtccdleafkhnfmaaGreat
open Go.RowKit

theorem call_by {P : Program} {o : Oper} {a : Act} {K : Act → World → Prop} {Q : Exit → Act → World → Prop} {w : World} {R : Ending → World → Prop} (f : FuncId) (xs : List Operand) (ats : Array TypeId)
    (ho : o.op = .call { callee := .value (.func f), args := xs.toArray, argTypes := ats }) (hrun : ∀ args w, (callFunc f args).run P w = .ok (.enter f args) w) (args : List Value) (he : xs.map a.eval = args)
    (h : Calls P f args.toArray w R) (hk : ∀ e w', R e w' → ∃ v, e = .returned v ∧ K (a.put o.dst v) w') : o.wp P a w K Q := by
  have ef : a.eval (.func f) = .func (.func f) #[] #[] := rfl
  have hx : execOp a.eval o = callFunc f args.toArray := by
    unfold execOp
    simp [ho, resolve, Deferred.ofValue, invoke, ef, he]
  unfold Oper.wp
  rw [hx, hrun, Oper.upon_enter]
  refine Calls.mono h ?_
  intro e w' hr
  obtain ⟨v, rfl, hk⟩ := hk e w' hr
  exact hk
theorem run_map (args : Array Value) (w : World) : (callFunc 12 args).run Tryz.prog w = .ok (.enter 12 args) w := by go_simp
theorem run_same (args : Array Value) (w : World) : (callFunc 11 args).run Tryz.prog w = .ok (.enter 11 args) w := by go_simp

set_option maxRecDepth 100000 in
set_option maxHeartbeats 8000000 in
theorem specMachineSame_core (lf xf : Bool) (a1 a2 a3 a4 a5 e1 e2 e3 e4 e5 : Option Addr) (m1 m2 m3 m4 q1 q2 q3 q4 q5 o1 o2 o3 o4 r1 r2 r3 r4 r5 : Nat) (l1 l2 : DL) (D1 D2 : PL) (w : World)
    (hR1 : Row w (.slice a5 l1.length q5) l1.length (flatD l1)) (hR2 : Row w (.slice e5 l2.length r5) l2.length (flatD l2))
    (hM1 : ∀ u, Below w.heap.size w u → Calls Tryz.prog 12 #[.agg #[.bool lf, .slice a1 m1 q1, .slice a2 m2 q2, .slice a3 m3 q3, .slice a4 m4 q4]] u fun e w' => ∃ v', e = .returned v' ∧ w'.ownsRow u.heap.size 53 2 v' D1.length (flatP D1) ∧ Below u.heap.size u w')
    (hM2 : ∀ u, Below w.heap.size w u → Calls Tryz.prog 12 #[.agg #[.bool xf, .slice e1 o1 r1, .slice e2 o2 r2, .slice e3 o3 r3, .slice e4 o4 r4]] u fun e w' => ∃ v', e = .returned v' ∧ w'.ownsRow u.heap.size 53 2 v' D2.length (flatP D2) ∧ Below u.heap.size u w') :
    Calls Tryz.prog 5 #[.agg #[.bool lf, .slice a1 m1 q1, .slice a2 m2 q2, .slice a3 m3 q3, .slice a4 m4 q4, .slice a5 l1.length q5], .agg #[.bool xf, .slice e1 o1 r1, .slice e2 o2 r2, .slice e3 o3 r3, .slice e4 o4 r4, .slice e5 l2.length r5]] w fun e w' => e = .returned (.bool (decide (l1 = l2) && decide (D1 = D2))) ∧ Below w.heap.size w w' := by
  have M1 : Hid (∀ u, Below w.heap.size w u → Calls Tryz.prog 12 #[.agg #[.bool lf, .slice a1 m1 q1, .slice a2 m2 q2, .slice a3 m3 q3, .slice a4 m4 q4]] u fun e w' => ∃ v', e = .returned v' ∧ w'.ownsRow u.heap.size 53 2 v' D1.length (flatP D1) ∧ Below u.heap.size u w') := hM1
  have M2 : Hid (∀ u, Below w.heap.size w u → Calls Tryz.prog 12 #[.agg #[.bool xf, .slice e1 o1 r1, .slice e2 o2 r2, .slice e3 o3 r3, .slice e4 o4 r4]] u fun e w' => ∃ v', e = .returned v' ∧ w'.ownsRow u.heap.size 53 2 v' D2.length (flatP D2) ∧ Below u.heap.size u w') := hM2
  have RA : Hid (Row w (.slice a5 l1.length q5) l1.length (flatD l1) ∧ Row w (.slice e5 l2.length r5) l2.length (flatD l2)) := And.intro hR1 hR2
  obtain ⟨_, _, _, hle1⟩ := hR1.len
  obtain ⟨_, _, _, hle2⟩ := hR2.len
  clear hM1 hM2 hR1 hR2
  have N1 : MBox 40 ((w.alloc (.cells #[.bool lf, .slice a1 m1 q1, .slice a2 m2 q2, .slice a3 m3 q3, .slice a4 m4 q4, .slice a5 l1.length q5] 40)).alloc (.cells #[.bool xf, .slice e1 o1 r1, .slice e2 o2 r2, .slice e3 o3 r3, .slice e4 o4 r4, .slice e5 l2.length r5] 40)) w.heap.size #[.bool lf, .slice a1 m1 q1, .slice a2 m2 q2, .slice a3 m3 q3, .slice a4 m4 q4, .slice a5 l1.length q5] := (MBox.start _ w _).step (bel_nw _ _)
  have N2 := MBox.start 40 (w.alloc (.cells #[.bool lf, .slice a1 m1 q1, .slice a2 m2 q2, .slice a3 m3 q3, .slice a4 m4 q4, .slice a5 l1.length q5] 40)) #[.bool xf, .slice e1 o1 r1, .slice e2 o2 r2, .slice e3 o3 r3, .slice e4 o4 r4, .slice e5 l2.length r5]
  simp only [World.size_alloc] at N2
  have B2 : Below w.heap.size w ((w.alloc (.cells #[.bool lf, .slice a1 m1 q1, .slice a2 m2 q2, .slice a3 m3 q3, .slice a4 m4 q4, .slice a5 l1.length q5] 40)).alloc (.cells #[.bool xf, .slice e1 o1 r1, .slice e2 o2 r2, .slice e3 o3 r3, .slice e4 o4 r4, .slice e5 l2.length r5] 40)) := Below.and (bel_nw _ _) (bel_nw _ _)
  have KEEP : Hid (∀ u, Below ((w.alloc (.cells #[.bool lf, .slice a1 m1 q1, .slice a2 m2 q2, .slice a3 m3 q3, .slice a4 m4 q4, .slice a5 l1.length q5] 40)).alloc (.cells #[.bool xf, .slice e1 o1 r1, .slice e2 o2 r2, .slice e3 o3 r3, .slice e4 o4 r4, .slice e5 l2.length r5] 40)).heap.size ((w.alloc (.cells #[.bool lf, .slice a1 m1 q1, .slice a2 m2 q2, .slice a3 m3 q3, .slice a4 m4 q4, .slice a5 l1.length q5] 40)).alloc (.cells #[.bool xf, .slice e1 o1 r1, .slice e2 o2 r2, .slice e3 o3 r3, .slice e4 o4 r4, .slice e5 l2.length r5] 40)) u → (fun u => u.cell? ⟨w.heap.size, 0, none⟩ = some (.bool lf) ∧ u.cell? ⟨w.heap.size, 1, none⟩ = some (.slice a1 m1 q1) ∧ u.cell? ⟨w.heap.size, 2, none⟩ = some (.slice a2 m2 q2) ∧ u.cell? ⟨w.heap.size, 3, none⟩ = some (.slice a3 m3 q3) ∧ u.cell? ⟨w.heap.size, 4, none⟩ = some (.slice a4 m4 q4) ∧ u.cell? ⟨w.heap.size, 5, none⟩ = some (.slice a5 l1.length q5) ∧ u.cell? ⟨w.heap.size + 1, 0, none⟩ = some (.bool xf) ∧ u.cell? ⟨w.heap.size + 1, 1, none⟩ = some (.slice e1 o1 r1) ∧ u.cell? ⟨w.heap.size + 1, 2, none⟩ = some (.slice e2 o2 r2) ∧ u.cell? ⟨w.heap.size + 1, 3, none⟩ = some (.slice e3 o3 r3) ∧ u.cell? ⟨w.heap.size + 1, 4, none⟩ = some (.slice e4 o4 r4) ∧ u.cell? ⟨w.heap.size + 1, 5, none⟩ = some (.slice e5 l2.length r5) ∧ Hid (Below w.heap.size w u)) u) := fun u hu => by
    have k1 := (N1.step hu).cells
    have k2 := (N2.step hu).cells
    exact ⟨k1 0, k1 1, k1 2, k1 3, k1 4, k1 5, k2 0, k2 1, k2 2, k2 3, k2 4, k2 5, Below.and B2 hu⟩
  have c1 := N1.cells
  have d1 := N2.cells
  have HB : Hid _ := And.intro B2 (And.intro N1 N2)
  clear B2 N1 N2
  by_cases hD : D1 = D2
  · have hDD : Hid (decide (D1 = D2) = true) := decide_eq_true hD
    rw [hDD.out, Bool.and_true]
    clear hD
    by_cases hl : l1.length = l2.length
    · have hne : ((l1.length : Int) != (l2.length : Int)) = false := by rw [bne_eq_false_iff_eq]; omega
      have HL : Hid (l1.length = l2.length) := hl
      clear hl
      go_enter Tryz.func5, Tryz.ntmps5
      go_wp2_with fail
      generalize ((w.alloc (.cells #[.bool lf, .slice a1 m1 q1, .slice a2 m2 q2, .slice a3 m3 q3, .slice a4 m4 q4, .slice a5 l1.length q5] 40)).alloc (.cells #[.bool xf, .slice e1 o1 r1, .slice e2 o2 r2, .slice e3 o3 r3, .slice e4 o4 r4, .slice e5 l2.length r5] 40)) = W at *
      have SL : Hid (Below W.heap.size W W.drew) := (Below.refl _ _).drew
      have SB : Hid (Below w.heap.size w W.drew) := Below.and HB.out.1 SL.out
      clear c1 d1
      refine wp_region_held_drew (S := (fun u => u.cell? ⟨w.heap.size, 0, none⟩ = some (.bool lf) ∧ u.cell? ⟨w.heap.size, 1, none⟩ = some (.slice a1 m1 q1) ∧ u.cell? ⟨w.heap.size, 2, none⟩ = some (.slice a2 m2 q2) ∧ u.cell? ⟨w.heap.size, 3, none⟩ = some (.slice a3 m3 q3) ∧ u.cell? ⟨w.heap.size, 4, none⟩ = some (.slice a4 m4 q4) ∧ u.cell? ⟨w.heap.size, 5, none⟩ = some (.slice a5 l1.length q5) ∧ u.cell? ⟨w.heap.size + 1, 0, none⟩ = some (.bool xf) ∧ u.cell? ⟨w.heap.size + 1, 1, none⟩ = some (.slice e1 o1 r1) ∧ u.cell? ⟨w.heap.size + 1, 2, none⟩ = some (.slice e2 o2 r2) ∧ u.cell? ⟨w.heap.size + 1, 3, none⟩ = some (.slice e3 o3 r3) ∧ u.cell? ⟨w.heap.size + 1, 4, none⟩ = some (.slice e4 o4 r4) ∧ u.cell? ⟨w.heap.size + 1, 5, none⟩ = some (.slice e5 l2.length r5) ∧ Hid (Below w.heap.size w u))) (by kernel_rfl) (KEEP.out _ SL.out) (fun hH => ?_)
      refine wpAnyH_take (i := 0) (oi := ⟨_, _, _, _, _, _⟩) (v := ?_) rfl (by kernel_rfl) (by kernel_rfl) (by kernel_rfl) (fun _ _ _ h => h) (Or.inl ⟨by rfl, ?_⟩) (by assumption) ?_
      rotate_left
      · ((intro w hSw; (try dsimp only at hSw); go_simp); (try with_reducible rfl))
      try simp only [Act.put, List.setIfInBounds_toArray, List.set_cons_zero, List.set_cons_succ]
      refine wpAnyH_take (i := 1) (oi := ⟨_, _, _, _, _, _⟩) (v := ?_) rfl (by kernel_rfl) (by kernel_rfl) (by kernel_rfl) (fun _ _ _ h => h) (Or.inl ⟨by rfl, ?_⟩) (by assumption) ?_
      rotate_left
      · ((intro w hSw; (try dsimp only at hSw); go_simp); (try with_reducible rfl))
      try simp only [Act.put, List.setIfInBounds_toArray, List.set_cons_zero, List.set_cons_succ]
      refine wpAnyH_take (i := 3) (oi := ⟨_, _, _, _, _, _⟩) (v := ?_) rfl (by kernel_rfl) (by kernel_rfl) (by kernel_rfl) (fun _ _ _ h => h) (Or.inl ⟨by rfl, ?_⟩) (by assumption) ?_
      rotate_left
      · ((intro w hSw; (try dsimp only at hSw); go_simp); (try with_reducible rfl))
      try simp only [Act.put, List.setIfInBounds_toArray, List.set_cons_zero, List.set_cons_succ]
      refine wpAnyH_take (i := 4) (oi := ⟨_, _, _, _, _, _⟩) (v := ?_) rfl (by kernel_rfl) (by kernel_rfl) (by kernel_rfl) (fun _ _ _ h => h) (Or.inl ⟨by rfl, ?_⟩) (by assumption) ?_
      rotate_left
      · ((intro w hSw; (try dsimp only at hSw); go_simp); (try with_reducible rfl))
      try simp only [Act.put, List.setIfInBounds_toArray, List.set_cons_zero, List.set_cons_succ]
      refine wpAnyH_ready (rs := [2]) (by kernel_rfl) (by simp) ?_
      refine AllReadyH.cons (o := ⟨_, _, _, _, _, _⟩) rfl (fun K hK => ?_) AllReadyH.nil
      refine (if_pos (show Region.wanted _ _ = true by kernel_rfl)).mpr ?_
      refine call_by 12 [.tmp 7] #[37] rfl run_map _ rfl (M1.out _ SB.out) ?_
      rintro e w2 ⟨v1, rfl, p1, b1⟩
      refine ⟨_, rfl, ?_⟩
      have Q1 : Hid (Row w2 v1 D1.length (flatP D1)) := Row.of_owns p1
      replace SL : Hid (Below W.heap.size W w2) := Below.and SL.out b1
      replace SB : Hid (Below w.heap.size w w2) := Below.and SB.out b1
      clear p1 b1
      refine hK.out _ _ (KEEP.out _ SL.out) (fun hH2 => ?_)
      clear hK K hH
      have hH := hH2
      clear hH2
      try simp only [Act.put, List.setIfInBounds_toArray, List.set_cons_zero, List.set_cons_succ]
      refine wpAnyH_ready (rs := [5]) (by kernel_rfl) (by simp) ?_
      refine AllReadyH.cons (o := ⟨_, _, _, _, _, _⟩) rfl (fun K hK => ?_) AllReadyH.nil
      refine (if_pos (show Region.wanted _ _ = true by kernel_rfl)).mpr ?_
      refine call_by 12 [.tmp 10] #[37] rfl run_map _ rfl (M2.out _ SB.out) ?_
      rintro e w5 ⟨v2, rfl, p2, b2⟩
      refine ⟨_, rfl, ?_⟩
      have Q2 : Hid (Row w5 v2 D2.length (flatP D2)) := Row.of_owns p2
      replace Q1 : Hid (Row w5 v1 D1.length (flatP D1)) := Q1.out.below b2
      replace SL : Hid (Below W.heap.size W w5) := Below.and SL.out b2
      replace SB : Hid (Below w.heap.size w w5) := Below.and SB.out b2
      clear p2 b2
      refine hK.out _ _ (KEEP.out _ SL.out) (fun hH2 => ?_)
      clear hK K hH
      have hH := hH2
      clear hH2
      try simp only [Act.put, List.setIfInBounds_toArray, List.set_cons_zero, List.set_cons_succ]
      refine wpAnyH_ready (rs := [6]) (by kernel_rfl) (by simp) ?_
      refine AllReadyH.cons (o := ⟨_, _, _, _, _, _⟩) rfl (fun K hK => ?_) AllReadyH.nil
      refine (if_pos (show Region.wanted _ _ = true by kernel_rfl)).mpr ?_
      refine call_by 11 [.tmp 8, .tmp 11] #[33, 33] rfl run_same _ rfl (sameMap_any v1 v2 D1 D2 _ Q1.out Q2.out) ?_
      rintro e w6 ⟨rfl, b9⟩
      rw [hDD.out]
      refine ⟨_, rfl, ?_⟩
      replace SL : Hid (Below W.heap.size W w6) := Below.and SL.out b9
      replace SB : Hid (Below w.heap.size w w6) := Below.and SB.out b9
      clear b9
      refine hK.out _ _ (KEEP.out _ SL.out) (fun hH2 => ?_)
      clear hK K hH
      have hH := hH2
      clear hH2
      try simp only [Act.put, List.setIfInBounds_toArray, List.set_cons_zero, List.set_cons_succ]
      refine wpAnyH_take (i := 7) (oi := ⟨_, _, _, _, _, _⟩) (v := ?_) rfl (by kernel_rfl) (by kernel_rfl) (by kernel_rfl) (fun _ _ _ h => h) (Or.inl ⟨by rfl, ?_⟩) (by assumption) ?_
      rotate_left
      · ((intro w hSw; (try dsimp only at hSw); go_simp); (try with_reducible rfl))
      try simp only [Act.put, List.setIfInBounds_toArray, List.set_cons_zero, List.set_cons_succ]
      refine wpAnyH_take (i := 8) (oi := ⟨_, _, _, _, _, _⟩) (v := ?_) rfl (by kernel_rfl) (by kernel_rfl) (by kernel_rfl) (fun _ _ _ h => h) (Or.inl ⟨by rfl, ?_⟩) (by assumption) ?_
      rotate_left
      · ((intro w hSw; (try dsimp only at hSw); go_simp); (try with_reducible rfl))
      try simp only [Act.put, List.setIfInBounds_toArray, List.set_cons_zero, List.set_cons_succ]
      refine wpAnyH_take (i := 9) (oi := ⟨_, _, _, _, _, _⟩) (v := ?_) rfl (by kernel_rfl) (by kernel_rfl) (by kernel_rfl) (fun _ _ _ h => h) (Or.inl ⟨by rfl, ?_⟩) (by assumption) ?_
      rotate_left
      · ((intro w hSw; (try dsimp only at hSw); go_simp); (try with_reducible rfl))
      try simp only [Act.put, List.setIfInBounds_toArray, List.set_cons_zero, List.set_cons_succ]
      refine wpAnyH_take (i := 10) (oi := ⟨_, _, _, _, _, _⟩) (v := ?_) rfl (by kernel_rfl) (by kernel_rfl) (by kernel_rfl) (fun _ _ _ h => h) (Or.inl ⟨by rfl, ?_⟩) (by assumption) ?_
      rotate_left
      · ((intro w hSw; (try dsimp only at hSw); go_simp); (try with_reducible rfl))
      try simp only [Act.put, List.setIfInBounds_toArray, List.set_cons_zero, List.set_cons_succ]
      refine wpAnyH_take (i := 11) (oi := ⟨_, _, _, _, _, _⟩) (v := ?_) rfl (by kernel_rfl) (by kernel_rfl) (by kernel_rfl) (fun _ _ _ h => h) (Or.inl ⟨by rfl, ?_⟩) (by assumption) ?_
      rotate_left
      · ((intro w hSw; (try dsimp only at hSw); go_simp); (try with_reducible rfl))
      try simp only [Act.put, List.setIfInBounds_toArray, List.set_cons_zero, List.set_cons_succ]
      refine wpAnyH_take (i := 12) (oi := ⟨_, _, _, _, _, _⟩) (v := ?_) rfl (by kernel_rfl) (by kernel_rfl) (by kernel_rfl) (fun _ _ _ h => h) (Or.inl ⟨by rfl, ?_⟩) (by assumption) ?_
      rotate_left
      · ((intro w hSw; (try dsimp only at hSw); go_simp); (try with_reducible rfl))
      try simp only [Act.put, List.setIfInBounds_toArray, List.set_cons_zero, List.set_cons_succ]
      refine wpAnyH_take (i := 13) (oi := ⟨_, _, _, _, _, _⟩) (v := ?_) rfl (by kernel_rfl) (by kernel_rfl) (by kernel_rfl) (fun _ _ _ h => h) (Or.inl ⟨by rfl, ?_⟩) (by assumption) ?_
      rotate_left
      · ((intro w hSw; (try dsimp only at hSw); go_simp); (try with_reducible rfl))
      try simp only [Act.put, List.setIfInBounds_toArray, List.set_cons_zero, List.set_cons_succ]
      refine wpAnyH_take (i := 14) (oi := ⟨_, _, _, _, _, _⟩) (v := ?_) rfl (by kernel_rfl) (by kernel_rfl) (by kernel_rfl) (fun _ _ _ h => h) (Or.inl ⟨by rfl, ?_⟩) (by assumption) ?_
      rotate_left
      · ((intro w hSw; (try dsimp only at hSw); go_simp); (try with_reducible rfl))
      try simp only [Act.put, List.setIfInBounds_toArray, List.set_cons_zero, List.set_cons_succ]
      refine wpAnyH_take (i := 15) (oi := ⟨_, _, _, _, _, _⟩) (v := ?_) rfl (by kernel_rfl) (by kernel_rfl) (by kernel_rfl) (fun _ _ _ h => h) (Or.inl ⟨by rfl, ?_⟩) (by assumption) ?_
      rotate_left
      · ((intro w hSw; (try dsimp only at hSw); go_simp); (try with_reducible rfl))
      try simp only [Act.put, List.setIfInBounds_toArray, List.set_cons_zero, List.set_cons_succ]
      refine wpAnyH_take (i := 16) (oi := ⟨_, _, _, _, _, _⟩) (v := ?_) rfl (by kernel_rfl) (by kernel_rfl) (by kernel_rfl) (fun _ _ _ h => h) (Or.inl ⟨by rfl, ?_⟩) (by assumption) ?_
      rotate_left
      · ((intro w hSw; (try dsimp only at hSw); go_simp); (try with_reducible rfl))
      try simp only [Act.put, List.setIfInBounds_toArray, List.set_cons_zero, List.set_cons_succ]
      refine wpAnyH_done (by kernel_rfl) ?_ _
      have HX : Hid _ := And.intro SL.out SB.out
      clear hH SL SB Q1 Q2 KEEP
      generalize w6 = W6 at *
      have c1 := (HB.out.2.1.step HX.out.1).cells
      have d1 := (HB.out.2.2.step HX.out.1).cells
      obtain ⟨b, off, hal, hx0, hx1, hx2, hx3⟩ : ∃ (b off : Nat), (0 < l1.length → a5 = some ⟨b, off, none⟩) ∧ (∀ i, i < l1.length → w.cell? ⟨b, off + i * 4, none⟩ = some (.int .i64 (dC l1 i))) ∧ (∀ i, i < l1.length → w.cell? ⟨b, off + i * 4 + 1, none⟩ = some (.int .i64 (dS l1 i))) ∧ (∀ i, i < l1.length → w.cell? ⟨b, off + i * 4 + 2, none⟩ = some (.int .i64 (dV l1 i))) ∧ (∀ i, i < l1.length → w.cell? ⟨b, off + i * 4 + 3, none⟩ = some (.bool (dH l1 i))) := by
        obtain ⟨a', b, off, cap, he, _, _, h4, h5, h6, h7, h8⟩ := RA.out.1.dones
        simp at he
        obtain ⟨rfl, rfl⟩ := he
        exact ⟨b, off, h4, h5, h6, h7, h8⟩
      obtain ⟨b2, off2, hal2, hy0, hy1, hy2, hy3⟩ : ∃ (b off : Nat), (0 < l2.length → e5 = some ⟨b, off, none⟩) ∧ (∀ i, i < l2.length → w.cell? ⟨b, off + i * 4, none⟩ = some (.int .i64 (dC l2 i))) ∧ (∀ i, i < l2.length → w.cell? ⟨b, off + i * 4 + 1, none⟩ = some (.int .i64 (dS l2 i))) ∧ (∀ i, i < l2.length → w.cell? ⟨b, off + i * 4 + 2, none⟩ = some (.int .i64 (dV l2 i))) ∧ (∀ i, i < l2.length → w.cell? ⟨b, off + i * 4 + 3, none⟩ = some (.bool (dH l2 i))) := by
        obtain ⟨a', b, off, cap, he, _, _, h4, h5, h6, h7, h8⟩ := RA.out.2.dones
        simp at he
        obtain ⟨rfl, rfl⟩ := he
        exact ⟨b, off, h4, h5, h6, h7, h8⟩
      unfold maxLen at hle1 hle2
      clear c1 d1
      go_wp2
      go_loopw [5] (fun i wr => ∃ k : Nat, k ≤ l1.length ∧ i = .int .i64 k ∧ Hid (∀ i, i < k → dC l1 i = dC l2 i ∧ dS l1 i = dS l2 i ∧ dV l1 i = dV l2 i ∧ dH l1 i = dH l2 i) ∧ Hid (Below W6.heap.size W6 wr))
        (fun i _ => l1.length - (intOf i).toNat)
      case atStart => exact ⟨0, Nat.zero_le _, rfl, fun i hi => absurd hi (Nat.not_lt_zero _), Below.refl _ _⟩
      case round =>
        obtain ⟨k, hkl, rfl, ALL, hb6⟩ := hrel
        have hb : Hid (Below w.heap.size w wr) := Below.and HX.out.2 hb6.out
        have c1 := (HB.out.2.1.step (Below.and HX.out.1 hb6.out)).cells
        have d1 := (HB.out.2.2.step (Below.and HX.out.1 hb6.out)).cells
        have h10 : (k : Int) ≤ (l1.length : Int) := by omega
        by_cases hlt : k < l1.length
        · have hlt2 : k < l2.length := by have := HL.out; omega
          have hq1 := hal (by omega)
          subst hq1
          have hq2 := hal2 (by omega)
          subst hq2
          have f0 := (hb.out.cell (by exact cell_lt (hx0 k hlt))).trans (hx0 k hlt)
          have f1 := (hb.out.cell (by exact cell_lt (hx1 k hlt))).trans (hx1 k hlt)
          have f2 := (hb.out.cell (by exact cell_lt (hx2 k hlt))).trans (hx2 k hlt)
          have f3 := (hb.out.cell (by exact cell_lt (hx3 k hlt))).trans (hx3 k hlt)
          have g0 := (hb.out.cell (by exact cell_lt (hy0 k hlt2))).trans (hy0 k hlt2)
          have g1 := (hb.out.cell (by exact cell_lt (hy1 k hlt2))).trans (hy1 k hlt2)
          have g2 := (hb.out.cell (by exact cell_lt (hy2 k hlt2))).trans (hy2 k hlt2)
          have g3 := (hb.out.cell (by exact cell_lt (hy3 k hlt2))).trans (hy3 k hlt2)
          have hg := Tryz.guardD
          have hq := Tryz.neqD (dC l1 k) (dS l1 k) (dV l1 k) (dH l1 k) (dC l2 k) (dS l2 k) (dV l2 k) (dH l2 k)
          clear hal hal2 hx0 hx1 hx2 hx3 hy0 hy1 hy2 hy3
          by_cases he : dC l1 k = dC l2 k ∧ dS l1 k = dS l2 k ∧ dV l1 k = dV l2 k ∧ dH l1 k = dH l2 k
          · rw [decide_eq_true he, Bool.not_true] at hq
            have EQ : Hid _ := he
            clear he
            go_wp2
            go_quiet (fail)
            go_wp2
            go_roundw
            case rel => exact ⟨k + 1, by omega, by go_num, fun i hi => if h : i < k then ALL.out i h else by rw [show i = k by omega]; exact EQ.out, below_drewN hb6.out _⟩
            case measure => simp [intOf]; omega
          · rw [decide_eq_false he, Bool.not_false] at hq
            have NE : Hid (decide (l1 = l2) = false) := decide_eq_false (fun e => he (by subst e; exact ⟨rfl, rfl, rfl, rfl⟩))
            clear he
            go_wp2
            go_quiet (fail)
            go_wp2
            go_ret
            exact ⟨ret_bool NE.out.symm, Below.and HX.out.2 (below_drewN hb6.out _)⟩
        · go_wp2
          go_ret
          refine ⟨ret_bool ?_, hb.out⟩
          symm
          rw [decide_eq_true_iff]
          exact dl_ext HL.out (fun i hi => ALL.out i (by omega))
    · have hne : ((l1.length : Int) != (l2.length : Int)) = true := by rw [bne_iff_ne]; omega
      have NE : Hid (decide (l1 = l2) = false) := decide_eq_false (fun e => hl (by rw [e]))
      clear hl
      go_enter Tryz.func5, Tryz.ntmps5
      go_wp2_with fail
      generalize ((w.alloc (.cells #[.bool lf, .slice a1 m1 q1, .slice a2 m2 q2, .slice a3 m3 q3, .slice a4 m4 q4, .slice a5 l1.length q5] 40)).alloc (.cells #[.bool xf, .slice e1 o1 r1, .slice e2 o2 r2, .slice e3 o3 r3, .slice e4 o4 r4, .slice e5 l2.length r5] 40)) = W at *
      have SL : Hid (Below W.heap.size W W.drew) := (Below.refl _ _).drew
      have SB : Hid (Below w.heap.size w W.drew) := Below.and HB.out.1 SL.out
      clear c1 d1
      refine wp_region_held_drew (S := (fun u => u.cell? ⟨w.heap.size, 0, none⟩ = some (.bool lf) ∧ u.cell? ⟨w.heap.size, 1, none⟩ = some (.slice a1 m1 q1) ∧ u.cell? ⟨w.heap.size, 2, none⟩ = some (.slice a2 m2 q2) ∧ u.cell? ⟨w.heap.size, 3, none⟩ = some (.slice a3 m3 q3) ∧ u.cell? ⟨w.heap.size, 4, none⟩ = some (.slice a4 m4 q4) ∧ u.cell? ⟨w.heap.size, 5, none⟩ = some (.slice a5 l1.length q5) ∧ u.cell? ⟨w.heap.size + 1, 0, none⟩ = some (.bool xf) ∧ u.cell? ⟨w.heap.size + 1, 1, none⟩ = some (.slice e1 o1 r1) ∧ u.cell? ⟨w.heap.size + 1, 2, none⟩ = some (.slice e2 o2 r2) ∧ u.cell? ⟨w.heap.size + 1, 3, none⟩ = some (.slice e3 o3 r3) ∧ u.cell? ⟨w.heap.size + 1, 4, none⟩ = some (.slice e4 o4 r4) ∧ u.cell? ⟨w.heap.size + 1, 5, none⟩ = some (.slice e5 l2.length r5) ∧ Hid (Below w.heap.size w u))) (by kernel_rfl) (KEEP.out _ SL.out) (fun hH => ?_)
      refine wpAnyH_take (i := 0) (oi := ⟨_, _, _, _, _, _⟩) (v := ?_) rfl (by kernel_rfl) (by kernel_rfl) (by kernel_rfl) (fun _ _ _ h => h) (Or.inl ⟨by rfl, ?_⟩) (by assumption) ?_
      rotate_left
      · ((intro w hSw; (try dsimp only at hSw); go_simp); (try with_reducible rfl))
      try simp only [Act.put, List.setIfInBounds_toArray, List.set_cons_zero, List.set_cons_succ]
      refine wpAnyH_take (i := 1) (oi := ⟨_, _, _, _, _, _⟩) (v := ?_) rfl (by kernel_rfl) (by kernel_rfl) (by kernel_rfl) (fun _ _ _ h => h) (Or.inl ⟨by rfl, ?_⟩) (by assumption) ?_
      rotate_left
      · ((intro w hSw; (try dsimp only at hSw); go_simp); (try with_reducible rfl))
      try simp only [Act.put, List.setIfInBounds_toArray, List.set_cons_zero, List.set_cons_succ]
      refine wpAnyH_take (i := 3) (oi := ⟨_, _, _, _, _, _⟩) (v := ?_) rfl (by kernel_rfl) (by kernel_rfl) (by kernel_rfl) (fun _ _ _ h => h) (Or.inl ⟨by rfl, ?_⟩) (by assumption) ?_
      rotate_left
      · ((intro w hSw; (try dsimp only at hSw); go_simp); (try with_reducible rfl))
      try simp only [Act.put, List.setIfInBounds_toArray, List.set_cons_zero, List.set_cons_succ]
      refine wpAnyH_take (i := 4) (oi := ⟨_, _, _, _, _, _⟩) (v := ?_) rfl (by kernel_rfl) (by kernel_rfl) (by kernel_rfl) (fun _ _ _ h => h) (Or.inl ⟨by rfl, ?_⟩) (by assumption) ?_
      rotate_left
      · ((intro w hSw; (try dsimp only at hSw); go_simp); (try with_reducible rfl))
      try simp only [Act.put, List.setIfInBounds_toArray, List.set_cons_zero, List.set_cons_succ]
      refine wpAnyH_ready (rs := [2]) (by kernel_rfl) (by simp) ?_
      refine AllReadyH.cons (o := ⟨_, _, _, _, _, _⟩) rfl (fun K hK => ?_) AllReadyH.nil
      refine (if_pos (show Region.wanted _ _ = true by kernel_rfl)).mpr ?_
      refine call_by 12 [.tmp 7] #[37] rfl run_map _ rfl (M1.out _ SB.out) ?_
      rintro e w2 ⟨v1, rfl, p1, b1⟩
      refine ⟨_, rfl, ?_⟩
      have Q1 : Hid (Row w2 v1 D1.length (flatP D1)) := Row.of_owns p1
      replace SL : Hid (Below W.heap.size W w2) := Below.and SL.out b1
      replace SB : Hid (Below w.heap.size w w2) := Below.and SB.out b1
      clear p1 b1
      refine hK.out _ _ (KEEP.out _ SL.out) (fun hH2 => ?_)
      clear hK K hH
      have hH := hH2
      clear hH2
      try simp only [Act.put, List.setIfInBounds_toArray, List.set_cons_zero, List.set_cons_succ]
      refine wpAnyH_ready (rs := [5]) (by kernel_rfl) (by simp) ?_
      refine AllReadyH.cons (o := ⟨_, _, _, _, _, _⟩) rfl (fun K hK => ?_) AllReadyH.nil
      refine (if_pos (show Region.wanted _ _ = true by kernel_rfl)).mpr ?_
      refine call_by 12 [.tmp 10] #[37] rfl run_map _ rfl (M2.out _ SB.out) ?_
      rintro e w5 ⟨v2, rfl, p2, b2⟩
      refine ⟨_, rfl, ?_⟩
      have Q2 : Hid (Row w5 v2 D2.length (flatP D2)) := Row.of_owns p2
      replace Q1 : Hid (Row w5 v1 D1.length (flatP D1)) := Q1.out.below b2
      replace SL : Hid (Below W.heap.size W w5) := Below.and SL.out b2
      replace SB : Hid (Below w.heap.size w w5) := Below.and SB.out b2
      clear p2 b2
      refine hK.out _ _ (KEEP.out _ SL.out) (fun hH2 => ?_)
      clear hK K hH
      have hH := hH2
      clear hH2
      try simp only [Act.put, List.setIfInBounds_toArray, List.set_cons_zero, List.set_cons_succ]
      refine wpAnyH_ready (rs := [6]) (by kernel_rfl) (by simp) ?_
      refine AllReadyH.cons (o := ⟨_, _, _, _, _, _⟩) rfl (fun K hK => ?_) AllReadyH.nil
      refine (if_pos (show Region.wanted _ _ = true by kernel_rfl)).mpr ?_
      refine call_by 11 [.tmp 8, .tmp 11] #[33, 33] rfl run_same _ rfl (sameMap_any v1 v2 D1 D2 _ Q1.out Q2.out) ?_
      rintro e w6 ⟨rfl, b9⟩
      rw [hDD.out]
      refine ⟨_, rfl, ?_⟩
      replace SL : Hid (Below W.heap.size W w6) := Below.and SL.out b9
      replace SB : Hid (Below w.heap.size w w6) := Below.and SB.out b9
      clear b9
      refine hK.out _ _ (KEEP.out _ SL.out) (fun hH2 => ?_)
      clear hK K hH
      have hH := hH2
      clear hH2
      try simp only [Act.put, List.setIfInBounds_toArray, List.set_cons_zero, List.set_cons_succ]
      refine wpAnyH_take (i := 7) (oi := ⟨_, _, _, _, _, _⟩) (v := ?_) rfl (by kernel_rfl) (by kernel_rfl) (by kernel_rfl) (fun _ _ _ h => h) (Or.inl ⟨by rfl, ?_⟩) (by assumption) ?_
      rotate_left
      · ((intro w hSw; (try dsimp only at hSw); go_simp); (try with_reducible rfl))
      try simp only [Act.put, List.setIfInBounds_toArray, List.set_cons_zero, List.set_cons_succ]
      refine wpAnyH_take (i := 8) (oi := ⟨_, _, _, _, _, _⟩) (v := ?_) rfl (by kernel_rfl) (by kernel_rfl) (by kernel_rfl) (fun _ _ _ h => h) (Or.inl ⟨by rfl, ?_⟩) (by assumption) ?_
      rotate_left
      · ((intro w hSw; (try dsimp only at hSw); go_simp); (try with_reducible rfl))
      try simp only [Act.put, List.setIfInBounds_toArray, List.set_cons_zero, List.set_cons_succ]
      refine wpAnyH_take (i := 9) (oi := ⟨_, _, _, _, _, _⟩) (v := ?_) rfl (by kernel_rfl) (by kernel_rfl) (by kernel_rfl) (fun _ _ _ h => h) (Or.inl ⟨by rfl, ?_⟩) (by assumption) ?_
      rotate_left
      · ((intro w hSw; (try dsimp only at hSw); go_simp); (try with_reducible rfl))
      try simp only [Act.put, List.setIfInBounds_toArray, List.set_cons_zero, List.set_cons_succ]
      refine wpAnyH_take (i := 10) (oi := ⟨_, _, _, _, _, _⟩) (v := ?_) rfl (by kernel_rfl) (by kernel_rfl) (by kernel_rfl) (fun _ _ _ h => h) (Or.inl ⟨by rfl, ?_⟩) (by assumption) ?_
      rotate_left
      · ((intro w hSw; (try dsimp only at hSw); go_simp); (try with_reducible rfl))
      try simp only [Act.put, List.setIfInBounds_toArray, List.set_cons_zero, List.set_cons_succ]
      refine wpAnyH_take (i := 11) (oi := ⟨_, _, _, _, _, _⟩) (v := ?_) rfl (by kernel_rfl) (by kernel_rfl) (by kernel_rfl) (fun _ _ _ h => h) (Or.inl ⟨by rfl, ?_⟩) (by assumption) ?_
      rotate_left
      · ((intro w hSw; (try dsimp only at hSw); go_simp); (try with_reducible rfl))
      try simp only [Act.put, List.setIfInBounds_toArray, List.set_cons_zero, List.set_cons_succ]
      refine wpAnyH_take (i := 12) (oi := ⟨_, _, _, _, _, _⟩) (v := ?_) rfl (by kernel_rfl) (by kernel_rfl) (by kernel_rfl) (fun _ _ _ h => h) (Or.inl ⟨by rfl, ?_⟩) (by assumption) ?_
      rotate_left
      · ((intro w hSw; (try dsimp only at hSw); go_simp); (try with_reducible rfl))
      try simp only [Act.put, List.setIfInBounds_toArray, List.set_cons_zero, List.set_cons_succ]
      refine wpAnyH_take (i := 13) (oi := ⟨_, _, _, _, _, _⟩) (v := ?_) rfl (by kernel_rfl) (by kernel_rfl) (by kernel_rfl) (fun _ _ _ h => h) (Or.inl ⟨by rfl, ?_⟩) (by assumption) ?_
      rotate_left
      · ((intro w hSw; (try dsimp only at hSw); go_simp); (try with_reducible rfl))
      try simp only [Act.put, List.setIfInBounds_toArray, List.set_cons_zero, List.set_cons_succ]
      refine wpAnyH_take (i := 14) (oi := ⟨_, _, _, _, _, _⟩) (v := ?_) rfl (by kernel_rfl) (by kernel_rfl) (by kernel_rfl) (fun _ _ _ h => h) (Or.inl ⟨by rfl, ?_⟩) (by assumption) ?_
      rotate_left
      · ((intro w hSw; (try dsimp only at hSw); go_simp); (try with_reducible rfl))
      try simp only [Act.put, List.setIfInBounds_toArray, List.set_cons_zero, List.set_cons_succ]
      refine wpAnyH_take (i := 15) (oi := ⟨_, _, _, _, _, _⟩) (v := ?_) rfl (by kernel_rfl) (by kernel_rfl) (by kernel_rfl) (fun _ _ _ h => h) (Or.inl ⟨by rfl, ?_⟩) (by assumption) ?_
      rotate_left
      · ((intro w hSw; (try dsimp only at hSw); go_simp); (try with_reducible rfl))
      try simp only [Act.put, List.setIfInBounds_toArray, List.set_cons_zero, List.set_cons_succ]
      refine wpAnyH_take (i := 16) (oi := ⟨_, _, _, _, _, _⟩) (v := ?_) rfl (by kernel_rfl) (by kernel_rfl) (by kernel_rfl) (fun _ _ _ h => h) (Or.inl ⟨by rfl, ?_⟩) (by assumption) ?_
      rotate_left
      · ((intro w hSw; (try dsimp only at hSw); go_simp); (try with_reducible rfl))
      try simp only [Act.put, List.setIfInBounds_toArray, List.set_cons_zero, List.set_cons_succ]
      refine wpAnyH_done (by kernel_rfl) ?_ _
      go_wp2
      go_ret
      exact ⟨ret_bool NE.out.symm, SB.out⟩
  · have hDD : Hid (decide (D1 = D2) = false) := decide_eq_false hD
    rw [hDD.out, Bool.and_false]
    clear hD
    go_enter Tryz.func5, Tryz.ntmps5
    go_wp2_with fail
    generalize ((w.alloc (.cells #[.bool lf, .slice a1 m1 q1, .slice a2 m2 q2, .slice a3 m3 q3, .slice a4 m4 q4, .slice a5 l1.length q5] 40)).alloc (.cells #[.bool xf, .slice e1 o1 r1, .slice e2 o2 r2, .slice e3 o3 r3, .slice e4 o4 r4, .slice e5 l2.length r5] 40)) = W at *
    have SL : Hid (Below W.heap.size W W.drew) := (Below.refl _ _).drew
    have SB : Hid (Below w.heap.size w W.drew) := Below.and HB.out.1 SL.out
    clear c1 d1
    refine wp_region_held_drew (S := (fun u => u.cell? ⟨w.heap.size, 0, none⟩ = some (.bool lf) ∧ u.cell? ⟨w.heap.size, 1, none⟩ = some (.slice a1 m1 q1) ∧ u.cell? ⟨w.heap.size, 2, none⟩ = some (.slice a2 m2 q2) ∧ u.cell? ⟨w.heap.size, 3, none⟩ = some (.slice a3 m3 q3) ∧ u.cell? ⟨w.heap.size, 4, none⟩ = some (.slice a4 m4 q4) ∧ u.cell? ⟨w.heap.size, 5, none⟩ = some (.slice a5 l1.length q5) ∧ u.cell? ⟨w.heap.size + 1, 0, none⟩ = some (.bool xf) ∧ u.cell? ⟨w.heap.size + 1, 1, none⟩ = some (.slice e1 o1 r1) ∧ u.cell? ⟨w.heap.size + 1, 2, none⟩ = some (.slice e2 o2 r2) ∧ u.cell? ⟨w.heap.size + 1, 3, none⟩ = some (.slice e3 o3 r3) ∧ u.cell? ⟨w.heap.size + 1, 4, none⟩ = some (.slice e4 o4 r4) ∧ u.cell? ⟨w.heap.size + 1, 5, none⟩ = some (.slice e5 l2.length r5) ∧ Hid (Below w.heap.size w u))) (by kernel_rfl) (KEEP.out _ SL.out) (fun hH => ?_)
    refine wpAnyH_take (i := 0) (oi := ⟨_, _, _, _, _, _⟩) (v := ?_) rfl (by kernel_rfl) (by kernel_rfl) (by kernel_rfl) (fun _ _ _ h => h) (Or.inl ⟨by rfl, ?_⟩) (by assumption) ?_
    rotate_left
    · ((intro w hSw; (try dsimp only at hSw); go_simp); (try with_reducible rfl))
    try simp only [Act.put, List.setIfInBounds_toArray, List.set_cons_zero, List.set_cons_succ]
    refine wpAnyH_take (i := 1) (oi := ⟨_, _, _, _, _, _⟩) (v := ?_) rfl (by kernel_rfl) (by kernel_rfl) (by kernel_rfl) (fun _ _ _ h => h) (Or.inl ⟨by rfl, ?_⟩) (by assumption) ?_
    rotate_left
    · ((intro w hSw; (try dsimp only at hSw); go_simp); (try with_reducible rfl))
    try simp only [Act.put, List.setIfInBounds_toArray, List.set_cons_zero, List.set_cons_succ]
    refine wpAnyH_take (i := 3) (oi := ⟨_, _, _, _, _, _⟩) (v := ?_) rfl (by kernel_rfl) (by kernel_rfl) (by kernel_rfl) (fun _ _ _ h => h) (Or.inl ⟨by rfl, ?_⟩) (by assumption) ?_
    rotate_left
    · ((intro w hSw; (try dsimp only at hSw); go_simp); (try with_reducible rfl))
    try simp only [Act.put, List.setIfInBounds_toArray, List.set_cons_zero, List.set_cons_succ]
    refine wpAnyH_take (i := 4) (oi := ⟨_, _, _, _, _, _⟩) (v := ?_) rfl (by kernel_rfl) (by kernel_rfl) (by kernel_rfl) (fun _ _ _ h => h) (Or.inl ⟨by rfl, ?_⟩) (by assumption) ?_
    rotate_left
    · ((intro w hSw; (try dsimp only at hSw); go_simp); (try with_reducible rfl))
    try simp only [Act.put, List.setIfInBounds_toArray, List.set_cons_zero, List.set_cons_succ]
    refine wpAnyH_ready (rs := [2]) (by kernel_rfl) (by simp) ?_
    refine AllReadyH.cons (o := ⟨_, _, _, _, _, _⟩) rfl (fun K hK => ?_) AllReadyH.nil
    refine (if_pos (show Region.wanted _ _ = true by kernel_rfl)).mpr ?_
    refine call_by 12 [.tmp 7] #[37] rfl run_map _ rfl (M1.out _ SB.out) ?_
    rintro e w2 ⟨v1, rfl, p1, b1⟩
    refine ⟨_, rfl, ?_⟩
    have Q1 : Hid (Row w2 v1 D1.length (flatP D1)) := Row.of_owns p1
    replace SL : Hid (Below W.heap.size W w2) := Below.and SL.out b1
    replace SB : Hid (Below w.heap.size w w2) := Below.and SB.out b1
    clear p1 b1
    refine hK.out _ _ (KEEP.out _ SL.out) (fun hH2 => ?_)
    clear hK K hH
    have hH := hH2
    clear hH2
    try simp only [Act.put, List.setIfInBounds_toArray, List.set_cons_zero, List.set_cons_succ]
    refine wpAnyH_ready (rs := [5]) (by kernel_rfl) (by simp) ?_
    refine AllReadyH.cons (o := ⟨_, _, _, _, _, _⟩) rfl (fun K hK => ?_) AllReadyH.nil
    refine (if_pos (show Region.wanted _ _ = true by kernel_rfl)).mpr ?_
    refine call_by 12 [.tmp 10] #[37] rfl run_map _ rfl (M2.out _ SB.out) ?_
    rintro e w5 ⟨v2, rfl, p2, b2⟩
    refine ⟨_, rfl, ?_⟩
    have Q2 : Hid (Row w5 v2 D2.length (flatP D2)) := Row.of_owns p2
    replace Q1 : Hid (Row w5 v1 D1.length (flatP D1)) := Q1.out.below b2
    replace SL : Hid (Below W.heap.size W w5) := Below.and SL.out b2
    replace SB : Hid (Below w.heap.size w w5) := Below.and SB.out b2
    clear p2 b2
    refine hK.out _ _ (KEEP.out _ SL.out) (fun hH2 => ?_)
    clear hK K hH
    have hH := hH2
    clear hH2
    try simp only [Act.put, List.setIfInBounds_toArray, List.set_cons_zero, List.set_cons_succ]
    refine wpAnyH_ready (rs := [6]) (by kernel_rfl) (by simp) ?_
    refine AllReadyH.cons (o := ⟨_, _, _, _, _, _⟩) rfl (fun K hK => ?_) AllReadyH.nil
    refine (if_pos (show Region.wanted _ _ = true by kernel_rfl)).mpr ?_
    refine call_by 11 [.tmp 8, .tmp 11] #[33, 33] rfl run_same _ rfl (sameMap_any v1 v2 D1 D2 _ Q1.out Q2.out) ?_
    rintro e w6 ⟨rfl, b9⟩
    rw [hDD.out]
    refine ⟨_, rfl, ?_⟩
    replace SL : Hid (Below W.heap.size W w6) := Below.and SL.out b9
    replace SB : Hid (Below w.heap.size w w6) := Below.and SB.out b9
    clear b9
    refine hK.out _ _ (KEEP.out _ SL.out) (fun hH2 => ?_)
    clear hK K hH
    have hH := hH2
    clear hH2
    try simp only [Act.put, List.setIfInBounds_toArray, List.set_cons_zero, List.set_cons_succ]
    refine wpAnyH_take (i := 7) (oi := ⟨_, _, _, _, _, _⟩) (v := ?_) rfl (by kernel_rfl) (by kernel_rfl) (by kernel_rfl) (fun _ _ _ h => h) (Or.inl ⟨by rfl, ?_⟩) (by assumption) ?_
    rotate_left
    · ((intro w hSw; (try dsimp only at hSw); go_simp); (try with_reducible rfl))
    try simp only [Act.put, List.setIfInBounds_toArray, List.set_cons_zero, List.set_cons_succ]
    refine wpAnyH_take (i := 8) (oi := ⟨_, _, _, _, _, _⟩) (v := ?_) rfl (by kernel_rfl) (by kernel_rfl) (by kernel_rfl) (fun _ _ _ h => h) (Or.inl ⟨by rfl, ?_⟩) (by assumption) ?_
    rotate_left
    · ((intro w hSw; (try dsimp only at hSw); go_simp); (try with_reducible rfl))
    try simp only [Act.put, List.setIfInBounds_toArray, List.set_cons_zero, List.set_cons_succ]
    refine wpAnyH_take (i := 9) (oi := ⟨_, _, _, _, _, _⟩) (v := undef) rfl (by kernel_rfl) (by kernel_rfl) (by kernel_rfl) (fun _ _ _ h => h) (Or.inr ⟨by rfl, rfl⟩) (by assumption) ?_
    try simp only [Act.put, List.setIfInBounds_toArray, List.set_cons_zero, List.set_cons_succ]
    refine wpAnyH_take (i := 10) (oi := ⟨_, _, _, _, _, _⟩) (v := undef) rfl (by kernel_rfl) (by kernel_rfl) (by kernel_rfl) (fun _ _ _ h => h) (Or.inr ⟨by rfl, rfl⟩) (by assumption) ?_
    try simp only [Act.put, List.setIfInBounds_toArray, List.set_cons_zero, List.set_cons_succ]
    refine wpAnyH_take (i := 11) (oi := ⟨_, _, _, _, _, _⟩) (v := undef) rfl (by kernel_rfl) (by kernel_rfl) (by kernel_rfl) (fun _ _ _ h => h) (Or.inr ⟨by rfl, rfl⟩) (by assumption) ?_
    try simp only [Act.put, List.setIfInBounds_toArray, List.set_cons_zero, List.set_cons_succ]
    refine wpAnyH_take (i := 12) (oi := ⟨_, _, _, _, _, _⟩) (v := undef) rfl (by kernel_rfl) (by kernel_rfl) (by kernel_rfl) (fun _ _ _ h => h) (Or.inr ⟨by rfl, rfl⟩) (by assumption) ?_
    try simp only [Act.put, List.setIfInBounds_toArray, List.set_cons_zero, List.set_cons_succ]
    refine wpAnyH_take (i := 13) (oi := ⟨_, _, _, _, _, _⟩) (v := undef) rfl (by kernel_rfl) (by kernel_rfl) (by kernel_rfl) (fun _ _ _ h => h) (Or.inr ⟨by rfl, rfl⟩) (by assumption) ?_
    try simp only [Act.put, List.setIfInBounds_toArray, List.set_cons_zero, List.set_cons_succ]
    refine wpAnyH_take (i := 14) (oi := ⟨_, _, _, _, _, _⟩) (v := undef) rfl (by kernel_rfl) (by kernel_rfl) (by kernel_rfl) (fun _ _ _ h => h) (Or.inr ⟨by rfl, rfl⟩) (by assumption) ?_
    try simp only [Act.put, List.setIfInBounds_toArray, List.set_cons_zero, List.set_cons_succ]
    refine wpAnyH_take (i := 15) (oi := ⟨_, _, _, _, _, _⟩) (v := undef) rfl (by kernel_rfl) (by kernel_rfl) (by kernel_rfl) (fun _ _ _ h => h) (Or.inr ⟨by rfl, rfl⟩) (by assumption) ?_
    try simp only [Act.put, List.setIfInBounds_toArray, List.set_cons_zero, List.set_cons_succ]
    refine wpAnyH_take (i := 16) (oi := ⟨_, _, _, _, _, _⟩) (v := ?_) rfl (by kernel_rfl) (by kernel_rfl) (by kernel_rfl) (fun _ _ _ h => h) (Or.inl ⟨by rfl, ?_⟩) (by assumption) ?_
    rotate_left
    · ((intro w hSw; (try dsimp only at hSw); go_simp); (try with_reducible rfl))
    try simp only [Act.put, List.setIfInBounds_toArray, List.set_cons_zero, List.set_cons_succ]
    refine wpAnyH_done (by kernel_rfl) ?_ _
    go_wp2
    go_ret
    exact ⟨rfl, SB.out⟩

end Go.Proofs.YtccdleafkhnfmaaGreat
