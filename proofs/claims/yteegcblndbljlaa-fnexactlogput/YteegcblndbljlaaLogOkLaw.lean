/-
  The walk of the law FnExactLogOk.
-/
import Derived.Test.YteegcblndbljlaaLogs
import Derived.Test.YteegcblndbljlaaLogOkI
import Derived.Test.YteegcblndbljlaaCallBy
import Derived.Deep.RegionHeld3
namespace Go.Proofs.Yteegcblndbljlaa
open Go.RowKit

theorem run_toL (args : Array Value) (w : World) : (callFunc 35 args).run Try.prog w = .ok (.enter 35 args) w := by go_simp
theorem run_eqL (args : Array Value) (w : World) : (callFunc 36 args).run Try.prog w = .ok (.enter 36 args) w := by go_simp

set_option maxRecDepth 100000 in
set_option maxHeartbeats 8000000 in
theorem fnExactLogOk_any (b bt : Int) (v : Value) (l : EL) (w : World) (h : Row w v l.length (flatE l)) :
    Calls Try.prog 6 #[lgV b bt v] w fun e w' => e = .returned (.bool true) ∧ Below w.heap.size w w' := by
  have TT : Hid (Row w v l.length (flatE l)) := h
  have SZ1 : Hid (∀ u, Below w.heap.size w u → Calls Try.prog 34 #[lgV b bt v, .int .i64 1048576] u fun e w' => e = .returned (.int .i64 (if (l.length : Int) ≤ 1048576 then 1048576 - l.length else -1)) ∧ Below u.heap.size u w') := fun u hu => szLog_any b bt v l 1048576 u (TT.out.below hu) (by omega) (by omega)
  have N1 : MBox 51 (w.alloc (.cells #[.int .i64 b, .int .i64 bt, v] 51)) w.heap.size #[.int .i64 b, .int .i64 bt, v] := MBox.start _ w _
  have B2 : Below w.heap.size w (w.alloc (.cells #[.int .i64 b, .int .i64 bt, v] 51)) := bel_nw _ _
  have c1 := N1.cells
  have HB : Hid _ := And.intro B2 N1
  clear B2 N1 h
  by_cases hb1 : (l.length : Int) ≤ 1048576
  · rw [if_pos hb1] at SZ1
    have TO1 : Hid (∀ u, Below w.heap.size w u → Calls Try.prog 35 #[lgV b bt v] u fun e w' => ∃ v', e = .returned (lgV b bt v') ∧ w'.ownsRow u.heap.size 39 6 v' l.length (flatE l) ∧ Below u.heap.size u w') := fun u hu => toLog_any b bt v l u (TT.out.below hu) (by omega)
    have CS : Hid (∀ (u : World) (V : Value), Row u V l.length (flatE l) → Calls Try.prog 19 #[lgV b bt V] u fun e w' => e = .returned (.bool (logOkB b bt l)) ∧ Below u.heap.size u w') := fun u V hV => specLogOk_any b bt V l u hV (by omega)
    have CI : Hid (∀ (u : World) (V : Value), Row u V l.length (flatE l) → Calls Try.prog 18 #[lgV b bt V] u fun e w' => e = .returned (.bool (logOkB b bt l)) ∧ Below u.heap.size u w') := fun u V hV => implLogOk_any b bt V l u hV (by omega)
    have EQ : Hid (∀ (u : World) (V V2 : Value), Row u V l.length (flatE l) → Row u V2 l.length (flatE l) → Calls Try.prog 36 #[lgV b bt V, lgV b bt V2] u fun e w' => e = .returned (.bool true) ∧ Below u.heap.size u w') := fun u V V2 h1 h2 => (eqLog_any b bt b bt V V2 l l u h1 h2).mono (fun e w' ⟨he, hb⟩ => ⟨by rw [he]; simp, hb⟩)
    have hs1 : ¬ (1048576 - (l.length : Int) < 0) := by omega
    generalize logOkB b bt l = q0 at *
    generalize hll : l.length = ll at *
    have HLL : Hid _ := hll
    clear hll
    have hne : (q0 != q0) = false := by cases q0 <;> rfl
    go_enter Try.func6, Try.ntmps6
    go_wp2_with fail
    generalize (w.alloc (.cells #[.int .i64 b, .int .i64 bt, v] 51)) = W at *
    refine (SZ1.out _ HB.out.1).mono ?_
    rintro e w1 ⟨rfl, b1⟩
    have SL : Hid (Below W.heap.size W w1) := b1
    have SB : Hid (Below w.heap.size w w1) := Below.and HB.out.1 b1
    clear b1 c1
    have c1 := (HB.out.2.step SL.out).cells
    go_wp2_with fail
    refine (TO1.out _ SB.out).mono ?_
    rintro e w2 ⟨y1, rfl, t1, b2⟩
    have T1 : Hid (Row w2 y1 ll (flatE l)) := Row.of_owns t1
    replace SL : Hid (Below W.heap.size W w2) := Below.and SL.out b2
    replace SB : Hid (Below w.heap.size w w2) := Below.and SB.out b2
    clear b2 t1 c1
    go_wp2_with fail
    refine (CS.out _ _ T1.out).mono ?_
    rintro e w3 ⟨rfl, b3⟩
    replace SL : Hid (Below W.heap.size W w3) := Below.and SL.out b3
    replace SB : Hid (Below w.heap.size w w3) := Below.and SB.out b3
    clear b3 T1
    have c1 := (HB.out.2.step SL.out).cells
    go_wp2_with fail
    refine (TO1.out _ SB.out).mono ?_
    rintro e w5 ⟨y2, rfl, t1, b5⟩
    obtain ⟨a2, q2, hy2⟩ := owns_val t1
    subst hy2
    have X5 : Hid (MBox 26 (w5.alloc (.cells #[.int .i64 b, .int .i64 bt, .slice a2 ll q2] 26)) w5.heap.size #[.int .i64 b, .int .i64 bt, .slice a2 ll q2]) := MBox.start _ w5 _
    have M5 : Hid (Row (w5.alloc (.cells #[.int .i64 b, .int .i64 bt, .slice a2 ll q2] 26)) (.slice a2 ll q2) ll (flatE l)) := (Row.of_owns t1).below (bel_nw _ _)
    replace SL : Hid (Below W.heap.size W (w5.alloc (.cells #[.int .i64 b, .int .i64 bt, .slice a2 ll q2] 26))) := Below.and (Below.and SL.out b5) (bel_nw _ _)
    replace SB : Hid (Below w.heap.size w (w5.alloc (.cells #[.int .i64 b, .int .i64 bt, .slice a2 ll q2] 26))) := Below.and (Below.and SB.out b5) (bel_nw _ _)
    clear c1 t1 b5
    have c1 := X5.out.cells
    go_wp2_with fail
    generalize w5.heap.size = bx at *
    generalize w5.alloc (.cells #[.int .i64 b, .int .i64 bt, .slice a2 ll q2] 26) = W5 at *
    refine (CI.out _ _ M5.out).mono ?_
    rintro e w7 ⟨rfl, b7⟩
    replace X5 : Hid (MBox 26 w7 bx #[.int .i64 b, .int .i64 bt, .slice a2 ll q2]) := X5.out.step b7
    replace M5 : Hid (Row w7 (.slice a2 ll q2) ll (flatE l)) := M5.out.below b7
    replace SL : Hid (Below W.heap.size W w7) := Below.and SL.out b7
    replace SB : Hid (Below w.heap.size w w7) := Below.and SB.out b7
    clear b7 c1
    go_wp2_with fail
    have KE14 : Hid (∀ u, Below w7.heap.size w7 u → (fun u => u.cell? ⟨w.heap.size, 0, none⟩ = some (.int .i64 b) ∧ u.cell? ⟨w.heap.size, 1, none⟩ = some (.int .i64 bt) ∧ u.cell? ⟨w.heap.size, 2, none⟩ = some (v) ∧ u.cell? ⟨bx, 0, none⟩ = some (.int .i64 b) ∧ u.cell? ⟨bx, 1, none⟩ = some (.int .i64 bt) ∧ u.cell? ⟨bx, 2, none⟩ = some (.slice a2 ll q2) ∧ Hid (Below w.heap.size w u)) u) := fun u hu => by
      have k1 := (HB.out.2.step (Below.and SL.out hu)).cells
      have k2 := (X5.out.step hu).cells
      exact ⟨k1 0, k1 1, k1 2, k2 0, k2 1, k2 2, Below.and SB.out hu⟩
    have RL : Hid (Below w7.heap.size w7 w7.drew) := (Below.refl _ _).drew
    refine wp_region_held_drew (S := (fun u => u.cell? ⟨w.heap.size, 0, none⟩ = some (.int .i64 b) ∧ u.cell? ⟨w.heap.size, 1, none⟩ = some (.int .i64 bt) ∧ u.cell? ⟨w.heap.size, 2, none⟩ = some (v) ∧ u.cell? ⟨bx, 0, none⟩ = some (.int .i64 b) ∧ u.cell? ⟨bx, 1, none⟩ = some (.int .i64 bt) ∧ u.cell? ⟨bx, 2, none⟩ = some (.slice a2 ll q2) ∧ Hid (Below w.heap.size w u))) (by kernel_rfl) (KE14.out _ RL.out) (fun hH => ?_)
    refine wpAnyH_take (i := 0) (oi := ⟨_, _, _, _, _, _⟩) (v := ?_) rfl (by kernel_rfl) (by kernel_rfl) (by kernel_rfl) (fun _ _ _ h => h) (Or.inl ⟨by rfl, ?_⟩) (by assumption) ?_
    rotate_left
    · ((intro w hSw; (try dsimp only at hSw); go_simp); (try with_reducible rfl))
    try simp only [Act.put, List.setIfInBounds_toArray, List.set_cons_zero, List.set_cons_succ]
    refine wpAnyH_take (i := 1) (oi := ⟨_, _, _, _, _, _⟩) (v := ?_) rfl (by kernel_rfl) (by kernel_rfl) (by kernel_rfl) (fun _ _ _ h => h) (Or.inl ⟨by rfl, ?_⟩) (by assumption) ?_
    rotate_left
    · ((intro w hSw; (try dsimp only at hSw); go_simp); (try with_reducible rfl))
    try simp only [Act.put, List.setIfInBounds_toArray, List.set_cons_zero, List.set_cons_succ]
    refine wpAnyH_ready (rs := [2]) (by kernel_rfl) (by simp) ?_
    refine AllReadyH.cons (o := ⟨_, _, _, _, _, _⟩) rfl (fun K hK => ?_) AllReadyH.nil
    refine (if_pos (show Region.wanted _ _ = true by kernel_rfl)).mpr ?_
    refine call_by 35 [.tmp 23] #[51] rfl run_toL _ rfl (TO1.out _ (Below.and SB.out RL.out)) ?_
    rintro e u2 ⟨y3, rfl, t3, b3⟩
    have T3 : Hid (Row u2 y3 ll (flatE l)) := Row.of_owns t3
    replace RL : Hid (Below w7.heap.size w7 u2) := Below.and RL.out b3
    clear b3
    clear t3
    refine ⟨_, rfl, ?_⟩
    refine hK.out _ _ (KE14.out _ RL.out) (fun hH2 => ?_)
    clear hK K hH
    have hH := hH2
    clear hH2
    try simp only [Act.put, List.setIfInBounds_toArray, List.set_cons_zero, List.set_cons_succ]
    refine wpAnyH_ready (rs := [3]) (by kernel_rfl) (by simp) ?_
    refine AllReadyH.cons (o := ⟨_, _, _, _, _, _⟩) rfl (fun K hK => ?_) AllReadyH.nil
    refine (if_pos (show Region.wanted _ _ = true by kernel_rfl)).mpr ?_
    refine call_by 36 [.tmp 22, .tmp 24] #[26, 26] rfl run_eqL _ rfl (EQ.out _ (.slice a2 ll q2) y3 (M5.out.below RL.out) T3.out) ?_
    rintro e u3 ⟨rfl, b4⟩
    replace RL : Hid (Below w7.heap.size w7 u3) := Below.and RL.out b4
    clear b4
    refine ⟨_, rfl, ?_⟩
    refine hK.out _ _ (KE14.out _ RL.out) (fun hH2 => ?_)
    clear hK K hH
    have hH := hH2
    clear hH2
    try simp only [Act.put, List.setIfInBounds_toArray, List.set_cons_zero, List.set_cons_succ]
    refine wpAnyH_take (i := 4) (oi := ⟨_, _, _, _, _, _⟩) (v := ?_) rfl (by kernel_rfl) (by kernel_rfl) (by kernel_rfl) (fun _ _ _ h => h) (Or.inl ⟨by rfl, ?_⟩) (by assumption) ?_
    rotate_left
    · ((intro w hSw; (try dsimp only at hSw); go_simp); (try with_reducible rfl))
    try simp only [Act.put, List.setIfInBounds_toArray, List.set_cons_zero, List.set_cons_succ]
    refine wpAnyH_done (by kernel_rfl) ?_ _
    go_wp2
    go_ret
    exact ⟨rfl, Below.and SB.out RL.out⟩
  · rw [if_neg hb1] at SZ1
    go_enter Try.func6, Try.ntmps6
    go_wp2_with fail
    generalize (w.alloc (.cells #[.int .i64 b, .int .i64 bt, v] 51)) = W at *
    refine (SZ1.out _ HB.out.1).mono ?_
    rintro e w1 ⟨rfl, b1⟩
    go_wp2
    go_ret
    exact ⟨rfl, Below.and HB.out.1 b1⟩

end Go.Proofs.Yteegcblndbljlaa
