/-
  The model's drawing of a log and a number.
-/
import Derived.Test.YteegcblndbljlaaDrawLh
namespace Go.Proofs.Yteegcblndbljlaa
open Go.RowKit

theorem run_drawAt (args : Array Value) (w : World) : (callFunc 46 args).run Try.prog w = .ok (.enter 46 args) w := by go_simp

set_option maxRecDepth 100000 in
set_option maxHeartbeats 4000000 in
theorem l8DrawAt_any (C : Nat) (b bt : Int) (ax : Option Addr) (n qx : Nat) (w : World) (hc : Cur w C) (hb0 : -1 ≤ b) (hb1 : b ≤ 100001) (hn : n ≤ 100) :
    Calls Try.prog 46 #[.pointer (some ⟨C, 0, none⟩), lgV b bt (.slice ax n qx)] w fun e w' => ∃ i : Int, e = .returned (.int .i64 i) ∧ I64 i ∧ Cur w' C ∧ Chg (fun g => g = C) w w' := by
  have hCw := hc.lt
  have CU : Hid (Cur (w.alloc (.cells #[.int .i64 b, .int .i64 bt, .slice ax n qx] 26)) C) := hc.alloc _
  have G : Hid (Chg (fun g => g = C) w (w.alloc (.cells #[.int .i64 b, .int .i64 bt, .slice ax n qx] 26))) := (Chg.refl _ _).alloc _
  have NX : Hid (MBox 26 (w.alloc (.cells #[.int .i64 b, .int .i64 bt, .slice ax n qx] 26)) w.heap.size #[.int .i64 b, .int .i64 bt, .slice ax n qx]) := MBox.start _ _ _
  have SZ : Hid (w.heap.size + 1 ≤ (w.alloc (.cells #[.int .i64 b, .int .i64 bt, .slice ax n qx] 26)).heap.size) := by show _ ≤ _; simp
  clear hc
  go_enter Try.func46, Try.ntmps46
  go_wp2_with fail
  generalize (w.alloc (.cells #[.int .i64 b, .int .i64 bt, .slice ax n qx] 26)) = W0 at *
  refine (l1Once_any C 20 _ CU.out (by decide)).mono ?_
  rintro e w1 ⟨on, rfl, c1, g1⟩
  replace CU : Hid (Cur w1 C) := c1
  replace G : Hid (Chg (fun g => g = C) w w1) := G.out.trans g1 (fun _ _ e => e)
  replace NX : Hid (MBox 26 w1 w.heap.size #[.int .i64 b, .int .i64 bt, .slice ax n qx]) := row_chg NX.out g1 (by omega)
  replace SZ : Hid (w.heap.size + 1 ≤ w1.heap.size) := Nat.le_trans SZ.out g1.size
  clear c1 g1
  cases on
  · have hw6 : IntKind.i64.wrap ((n : Int) + 3) = (n : Int) + 3 := by rw [IntKind.wrap_i64]; omega
    go_wp2_with fail
    have bd : Below w1.heap.size w1 w1.drew := (Below.refl _ _).drew
    have c1 := CU.out.below bd
    have g1 : Chg (fun g => g = C) w1 w1.drew := Chg.of_below bd
    replace CU : Hid (Cur w1.drew C) := c1
    replace G : Hid (Chg (fun g => g = C) w w1.drew) := G.out.trans g1 (fun _ _ e => e)
    replace NX : Hid (MBox 26 w1.drew w.heap.size #[.int .i64 b, .int .i64 bt, .slice ax n qx]) := row_chg NX.out g1 (by omega)
    replace SZ : Hid (w.heap.size + 1 ≤ w1.drew.heap.size) := Nat.le_trans SZ.out g1.size
    clear c1 g1 bd
    refine wp_region_held_drew (S := (fun u => u.cell? ⟨w.heap.size, 0, none⟩ = some (.int .i64 b) ∧ u.cell? ⟨w.heap.size, 2, none⟩ = some (.slice ax n qx))) (by kernel_rfl) ⟨NX.out.cells 0, NX.out.cells 2⟩ (fun hH => ?_)
    refine wpAnyH_take (i := 0) (oi := ⟨_, _, _, _, _, _⟩) (v := ?_) rfl (by kernel_rfl) (by kernel_rfl) (by kernel_rfl) (fun _ _ _ h => h) (Or.inl ⟨by rfl, ?_⟩) (by assumption) ?_
    rotate_left
    · ((intro w hSw; (try dsimp only at hSw); go_simp); (try with_reducible rfl))
    try simp only [Act.put, List.setIfInBounds_toArray, List.set_cons_zero, List.set_cons_succ]
    refine wpAnyH_take (i := 1) (oi := ⟨_, _, _, _, _, _⟩) (v := ?_) rfl (by kernel_rfl) (by kernel_rfl) (by kernel_rfl) (fun _ _ _ h => h) (Or.inl ⟨by rfl, ?_⟩) (by assumption) ?_
    rotate_left
    · ((intro w hSw; (try dsimp only at hSw); go_simp); (try with_reducible rfl))
    try simp only [Act.put, List.setIfInBounds_toArray, List.set_cons_zero, List.set_cons_succ]
    refine wpAnyH_take (i := 2) (oi := ⟨_, _, _, _, _, _⟩) (v := ?_) rfl (by kernel_rfl) (by kernel_rfl) (by kernel_rfl) (fun _ _ _ h => h) (Or.inl ⟨by rfl, ?_⟩) (by assumption) ?_
    rotate_left
    · ((intro w hSw; (try dsimp only at hSw); go_simp); (try with_reducible rfl))
    try simp only [Act.put, List.setIfInBounds_toArray, List.set_cons_zero, List.set_cons_succ]
    refine wpAnyH_take (i := 3) (oi := ⟨_, _, _, _, _, _⟩) (v := ?_) rfl (by kernel_rfl) (by kernel_rfl) (by kernel_rfl) (fun _ _ _ h => h) (Or.inl ⟨by rfl, ?_⟩) (by assumption) ?_
    rotate_left
    · ((intro w hSw; (try dsimp only at hSw); go_simp); (try with_reducible rfl))
    try simp only [Act.put, List.setIfInBounds_toArray, List.set_cons_zero, List.set_cons_succ]
    refine wpAnyH_take (i := 4) (oi := ⟨_, _, _, _, _, _⟩) (v := ?_) rfl (by kernel_rfl) (by kernel_rfl) (by kernel_rfl) (fun _ _ _ h => h) (Or.inl ⟨by rfl, ?_⟩) (by assumption) ?_
    rotate_left
    · ((intro w hSw; (try dsimp only at hSw); go_simp); (try with_reducible rfl))
    try simp only [Act.put, List.setIfInBounds_toArray, List.set_cons_zero, List.set_cons_succ]
    refine wpAnyH_take (i := 5) (oi := ⟨_, _, _, _, _, _⟩) (v := ?_) rfl (by kernel_rfl) (by kernel_rfl) (by kernel_rfl) (fun _ _ _ h => h) (Or.inl ⟨by rfl, ?_⟩) (by assumption) ?_
    rotate_left
    · ((intro w hSw; (try dsimp only at hSw); go_simp); (try with_reducible rfl))
    try simp only [Act.put, List.setIfInBounds_toArray, List.set_cons_zero, List.set_cons_succ]
    refine wpAnyH_take (i := 6) (oi := ⟨_, _, _, _, _, _⟩) (v := ?_) rfl (by kernel_rfl) (by kernel_rfl) (by kernel_rfl) (fun _ _ _ h => h) (Or.inl ⟨by rfl, ?_⟩) (by assumption) ?_
    rotate_left
    · ((intro w hSw; (try dsimp only at hSw); go_simp); (try with_reducible rfl))
    try simp only [Act.put, List.setIfInBounds_toArray, List.set_cons_zero, List.set_cons_succ]
    refine wpAnyH_ready (rs := [7]) (by kernel_rfl) (by simp) ?_
    refine AllReadyH.cons (o := ⟨_, _, _, _, _, _⟩) rfl (fun K hK => ?_) AllReadyH.nil
    refine (if_pos (show Region.wanted _ _ = true by kernel_rfl)).mpr ?_
    refine call_by 48 [.tmp 12, .tmp 16] #[62, 3] rfl run_below _ rfl (l1Below_any C ((n : Int) + 3) _ CU.out (by omega)) ?_
    rintro e w6 ⟨y, rfl, hy0, hy1, _, c1, g1⟩
    have hy2 : y < (n : Int) + 3 := hy1 (by omega)
    replace CU : Hid (Cur w6 C) := c1
    replace G : Hid (Chg (fun g => g = C) w w6) := G.out.trans g1 (fun _ _ e => e)
    replace NX : Hid (MBox 26 w6 w.heap.size #[.int .i64 b, .int .i64 bt, .slice ax n qx]) := row_chg NX.out g1 (by omega)
    replace SZ : Hid (w.heap.size + 1 ≤ w6.heap.size) := Nat.le_trans SZ.out g1.size
    clear c1 g1 hy1
    have hw8 : IntKind.i64.wrap (b + y) = b + y := by rw [IntKind.wrap_i64]; omega
    have hw9 : IntKind.i64.wrap (b + y - 1) = b + y - 1 := by rw [IntKind.wrap_i64]; omega
    refine ⟨_, rfl, ?_⟩
    refine hK.out _ _ (⟨NX.out.cells 0, NX.out.cells 2⟩) (fun hH2 => ?_)
    clear hK K hH
    have hH := hH2
    clear hH2
    try simp only [Act.put, List.setIfInBounds_toArray, List.set_cons_zero, List.set_cons_succ]
    refine wpAnyH_take (i := 8) (oi := ⟨_, _, _, _, _, _⟩) (v := ?_) rfl (by kernel_rfl) (by kernel_rfl) (by kernel_rfl) (fun _ _ _ h => h) (Or.inl ⟨by rfl, ?_⟩) (by assumption) ?_
    rotate_left
    · ((intro w hSw; (try dsimp only at hSw); go_simp); (try with_reducible rfl))
    try simp only [Act.put, List.setIfInBounds_toArray, List.set_cons_zero, List.set_cons_succ]
    refine wpAnyH_take (i := 9) (oi := ⟨_, _, _, _, _, _⟩) (v := ?_) rfl (by kernel_rfl) (by kernel_rfl) (by kernel_rfl) (fun _ _ _ h => h) (Or.inl ⟨by rfl, ?_⟩) (by assumption) ?_
    rotate_left
    · ((intro w hSw; (try dsimp only at hSw); go_simp); (try with_reducible rfl))
    try simp only [Act.put, List.setIfInBounds_toArray, List.set_cons_zero, List.set_cons_succ]
    refine wpAnyH_take (i := 10) (oi := ⟨_, _, _, _, _, _⟩) (v := ?_) rfl (by kernel_rfl) (by kernel_rfl) (by kernel_rfl) (fun _ _ _ h => h) (Or.inl ⟨by rfl, ?_⟩) (by assumption) ?_
    rotate_left
    · ((intro w hSw; (try dsimp only at hSw); go_simp); (try with_reducible rfl))
    try simp only [Act.put, List.setIfInBounds_toArray, List.set_cons_zero, List.set_cons_succ]
    refine wpAnyH_done (by kernel_rfl) ?_ _
    clear hH hw6 hw8 hw9
    have FIN : Hid (I64 (b + y - 1) ∧ _ ∧ _) := ⟨⟨by omega, by omega⟩, CU.out, G.out⟩
    clear CU G NX SZ
    go_wp2
    go_ret
    exact ⟨_, rfl, FIN.out⟩
  · have bn := bel_nw w1 (.cells #[.int .i64 (-1), .int .i64 9223372036854775807, .int .i64 (-9223372036854775807)] 3)
    have hz5 : w.heap.size + 1 ≤ w1.heap.size := SZ.out
    replace CU : Hid (Cur (w1.alloc (.cells #[.int .i64 (-1), .int .i64 9223372036854775807, .int .i64 (-9223372036854775807)] 3)) C) := Cur.alloc CU.out _
    replace G : Hid (Chg (fun g => g = C) w (w1.alloc (.cells #[.int .i64 (-1), .int .i64 9223372036854775807, .int .i64 (-9223372036854775807)] 3))) := G.out.alloc _
    replace NX : Hid (MBox 26 (w1.alloc (.cells #[.int .i64 (-1), .int .i64 9223372036854775807, .int .i64 (-9223372036854775807)] 3)) w.heap.size #[.int .i64 b, .int .i64 bt, .slice ax n qx]) := NX.out.step bn
    replace SZ : Hid (w.heap.size + 1 ≤ (w1.alloc (.cells #[.int .i64 (-1), .int .i64 9223372036854775807, .int .i64 (-9223372036854775807)] 3)).heap.size) := Nat.le_trans SZ.out bn.size
    clear bn
    go_wp2_with fail
    refine (l1PickInt_any C w1.heap.size [(-1), 9223372036854775807, (-9223372036854775807)] (by decide) (by decide) _ CU.out (heap_alloc_new _ _) (by omega)).mono ?_
    rintro e w6 ⟨y, rfl, hy, c1, g1⟩
    replace CU : Hid (Cur w6 C) := c1
    replace G : Hid (Chg (fun g => g = C) w w6) := G.out.trans g1 (fun _ _ e => e)
    replace NX : Hid (MBox 26 w6 w.heap.size #[.int .i64 b, .int .i64 bt, .slice ax n qx]) := row_chg NX.out g1 (by omega)
    replace SZ : Hid (w.heap.size + 1 ≤ w6.heap.size) := Nat.le_trans SZ.out g1.size
    have hy2 : I64 y := by simp at hy; unfold I64; omega
    have FIN : Hid (_ ∧ _ ∧ _) := And.intro hy2 (And.intro CU.out G.out)
    clear c1 g1 hy hy2 CU G NX SZ
    go_wp2
    go_ret
    exact ⟨_, rfl, FIN.out⟩

end Go.Proofs.Yteegcblndbljlaa
