/-
  The model's drawing of logs.
-/
import Derived.Test.YteegcblndbljlaaDrawLg
import Derived.Test.YteegcblndbljlaaRegLast
import Derived.Test.YteegcblndbljlaaCallBy
import Derived.Deep.RegionHeld3
namespace Go.Proofs.Yteegcblndbljlaa
open Go.RowKit

theorem run_below (args : Array Value) (w : World) : (callFunc 48 args).run Try.prog w = .ok (.enter 48 args) w := by go_simp
theorem run_drawCmd (args : Array Value) (w : World) : (callFunc 50 args).run Try.prog w = .ok (.enter 50 args) w := by go_simp
theorem lg_set0 {W : World} {R : Nat} {t : TypeId} {x0 x1 x2 : Value} (c : Value) (h : W.heap[R]? = some (.cells #[x0, x1, x2] t (0, 0))) : (W.setCell ⟨R, 0, none⟩ c).heap[R]? = some (.cells #[c, x1, x2] t (0, 0)) := by
  have h2 := heap_setCell_same _ R 0 _ _ c h
  simpa using h2
theorem lg_set1 {W : World} {R : Nat} {t : TypeId} {x0 x1 x2 : Value} (c : Value) (h : W.heap[R]? = some (.cells #[x0, x1, x2] t (0, 0))) : (W.setCell ⟨R, 1, none⟩ c).heap[R]? = some (.cells #[x0, c, x2] t (0, 0)) := by
  have h2 := heap_setCell_same _ R 1 _ _ c h
  simpa using h2

set_option maxRecDepth 100000 in
set_option maxHeartbeats 4000000 in
theorem l8Draw_any (C : Nat) (w : World) (hc : Cur w C) :
    Calls Try.prog 45 #[.pointer (some ⟨C, 0, none⟩)] w fun e w' => ∃ (b bt : Int) (v : Value) (l : EL), e = .returned (lgV b bt v) ∧ -1 ≤ b ∧ b ≤ 100001 ∧ 0 ≤ bt ∧ bt ≤ 8 ∧ l.length ≤ 8 ∧ OwnE w' w.heap.size 39 6 v l.length (flatE l) ∧ Cur w' C ∧ Chg (fun g => g = C) w w' := by
  have hCw := hc.lt
  obtain ⟨i0, hi0, hz0, hz1, hz2⟩ := info_parts Try.info39
  have CU : Hid (Cur (w.alloc (.cells #[.int .i64 0, .int .i64 0, .slice none 0 0] 26)) C) := hc.alloc _
  have G : Hid (Chg (fun g => g = C) w (w.alloc (.cells #[.int .i64 0, .int .i64 0, .slice none 0 0] 26))) := (Chg.refl _ _).alloc _
  have NR : Hid (MBox 26 (w.alloc (.cells #[.int .i64 0, .int .i64 0, .slice none 0 0] 26)) w.heap.size #[.int .i64 0, .int .i64 0, .slice none 0 0]) := MBox.start _ _ _
  have SZ : Hid (w.heap.size + 1 ≤ (w.alloc (.cells #[.int .i64 0, .int .i64 0, .slice none 0 0] 26)).heap.size) := by show _ ≤ _; simp
  clear hc
  have hW0 : w.heap.size ≤ (w.alloc (.cells #[.int .i64 0, .int .i64 0, .slice none 0 0] 26)).heap.size := by simp
  go_enter Try.func45, Try.ntmps45
  go_wp2_with fail
  generalize (w.alloc (.cells #[.int .i64 0, .int .i64 0, .slice none 0 0] 26)) = W0 at *
  refine (l8DrawRight_any C _ CU.out).mono ?_
  rintro e w1 ⟨b, bt, v, l, rfl, hb0, hb1, ht0, ht1, hl, o1, c1, g1⟩
  replace CU : Hid (Cur w1 C) := c1
  replace G : Hid (Chg (fun g => g = C) w w1) := G.out.trans g1 (fun _ _ e => e)
  replace NR : Hid (MBox 26 w1 w.heap.size #[.int .i64 0, .int .i64 0, .slice none 0 0]) := row_chg NR.out g1 (by omega)
  replace SZ : Hid (w.heap.size + 1 ≤ w1.heap.size) := Nat.le_trans SZ.out g1.size
  obtain ⟨ax, qx, hv⟩ := OwnE.slice o1
  subst hv
  generalize hn : l.length = n at *
  have OE : Hid (OwnE w1 w.heap.size 39 6 (.slice ax n qx) n (flatE l)) := OwnE.mono o1 hW0
  have HL : Hid _ := hn
  clear c1 g1 o1 hn
  have bn := bel_nw w1 (.cells #[.int .i64 b, .int .i64 bt, .slice ax n qx] 26)
  have hX : w.heap.size + 1 ≤ w1.heap.size := SZ.out
  replace CU : Hid (Cur (w1.alloc (.cells #[.int .i64 b, .int .i64 bt, .slice ax n qx] 26)) C) := Cur.alloc CU.out _
  replace G : Hid (Chg (fun g => g = C) w (w1.alloc (.cells #[.int .i64 b, .int .i64 bt, .slice ax n qx] 26))) := G.out.alloc _
  replace NR : Hid (MBox 26 (w1.alloc (.cells #[.int .i64 b, .int .i64 bt, .slice ax n qx] 26)) w.heap.size #[.int .i64 0, .int .i64 0, .slice none 0 0]) := NR.out.step bn
  replace SZ : Hid (w.heap.size + 1 ≤ (w1.alloc (.cells #[.int .i64 b, .int .i64 bt, .slice ax n qx] 26)).heap.size) := Nat.le_trans SZ.out bn.size
  replace OE : Hid (OwnE (w1.alloc (.cells #[.int .i64 b, .int .i64 bt, .slice ax n qx] 26)) w.heap.size 39 6 (.slice ax n qx) n (flatE l)) := OwnE.below OE.out bn
  have NX : Hid (MBox 26 (w1.alloc (.cells #[.int .i64 b, .int .i64 bt, .slice ax n qx] 26)) w1.heap.size #[.int .i64 b, .int .i64 bt, .slice ax n qx]) := MBox.start _ _ _
  have SX : Hid (w1.heap.size + 1 ≤ (w1.alloc (.cells #[.int .i64 b, .int .i64 bt, .slice ax n qx] 26)).heap.size) := by show _ ≤ _; simp
  clear bn
  go_wp2_with fail
  generalize w1.heap.size = X at *
  generalize (w1.alloc (.cells #[.int .i64 b, .int .i64 bt, .slice ax n qx] 26)) = W1 at *
  refine (l1Below_any C 20 _ CU.out (by decide)).mono ?_
  rintro e w5 ⟨x5, rfl, hx5a, _, _, c1, g1⟩
  replace CU : Hid (Cur w5 C) := c1
  replace G : Hid (Chg (fun g => g = C) w w5) := G.out.trans g1 (fun _ _ e => e)
  replace NR : Hid (MBox 26 w5 w.heap.size #[.int .i64 0, .int .i64 0, .slice none 0 0]) := row_chg NR.out g1 (by omega)
  replace SZ : Hid (w.heap.size + 1 ≤ w5.heap.size) := Nat.le_trans SZ.out g1.size
  replace OE : Hid (OwnE w5 w.heap.size 39 6 (.slice ax n qx) n (flatE l)) := OwnE.chg OE.out g1 (fun q hq e => by have := (OwnE.lt OE.out q hq).1; omega)
  replace NX : Hid (MBox 26 w5 X #[.int .i64 b, .int .i64 bt, .slice ax n qx]) := row_chg NX.out g1 (by omega)
  replace SX : Hid (X + 1 ≤ w5.heap.size) := Nat.le_trans SX.out g1.size
  clear c1 g1
  rcases (show x5 = 0 ∨ x5 = 1 ∨ x5 = 2 ∨ 3 ≤ x5 by omega) with rfl | rfl | rfl | h4
  · have bn := bel_nw w5 (.cells #[.int .i64 (-1), .int .i64 100000, .int .i64 100001] 3)
    have hz5 : w.heap.size + 1 ≤ w5.heap.size := SZ.out
    replace CU : Hid (Cur (w5.alloc (.cells #[.int .i64 (-1), .int .i64 100000, .int .i64 100001] 3)) C) := Cur.alloc CU.out _
    replace G : Hid (Chg (fun g => g = C) w (w5.alloc (.cells #[.int .i64 (-1), .int .i64 100000, .int .i64 100001] 3))) := G.out.alloc _
    replace NR : Hid (MBox 26 (w5.alloc (.cells #[.int .i64 (-1), .int .i64 100000, .int .i64 100001] 3)) w.heap.size #[.int .i64 0, .int .i64 0, .slice none 0 0]) := NR.out.step bn
    replace SZ : Hid (w.heap.size + 1 ≤ (w5.alloc (.cells #[.int .i64 (-1), .int .i64 100000, .int .i64 100001] 3)).heap.size) := Nat.le_trans SZ.out bn.size
    replace OE : Hid (OwnE (w5.alloc (.cells #[.int .i64 (-1), .int .i64 100000, .int .i64 100001] 3)) w.heap.size 39 6 (.slice ax n qx) n (flatE l)) := OwnE.below OE.out bn
    replace NX : Hid (MBox 26 (w5.alloc (.cells #[.int .i64 (-1), .int .i64 100000, .int .i64 100001] 3)) X #[.int .i64 b, .int .i64 bt, .slice ax n qx]) := NX.out.step bn
    replace SX : Hid (X + 1 ≤ (w5.alloc (.cells #[.int .i64 (-1), .int .i64 100000, .int .i64 100001] 3)).heap.size) := Nat.le_trans SX.out bn.size
    clear bn
    go_wp2_with fail
    refine (l1PickInt_any C w5.heap.size [(-1), 100000, 100001] (by decide) (by decide) _ CU.out (heap_alloc_new _ _) (by omega)).mono ?_
    rintro e w6 ⟨y, rfl, hy, c1, g1⟩
    replace CU : Hid (Cur w6 C) := c1
    replace G : Hid (Chg (fun g => g = C) w w6) := G.out.trans g1 (fun _ _ e => e)
    replace NR : Hid (MBox 26 w6 w.heap.size #[.int .i64 0, .int .i64 0, .slice none 0 0]) := row_chg NR.out g1 (by omega)
    replace SZ : Hid (w.heap.size + 1 ≤ w6.heap.size) := Nat.le_trans SZ.out g1.size
    replace OE : Hid (OwnE w6 w.heap.size 39 6 (.slice ax n qx) n (flatE l)) := OwnE.chg OE.out g1 (fun q hq e => by have := (OwnE.lt OE.out q hq).1; omega)
    replace NX : Hid (MBox 26 w6 X #[.int .i64 b, .int .i64 bt, .slice ax n qx]) := row_chg NX.out g1 (by omega)
    replace SX : Hid (X + 1 ≤ w6.heap.size) := Nat.le_trans SX.out g1.size
    clear c1 g1
    have hy2 : -1 ≤ y ∧ y ≤ 100001 := by simp at hy; omega
    clear hy
    have cX := NX.out.cells
    have fX : ∀ q, w6.frozen? ⟨X, q, none⟩ = false := fun q => frozen_of_cells NX.out
    have nx := lg_set0 (.int .i64 y) NX.out
    have ch1 : Chg (fun g => g = X) w6 (w6.setCell ⟨X, 0, none⟩ (.int .i64 y)) := (Chg.refl (fun g => g = X) w6).setAt X 0 rfl (.int .i64 y)
    replace CU : Hid (Cur (w6.setCell ⟨X, 0, none⟩ (.int .i64 y)) C) := Cur.chg CU.out ch1 (fun g e => by omega)
    replace G : Hid (Chg (fun g => g = C) w (w6.setCell ⟨X, 0, none⟩ (.int .i64 y))) := G.out.trans ch1 (fun g hg e => by omega)
    replace NR : Hid (MBox 26 (w6.setCell ⟨X, 0, none⟩ (.int .i64 y)) w.heap.size #[.int .i64 0, .int .i64 0, .slice none 0 0]) := row_chg NR.out ch1 (by omega)
    replace SZ : Hid (w.heap.size + 1 ≤ (w6.setCell ⟨X, 0, none⟩ (.int .i64 y)).heap.size) := Nat.le_trans SZ.out ch1.size
    replace OE : Hid (OwnE (w6.setCell ⟨X, 0, none⟩ (.int .i64 y)) w.heap.size 39 6 (.slice ax n qx) n (flatE l)) := OwnE.chg OE.out ch1 (fun g hg => ownE_apart OE.out NX.out (by decide) hg)
    replace SX : Hid (X + 1 ≤ (w6.setCell ⟨X, 0, none⟩ (.int .i64 y)).heap.size) := Nat.le_trans SX.out ch1.size
    replace NX : Hid (MBox 26 (w6.setCell ⟨X, 0, none⟩ (.int .i64 y)) X #[.int .i64 y, .int .i64 bt, .slice ax n qx]) := nx
    clear nx ch1
    have dX := NX.out.cells
    have dR := NR.out.cells
    have yR : ∀ q, (w6.setCell ⟨X, 0, none⟩ (.int .i64 y)).frozen? ⟨w.heap.size, q, none⟩ = false := fun q => frozen_of_cells NR.out
    have X5 := lg_all (.int .i64 y) (.int .i64 bt) (.slice ax n qx) NR.out
    have ch2 := lg_all_chg (w6.setCell ⟨X, 0, none⟩ (.int .i64 y)) w.heap.size (.int .i64 y) (.int .i64 bt) (.slice ax n qx)
    have FIN : Hid (_ ∧ _ ∧ _ ∧ _) := And.intro X5 (And.intro (OwnE.chg OE.out ch2 (fun g hg => ownE_apart OE.out NR.out (by decide) hg)) (And.intro (Cur.chg CU.out ch2 (fun g e => by omega)) (G.out.trans ch2 (fun g hg e => by omega))))
    clear X5 ch2 NX NR OE CU G SX SZ
    go_wp2
    exact bodyPost_ret (v := lgV y bt (.slice ax n qx)) (by simp [results, Try.results45, go_sem, cell_of_cells FIN.out.1]) rfl ⟨y, bt, _, l, rfl, by omega, by omega, ht0, by omega, by have := HL.out; omega, by rw [HL.out]; exact FIN.out.2.1, FIN.out.2.2.1, FIN.out.2.2.2⟩
  · go_wp2_with fail
    refine (l1Below_any C 9 _ CU.out (by decide)).mono ?_
    rintro e w6 ⟨y, rfl, hy0, hy1, _, c1, g1⟩
    have hy2 : y < 9 := hy1 (by decide)
    replace CU : Hid (Cur w6 C) := c1
    replace G : Hid (Chg (fun g => g = C) w w6) := G.out.trans g1 (fun _ _ e => e)
    replace NR : Hid (MBox 26 w6 w.heap.size #[.int .i64 0, .int .i64 0, .slice none 0 0]) := row_chg NR.out g1 (by omega)
    replace SZ : Hid (w.heap.size + 1 ≤ w6.heap.size) := Nat.le_trans SZ.out g1.size
    replace OE : Hid (OwnE w6 w.heap.size 39 6 (.slice ax n qx) n (flatE l)) := OwnE.chg OE.out g1 (fun q hq e => by have := (OwnE.lt OE.out q hq).1; omega)
    replace NX : Hid (MBox 26 w6 X #[.int .i64 b, .int .i64 bt, .slice ax n qx]) := row_chg NX.out g1 (by omega)
    replace SX : Hid (X + 1 ≤ w6.heap.size) := Nat.le_trans SX.out g1.size
    clear c1 g1 hy1
    have cX := NX.out.cells
    have fX : ∀ q, w6.frozen? ⟨X, q, none⟩ = false := fun q => frozen_of_cells NX.out
    have nx := lg_set1 (.int .i64 y) NX.out
    have ch1 : Chg (fun g => g = X) w6 (w6.setCell ⟨X, 1, none⟩ (.int .i64 y)) := (Chg.refl (fun g => g = X) w6).setAt X 1 rfl (.int .i64 y)
    replace CU : Hid (Cur (w6.setCell ⟨X, 1, none⟩ (.int .i64 y)) C) := Cur.chg CU.out ch1 (fun g e => by omega)
    replace G : Hid (Chg (fun g => g = C) w (w6.setCell ⟨X, 1, none⟩ (.int .i64 y))) := G.out.trans ch1 (fun g hg e => by omega)
    replace NR : Hid (MBox 26 (w6.setCell ⟨X, 1, none⟩ (.int .i64 y)) w.heap.size #[.int .i64 0, .int .i64 0, .slice none 0 0]) := row_chg NR.out ch1 (by omega)
    replace SZ : Hid (w.heap.size + 1 ≤ (w6.setCell ⟨X, 1, none⟩ (.int .i64 y)).heap.size) := Nat.le_trans SZ.out ch1.size
    replace OE : Hid (OwnE (w6.setCell ⟨X, 1, none⟩ (.int .i64 y)) w.heap.size 39 6 (.slice ax n qx) n (flatE l)) := OwnE.chg OE.out ch1 (fun g hg => ownE_apart OE.out NX.out (by decide) hg)
    replace SX : Hid (X + 1 ≤ (w6.setCell ⟨X, 1, none⟩ (.int .i64 y)).heap.size) := Nat.le_trans SX.out ch1.size
    replace NX : Hid (MBox 26 (w6.setCell ⟨X, 1, none⟩ (.int .i64 y)) X #[.int .i64 b, .int .i64 y, .slice ax n qx]) := nx
    clear nx ch1
    have dX := NX.out.cells
    have dR := NR.out.cells
    have yR : ∀ q, (w6.setCell ⟨X, 1, none⟩ (.int .i64 y)).frozen? ⟨w.heap.size, q, none⟩ = false := fun q => frozen_of_cells NR.out
    have X5 := lg_all (.int .i64 b) (.int .i64 y) (.slice ax n qx) NR.out
    have ch2 := lg_all_chg (w6.setCell ⟨X, 1, none⟩ (.int .i64 y)) w.heap.size (.int .i64 b) (.int .i64 y) (.slice ax n qx)
    have FIN : Hid (_ ∧ _ ∧ _ ∧ _) := And.intro X5 (And.intro (OwnE.chg OE.out ch2 (fun g hg => ownE_apart OE.out NR.out (by decide) hg)) (And.intro (Cur.chg CU.out ch2 (fun g e => by omega)) (G.out.trans ch2 (fun g hg e => by omega))))
    clear X5 ch2 NX NR OE CU G SX SZ
    go_wp2
    exact bodyPost_ret (v := lgV b y (.slice ax n qx)) (by simp [results, Try.results45, go_sem, cell_of_cells FIN.out.1]) rfl ⟨b, y, _, l, rfl, by omega, by omega, hy0, by omega, by have := HL.out; omega, by rw [HL.out]; exact FIN.out.2.1, FIN.out.2.2.1, FIN.out.2.2.2⟩
  · have RM : Hid _ := room_of (n := n) (bytes := 48) (by have := HL.out; omega) (by decide)
    go_wp2_with fail
    have bd : Below w5.heap.size w5 w5.drew := (Below.refl _ _).drew
    have c1 := CU.out.below bd
    have g1 : Chg (fun g => g = C) w5 w5.drew := Chg.of_below bd
    replace CU : Hid (Cur w5.drew C) := c1
    replace G : Hid (Chg (fun g => g = C) w w5.drew) := G.out.trans g1 (fun _ _ e => e)
    replace NR : Hid (MBox 26 w5.drew w.heap.size #[.int .i64 0, .int .i64 0, .slice none 0 0]) := row_chg NR.out g1 (by omega)
    replace SZ : Hid (w.heap.size + 1 ≤ w5.drew.heap.size) := Nat.le_trans SZ.out g1.size
    replace OE : Hid (OwnE w5.drew w.heap.size 39 6 (.slice ax n qx) n (flatE l)) := OwnE.chg OE.out g1 (fun q hq e => by have := (OwnE.lt OE.out q hq).1; omega)
    replace NX : Hid (MBox 26 w5.drew X #[.int .i64 b, .int .i64 bt, .slice ax n qx]) := row_chg NX.out g1 (by omega)
    replace SX : Hid (X + 1 ≤ w5.drew.heap.size) := Nat.le_trans SX.out g1.size
    clear c1 g1 bd
    have hS0 : (fun u => u.cell? ⟨X, 2, none⟩ = some (.slice ax n qx)) w5.drew := NX.out.cells 2
    refine wp_region_last (fun u => u.cell? ⟨X, 2, none⟩ = some (.slice ax n qx)) [_, _, _, _, _, _, _, _, _, _] _ rfl (by kernel_rfl) (by kernel_rfl) ?_
    refine wpAnyH_take (i := 0) (oi := ⟨_, _, _, _, _, _⟩) (v := ?_) rfl (by kernel_rfl) (by kernel_rfl) (by kernel_rfl) (fun _ _ _ h => h) (Or.inl ⟨by rfl, ?_⟩) (by assumption) ?_
    rotate_left
    · ((intro w hSw; (try dsimp only at hSw); go_simp); (try with_reducible rfl))
    try simp only [Act.put, List.setIfInBounds_toArray, List.set_cons_zero, List.set_cons_succ]
    refine wpAnyH_take (i := 1) (oi := ⟨_, _, _, _, _, _⟩) (v := ?_) rfl (by kernel_rfl) (by kernel_rfl) (by kernel_rfl) (fun _ _ _ h => h) (Or.inl ⟨by rfl, ?_⟩) (by assumption) ?_
    rotate_left
    · ((intro w hSw; (try dsimp only at hSw); go_simp); (try with_reducible rfl))
    try simp only [Act.put, List.setIfInBounds_toArray, List.set_cons_zero, List.set_cons_succ]
    refine wpAnyH_take (i := 2) (oi := ⟨_, _, _, _, _, _⟩) (v := ?_) rfl (by kernel_rfl) (by kernel_rfl) (by kernel_rfl) (fun _ _ _ h => h) (Or.inl ⟨by rfl, ?_⟩) (by assumption) ?_
    rotate_left
    · ((intro w hSw; (try dsimp only at hSw); go_simp); (try with_reducible rfl))
    try simp only [Act.put, List.setIfInBounds_toArray, List.set_cons_zero, List.set_cons_succ]
    refine wpAnyH_take (i := 4) (oi := ⟨_, _, _, _, _, _⟩) (v := ?_) rfl (by kernel_rfl) (by kernel_rfl) (by kernel_rfl) (fun _ _ _ h => h) (Or.inl ⟨by rfl, ?_⟩) (by assumption) ?_
    rotate_left
    · ((intro w hSw; (try dsimp only at hSw); go_simp); (try with_reducible rfl))
    try simp only [Act.put, List.setIfInBounds_toArray, List.set_cons_zero, List.set_cons_succ]
    refine wpAnyH_ready (rs := [3]) (by kernel_rfl) (by simp) ?_
    refine AllReadyH.cons (o := ⟨_, _, _, _, _, _⟩) rfl (fun K hK => ?_) AllReadyH.nil
    refine (if_pos (show Region.wanted _ _ = true by kernel_rfl)).mpr ?_
    refine call_by 48 [.tmp 23, .const (.int .i64 3)] #[62, 3] rfl run_below _ rfl (l1Below_any C 3 _ CU.out (by decide)) ?_
    rintro e w6 ⟨y, rfl, hy0, hy1, _, c1, g1⟩
    replace CU : Hid (Cur w6 C) := c1
    replace G : Hid (Chg (fun g => g = C) w w6) := G.out.trans g1 (fun _ _ e => e)
    replace NR : Hid (MBox 26 w6 w.heap.size #[.int .i64 0, .int .i64 0, .slice none 0 0]) := row_chg NR.out g1 (by omega)
    replace SZ : Hid (w.heap.size + 1 ≤ w6.heap.size) := Nat.le_trans SZ.out g1.size
    replace OE : Hid (OwnE w6 w.heap.size 39 6 (.slice ax n qx) n (flatE l)) := OwnE.chg OE.out g1 (fun q hq e => by have := (OwnE.lt OE.out q hq).1; omega)
    replace NX : Hid (MBox 26 w6 X #[.int .i64 b, .int .i64 bt, .slice ax n qx]) := row_chg NX.out g1 (by omega)
    replace SX : Hid (X + 1 ≤ w6.heap.size) := Nat.le_trans SX.out g1.size
    clear c1 g1
    refine ⟨_, rfl, ?_⟩
    refine hK.out _ _ (NX.out.cells 2) (fun hH2 => ?_)
    clear hK K hS0
    have hH := hH2
    clear hH2
    try simp only [Act.put, List.setIfInBounds_toArray, List.set_cons_zero, List.set_cons_succ]
    refine wpAnyH_ready (rs := [5]) (by kernel_rfl) (by simp) ?_
    refine AllReadyH.cons (o := ⟨_, _, _, _, _, _⟩) rfl (fun K hK => ?_) AllReadyH.nil
    refine (if_pos (show Region.wanted _ _ = true by kernel_rfl)).mpr ?_
    refine call_by 50 [.tmp 25] #[62] rfl run_drawCmd _ rfl (l7DrawCmd_any C _ CU.out) ?_
    rintro e w7 ⟨cc, ss, oo, kk, vv, rfl, c1, g1⟩
    replace CU : Hid (Cur w7 C) := c1
    replace G : Hid (Chg (fun g => g = C) w w7) := G.out.trans g1 (fun _ _ e => e)
    replace NR : Hid (MBox 26 w7 w.heap.size #[.int .i64 0, .int .i64 0, .slice none 0 0]) := row_chg NR.out g1 (by omega)
    replace SZ : Hid (w.heap.size + 1 ≤ w7.heap.size) := Nat.le_trans SZ.out g1.size
    replace OE : Hid (OwnE w7 w.heap.size 39 6 (.slice ax n qx) n (flatE l)) := OwnE.chg OE.out g1 (fun q hq e => by have := (OwnE.lt OE.out q hq).1; omega)
    replace NX : Hid (MBox 26 w7 X #[.int .i64 b, .int .i64 bt, .slice ax n qx]) := row_chg NX.out g1 (by omega)
    replace SX : Hid (X + 1 ≤ w7.heap.size) := Nat.le_trans SX.out g1.size
    clear c1 g1
    refine ⟨_, rfl, ?_⟩
    refine hK.out _ _ (NX.out.cells 2) (fun hH2 => ?_)
    clear hK K hH
    have hH := hH2
    clear hH2
    try simp only [Act.put, List.setIfInBounds_toArray, List.set_cons_zero, List.set_cons_succ]
    refine wpAnyH_take (i := 6) (oi := ⟨_, _, _, _, _, _⟩) (v := ?_) rfl (by kernel_rfl) (by kernel_rfl) (by kernel_rfl) (fun _ _ _ h => h) (Or.inl ⟨by rfl, ?_⟩) (by assumption) ?_
    rotate_left
    · ((intro w hSw; (try dsimp only at hSw); go_simp); (try with_reducible rfl))
    try simp only [Act.put, List.setIfInBounds_toArray, List.set_cons_zero, List.set_cons_succ]
    refine wpAnyH_ready (rs := [7]) (by kernel_rfl) (by simp) ?_
    refine AllReadyH.cons (o := ⟨_, _, _, _, _, _⟩) rfl (fun K hK => ?_) AllReadyH.nil
    go_simp
    have bn := bel_nw w7 (.cells #[.int .i64 y, .int .i64 cc, .int .i64 ss, .int .i64 oo, .int .i64 kk, .int .i64 vv] 39)
    have HX : Hid ((w7.alloc (.cells #[.int .i64 y, .int .i64 cc, .int .i64 ss, .int .i64 oo, .int .i64 kk, .int .i64 vv] 39)).heap[w7.heap.size]? = some (.cells (flatE [(y, cc, ss, oo, kk, vv)]).toArray 39 (0, 0))) := heap_alloc_new w7 _
    replace CU : Hid (Cur (w7.alloc (.cells #[.int .i64 y, .int .i64 cc, .int .i64 ss, .int .i64 oo, .int .i64 kk, .int .i64 vv] 39)) C) := Cur.alloc CU.out _
    replace G : Hid (Chg (fun g => g = C) w (w7.alloc (.cells #[.int .i64 y, .int .i64 cc, .int .i64 ss, .int .i64 oo, .int .i64 kk, .int .i64 vv] 39))) := G.out.alloc _
    replace NR : Hid (MBox 26 (w7.alloc (.cells #[.int .i64 y, .int .i64 cc, .int .i64 ss, .int .i64 oo, .int .i64 kk, .int .i64 vv] 39)) w.heap.size #[.int .i64 0, .int .i64 0, .slice none 0 0]) := NR.out.step bn
    replace SZ : Hid (w.heap.size + 1 ≤ (w7.alloc (.cells #[.int .i64 y, .int .i64 cc, .int .i64 ss, .int .i64 oo, .int .i64 kk, .int .i64 vv] 39)).heap.size) := Nat.le_trans SZ.out bn.size
    replace OE : Hid (OwnE (w7.alloc (.cells #[.int .i64 y, .int .i64 cc, .int .i64 ss, .int .i64 oo, .int .i64 kk, .int .i64 vv] 39)) w.heap.size 39 6 (.slice ax n qx) n (flatE l)) := OwnE.below OE.out bn
    replace NX : Hid (MBox 26 (w7.alloc (.cells #[.int .i64 y, .int .i64 cc, .int .i64 ss, .int .i64 oo, .int .i64 kk, .int .i64 vv] 39)) X #[.int .i64 b, .int .i64 bt, .slice ax n qx]) := NX.out.step bn
    replace SX : Hid (X + 1 ≤ (w7.alloc (.cells #[.int .i64 y, .int .i64 cc, .int .i64 ss, .int .i64 oo, .int .i64 kk, .int .i64 vv] 39)).heap.size) := Nat.le_trans SX.out bn.size
    clear bn
    refine hK.out _ _ (NX.out.cells 2) (fun hH2 => ?_)
    clear hK K hH
    have hH := hH2
    clear hH2
    try simp only [Act.put, List.setIfInBounds_toArray, List.set_cons_zero, List.set_cons_succ]
    generalize (w7.alloc (.cells #[.int .i64 y, .int .i64 cc, .int .i64 ss, .int .i64 oo, .int .i64 kk, .int .i64 vv] 39)) = U1 at *
    refine wpAnyH_ready (rs := [8]) (by kernel_rfl) (by simp) ?_
    refine AllReadyH.cons (o := ⟨_, _, _, _, _, _⟩) rfl (fun K hK => ?_) AllReadyH.nil
    refine step_appE U1 rfl _ _ 24 rfl w.heap.size 39 i0 _ 6 48 Try.underlying24 hi0 hz0 hz1 hz2 rfl (by decide) (.slice ax n qx) n (flatE l) rfl OE.out (.slice (some ⟨w7.heap.size, 0, none⟩) 1 1) 1 (flatE [(y, cc, ss, oo, kk, vv)]) rfl (Row.of_box HX.out (by decide)) rfl (flatE_one _) RM.out.1 RM.out.2 (by have := SZ.out; omega) ?_
    intro v9 x AP
    obtain ⟨ap, cp, bp, _⟩ := AP
    rw [← flatE_append] at ap
    obtain ⟨a9, q9, hv9⟩ := OwnE.slice ap
    subst hv9
    have nx : MBox 26 x X #[.int .i64 b, .int .i64 bt, .slice ax n qx] := row_chg NX.out cp (fun hw => ownE_apart OE.out NX.out (by decide) hw rfl)
    have nr : MBox 26 x w.heap.size #[.int .i64 0, .int .i64 0, .slice none 0 0] := row_chg NR.out cp (fun hw => ownE_apart OE.out NR.out (by decide) hw rfl)
    have cu : Cur x C := Cur.chg CU.out cp (fun g hg => by have := (OwnE.lt OE.out g hg).1; omega)
    have gg : Chg (fun g => g = C) w x := G.out.trans cp (fun g hg e => by have := (OwnE.lt OE.out g e).1; omega)
    have sx : X + 1 ≤ x.heap.size := Nat.le_trans SX.out cp.size
    have sz : w.heap.size + 1 ≤ x.heap.size := Nat.le_trans SZ.out cp.size
    replace OE : Hid (OwnE x w.heap.size 39 6 (.slice a9 (n + 1) q9) (n + 1) (flatE (l ++ [(y, cc, ss, oo, kk, vv)]))) := ap
    replace NX : Hid (MBox 26 x X #[.int .i64 b, .int .i64 bt, .slice ax n qx]) := nx
    replace NR : Hid (MBox 26 x w.heap.size #[.int .i64 0, .int .i64 0, .slice none 0 0]) := nr
    replace CU : Hid (Cur x C) := cu
    replace G : Hid (Chg (fun g => g = C) w x) := gg
    replace SX : Hid (X + 1 ≤ x.heap.size) := sx
    replace SZ : Hid (w.heap.size + 1 ≤ x.heap.size) := sz
    clear ap cp bp nx nr cu gg sx sz
    refine hK.out _ _ (NX.out.cells 2) (fun hH2 => ?_)
    clear hK K hH
    have hH := hH2
    clear hH2
    try simp only [Act.put, List.setIfInBounds_toArray, List.set_cons_zero, List.set_cons_succ]
    refine wpAnyH_take (i := 9) (oi := ⟨_, _, _, _, _, _⟩) (v := ?_) rfl (by kernel_rfl) (by kernel_rfl) (by kernel_rfl) (fun _ _ _ h => h) (Or.inl ⟨by rfl, ?_⟩) (by assumption) ?_
    rotate_left
    · ((intro w hSw; (try dsimp only at hSw); go_simp); (try with_reducible rfl))
    try simp only [Act.put, List.setIfInBounds_toArray, List.set_cons_zero, List.set_cons_succ]
    have cX := NX.out.cells
    have fX : ∀ q, x.frozen? ⟨X, q, none⟩ = false := fun q => frozen_of_cells NX.out
    have nx := lg_last (.slice a9 (n + 1) q9) NX.out
    have ch1 : Chg (fun g => g = X) x (x.setCell ⟨X, 2, none⟩ (.slice a9 (n + 1) q9)) := (Chg.refl (fun g => g = X) x).setAt X 2 rfl (.slice a9 (n + 1) q9)
    replace CU : Hid (Cur (x.setCell ⟨X, 2, none⟩ (.slice a9 (n + 1) q9)) C) := Cur.chg CU.out ch1 (fun g e => by omega)
    replace G : Hid (Chg (fun g => g = C) w (x.setCell ⟨X, 2, none⟩ (.slice a9 (n + 1) q9))) := G.out.trans ch1 (fun g hg e => by omega)
    replace NR : Hid (MBox 26 (x.setCell ⟨X, 2, none⟩ (.slice a9 (n + 1) q9)) w.heap.size #[.int .i64 0, .int .i64 0, .slice none 0 0]) := row_chg NR.out ch1 (by omega)
    replace SZ : Hid (w.heap.size + 1 ≤ (x.setCell ⟨X, 2, none⟩ (.slice a9 (n + 1) q9)).heap.size) := Nat.le_trans SZ.out ch1.size
    replace OE : Hid (OwnE (x.setCell ⟨X, 2, none⟩ (.slice a9 (n + 1) q9)) w.heap.size 39 6 (.slice a9 (n + 1) q9) (n + 1) (flatE (l ++ [(y, cc, ss, oo, kk, vv)]))) := OwnE.chg OE.out ch1 (fun g hg => ownE_apart OE.out NX.out (by decide) hg)
    replace SX : Hid (X + 1 ≤ (x.setCell ⟨X, 2, none⟩ (.slice a9 (n + 1) q9)).heap.size) := Nat.le_trans SX.out ch1.size
    replace NX : Hid (MBox 26 (x.setCell ⟨X, 2, none⟩ (.slice a9 (n + 1) q9)) X #[.int .i64 b, .int .i64 bt, .slice a9 (n + 1) q9]) := nx
    clear nx ch1
    have HL2 : Hid ((l ++ [(y, cc, ss, oo, kk, vv)]).length = n + 1) := by show _ = _; rw [List.length_append, HL.out]; rfl
    refine wpAnyH_done (by kernel_rfl) ?_ _
    show Oper.wp _ _ _ _ _ _
    go_simp
    clear hH cX fX
    generalize (x.setCell ⟨X, 2, none⟩ (.slice a9 (n + 1) q9)) = V at *
    have dX := NX.out.cells
    have dR := NR.out.cells
    have yR : ∀ q, V.frozen? ⟨w.heap.size, q, none⟩ = false := fun q => frozen_of_cells NR.out
    have X5 := lg_all (.int .i64 b) (.int .i64 bt) (.slice a9 (n + 1) q9) NR.out
    have ch2 := lg_all_chg V w.heap.size (.int .i64 b) (.int .i64 bt) (.slice a9 (n + 1) q9)
    have FIN : Hid (_ ∧ _ ∧ _ ∧ _) := And.intro X5 (And.intro (OwnE.chg OE.out ch2 (fun g hg => ownE_apart OE.out NR.out (by decide) hg)) (And.intro (Cur.chg CU.out ch2 (fun g e => by omega)) (G.out.trans ch2 (fun g hg e => by omega))))
    clear X5 ch2 NX NR OE CU G SX SZ
    go_wp2
    exact bodyPost_ret (v := lgV b bt (.slice a9 (n + 1) q9)) (by simp [results, Try.results45, go_sem, cell_of_cells FIN.out.1]) rfl ⟨b, bt, _, (l ++ [(y, cc, ss, oo, kk, vv)]), rfl, by omega, by omega, ht0, by omega, by have := HL2.out; have := HL.out; omega, by rw [HL2.out]; exact FIN.out.2.1, FIN.out.2.2.1, FIN.out.2.2.2⟩
  · have e0 : (x5 == 0) = false := by rw [beq_eq_false_iff_ne]; omega
    have e1 : (x5 == 1) = false := by rw [beq_eq_false_iff_ne]; omega
    have e2 : (x5 == 2) = false := by rw [beq_eq_false_iff_ne]; omega
    have dX := NX.out.cells
    have dR := NR.out.cells
    have yR : ∀ q, w5.frozen? ⟨w.heap.size, q, none⟩ = false := fun q => frozen_of_cells NR.out
    have X5 := lg_all (.int .i64 b) (.int .i64 bt) (.slice ax n qx) NR.out
    have ch2 := lg_all_chg w5 w.heap.size (.int .i64 b) (.int .i64 bt) (.slice ax n qx)
    have FIN : Hid (_ ∧ _ ∧ _ ∧ _) := And.intro X5 (And.intro (OwnE.chg OE.out ch2 (fun g hg => ownE_apart OE.out NR.out (by decide) hg)) (And.intro (Cur.chg CU.out ch2 (fun g e => by omega)) (G.out.trans ch2 (fun g hg e => by omega))))
    clear X5 ch2 NX NR OE CU G SX SZ
    go_wp2
    exact bodyPost_ret (v := lgV b bt (.slice ax n qx)) (by simp [results, Try.results45, go_sem, cell_of_cells FIN.out.1]) rfl ⟨b, bt, _, l, rfl, by omega, by omega, ht0, by omega, by have := HL.out; omega, by rw [HL.out]; exact FIN.out.2.1, FIN.out.2.2.1, FIN.out.2.2.2⟩

end Go.Proofs.Yteegcblndbljlaa
