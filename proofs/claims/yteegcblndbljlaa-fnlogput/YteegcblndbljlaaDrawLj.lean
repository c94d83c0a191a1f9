/-
  The model's drawing of a log and a number, all together.
-/
import Derived.Test.YteegcblndbljlaaDrawLi
namespace Go.Proofs.Yteegcblndbljlaa
open Go.RowKit

set_option maxRecDepth 100000 in
set_option maxHeartbeats 4000000 in
theorem l8DrawBoth_any (v : Value) (bs : List Int) (w : World) (hc : Code8 w v bs) (hn : bs.length ≤ 1048576) :
    Calls Try.prog 60 #[v] w fun e w' => ∃ (b bt : Int) (ax : Option Addr) (n qx : Nat) (l : EL) (i : Int), e = .returned (.tuple #[lgV b bt (.slice ax n qx), .int .i64 i]) ∧ -1 ≤ b ∧ b ≤ 100001 ∧ 0 ≤ bt ∧ bt ≤ 8 ∧ l.length = n ∧ n ≤ 8 ∧ I64 i ∧ OwnE w' w.heap.size 39 6 (.slice ax n qx) n (flatE l) ∧ Below w.heap.size w w' := by
  have NR : Hid (MBox 26 (w.alloc (.cells #[.int .i64 0, .int .i64 0, .slice none 0 0] 26)) w.heap.size #[.int .i64 0, .int .i64 0, .slice none 0 0]) := MBox.start _ _ _
  have C8 : Hid (Code8 (w.alloc (.cells #[.int .i64 0, .int .i64 0, .slice none 0 0] 26)) v bs) := hc.below (bel_nw _ _)
  have B0 : Hid (Below w.heap.size w (w.alloc (.cells #[.int .i64 0, .int .i64 0, .slice none 0 0] 26))) := bel_nw _ _
  have hW0 : (w.alloc (.cells #[.int .i64 0, .int .i64 0, .slice none 0 0] 26)).heap.size = w.heap.size + 1 := by simp
  have HW0 : Hid _ := hW0
  clear hc hW0
  go_enter Try.func60, Try.ntmps60
  go_wp2_with fail
  generalize (w.alloc (.cells #[.int .i64 0, .int .i64 0, .slice none 0 0] 26)) = W0 at *
  refine (l1New_any v bs _ C8.out hn).mono ?_
  rintro e w1 ⟨rfl, c1, s1, b1⟩
  replace NR : Hid (MBox 26 w1 w.heap.size #[.int .i64 0, .int .i64 0, .slice none 0 0]) := NR.out.step b1
  generalize hC : W0.heap.size = C at *
  have hC2 : w.heap.size + 1 ≤ C := by have := HW0.out; omega
  have BW : Hid (Below w.heap.size w w1) := by have := b1; rw [← hC] at this; exact Below.and B0.out this
  have CU : Hid (Cur w1 C) := c1
  have SZ : Hid (C + 1 ≤ w1.heap.size) := s1
  clear c1 s1 b1 hC B0 C8 HW0
  go_wp2_with fail
  have SZO : Hid (C + 1 ≤ w1.heap.size) := SZ.out
  refine (l8Draw_any C _ CU.out).mono ?_
  rintro e w2 ⟨b, bt, vv, l, rfl, hb0, hb1, ht0, ht1, hl, o1, c1, g1⟩
  replace CU : Hid (Cur w2 C) := c1
  replace NR : Hid (MBox 26 w2 w.heap.size #[.int .i64 0, .int .i64 0, .slice none 0 0]) := row_chg NR.out g1 (by omega)
  replace SZ : Hid (C + 1 ≤ w2.heap.size) := Nat.le_trans SZ.out g1.size
  obtain ⟨ax, qx, hv⟩ := OwnE.slice o1
  subst hv
  generalize hln : l.length = n at *
  have HL : Hid _ := hln
  clear hln
  replace BW : Hid (Below w.heap.size w w2) := BW.out.trans (g1.below (fun q _ e => by omega) BW.out.size)
  have OE : Hid (OwnE w2 (C + 1) 39 6 (.slice ax n qx) n (flatE l)) := OwnE.mono o1 SZO.out
  clear c1 g1 o1
  have bn := bel_nw w2 (.cells #[.int .i64 b, .int .i64 bt, .slice ax n qx] 26)
  have hX : C + 1 ≤ w2.heap.size := SZ.out
  replace CU : Hid (Cur (w2.alloc (.cells #[.int .i64 b, .int .i64 bt, .slice ax n qx] 26)) C) := Cur.alloc CU.out _
  replace NR : Hid (MBox 26 (w2.alloc (.cells #[.int .i64 b, .int .i64 bt, .slice ax n qx] 26)) w.heap.size #[.int .i64 0, .int .i64 0, .slice none 0 0]) := NR.out.step bn
  replace SZ : Hid (C + 1 ≤ (w2.alloc (.cells #[.int .i64 b, .int .i64 bt, .slice ax n qx] 26)).heap.size) := Nat.le_trans SZ.out bn.size
  replace OE : Hid (OwnE (w2.alloc (.cells #[.int .i64 b, .int .i64 bt, .slice ax n qx] 26)) (C + 1) 39 6 (.slice ax n qx) n (flatE l)) := OwnE.below OE.out bn
  replace BW : Hid (Below w.heap.size w (w2.alloc (.cells #[.int .i64 b, .int .i64 bt, .slice ax n qx] 26))) := Below.and BW.out bn
  have NX : Hid (MBox 26 (w2.alloc (.cells #[.int .i64 b, .int .i64 bt, .slice ax n qx] 26)) w2.heap.size #[.int .i64 b, .int .i64 bt, .slice ax n qx]) := MBox.start _ _ _
  have SX : Hid (w2.heap.size + 1 ≤ (w2.alloc (.cells #[.int .i64 b, .int .i64 bt, .slice ax n qx] 26)).heap.size) := by show _ ≤ _; simp
  clear bn
  go_wp2_with fail
  generalize w2.heap.size = X at *
  generalize (w2.alloc (.cells #[.int .i64 b, .int .i64 bt, .slice ax n qx] 26)) = W2 at *
  have bd : Below W2.heap.size W2 W2.drew := (Below.refl _ _).drew
  have c1 := CU.out.below bd
  have g1 : Chg (fun g => g = C) W2 W2.drew := Chg.of_below bd
  replace BW : Hid (Below w.heap.size w W2.drew) := Below.and BW.out bd
  replace CU : Hid (Cur W2.drew C) := c1
  replace NR : Hid (MBox 26 W2.drew w.heap.size #[.int .i64 0, .int .i64 0, .slice none 0 0]) := row_chg NR.out g1 (by omega)
  replace SZ : Hid (C + 1 ≤ W2.drew.heap.size) := Nat.le_trans SZ.out g1.size
  replace OE : Hid (OwnE W2.drew (C + 1) 39 6 (.slice ax n qx) n (flatE l)) := OwnE.chg OE.out g1 (fun q hq e => by have := (OwnE.lt OE.out q hq).1; omega)
  replace NX : Hid (MBox 26 W2.drew X #[.int .i64 b, .int .i64 bt, .slice ax n qx]) := row_chg NX.out g1 (by omega)
  replace SX : Hid (X + 1 ≤ W2.drew.heap.size) := Nat.le_trans SX.out g1.size
  clear c1 g1 bd
  refine wp_region_held_drew (S := (fun u => u.cell? ⟨X, 0, none⟩ = some (.int .i64 b) ∧ u.cell? ⟨X, 1, none⟩ = some (.int .i64 bt) ∧ u.cell? ⟨X, 2, none⟩ = some (.slice ax n qx))) (by kernel_rfl) ⟨NX.out.cells 0, NX.out.cells 1, NX.out.cells 2⟩ (fun hH => ?_)
  refine wpAnyH_take (i := 0) (oi := ⟨_, _, _, _, _, _⟩) (v := ?_) rfl (by kernel_rfl) (by kernel_rfl) (by kernel_rfl) (fun _ _ _ h => h) (Or.inl ⟨by rfl, ?_⟩) (by assumption) ?_
  rotate_left
  · ((intro w hSw; (try dsimp only at hSw); go_simp); (try with_reducible rfl))
  try simp only [Act.put, List.setIfInBounds_toArray, List.set_cons_zero, List.set_cons_succ]
  refine wpAnyH_take (i := 1) (oi := ⟨_, _, _, _, _, _⟩) (v := ?_) rfl (by kernel_rfl) (by kernel_rfl) (by kernel_rfl) (fun _ _ _ h => h) (Or.inl ⟨by rfl, ?_⟩) (by assumption) ?_
  rotate_left
  · ((intro w hSw; (try dsimp only at hSw); go_simp); (try with_reducible rfl))
  try simp only [Act.put, List.setIfInBounds_toArray, List.set_cons_zero, List.set_cons_succ]
  refine wpAnyH_take (i := 2) (oi := ⟨_, _, _, _, _, _⟩) (v := ?_) rfl (by kernel_rfl) (by kernel_rfl) (by kernel_rfl) (fun _ _ _ h => h) (Or.inl ⟨by rfl, ?_⟩) (by assumption) ?_
  rotate_left
  · ((intro w hSw; (try dsimp only at hSw); go_simp); (try with_reducible rfl))
  try simp only [Act.put, List.setIfInBounds_toArray, List.set_cons_zero, List.set_cons_succ]
  refine wpAnyH_ready (rs := [3]) (by kernel_rfl) (by simp) ?_
  refine AllReadyH.cons (o := ⟨_, _, _, _, _, _⟩) rfl (fun K hK => ?_) AllReadyH.nil
  refine (if_pos (show Region.wanted _ _ = true by kernel_rfl)).mpr ?_
  refine call_by 46 [.tmp 11, .tmp 12] #[62, 26] rfl run_drawAt _ rfl (l8DrawAt_any C b bt ax n qx _ CU.out hb0 hb1 (by omega)) ?_
  rintro e w6 ⟨i, rfl, hi, c1, g1⟩
  replace CU : Hid (Cur w6 C) := c1
  replace NR : Hid (MBox 26 w6 w.heap.size #[.int .i64 0, .int .i64 0, .slice none 0 0]) := row_chg NR.out g1 (by omega)
  replace SZ : Hid (C + 1 ≤ w6.heap.size) := Nat.le_trans SZ.out g1.size
  replace OE : Hid (OwnE w6 (C + 1) 39 6 (.slice ax n qx) n (flatE l)) := OwnE.chg OE.out g1 (fun q hq e => by have := (OwnE.lt OE.out q hq).1; omega)
  replace NX : Hid (MBox 26 w6 X #[.int .i64 b, .int .i64 bt, .slice ax n qx]) := row_chg NX.out g1 (by omega)
  replace SX : Hid (X + 1 ≤ w6.heap.size) := Nat.le_trans SX.out g1.size
  replace BW : Hid (Below w.heap.size w w6) := BW.out.trans (g1.below (fun q _ e => by omega) BW.out.size)
  have HI : Hid (I64 i) := hi
  clear c1 g1 hi
  refine ⟨_, rfl, ?_⟩
  refine hK.out _ _ (⟨NX.out.cells 0, NX.out.cells 1, NX.out.cells 2⟩) (fun hH2 => ?_)
  clear hK K hH
  have hH := hH2
  clear hH2
  try simp only [Act.put, List.setIfInBounds_toArray, List.set_cons_zero, List.set_cons_succ]
  have dR := NR.out.cells
  have yR : ∀ q, w6.frozen? ⟨w.heap.size, q, none⟩ = false := fun q => frozen_of_cells NR.out
  have X5 := lg_all (.int .i64 b) (.int .i64 bt) (.slice ax n qx) NR.out
  have ch2 := lg_all_chg w6 w.heap.size (.int .i64 b) (.int .i64 bt) (.slice ax n qx)
  have nx := row_chg NX.out ch2 (by omega)
  have FIN : Hid (_ ∧ _ ∧ _) := And.intro X5 (And.intro (OwnE.mono (base' := w.heap.size) (OwnE.chg OE.out ch2 (fun g hg => ownE_apart OE.out NR.out (by decide) hg)) (by omega)) (BW.out.trans (ch2.below (fun g _ hg => by omega) BW.out.size)))
  have NX2 : Hid _ := nx
  clear X5 ch2 nx
  refine wpAnyH_ready (rs := [4]) (by kernel_rfl) (by simp) ?_
  refine AllReadyH.cons (o := ⟨_, _, _, _, _, _⟩) rfl (fun K hK => ?_) AllReadyH.nil
  go_simp
  refine hK.out _ _ (⟨cell_of_cells NX2.out, cell_of_cells NX2.out, cell_of_cells NX2.out⟩) (fun hH2 => ?_)
  clear hK K hH
  have hH := hH2
  clear hH2
  try simp only [Act.put, List.setIfInBounds_toArray, List.set_cons_zero, List.set_cons_succ]
  refine wpAnyH_take (i := 5) (oi := ⟨_, _, _, _, _, _⟩) (v := ?_) rfl (by kernel_rfl) (by kernel_rfl) (by kernel_rfl) (fun _ _ _ h => h) (Or.inl ⟨by rfl, ?_⟩) (by assumption) ?_
  rotate_left
  · ((intro w hSw; (try dsimp only at hSw); go_simp); (try with_reducible rfl))
  try simp only [Act.put, List.setIfInBounds_toArray, List.set_cons_zero, List.set_cons_succ]
  refine wpAnyH_done (by kernel_rfl) ?_ _
  clear hH dR yR NX NR OE CU BW SX SZ NX2
  go_wp2
  exact bodyPost_ret (v := .tuple #[lgV b bt (.slice ax n qx), .int .i64 i]) (by simp [results, Try.results60, go_sem, cell_of_cells FIN.out.1]) rfl ⟨b, bt, ax, n, qx, l, i, rfl, hb0, hb1, ht0, ht1, HL.out, hl, HI.out, FIN.out.2.1, FIN.out.2.2⟩

set_option maxRecDepth 100000 in
set_option maxHeartbeats 4000000 in
theorem DrawNewer_any (v : Value) (bs : List Int) (w : World) (hc : Code8 w v bs) (hn : bs.length ≤ 1048576) :
    Calls Try.prog 29 #[v] w fun e w' => ∃ (b bt : Int) (ax : Option Addr) (n qx : Nat) (l : EL) (i : Int) (tt : Int), e = .returned (.tuple #[lgV b bt (.slice ax n qx), .int .i64 i, .int .i64 tt]) ∧ -1 ≤ b ∧ b ≤ 100001 ∧ 0 ≤ bt ∧ bt ≤ 8 ∧ l.length = n ∧ n ≤ 8 ∧ I64 i ∧ OwnE w' w.heap.size 39 6 (.slice ax n qx) n (flatE l) ∧ Below w.heap.size w w' := by
  have NR : Hid (MBox 26 (w.alloc (.cells #[.int .i64 0, .int .i64 0, .slice none 0 0] 26)) w.heap.size #[.int .i64 0, .int .i64 0, .slice none 0 0]) := MBox.start _ _ _
  have C8 : Hid (Code8 (w.alloc (.cells #[.int .i64 0, .int .i64 0, .slice none 0 0] 26)) v bs) := hc.below (bel_nw _ _)
  have B0 : Hid (Below w.heap.size w (w.alloc (.cells #[.int .i64 0, .int .i64 0, .slice none 0 0] 26))) := bel_nw _ _
  have hW0 : (w.alloc (.cells #[.int .i64 0, .int .i64 0, .slice none 0 0] 26)).heap.size = w.heap.size + 1 := by simp
  have HW0 : Hid _ := hW0
  clear hc hW0
  go_enter Try.func29, Try.ntmps29
  go_wp2_with fail
  generalize (w.alloc (.cells #[.int .i64 0, .int .i64 0, .slice none 0 0] 26)) = W0 at *
  refine (l1New_any v bs _ C8.out hn).mono ?_
  rintro e w1 ⟨rfl, c1, s1, b1⟩
  replace NR : Hid (MBox 26 w1 w.heap.size #[.int .i64 0, .int .i64 0, .slice none 0 0]) := NR.out.step b1
  generalize hC : W0.heap.size = C at *
  have hC2 : w.heap.size + 1 ≤ C := by have := HW0.out; omega
  have BW : Hid (Below w.heap.size w w1) := by have := b1; rw [← hC] at this; exact Below.and B0.out this
  have CU : Hid (Cur w1 C) := c1
  have SZ : Hid (C + 1 ≤ w1.heap.size) := s1
  clear c1 s1 b1 hC B0 C8 HW0
  go_wp2_with fail
  have SZO : Hid (C + 1 ≤ w1.heap.size) := SZ.out
  refine (l8Draw_any C _ CU.out).mono ?_
  rintro e w2 ⟨b, bt, vv, l, rfl, hb0, hb1, ht0, ht1, hl, o1, c1, g1⟩
  replace CU : Hid (Cur w2 C) := c1
  replace NR : Hid (MBox 26 w2 w.heap.size #[.int .i64 0, .int .i64 0, .slice none 0 0]) := row_chg NR.out g1 (by omega)
  replace SZ : Hid (C + 1 ≤ w2.heap.size) := Nat.le_trans SZ.out g1.size
  obtain ⟨ax, qx, hv⟩ := OwnE.slice o1
  subst hv
  generalize hln : l.length = n at *
  have HL : Hid _ := hln
  clear hln
  replace BW : Hid (Below w.heap.size w w2) := BW.out.trans (g1.below (fun q _ e => by omega) BW.out.size)
  have OE : Hid (OwnE w2 (C + 1) 39 6 (.slice ax n qx) n (flatE l)) := OwnE.mono o1 SZO.out
  clear c1 g1 o1
  have bn := bel_nw w2 (.cells #[.int .i64 b, .int .i64 bt, .slice ax n qx] 26)
  have hX : C + 1 ≤ w2.heap.size := SZ.out
  replace CU : Hid (Cur (w2.alloc (.cells #[.int .i64 b, .int .i64 bt, .slice ax n qx] 26)) C) := Cur.alloc CU.out _
  replace NR : Hid (MBox 26 (w2.alloc (.cells #[.int .i64 b, .int .i64 bt, .slice ax n qx] 26)) w.heap.size #[.int .i64 0, .int .i64 0, .slice none 0 0]) := NR.out.step bn
  replace SZ : Hid (C + 1 ≤ (w2.alloc (.cells #[.int .i64 b, .int .i64 bt, .slice ax n qx] 26)).heap.size) := Nat.le_trans SZ.out bn.size
  replace OE : Hid (OwnE (w2.alloc (.cells #[.int .i64 b, .int .i64 bt, .slice ax n qx] 26)) (C + 1) 39 6 (.slice ax n qx) n (flatE l)) := OwnE.below OE.out bn
  replace BW : Hid (Below w.heap.size w (w2.alloc (.cells #[.int .i64 b, .int .i64 bt, .slice ax n qx] 26))) := Below.and BW.out bn
  have NX : Hid (MBox 26 (w2.alloc (.cells #[.int .i64 b, .int .i64 bt, .slice ax n qx] 26)) w2.heap.size #[.int .i64 b, .int .i64 bt, .slice ax n qx]) := MBox.start _ _ _
  have SX : Hid (w2.heap.size + 1 ≤ (w2.alloc (.cells #[.int .i64 b, .int .i64 bt, .slice ax n qx] 26)).heap.size) := by show _ ≤ _; simp
  clear bn
  go_wp2_with fail
  generalize w2.heap.size = X at *
  generalize (w2.alloc (.cells #[.int .i64 b, .int .i64 bt, .slice ax n qx] 26)) = W2 at *
  have bd : Below W2.heap.size W2 W2.drew := (Below.refl _ _).drew
  have c1 := CU.out.below bd
  have g1 : Chg (fun g => g = C) W2 W2.drew := Chg.of_below bd
  replace BW : Hid (Below w.heap.size w W2.drew) := Below.and BW.out bd
  replace CU : Hid (Cur W2.drew C) := c1
  replace NR : Hid (MBox 26 W2.drew w.heap.size #[.int .i64 0, .int .i64 0, .slice none 0 0]) := row_chg NR.out g1 (by omega)
  replace SZ : Hid (C + 1 ≤ W2.drew.heap.size) := Nat.le_trans SZ.out g1.size
  replace OE : Hid (OwnE W2.drew (C + 1) 39 6 (.slice ax n qx) n (flatE l)) := OwnE.chg OE.out g1 (fun q hq e => by have := (OwnE.lt OE.out q hq).1; omega)
  replace NX : Hid (MBox 26 W2.drew X #[.int .i64 b, .int .i64 bt, .slice ax n qx]) := row_chg NX.out g1 (by omega)
  replace SX : Hid (X + 1 ≤ W2.drew.heap.size) := Nat.le_trans SX.out g1.size
  clear c1 g1 bd
  refine wp_region_held_drew (S := (fun u => u.cell? ⟨X, 0, none⟩ = some (.int .i64 b) ∧ u.cell? ⟨X, 1, none⟩ = some (.int .i64 bt) ∧ u.cell? ⟨X, 2, none⟩ = some (.slice ax n qx))) (by kernel_rfl) ⟨NX.out.cells 0, NX.out.cells 1, NX.out.cells 2⟩ (fun hH => ?_)
  refine wpAnyH_take (i := 0) (oi := ⟨_, _, _, _, _, _⟩) (v := ?_) rfl (by kernel_rfl) (by kernel_rfl) (by kernel_rfl) (fun _ _ _ h => h) (Or.inl ⟨by rfl, ?_⟩) (by assumption) ?_
  rotate_left
  · ((intro w hSw; (try dsimp only at hSw); go_simp); (try with_reducible rfl))
  try simp only [Act.put, List.setIfInBounds_toArray, List.set_cons_zero, List.set_cons_succ]
  refine wpAnyH_take (i := 1) (oi := ⟨_, _, _, _, _, _⟩) (v := ?_) rfl (by kernel_rfl) (by kernel_rfl) (by kernel_rfl) (fun _ _ _ h => h) (Or.inl ⟨by rfl, ?_⟩) (by assumption) ?_
  rotate_left
  · ((intro w hSw; (try dsimp only at hSw); go_simp); (try with_reducible rfl))
  try simp only [Act.put, List.setIfInBounds_toArray, List.set_cons_zero, List.set_cons_succ]
  refine wpAnyH_take (i := 2) (oi := ⟨_, _, _, _, _, _⟩) (v := ?_) rfl (by kernel_rfl) (by kernel_rfl) (by kernel_rfl) (fun _ _ _ h => h) (Or.inl ⟨by rfl, ?_⟩) (by assumption) ?_
  rotate_left
  · ((intro w hSw; (try dsimp only at hSw); go_simp); (try with_reducible rfl))
  try simp only [Act.put, List.setIfInBounds_toArray, List.set_cons_zero, List.set_cons_succ]
  refine wpAnyH_take (i := 4) (oi := ⟨_, _, _, _, _, _⟩) (v := ?_) rfl (by kernel_rfl) (by kernel_rfl) (by kernel_rfl) (fun _ _ _ h => h) (Or.inl ⟨by rfl, ?_⟩) (by assumption) ?_
  rotate_left
  · ((intro w hSw; (try dsimp only at hSw); go_simp); (try with_reducible rfl))
  try simp only [Act.put, List.setIfInBounds_toArray, List.set_cons_zero, List.set_cons_succ]
  refine wpAnyH_ready (rs := [3]) (by kernel_rfl) (by simp) ?_
  refine AllReadyH.cons (o := ⟨_, _, _, _, _, _⟩) rfl (fun K hK => ?_) AllReadyH.nil
  refine (if_pos (show Region.wanted _ _ = true by kernel_rfl)).mpr ?_
  refine call_by 46 [.tmp 12, .tmp 13] #[62, 26] rfl run_drawAt _ rfl (l8DrawAt_any C b bt ax n qx _ CU.out hb0 hb1 (by omega)) ?_
  rintro e w6 ⟨i, rfl, hi, c1, g1⟩
  replace CU : Hid (Cur w6 C) := c1
  replace NR : Hid (MBox 26 w6 w.heap.size #[.int .i64 0, .int .i64 0, .slice none 0 0]) := row_chg NR.out g1 (by omega)
  replace SZ : Hid (C + 1 ≤ w6.heap.size) := Nat.le_trans SZ.out g1.size
  replace OE : Hid (OwnE w6 (C + 1) 39 6 (.slice ax n qx) n (flatE l)) := OwnE.chg OE.out g1 (fun q hq e => by have := (OwnE.lt OE.out q hq).1; omega)
  replace NX : Hid (MBox 26 w6 X #[.int .i64 b, .int .i64 bt, .slice ax n qx]) := row_chg NX.out g1 (by omega)
  replace SX : Hid (X + 1 ≤ w6.heap.size) := Nat.le_trans SX.out g1.size
  replace BW : Hid (Below w.heap.size w w6) := BW.out.trans (g1.below (fun q _ e => by omega) BW.out.size)
  have HI : Hid (I64 i) := hi
  clear c1 g1 hi
  refine ⟨_, rfl, ?_⟩
  refine hK.out _ _ (⟨NX.out.cells 0, NX.out.cells 1, NX.out.cells 2⟩) (fun hH2 => ?_)
  clear hK K hH
  have hH := hH2
  clear hH2
  try simp only [Act.put, List.setIfInBounds_toArray, List.set_cons_zero, List.set_cons_succ]
  refine wpAnyH_ready (rs := [5]) (by kernel_rfl) (by simp) ?_
  refine AllReadyH.cons (o := ⟨_, _, _, _, _, _⟩) rfl (fun K hK => ?_) AllReadyH.nil
  refine (if_pos (show Region.wanted _ _ = true by kernel_rfl)).mpr ?_
  refine call_by 48 [.tmp 15, .const (.int .i64 5)] #[62, 3] rfl run_below _ rfl (l1Below_any C 5 _ CU.out (by decide)) ?_
  rintro e w7 ⟨tt, rfl, _, _, _, c1, g1⟩
  replace CU : Hid (Cur w7 C) := c1
  replace NR : Hid (MBox 26 w7 w.heap.size #[.int .i64 0, .int .i64 0, .slice none 0 0]) := row_chg NR.out g1 (by omega)
  replace SZ : Hid (C + 1 ≤ w7.heap.size) := Nat.le_trans SZ.out g1.size
  replace OE : Hid (OwnE w7 (C + 1) 39 6 (.slice ax n qx) n (flatE l)) := OwnE.chg OE.out g1 (fun q hq e => by have := (OwnE.lt OE.out q hq).1; omega)
  replace NX : Hid (MBox 26 w7 X #[.int .i64 b, .int .i64 bt, .slice ax n qx]) := row_chg NX.out g1 (by omega)
  replace SX : Hid (X + 1 ≤ w7.heap.size) := Nat.le_trans SX.out g1.size
  replace BW : Hid (Below w.heap.size w w7) := BW.out.trans (g1.below (fun q _ e => by omega) BW.out.size)
  clear c1 g1
  refine ⟨_, rfl, ?_⟩
  refine hK.out _ _ (⟨NX.out.cells 0, NX.out.cells 1, NX.out.cells 2⟩) (fun hH2 => ?_)
  clear hK K hH
  have hH := hH2
  clear hH2
  try simp only [Act.put, List.setIfInBounds_toArray, List.set_cons_zero, List.set_cons_succ]
  have dR := NR.out.cells
  have yR : ∀ q, w7.frozen? ⟨w.heap.size, q, none⟩ = false := fun q => frozen_of_cells NR.out
  have X5 := lg_all (.int .i64 b) (.int .i64 bt) (.slice ax n qx) NR.out
  have ch2 := lg_all_chg w7 w.heap.size (.int .i64 b) (.int .i64 bt) (.slice ax n qx)
  have nx := row_chg NX.out ch2 (by omega)
  have FIN : Hid (_ ∧ _ ∧ _) := And.intro X5 (And.intro (OwnE.mono (base' := w.heap.size) (OwnE.chg OE.out ch2 (fun g hg => ownE_apart OE.out NR.out (by decide) hg)) (by omega)) (BW.out.trans (ch2.below (fun g _ hg => by omega) BW.out.size)))
  have NX2 : Hid _ := nx
  clear X5 ch2 nx
  refine wpAnyH_ready (rs := [6]) (by kernel_rfl) (by simp) ?_
  refine AllReadyH.cons (o := ⟨_, _, _, _, _, _⟩) rfl (fun K hK => ?_) AllReadyH.nil
  go_simp
  refine hK.out _ _ (⟨cell_of_cells NX2.out, cell_of_cells NX2.out, cell_of_cells NX2.out⟩) (fun hH2 => ?_)
  clear hK K hH
  have hH := hH2
  clear hH2
  try simp only [Act.put, List.setIfInBounds_toArray, List.set_cons_zero, List.set_cons_succ]
  refine wpAnyH_take (i := 7) (oi := ⟨_, _, _, _, _, _⟩) (v := ?_) rfl (by kernel_rfl) (by kernel_rfl) (by kernel_rfl) (fun _ _ _ h => h) (Or.inl ⟨by rfl, ?_⟩) (by assumption) ?_
  rotate_left
  · ((intro w hSw; (try dsimp only at hSw); go_simp); (try with_reducible rfl))
  try simp only [Act.put, List.setIfInBounds_toArray, List.set_cons_zero, List.set_cons_succ]
  refine wpAnyH_take (i := 8) (oi := ⟨_, _, _, _, _, _⟩) (v := ?_) rfl (by kernel_rfl) (by kernel_rfl) (by kernel_rfl) (fun _ _ _ h => h) (Or.inl ⟨by rfl, ?_⟩) (by assumption) ?_
  rotate_left
  · ((intro w hSw; (try dsimp only at hSw); go_simp); (try with_reducible rfl))
  try simp only [Act.put, List.setIfInBounds_toArray, List.set_cons_zero, List.set_cons_succ]
  refine wpAnyH_done (by kernel_rfl) ?_ _
  clear hH dR yR NX NR OE CU BW SX SZ NX2
  go_wp2
  exact bodyPost_ret (v := .tuple #[lgV b bt (.slice ax n qx), .int .i64 i, .int .i64 tt]) (by simp [results, Try.results29, go_sem, cell_of_cells FIN.out.1]) rfl ⟨b, bt, ax, n, qx, l, i, tt, rfl, hb0, hb1, ht0, ht1, HL.out, hl, HI.out, FIN.out.2.1, FIN.out.2.2⟩

set_option maxRecDepth 100000 in
set_option maxHeartbeats 2000000 in
theorem DrawLogCut_any (v : Value) (bs : List Int) (w : World) (hc : Code8 w v bs) (hn : bs.length ≤ 1048576) :
    Calls Try.prog 21 #[v] w fun e w' => ∃ (b bt : Int) (ax : Option Addr) (n qx : Nat) (l : EL) (i : Int), e = .returned (.tuple #[lgV b bt (.slice ax n qx), .int .i64 i]) ∧ -1 ≤ b ∧ b ≤ 100001 ∧ 0 ≤ bt ∧ bt ≤ 8 ∧ l.length = n ∧ n ≤ 8 ∧ I64 i ∧ OwnE w' w.heap.size 39 6 (.slice ax n qx) n (flatE l) ∧ Below w.heap.size w w' := by
  have NR : Hid (MBox 26 (w.alloc (.cells #[.int .i64 0, .int .i64 0, .slice none 0 0] 26)) w.heap.size #[.int .i64 0, .int .i64 0, .slice none 0 0]) := MBox.start _ _ _
  have B0 : Hid (Below w.heap.size w (w.alloc (.cells #[.int .i64 0, .int .i64 0, .slice none 0 0] 26))) := bel_nw _ _
  have C8 : Hid (Code8 (w.alloc (.cells #[.int .i64 0, .int .i64 0, .slice none 0 0] 26)) v bs) := hc.below (bel_nw _ _)
  have HZ : Hid (w.heap.size + 1 ≤ (w.alloc (.cells #[.int .i64 0, .int .i64 0, .slice none 0 0] 26)).heap.size) := by show _ ≤ _; simp
  clear hc
  go_enter Try.func21, Try.ntmps21
  go_wp2_with fail
  generalize (w.alloc (.cells #[.int .i64 0, .int .i64 0, .slice none 0 0] 26)) = W0 at *
  refine (l8DrawBoth_any v bs _ C8.out hn).mono ?_
  rintro e w1 ⟨b, bt, ax, n, qx, l, i, rfl, hb0, hb1, ht0, ht1, hl, hn8, hi, o1, b1⟩
  have PP : Hid _ := And.intro hb0 (And.intro hb1 (And.intro ht0 (And.intro ht1 (And.intro hl (And.intro hn8 hi)))))
  have bn := bel_nw w1 (.cells #[.int .i64 b, .int .i64 bt, .slice ax n qx] 26)
  replace NR : Hid (MBox 26 (w1.alloc (.cells #[.int .i64 b, .int .i64 bt, .slice ax n qx] 26)) w.heap.size #[.int .i64 0, .int .i64 0, .slice none 0 0]) := (NR.out.step b1).step bn
  have NX : Hid (MBox 26 (w1.alloc (.cells #[.int .i64 b, .int .i64 bt, .slice ax n qx] 26)) w1.heap.size #[.int .i64 b, .int .i64 bt, .slice ax n qx]) := MBox.start _ _ _
  have OE : Hid (OwnE (w1.alloc (.cells #[.int .i64 b, .int .i64 bt, .slice ax n qx] 26)) w.heap.size 39 6 (.slice ax n qx) n (flatE l)) := OwnE.mono (OwnE.below o1 bn) (by have := HZ.out; omega)
  have BW : Hid (Below w.heap.size w (w1.alloc (.cells #[.int .i64 b, .int .i64 bt, .slice ax n qx] 26))) := Below.and (Below.and B0.out b1) bn
  have cX := NX.out.cells
  have dR := NR.out.cells
  have yR : ∀ q, (w1.alloc (.cells #[.int .i64 b, .int .i64 bt, .slice ax n qx] 26)).frozen? ⟨w.heap.size, q, none⟩ = false := fun q => frozen_of_cells NR.out
  have X5 := lg_all (.int .i64 b) (.int .i64 bt) (.slice ax n qx) NR.out
  have ch2 := lg_all_chg (w1.alloc (.cells #[.int .i64 b, .int .i64 bt, .slice ax n qx] 26)) w.heap.size (.int .i64 b) (.int .i64 bt) (.slice ax n qx)
  have FIN : Hid (_ ∧ _ ∧ _) := And.intro X5 (And.intro (OwnE.chg OE.out ch2 (fun g hg => ownE_apart OE.out NR.out (by decide) hg)) (BW.out.trans (ch2.below (fun g _ hg => by omega) BW.out.size)))
  clear X5 ch2 NR NX OE BW bn o1 b1 hb0 hb1 ht0 ht1 hl hn8 hi
  go_wp2
  refine bodyPost_ret (v := .tuple #[lgV b bt (.slice ax n qx), .int .i64 i]) (by simp [results, Try.results21, go_sem, cell_of_cells FIN.out.1]) rfl ?_
  obtain ⟨hb0, hb1, ht0, ht1, hl, hn8, hi⟩ := PP.out
  exact ⟨b, bt, ax, n, qx, l, i, rfl, hb0, hb1, ht0, ht1, hl, hn8, hi, FIN.out.2.1, FIN.out.2.2⟩

set_option maxRecDepth 100000 in
set_option maxHeartbeats 2000000 in
theorem DrawEntriesFrom_any (v : Value) (bs : List Int) (w : World) (hc : Code8 w v bs) (hn : bs.length ≤ 1048576) :
    Calls Try.prog 25 #[v] w fun e w' => ∃ (b bt : Int) (ax : Option Addr) (n qx : Nat) (l : EL) (i : Int), e = .returned (.tuple #[lgV b bt (.slice ax n qx), .int .i64 i]) ∧ -1 ≤ b ∧ b ≤ 100001 ∧ 0 ≤ bt ∧ bt ≤ 8 ∧ l.length = n ∧ n ≤ 8 ∧ I64 i ∧ OwnE w' w.heap.size 39 6 (.slice ax n qx) n (flatE l) ∧ Below w.heap.size w w' := by
  have NR : Hid (MBox 26 (w.alloc (.cells #[.int .i64 0, .int .i64 0, .slice none 0 0] 26)) w.heap.size #[.int .i64 0, .int .i64 0, .slice none 0 0]) := MBox.start _ _ _
  have B0 : Hid (Below w.heap.size w (w.alloc (.cells #[.int .i64 0, .int .i64 0, .slice none 0 0] 26))) := bel_nw _ _
  have C8 : Hid (Code8 (w.alloc (.cells #[.int .i64 0, .int .i64 0, .slice none 0 0] 26)) v bs) := hc.below (bel_nw _ _)
  have HZ : Hid (w.heap.size + 1 ≤ (w.alloc (.cells #[.int .i64 0, .int .i64 0, .slice none 0 0] 26)).heap.size) := by show _ ≤ _; simp
  clear hc
  go_enter Try.func25, Try.ntmps25
  go_wp2_with fail
  generalize (w.alloc (.cells #[.int .i64 0, .int .i64 0, .slice none 0 0] 26)) = W0 at *
  refine (l8DrawBoth_any v bs _ C8.out hn).mono ?_
  rintro e w1 ⟨b, bt, ax, n, qx, l, i, rfl, hb0, hb1, ht0, ht1, hl, hn8, hi, o1, b1⟩
  have PP : Hid _ := And.intro hb0 (And.intro hb1 (And.intro ht0 (And.intro ht1 (And.intro hl (And.intro hn8 hi)))))
  have bn := bel_nw w1 (.cells #[.int .i64 b, .int .i64 bt, .slice ax n qx] 26)
  replace NR : Hid (MBox 26 (w1.alloc (.cells #[.int .i64 b, .int .i64 bt, .slice ax n qx] 26)) w.heap.size #[.int .i64 0, .int .i64 0, .slice none 0 0]) := (NR.out.step b1).step bn
  have NX : Hid (MBox 26 (w1.alloc (.cells #[.int .i64 b, .int .i64 bt, .slice ax n qx] 26)) w1.heap.size #[.int .i64 b, .int .i64 bt, .slice ax n qx]) := MBox.start _ _ _
  have OE : Hid (OwnE (w1.alloc (.cells #[.int .i64 b, .int .i64 bt, .slice ax n qx] 26)) w.heap.size 39 6 (.slice ax n qx) n (flatE l)) := OwnE.mono (OwnE.below o1 bn) (by have := HZ.out; omega)
  have BW : Hid (Below w.heap.size w (w1.alloc (.cells #[.int .i64 b, .int .i64 bt, .slice ax n qx] 26))) := Below.and (Below.and B0.out b1) bn
  have cX := NX.out.cells
  have dR := NR.out.cells
  have yR : ∀ q, (w1.alloc (.cells #[.int .i64 b, .int .i64 bt, .slice ax n qx] 26)).frozen? ⟨w.heap.size, q, none⟩ = false := fun q => frozen_of_cells NR.out
  have X5 := lg_all (.int .i64 b) (.int .i64 bt) (.slice ax n qx) NR.out
  have ch2 := lg_all_chg (w1.alloc (.cells #[.int .i64 b, .int .i64 bt, .slice ax n qx] 26)) w.heap.size (.int .i64 b) (.int .i64 bt) (.slice ax n qx)
  have FIN : Hid (_ ∧ _ ∧ _) := And.intro X5 (And.intro (OwnE.chg OE.out ch2 (fun g hg => ownE_apart OE.out NR.out (by decide) hg)) (BW.out.trans (ch2.below (fun g _ hg => by omega) BW.out.size)))
  clear X5 ch2 NR NX OE BW bn o1 b1 hb0 hb1 ht0 ht1 hl hn8 hi
  go_wp2
  refine bodyPost_ret (v := .tuple #[lgV b bt (.slice ax n qx), .int .i64 i]) (by simp [results, Try.results25, go_sem, cell_of_cells FIN.out.1]) rfl ?_
  obtain ⟨hb0, hb1, ht0, ht1, hl, hn8, hi⟩ := PP.out
  exact ⟨b, bt, ax, n, qx, l, i, rfl, hb0, hb1, ht0, ht1, hl, hn8, hi, FIN.out.2.1, FIN.out.2.2⟩

set_option maxRecDepth 100000 in
set_option maxHeartbeats 2000000 in
theorem DrawTermAt_any (v : Value) (bs : List Int) (w : World) (hc : Code8 w v bs) (hn : bs.length ≤ 1048576) :
    Calls Try.prog 33 #[v] w fun e w' => ∃ (b bt : Int) (ax : Option Addr) (n qx : Nat) (l : EL) (i : Int), e = .returned (.tuple #[lgV b bt (.slice ax n qx), .int .i64 i]) ∧ -1 ≤ b ∧ b ≤ 100001 ∧ 0 ≤ bt ∧ bt ≤ 8 ∧ l.length = n ∧ n ≤ 8 ∧ I64 i ∧ OwnE w' w.heap.size 39 6 (.slice ax n qx) n (flatE l) ∧ Below w.heap.size w w' := by
  have NR : Hid (MBox 26 (w.alloc (.cells #[.int .i64 0, .int .i64 0, .slice none 0 0] 26)) w.heap.size #[.int .i64 0, .int .i64 0, .slice none 0 0]) := MBox.start _ _ _
  have B0 : Hid (Below w.heap.size w (w.alloc (.cells #[.int .i64 0, .int .i64 0, .slice none 0 0] 26))) := bel_nw _ _
  have C8 : Hid (Code8 (w.alloc (.cells #[.int .i64 0, .int .i64 0, .slice none 0 0] 26)) v bs) := hc.below (bel_nw _ _)
  have HZ : Hid (w.heap.size + 1 ≤ (w.alloc (.cells #[.int .i64 0, .int .i64 0, .slice none 0 0] 26)).heap.size) := by show _ ≤ _; simp
  clear hc
  go_enter Try.func33, Try.ntmps33
  go_wp2_with fail
  generalize (w.alloc (.cells #[.int .i64 0, .int .i64 0, .slice none 0 0] 26)) = W0 at *
  refine (l8DrawBoth_any v bs _ C8.out hn).mono ?_
  rintro e w1 ⟨b, bt, ax, n, qx, l, i, rfl, hb0, hb1, ht0, ht1, hl, hn8, hi, o1, b1⟩
  have PP : Hid _ := And.intro hb0 (And.intro hb1 (And.intro ht0 (And.intro ht1 (And.intro hl (And.intro hn8 hi)))))
  have bn := bel_nw w1 (.cells #[.int .i64 b, .int .i64 bt, .slice ax n qx] 26)
  replace NR : Hid (MBox 26 (w1.alloc (.cells #[.int .i64 b, .int .i64 bt, .slice ax n qx] 26)) w.heap.size #[.int .i64 0, .int .i64 0, .slice none 0 0]) := (NR.out.step b1).step bn
  have NX : Hid (MBox 26 (w1.alloc (.cells #[.int .i64 b, .int .i64 bt, .slice ax n qx] 26)) w1.heap.size #[.int .i64 b, .int .i64 bt, .slice ax n qx]) := MBox.start _ _ _
  have OE : Hid (OwnE (w1.alloc (.cells #[.int .i64 b, .int .i64 bt, .slice ax n qx] 26)) w.heap.size 39 6 (.slice ax n qx) n (flatE l)) := OwnE.mono (OwnE.below o1 bn) (by have := HZ.out; omega)
  have BW : Hid (Below w.heap.size w (w1.alloc (.cells #[.int .i64 b, .int .i64 bt, .slice ax n qx] 26))) := Below.and (Below.and B0.out b1) bn
  have cX := NX.out.cells
  have dR := NR.out.cells
  have yR : ∀ q, (w1.alloc (.cells #[.int .i64 b, .int .i64 bt, .slice ax n qx] 26)).frozen? ⟨w.heap.size, q, none⟩ = false := fun q => frozen_of_cells NR.out
  have X5 := lg_all (.int .i64 b) (.int .i64 bt) (.slice ax n qx) NR.out
  have ch2 := lg_all_chg (w1.alloc (.cells #[.int .i64 b, .int .i64 bt, .slice ax n qx] 26)) w.heap.size (.int .i64 b) (.int .i64 bt) (.slice ax n qx)
  have FIN : Hid (_ ∧ _ ∧ _) := And.intro X5 (And.intro (OwnE.chg OE.out ch2 (fun g hg => ownE_apart OE.out NR.out (by decide) hg)) (BW.out.trans (ch2.below (fun g _ hg => by omega) BW.out.size)))
  clear X5 ch2 NR NX OE BW bn o1 b1 hb0 hb1 ht0 ht1 hl hn8 hi
  go_wp2
  refine bodyPost_ret (v := .tuple #[lgV b bt (.slice ax n qx), .int .i64 i]) (by simp [results, Try.results33, go_sem, cell_of_cells FIN.out.1]) rfl ?_
  obtain ⟨hb0, hb1, ht0, ht1, hl, hn8, hi⟩ := PP.out
  exact ⟨b, bt, ax, n, qx, l, i, rfl, hb0, hb1, ht0, ht1, hl, hn8, hi, FIN.out.2.1, FIN.out.2.2⟩

end Go.Proofs.Yteegcblndbljlaa
