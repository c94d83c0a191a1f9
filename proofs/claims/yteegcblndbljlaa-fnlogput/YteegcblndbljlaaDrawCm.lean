/-
  The model's drawing of commands.
-/
import Derived.Test.YteegcblndbljlaaDrawMs
import Derived.Test.YteegcblndbljlaaCmd
import Derived.Test.YteegcblndbljlaaBox
import Derived.Test.YteegcblndbljlaaEntsSl
namespace Go.Proofs.Yteegcblndbljlaa
open Go.RowKit

set_option maxRecDepth 100000 in
set_option maxHeartbeats 4000000 in
theorem l7DrawCmd_any (C : Nat) (w : World) (hc : Cur w C) :
    Calls Try.prog 50 #[.pointer (some ⟨C, 0, none⟩)] w fun e w' => ∃ c s o k v : Int, e = .returned (cmdV c s o k v) ∧ Cur w' C ∧ Chg (fun g => g = C) w w' := by
  have hCw := hc.lt
  have CU : Hid (Cur (w.alloc (.cells #[.int .i64 0, .int .i64 0, .int .i64 0, .int .i64 0, .int .i64 0] 37)) C) := hc.alloc _
  have G : Hid (Chg (fun g => g = C) w (w.alloc (.cells #[.int .i64 0, .int .i64 0, .int .i64 0, .int .i64 0, .int .i64 0] 37))) := (Chg.refl _ _).alloc _
  have NR : Hid (MBox 37 (w.alloc (.cells #[.int .i64 0, .int .i64 0, .int .i64 0, .int .i64 0, .int .i64 0] 37)) w.heap.size #[.int .i64 0, .int .i64 0, .int .i64 0, .int .i64 0, .int .i64 0]) := MBox.start _ _ _
  have SZ : Hid (w.heap.size + 1 ≤ (w.alloc (.cells #[.int .i64 0, .int .i64 0, .int .i64 0, .int .i64 0, .int .i64 0] 37)).heap.size) := by show _ ≤ _; simp
  clear hc
  go_enter Try.func50, Try.ntmps50
  go_wp2_with fail
  generalize (w.alloc (.cells #[.int .i64 0, .int .i64 0, .int .i64 0, .int .i64 0, .int .i64 0] 37)) = W0 at *
  refine (l1Below_any C 3 _ CU.out (by decide)).mono ?_
  rintro e w1 ⟨x1, rfl, hx1a, hx1b, _, c1, g1⟩
  have hx1 : x1 < 3 := hx1b (by decide)
  replace CU : Hid (Cur w1 C) := c1
  replace G : Hid (Chg (fun g => g = C) w w1) := G.out.trans g1 (fun _ _ e => e)
  replace NR : Hid (MBox 37 w1 w.heap.size #[.int .i64 0, .int .i64 0, .int .i64 0, .int .i64 0, .int .i64 0]) := row_chg NR.out g1 (by omega)
  replace SZ : Hid (w.heap.size + 1 ≤ w1.heap.size) := Nat.le_trans SZ.out g1.size
  clear c1 g1 hx1b
  go_wp2_with fail
  refine (l1Below_any C 6 _ CU.out (by decide)).mono ?_
  rintro e w2 ⟨x2, rfl, hx2a, hx2b, _, c1, g1⟩
  have hx2 : x2 < 6 := hx2b (by decide)
  replace CU : Hid (Cur w2 C) := c1
  replace G : Hid (Chg (fun g => g = C) w w2) := G.out.trans g1 (fun _ _ e => e)
  replace NR : Hid (MBox 37 w2 w.heap.size #[.int .i64 0, .int .i64 0, .int .i64 0, .int .i64 0, .int .i64 0]) := row_chg NR.out g1 (by omega)
  replace SZ : Hid (w.heap.size + 1 ≤ w2.heap.size) := Nat.le_trans SZ.out g1.size
  clear c1 g1 hx2b
  go_wp2_with fail
  refine (l1DrawMsg_any C _ CU.out).mono ?_
  rintro e w3 ⟨o, k, v, rfl, c1, g1⟩
  replace CU : Hid (Cur w3 C) := c1
  replace G : Hid (Chg (fun g => g = C) w w3) := G.out.trans g1 (fun _ _ e => e)
  replace NR : Hid (MBox 37 w3 w.heap.size #[.int .i64 0, .int .i64 0, .int .i64 0, .int .i64 0, .int .i64 0]) := row_chg NR.out g1 (by omega)
  replace SZ : Hid (w.heap.size + 1 ≤ w3.heap.size) := Nat.le_trans SZ.out g1.size
  clear c1 g1
  have bn := bel_nw w3 (.cells #[.int .i64 (1 + x1), .int .i64 (1 + x2), .int .i64 o, .int .i64 k, .int .i64 v] 37)
  have hX : w.heap.size + 1 ≤ w3.heap.size := SZ.out
  replace CU : Hid (Cur (w3.alloc (.cells #[.int .i64 (1 + x1), .int .i64 (1 + x2), .int .i64 o, .int .i64 k, .int .i64 v] 37)) C) := Cur.alloc CU.out _
  replace G : Hid (Chg (fun g => g = C) w (w3.alloc (.cells #[.int .i64 (1 + x1), .int .i64 (1 + x2), .int .i64 o, .int .i64 k, .int .i64 v] 37))) := G.out.alloc _
  replace NR : Hid (MBox 37 (w3.alloc (.cells #[.int .i64 (1 + x1), .int .i64 (1 + x2), .int .i64 o, .int .i64 k, .int .i64 v] 37)) w.heap.size #[.int .i64 0, .int .i64 0, .int .i64 0, .int .i64 0, .int .i64 0]) := NR.out.step bn
  replace SZ : Hid (w.heap.size + 1 ≤ (w3.alloc (.cells #[.int .i64 (1 + x1), .int .i64 (1 + x2), .int .i64 o, .int .i64 k, .int .i64 v] 37)).heap.size) := Nat.le_trans SZ.out bn.size
  have NX : Hid (MBox 37 (w3.alloc (.cells #[.int .i64 (1 + x1), .int .i64 (1 + x2), .int .i64 o, .int .i64 k, .int .i64 v] 37)) w3.heap.size #[.int .i64 (1 + x1), .int .i64 (1 + x2), .int .i64 o, .int .i64 k, .int .i64 v]) := MBox.start _ _ _
  clear bn
  go_wp2_with fail
  generalize w3.heap.size = X at *
  generalize (w3.alloc (.cells #[.int .i64 (1 + x1), .int .i64 (1 + x2), .int .i64 o, .int .i64 k, .int .i64 v] 37)) = W3 at *
  refine (l1Below_any C 25 _ CU.out (by decide)).mono ?_
  rintro e w5 ⟨x5, rfl, hx5a, _, _, c1, g1⟩
  replace CU : Hid (Cur w5 C) := c1
  replace G : Hid (Chg (fun g => g = C) w w5) := G.out.trans g1 (fun _ _ e => e)
  replace NR : Hid (MBox 37 w5 w.heap.size #[.int .i64 0, .int .i64 0, .int .i64 0, .int .i64 0, .int .i64 0]) := row_chg NR.out g1 (by omega)
  replace SZ : Hid (w.heap.size + 1 ≤ w5.heap.size) := Nat.le_trans SZ.out g1.size
  replace NX : Hid (MBox 37 w5 X #[.int .i64 (1 + x1), .int .i64 (1 + x2), .int .i64 o, .int .i64 k, .int .i64 v]) := row_chg NX.out g1 (by omega)
  clear c1 g1
  rcases (show x5 = 0 ∨ x5 = 1 ∨ x5 = 2 ∨ x5 = 3 ∨ 4 ≤ x5 by omega) with rfl | rfl | rfl | rfl | h4
  · have cNX := NX.out.cells
    have zNX : ∀ j, w5.frozen? ⟨X, j, none⟩ = false := fun j => frozen_of_cells NX.out
    have ch1 : Chg (fun g => g = X) w5 (((((w5.setCell ⟨X, 0, none⟩ (.int .i64 0)).setCell ⟨X, 1, none⟩ (.int .i64 0)).setCell ⟨X, 2, none⟩ (.int .i64 0)).setCell ⟨X, 3, none⟩ (.int .i64 0)).setCell ⟨X, 4, none⟩ (.int .i64 0)) := ((((((Chg.refl (fun g => g = X) w5).setAt X 0 rfl (.int .i64 0)).setAt X 1 rfl (.int .i64 0)).setAt X 2 rfl (.int .i64 0)).setAt X 3 rfl (.int .i64 0)).setAt X 4 rfl (.int .i64 0))
    have hh0 := heap_setCell_same w5 X 0 _ _ (.int .i64 0) NX.out
    have hh1 := heap_setCell_same (w5.setCell ⟨X, 0, none⟩ (.int .i64 0)) X 1 _ _ (.int .i64 0) hh0
    have hh2 := heap_setCell_same ((w5.setCell ⟨X, 0, none⟩ (.int .i64 0)).setCell ⟨X, 1, none⟩ (.int .i64 0)) X 2 _ _ (.int .i64 0) hh1
    have hh3 := heap_setCell_same (((w5.setCell ⟨X, 0, none⟩ (.int .i64 0)).setCell ⟨X, 1, none⟩ (.int .i64 0)).setCell ⟨X, 2, none⟩ (.int .i64 0)) X 3 _ _ (.int .i64 0) hh2
    have hh4 := heap_setCell_same ((((w5.setCell ⟨X, 0, none⟩ (.int .i64 0)).setCell ⟨X, 1, none⟩ (.int .i64 0)).setCell ⟨X, 2, none⟩ (.int .i64 0)).setCell ⟨X, 3, none⟩ (.int .i64 0)) X 4 _ _ (.int .i64 0) hh3
    have nx : (((((w5.setCell ⟨X, 0, none⟩ (.int .i64 0)).setCell ⟨X, 1, none⟩ (.int .i64 0)).setCell ⟨X, 2, none⟩ (.int .i64 0)).setCell ⟨X, 3, none⟩ (.int .i64 0)).setCell ⟨X, 4, none⟩ (.int .i64 0)).heap[X]? = some (.cells #[.int .i64 0, .int .i64 0, .int .i64 0, .int .i64 0, .int .i64 0] 37 (0, 0)) := by simpa using hh4
    clear hh0 hh1 hh2 hh3 hh4
    replace CU : Hid (Cur (((((w5.setCell ⟨X, 0, none⟩ (.int .i64 0)).setCell ⟨X, 1, none⟩ (.int .i64 0)).setCell ⟨X, 2, none⟩ (.int .i64 0)).setCell ⟨X, 3, none⟩ (.int .i64 0)).setCell ⟨X, 4, none⟩ (.int .i64 0)) C) := Cur.chg CU.out ch1 (fun g e => by omega)
    replace G : Hid (Chg (fun g => g = C) w (((((w5.setCell ⟨X, 0, none⟩ (.int .i64 0)).setCell ⟨X, 1, none⟩ (.int .i64 0)).setCell ⟨X, 2, none⟩ (.int .i64 0)).setCell ⟨X, 3, none⟩ (.int .i64 0)).setCell ⟨X, 4, none⟩ (.int .i64 0))) := G.out.trans ch1 (fun g hg e => by omega)
    replace NR : Hid (MBox 37 (((((w5.setCell ⟨X, 0, none⟩ (.int .i64 0)).setCell ⟨X, 1, none⟩ (.int .i64 0)).setCell ⟨X, 2, none⟩ (.int .i64 0)).setCell ⟨X, 3, none⟩ (.int .i64 0)).setCell ⟨X, 4, none⟩ (.int .i64 0)) w.heap.size #[.int .i64 0, .int .i64 0, .int .i64 0, .int .i64 0, .int .i64 0]) := row_chg NR.out ch1 (by omega)
    replace SZ : Hid (w.heap.size + 1 ≤ (((((w5.setCell ⟨X, 0, none⟩ (.int .i64 0)).setCell ⟨X, 1, none⟩ (.int .i64 0)).setCell ⟨X, 2, none⟩ (.int .i64 0)).setCell ⟨X, 3, none⟩ (.int .i64 0)).setCell ⟨X, 4, none⟩ (.int .i64 0)).heap.size) := Nat.le_trans SZ.out ch1.size
    replace NX : Hid (MBox 37 (((((w5.setCell ⟨X, 0, none⟩ (.int .i64 0)).setCell ⟨X, 1, none⟩ (.int .i64 0)).setCell ⟨X, 2, none⟩ (.int .i64 0)).setCell ⟨X, 3, none⟩ (.int .i64 0)).setCell ⟨X, 4, none⟩ (.int .i64 0)) X #[.int .i64 0, .int .i64 0, .int .i64 0, .int .i64 0, .int .i64 0]) := nx
    clear nx ch1
    have dNX := NX.out.cells
    have dNR := NR.out.cells
    have yNR : ∀ j, (((((w5.setCell ⟨X, 0, none⟩ (.int .i64 0)).setCell ⟨X, 1, none⟩ (.int .i64 0)).setCell ⟨X, 2, none⟩ (.int .i64 0)).setCell ⟨X, 3, none⟩ (.int .i64 0)).setCell ⟨X, 4, none⟩ (.int .i64 0)).frozen? ⟨w.heap.size, j, none⟩ = false := fun j => frozen_of_cells NR.out
    have X5 := five_at (.int .i64 0) (.int .i64 0) (.int .i64 0) (.int .i64 0) (.int .i64 0) NR.out
    have ch2 := five_chg (((((w5.setCell ⟨X, 0, none⟩ (.int .i64 0)).setCell ⟨X, 1, none⟩ (.int .i64 0)).setCell ⟨X, 2, none⟩ (.int .i64 0)).setCell ⟨X, 3, none⟩ (.int .i64 0)).setCell ⟨X, 4, none⟩ (.int .i64 0)) w.heap.size (.int .i64 0) (.int .i64 0) (.int .i64 0) (.int .i64 0) (.int .i64 0)
    have FIN : Hid (_ ∧ _ ∧ _) := And.intro X5 (And.intro (Cur.chg CU.out ch2 (fun g e => by omega)) (G.out.trans ch2 (fun g hg e => by omega)))
    clear X5 ch2 CU G NX NR SZ
    go_wp2
    exact bodyPost_ret (v := cmdV 0 0 0 0 0) (by simp [results, Try.results50, go_sem, cell_of_cells FIN.out.1]) rfl ⟨_, _, _, _, _, rfl, FIN.out.2.1, FIN.out.2.2⟩
  · go_wp2_with fail
    refine (l1DrawBad_any C _ CU.out).mono ?_
    rintro e w6 ⟨o2, k2, v2, rfl, c1, g1⟩
    replace CU : Hid (Cur w6 C) := c1
    replace G : Hid (Chg (fun g => g = C) w w6) := G.out.trans g1 (fun _ _ e => e)
    replace NR : Hid (MBox 37 w6 w.heap.size #[.int .i64 0, .int .i64 0, .int .i64 0, .int .i64 0, .int .i64 0]) := row_chg NR.out g1 (by omega)
    replace SZ : Hid (w.heap.size + 1 ≤ w6.heap.size) := Nat.le_trans SZ.out g1.size
    replace NX : Hid (MBox 37 w6 X #[.int .i64 (1 + x1), .int .i64 (1 + x2), .int .i64 o, .int .i64 k, .int .i64 v]) := row_chg NX.out g1 (by omega)
    clear c1 g1
    have cNX := NX.out.cells
    have zNX : ∀ j, w6.frozen? ⟨X, j, none⟩ = false := fun j => frozen_of_cells NX.out
    have ch1 : Chg (fun g => g = X) w6 (((w6.setCell ⟨X, 2, none⟩ (.int .i64 o2)).setCell ⟨X, 3, none⟩ (.int .i64 k2)).setCell ⟨X, 4, none⟩ (.int .i64 v2)) := ((((Chg.refl (fun g => g = X) w6).setAt X 2 rfl (.int .i64 o2)).setAt X 3 rfl (.int .i64 k2)).setAt X 4 rfl (.int .i64 v2))
    have hh0 := heap_setCell_same w6 X 2 _ _ (.int .i64 o2) NX.out
    have hh1 := heap_setCell_same (w6.setCell ⟨X, 2, none⟩ (.int .i64 o2)) X 3 _ _ (.int .i64 k2) hh0
    have hh2 := heap_setCell_same ((w6.setCell ⟨X, 2, none⟩ (.int .i64 o2)).setCell ⟨X, 3, none⟩ (.int .i64 k2)) X 4 _ _ (.int .i64 v2) hh1
    have nx : (((w6.setCell ⟨X, 2, none⟩ (.int .i64 o2)).setCell ⟨X, 3, none⟩ (.int .i64 k2)).setCell ⟨X, 4, none⟩ (.int .i64 v2)).heap[X]? = some (.cells #[.int .i64 (1 + x1), .int .i64 (1 + x2), .int .i64 o2, .int .i64 k2, .int .i64 v2] 37 (0, 0)) := by simpa using hh2
    clear hh0 hh1 hh2
    replace CU : Hid (Cur (((w6.setCell ⟨X, 2, none⟩ (.int .i64 o2)).setCell ⟨X, 3, none⟩ (.int .i64 k2)).setCell ⟨X, 4, none⟩ (.int .i64 v2)) C) := Cur.chg CU.out ch1 (fun g e => by omega)
    replace G : Hid (Chg (fun g => g = C) w (((w6.setCell ⟨X, 2, none⟩ (.int .i64 o2)).setCell ⟨X, 3, none⟩ (.int .i64 k2)).setCell ⟨X, 4, none⟩ (.int .i64 v2))) := G.out.trans ch1 (fun g hg e => by omega)
    replace NR : Hid (MBox 37 (((w6.setCell ⟨X, 2, none⟩ (.int .i64 o2)).setCell ⟨X, 3, none⟩ (.int .i64 k2)).setCell ⟨X, 4, none⟩ (.int .i64 v2)) w.heap.size #[.int .i64 0, .int .i64 0, .int .i64 0, .int .i64 0, .int .i64 0]) := row_chg NR.out ch1 (by omega)
    replace SZ : Hid (w.heap.size + 1 ≤ (((w6.setCell ⟨X, 2, none⟩ (.int .i64 o2)).setCell ⟨X, 3, none⟩ (.int .i64 k2)).setCell ⟨X, 4, none⟩ (.int .i64 v2)).heap.size) := Nat.le_trans SZ.out ch1.size
    replace NX : Hid (MBox 37 (((w6.setCell ⟨X, 2, none⟩ (.int .i64 o2)).setCell ⟨X, 3, none⟩ (.int .i64 k2)).setCell ⟨X, 4, none⟩ (.int .i64 v2)) X #[.int .i64 (1 + x1), .int .i64 (1 + x2), .int .i64 o2, .int .i64 k2, .int .i64 v2]) := nx
    clear nx ch1
    have dNX := NX.out.cells
    have dNR := NR.out.cells
    have yNR : ∀ j, (((w6.setCell ⟨X, 2, none⟩ (.int .i64 o2)).setCell ⟨X, 3, none⟩ (.int .i64 k2)).setCell ⟨X, 4, none⟩ (.int .i64 v2)).frozen? ⟨w.heap.size, j, none⟩ = false := fun j => frozen_of_cells NR.out
    have X5 := five_at (.int .i64 (1 + x1)) (.int .i64 (1 + x2)) (.int .i64 o2) (.int .i64 k2) (.int .i64 v2) NR.out
    have ch2 := five_chg (((w6.setCell ⟨X, 2, none⟩ (.int .i64 o2)).setCell ⟨X, 3, none⟩ (.int .i64 k2)).setCell ⟨X, 4, none⟩ (.int .i64 v2)) w.heap.size (.int .i64 (1 + x1)) (.int .i64 (1 + x2)) (.int .i64 o2) (.int .i64 k2) (.int .i64 v2)
    have FIN : Hid (_ ∧ _ ∧ _) := And.intro X5 (And.intro (Cur.chg CU.out ch2 (fun g e => by omega)) (G.out.trans ch2 (fun g hg e => by omega)))
    clear X5 ch2 CU G NX NR SZ
    go_wp2
    exact bodyPost_ret (v := cmdV (1 + x1) (1 + x2) o2 k2 v2) (by simp [results, Try.results50, go_sem, cell_of_cells FIN.out.1]) rfl ⟨_, _, _, _, _, rfl, FIN.out.2.1, FIN.out.2.2⟩
  · have bn := bel_nw w5 (.cells #[.int .i64 0, .int .i64 100000, .int .i64 100001] 3)
    have hz5 : w.heap.size + 1 ≤ w5.heap.size := SZ.out
    replace CU : Hid (Cur (w5.alloc (.cells #[.int .i64 0, .int .i64 100000, .int .i64 100001] 3)) C) := Cur.alloc CU.out _
    replace G : Hid (Chg (fun g => g = C) w (w5.alloc (.cells #[.int .i64 0, .int .i64 100000, .int .i64 100001] 3))) := G.out.alloc _
    replace NR : Hid (MBox 37 (w5.alloc (.cells #[.int .i64 0, .int .i64 100000, .int .i64 100001] 3)) w.heap.size #[.int .i64 0, .int .i64 0, .int .i64 0, .int .i64 0, .int .i64 0]) := NR.out.step bn
    replace SZ : Hid (w.heap.size + 1 ≤ (w5.alloc (.cells #[.int .i64 0, .int .i64 100000, .int .i64 100001] 3)).heap.size) := Nat.le_trans SZ.out bn.size
    replace NX : Hid (MBox 37 (w5.alloc (.cells #[.int .i64 0, .int .i64 100000, .int .i64 100001] 3)) X #[.int .i64 (1 + x1), .int .i64 (1 + x2), .int .i64 o, .int .i64 k, .int .i64 v]) := NX.out.step bn
    clear bn
    go_wp2_with fail
    refine (l1PickInt_any C w5.heap.size [0, 100000, 100001] (by decide) (by decide) _ CU.out (heap_alloc_new _ _) (by omega)).mono ?_
    rintro e w6 ⟨y, rfl, hy, c1, g1⟩
    replace CU : Hid (Cur w6 C) := c1
    replace G : Hid (Chg (fun g => g = C) w w6) := G.out.trans g1 (fun _ _ e => e)
    replace NR : Hid (MBox 37 w6 w.heap.size #[.int .i64 0, .int .i64 0, .int .i64 0, .int .i64 0, .int .i64 0]) := row_chg NR.out g1 (by omega)
    replace SZ : Hid (w.heap.size + 1 ≤ w6.heap.size) := Nat.le_trans SZ.out g1.size
    replace NX : Hid (MBox 37 w6 X #[.int .i64 (1 + x1), .int .i64 (1 + x2), .int .i64 o, .int .i64 k, .int .i64 v]) := row_chg NX.out g1 (by omega)
    clear c1 g1 hy
    have cNX := NX.out.cells
    have zNX : ∀ j, w6.frozen? ⟨X, j, none⟩ = false := fun j => frozen_of_cells NX.out
    have ch1 : Chg (fun g => g = X) w6 (w6.setCell ⟨X, 1, none⟩ (.int .i64 y)) := ((Chg.refl (fun g => g = X) w6).setAt X 1 rfl (.int .i64 y))
    have hh0 := heap_setCell_same w6 X 1 _ _ (.int .i64 y) NX.out
    have nx : (w6.setCell ⟨X, 1, none⟩ (.int .i64 y)).heap[X]? = some (.cells #[.int .i64 (1 + x1), .int .i64 y, .int .i64 o, .int .i64 k, .int .i64 v] 37 (0, 0)) := by simpa using hh0
    clear hh0
    replace CU : Hid (Cur (w6.setCell ⟨X, 1, none⟩ (.int .i64 y)) C) := Cur.chg CU.out ch1 (fun g e => by omega)
    replace G : Hid (Chg (fun g => g = C) w (w6.setCell ⟨X, 1, none⟩ (.int .i64 y))) := G.out.trans ch1 (fun g hg e => by omega)
    replace NR : Hid (MBox 37 (w6.setCell ⟨X, 1, none⟩ (.int .i64 y)) w.heap.size #[.int .i64 0, .int .i64 0, .int .i64 0, .int .i64 0, .int .i64 0]) := row_chg NR.out ch1 (by omega)
    replace SZ : Hid (w.heap.size + 1 ≤ (w6.setCell ⟨X, 1, none⟩ (.int .i64 y)).heap.size) := Nat.le_trans SZ.out ch1.size
    replace NX : Hid (MBox 37 (w6.setCell ⟨X, 1, none⟩ (.int .i64 y)) X #[.int .i64 (1 + x1), .int .i64 y, .int .i64 o, .int .i64 k, .int .i64 v]) := nx
    clear nx ch1
    have dNX := NX.out.cells
    have dNR := NR.out.cells
    have yNR : ∀ j, (w6.setCell ⟨X, 1, none⟩ (.int .i64 y)).frozen? ⟨w.heap.size, j, none⟩ = false := fun j => frozen_of_cells NR.out
    have X5 := five_at (.int .i64 (1 + x1)) (.int .i64 y) (.int .i64 o) (.int .i64 k) (.int .i64 v) NR.out
    have ch2 := five_chg (w6.setCell ⟨X, 1, none⟩ (.int .i64 y)) w.heap.size (.int .i64 (1 + x1)) (.int .i64 y) (.int .i64 o) (.int .i64 k) (.int .i64 v)
    have FIN : Hid (_ ∧ _ ∧ _) := And.intro X5 (And.intro (Cur.chg CU.out ch2 (fun g e => by omega)) (G.out.trans ch2 (fun g hg e => by omega)))
    clear X5 ch2 CU G NX NR SZ
    go_wp2
    exact bodyPost_ret (v := cmdV (1 + x1) y o k v) (by simp [results, Try.results50, go_sem, cell_of_cells FIN.out.1]) rfl ⟨_, _, _, _, _, rfl, FIN.out.2.1, FIN.out.2.2⟩
  · have bn := bel_nw w5 (.cells #[.int .i64 (-1), .int .i64 9, .int .i64 10] 3)
    have hz5 : w.heap.size + 1 ≤ w5.heap.size := SZ.out
    replace CU : Hid (Cur (w5.alloc (.cells #[.int .i64 (-1), .int .i64 9, .int .i64 10] 3)) C) := Cur.alloc CU.out _
    replace G : Hid (Chg (fun g => g = C) w (w5.alloc (.cells #[.int .i64 (-1), .int .i64 9, .int .i64 10] 3))) := G.out.alloc _
    replace NR : Hid (MBox 37 (w5.alloc (.cells #[.int .i64 (-1), .int .i64 9, .int .i64 10] 3)) w.heap.size #[.int .i64 0, .int .i64 0, .int .i64 0, .int .i64 0, .int .i64 0]) := NR.out.step bn
    replace SZ : Hid (w.heap.size + 1 ≤ (w5.alloc (.cells #[.int .i64 (-1), .int .i64 9, .int .i64 10] 3)).heap.size) := Nat.le_trans SZ.out bn.size
    replace NX : Hid (MBox 37 (w5.alloc (.cells #[.int .i64 (-1), .int .i64 9, .int .i64 10] 3)) X #[.int .i64 (1 + x1), .int .i64 (1 + x2), .int .i64 o, .int .i64 k, .int .i64 v]) := NX.out.step bn
    clear bn
    go_wp2_with fail
    refine (l1PickInt_any C w5.heap.size [(-1), 9, 10] (by decide) (by decide) _ CU.out (heap_alloc_new _ _) (by omega)).mono ?_
    rintro e w6 ⟨y, rfl, hy, c1, g1⟩
    replace CU : Hid (Cur w6 C) := c1
    replace G : Hid (Chg (fun g => g = C) w w6) := G.out.trans g1 (fun _ _ e => e)
    replace NR : Hid (MBox 37 w6 w.heap.size #[.int .i64 0, .int .i64 0, .int .i64 0, .int .i64 0, .int .i64 0]) := row_chg NR.out g1 (by omega)
    replace SZ : Hid (w.heap.size + 1 ≤ w6.heap.size) := Nat.le_trans SZ.out g1.size
    replace NX : Hid (MBox 37 w6 X #[.int .i64 (1 + x1), .int .i64 (1 + x2), .int .i64 o, .int .i64 k, .int .i64 v]) := row_chg NX.out g1 (by omega)
    clear c1 g1 hy
    have cNX := NX.out.cells
    have zNX : ∀ j, w6.frozen? ⟨X, j, none⟩ = false := fun j => frozen_of_cells NX.out
    have ch1 : Chg (fun g => g = X) w6 (w6.setCell ⟨X, 0, none⟩ (.int .i64 y)) := ((Chg.refl (fun g => g = X) w6).setAt X 0 rfl (.int .i64 y))
    have hh0 := heap_setCell_same w6 X 0 _ _ (.int .i64 y) NX.out
    have nx : (w6.setCell ⟨X, 0, none⟩ (.int .i64 y)).heap[X]? = some (.cells #[.int .i64 y, .int .i64 (1 + x2), .int .i64 o, .int .i64 k, .int .i64 v] 37 (0, 0)) := by simpa using hh0
    clear hh0
    replace CU : Hid (Cur (w6.setCell ⟨X, 0, none⟩ (.int .i64 y)) C) := Cur.chg CU.out ch1 (fun g e => by omega)
    replace G : Hid (Chg (fun g => g = C) w (w6.setCell ⟨X, 0, none⟩ (.int .i64 y))) := G.out.trans ch1 (fun g hg e => by omega)
    replace NR : Hid (MBox 37 (w6.setCell ⟨X, 0, none⟩ (.int .i64 y)) w.heap.size #[.int .i64 0, .int .i64 0, .int .i64 0, .int .i64 0, .int .i64 0]) := row_chg NR.out ch1 (by omega)
    replace SZ : Hid (w.heap.size + 1 ≤ (w6.setCell ⟨X, 0, none⟩ (.int .i64 y)).heap.size) := Nat.le_trans SZ.out ch1.size
    replace NX : Hid (MBox 37 (w6.setCell ⟨X, 0, none⟩ (.int .i64 y)) X #[.int .i64 y, .int .i64 (1 + x2), .int .i64 o, .int .i64 k, .int .i64 v]) := nx
    clear nx ch1
    have dNX := NX.out.cells
    have dNR := NR.out.cells
    have yNR : ∀ j, (w6.setCell ⟨X, 0, none⟩ (.int .i64 y)).frozen? ⟨w.heap.size, j, none⟩ = false := fun j => frozen_of_cells NR.out
    have X5 := five_at (.int .i64 y) (.int .i64 (1 + x2)) (.int .i64 o) (.int .i64 k) (.int .i64 v) NR.out
    have ch2 := five_chg (w6.setCell ⟨X, 0, none⟩ (.int .i64 y)) w.heap.size (.int .i64 y) (.int .i64 (1 + x2)) (.int .i64 o) (.int .i64 k) (.int .i64 v)
    have FIN : Hid (_ ∧ _ ∧ _) := And.intro X5 (And.intro (Cur.chg CU.out ch2 (fun g e => by omega)) (G.out.trans ch2 (fun g hg e => by omega)))
    clear X5 ch2 CU G NX NR SZ
    go_wp2
    exact bodyPost_ret (v := cmdV y (1 + x2) o k v) (by simp [results, Try.results50, go_sem, cell_of_cells FIN.out.1]) rfl ⟨_, _, _, _, _, rfl, FIN.out.2.1, FIN.out.2.2⟩
  · have e0 : (x5 == 0) = false := by rw [beq_eq_false_iff_ne]; omega
    have e1 : (x5 == 1) = false := by rw [beq_eq_false_iff_ne]; omega
    have e2 : (x5 == 2) = false := by rw [beq_eq_false_iff_ne]; omega
    have e3 : (x5 == 3) = false := by rw [beq_eq_false_iff_ne]; omega
    have cNX := NX.out.cells
    have zNX : ∀ j, w5.frozen? ⟨X, j, none⟩ = false := fun j => frozen_of_cells NX.out
    have cNR := NR.out.cells
    have zNR : ∀ j, w5.frozen? ⟨w.heap.size, j, none⟩ = false := fun j => frozen_of_cells NR.out
    have X5 := five_at (.int .i64 (1 + x1)) (.int .i64 (1 + x2)) (.int .i64 o) (.int .i64 k) (.int .i64 v) NR.out
    have ch2 := five_chg w5 w.heap.size (.int .i64 (1 + x1)) (.int .i64 (1 + x2)) (.int .i64 o) (.int .i64 k) (.int .i64 v)
    have FIN : Hid (_ ∧ _ ∧ _) := And.intro X5 (And.intro (Cur.chg CU.out ch2 (fun g e => by omega)) (G.out.trans ch2 (fun g hg e => by omega)))
    clear X5 ch2 CU G NX NR SZ
    go_wp2
    exact bodyPost_ret (v := cmdV (1 + x1) (1 + x2) o k v) (by simp [results, Try.results50, go_sem, cell_of_cells FIN.out.1]) rfl ⟨_, _, _, _, _, rfl, FIN.out.2.1, FIN.out.2.2⟩

end Go.Proofs.Yteegcblndbljlaa
