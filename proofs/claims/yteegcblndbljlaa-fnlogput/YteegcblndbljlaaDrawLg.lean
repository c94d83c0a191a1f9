/-
  The model's drawing of logs that are right.
-/
import Derived.Test.YteegcblndbljlaaDrawCm
import Derived.Test.YteegcblndbljlaaLogPart
import Derived.Deep.DeepCutAuto
import Derived.Deep.CutBlock
namespace Go.Proofs.Yteegcblndbljlaa
open Go.RowKit

set_option maxRecDepth 100000 in
set_option maxHeartbeats 4000000 in
theorem l8DrawRight_any (C : Nat) (w : World) (hc : Cur w C) :
    Calls Try.prog 65 #[.pointer (some ⟨C, 0, none⟩)] w fun e w' => ∃ (b bt : Int) (v : Value) (l : EL), e = .returned (lgV b bt v) ∧ 0 ≤ b ∧ b ≤ 3 ∧ 0 ≤ bt ∧ bt ≤ 2 ∧ l.length ≤ 7 ∧ OwnE w' w.heap.size 39 6 v l.length (flatE l) ∧ Cur w' C ∧ Chg (fun g => g = C) w w' := by
  have hCw := hc.lt
  obtain ⟨i0, hi0, hz0, hz1, hz2⟩ := info_parts Try.info39
  have CU : Hid (Cur (w.alloc (.cells #[.int .i64 0, .int .i64 0, .slice none 0 0] 26)) C) := hc.alloc _
  have G : Hid (Chg (fun g => g = C) w (w.alloc (.cells #[.int .i64 0, .int .i64 0, .slice none 0 0] 26))) := (Chg.refl _ _).alloc _
  have NR : Hid (MBox 26 (w.alloc (.cells #[.int .i64 0, .int .i64 0, .slice none 0 0] 26)) w.heap.size #[.int .i64 0, .int .i64 0, .slice none 0 0]) := MBox.start _ _ _
  have SZ : Hid (w.heap.size + 1 ≤ (w.alloc (.cells #[.int .i64 0, .int .i64 0, .slice none 0 0] 26)).heap.size) := by show _ ≤ _; simp
  clear hc
  go_enter Try.func65, Try.ntmps65
  go_wp2_with fail
  generalize (w.alloc (.cells #[.int .i64 0, .int .i64 0, .slice none 0 0] 26)) = W0 at *
  refine (l1Below_any C 4 _ CU.out (by decide)).mono ?_
  rintro e w1 ⟨b, rfl, hb0, hbb, _, c1, g1⟩
  have hb1 : b < 4 := hbb (by decide)
  replace CU : Hid (Cur w1 C) := c1
  replace G : Hid (Chg (fun g => g = C) w w1) := G.out.trans g1 (fun _ _ e => e)
  replace NR : Hid (MBox 26 w1 w.heap.size #[.int .i64 0, .int .i64 0, .slice none 0 0]) := row_chg NR.out g1 (by omega)
  replace SZ : Hid (w.heap.size + 1 ≤ w1.heap.size) := Nat.le_trans SZ.out g1.size
  clear c1 g1 hbb
  go_wp2_with fail
  refine (l1Below_any C 3 _ CU.out (by decide)).mono ?_
  rintro e w2 ⟨bt, rfl, ht0, htt, _, c1, g1⟩
  have ht1 : bt < 3 := htt (by decide)
  replace CU : Hid (Cur w2 C) := c1
  replace G : Hid (Chg (fun g => g = C) w w2) := G.out.trans g1 (fun _ _ e => e)
  replace NR : Hid (MBox 26 w2 w.heap.size #[.int .i64 0, .int .i64 0, .slice none 0 0]) := row_chg NR.out g1 (by omega)
  replace SZ : Hid (w.heap.size + 1 ≤ w2.heap.size) := Nat.le_trans SZ.out g1.size
  clear c1 g1 htt
  have bn := bel_nw w2 (.cells #[.int .i64 b, .int .i64 bt, .slice none 0 0] 26)
  have hX : w.heap.size + 1 ≤ w2.heap.size := SZ.out
  replace CU : Hid (Cur (w2.alloc (.cells #[.int .i64 b, .int .i64 bt, .slice none 0 0] 26)) C) := Cur.alloc CU.out _
  replace G : Hid (Chg (fun g => g = C) w (w2.alloc (.cells #[.int .i64 b, .int .i64 bt, .slice none 0 0] 26))) := G.out.alloc _
  replace NR : Hid (MBox 26 (w2.alloc (.cells #[.int .i64 b, .int .i64 bt, .slice none 0 0] 26)) w.heap.size #[.int .i64 0, .int .i64 0, .slice none 0 0]) := NR.out.step bn
  replace SZ : Hid (w.heap.size + 1 ≤ (w2.alloc (.cells #[.int .i64 b, .int .i64 bt, .slice none 0 0] 26)).heap.size) := Nat.le_trans SZ.out bn.size
  have NX : Hid (MBox 26 (w2.alloc (.cells #[.int .i64 b, .int .i64 bt, .slice none 0 0] 26)) w2.heap.size #[.int .i64 b, .int .i64 bt, .slice none 0 0]) := MBox.start _ _ _
  have SX : Hid (w2.heap.size + 1 ≤ (w2.alloc (.cells #[.int .i64 b, .int .i64 bt, .slice none 0 0] 26)).heap.size) := by show _ ≤ _; simp
  clear bn
  have cNX := NX.out.cells
  go_wp2_with fail
  clear cNX
  generalize w2.heap.size = X at *
  generalize (w2.alloc (.cells #[.int .i64 b, .int .i64 bt, .slice none 0 0] 26)) = W2 at *
  refine (l1Below_any C 8 _ CU.out (by decide)).mono ?_
  rintro e w3 ⟨nn, rfl, hn0, hnn, _, c1, g1⟩
  have hn1 : nn < 8 := hnn (by decide)
  replace CU : Hid (Cur w3 C) := c1
  replace G : Hid (Chg (fun g => g = C) w w3) := G.out.trans g1 (fun _ _ e => e)
  replace NR : Hid (MBox 26 w3 w.heap.size #[.int .i64 0, .int .i64 0, .slice none 0 0]) := row_chg NR.out g1 (by omega)
  replace SZ : Hid (w.heap.size + 1 ≤ w3.heap.size) := Nat.le_trans SZ.out g1.size
  replace NX : Hid (MBox 26 w3 X #[.int .i64 b, .int .i64 bt, .slice none 0 0]) := row_chg NX.out g1 (by omega)
  replace SX : Hid (X + 1 ≤ w3.heap.size) := Nat.le_trans SX.out g1.size
  clear c1 g1 hnn
  obtain ⟨n, rfl⟩ := Int.eq_ofNat_of_zero_le hn0
  go_wp2_with fail
  go_loopw [4, 6] (fun t i wr => ∃ (j : Nat) (tm : Int) (ax : Option Addr) (qx : Nat) (l : EL), j ≤ n ∧ i = .int .i64 j ∧ t = .int .i64 tm ∧ 0 ≤ tm ∧ tm ≤ 2 + j ∧ Hid (l.length = j) ∧ Hid (MBox 26 wr X #[.int .i64 b, .int .i64 bt, .slice ax j qx]) ∧ Hid (MBox 26 wr w.heap.size #[.int .i64 0, .int .i64 0, .slice none 0 0]) ∧ Hid (OwnE wr w.heap.size 39 6 (.slice ax j qx) j (flatE l)) ∧ Hid (Cur wr C) ∧ Hid (Chg (fun g => g = C) w wr) ∧ Hid (X + 1 ≤ wr.heap.size))
    (fun _ i _ => n - (intOf i).toNat)
  case atStart => exact ⟨0, bt, none, 0, [], Nat.zero_le _, rfl, rfl, ht0, by omega, rfl, NX.out, NR.out, OwnE.nil _ _ _ _, CU.out, G.out, SX.out⟩
  case round =>
    clear NX NR CU G SX SZ
    obtain ⟨j, tm, ax, qx, l, hjn, rfl, rfl, htm0, htm1, HL, NX, NR, OE, CU, G, SX⟩ := hrel
    by_cases hlt : j < n
    · go_wp2_with fail
      refine (l1Below_any C 4 _ CU.out (by decide)).mono ?_
      rintro e w4 ⟨y, rfl, hy0, hyy, _, c1, g1⟩
      have hy1 : y < 4 := hyy (by decide)
      replace CU : Hid (Cur w4 C) := c1
      replace G : Hid (Chg (fun g => g = C) w w4) := G.out.trans g1 (fun _ _ e => e)
      replace NR : Hid (MBox 26 w4 w.heap.size #[.int .i64 0, .int .i64 0, .slice none 0 0]) := row_chg NR.out g1 (by omega)
      replace NX : Hid (MBox 26 w4 X #[.int .i64 b, .int .i64 bt, .slice ax j qx]) := row_chg NX.out g1 (by omega)
      replace OE : Hid (OwnE w4 w.heap.size 39 6 (.slice ax j qx) j (flatE l)) := OwnE.chg OE.out g1 (fun q hq e => by have := (OwnE.lt OE.out q hq).1; omega)
      replace SX : Hid (X + 1 ≤ w4.heap.size) := Nat.le_trans SX.out g1.size
      clear c1 g1 hyy
      obtain ⟨q, hq1⟩ : ∃ q, y.tdiv 3 = q := ⟨_, rfl⟩
      have hq2 : y / 3 = q := by rw [← hq1, Int.tdiv_eq_ediv_of_nonneg hy0]
      have hq3 : 0 ≤ q ∧ q ≤ 1 := by omega
      have bn := bel_nw w4 (.cells #[.int .i64 0, .int .i64 0, .int .i64 0, .int .i64 0, .int .i64 0] 37)
      have hY : X + 1 ≤ w4.heap.size := SX.out
      replace CU : Hid (Cur (w4.alloc (.cells #[.int .i64 0, .int .i64 0, .int .i64 0, .int .i64 0, .int .i64 0] 37)) C) := Cur.alloc CU.out _
      replace G : Hid (Chg (fun g => g = C) w (w4.alloc (.cells #[.int .i64 0, .int .i64 0, .int .i64 0, .int .i64 0, .int .i64 0] 37))) := G.out.alloc _
      replace NR : Hid (MBox 26 (w4.alloc (.cells #[.int .i64 0, .int .i64 0, .int .i64 0, .int .i64 0, .int .i64 0] 37)) w.heap.size #[.int .i64 0, .int .i64 0, .slice none 0 0]) := NR.out.step bn
      replace NX : Hid (MBox 26 (w4.alloc (.cells #[.int .i64 0, .int .i64 0, .int .i64 0, .int .i64 0, .int .i64 0] 37)) X #[.int .i64 b, .int .i64 bt, .slice ax j qx]) := NX.out.step bn
      replace OE : Hid (OwnE (w4.alloc (.cells #[.int .i64 0, .int .i64 0, .int .i64 0, .int .i64 0, .int .i64 0] 37)) w.heap.size 39 6 (.slice ax j qx) j (flatE l)) := OwnE.below OE.out bn
      replace SX : Hid (X + 1 ≤ (w4.alloc (.cells #[.int .i64 0, .int .i64 0, .int .i64 0, .int .i64 0, .int .i64 0] 37)).heap.size) := Nat.le_trans SX.out bn.size
      have NY : Hid (MBox 37 (w4.alloc (.cells #[.int .i64 0, .int .i64 0, .int .i64 0, .int .i64 0, .int .i64 0] 37)) w4.heap.size #[.int .i64 0, .int .i64 0, .int .i64 0, .int .i64 0, .int .i64 0]) := MBox.start _ _ _
      have SY : Hid (w4.heap.size + 1 ≤ (w4.alloc (.cells #[.int .i64 0, .int .i64 0, .int .i64 0, .int .i64 0, .int .i64 0] 37)).heap.size) := by show _ ≤ _; simp
      clear bn
      go_wp2_with fail
      generalize w4.heap.size = Y at *
      generalize (w4.alloc (.cells #[.int .i64 0, .int .i64 0, .int .i64 0, .int .i64 0, .int .i64 0] 37)) = W4 at *
      refine (l1Once_any C 4 _ CU.out (by decide)).mono ?_
      rintro e w5 ⟨on, rfl, c1, g1⟩
      replace CU : Hid (Cur w5 C) := c1
      replace G : Hid (Chg (fun g => g = C) w w5) := G.out.trans g1 (fun _ _ e => e)
      replace NR : Hid (MBox 26 w5 w.heap.size #[.int .i64 0, .int .i64 0, .slice none 0 0]) := row_chg NR.out g1 (by omega)
      replace NX : Hid (MBox 26 w5 X #[.int .i64 b, .int .i64 bt, .slice ax j qx]) := row_chg NX.out g1 (by omega)
      replace OE : Hid (OwnE w5 w.heap.size 39 6 (.slice ax j qx) j (flatE l)) := OwnE.chg OE.out g1 (fun q hq e => by have := (OwnE.lt OE.out q hq).1; omega)
      replace SX : Hid (X + 1 ≤ w5.heap.size) := Nat.le_trans SX.out g1.size
      replace NY : Hid (MBox 37 w5 Y #[.int .i64 0, .int .i64 0, .int .i64 0, .int .i64 0, .int .i64 0]) := row_chg NY.out g1 (by omega)
      replace SY : Hid (Y + 1 ≤ w5.heap.size) := Nat.le_trans SY.out g1.size
      clear c1 g1
      have RM : Hid _ := room_of (n := j) (bytes := 48) (by omega) (by decide)
      cases on
      · go_wp2_with fail
        refine (l1Below_any C 3 _ CU.out (by decide)).mono ?_
        rintro e w6 ⟨x1, rfl, hx1a, hx1b, _, c1, g1⟩
        have hx1 : x1 < 3 := hx1b (by decide)
        replace CU : Hid (Cur w6 C) := c1
        replace G : Hid (Chg (fun g => g = C) w w6) := G.out.trans g1 (fun _ _ e => e)
        replace NR : Hid (MBox 26 w6 w.heap.size #[.int .i64 0, .int .i64 0, .slice none 0 0]) := row_chg NR.out g1 (by omega)
        replace NX : Hid (MBox 26 w6 X #[.int .i64 b, .int .i64 bt, .slice ax j qx]) := row_chg NX.out g1 (by omega)
        replace OE : Hid (OwnE w6 w.heap.size 39 6 (.slice ax j qx) j (flatE l)) := OwnE.chg OE.out g1 (fun q hq e => by have := (OwnE.lt OE.out q hq).1; omega)
        replace SX : Hid (X + 1 ≤ w6.heap.size) := Nat.le_trans SX.out g1.size
        replace NY : Hid (MBox 37 w6 Y #[.int .i64 0, .int .i64 0, .int .i64 0, .int .i64 0, .int .i64 0]) := row_chg NY.out g1 (by omega)
        replace SY : Hid (Y + 1 ≤ w6.heap.size) := Nat.le_trans SY.out g1.size
        clear c1 g1 hx1b
        go_wp2_with fail
        refine (l1Below_any C 5 _ CU.out (by decide)).mono ?_
        rintro e w7 ⟨x2, rfl, hx2a, hx2b, _, c1, g1⟩
        have hx2 : x2 < 5 := hx2b (by decide)
        replace CU : Hid (Cur w7 C) := c1
        replace G : Hid (Chg (fun g => g = C) w w7) := G.out.trans g1 (fun _ _ e => e)
        replace NR : Hid (MBox 26 w7 w.heap.size #[.int .i64 0, .int .i64 0, .slice none 0 0]) := row_chg NR.out g1 (by omega)
        replace NX : Hid (MBox 26 w7 X #[.int .i64 b, .int .i64 bt, .slice ax j qx]) := row_chg NX.out g1 (by omega)
        replace OE : Hid (OwnE w7 w.heap.size 39 6 (.slice ax j qx) j (flatE l)) := OwnE.chg OE.out g1 (fun q hq e => by have := (OwnE.lt OE.out q hq).1; omega)
        replace SX : Hid (X + 1 ≤ w7.heap.size) := Nat.le_trans SX.out g1.size
        replace NY : Hid (MBox 37 w7 Y #[.int .i64 0, .int .i64 0, .int .i64 0, .int .i64 0, .int .i64 0]) := row_chg NY.out g1 (by omega)
        replace SY : Hid (Y + 1 ≤ w7.heap.size) := Nat.le_trans SY.out g1.size
        clear c1 g1 hx2b
        go_wp2_with fail
        refine (l1DrawMsg_any C _ CU.out).mono ?_
        rintro e w8 ⟨oo, kk, vv, rfl, c1, g1⟩
        replace CU : Hid (Cur w8 C) := c1
        replace G : Hid (Chg (fun g => g = C) w w8) := G.out.trans g1 (fun _ _ e => e)
        replace NR : Hid (MBox 26 w8 w.heap.size #[.int .i64 0, .int .i64 0, .slice none 0 0]) := row_chg NR.out g1 (by omega)
        replace NX : Hid (MBox 26 w8 X #[.int .i64 b, .int .i64 bt, .slice ax j qx]) := row_chg NX.out g1 (by omega)
        replace OE : Hid (OwnE w8 w.heap.size 39 6 (.slice ax j qx) j (flatE l)) := OwnE.chg OE.out g1 (fun q hq e => by have := (OwnE.lt OE.out q hq).1; omega)
        replace SX : Hid (X + 1 ≤ w8.heap.size) := Nat.le_trans SX.out g1.size
        replace NY : Hid (MBox 37 w8 Y #[.int .i64 0, .int .i64 0, .int .i64 0, .int .i64 0, .int .i64 0]) := row_chg NY.out g1 (by omega)
        replace SY : Hid (Y + 1 ≤ w8.heap.size) := Nat.le_trans SY.out g1.size
        clear c1 g1
        have m8 := NY.out.cells
        have f8 : ∀ j, w8.frozen? ⟨Y, j, none⟩ = false := fun j => frozen_of_cells NY.out
        have y8 := five_at (.int .i64 (1 + x1)) (.int .i64 (1 + x2)) (.int .i64 oo) (.int .i64 kk) (.int .i64 vv) NY.out
        have ch8 := five_chg w8 Y (.int .i64 (1 + x1)) (.int .i64 (1 + x2)) (.int .i64 oo) (.int .i64 kk) (.int .i64 vv)
        replace CU : Hid (Cur (((((w8.setCell ⟨Y, 0, none⟩ (.int .i64 (1 + x1))).setCell ⟨Y, 1, none⟩ (.int .i64 (1 + x2))).setCell ⟨Y, 2, none⟩ (.int .i64 oo)).setCell ⟨Y, 3, none⟩ (.int .i64 kk)).setCell ⟨Y, 4, none⟩ (.int .i64 vv)) C) := Cur.chg CU.out ch8 (fun g e => by omega)
        replace G : Hid (Chg (fun g => g = C) w (((((w8.setCell ⟨Y, 0, none⟩ (.int .i64 (1 + x1))).setCell ⟨Y, 1, none⟩ (.int .i64 (1 + x2))).setCell ⟨Y, 2, none⟩ (.int .i64 oo)).setCell ⟨Y, 3, none⟩ (.int .i64 kk)).setCell ⟨Y, 4, none⟩ (.int .i64 vv))) := G.out.trans ch8 (fun g hg e => by omega)
        replace NR : Hid (MBox 26 (((((w8.setCell ⟨Y, 0, none⟩ (.int .i64 (1 + x1))).setCell ⟨Y, 1, none⟩ (.int .i64 (1 + x2))).setCell ⟨Y, 2, none⟩ (.int .i64 oo)).setCell ⟨Y, 3, none⟩ (.int .i64 kk)).setCell ⟨Y, 4, none⟩ (.int .i64 vv)) w.heap.size #[.int .i64 0, .int .i64 0, .slice none 0 0]) := row_chg NR.out ch8 (by omega)
        replace NX : Hid (MBox 26 (((((w8.setCell ⟨Y, 0, none⟩ (.int .i64 (1 + x1))).setCell ⟨Y, 1, none⟩ (.int .i64 (1 + x2))).setCell ⟨Y, 2, none⟩ (.int .i64 oo)).setCell ⟨Y, 3, none⟩ (.int .i64 kk)).setCell ⟨Y, 4, none⟩ (.int .i64 vv)) X #[.int .i64 b, .int .i64 bt, .slice ax j qx]) := row_chg NX.out ch8 (by omega)
        replace OE : Hid (OwnE (((((w8.setCell ⟨Y, 0, none⟩ (.int .i64 (1 + x1))).setCell ⟨Y, 1, none⟩ (.int .i64 (1 + x2))).setCell ⟨Y, 2, none⟩ (.int .i64 oo)).setCell ⟨Y, 3, none⟩ (.int .i64 kk)).setCell ⟨Y, 4, none⟩ (.int .i64 vv)) w.heap.size 39 6 (.slice ax j qx) j (flatE l)) := OwnE.chg OE.out ch8 (fun g hg => ownE_apart OE.out NY.out (by decide) hg)
        replace SX : Hid (X + 1 ≤ (((((w8.setCell ⟨Y, 0, none⟩ (.int .i64 (1 + x1))).setCell ⟨Y, 1, none⟩ (.int .i64 (1 + x2))).setCell ⟨Y, 2, none⟩ (.int .i64 oo)).setCell ⟨Y, 3, none⟩ (.int .i64 kk)).setCell ⟨Y, 4, none⟩ (.int .i64 vv)).heap.size) := Nat.le_trans SX.out ch8.size
        replace SY : Hid (Y + 1 ≤ (((((w8.setCell ⟨Y, 0, none⟩ (.int .i64 (1 + x1))).setCell ⟨Y, 1, none⟩ (.int .i64 (1 + x2))).setCell ⟨Y, 2, none⟩ (.int .i64 oo)).setCell ⟨Y, 3, none⟩ (.int .i64 kk)).setCell ⟨Y, 4, none⟩ (.int .i64 vv)).heap.size) := Nat.le_trans SY.out ch8.size
        replace NY : Hid (MBox 37 (((((w8.setCell ⟨Y, 0, none⟩ (.int .i64 (1 + x1))).setCell ⟨Y, 1, none⟩ (.int .i64 (1 + x2))).setCell ⟨Y, 2, none⟩ (.int .i64 oo)).setCell ⟨Y, 3, none⟩ (.int .i64 kk)).setCell ⟨Y, 4, none⟩ (.int .i64 vv)) Y #[.int .i64 (1 + x1), .int .i64 (1 + x2), .int .i64 oo, .int .i64 kk, .int .i64 vv]) := y8
        clear y8 ch8
        go_upto_region 11 with fail
        clear m8 f8
        generalize (((((w8.setCell ⟨Y, 0, none⟩ (.int .i64 (1 + x1))).setCell ⟨Y, 1, none⟩ (.int .i64 (1 + x2))).setCell ⟨Y, 2, none⟩ (.int .i64 oo)).setCell ⟨Y, 3, none⟩ (.int .i64 kk)).setCell ⟨Y, 4, none⟩ (.int .i64 vv)) = W8 at *
        have cNX := NX.out.cells
        have cNY := NY.out.cells
        have bn := bel_nw W8 (.cells #[.int .i64 (tm + q), .int .i64 (1 + x1), .int .i64 (1 + x2), .int .i64 oo, .int .i64 kk, .int .i64 vv] 39)
        have HX : Hid ((W8.alloc (.cells #[.int .i64 (tm + q), .int .i64 (1 + x1), .int .i64 (1 + x2), .int .i64 oo, .int .i64 kk, .int .i64 vv] 39)).heap[W8.heap.size]? = some (.cells (flatE [(tm + q, 1 + x1, 1 + x2, oo, kk, vv)]).toArray 39 (0, 0))) := heap_alloc_new W8 _
        have szw : w.heap.size ≤ W8.heap.size := by have := SX.out; omega
        replace CU : Hid (Cur (W8.alloc (.cells #[.int .i64 (tm + q), .int .i64 (1 + x1), .int .i64 (1 + x2), .int .i64 oo, .int .i64 kk, .int .i64 vv] 39)) C) := Cur.alloc CU.out _
        replace G : Hid (Chg (fun g => g = C) w (W8.alloc (.cells #[.int .i64 (tm + q), .int .i64 (1 + x1), .int .i64 (1 + x2), .int .i64 oo, .int .i64 kk, .int .i64 vv] 39))) := G.out.alloc _
        replace NR : Hid (MBox 26 (W8.alloc (.cells #[.int .i64 (tm + q), .int .i64 (1 + x1), .int .i64 (1 + x2), .int .i64 oo, .int .i64 kk, .int .i64 vv] 39)) w.heap.size #[.int .i64 0, .int .i64 0, .slice none 0 0]) := NR.out.step bn
        replace NX : Hid (MBox 26 (W8.alloc (.cells #[.int .i64 (tm + q), .int .i64 (1 + x1), .int .i64 (1 + x2), .int .i64 oo, .int .i64 kk, .int .i64 vv] 39)) X #[.int .i64 b, .int .i64 bt, .slice ax j qx]) := NX.out.step bn
        replace OE : Hid (OwnE (W8.alloc (.cells #[.int .i64 (tm + q), .int .i64 (1 + x1), .int .i64 (1 + x2), .int .i64 oo, .int .i64 kk, .int .i64 vv] 39)) w.heap.size 39 6 (.slice ax j qx) j (flatE l)) := OwnE.below OE.out bn
        replace SX : Hid (X + 1 ≤ (W8.alloc (.cells #[.int .i64 (tm + q), .int .i64 (1 + x1), .int .i64 (1 + x2), .int .i64 oo, .int .i64 kk, .int .i64 vv] 39)).heap.size) := Nat.le_trans SX.out bn.size
        replace NY : Hid (MBox 37 (W8.alloc (.cells #[.int .i64 (tm + q), .int .i64 (1 + x1), .int .i64 (1 + x2), .int .i64 oo, .int .i64 kk, .int .i64 vv] 39)) Y #[.int .i64 (1 + x1), .int .i64 (1 + x2), .int .i64 oo, .int .i64 kk, .int .i64 vv]) := NY.out.step bn
        replace SY : Hid (Y + 1 ≤ (W8.alloc (.cells #[.int .i64 (tm + q), .int .i64 (1 + x1), .int .i64 (1 + x2), .int .i64 oo, .int .i64 kk, .int .i64 vv] 39)).heap.size) := Nat.le_trans SY.out bn.size
        clear bn
        have gNX := NX.out.cells
        have gNY := NY.out.cells
        go_wp2_with (at_builtin; refine list_appE (W8.alloc (.cells #[.int .i64 (tm + q), .int .i64 (1 + x1), .int .i64 (1 + x2), .int .i64 oo, .int .i64 kk, .int .i64 vv] 39)) rfl _ _ 24 rfl w.heap.size 39 i0 _ 6 48 Try.underlying24 hi0 hz0 hz1 hz2 rfl (by decide) (.slice ax j qx) j (flatE l) rfl OE.out (.slice (some ⟨W8.heap.size, 0, none⟩) 1 1) 1 (flatE [(tm + q, 1 + x1, 1 + x2, oo, kk, vv)]) rfl (Row.of_box HX.out (by decide)) rfl (flatE_one _) RM.out.1 RM.out.2 (Nat.le_trans szw (by simp)) ?_)
        clear gNX gNY
        clear cNX cNY
        generalize (W8.alloc (.cells #[.int .i64 (tm + q), .int .i64 (1 + x1), .int .i64 (1 + x2), .int .i64 oo, .int .i64 kk, .int .i64 vv] 39)) = U1 at *
        intro v9 x AP
        obtain ⟨ap, cp, bp, _⟩ := AP
        rw [← flatE_append] at ap
        obtain ⟨a9, q9, hv9⟩ := OwnE.slice ap
        subst hv9
        have nx : MBox 26 x X #[.int .i64 b, .int .i64 bt, .slice ax j qx] := row_chg NX.out cp (fun hw => ownE_apart OE.out NX.out (by decide) hw rfl)
        have nr : MBox 26 x w.heap.size #[.int .i64 0, .int .i64 0, .slice none 0 0] := row_chg NR.out cp (fun hw => ownE_apart OE.out NR.out (by decide) hw rfl)
        have cu : Cur x C := Cur.chg CU.out cp (fun g hg => by have := (OwnE.lt OE.out g hg).1; omega)
        have gg : Chg (fun g => g = C) w x := G.out.trans cp (fun g hg e => by have := (OwnE.lt OE.out g e).1; omega)
        have sx : X + 1 ≤ x.heap.size := Nat.le_trans SX.out cp.size
        have s2 := nx.cells
        have sf : ∀ j, x.frozen? ⟨X, j, none⟩ = false := fun j => frozen_of_cells nx
        have no4 := lg_last (.slice a9 (j + 1) q9) nx
        have ch := lg_last_chg x X (.slice a9 (j + 1) q9)
        have oe4 := OwnE.chg ap ch (fun g hg => ownE_apart ap nx (by decide) hg)
        have nr4 := row_chg nr ch (by omega)
        have cu4 := Cur.chg cu ch (fun g e => by omega)
        have gg4 := gg.trans ch (fun g hg e => by omega)
        have sx4 := Nat.le_trans sx ch.size
        have FIN : Hid (MBox 26 (x.setCell ⟨X, 2, none⟩ (.slice a9 (j + 1) q9)) X #[.int .i64 b, .int .i64 bt, .slice a9 (j + 1) q9] ∧ MBox 26 (x.setCell ⟨X, 2, none⟩ (.slice a9 (j + 1) q9)) w.heap.size #[.int .i64 0, .int .i64 0, .slice none 0 0] ∧ OwnE (x.setCell ⟨X, 2, none⟩ (.slice a9 (j + 1) q9)) w.heap.size 39 6 (.slice a9 (j + 1) q9) (j + 1) (flatE (l ++ [(tm + q, 1 + x1, 1 + x2, oo, kk, vv)])) ∧ Cur (x.setCell ⟨X, 2, none⟩ (.slice a9 (j + 1) q9)) C ∧ Chg (fun g => g = C) w (x.setCell ⟨X, 2, none⟩ (.slice a9 (j + 1) q9)) ∧ X + 1 ≤ (x.setCell ⟨X, 2, none⟩ (.slice a9 (j + 1) q9)).heap.size) := ⟨no4, nr4, oe4, cu4, gg4, sx4⟩
        have HL2 : Hid ((l ++ [(tm + q, 1 + x1, 1 + x2, oo, kk, vv)]).length = j + 1) := by show _ = _; rw [List.length_append, HL.out]; rfl
        clear ap cp bp nx nr cu gg sx no4 ch oe4 nr4 cu4 gg4 sx4 NX NR CU G OE SX NY SY
        go_wp2_with fail
        go_roundw
        case rel => exact ⟨j + 1, tm + q, a9, q9, _, by omega, by go_num, rfl, by omega, by omega, HL2.out, FIN.out.1, FIN.out.2.1, FIN.out.2.2.1, FIN.out.2.2.2.1, FIN.out.2.2.2.2.1, FIN.out.2.2.2.2.2⟩
        case measure => simp [intOf]; omega
      · have cNX := NX.out.cells
        have cNY := NY.out.cells
        have bn := bel_nw w5 (.cells #[.int .i64 (tm + q), .int .i64 0, .int .i64 0, .int .i64 0, .int .i64 0, .int .i64 0] 39)
        have HX : Hid ((w5.alloc (.cells #[.int .i64 (tm + q), .int .i64 0, .int .i64 0, .int .i64 0, .int .i64 0, .int .i64 0] 39)).heap[w5.heap.size]? = some (.cells (flatE [(tm + q, 0, 0, 0, 0, 0)]).toArray 39 (0, 0))) := heap_alloc_new w5 _
        have szw : w.heap.size ≤ w5.heap.size := by have := SX.out; omega
        replace CU : Hid (Cur (w5.alloc (.cells #[.int .i64 (tm + q), .int .i64 0, .int .i64 0, .int .i64 0, .int .i64 0, .int .i64 0] 39)) C) := Cur.alloc CU.out _
        replace G : Hid (Chg (fun g => g = C) w (w5.alloc (.cells #[.int .i64 (tm + q), .int .i64 0, .int .i64 0, .int .i64 0, .int .i64 0, .int .i64 0] 39))) := G.out.alloc _
        replace NR : Hid (MBox 26 (w5.alloc (.cells #[.int .i64 (tm + q), .int .i64 0, .int .i64 0, .int .i64 0, .int .i64 0, .int .i64 0] 39)) w.heap.size #[.int .i64 0, .int .i64 0, .slice none 0 0]) := NR.out.step bn
        replace NX : Hid (MBox 26 (w5.alloc (.cells #[.int .i64 (tm + q), .int .i64 0, .int .i64 0, .int .i64 0, .int .i64 0, .int .i64 0] 39)) X #[.int .i64 b, .int .i64 bt, .slice ax j qx]) := NX.out.step bn
        replace OE : Hid (OwnE (w5.alloc (.cells #[.int .i64 (tm + q), .int .i64 0, .int .i64 0, .int .i64 0, .int .i64 0, .int .i64 0] 39)) w.heap.size 39 6 (.slice ax j qx) j (flatE l)) := OwnE.below OE.out bn
        replace SX : Hid (X + 1 ≤ (w5.alloc (.cells #[.int .i64 (tm + q), .int .i64 0, .int .i64 0, .int .i64 0, .int .i64 0, .int .i64 0] 39)).heap.size) := Nat.le_trans SX.out bn.size
        replace NY : Hid (MBox 37 (w5.alloc (.cells #[.int .i64 (tm + q), .int .i64 0, .int .i64 0, .int .i64 0, .int .i64 0, .int .i64 0] 39)) Y #[.int .i64 0, .int .i64 0, .int .i64 0, .int .i64 0, .int .i64 0]) := NY.out.step bn
        replace SY : Hid (Y + 1 ≤ (w5.alloc (.cells #[.int .i64 (tm + q), .int .i64 0, .int .i64 0, .int .i64 0, .int .i64 0, .int .i64 0] 39)).heap.size) := Nat.le_trans SY.out bn.size
        clear bn
        have gNX := NX.out.cells
        have gNY := NY.out.cells
        go_wp2_with (at_builtin; refine list_appE (w5.alloc (.cells #[.int .i64 (tm + q), .int .i64 0, .int .i64 0, .int .i64 0, .int .i64 0, .int .i64 0] 39)) rfl _ _ 24 rfl w.heap.size 39 i0 _ 6 48 Try.underlying24 hi0 hz0 hz1 hz2 rfl (by decide) (.slice ax j qx) j (flatE l) rfl OE.out (.slice (some ⟨w5.heap.size, 0, none⟩) 1 1) 1 (flatE [(tm + q, 0, 0, 0, 0, 0)]) rfl (Row.of_box HX.out (by decide)) rfl (flatE_one _) RM.out.1 RM.out.2 (Nat.le_trans szw (by simp)) ?_)
        clear gNX gNY
        clear cNX cNY
        generalize (w5.alloc (.cells #[.int .i64 (tm + q), .int .i64 0, .int .i64 0, .int .i64 0, .int .i64 0, .int .i64 0] 39)) = U1 at *
        intro v9 x AP
        obtain ⟨ap, cp, bp, _⟩ := AP
        rw [← flatE_append] at ap
        obtain ⟨a9, q9, hv9⟩ := OwnE.slice ap
        subst hv9
        have nx : MBox 26 x X #[.int .i64 b, .int .i64 bt, .slice ax j qx] := row_chg NX.out cp (fun hw => ownE_apart OE.out NX.out (by decide) hw rfl)
        have nr : MBox 26 x w.heap.size #[.int .i64 0, .int .i64 0, .slice none 0 0] := row_chg NR.out cp (fun hw => ownE_apart OE.out NR.out (by decide) hw rfl)
        have cu : Cur x C := Cur.chg CU.out cp (fun g hg => by have := (OwnE.lt OE.out g hg).1; omega)
        have gg : Chg (fun g => g = C) w x := G.out.trans cp (fun g hg e => by have := (OwnE.lt OE.out g e).1; omega)
        have sx : X + 1 ≤ x.heap.size := Nat.le_trans SX.out cp.size
        have s2 := nx.cells
        have sf : ∀ j, x.frozen? ⟨X, j, none⟩ = false := fun j => frozen_of_cells nx
        have no4 := lg_last (.slice a9 (j + 1) q9) nx
        have ch := lg_last_chg x X (.slice a9 (j + 1) q9)
        have oe4 := OwnE.chg ap ch (fun g hg => ownE_apart ap nx (by decide) hg)
        have nr4 := row_chg nr ch (by omega)
        have cu4 := Cur.chg cu ch (fun g e => by omega)
        have gg4 := gg.trans ch (fun g hg e => by omega)
        have sx4 := Nat.le_trans sx ch.size
        have FIN : Hid (MBox 26 (x.setCell ⟨X, 2, none⟩ (.slice a9 (j + 1) q9)) X #[.int .i64 b, .int .i64 bt, .slice a9 (j + 1) q9] ∧ MBox 26 (x.setCell ⟨X, 2, none⟩ (.slice a9 (j + 1) q9)) w.heap.size #[.int .i64 0, .int .i64 0, .slice none 0 0] ∧ OwnE (x.setCell ⟨X, 2, none⟩ (.slice a9 (j + 1) q9)) w.heap.size 39 6 (.slice a9 (j + 1) q9) (j + 1) (flatE (l ++ [(tm + q, 0, 0, 0, 0, 0)])) ∧ Cur (x.setCell ⟨X, 2, none⟩ (.slice a9 (j + 1) q9)) C ∧ Chg (fun g => g = C) w (x.setCell ⟨X, 2, none⟩ (.slice a9 (j + 1) q9)) ∧ X + 1 ≤ (x.setCell ⟨X, 2, none⟩ (.slice a9 (j + 1) q9)).heap.size) := ⟨no4, nr4, oe4, cu4, gg4, sx4⟩
        have HL2 : Hid ((l ++ [(tm + q, 0, 0, 0, 0, 0)]).length = j + 1) := by show _ = _; rw [List.length_append, HL.out]; rfl
        clear ap cp bp nx nr cu gg sx no4 ch oe4 nr4 cu4 gg4 sx4 NX NR CU G OE SX NY SY
        go_wp2_with fail
        go_roundw
        case rel => exact ⟨j + 1, tm + q, a9, q9, _, by omega, by go_num, rfl, by omega, by omega, HL2.out, FIN.out.1, FIN.out.2.1, FIN.out.2.2.1, FIN.out.2.2.2.1, FIN.out.2.2.2.2.1, FIN.out.2.2.2.2.2⟩
        case measure => simp [intOf]; omega
    · have hjl : j = n := by omega
      subst hjl
      have cX := NX.out.cells
      have cR := NR.out.cells
      have fR : ∀ q, wr.frozen? ⟨w.heap.size, q, none⟩ = false := fun q => frozen_of_cells NR.out
      have X5 := lg_all (.int .i64 b) (.int .i64 bt) (.slice ax j qx) NR.out
      have ch2 := lg_all_chg wr w.heap.size (.int .i64 b) (.int .i64 bt) (.slice ax j qx)
      have FIN : Hid (_ ∧ _ ∧ _ ∧ _) := And.intro X5 (And.intro (OwnE.chg OE.out ch2 (fun g hg => ownE_apart OE.out NR.out (by decide) hg)) (And.intro (Cur.chg CU.out ch2 (fun g e => by omega)) (G.out.trans ch2 (fun g hg e => by omega))))
      clear X5 ch2 NX NR OE CU G SX
      go_wp2
      exact bodyPost_ret (v := lgV b bt (.slice ax j qx)) (by simp [results, Try.results65, go_sem, cell_of_cells FIN.out.1]) rfl ⟨b, bt, _, l, rfl, hb0, by omega, ht0, by omega, by have := HL.out; omega, by rw [HL.out]; exact FIN.out.2.1, FIN.out.2.2.1, FIN.out.2.2.2⟩

end Go.Proofs.Yteegcblndbljlaa
