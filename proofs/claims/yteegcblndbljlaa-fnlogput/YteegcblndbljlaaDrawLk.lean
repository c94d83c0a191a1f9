/-
  The model's drawing of what is put into a log.
-/
import Derived.Test.YteegcblndbljlaaDrawLj
import Derived.Test.YteegcblndbljlaaLogOkM
namespace Go.Proofs.Yteegcblndbljlaa
open Go.RowKit

theorem l1MaxE_any (a b : Int) (w : World) : Calls Try.prog 49 #[.int .i64 a, .int .i64 b] w fun e w' => ∃ x : Int, e = .returned (.int .i64 x) ∧ w' = w := (l1Max_any a b w).mono (fun _ _ h => ⟨_, h.1, h.2⟩)
theorem I64.wrap (x : Int) : I64 (wrap64 x) := by unfold I64 wrap64; omega
theorem OwnE.head {w : World} {base : Nat} {a : Option Addr} {n q : Nat} {l : EL} (h : OwnE w base 39 6 (.slice a n q) n (flatE l)) (hl : l.length = n) {k : Nat} (hk : k ≤ n) (hn : 0 < n) : OwnE w base 39 6 (.slice a k q) k (flatE (l.take k)) := by
  rcases h with h | ⟨h0, _⟩
  · left
    obtain ⟨h1, ⟨e1, _⟩ | ⟨g2, cap2, cur, e1, hg, e2, h2, h3, h4, h5⟩⟩ := h
    · simp at e1; omega
    · simp at e1
      obtain ⟨rfl, rfl⟩ := e1
      refine ⟨by rw [flatE_length, List.length_take]; congr 1; omega, .inr ⟨g2, q, cur, rfl, hg, e2, by omega, h3, h4, ?_⟩⟩
      rw [flatE_take, ← h5, List.take_take, Nat.min_eq_left (by omega)]
  · omega

set_option maxRecDepth 100000 in
set_option maxHeartbeats 8000000 in
theorem DrawLogPut_any (v : Value) (bs : List Int) (w : World) (hc : Code8 w v bs) (hn : bs.length ≤ 1048576) :
    Calls Try.prog 14 #[v] w fun e w' => ∃ (b bt : Int) (ax : Option Addr) (n qx : Nat) (l : EL) (i t : Int) (a3 : Option Addr) (n3 q3 : Nat) (l3 : EL), e = .returned (.tuple #[lgV b bt (.slice ax n qx), .int .i64 i, .int .i64 t, .slice a3 n3 q3]) ∧ -1 ≤ b ∧ b ≤ 100001 ∧ l.length = n ∧ n ≤ 8 ∧ I64 i ∧ l3.length = n3 ∧ n3 ≤ 20 ∧ Row w' (.slice ax n qx) n (flatE l) ∧ Row w' (.slice a3 n3 q3) n3 (flatE l3) ∧ Below w.heap.size w w' := by
  obtain ⟨i0, hi0, hz0, hz1, hz2⟩ := info_parts Try.info39
  have NR : Hid (MBox 26 (w.alloc (.cells #[.int .i64 0, .int .i64 0, .slice none 0 0] 26)) w.heap.size #[.int .i64 0, .int .i64 0, .slice none 0 0]) := MBox.start _ _ _
  have C8 : Hid (Code8 (w.alloc (.cells #[.int .i64 0, .int .i64 0, .slice none 0 0] 26)) v bs) := hc.below (bel_nw _ _)
  have B0 : Hid (Below w.heap.size w (w.alloc (.cells #[.int .i64 0, .int .i64 0, .slice none 0 0] 26))) := bel_nw _ _
  have HW0 : Hid ((w.alloc (.cells #[.int .i64 0, .int .i64 0, .slice none 0 0] 26)).heap.size = w.heap.size + 1) := by show _ = _; simp
  clear hc
  go_enter Try.func14, Try.ntmps14
  go_wp2_with fail
  generalize (w.alloc (.cells #[.int .i64 0, .int .i64 0, .slice none 0 0] 26)) = W0 at *
  refine (l1New_any v bs _ C8.out hn).mono ?_
  rintro e w1 ⟨rfl, c1, s1, b1⟩
  replace NR : Hid (MBox 26 w1 w.heap.size #[.int .i64 0, .int .i64 0, .slice none 0 0]) := NR.out.step b1
  generalize hC : W0.heap.size = C at *
  have hC2 : w.heap.size + 1 ≤ C := by have := HW0.out; omega
  have BW : Hid (Below w.heap.size w w1) := by have := b1; rw [← hC] at this; exact Below.and B0.out this
  have CU : Hid (Cur w1 C) := c1
  have SZ : Hid (C + 1 ≤ w1.heap.size) := s1
  have SZO : Hid (C + 1 ≤ w1.heap.size) := s1
  clear c1 s1 b1 hC B0 C8 HW0
  go_wp2_with fail
  refine (l8Draw_any C _ CU.out).mono ?_
  rintro e w2 ⟨b, bt, vv, l, rfl, hb0, hb1, ht0, ht1, hl, o1, c1, g1⟩
  replace CU : Hid (Cur w2 C) := c1
  replace NR : Hid (MBox 26 w2 w.heap.size #[.int .i64 0, .int .i64 0, .slice none 0 0]) := row_chg NR.out g1 (by omega)
  replace BW : Hid (Below w.heap.size w w2) := BW.out.trans (g1.below (fun q _ e => by omega) BW.out.size)
  replace SZ : Hid (C + 1 ≤ w2.heap.size) := Nat.le_trans SZ.out g1.size
  obtain ⟨ax, qx, hv⟩ := OwnE.slice o1
  subst hv
  generalize hln : l.length = n at *
  have HL : Hid _ := hln
  clear hln
  have OE : Hid (OwnE w2 (C + 1) 39 6 (.slice ax n qx) n (flatE l)) := OwnE.mono o1 SZO.out
  clear c1 g1 o1 SZO
  have bn := bel_nw w2 (.cells #[.int .i64 b, .int .i64 bt, .slice ax n qx] 26)
  have hX : C + 1 ≤ w2.heap.size := SZ.out
  replace CU : Hid (Cur (w2.alloc (.cells #[.int .i64 b, .int .i64 bt, .slice ax n qx] 26)) C) := Cur.below CU.out bn
  replace NR : Hid (MBox 26 (w2.alloc (.cells #[.int .i64 b, .int .i64 bt, .slice ax n qx] 26)) w.heap.size #[.int .i64 0, .int .i64 0, .slice none 0 0]) := NR.out.step bn
  replace BW : Hid (Below w.heap.size w (w2.alloc (.cells #[.int .i64 b, .int .i64 bt, .slice ax n qx] 26))) := Below.and BW.out bn
  replace SZ : Hid (C + 1 ≤ (w2.alloc (.cells #[.int .i64 b, .int .i64 bt, .slice ax n qx] 26)).heap.size) := Nat.le_trans SZ.out bn.size
  replace OE : Hid (OwnE (w2.alloc (.cells #[.int .i64 b, .int .i64 bt, .slice ax n qx] 26)) (C + 1) 39 6 (.slice ax n qx) n (flatE l)) := OwnE.below OE.out bn
  have NX : Hid (MBox 26 (w2.alloc (.cells #[.int .i64 b, .int .i64 bt, .slice ax n qx] 26)) w2.heap.size #[.int .i64 b, .int .i64 bt, .slice ax n qx]) := MBox.start _ _ _
  clear bn
  have cNX := NX.out.cells
  go_wp2_with fail
  clear cNX
  generalize w2.heap.size = X at *
  generalize (w2.alloc (.cells #[.int .i64 b, .int .i64 bt, .slice ax n qx] 26)) = W2 at *
  have HI0 : Hid (I64 b) := ⟨by omega, by omega⟩
  refine (l8DrawAt_any C b bt ax n qx _ CU.out hb0 hb1 (by omega)).mono ?_
  rintro e w3 ⟨i, rfl, hi, c1, g1⟩
  replace CU : Hid (Cur w3 C) := c1
  replace NR : Hid (MBox 26 w3 w.heap.size #[.int .i64 0, .int .i64 0, .slice none 0 0]) := row_chg NR.out g1 (by omega)
  replace BW : Hid (Below w.heap.size w w3) := BW.out.trans (g1.below (fun q _ e => by omega) BW.out.size)
  replace SZ : Hid (C + 1 ≤ w3.heap.size) := Nat.le_trans SZ.out g1.size
  replace OE : Hid (OwnE w3 (C + 1) 39 6 (.slice ax n qx) n (flatE l)) := OwnE.chg OE.out g1 (fun q hq e => by have := (OwnE.lt OE.out q hq).1; omega)
  replace NX : Hid (MBox 26 w3 X #[.int .i64 b, .int .i64 bt, .slice ax n qx]) := row_chg NX.out g1 (by omega)
  have HI : Hid (I64 i) := hi
  clear c1 g1 hi
  have cNX := NX.out.cells
  have CT : Hid (∀ u, Row u (.slice ax n qx) n (flatE l) → Calls Try.prog 28 #[lgV b bt (.slice ax n qx), .int .i64 i] u fun e w' => e = .returned (.int .i64 (termB b bt l i)) ∧ Below u.heap.size u w') := fun u hu => specTermAt_any b bt _ l i u (by rw [HL.out]; exact hu) HI0.out HI.out
  have CE : Hid (∀ u, Row u (.slice ax n qx) n (flatE l) → Calls Try.prog 27 #[lgV b bt (.slice ax n qx), .int .i64 (wrap64 (i + 1))] u fun e w' => ∃ v', e = .returned v' ∧ OwnE w' u.heap.size 39 6 v' (entsB b l (wrap64 (i + 1))).length (flatE (entsB b l (wrap64 (i + 1)))) ∧ Below u.heap.size u w') := fun u hu => specEntriesFrom_any b bt _ l (wrap64 (i + 1)) u (by rw [HL.out]; exact hu) HI0.out (I64.wrap _) (by rw [HL.out]; omega)
  have hen8 : (entsB b l (wrap64 (i + 1))).length ≤ 8 := by have := entsB_len b l (wrap64 (i + 1)); have := HL.out; omega
  generalize termB b bt l i = t at *
  generalize entsB b l (wrap64 (i + 1)) = E at *
  go_wp2_with fail
  clear cNX
  refine (CT.out _ (OwnE.rowE OE.out)).mono ?_
  rintro e w4 ⟨rfl, b4⟩
  replace CU : Hid (Cur w4 C) := Cur.below CU.out b4
  replace NR : Hid (MBox 26 w4 w.heap.size #[.int .i64 0, .int .i64 0, .slice none 0 0]) := NR.out.step b4
  replace BW : Hid (Below w.heap.size w w4) := Below.and BW.out b4
  replace SZ : Hid (C + 1 ≤ w4.heap.size) := Nat.le_trans SZ.out b4.size
  replace OE : Hid (OwnE w4 (C + 1) 39 6 (.slice ax n qx) n (flatE l)) := OwnE.below OE.out b4
  replace NX : Hid (MBox 26 w4 X #[.int .i64 b, .int .i64 bt, .slice ax n qx]) := NX.out.step b4
  clear b4 CT
  go_wp2_with fail
  refine (l1Once_any C 8 _ CU.out (by decide)).mono ?_
  rintro e w5 ⟨on, rfl, c1, g1⟩
  replace CU : Hid (Cur w5 C) := c1
  replace NR : Hid (MBox 26 w5 w.heap.size #[.int .i64 0, .int .i64 0, .slice none 0 0]) := row_chg NR.out g1 (by omega)
  replace BW : Hid (Below w.heap.size w w5) := BW.out.trans (g1.below (fun q _ e => by omega) BW.out.size)
  replace SZ : Hid (C + 1 ≤ w5.heap.size) := Nat.le_trans SZ.out g1.size
  replace OE : Hid (OwnE w5 (C + 1) 39 6 (.slice ax n qx) n (flatE l)) := OwnE.chg OE.out g1 (fun q hq e => by have := (OwnE.lt OE.out q hq).1; omega)
  replace NX : Hid (MBox 26 w5 X #[.int .i64 b, .int .i64 bt, .slice ax n qx]) := row_chg NX.out g1 (by omega)
  clear c1 g1
  cases on
  rotate_left
  · go_wp2_with fail
    refine (l1Below_any C 5 _ CU.out (by decide)).mono ?_
    rintro e w6 ⟨y, rfl, hy0, hy1, _, c1, g1⟩
    have hy2 : y < 5 := hy1 (by decide)
    replace CU : Hid (Cur w6 C) := c1
    replace NR : Hid (MBox 26 w6 w.heap.size #[.int .i64 0, .int .i64 0, .slice none 0 0]) := row_chg NR.out g1 (by omega)
    replace BW : Hid (Below w.heap.size w w6) := BW.out.trans (g1.below (fun q _ e => by omega) BW.out.size)
    replace SZ : Hid (C + 1 ≤ w6.heap.size) := Nat.le_trans SZ.out g1.size
    replace OE : Hid (OwnE w6 (C + 1) 39 6 (.slice ax n qx) n (flatE l)) := OwnE.chg OE.out g1 (fun q hq e => by have := (OwnE.lt OE.out q hq).1; omega)
    replace NX : Hid (MBox 26 w6 X #[.int .i64 b, .int .i64 bt, .slice ax n qx]) := row_chg NX.out g1 (by omega)
    clear c1 g1 hy1
    have cNX := NX.out.cells
    go_wp2_with fail
    clear cNX
    have LWL : Hid (∀ g, wrB (.slice ax n qx) g → g < w6.heap.size) := fun g hg => (OwnE.lt OE.out g hg).2
    have hzl : C + 1 ≤ w6.heap.size := SZ.out
    refine (CE.out _ (OwnE.rowE OE.out)).mono ?_
    rintro e w7 ⟨v7, rfl, o7, b7⟩
    have ZL : Hid (w6.heap.size ≤ w7.heap.size) := b7.size
    obtain ⟨a3, q3, hv3⟩ := OwnE.slice o7
    subst hv3
    generalize hel : E.length = n3 at *
    have HEL : Hid _ := hel
    clear hel
    replace CU : Hid (Cur w7 C) := Cur.below CU.out b7
    replace NR : Hid (MBox 26 w7 w.heap.size #[.int .i64 0, .int .i64 0, .slice none 0 0]) := NR.out.step b7
    replace BW : Hid (Below w.heap.size w w7) := Below.and BW.out b7
    replace SZ : Hid (C + 1 ≤ w7.heap.size) := Nat.le_trans SZ.out b7.size
    replace OE : Hid (OwnE w7 (C + 1) 39 6 (.slice ax n qx) n (flatE l)) := OwnE.below OE.out b7
    replace NX : Hid (MBox 26 w7 X #[.int .i64 b, .int .i64 bt, .slice ax n qx]) := NX.out.step b7
    have OL : Hid (OwnE w7 w6.heap.size 39 6 (.slice a3 n3 q3) n3 (flatE E)) := o7
    clear o7 b7 CE
    generalize w6.heap.size = zl at *
    by_cases hpos : 0 < n3
    · have QR : Hid (Row w7 (.slice a3 n3 q3) n3 (flatE E)) := OwnE.rowE OL.out
      have QS : Hid (0 < n3 → n3 ≤ q3 → q3 ≤ maxLen → ∃ g, a3 = some ⟨g, 0, none⟩ ∧ n3 ≤ q3 ∧ q3 ≤ maxLen) := fun h0 h1 h2 => by
        rcases OL.out with h | ⟨h, _⟩
        · obtain ⟨_, ⟨e1, _⟩ | ⟨g2, cap2, cur, e1, _⟩⟩ := h
          · simp at e1; omega
          · simp at e1; exact ⟨g2, e1.1, h1, h2⟩
        · omega
      go_wp2_with fail
      refine (l1Once_any C 2 _ CU.out (by decide)).mono ?_
      rintro e w8 ⟨on2, rfl, c1, g1⟩
      replace CU : Hid (Cur w8 C) := c1
      replace NR : Hid (MBox 26 w8 w.heap.size #[.int .i64 0, .int .i64 0, .slice none 0 0]) := row_chg NR.out g1 (by omega)
      replace BW : Hid (Below w.heap.size w w8) := BW.out.trans (g1.below (fun q _ e => by omega) BW.out.size)
      replace SZ : Hid (C + 1 ≤ w8.heap.size) := Nat.le_trans SZ.out g1.size
      replace OE : Hid (OwnE w8 (C + 1) 39 6 (.slice ax n qx) n (flatE l)) := OwnE.chg OE.out g1 (fun q hq e => by have := (OwnE.lt OE.out q hq).1; omega)
      replace NX : Hid (MBox 26 w8 X #[.int .i64 b, .int .i64 bt, .slice ax n qx]) := row_chg NX.out g1 (by omega)
      replace OL : Hid (OwnE w8 zl 39 6 (.slice a3 n3 q3) n3 (flatE E)) := OwnE.chg OL.out g1 (fun q hq e => by have := (OwnE.lt OL.out q hq).1; omega)
      replace ZL : Hid (zl ≤ w8.heap.size) := Nat.le_trans ZL.out g1.size
      clear c1 g1
      cases on2
      · go_wp2_with fail
        go_loopw [10, 12] (fun lv kv wr => ∃ (j : Nat) (ay : Option Addr) (ny qy : Nat) (ly : EL), j ≤ 3 ∧ kv = .int .i64 j ∧ lv = .slice ay ny qy ∧ Hid (ly.length = ny) ∧ ny ≤ 8 + j ∧ Hid (Cur wr C) ∧ Hid (Below w.heap.size w wr) ∧ Hid (MBox 26 wr w.heap.size #[.int .i64 0, .int .i64 0, .slice none 0 0]) ∧ Hid (MBox 26 wr X #[.int .i64 b, .int .i64 bt, .slice ax n qx]) ∧ Hid (OwnE wr (C + 1) 39 6 (.slice ax n qx) n (flatE l)) ∧ Hid (OwnE wr zl 39 6 (.slice ay ny qy) ny (flatE ly)) ∧ Hid (C + 1 ≤ wr.heap.size) ∧ Hid (zl ≤ wr.heap.size))
          (fun _ kv _ => 3 - (intOf kv).toNat)
        case atStart => exact ⟨0, a3, n3, q3, E, by omega, rfl, rfl, HEL.out, by omega, CU.out, BW.out, NR.out, NX.out, OE.out, OL.out, SZ.out, ZL.out⟩
        case round =>
          clear CU BW NR NX OE OL SZ ZL
          obtain ⟨j, ay, ny, qy, ly, hj3, rfl, rfl, HLY, hny, CU, BW, NR, NX, OE, OL, SZ, ZL⟩ := hrel
          go_wp2_with fail
          refine (l1Below_any C 3 _ CU.out (by decide)).mono ?_
          rintro e x1 ⟨y3, rfl, hy3a, hy3b, _, c1, g1⟩
          have hy3 : y3 < 3 := hy3b (by decide)
          replace CU : Hid (Cur x1 C) := c1
          replace BW : Hid (Below w.heap.size w x1) := BW.out.trans (g1.below (fun q _ e => by omega) BW.out.size)
          replace NR : Hid (MBox 26 x1 w.heap.size #[.int .i64 0, .int .i64 0, .slice none 0 0]) := row_chg NR.out g1 (by omega)
          replace NX : Hid (MBox 26 x1 X #[.int .i64 b, .int .i64 bt, .slice ax n qx]) := row_chg NX.out g1 (by omega)
          replace OE : Hid (OwnE x1 (C + 1) 39 6 (.slice ax n qx) n (flatE l)) := OwnE.chg OE.out g1 (fun q hq e => by have := (OwnE.lt OE.out q hq).1; omega)
          replace OL : Hid (OwnE x1 zl 39 6 (.slice ay ny qy) ny (flatE ly)) := OwnE.chg OL.out g1 (fun q hq e => by have := (OwnE.lt OL.out q hq).1; omega)
          replace SZ : Hid (C + 1 ≤ x1.heap.size) := Nat.le_trans SZ.out g1.size
          replace ZL : Hid (zl ≤ x1.heap.size) := Nat.le_trans ZL.out g1.size
          clear c1 g1 hy3b
          by_cases hjy : (j : Int) < y3
          · go_wp2_with fail
            refine (l1MaxE_any (y - 1) 0 x1).mono ?_
            rintro e x2 ⟨mx, rfl, hwx⟩
            subst hwx
            go_wp2_with fail
            refine (l1Below_any C 3 _ CU.out (by decide)).mono ?_
            rintro e x3 ⟨y4, rfl, hy4a, hy4b, _, c1, g1⟩
            replace CU : Hid (Cur x3 C) := c1
            replace BW : Hid (Below w.heap.size w x3) := BW.out.trans (g1.below (fun q _ e => by omega) BW.out.size)
            replace NR : Hid (MBox 26 x3 w.heap.size #[.int .i64 0, .int .i64 0, .slice none 0 0]) := row_chg NR.out g1 (by omega)
            replace NX : Hid (MBox 26 x3 X #[.int .i64 b, .int .i64 bt, .slice ax n qx]) := row_chg NX.out g1 (by omega)
            replace OE : Hid (OwnE x3 (C + 1) 39 6 (.slice ax n qx) n (flatE l)) := OwnE.chg OE.out g1 (fun q hq e => by have := (OwnE.lt OE.out q hq).1; omega)
            replace OL : Hid (OwnE x3 zl 39 6 (.slice ay ny qy) ny (flatE ly)) := OwnE.chg OL.out g1 (fun q hq e => by have := (OwnE.lt OL.out q hq).1; omega)
            replace SZ : Hid (C + 1 ≤ x3.heap.size) := Nat.le_trans SZ.out g1.size
            replace ZL : Hid (zl ≤ x3.heap.size) := Nat.le_trans ZL.out g1.size
            clear c1 g1 hy4b
            go_wp2_with fail
            refine (l7DrawCmd_any C _ CU.out).mono ?_
            rintro e x4 ⟨cc, ss, oo, kk, vv, rfl, c1, g1⟩
            replace CU : Hid (Cur x4 C) := c1
            replace BW : Hid (Below w.heap.size w x4) := BW.out.trans (g1.below (fun q _ e => by omega) BW.out.size)
            replace NR : Hid (MBox 26 x4 w.heap.size #[.int .i64 0, .int .i64 0, .slice none 0 0]) := row_chg NR.out g1 (by omega)
            replace NX : Hid (MBox 26 x4 X #[.int .i64 b, .int .i64 bt, .slice ax n qx]) := row_chg NX.out g1 (by omega)
            replace OE : Hid (OwnE x4 (C + 1) 39 6 (.slice ax n qx) n (flatE l)) := OwnE.chg OE.out g1 (fun q hq e => by have := (OwnE.lt OE.out q hq).1; omega)
            replace OL : Hid (OwnE x4 zl 39 6 (.slice ay ny qy) ny (flatE ly)) := OwnE.chg OL.out g1 (fun q hq e => by have := (OwnE.lt OL.out q hq).1; omega)
            replace SZ : Hid (C + 1 ≤ x4.heap.size) := Nat.le_trans SZ.out g1.size
            replace ZL : Hid (zl ≤ x4.heap.size) := Nat.le_trans ZL.out g1.size
            clear c1 g1
            have bn := bel_nw x4 (.cells #[.int .i64 (wrap64 (mx + y4)), .int .i64 cc, .int .i64 ss, .int .i64 oo, .int .i64 kk, .int .i64 vv] 39)
            have HX : Hid ((x4.alloc (.cells #[.int .i64 (wrap64 (mx + y4)), .int .i64 cc, .int .i64 ss, .int .i64 oo, .int .i64 kk, .int .i64 vv] 39)).heap[x4.heap.size]? = some (.cells (flatE [(wrap64 (mx + y4), cc, ss, oo, kk, vv)]).toArray 39 (0, 0))) := heap_alloc_new x4 _
            replace CU : Hid (Cur (x4.alloc (.cells #[.int .i64 (wrap64 (mx + y4)), .int .i64 cc, .int .i64 ss, .int .i64 oo, .int .i64 kk, .int .i64 vv] 39)) C) := Cur.below CU.out bn
            replace BW : Hid (Below w.heap.size w (x4.alloc (.cells #[.int .i64 (wrap64 (mx + y4)), .int .i64 cc, .int .i64 ss, .int .i64 oo, .int .i64 kk, .int .i64 vv] 39))) := Below.and BW.out bn
            replace NR : Hid (MBox 26 (x4.alloc (.cells #[.int .i64 (wrap64 (mx + y4)), .int .i64 cc, .int .i64 ss, .int .i64 oo, .int .i64 kk, .int .i64 vv] 39)) w.heap.size #[.int .i64 0, .int .i64 0, .slice none 0 0]) := NR.out.step bn
            replace NX : Hid (MBox 26 (x4.alloc (.cells #[.int .i64 (wrap64 (mx + y4)), .int .i64 cc, .int .i64 ss, .int .i64 oo, .int .i64 kk, .int .i64 vv] 39)) X #[.int .i64 b, .int .i64 bt, .slice ax n qx]) := NX.out.step bn
            replace OE : Hid (OwnE (x4.alloc (.cells #[.int .i64 (wrap64 (mx + y4)), .int .i64 cc, .int .i64 ss, .int .i64 oo, .int .i64 kk, .int .i64 vv] 39)) (C + 1) 39 6 (.slice ax n qx) n (flatE l)) := OwnE.below OE.out bn
            replace OL : Hid (OwnE (x4.alloc (.cells #[.int .i64 (wrap64 (mx + y4)), .int .i64 cc, .int .i64 ss, .int .i64 oo, .int .i64 kk, .int .i64 vv] 39)) zl 39 6 (.slice ay ny qy) ny (flatE ly)) := OwnE.below OL.out bn
            replace SZ : Hid (C + 1 ≤ (x4.alloc (.cells #[.int .i64 (wrap64 (mx + y4)), .int .i64 cc, .int .i64 ss, .int .i64 oo, .int .i64 kk, .int .i64 vv] 39)).heap.size) := Nat.le_trans SZ.out bn.size
            replace ZL : Hid (zl ≤ (x4.alloc (.cells #[.int .i64 (wrap64 (mx + y4)), .int .i64 cc, .int .i64 ss, .int .i64 oo, .int .i64 kk, .int .i64 vv] 39)).heap.size) := Nat.le_trans ZL.out bn.size
            clear bn
            have RM : Hid _ := room_of (n := ny) (bytes := 48) (by omega) (by decide)
            go_wp2_with (at_builtin; refine list_appE (x4.alloc (.cells #[.int .i64 (wrap64 (mx + y4)), .int .i64 cc, .int .i64 ss, .int .i64 oo, .int .i64 kk, .int .i64 vv] 39)) rfl _ _ 24 rfl zl 39 i0 _ 6 48 Try.underlying24 hi0 hz0 hz1 hz2 rfl (by decide) (.slice ay ny qy) ny (flatE ly) rfl OL.out (.slice (some ⟨x4.heap.size, 0, none⟩) 1 1) 1 (flatE [(wrap64 (mx + y4), cc, ss, oo, kk, vv)]) rfl (Row.of_box HX.out (by decide)) rfl (flatE_one _) RM.out.1 RM.out.2 ZL.out ?_)
            generalize (x4.alloc (.cells #[.int .i64 (wrap64 (mx + y4)), .int .i64 cc, .int .i64 ss, .int .i64 oo, .int .i64 kk, .int .i64 vv] 39)) = U1 at *
            intro v9 x AP
            obtain ⟨ap, cp, bp, _⟩ := AP
            rw [← flatE_append] at ap
            obtain ⟨a9, q9, hv9⟩ := OwnE.slice ap
            subst hv9
            have gez : ∀ g, wrB (.slice ay ny qy) g → zl ≤ g := fun g hg => (OwnE.lt OL.out g hg).1
            have F1 : Hid (Cur x C ∧ Below w.heap.size w x ∧ MBox 26 x w.heap.size #[.int .i64 0, .int .i64 0, .slice none 0 0] ∧ MBox 26 x X #[.int .i64 b, .int .i64 bt, .slice ax n qx] ∧ OwnE x (C + 1) 39 6 (.slice ax n qx) n (flatE l) ∧ C + 1 ≤ x.heap.size ∧ zl ≤ x.heap.size) := ⟨Cur.chg CU.out cp (fun g hg => by have := gez g hg; omega), BW.out.trans (cp.below (fun g _ hg => by have := gez g hg; omega) BW.out.size), row_chg NR.out cp (fun hw => ownE_apart OL.out NR.out (by decide) hw rfl), row_chg NX.out cp (fun hw => ownE_apart OL.out NX.out (by decide) hw rfl), OwnE.chg OE.out cp (fun g hg hq => by have := LWL.out g hg; have := gez g hq; omega), Nat.le_trans SZ.out cp.size, Nat.le_trans ZL.out cp.size⟩
            have O9 : Hid (OwnE x zl 39 6 (.slice a9 (ny + 1) q9) (ny + 1) (flatE (ly ++ [(wrap64 (mx + y4), cc, ss, oo, kk, vv)]))) := ap
            have HL9 : Hid ((ly ++ [(wrap64 (mx + y4), cc, ss, oo, kk, vv)]).length = ny + 1) := by show _ = _; rw [List.length_append, HLY.out]; rfl
            clear ap cp bp gez CU BW NR NX OE OL SZ ZL
            go_wp2_with fail
            go_roundw
            case rel => exact ⟨j + 1, a9, ny + 1, q9, _, by omega, by go_num, rfl, HL9.out, by omega, F1.out.1, F1.out.2.1, F1.out.2.2.1, F1.out.2.2.2.1, F1.out.2.2.2.2.1, O9.out, F1.out.2.2.2.2.2.1, F1.out.2.2.2.2.2.2⟩
            case measure => simp [intOf]; omega
          · have cX := NX.out.cells
            have dR := NR.out.cells
            have yR : ∀ q, x1.frozen? ⟨w.heap.size, q, none⟩ = false := fun q => frozen_of_cells NR.out
            have X5 := lg_all (.int .i64 b) (.int .i64 bt) (.slice ax n qx) NR.out
            have ch2 := lg_all_chg x1 w.heap.size (.int .i64 b) (.int .i64 bt) (.slice ax n qx)
            have FIN : Hid (_ ∧ _ ∧ _ ∧ _) := And.intro X5 (And.intro (OwnE.rowE (OwnE.chg OE.out ch2 (fun g hg => ownE_apart OE.out NR.out (by decide) hg))) (And.intro (OwnE.rowE (OwnE.chg OL.out ch2 (fun g hg => ownE_apart OL.out NR.out (by decide) hg))) (BW.out.trans (ch2.below (fun g _ hg => by omega) BW.out.size))))
            clear X5 ch2 CU BW NR NX OE OL SZ ZL
            go_wp2
            exact bodyPost_ret (v := .tuple #[lgV b bt (.slice ax n qx), .int .i64 i, .int .i64 (y - 1), .slice ay ny qy]) (by simp [results, Try.results14, go_sem, cell_of_cells FIN.out.1]) rfl ⟨b, bt, ax, n, qx, l, i, _, ay, ny, qy, ly, rfl, hb0, hb1, HL.out, hl, HI.out, HLY.out, by omega, FIN.out.2.1, FIN.out.2.2.1, FIN.out.2.2.2⟩
      · go_wp2_with fail
        refine (l1Below_any C (n3 : Int) _ CU.out (by omega)).mono ?_
        rintro e w9 ⟨yk, rfl, hyk0, hyk1, _, c1, g1⟩
        have hyk2 : yk < (n3 : Int) := hyk1 (by omega)
        replace CU : Hid (Cur w9 C) := c1
        replace NR : Hid (MBox 26 w9 w.heap.size #[.int .i64 0, .int .i64 0, .slice none 0 0]) := row_chg NR.out g1 (by omega)
        replace BW : Hid (Below w.heap.size w w9) := BW.out.trans (g1.below (fun q _ e => by omega) BW.out.size)
        replace SZ : Hid (C + 1 ≤ w9.heap.size) := Nat.le_trans SZ.out g1.size
        replace OE : Hid (OwnE w9 (C + 1) 39 6 (.slice ax n qx) n (flatE l)) := OwnE.chg OE.out g1 (fun q hq e => by have := (OwnE.lt OE.out q hq).1; omega)
        replace NX : Hid (MBox 26 w9 X #[.int .i64 b, .int .i64 bt, .slice ax n qx]) := row_chg NX.out g1 (by omega)
        replace OL : Hid (OwnE w9 zl 39 6 (.slice a3 n3 q3) n3 (flatE E)) := OwnE.chg OL.out g1 (fun q hq e => by have := (OwnE.lt OL.out q hq).1; omega)
        replace ZL : Hid (zl ≤ w9.heap.size) := Nat.le_trans ZL.out g1.size
        clear c1 g1 hyk1
        obtain ⟨m3, rfl⟩ := Int.eq_ofNat_of_zero_le hyk0
        have hm3 : m3 ≤ n3 := by omega
        replace OL : Hid (OwnE w9 zl 39 6 (.slice a3 m3 q3) m3 (flatE (E.take m3))) := OwnE.head OL.out HEL.out hm3 hpos
        have hcq := OwnE.rowE OL.out
        have HET : Hid ((E.take m3).length = m3) := by have := HEL.out; show _ = _; rw [List.length_take]; omega
        have HQ : ∃ g, a3 = some ⟨g, 0, none⟩ ∧ n3 ≤ q3 ∧ q3 ≤ maxLen := by
          obtain ⟨aa, bb9, oo9, cc9, h1, h2, h3, h4, -⟩ := QR.out
          simp at h1
          obtain ⟨rfl, rfl⟩ := h1
          exact QS.out hpos h2 h3
        obtain ⟨g3, hg3, hq31, hq32⟩ := HQ
        subst hg3
        unfold maxLen at hq32
        clear hcq QR QS
        have hq30 : ¬ q3 = 0 := by omega
        go_wp2_with fail
        go_loopw [10, 12] (fun lv kv wr => ∃ (j : Nat) (ay : Option Addr) (ny qy : Nat) (ly : EL), j ≤ 3 ∧ kv = .int .i64 j ∧ lv = .slice ay ny qy ∧ Hid (ly.length = ny) ∧ ny ≤ 8 + j ∧ Hid (Cur wr C) ∧ Hid (Below w.heap.size w wr) ∧ Hid (MBox 26 wr w.heap.size #[.int .i64 0, .int .i64 0, .slice none 0 0]) ∧ Hid (MBox 26 wr X #[.int .i64 b, .int .i64 bt, .slice ax n qx]) ∧ Hid (OwnE wr (C + 1) 39 6 (.slice ax n qx) n (flatE l)) ∧ Hid (OwnE wr zl 39 6 (.slice ay ny qy) ny (flatE ly)) ∧ Hid (C + 1 ≤ wr.heap.size) ∧ Hid (zl ≤ wr.heap.size))
          (fun _ kv _ => 3 - (intOf kv).toNat)
        case atStart => exact ⟨0, some ⟨g3, 0, none⟩, m3, q3, (E.take m3), by omega, rfl, rfl, HET.out, by omega, CU.out, BW.out, NR.out, NX.out, OE.out, OL.out, SZ.out, ZL.out⟩
        case round =>
          clear CU BW NR NX OE OL SZ ZL
          obtain ⟨j, ay, ny, qy, ly, hj3, rfl, rfl, HLY, hny, CU, BW, NR, NX, OE, OL, SZ, ZL⟩ := hrel
          go_wp2_with fail
          refine (l1Below_any C 3 _ CU.out (by decide)).mono ?_
          rintro e x1 ⟨y3, rfl, hy3a, hy3b, _, c1, g1⟩
          have hy3 : y3 < 3 := hy3b (by decide)
          replace CU : Hid (Cur x1 C) := c1
          replace BW : Hid (Below w.heap.size w x1) := BW.out.trans (g1.below (fun q _ e => by omega) BW.out.size)
          replace NR : Hid (MBox 26 x1 w.heap.size #[.int .i64 0, .int .i64 0, .slice none 0 0]) := row_chg NR.out g1 (by omega)
          replace NX : Hid (MBox 26 x1 X #[.int .i64 b, .int .i64 bt, .slice ax n qx]) := row_chg NX.out g1 (by omega)
          replace OE : Hid (OwnE x1 (C + 1) 39 6 (.slice ax n qx) n (flatE l)) := OwnE.chg OE.out g1 (fun q hq e => by have := (OwnE.lt OE.out q hq).1; omega)
          replace OL : Hid (OwnE x1 zl 39 6 (.slice ay ny qy) ny (flatE ly)) := OwnE.chg OL.out g1 (fun q hq e => by have := (OwnE.lt OL.out q hq).1; omega)
          replace SZ : Hid (C + 1 ≤ x1.heap.size) := Nat.le_trans SZ.out g1.size
          replace ZL : Hid (zl ≤ x1.heap.size) := Nat.le_trans ZL.out g1.size
          clear c1 g1 hy3b
          by_cases hjy : (j : Int) < y3
          · go_wp2_with fail
            refine (l1MaxE_any (y - 1) 0 x1).mono ?_
            rintro e x2 ⟨mx, rfl, hwx⟩
            subst hwx
            go_wp2_with fail
            refine (l1Below_any C 3 _ CU.out (by decide)).mono ?_
            rintro e x3 ⟨y4, rfl, hy4a, hy4b, _, c1, g1⟩
            replace CU : Hid (Cur x3 C) := c1
            replace BW : Hid (Below w.heap.size w x3) := BW.out.trans (g1.below (fun q _ e => by omega) BW.out.size)
            replace NR : Hid (MBox 26 x3 w.heap.size #[.int .i64 0, .int .i64 0, .slice none 0 0]) := row_chg NR.out g1 (by omega)
            replace NX : Hid (MBox 26 x3 X #[.int .i64 b, .int .i64 bt, .slice ax n qx]) := row_chg NX.out g1 (by omega)
            replace OE : Hid (OwnE x3 (C + 1) 39 6 (.slice ax n qx) n (flatE l)) := OwnE.chg OE.out g1 (fun q hq e => by have := (OwnE.lt OE.out q hq).1; omega)
            replace OL : Hid (OwnE x3 zl 39 6 (.slice ay ny qy) ny (flatE ly)) := OwnE.chg OL.out g1 (fun q hq e => by have := (OwnE.lt OL.out q hq).1; omega)
            replace SZ : Hid (C + 1 ≤ x3.heap.size) := Nat.le_trans SZ.out g1.size
            replace ZL : Hid (zl ≤ x3.heap.size) := Nat.le_trans ZL.out g1.size
            clear c1 g1 hy4b
            go_wp2_with fail
            refine (l7DrawCmd_any C _ CU.out).mono ?_
            rintro e x4 ⟨cc, ss, oo, kk, vv, rfl, c1, g1⟩
            replace CU : Hid (Cur x4 C) := c1
            replace BW : Hid (Below w.heap.size w x4) := BW.out.trans (g1.below (fun q _ e => by omega) BW.out.size)
            replace NR : Hid (MBox 26 x4 w.heap.size #[.int .i64 0, .int .i64 0, .slice none 0 0]) := row_chg NR.out g1 (by omega)
            replace NX : Hid (MBox 26 x4 X #[.int .i64 b, .int .i64 bt, .slice ax n qx]) := row_chg NX.out g1 (by omega)
            replace OE : Hid (OwnE x4 (C + 1) 39 6 (.slice ax n qx) n (flatE l)) := OwnE.chg OE.out g1 (fun q hq e => by have := (OwnE.lt OE.out q hq).1; omega)
            replace OL : Hid (OwnE x4 zl 39 6 (.slice ay ny qy) ny (flatE ly)) := OwnE.chg OL.out g1 (fun q hq e => by have := (OwnE.lt OL.out q hq).1; omega)
            replace SZ : Hid (C + 1 ≤ x4.heap.size) := Nat.le_trans SZ.out g1.size
            replace ZL : Hid (zl ≤ x4.heap.size) := Nat.le_trans ZL.out g1.size
            clear c1 g1
            have bn := bel_nw x4 (.cells #[.int .i64 (wrap64 (mx + y4)), .int .i64 cc, .int .i64 ss, .int .i64 oo, .int .i64 kk, .int .i64 vv] 39)
            have HX : Hid ((x4.alloc (.cells #[.int .i64 (wrap64 (mx + y4)), .int .i64 cc, .int .i64 ss, .int .i64 oo, .int .i64 kk, .int .i64 vv] 39)).heap[x4.heap.size]? = some (.cells (flatE [(wrap64 (mx + y4), cc, ss, oo, kk, vv)]).toArray 39 (0, 0))) := heap_alloc_new x4 _
            replace CU : Hid (Cur (x4.alloc (.cells #[.int .i64 (wrap64 (mx + y4)), .int .i64 cc, .int .i64 ss, .int .i64 oo, .int .i64 kk, .int .i64 vv] 39)) C) := Cur.below CU.out bn
            replace BW : Hid (Below w.heap.size w (x4.alloc (.cells #[.int .i64 (wrap64 (mx + y4)), .int .i64 cc, .int .i64 ss, .int .i64 oo, .int .i64 kk, .int .i64 vv] 39))) := Below.and BW.out bn
            replace NR : Hid (MBox 26 (x4.alloc (.cells #[.int .i64 (wrap64 (mx + y4)), .int .i64 cc, .int .i64 ss, .int .i64 oo, .int .i64 kk, .int .i64 vv] 39)) w.heap.size #[.int .i64 0, .int .i64 0, .slice none 0 0]) := NR.out.step bn
            replace NX : Hid (MBox 26 (x4.alloc (.cells #[.int .i64 (wrap64 (mx + y4)), .int .i64 cc, .int .i64 ss, .int .i64 oo, .int .i64 kk, .int .i64 vv] 39)) X #[.int .i64 b, .int .i64 bt, .slice ax n qx]) := NX.out.step bn
            replace OE : Hid (OwnE (x4.alloc (.cells #[.int .i64 (wrap64 (mx + y4)), .int .i64 cc, .int .i64 ss, .int .i64 oo, .int .i64 kk, .int .i64 vv] 39)) (C + 1) 39 6 (.slice ax n qx) n (flatE l)) := OwnE.below OE.out bn
            replace OL : Hid (OwnE (x4.alloc (.cells #[.int .i64 (wrap64 (mx + y4)), .int .i64 cc, .int .i64 ss, .int .i64 oo, .int .i64 kk, .int .i64 vv] 39)) zl 39 6 (.slice ay ny qy) ny (flatE ly)) := OwnE.below OL.out bn
            replace SZ : Hid (C + 1 ≤ (x4.alloc (.cells #[.int .i64 (wrap64 (mx + y4)), .int .i64 cc, .int .i64 ss, .int .i64 oo, .int .i64 kk, .int .i64 vv] 39)).heap.size) := Nat.le_trans SZ.out bn.size
            replace ZL : Hid (zl ≤ (x4.alloc (.cells #[.int .i64 (wrap64 (mx + y4)), .int .i64 cc, .int .i64 ss, .int .i64 oo, .int .i64 kk, .int .i64 vv] 39)).heap.size) := Nat.le_trans ZL.out bn.size
            clear bn
            have RM : Hid _ := room_of (n := ny) (bytes := 48) (by omega) (by decide)
            go_wp2_with (at_builtin; refine list_appE (x4.alloc (.cells #[.int .i64 (wrap64 (mx + y4)), .int .i64 cc, .int .i64 ss, .int .i64 oo, .int .i64 kk, .int .i64 vv] 39)) rfl _ _ 24 rfl zl 39 i0 _ 6 48 Try.underlying24 hi0 hz0 hz1 hz2 rfl (by decide) (.slice ay ny qy) ny (flatE ly) rfl OL.out (.slice (some ⟨x4.heap.size, 0, none⟩) 1 1) 1 (flatE [(wrap64 (mx + y4), cc, ss, oo, kk, vv)]) rfl (Row.of_box HX.out (by decide)) rfl (flatE_one _) RM.out.1 RM.out.2 ZL.out ?_)
            generalize (x4.alloc (.cells #[.int .i64 (wrap64 (mx + y4)), .int .i64 cc, .int .i64 ss, .int .i64 oo, .int .i64 kk, .int .i64 vv] 39)) = U1 at *
            intro v9 x AP
            obtain ⟨ap, cp, bp, _⟩ := AP
            rw [← flatE_append] at ap
            obtain ⟨a9, q9, hv9⟩ := OwnE.slice ap
            subst hv9
            have gez : ∀ g, wrB (.slice ay ny qy) g → zl ≤ g := fun g hg => (OwnE.lt OL.out g hg).1
            have F1 : Hid (Cur x C ∧ Below w.heap.size w x ∧ MBox 26 x w.heap.size #[.int .i64 0, .int .i64 0, .slice none 0 0] ∧ MBox 26 x X #[.int .i64 b, .int .i64 bt, .slice ax n qx] ∧ OwnE x (C + 1) 39 6 (.slice ax n qx) n (flatE l) ∧ C + 1 ≤ x.heap.size ∧ zl ≤ x.heap.size) := ⟨Cur.chg CU.out cp (fun g hg => by have := gez g hg; omega), BW.out.trans (cp.below (fun g _ hg => by have := gez g hg; omega) BW.out.size), row_chg NR.out cp (fun hw => ownE_apart OL.out NR.out (by decide) hw rfl), row_chg NX.out cp (fun hw => ownE_apart OL.out NX.out (by decide) hw rfl), OwnE.chg OE.out cp (fun g hg hq => by have := LWL.out g hg; have := gez g hq; omega), Nat.le_trans SZ.out cp.size, Nat.le_trans ZL.out cp.size⟩
            have O9 : Hid (OwnE x zl 39 6 (.slice a9 (ny + 1) q9) (ny + 1) (flatE (ly ++ [(wrap64 (mx + y4), cc, ss, oo, kk, vv)]))) := ap
            have HL9 : Hid ((ly ++ [(wrap64 (mx + y4), cc, ss, oo, kk, vv)]).length = ny + 1) := by show _ = _; rw [List.length_append, HLY.out]; rfl
            clear ap cp bp gez CU BW NR NX OE OL SZ ZL
            go_wp2_with fail
            go_roundw
            case rel => exact ⟨j + 1, a9, ny + 1, q9, _, by omega, by go_num, rfl, HL9.out, by omega, F1.out.1, F1.out.2.1, F1.out.2.2.1, F1.out.2.2.2.1, F1.out.2.2.2.2.1, O9.out, F1.out.2.2.2.2.2.1, F1.out.2.2.2.2.2.2⟩
            case measure => simp [intOf]; omega
          · have cX := NX.out.cells
            have dR := NR.out.cells
            have yR : ∀ q, x1.frozen? ⟨w.heap.size, q, none⟩ = false := fun q => frozen_of_cells NR.out
            have X5 := lg_all (.int .i64 b) (.int .i64 bt) (.slice ax n qx) NR.out
            have ch2 := lg_all_chg x1 w.heap.size (.int .i64 b) (.int .i64 bt) (.slice ax n qx)
            have FIN : Hid (_ ∧ _ ∧ _ ∧ _) := And.intro X5 (And.intro (OwnE.rowE (OwnE.chg OE.out ch2 (fun g hg => ownE_apart OE.out NR.out (by decide) hg))) (And.intro (OwnE.rowE (OwnE.chg OL.out ch2 (fun g hg => ownE_apart OL.out NR.out (by decide) hg))) (BW.out.trans (ch2.below (fun g _ hg => by omega) BW.out.size))))
            clear X5 ch2 CU BW NR NX OE OL SZ ZL
            go_wp2
            exact bodyPost_ret (v := .tuple #[lgV b bt (.slice ax n qx), .int .i64 i, .int .i64 (y - 1), .slice ay ny qy]) (by simp [results, Try.results14, go_sem, cell_of_cells FIN.out.1]) rfl ⟨b, bt, ax, n, qx, l, i, _, ay, ny, qy, ly, rfl, hb0, hb1, HL.out, hl, HI.out, HLY.out, by omega, FIN.out.2.1, FIN.out.2.2.1, FIN.out.2.2.2⟩
    · have hn30 : n3 = 0 := by omega
      subst hn30
      go_wp2_with fail
      go_loopw [10, 12] (fun lv kv wr => ∃ (j : Nat) (ay : Option Addr) (ny qy : Nat) (ly : EL), j ≤ 3 ∧ kv = .int .i64 j ∧ lv = .slice ay ny qy ∧ Hid (ly.length = ny) ∧ ny ≤ 8 + j ∧ Hid (Cur wr C) ∧ Hid (Below w.heap.size w wr) ∧ Hid (MBox 26 wr w.heap.size #[.int .i64 0, .int .i64 0, .slice none 0 0]) ∧ Hid (MBox 26 wr X #[.int .i64 b, .int .i64 bt, .slice ax n qx]) ∧ Hid (OwnE wr (C + 1) 39 6 (.slice ax n qx) n (flatE l)) ∧ Hid (OwnE wr zl 39 6 (.slice ay ny qy) ny (flatE ly)) ∧ Hid (C + 1 ≤ wr.heap.size) ∧ Hid (zl ≤ wr.heap.size))
        (fun _ kv _ => 3 - (intOf kv).toNat)
      case atStart => exact ⟨0, a3, 0, q3, E, by omega, rfl, rfl, HEL.out, by omega, CU.out, BW.out, NR.out, NX.out, OE.out, OL.out, SZ.out, ZL.out⟩
      case round =>
        clear CU BW NR NX OE OL SZ ZL
        obtain ⟨j, ay, ny, qy, ly, hj3, rfl, rfl, HLY, hny, CU, BW, NR, NX, OE, OL, SZ, ZL⟩ := hrel
        go_wp2_with fail
        refine (l1Below_any C 3 _ CU.out (by decide)).mono ?_
        rintro e x1 ⟨y3, rfl, hy3a, hy3b, _, c1, g1⟩
        have hy3 : y3 < 3 := hy3b (by decide)
        replace CU : Hid (Cur x1 C) := c1
        replace BW : Hid (Below w.heap.size w x1) := BW.out.trans (g1.below (fun q _ e => by omega) BW.out.size)
        replace NR : Hid (MBox 26 x1 w.heap.size #[.int .i64 0, .int .i64 0, .slice none 0 0]) := row_chg NR.out g1 (by omega)
        replace NX : Hid (MBox 26 x1 X #[.int .i64 b, .int .i64 bt, .slice ax n qx]) := row_chg NX.out g1 (by omega)
        replace OE : Hid (OwnE x1 (C + 1) 39 6 (.slice ax n qx) n (flatE l)) := OwnE.chg OE.out g1 (fun q hq e => by have := (OwnE.lt OE.out q hq).1; omega)
        replace OL : Hid (OwnE x1 zl 39 6 (.slice ay ny qy) ny (flatE ly)) := OwnE.chg OL.out g1 (fun q hq e => by have := (OwnE.lt OL.out q hq).1; omega)
        replace SZ : Hid (C + 1 ≤ x1.heap.size) := Nat.le_trans SZ.out g1.size
        replace ZL : Hid (zl ≤ x1.heap.size) := Nat.le_trans ZL.out g1.size
        clear c1 g1 hy3b
        by_cases hjy : (j : Int) < y3
        · go_wp2_with fail
          refine (l1MaxE_any (y - 1) 0 x1).mono ?_
          rintro e x2 ⟨mx, rfl, hwx⟩
          subst hwx
          go_wp2_with fail
          refine (l1Below_any C 3 _ CU.out (by decide)).mono ?_
          rintro e x3 ⟨y4, rfl, hy4a, hy4b, _, c1, g1⟩
          replace CU : Hid (Cur x3 C) := c1
          replace BW : Hid (Below w.heap.size w x3) := BW.out.trans (g1.below (fun q _ e => by omega) BW.out.size)
          replace NR : Hid (MBox 26 x3 w.heap.size #[.int .i64 0, .int .i64 0, .slice none 0 0]) := row_chg NR.out g1 (by omega)
          replace NX : Hid (MBox 26 x3 X #[.int .i64 b, .int .i64 bt, .slice ax n qx]) := row_chg NX.out g1 (by omega)
          replace OE : Hid (OwnE x3 (C + 1) 39 6 (.slice ax n qx) n (flatE l)) := OwnE.chg OE.out g1 (fun q hq e => by have := (OwnE.lt OE.out q hq).1; omega)
          replace OL : Hid (OwnE x3 zl 39 6 (.slice ay ny qy) ny (flatE ly)) := OwnE.chg OL.out g1 (fun q hq e => by have := (OwnE.lt OL.out q hq).1; omega)
          replace SZ : Hid (C + 1 ≤ x3.heap.size) := Nat.le_trans SZ.out g1.size
          replace ZL : Hid (zl ≤ x3.heap.size) := Nat.le_trans ZL.out g1.size
          clear c1 g1 hy4b
          go_wp2_with fail
          refine (l7DrawCmd_any C _ CU.out).mono ?_
          rintro e x4 ⟨cc, ss, oo, kk, vv, rfl, c1, g1⟩
          replace CU : Hid (Cur x4 C) := c1
          replace BW : Hid (Below w.heap.size w x4) := BW.out.trans (g1.below (fun q _ e => by omega) BW.out.size)
          replace NR : Hid (MBox 26 x4 w.heap.size #[.int .i64 0, .int .i64 0, .slice none 0 0]) := row_chg NR.out g1 (by omega)
          replace NX : Hid (MBox 26 x4 X #[.int .i64 b, .int .i64 bt, .slice ax n qx]) := row_chg NX.out g1 (by omega)
          replace OE : Hid (OwnE x4 (C + 1) 39 6 (.slice ax n qx) n (flatE l)) := OwnE.chg OE.out g1 (fun q hq e => by have := (OwnE.lt OE.out q hq).1; omega)
          replace OL : Hid (OwnE x4 zl 39 6 (.slice ay ny qy) ny (flatE ly)) := OwnE.chg OL.out g1 (fun q hq e => by have := (OwnE.lt OL.out q hq).1; omega)
          replace SZ : Hid (C + 1 ≤ x4.heap.size) := Nat.le_trans SZ.out g1.size
          replace ZL : Hid (zl ≤ x4.heap.size) := Nat.le_trans ZL.out g1.size
          clear c1 g1
          have bn := bel_nw x4 (.cells #[.int .i64 (wrap64 (mx + y4)), .int .i64 cc, .int .i64 ss, .int .i64 oo, .int .i64 kk, .int .i64 vv] 39)
          have HX : Hid ((x4.alloc (.cells #[.int .i64 (wrap64 (mx + y4)), .int .i64 cc, .int .i64 ss, .int .i64 oo, .int .i64 kk, .int .i64 vv] 39)).heap[x4.heap.size]? = some (.cells (flatE [(wrap64 (mx + y4), cc, ss, oo, kk, vv)]).toArray 39 (0, 0))) := heap_alloc_new x4 _
          replace CU : Hid (Cur (x4.alloc (.cells #[.int .i64 (wrap64 (mx + y4)), .int .i64 cc, .int .i64 ss, .int .i64 oo, .int .i64 kk, .int .i64 vv] 39)) C) := Cur.below CU.out bn
          replace BW : Hid (Below w.heap.size w (x4.alloc (.cells #[.int .i64 (wrap64 (mx + y4)), .int .i64 cc, .int .i64 ss, .int .i64 oo, .int .i64 kk, .int .i64 vv] 39))) := Below.and BW.out bn
          replace NR : Hid (MBox 26 (x4.alloc (.cells #[.int .i64 (wrap64 (mx + y4)), .int .i64 cc, .int .i64 ss, .int .i64 oo, .int .i64 kk, .int .i64 vv] 39)) w.heap.size #[.int .i64 0, .int .i64 0, .slice none 0 0]) := NR.out.step bn
          replace NX : Hid (MBox 26 (x4.alloc (.cells #[.int .i64 (wrap64 (mx + y4)), .int .i64 cc, .int .i64 ss, .int .i64 oo, .int .i64 kk, .int .i64 vv] 39)) X #[.int .i64 b, .int .i64 bt, .slice ax n qx]) := NX.out.step bn
          replace OE : Hid (OwnE (x4.alloc (.cells #[.int .i64 (wrap64 (mx + y4)), .int .i64 cc, .int .i64 ss, .int .i64 oo, .int .i64 kk, .int .i64 vv] 39)) (C + 1) 39 6 (.slice ax n qx) n (flatE l)) := OwnE.below OE.out bn
          replace OL : Hid (OwnE (x4.alloc (.cells #[.int .i64 (wrap64 (mx + y4)), .int .i64 cc, .int .i64 ss, .int .i64 oo, .int .i64 kk, .int .i64 vv] 39)) zl 39 6 (.slice ay ny qy) ny (flatE ly)) := OwnE.below OL.out bn
          replace SZ : Hid (C + 1 ≤ (x4.alloc (.cells #[.int .i64 (wrap64 (mx + y4)), .int .i64 cc, .int .i64 ss, .int .i64 oo, .int .i64 kk, .int .i64 vv] 39)).heap.size) := Nat.le_trans SZ.out bn.size
          replace ZL : Hid (zl ≤ (x4.alloc (.cells #[.int .i64 (wrap64 (mx + y4)), .int .i64 cc, .int .i64 ss, .int .i64 oo, .int .i64 kk, .int .i64 vv] 39)).heap.size) := Nat.le_trans ZL.out bn.size
          clear bn
          have RM : Hid _ := room_of (n := ny) (bytes := 48) (by omega) (by decide)
          go_wp2_with (at_builtin; refine list_appE (x4.alloc (.cells #[.int .i64 (wrap64 (mx + y4)), .int .i64 cc, .int .i64 ss, .int .i64 oo, .int .i64 kk, .int .i64 vv] 39)) rfl _ _ 24 rfl zl 39 i0 _ 6 48 Try.underlying24 hi0 hz0 hz1 hz2 rfl (by decide) (.slice ay ny qy) ny (flatE ly) rfl OL.out (.slice (some ⟨x4.heap.size, 0, none⟩) 1 1) 1 (flatE [(wrap64 (mx + y4), cc, ss, oo, kk, vv)]) rfl (Row.of_box HX.out (by decide)) rfl (flatE_one _) RM.out.1 RM.out.2 ZL.out ?_)
          generalize (x4.alloc (.cells #[.int .i64 (wrap64 (mx + y4)), .int .i64 cc, .int .i64 ss, .int .i64 oo, .int .i64 kk, .int .i64 vv] 39)) = U1 at *
          intro v9 x AP
          obtain ⟨ap, cp, bp, _⟩ := AP
          rw [← flatE_append] at ap
          obtain ⟨a9, q9, hv9⟩ := OwnE.slice ap
          subst hv9
          have gez : ∀ g, wrB (.slice ay ny qy) g → zl ≤ g := fun g hg => (OwnE.lt OL.out g hg).1
          have F1 : Hid (Cur x C ∧ Below w.heap.size w x ∧ MBox 26 x w.heap.size #[.int .i64 0, .int .i64 0, .slice none 0 0] ∧ MBox 26 x X #[.int .i64 b, .int .i64 bt, .slice ax n qx] ∧ OwnE x (C + 1) 39 6 (.slice ax n qx) n (flatE l) ∧ C + 1 ≤ x.heap.size ∧ zl ≤ x.heap.size) := ⟨Cur.chg CU.out cp (fun g hg => by have := gez g hg; omega), BW.out.trans (cp.below (fun g _ hg => by have := gez g hg; omega) BW.out.size), row_chg NR.out cp (fun hw => ownE_apart OL.out NR.out (by decide) hw rfl), row_chg NX.out cp (fun hw => ownE_apart OL.out NX.out (by decide) hw rfl), OwnE.chg OE.out cp (fun g hg hq => by have := LWL.out g hg; have := gez g hq; omega), Nat.le_trans SZ.out cp.size, Nat.le_trans ZL.out cp.size⟩
          have O9 : Hid (OwnE x zl 39 6 (.slice a9 (ny + 1) q9) (ny + 1) (flatE (ly ++ [(wrap64 (mx + y4), cc, ss, oo, kk, vv)]))) := ap
          have HL9 : Hid ((ly ++ [(wrap64 (mx + y4), cc, ss, oo, kk, vv)]).length = ny + 1) := by show _ = _; rw [List.length_append, HLY.out]; rfl
          clear ap cp bp gez CU BW NR NX OE OL SZ ZL
          go_wp2_with fail
          go_roundw
          case rel => exact ⟨j + 1, a9, ny + 1, q9, _, by omega, by go_num, rfl, HL9.out, by omega, F1.out.1, F1.out.2.1, F1.out.2.2.1, F1.out.2.2.2.1, F1.out.2.2.2.2.1, O9.out, F1.out.2.2.2.2.2.1, F1.out.2.2.2.2.2.2⟩
          case measure => simp [intOf]; omega
        · have cX := NX.out.cells
          have dR := NR.out.cells
          have yR : ∀ q, x1.frozen? ⟨w.heap.size, q, none⟩ = false := fun q => frozen_of_cells NR.out
          have X5 := lg_all (.int .i64 b) (.int .i64 bt) (.slice ax n qx) NR.out
          have ch2 := lg_all_chg x1 w.heap.size (.int .i64 b) (.int .i64 bt) (.slice ax n qx)
          have FIN : Hid (_ ∧ _ ∧ _ ∧ _) := And.intro X5 (And.intro (OwnE.rowE (OwnE.chg OE.out ch2 (fun g hg => ownE_apart OE.out NR.out (by decide) hg))) (And.intro (OwnE.rowE (OwnE.chg OL.out ch2 (fun g hg => ownE_apart OL.out NR.out (by decide) hg))) (BW.out.trans (ch2.below (fun g _ hg => by omega) BW.out.size))))
          clear X5 ch2 CU BW NR NX OE OL SZ ZL
          go_wp2
          exact bodyPost_ret (v := .tuple #[lgV b bt (.slice ax n qx), .int .i64 i, .int .i64 (y - 1), .slice ay ny qy]) (by simp [results, Try.results14, go_sem, cell_of_cells FIN.out.1]) rfl ⟨b, bt, ax, n, qx, l, i, _, ay, ny, qy, ly, rfl, hb0, hb1, HL.out, hl, HI.out, HLY.out, by omega, FIN.out.2.1, FIN.out.2.2.1, FIN.out.2.2.2⟩
  · have cNX := NX.out.cells
    go_wp2_with fail
    clear cNX
    have LWL : Hid (∀ g, wrB (.slice ax n qx) g → g < w5.heap.size) := fun g hg => (OwnE.lt OE.out g hg).2
    have hzl : C + 1 ≤ w5.heap.size := SZ.out
    refine (CE.out _ (OwnE.rowE OE.out)).mono ?_
    rintro e w7 ⟨v7, rfl, o7, b7⟩
    have ZL : Hid (w5.heap.size ≤ w7.heap.size) := b7.size
    obtain ⟨a3, q3, hv3⟩ := OwnE.slice o7
    subst hv3
    generalize hel : E.length = n3 at *
    have HEL : Hid _ := hel
    clear hel
    replace CU : Hid (Cur w7 C) := Cur.below CU.out b7
    replace NR : Hid (MBox 26 w7 w.heap.size #[.int .i64 0, .int .i64 0, .slice none 0 0]) := NR.out.step b7
    replace BW : Hid (Below w.heap.size w w7) := Below.and BW.out b7
    replace SZ : Hid (C + 1 ≤ w7.heap.size) := Nat.le_trans SZ.out b7.size
    replace OE : Hid (OwnE w7 (C + 1) 39 6 (.slice ax n qx) n (flatE l)) := OwnE.below OE.out b7
    replace NX : Hid (MBox 26 w7 X #[.int .i64 b, .int .i64 bt, .slice ax n qx]) := NX.out.step b7
    have OL : Hid (OwnE w7 w5.heap.size 39 6 (.slice a3 n3 q3) n3 (flatE E)) := o7
    clear o7 b7 CE
    generalize w5.heap.size = zl at *
    by_cases hpos : 0 < n3
    · have QR : Hid (Row w7 (.slice a3 n3 q3) n3 (flatE E)) := OwnE.rowE OL.out
      have QS : Hid (0 < n3 → n3 ≤ q3 → q3 ≤ maxLen → ∃ g, a3 = some ⟨g, 0, none⟩ ∧ n3 ≤ q3 ∧ q3 ≤ maxLen) := fun h0 h1 h2 => by
        rcases OL.out with h | ⟨h, _⟩
        · obtain ⟨_, ⟨e1, _⟩ | ⟨g2, cap2, cur, e1, _⟩⟩ := h
          · simp at e1; omega
          · simp at e1; exact ⟨g2, e1.1, h1, h2⟩
        · omega
      go_wp2_with fail
      refine (l1Once_any C 2 _ CU.out (by decide)).mono ?_
      rintro e w8 ⟨on2, rfl, c1, g1⟩
      replace CU : Hid (Cur w8 C) := c1
      replace NR : Hid (MBox 26 w8 w.heap.size #[.int .i64 0, .int .i64 0, .slice none 0 0]) := row_chg NR.out g1 (by omega)
      replace BW : Hid (Below w.heap.size w w8) := BW.out.trans (g1.below (fun q _ e => by omega) BW.out.size)
      replace SZ : Hid (C + 1 ≤ w8.heap.size) := Nat.le_trans SZ.out g1.size
      replace OE : Hid (OwnE w8 (C + 1) 39 6 (.slice ax n qx) n (flatE l)) := OwnE.chg OE.out g1 (fun q hq e => by have := (OwnE.lt OE.out q hq).1; omega)
      replace NX : Hid (MBox 26 w8 X #[.int .i64 b, .int .i64 bt, .slice ax n qx]) := row_chg NX.out g1 (by omega)
      replace OL : Hid (OwnE w8 zl 39 6 (.slice a3 n3 q3) n3 (flatE E)) := OwnE.chg OL.out g1 (fun q hq e => by have := (OwnE.lt OL.out q hq).1; omega)
      replace ZL : Hid (zl ≤ w8.heap.size) := Nat.le_trans ZL.out g1.size
      clear c1 g1
      cases on2
      · go_wp2_with fail
        go_loopw [10, 12] (fun lv kv wr => ∃ (j : Nat) (ay : Option Addr) (ny qy : Nat) (ly : EL), j ≤ 3 ∧ kv = .int .i64 j ∧ lv = .slice ay ny qy ∧ Hid (ly.length = ny) ∧ ny ≤ 8 + j ∧ Hid (Cur wr C) ∧ Hid (Below w.heap.size w wr) ∧ Hid (MBox 26 wr w.heap.size #[.int .i64 0, .int .i64 0, .slice none 0 0]) ∧ Hid (MBox 26 wr X #[.int .i64 b, .int .i64 bt, .slice ax n qx]) ∧ Hid (OwnE wr (C + 1) 39 6 (.slice ax n qx) n (flatE l)) ∧ Hid (OwnE wr zl 39 6 (.slice ay ny qy) ny (flatE ly)) ∧ Hid (C + 1 ≤ wr.heap.size) ∧ Hid (zl ≤ wr.heap.size))
          (fun _ kv _ => 3 - (intOf kv).toNat)
        case atStart => exact ⟨0, a3, n3, q3, E, by omega, rfl, rfl, HEL.out, by omega, CU.out, BW.out, NR.out, NX.out, OE.out, OL.out, SZ.out, ZL.out⟩
        case round =>
          clear CU BW NR NX OE OL SZ ZL
          obtain ⟨j, ay, ny, qy, ly, hj3, rfl, rfl, HLY, hny, CU, BW, NR, NX, OE, OL, SZ, ZL⟩ := hrel
          go_wp2_with fail
          refine (l1Below_any C 3 _ CU.out (by decide)).mono ?_
          rintro e x1 ⟨y3, rfl, hy3a, hy3b, _, c1, g1⟩
          have hy3 : y3 < 3 := hy3b (by decide)
          replace CU : Hid (Cur x1 C) := c1
          replace BW : Hid (Below w.heap.size w x1) := BW.out.trans (g1.below (fun q _ e => by omega) BW.out.size)
          replace NR : Hid (MBox 26 x1 w.heap.size #[.int .i64 0, .int .i64 0, .slice none 0 0]) := row_chg NR.out g1 (by omega)
          replace NX : Hid (MBox 26 x1 X #[.int .i64 b, .int .i64 bt, .slice ax n qx]) := row_chg NX.out g1 (by omega)
          replace OE : Hid (OwnE x1 (C + 1) 39 6 (.slice ax n qx) n (flatE l)) := OwnE.chg OE.out g1 (fun q hq e => by have := (OwnE.lt OE.out q hq).1; omega)
          replace OL : Hid (OwnE x1 zl 39 6 (.slice ay ny qy) ny (flatE ly)) := OwnE.chg OL.out g1 (fun q hq e => by have := (OwnE.lt OL.out q hq).1; omega)
          replace SZ : Hid (C + 1 ≤ x1.heap.size) := Nat.le_trans SZ.out g1.size
          replace ZL : Hid (zl ≤ x1.heap.size) := Nat.le_trans ZL.out g1.size
          clear c1 g1 hy3b
          by_cases hjy : (j : Int) < y3
          · go_wp2_with fail
            refine (l1MaxE_any t 0 x1).mono ?_
            rintro e x2 ⟨mx, rfl, hwx⟩
            subst hwx
            go_wp2_with fail
            refine (l1Below_any C 3 _ CU.out (by decide)).mono ?_
            rintro e x3 ⟨y4, rfl, hy4a, hy4b, _, c1, g1⟩
            replace CU : Hid (Cur x3 C) := c1
            replace BW : Hid (Below w.heap.size w x3) := BW.out.trans (g1.below (fun q _ e => by omega) BW.out.size)
            replace NR : Hid (MBox 26 x3 w.heap.size #[.int .i64 0, .int .i64 0, .slice none 0 0]) := row_chg NR.out g1 (by omega)
            replace NX : Hid (MBox 26 x3 X #[.int .i64 b, .int .i64 bt, .slice ax n qx]) := row_chg NX.out g1 (by omega)
            replace OE : Hid (OwnE x3 (C + 1) 39 6 (.slice ax n qx) n (flatE l)) := OwnE.chg OE.out g1 (fun q hq e => by have := (OwnE.lt OE.out q hq).1; omega)
            replace OL : Hid (OwnE x3 zl 39 6 (.slice ay ny qy) ny (flatE ly)) := OwnE.chg OL.out g1 (fun q hq e => by have := (OwnE.lt OL.out q hq).1; omega)
            replace SZ : Hid (C + 1 ≤ x3.heap.size) := Nat.le_trans SZ.out g1.size
            replace ZL : Hid (zl ≤ x3.heap.size) := Nat.le_trans ZL.out g1.size
            clear c1 g1 hy4b
            go_wp2_with fail
            refine (l7DrawCmd_any C _ CU.out).mono ?_
            rintro e x4 ⟨cc, ss, oo, kk, vv, rfl, c1, g1⟩
            replace CU : Hid (Cur x4 C) := c1
            replace BW : Hid (Below w.heap.size w x4) := BW.out.trans (g1.below (fun q _ e => by omega) BW.out.size)
            replace NR : Hid (MBox 26 x4 w.heap.size #[.int .i64 0, .int .i64 0, .slice none 0 0]) := row_chg NR.out g1 (by omega)
            replace NX : Hid (MBox 26 x4 X #[.int .i64 b, .int .i64 bt, .slice ax n qx]) := row_chg NX.out g1 (by omega)
            replace OE : Hid (OwnE x4 (C + 1) 39 6 (.slice ax n qx) n (flatE l)) := OwnE.chg OE.out g1 (fun q hq e => by have := (OwnE.lt OE.out q hq).1; omega)
            replace OL : Hid (OwnE x4 zl 39 6 (.slice ay ny qy) ny (flatE ly)) := OwnE.chg OL.out g1 (fun q hq e => by have := (OwnE.lt OL.out q hq).1; omega)
            replace SZ : Hid (C + 1 ≤ x4.heap.size) := Nat.le_trans SZ.out g1.size
            replace ZL : Hid (zl ≤ x4.heap.size) := Nat.le_trans ZL.out g1.size
            clear c1 g1
            have bn := bel_nw x4 (.cells #[.int .i64 (wrap64 (mx + y4)), .int .i64 cc, .int .i64 ss, .int .i64 oo, .int .i64 kk, .int .i64 vv] 39)
            have HX : Hid ((x4.alloc (.cells #[.int .i64 (wrap64 (mx + y4)), .int .i64 cc, .int .i64 ss, .int .i64 oo, .int .i64 kk, .int .i64 vv] 39)).heap[x4.heap.size]? = some (.cells (flatE [(wrap64 (mx + y4), cc, ss, oo, kk, vv)]).toArray 39 (0, 0))) := heap_alloc_new x4 _
            replace CU : Hid (Cur (x4.alloc (.cells #[.int .i64 (wrap64 (mx + y4)), .int .i64 cc, .int .i64 ss, .int .i64 oo, .int .i64 kk, .int .i64 vv] 39)) C) := Cur.below CU.out bn
            replace BW : Hid (Below w.heap.size w (x4.alloc (.cells #[.int .i64 (wrap64 (mx + y4)), .int .i64 cc, .int .i64 ss, .int .i64 oo, .int .i64 kk, .int .i64 vv] 39))) := Below.and BW.out bn
            replace NR : Hid (MBox 26 (x4.alloc (.cells #[.int .i64 (wrap64 (mx + y4)), .int .i64 cc, .int .i64 ss, .int .i64 oo, .int .i64 kk, .int .i64 vv] 39)) w.heap.size #[.int .i64 0, .int .i64 0, .slice none 0 0]) := NR.out.step bn
            replace NX : Hid (MBox 26 (x4.alloc (.cells #[.int .i64 (wrap64 (mx + y4)), .int .i64 cc, .int .i64 ss, .int .i64 oo, .int .i64 kk, .int .i64 vv] 39)) X #[.int .i64 b, .int .i64 bt, .slice ax n qx]) := NX.out.step bn
            replace OE : Hid (OwnE (x4.alloc (.cells #[.int .i64 (wrap64 (mx + y4)), .int .i64 cc, .int .i64 ss, .int .i64 oo, .int .i64 kk, .int .i64 vv] 39)) (C + 1) 39 6 (.slice ax n qx) n (flatE l)) := OwnE.below OE.out bn
            replace OL : Hid (OwnE (x4.alloc (.cells #[.int .i64 (wrap64 (mx + y4)), .int .i64 cc, .int .i64 ss, .int .i64 oo, .int .i64 kk, .int .i64 vv] 39)) zl 39 6 (.slice ay ny qy) ny (flatE ly)) := OwnE.below OL.out bn
            replace SZ : Hid (C + 1 ≤ (x4.alloc (.cells #[.int .i64 (wrap64 (mx + y4)), .int .i64 cc, .int .i64 ss, .int .i64 oo, .int .i64 kk, .int .i64 vv] 39)).heap.size) := Nat.le_trans SZ.out bn.size
            replace ZL : Hid (zl ≤ (x4.alloc (.cells #[.int .i64 (wrap64 (mx + y4)), .int .i64 cc, .int .i64 ss, .int .i64 oo, .int .i64 kk, .int .i64 vv] 39)).heap.size) := Nat.le_trans ZL.out bn.size
            clear bn
            have RM : Hid _ := room_of (n := ny) (bytes := 48) (by omega) (by decide)
            go_wp2_with (at_builtin; refine list_appE (x4.alloc (.cells #[.int .i64 (wrap64 (mx + y4)), .int .i64 cc, .int .i64 ss, .int .i64 oo, .int .i64 kk, .int .i64 vv] 39)) rfl _ _ 24 rfl zl 39 i0 _ 6 48 Try.underlying24 hi0 hz0 hz1 hz2 rfl (by decide) (.slice ay ny qy) ny (flatE ly) rfl OL.out (.slice (some ⟨x4.heap.size, 0, none⟩) 1 1) 1 (flatE [(wrap64 (mx + y4), cc, ss, oo, kk, vv)]) rfl (Row.of_box HX.out (by decide)) rfl (flatE_one _) RM.out.1 RM.out.2 ZL.out ?_)
            generalize (x4.alloc (.cells #[.int .i64 (wrap64 (mx + y4)), .int .i64 cc, .int .i64 ss, .int .i64 oo, .int .i64 kk, .int .i64 vv] 39)) = U1 at *
            intro v9 x AP
            obtain ⟨ap, cp, bp, _⟩ := AP
            rw [← flatE_append] at ap
            obtain ⟨a9, q9, hv9⟩ := OwnE.slice ap
            subst hv9
            have gez : ∀ g, wrB (.slice ay ny qy) g → zl ≤ g := fun g hg => (OwnE.lt OL.out g hg).1
            have F1 : Hid (Cur x C ∧ Below w.heap.size w x ∧ MBox 26 x w.heap.size #[.int .i64 0, .int .i64 0, .slice none 0 0] ∧ MBox 26 x X #[.int .i64 b, .int .i64 bt, .slice ax n qx] ∧ OwnE x (C + 1) 39 6 (.slice ax n qx) n (flatE l) ∧ C + 1 ≤ x.heap.size ∧ zl ≤ x.heap.size) := ⟨Cur.chg CU.out cp (fun g hg => by have := gez g hg; omega), BW.out.trans (cp.below (fun g _ hg => by have := gez g hg; omega) BW.out.size), row_chg NR.out cp (fun hw => ownE_apart OL.out NR.out (by decide) hw rfl), row_chg NX.out cp (fun hw => ownE_apart OL.out NX.out (by decide) hw rfl), OwnE.chg OE.out cp (fun g hg hq => by have := LWL.out g hg; have := gez g hq; omega), Nat.le_trans SZ.out cp.size, Nat.le_trans ZL.out cp.size⟩
            have O9 : Hid (OwnE x zl 39 6 (.slice a9 (ny + 1) q9) (ny + 1) (flatE (ly ++ [(wrap64 (mx + y4), cc, ss, oo, kk, vv)]))) := ap
            have HL9 : Hid ((ly ++ [(wrap64 (mx + y4), cc, ss, oo, kk, vv)]).length = ny + 1) := by show _ = _; rw [List.length_append, HLY.out]; rfl
            clear ap cp bp gez CU BW NR NX OE OL SZ ZL
            go_wp2_with fail
            go_roundw
            case rel => exact ⟨j + 1, a9, ny + 1, q9, _, by omega, by go_num, rfl, HL9.out, by omega, F1.out.1, F1.out.2.1, F1.out.2.2.1, F1.out.2.2.2.1, F1.out.2.2.2.2.1, O9.out, F1.out.2.2.2.2.2.1, F1.out.2.2.2.2.2.2⟩
            case measure => simp [intOf]; omega
          · have cX := NX.out.cells
            have dR := NR.out.cells
            have yR : ∀ q, x1.frozen? ⟨w.heap.size, q, none⟩ = false := fun q => frozen_of_cells NR.out
            have X5 := lg_all (.int .i64 b) (.int .i64 bt) (.slice ax n qx) NR.out
            have ch2 := lg_all_chg x1 w.heap.size (.int .i64 b) (.int .i64 bt) (.slice ax n qx)
            have FIN : Hid (_ ∧ _ ∧ _ ∧ _) := And.intro X5 (And.intro (OwnE.rowE (OwnE.chg OE.out ch2 (fun g hg => ownE_apart OE.out NR.out (by decide) hg))) (And.intro (OwnE.rowE (OwnE.chg OL.out ch2 (fun g hg => ownE_apart OL.out NR.out (by decide) hg))) (BW.out.trans (ch2.below (fun g _ hg => by omega) BW.out.size))))
            clear X5 ch2 CU BW NR NX OE OL SZ ZL
            go_wp2
            exact bodyPost_ret (v := .tuple #[lgV b bt (.slice ax n qx), .int .i64 i, .int .i64 t, .slice ay ny qy]) (by simp [results, Try.results14, go_sem, cell_of_cells FIN.out.1]) rfl ⟨b, bt, ax, n, qx, l, i, _, ay, ny, qy, ly, rfl, hb0, hb1, HL.out, hl, HI.out, HLY.out, by omega, FIN.out.2.1, FIN.out.2.2.1, FIN.out.2.2.2⟩
      · go_wp2_with fail
        refine (l1Below_any C (n3 : Int) _ CU.out (by omega)).mono ?_
        rintro e w9 ⟨yk, rfl, hyk0, hyk1, _, c1, g1⟩
        have hyk2 : yk < (n3 : Int) := hyk1 (by omega)
        replace CU : Hid (Cur w9 C) := c1
        replace NR : Hid (MBox 26 w9 w.heap.size #[.int .i64 0, .int .i64 0, .slice none 0 0]) := row_chg NR.out g1 (by omega)
        replace BW : Hid (Below w.heap.size w w9) := BW.out.trans (g1.below (fun q _ e => by omega) BW.out.size)
        replace SZ : Hid (C + 1 ≤ w9.heap.size) := Nat.le_trans SZ.out g1.size
        replace OE : Hid (OwnE w9 (C + 1) 39 6 (.slice ax n qx) n (flatE l)) := OwnE.chg OE.out g1 (fun q hq e => by have := (OwnE.lt OE.out q hq).1; omega)
        replace NX : Hid (MBox 26 w9 X #[.int .i64 b, .int .i64 bt, .slice ax n qx]) := row_chg NX.out g1 (by omega)
        replace OL : Hid (OwnE w9 zl 39 6 (.slice a3 n3 q3) n3 (flatE E)) := OwnE.chg OL.out g1 (fun q hq e => by have := (OwnE.lt OL.out q hq).1; omega)
        replace ZL : Hid (zl ≤ w9.heap.size) := Nat.le_trans ZL.out g1.size
        clear c1 g1 hyk1
        obtain ⟨m3, rfl⟩ := Int.eq_ofNat_of_zero_le hyk0
        have hm3 : m3 ≤ n3 := by omega
        replace OL : Hid (OwnE w9 zl 39 6 (.slice a3 m3 q3) m3 (flatE (E.take m3))) := OwnE.head OL.out HEL.out hm3 hpos
        have hcq := OwnE.rowE OL.out
        have HET : Hid ((E.take m3).length = m3) := by have := HEL.out; show _ = _; rw [List.length_take]; omega
        have HQ : ∃ g, a3 = some ⟨g, 0, none⟩ ∧ n3 ≤ q3 ∧ q3 ≤ maxLen := by
          obtain ⟨aa, bb9, oo9, cc9, h1, h2, h3, h4, -⟩ := QR.out
          simp at h1
          obtain ⟨rfl, rfl⟩ := h1
          exact QS.out hpos h2 h3
        obtain ⟨g3, hg3, hq31, hq32⟩ := HQ
        subst hg3
        unfold maxLen at hq32
        clear hcq QR QS
        have hq30 : ¬ q3 = 0 := by omega
        go_wp2_with fail
        go_loopw [10, 12] (fun lv kv wr => ∃ (j : Nat) (ay : Option Addr) (ny qy : Nat) (ly : EL), j ≤ 3 ∧ kv = .int .i64 j ∧ lv = .slice ay ny qy ∧ Hid (ly.length = ny) ∧ ny ≤ 8 + j ∧ Hid (Cur wr C) ∧ Hid (Below w.heap.size w wr) ∧ Hid (MBox 26 wr w.heap.size #[.int .i64 0, .int .i64 0, .slice none 0 0]) ∧ Hid (MBox 26 wr X #[.int .i64 b, .int .i64 bt, .slice ax n qx]) ∧ Hid (OwnE wr (C + 1) 39 6 (.slice ax n qx) n (flatE l)) ∧ Hid (OwnE wr zl 39 6 (.slice ay ny qy) ny (flatE ly)) ∧ Hid (C + 1 ≤ wr.heap.size) ∧ Hid (zl ≤ wr.heap.size))
          (fun _ kv _ => 3 - (intOf kv).toNat)
        case atStart => exact ⟨0, some ⟨g3, 0, none⟩, m3, q3, (E.take m3), by omega, rfl, rfl, HET.out, by omega, CU.out, BW.out, NR.out, NX.out, OE.out, OL.out, SZ.out, ZL.out⟩
        case round =>
          clear CU BW NR NX OE OL SZ ZL
          obtain ⟨j, ay, ny, qy, ly, hj3, rfl, rfl, HLY, hny, CU, BW, NR, NX, OE, OL, SZ, ZL⟩ := hrel
          go_wp2_with fail
          refine (l1Below_any C 3 _ CU.out (by decide)).mono ?_
          rintro e x1 ⟨y3, rfl, hy3a, hy3b, _, c1, g1⟩
          have hy3 : y3 < 3 := hy3b (by decide)
          replace CU : Hid (Cur x1 C) := c1
          replace BW : Hid (Below w.heap.size w x1) := BW.out.trans (g1.below (fun q _ e => by omega) BW.out.size)
          replace NR : Hid (MBox 26 x1 w.heap.size #[.int .i64 0, .int .i64 0, .slice none 0 0]) := row_chg NR.out g1 (by omega)
          replace NX : Hid (MBox 26 x1 X #[.int .i64 b, .int .i64 bt, .slice ax n qx]) := row_chg NX.out g1 (by omega)
          replace OE : Hid (OwnE x1 (C + 1) 39 6 (.slice ax n qx) n (flatE l)) := OwnE.chg OE.out g1 (fun q hq e => by have := (OwnE.lt OE.out q hq).1; omega)
          replace OL : Hid (OwnE x1 zl 39 6 (.slice ay ny qy) ny (flatE ly)) := OwnE.chg OL.out g1 (fun q hq e => by have := (OwnE.lt OL.out q hq).1; omega)
          replace SZ : Hid (C + 1 ≤ x1.heap.size) := Nat.le_trans SZ.out g1.size
          replace ZL : Hid (zl ≤ x1.heap.size) := Nat.le_trans ZL.out g1.size
          clear c1 g1 hy3b
          by_cases hjy : (j : Int) < y3
          · go_wp2_with fail
            refine (l1MaxE_any t 0 x1).mono ?_
            rintro e x2 ⟨mx, rfl, hwx⟩
            subst hwx
            go_wp2_with fail
            refine (l1Below_any C 3 _ CU.out (by decide)).mono ?_
            rintro e x3 ⟨y4, rfl, hy4a, hy4b, _, c1, g1⟩
            replace CU : Hid (Cur x3 C) := c1
            replace BW : Hid (Below w.heap.size w x3) := BW.out.trans (g1.below (fun q _ e => by omega) BW.out.size)
            replace NR : Hid (MBox 26 x3 w.heap.size #[.int .i64 0, .int .i64 0, .slice none 0 0]) := row_chg NR.out g1 (by omega)
            replace NX : Hid (MBox 26 x3 X #[.int .i64 b, .int .i64 bt, .slice ax n qx]) := row_chg NX.out g1 (by omega)
            replace OE : Hid (OwnE x3 (C + 1) 39 6 (.slice ax n qx) n (flatE l)) := OwnE.chg OE.out g1 (fun q hq e => by have := (OwnE.lt OE.out q hq).1; omega)
            replace OL : Hid (OwnE x3 zl 39 6 (.slice ay ny qy) ny (flatE ly)) := OwnE.chg OL.out g1 (fun q hq e => by have := (OwnE.lt OL.out q hq).1; omega)
            replace SZ : Hid (C + 1 ≤ x3.heap.size) := Nat.le_trans SZ.out g1.size
            replace ZL : Hid (zl ≤ x3.heap.size) := Nat.le_trans ZL.out g1.size
            clear c1 g1 hy4b
            go_wp2_with fail
            refine (l7DrawCmd_any C _ CU.out).mono ?_
            rintro e x4 ⟨cc, ss, oo, kk, vv, rfl, c1, g1⟩
            replace CU : Hid (Cur x4 C) := c1
            replace BW : Hid (Below w.heap.size w x4) := BW.out.trans (g1.below (fun q _ e => by omega) BW.out.size)
            replace NR : Hid (MBox 26 x4 w.heap.size #[.int .i64 0, .int .i64 0, .slice none 0 0]) := row_chg NR.out g1 (by omega)
            replace NX : Hid (MBox 26 x4 X #[.int .i64 b, .int .i64 bt, .slice ax n qx]) := row_chg NX.out g1 (by omega)
            replace OE : Hid (OwnE x4 (C + 1) 39 6 (.slice ax n qx) n (flatE l)) := OwnE.chg OE.out g1 (fun q hq e => by have := (OwnE.lt OE.out q hq).1; omega)
            replace OL : Hid (OwnE x4 zl 39 6 (.slice ay ny qy) ny (flatE ly)) := OwnE.chg OL.out g1 (fun q hq e => by have := (OwnE.lt OL.out q hq).1; omega)
            replace SZ : Hid (C + 1 ≤ x4.heap.size) := Nat.le_trans SZ.out g1.size
            replace ZL : Hid (zl ≤ x4.heap.size) := Nat.le_trans ZL.out g1.size
            clear c1 g1
            have bn := bel_nw x4 (.cells #[.int .i64 (wrap64 (mx + y4)), .int .i64 cc, .int .i64 ss, .int .i64 oo, .int .i64 kk, .int .i64 vv] 39)
            have HX : Hid ((x4.alloc (.cells #[.int .i64 (wrap64 (mx + y4)), .int .i64 cc, .int .i64 ss, .int .i64 oo, .int .i64 kk, .int .i64 vv] 39)).heap[x4.heap.size]? = some (.cells (flatE [(wrap64 (mx + y4), cc, ss, oo, kk, vv)]).toArray 39 (0, 0))) := heap_alloc_new x4 _
            replace CU : Hid (Cur (x4.alloc (.cells #[.int .i64 (wrap64 (mx + y4)), .int .i64 cc, .int .i64 ss, .int .i64 oo, .int .i64 kk, .int .i64 vv] 39)) C) := Cur.below CU.out bn
            replace BW : Hid (Below w.heap.size w (x4.alloc (.cells #[.int .i64 (wrap64 (mx + y4)), .int .i64 cc, .int .i64 ss, .int .i64 oo, .int .i64 kk, .int .i64 vv] 39))) := Below.and BW.out bn
            replace NR : Hid (MBox 26 (x4.alloc (.cells #[.int .i64 (wrap64 (mx + y4)), .int .i64 cc, .int .i64 ss, .int .i64 oo, .int .i64 kk, .int .i64 vv] 39)) w.heap.size #[.int .i64 0, .int .i64 0, .slice none 0 0]) := NR.out.step bn
            replace NX : Hid (MBox 26 (x4.alloc (.cells #[.int .i64 (wrap64 (mx + y4)), .int .i64 cc, .int .i64 ss, .int .i64 oo, .int .i64 kk, .int .i64 vv] 39)) X #[.int .i64 b, .int .i64 bt, .slice ax n qx]) := NX.out.step bn
            replace OE : Hid (OwnE (x4.alloc (.cells #[.int .i64 (wrap64 (mx + y4)), .int .i64 cc, .int .i64 ss, .int .i64 oo, .int .i64 kk, .int .i64 vv] 39)) (C + 1) 39 6 (.slice ax n qx) n (flatE l)) := OwnE.below OE.out bn
            replace OL : Hid (OwnE (x4.alloc (.cells #[.int .i64 (wrap64 (mx + y4)), .int .i64 cc, .int .i64 ss, .int .i64 oo, .int .i64 kk, .int .i64 vv] 39)) zl 39 6 (.slice ay ny qy) ny (flatE ly)) := OwnE.below OL.out bn
            replace SZ : Hid (C + 1 ≤ (x4.alloc (.cells #[.int .i64 (wrap64 (mx + y4)), .int .i64 cc, .int .i64 ss, .int .i64 oo, .int .i64 kk, .int .i64 vv] 39)).heap.size) := Nat.le_trans SZ.out bn.size
            replace ZL : Hid (zl ≤ (x4.alloc (.cells #[.int .i64 (wrap64 (mx + y4)), .int .i64 cc, .int .i64 ss, .int .i64 oo, .int .i64 kk, .int .i64 vv] 39)).heap.size) := Nat.le_trans ZL.out bn.size
            clear bn
            have RM : Hid _ := room_of (n := ny) (bytes := 48) (by omega) (by decide)
            go_wp2_with (at_builtin; refine list_appE (x4.alloc (.cells #[.int .i64 (wrap64 (mx + y4)), .int .i64 cc, .int .i64 ss, .int .i64 oo, .int .i64 kk, .int .i64 vv] 39)) rfl _ _ 24 rfl zl 39 i0 _ 6 48 Try.underlying24 hi0 hz0 hz1 hz2 rfl (by decide) (.slice ay ny qy) ny (flatE ly) rfl OL.out (.slice (some ⟨x4.heap.size, 0, none⟩) 1 1) 1 (flatE [(wrap64 (mx + y4), cc, ss, oo, kk, vv)]) rfl (Row.of_box HX.out (by decide)) rfl (flatE_one _) RM.out.1 RM.out.2 ZL.out ?_)
            generalize (x4.alloc (.cells #[.int .i64 (wrap64 (mx + y4)), .int .i64 cc, .int .i64 ss, .int .i64 oo, .int .i64 kk, .int .i64 vv] 39)) = U1 at *
            intro v9 x AP
            obtain ⟨ap, cp, bp, _⟩ := AP
            rw [← flatE_append] at ap
            obtain ⟨a9, q9, hv9⟩ := OwnE.slice ap
            subst hv9
            have gez : ∀ g, wrB (.slice ay ny qy) g → zl ≤ g := fun g hg => (OwnE.lt OL.out g hg).1
            have F1 : Hid (Cur x C ∧ Below w.heap.size w x ∧ MBox 26 x w.heap.size #[.int .i64 0, .int .i64 0, .slice none 0 0] ∧ MBox 26 x X #[.int .i64 b, .int .i64 bt, .slice ax n qx] ∧ OwnE x (C + 1) 39 6 (.slice ax n qx) n (flatE l) ∧ C + 1 ≤ x.heap.size ∧ zl ≤ x.heap.size) := ⟨Cur.chg CU.out cp (fun g hg => by have := gez g hg; omega), BW.out.trans (cp.below (fun g _ hg => by have := gez g hg; omega) BW.out.size), row_chg NR.out cp (fun hw => ownE_apart OL.out NR.out (by decide) hw rfl), row_chg NX.out cp (fun hw => ownE_apart OL.out NX.out (by decide) hw rfl), OwnE.chg OE.out cp (fun g hg hq => by have := LWL.out g hg; have := gez g hq; omega), Nat.le_trans SZ.out cp.size, Nat.le_trans ZL.out cp.size⟩
            have O9 : Hid (OwnE x zl 39 6 (.slice a9 (ny + 1) q9) (ny + 1) (flatE (ly ++ [(wrap64 (mx + y4), cc, ss, oo, kk, vv)]))) := ap
            have HL9 : Hid ((ly ++ [(wrap64 (mx + y4), cc, ss, oo, kk, vv)]).length = ny + 1) := by show _ = _; rw [List.length_append, HLY.out]; rfl
            clear ap cp bp gez CU BW NR NX OE OL SZ ZL
            go_wp2_with fail
            go_roundw
            case rel => exact ⟨j + 1, a9, ny + 1, q9, _, by omega, by go_num, rfl, HL9.out, by omega, F1.out.1, F1.out.2.1, F1.out.2.2.1, F1.out.2.2.2.1, F1.out.2.2.2.2.1, O9.out, F1.out.2.2.2.2.2.1, F1.out.2.2.2.2.2.2⟩
            case measure => simp [intOf]; omega
          · have cX := NX.out.cells
            have dR := NR.out.cells
            have yR : ∀ q, x1.frozen? ⟨w.heap.size, q, none⟩ = false := fun q => frozen_of_cells NR.out
            have X5 := lg_all (.int .i64 b) (.int .i64 bt) (.slice ax n qx) NR.out
            have ch2 := lg_all_chg x1 w.heap.size (.int .i64 b) (.int .i64 bt) (.slice ax n qx)
            have FIN : Hid (_ ∧ _ ∧ _ ∧ _) := And.intro X5 (And.intro (OwnE.rowE (OwnE.chg OE.out ch2 (fun g hg => ownE_apart OE.out NR.out (by decide) hg))) (And.intro (OwnE.rowE (OwnE.chg OL.out ch2 (fun g hg => ownE_apart OL.out NR.out (by decide) hg))) (BW.out.trans (ch2.below (fun g _ hg => by omega) BW.out.size))))
            clear X5 ch2 CU BW NR NX OE OL SZ ZL
            go_wp2
            exact bodyPost_ret (v := .tuple #[lgV b bt (.slice ax n qx), .int .i64 i, .int .i64 t, .slice ay ny qy]) (by simp [results, Try.results14, go_sem, cell_of_cells FIN.out.1]) rfl ⟨b, bt, ax, n, qx, l, i, _, ay, ny, qy, ly, rfl, hb0, hb1, HL.out, hl, HI.out, HLY.out, by omega, FIN.out.2.1, FIN.out.2.2.1, FIN.out.2.2.2⟩
    · have hn30 : n3 = 0 := by omega
      subst hn30
      go_wp2_with fail
      go_loopw [10, 12] (fun lv kv wr => ∃ (j : Nat) (ay : Option Addr) (ny qy : Nat) (ly : EL), j ≤ 3 ∧ kv = .int .i64 j ∧ lv = .slice ay ny qy ∧ Hid (ly.length = ny) ∧ ny ≤ 8 + j ∧ Hid (Cur wr C) ∧ Hid (Below w.heap.size w wr) ∧ Hid (MBox 26 wr w.heap.size #[.int .i64 0, .int .i64 0, .slice none 0 0]) ∧ Hid (MBox 26 wr X #[.int .i64 b, .int .i64 bt, .slice ax n qx]) ∧ Hid (OwnE wr (C + 1) 39 6 (.slice ax n qx) n (flatE l)) ∧ Hid (OwnE wr zl 39 6 (.slice ay ny qy) ny (flatE ly)) ∧ Hid (C + 1 ≤ wr.heap.size) ∧ Hid (zl ≤ wr.heap.size))
        (fun _ kv _ => 3 - (intOf kv).toNat)
      case atStart => exact ⟨0, a3, 0, q3, E, by omega, rfl, rfl, HEL.out, by omega, CU.out, BW.out, NR.out, NX.out, OE.out, OL.out, SZ.out, ZL.out⟩
      case round =>
        clear CU BW NR NX OE OL SZ ZL
        obtain ⟨j, ay, ny, qy, ly, hj3, rfl, rfl, HLY, hny, CU, BW, NR, NX, OE, OL, SZ, ZL⟩ := hrel
        go_wp2_with fail
        refine (l1Below_any C 3 _ CU.out (by decide)).mono ?_
        rintro e x1 ⟨y3, rfl, hy3a, hy3b, _, c1, g1⟩
        have hy3 : y3 < 3 := hy3b (by decide)
        replace CU : Hid (Cur x1 C) := c1
        replace BW : Hid (Below w.heap.size w x1) := BW.out.trans (g1.below (fun q _ e => by omega) BW.out.size)
        replace NR : Hid (MBox 26 x1 w.heap.size #[.int .i64 0, .int .i64 0, .slice none 0 0]) := row_chg NR.out g1 (by omega)
        replace NX : Hid (MBox 26 x1 X #[.int .i64 b, .int .i64 bt, .slice ax n qx]) := row_chg NX.out g1 (by omega)
        replace OE : Hid (OwnE x1 (C + 1) 39 6 (.slice ax n qx) n (flatE l)) := OwnE.chg OE.out g1 (fun q hq e => by have := (OwnE.lt OE.out q hq).1; omega)
        replace OL : Hid (OwnE x1 zl 39 6 (.slice ay ny qy) ny (flatE ly)) := OwnE.chg OL.out g1 (fun q hq e => by have := (OwnE.lt OL.out q hq).1; omega)
        replace SZ : Hid (C + 1 ≤ x1.heap.size) := Nat.le_trans SZ.out g1.size
        replace ZL : Hid (zl ≤ x1.heap.size) := Nat.le_trans ZL.out g1.size
        clear c1 g1 hy3b
        by_cases hjy : (j : Int) < y3
        · go_wp2_with fail
          refine (l1MaxE_any t 0 x1).mono ?_
          rintro e x2 ⟨mx, rfl, hwx⟩
          subst hwx
          go_wp2_with fail
          refine (l1Below_any C 3 _ CU.out (by decide)).mono ?_
          rintro e x3 ⟨y4, rfl, hy4a, hy4b, _, c1, g1⟩
          replace CU : Hid (Cur x3 C) := c1
          replace BW : Hid (Below w.heap.size w x3) := BW.out.trans (g1.below (fun q _ e => by omega) BW.out.size)
          replace NR : Hid (MBox 26 x3 w.heap.size #[.int .i64 0, .int .i64 0, .slice none 0 0]) := row_chg NR.out g1 (by omega)
          replace NX : Hid (MBox 26 x3 X #[.int .i64 b, .int .i64 bt, .slice ax n qx]) := row_chg NX.out g1 (by omega)
          replace OE : Hid (OwnE x3 (C + 1) 39 6 (.slice ax n qx) n (flatE l)) := OwnE.chg OE.out g1 (fun q hq e => by have := (OwnE.lt OE.out q hq).1; omega)
          replace OL : Hid (OwnE x3 zl 39 6 (.slice ay ny qy) ny (flatE ly)) := OwnE.chg OL.out g1 (fun q hq e => by have := (OwnE.lt OL.out q hq).1; omega)
          replace SZ : Hid (C + 1 ≤ x3.heap.size) := Nat.le_trans SZ.out g1.size
          replace ZL : Hid (zl ≤ x3.heap.size) := Nat.le_trans ZL.out g1.size
          clear c1 g1 hy4b
          go_wp2_with fail
          refine (l7DrawCmd_any C _ CU.out).mono ?_
          rintro e x4 ⟨cc, ss, oo, kk, vv, rfl, c1, g1⟩
          replace CU : Hid (Cur x4 C) := c1
          replace BW : Hid (Below w.heap.size w x4) := BW.out.trans (g1.below (fun q _ e => by omega) BW.out.size)
          replace NR : Hid (MBox 26 x4 w.heap.size #[.int .i64 0, .int .i64 0, .slice none 0 0]) := row_chg NR.out g1 (by omega)
          replace NX : Hid (MBox 26 x4 X #[.int .i64 b, .int .i64 bt, .slice ax n qx]) := row_chg NX.out g1 (by omega)
          replace OE : Hid (OwnE x4 (C + 1) 39 6 (.slice ax n qx) n (flatE l)) := OwnE.chg OE.out g1 (fun q hq e => by have := (OwnE.lt OE.out q hq).1; omega)
          replace OL : Hid (OwnE x4 zl 39 6 (.slice ay ny qy) ny (flatE ly)) := OwnE.chg OL.out g1 (fun q hq e => by have := (OwnE.lt OL.out q hq).1; omega)
          replace SZ : Hid (C + 1 ≤ x4.heap.size) := Nat.le_trans SZ.out g1.size
          replace ZL : Hid (zl ≤ x4.heap.size) := Nat.le_trans ZL.out g1.size
          clear c1 g1
          have bn := bel_nw x4 (.cells #[.int .i64 (wrap64 (mx + y4)), .int .i64 cc, .int .i64 ss, .int .i64 oo, .int .i64 kk, .int .i64 vv] 39)
          have HX : Hid ((x4.alloc (.cells #[.int .i64 (wrap64 (mx + y4)), .int .i64 cc, .int .i64 ss, .int .i64 oo, .int .i64 kk, .int .i64 vv] 39)).heap[x4.heap.size]? = some (.cells (flatE [(wrap64 (mx + y4), cc, ss, oo, kk, vv)]).toArray 39 (0, 0))) := heap_alloc_new x4 _
          replace CU : Hid (Cur (x4.alloc (.cells #[.int .i64 (wrap64 (mx + y4)), .int .i64 cc, .int .i64 ss, .int .i64 oo, .int .i64 kk, .int .i64 vv] 39)) C) := Cur.below CU.out bn
          replace BW : Hid (Below w.heap.size w (x4.alloc (.cells #[.int .i64 (wrap64 (mx + y4)), .int .i64 cc, .int .i64 ss, .int .i64 oo, .int .i64 kk, .int .i64 vv] 39))) := Below.and BW.out bn
          replace NR : Hid (MBox 26 (x4.alloc (.cells #[.int .i64 (wrap64 (mx + y4)), .int .i64 cc, .int .i64 ss, .int .i64 oo, .int .i64 kk, .int .i64 vv] 39)) w.heap.size #[.int .i64 0, .int .i64 0, .slice none 0 0]) := NR.out.step bn
          replace NX : Hid (MBox 26 (x4.alloc (.cells #[.int .i64 (wrap64 (mx + y4)), .int .i64 cc, .int .i64 ss, .int .i64 oo, .int .i64 kk, .int .i64 vv] 39)) X #[.int .i64 b, .int .i64 bt, .slice ax n qx]) := NX.out.step bn
          replace OE : Hid (OwnE (x4.alloc (.cells #[.int .i64 (wrap64 (mx + y4)), .int .i64 cc, .int .i64 ss, .int .i64 oo, .int .i64 kk, .int .i64 vv] 39)) (C + 1) 39 6 (.slice ax n qx) n (flatE l)) := OwnE.below OE.out bn
          replace OL : Hid (OwnE (x4.alloc (.cells #[.int .i64 (wrap64 (mx + y4)), .int .i64 cc, .int .i64 ss, .int .i64 oo, .int .i64 kk, .int .i64 vv] 39)) zl 39 6 (.slice ay ny qy) ny (flatE ly)) := OwnE.below OL.out bn
          replace SZ : Hid (C + 1 ≤ (x4.alloc (.cells #[.int .i64 (wrap64 (mx + y4)), .int .i64 cc, .int .i64 ss, .int .i64 oo, .int .i64 kk, .int .i64 vv] 39)).heap.size) := Nat.le_trans SZ.out bn.size
          replace ZL : Hid (zl ≤ (x4.alloc (.cells #[.int .i64 (wrap64 (mx + y4)), .int .i64 cc, .int .i64 ss, .int .i64 oo, .int .i64 kk, .int .i64 vv] 39)).heap.size) := Nat.le_trans ZL.out bn.size
          clear bn
          have RM : Hid _ := room_of (n := ny) (bytes := 48) (by omega) (by decide)
          go_wp2_with (at_builtin; refine list_appE (x4.alloc (.cells #[.int .i64 (wrap64 (mx + y4)), .int .i64 cc, .int .i64 ss, .int .i64 oo, .int .i64 kk, .int .i64 vv] 39)) rfl _ _ 24 rfl zl 39 i0 _ 6 48 Try.underlying24 hi0 hz0 hz1 hz2 rfl (by decide) (.slice ay ny qy) ny (flatE ly) rfl OL.out (.slice (some ⟨x4.heap.size, 0, none⟩) 1 1) 1 (flatE [(wrap64 (mx + y4), cc, ss, oo, kk, vv)]) rfl (Row.of_box HX.out (by decide)) rfl (flatE_one _) RM.out.1 RM.out.2 ZL.out ?_)
          generalize (x4.alloc (.cells #[.int .i64 (wrap64 (mx + y4)), .int .i64 cc, .int .i64 ss, .int .i64 oo, .int .i64 kk, .int .i64 vv] 39)) = U1 at *
          intro v9 x AP
          obtain ⟨ap, cp, bp, _⟩ := AP
          rw [← flatE_append] at ap
          obtain ⟨a9, q9, hv9⟩ := OwnE.slice ap
          subst hv9
          have gez : ∀ g, wrB (.slice ay ny qy) g → zl ≤ g := fun g hg => (OwnE.lt OL.out g hg).1
          have F1 : Hid (Cur x C ∧ Below w.heap.size w x ∧ MBox 26 x w.heap.size #[.int .i64 0, .int .i64 0, .slice none 0 0] ∧ MBox 26 x X #[.int .i64 b, .int .i64 bt, .slice ax n qx] ∧ OwnE x (C + 1) 39 6 (.slice ax n qx) n (flatE l) ∧ C + 1 ≤ x.heap.size ∧ zl ≤ x.heap.size) := ⟨Cur.chg CU.out cp (fun g hg => by have := gez g hg; omega), BW.out.trans (cp.below (fun g _ hg => by have := gez g hg; omega) BW.out.size), row_chg NR.out cp (fun hw => ownE_apart OL.out NR.out (by decide) hw rfl), row_chg NX.out cp (fun hw => ownE_apart OL.out NX.out (by decide) hw rfl), OwnE.chg OE.out cp (fun g hg hq => by have := LWL.out g hg; have := gez g hq; omega), Nat.le_trans SZ.out cp.size, Nat.le_trans ZL.out cp.size⟩
          have O9 : Hid (OwnE x zl 39 6 (.slice a9 (ny + 1) q9) (ny + 1) (flatE (ly ++ [(wrap64 (mx + y4), cc, ss, oo, kk, vv)]))) := ap
          have HL9 : Hid ((ly ++ [(wrap64 (mx + y4), cc, ss, oo, kk, vv)]).length = ny + 1) := by show _ = _; rw [List.length_append, HLY.out]; rfl
          clear ap cp bp gez CU BW NR NX OE OL SZ ZL
          go_wp2_with fail
          go_roundw
          case rel => exact ⟨j + 1, a9, ny + 1, q9, _, by omega, by go_num, rfl, HL9.out, by omega, F1.out.1, F1.out.2.1, F1.out.2.2.1, F1.out.2.2.2.1, F1.out.2.2.2.2.1, O9.out, F1.out.2.2.2.2.2.1, F1.out.2.2.2.2.2.2⟩
          case measure => simp [intOf]; omega
        · have cX := NX.out.cells
          have dR := NR.out.cells
          have yR : ∀ q, x1.frozen? ⟨w.heap.size, q, none⟩ = false := fun q => frozen_of_cells NR.out
          have X5 := lg_all (.int .i64 b) (.int .i64 bt) (.slice ax n qx) NR.out
          have ch2 := lg_all_chg x1 w.heap.size (.int .i64 b) (.int .i64 bt) (.slice ax n qx)
          have FIN : Hid (_ ∧ _ ∧ _ ∧ _) := And.intro X5 (And.intro (OwnE.rowE (OwnE.chg OE.out ch2 (fun g hg => ownE_apart OE.out NR.out (by decide) hg))) (And.intro (OwnE.rowE (OwnE.chg OL.out ch2 (fun g hg => ownE_apart OL.out NR.out (by decide) hg))) (BW.out.trans (ch2.below (fun g _ hg => by omega) BW.out.size))))
          clear X5 ch2 CU BW NR NX OE OL SZ ZL
          go_wp2
          exact bodyPost_ret (v := .tuple #[lgV b bt (.slice ax n qx), .int .i64 i, .int .i64 t, .slice ay ny qy]) (by simp [results, Try.results14, go_sem, cell_of_cells FIN.out.1]) rfl ⟨b, bt, ax, n, qx, l, i, _, ay, ny, qy, ly, rfl, hb0, hb1, HL.out, hl, HI.out, HLY.out, by omega, FIN.out.2.1, FIN.out.2.2.1, FIN.out.2.2.2⟩

end Go.Proofs.Yteegcblndbljlaa
